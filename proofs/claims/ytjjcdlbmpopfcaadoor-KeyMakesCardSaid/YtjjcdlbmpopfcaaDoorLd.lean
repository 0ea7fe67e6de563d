/-
  The walk of the statement KeyMakes. Condition: the tables of sha stand in memory.
-/
import Derived.Test.YtjjcdlbmpopfcaaDoorLc
namespace Go.Proofs.YtjjcdlbmpopfcaaDoor.Sh
open Go.RowKit Go.Lib

set_option maxHeartbeats 4000000 in
set_option maxRecDepth 100000 in
theorem makes_law (kind : Int) (ao : Option Addr) (l : List UInt8) (c : Nat) (k : ByteArray) (w : World) (hl : Lay w) (h : Byt w ao l) (hn : ao = none → c = 0) (hc : l.length ≤ c) (hk : k.size ≤ 9223372036854775807) :
    Calls Tryd.prog 4 #[.int .i64 kind, .slice ao l.length c, .string k] w fun e w' => e = .returned (.bool true) ∧ Below w.heap.size w w' := by
  have H := Lib.hid h
  have LY := Lib.hid hl
  have HN := Lib.hid hn
  obtain ⟨n, hln⟩ : ∃ n, n = l.length := ⟨_, rfl⟩
  have HL : Hid (l.length = n) := hln.symm
  rw [← hln] at hc ⊢
  clear h hl hn hln
  by_cases h1 : 3000 < n
  · have C := Lib.hid (heads_any w LY.out)
    have t1 : decide ((3000 : Int) < (n : Int)) = true := by simp; omega
    go_enter Tryd.func4, Tryd.ntmps4
    go_wp2_with fail
    refine C.out.mono ?_
    rintro e w1 ⟨rfl, hb⟩
    have HB := Lib.hid hb
    go_wp2_with fail
    go_ret
    exact ⟨rfl, HB.out⟩
  · have t1 : decide ((3000 : Int) < (n : Int)) = false := by simp; omega
    have hn3 : n ≤ 3000 := by omega
    have C10 := Lib.hid (fun W => bytes_any k W hk)
    have C11 := Lib.hid (fun W => refbytes_any k W hk)
    have C12 := Lib.hid (fun W (hB : Below w.heap.size w W) => from_any ao l n c W (H.out.below hB) HL.out hc)
    have C13 := Lib.hid (fun W (hB : Below w.heap.size w W) => reffrom_any ao l n c W (H.out.below hB) HL.out hc)
    have C9 := Lib.hid (fun W (hB : Below w.heap.size w W) => of_any kind ao l n c W (LY.out.below hB) (H.out.below hB) HN.out HL.out (by omega))
    have C14 := Lib.hid (fun W (hB : Below w.heap.size w W) => refof_any kind ao l n c W (H.out.below hB) HN.out HL.out (by omega))
    have C15 := Lib.hid (fun W => check_key k W hk)
    have C16 := Lib.hid (fun W => refcheck_key k W hk)
    generalize keyS kind l = K at *
    generalize fromS l = F at *
    generalize fromE l = G at *
    generalize (keyBytes k.data.toList).isSome = b at *
    clear h1
    go_enter Tryd.func4, Tryd.ntmps4
    go_wp2_with fail
    refine (C10.out w).mono ?_
    rintro e w1 ⟨b1, v1, rfl, o1⟩
    obtain ⟨a1, c1, rfl, _, _, hy1, hn1⟩ := own_byt o1
    have B1 := Lib.hid b1
    have Y1 := Lib.hid hy1
    have N1 := Lib.hid hn1
    clear b1 o1 hy1 hn1
    have C11' := Lib.hid (C11.out w1)
    unfold AnsB at C11'
    generalize bytesE k = BE at *
    obtain ⟨m, hm⟩ : ∃ m, m = (bytesL k).length := ⟨_, rfl⟩
    rw [← hm]
    have HM := Lib.hid hm
    clear hm
    go_wp2_with fail
    refine C11'.out.mono ?_
    rintro e w2 ⟨b2, v2, rfl, o2⟩
    obtain ⟨a2, c2, rfl, _, _, hy2, hn2⟩ := own_byt o2
    rw [← HM.out]
    have B2 := Lib.hid (below_chain B1.out b2)
    have Y1' := Lib.hid (Y1.out.below b2)
    have Y2 := Lib.hid hy2
    have N2 := Lib.hid hn2
    clear b2 o2 hy2 hn2 Y1 C11'
    go_wp2_with fail
    refine (C12.out w2 B2.out).mono ?_
    rintro e w3 ⟨rfl, b3⟩
    have B3 := Lib.hid (below_chain B2.out b3)
    have Z1 := Lib.hid (Y1'.out.below b3)
    have Z2 := Lib.hid (Y2.out.below b3)
    clear b3 Y1' Y2
    go_wp2_with fail
    refine (C13.out w3 B3.out).mono ?_
    rintro e w4 ⟨rfl, b4⟩
    have B4 := Lib.hid (below_chain B3.out b4)
    have X1 := Lib.hid (Z1.out.below b4)
    have X2 := Lib.hid (Z2.out.below b4)
    clear b4 Z1 Z2
    go_wp2_with fail
    refine (C9.out w4 B4.out).mono ?_
    rintro e w5 ⟨rfl, b5⟩
    have B5 := Lib.hid (below_chain B4.out b5)
    have V1 := Lib.hid (X1.out.below b5)
    have V2 := Lib.hid (X2.out.below b5)
    clear b5 X1 X2
    go_wp2_with fail
    refine (C14.out w5 B5.out).mono ?_
    rintro e w6 ⟨rfl, b6⟩
    have B6 := Lib.hid (below_chain B5.out b6)
    have U1 := Lib.hid (V1.out.below b6)
    have U2 := Lib.hid (V2.out.below b6)
    clear b6 V1 V2
    go_wp2_with fail
    refine (C15.out w6).mono ?_
    rintro e w7 ⟨rfl, b7⟩
    have B7 := Lib.hid (below_chain B6.out b7)
    have T1 := Lib.hid (U1.out.below b7)
    have T2 := Lib.hid (U2.out.below b7)
    clear b7 U1 U2
    go_wp2_with fail
    refine (C16.out w7).mono ?_
    rintro e w8 ⟨rfl, b8⟩
    have B8 := Lib.hid (below_chain B7.out b8)
    have C17 := Lib.hid (same_bytes a1 a2 (bytesL k) c1 c2 w8 (T1.out.below b8) (T2.out.below b8) N1.out N2.out)
    rw [← HM.out] at C17
    clear b8 T1 T2
    go_wp2_with fail
    refine C17.out.mono ?_
    rintro e w9 ⟨rfl, rfl⟩
    have CH := Lib.hid (heads_any w8 (LY.out.below B8.out))
    go_wp2_with fail
    refine CH.out.mono ?_
    rintro e w10 ⟨rfl, hb⟩
    have B10 := Lib.hid (below_chain B8.out hb)
    clear hb
    go_wp2_with fail
    go_ret
    exact ⟨rfl, B10.out⟩
end Go.Proofs.YtjjcdlbmpopfcaaDoor.Sh
