/-
  The walk of the statement KeyBack. Condition: the tables of sha stand in memory.
-/
import Derived.Test.YtjjcdlbmpopfcaaDoorLb
namespace Go.Proofs.YtjjcdlbmpopfcaaDoor.Sh
open Go.RowKit Go.Lib

/-- a content's key, taken apart -/
theorem key_parts (kind : Int) (l : List UInt8) : keyBytes (keyS kind l).data.toList = some (sumS (kb kind :: l)) ∧ (keyS kind l).size = 64 ∧ bytesE (keyS kind l) = 0 ∧ bytesL (keyS kind l) = sumS (kb kind :: l) ∧ fromS (sumS (kb kind :: l)) = keyS kind l ∧ fromE (sumS (kb kind :: l)) = 0 := by
  have hs := sumS_len (kb kind :: l)
  have h1 : keyBytes (keyS kind l).data.toList = some (sumS (kb kind :: l)) := keyBytes_back _ hs
  refine ⟨h1, ?_, by rw [bytesE, h1]; rfl, by rw [bytesL, h1]; rfl, by rw [fromS, if_pos hs]; rfl, by rw [fromE, if_pos hs]⟩
  show (hexL _).toArray.size = 64
  rw [List.size_toArray, hexL_len, hs]
set_option maxHeartbeats 4000000 in
set_option maxRecDepth 100000 in
theorem back_law (kind : Int) (ao : Option Addr) (l : List UInt8) (c : Nat) (w : World) (hl : Lay w) (h : Byt w ao l) (hn : ao = none → c = 0) :
    Calls Tryd.prog 6 #[.int .i64 kind, .slice ao l.length c] w fun e w' => e = .returned (.bool true) ∧ Below w.heap.size w w' := by
  have H := Lib.hid h
  have LY := Lib.hid hl
  have HN := Lib.hid hn
  obtain ⟨n, hln⟩ : ∃ n, n = l.length := ⟨_, rfl⟩
  have HL : Hid (l.length = n) := hln.symm
  rw [← hln]
  clear h hl hn hln
  by_cases h1 : 3000 < n
  · have C := Lib.hid (heads_any w LY.out)
    have t1 : decide ((3000 : Int) < (n : Int)) = true := by simp; omega
    go_enter Tryd.func6, Tryd.ntmps6
    go_wp2_with fail
    refine C.out.mono ?_
    rintro e w1 ⟨rfl, hb⟩
    have HB := Lib.hid hb
    go_wp2_with fail
    go_ret
    exact ⟨rfl, HB.out⟩
  · have t1 : decide ((3000 : Int) < (n : Int)) = false := by simp; omega
    have hn3 : n ≤ 3000 := by omega
    have CA := Lib.hid (fun W (hB : Below w.heap.size w W) => of_any kind ao l n c W (LY.out.below hB) (H.out.below hB) HN.out HL.out (by omega))
    obtain ⟨p1, p2, p3, p4, p5, p6⟩ := key_parts kind l
    have CK := Lib.hid (fun W => bytes_any (keyS kind l) W (by rw [p2]; omega))
    have CC := Lib.hid (fun W => check_key (keyS kind l) W (by rw [p2]; omega))
    rw [p1] at CC
    have LS := Lib.hid (sumS_len (kb kind :: l))
    have k1 := kb_wrap kind
    obtain ⟨x, hx⟩ : ∃ x, x = kb kind := ⟨_, rfl⟩
    rw [← hx] at p1 p4 p5 p6 k1 LS
    obtain ⟨S, hS⟩ : ∃ S, S = sumS (x :: l) := ⟨_, rfl⟩
    rw [← hS] at p1 p4 p5 p6 LS
    have HS := Lib.hid hS
    have PE := Lib.hid p3
    have PL := Lib.hid p4
    have PF := Lib.hid p5
    have PG := Lib.hid p6
    generalize keyS kind l = K at *
    clear h1 p1 p2 p3 p4 p5 p6 hx hS
    go_enter Tryd.func6, Tryd.ntmps6
    go_wp2_with fail
    refine (CA.out w (Below.refl _ _)).mono ?_
    rintro e w1 ⟨rfl, hb⟩
    have B1 := Lib.hid hb
    clear hb
    go_wp2_with fail
    refine (CK.out w1).mono ?_
    rintro e w2 ⟨b2, v2, rfl, o2⟩
    rw [PL.out] at o2
    rw [PE.out]
    obtain ⟨a2, c2, rfl, hc2, hcm2, hy2, hn2⟩ := own_byt o2
    rw [LS.out] at hc2 ⊢
    have C12 := Lib.hid (from_any a2 S 32 c2 w2 hy2 LS.out hc2)
    rw [PF.out, PG.out] at C12
    have B2 := Lib.hid (below_chain B1.out b2)
    have Y2 := Lib.hid hy2
    have N2 := Lib.hid hn2
    clear b2 o2 hy2 hn2 hc2 hcm2
    go_wp2_with fail
    refine C12.out.mono ?_
    rintro e w3 ⟨rfl, b3⟩
    have B3 := Lib.hid (below_chain B2.out b3)
    have Y3 := Lib.hid (Y2.out.below b3)
    clear b3
    go_wp2_with fail
    refine (CC.out w3).mono ?_
    rintro e w4 ⟨rfl, b4⟩
    have B4 := Lib.hid (below_chain B3.out b4)
    have Y4 := Lib.hid (Y3.out.below b4)
    have LIT : Hid (Own (w4.alloc (.cells #[.int .u8 (x.toNat : Int)] 5)) w4.heap.size (.slice (some ⟨w4.heap.size, 0, none⟩) 1 1) [x]) := own_lit w4 [x] w4.heap.size (Nat.le_refl _) (by simp)
    have HY := Lib.hid (H.out.below (below_alloc B4.out (.cells #[.int .u8 (x.toNat : Int)] 5)))
    have P2 : Hid (w4.heap.size ≤ (w4.alloc (.cells #[.int .u8 (x.toNat : Int)] 5)).heap.size) := by show _ ≤ _; simp
    have p1 : ([x] : List UInt8).length + n ≤ 140737488355328 := by simp; omega
    clear b4
    go_wp2_with (at_builtin; refine wpl_app_wl (t := 22) (e := 5) rfl (.tmp 46) (.tmp 47) rfl Tryd.underlying22 info5 w4.heap.size _ [x] l rfl LIT.out ao n c rfl HY.out HN.out HL.out p1 P2.out ?_; intro v5 w5 hown5 hgrow5)
    have hb5 := (below_alloc B4.out (.cells #[.int .u8 (x.toNat : Int)] 5)).grown hgrow5 (by have := B4.out.size; simp; omega) (by intro j hj; cases hj; exact B4.out.size)
    have hb5' := (below_alloc (Below.refl w4.heap.size w4) (.cells #[.int .u8 (x.toNat : Int)] 5)).grown hgrow5 P2.out (by intro j hj; cases hj; exact Nat.le_refl _)
    obtain ⟨a5, c5, rfl, hc5, _, hy5, hn5⟩ := own_byt hown5
    have hl1 : ([x] ++ l).length = n + 1 := by simp [HL.out]
    have C23 := Lib.hid (refsum_any (x :: l) a5 (n + 1) c5 w5 hy5 hn5 hl1 (by omega))
    have B5 := Lib.hid hb5
    have Y5 := Lib.hid (Y4.out.below hb5')
    rw [hl1]
    clear hown5 hgrow5 hb5 hb5' hy5 hn5 hc5 hl1
    rw [← HS.out] at C23
    refine C23.out.mono ?_
    rintro e w6 ⟨b6, v6, rfl, o6⟩
    obtain ⟨a6, c6, rfl, hc6, hcm6, hy6, hn6⟩ := own_byt o6
    have B6 := Lib.hid (below_chain B5.out b6)
    have C17 := Lib.hid (same_bytes a2 a6 S c2 c6 w6 (Y5.out.below b6) hy6 N2.out hn6)
    rw [LS.out] at C17 ⊢
    clear b6 o6 hy6 hn6 hc6 hcm6
    go_wp2_with fail
    refine C17.out.mono ?_
    rintro e w7 ⟨rfl, rfl⟩
    have CH := Lib.hid (heads_any w6 (LY.out.below B6.out))
    go_wp2_with fail
    refine CH.out.mono ?_
    rintro e w8 ⟨rfl, hb⟩
    have B8 := Lib.hid (below_chain B6.out hb)
    clear hb
    go_wp2_with fail
    go_ret
    exact ⟨rfl, B8.out⟩
end Go.Proofs.YtjjcdlbmpopfcaaDoor.Sh
