/-
  The walk of the statement KeySorts. Condition: the tables of sha stand in memory.
-/
import Derived.Test.YtjjcdlbmpopfcaaDoorLa
namespace Go.Proofs.YtjjcdlbmpopfcaaDoor.Sh
open Go.RowKit Go.Lib

theorem refsort_len (ao : Option Addr) (l : List ByteArray) (n c : Nat) (w : World) (h : Srw w ao l) (hn : l.length = n) (hc : n ≤ c) (hcc : c ≤ 9223372036854775807) (h300 : n ≤ 300) :
    Calls Tryd.prog 20 #[.slice ao n c] w fun e w' => Below w.heap.size w w' ∧ ∃ v, e = .returned v ∧ OwnS w' w.heap.size v (sortU ltB l) := by
  subst hn
  exact refsort_any ao l c w h hc hcc h300
theorem reffind_len (ao : Option Addr) (a : List ByteArray) (n ca : Nat) (x : ByteArray) (w : World) (ha : Srw w ao a) (hn : a.length = n) (hca : n ≤ ca) (hcc : ca ≤ 9223372036854775807) :
    Calls Tryd.prog 22 #[.slice ao n ca, .string x] w fun e w' => e = .returned (.int .i64 (find x a)) ∧ w' = w := by
  subst hn
  exact reffind_any ao a ca x w ha hca hcc
theorem find_len (ao : Option Addr) (a : List ByteArray) (n ca : Nat) (x : ByteArray) (w : World) (ha : Srw w ao a) (hn : a.length = n) (hca : n ≤ ca) (hcc : ca ≤ 9223372036854775807) :
    Calls Tryd.prog 21 #[.slice ao n ca, .string x] w fun e w' => e = .returned (.int .i64 (find x a)) ∧ w' = w := by
  subst hn
  exact find_any ao a ca x w ha hca hcc
set_option maxHeartbeats 4000000 in
set_option maxRecDepth 100000 in
theorem sorts_law (ao : Option Addr) (l : List ByteArray) (c : Nat) (k : ByteArray) (w : World) (hl : Lay w) (h : Srw w ao l) (hc : l.length ≤ c) (hcc : c ≤ 9223372036854775807) (hsz : ∀ s ∈ l, s.size ≤ maxLen) :
    Calls Tryd.prog 5 #[.slice ao l.length c, .string k] w fun e w' => e = .returned (.bool true) ∧ Below w.heap.size w w' := by
  have H := Lib.hid h
  have LY := Lib.hid hl
  have HZ := Lib.hid hsz
  obtain ⟨n, hln⟩ : ∃ n, n = l.length := ⟨_, rfl⟩
  have HL : Hid (l.length = n) := hln.symm
  rw [← hln] at hc ⊢
  clear h hl hsz hln
  by_cases h1 : 300 < n
  · have C := Lib.hid (heads_any w LY.out)
    have t1 : decide ((300 : Int) < (n : Int)) = true := by simp; omega
    go_enter Tryd.func5, Tryd.ntmps5
    go_wp2_with fail
    refine C.out.mono ?_
    rintro e w1 ⟨rfl, hb⟩
    have HB := Lib.hid hb
    go_wp2_with fail
    go_ret
    exact ⟨rfl, HB.out⟩
  · have t1 : decide ((300 : Int) < (n : Int)) = false := by simp; omega
    have hn3 : n ≤ 300 := by omega
    have C19 := Lib.hid (sort_any ao l n c w H.out HL.out hc hcc HZ.out hn3)
    have C20 := Lib.hid (fun W (hB : Below w.heap.size w W) => refsort_len ao l n c W (H.out.below hB) HL.out hc hcc hn3)
    have C21 := Lib.hid (fun W (hB : Below w.heap.size w W) => find_len ao l n c k W (H.out.below hB) HL.out hc hcc)
    have C22 := Lib.hid (fun W (hB : Below w.heap.size w W) => reffind_len ao l n c k W (H.out.below hB) HL.out hc hcc)
    generalize find k l = f at *
    generalize sortU ltB l = L at *
    clear h1
    go_enter Tryd.func5, Tryd.ntmps5
    go_wp2_with fail
    refine C19.out.mono ?_
    rintro e w1 ⟨b1, v1, rfl, o1⟩
    obtain ⟨a1, c1, rfl, hc1, hm1, hs1, _⟩ := own_srw o1
    have B1 := Lib.hid b1
    have S1 := Lib.hid hs1
    clear b1 o1 hs1
    obtain ⟨m, hm⟩ : ∃ m, m = L.length := ⟨_, rfl⟩
    rw [← hm] at hc1 ⊢
    have HM := Lib.hid hm
    clear hm
    go_wp2_with fail
    refine (C20.out w1 B1.out).mono ?_
    rintro e w2 ⟨b2, v2, rfl, o2⟩
    obtain ⟨a2, c2, rfl, hc2, hm2, hs2, _⟩ := own_srw o2
    have B2 := Lib.hid (below_chain B1.out b2)
    have C18 := Lib.hid (same_any a1 a2 L L c1 c2 w2 (S1.out.below b2) hs2 (by rw [← HM.out]; exact hc1) hm1 hc2 hm2)
    rw [decide_eq_true rfl, ← HM.out] at C18
    rw [← HM.out] at hc2 ⊢
    clear b2 o2 hs2
    go_wp2_with fail
    refine C18.out.mono ?_
    rintro e w3 ⟨rfl, n3, hw3⟩
    have B3 : Hid (Below w.heap.size w w3) := by show Below _ _ _; rw [hw3]; exact below_drewN B2.out _
    clear hw3
    go_wp2_with fail
    refine (C21.out w3 B3.out).mono ?_
    rintro e w4 ⟨rfl, hw4⟩
    have B4 : Hid (Below w.heap.size w w4) := by show Below _ _ _; rw [hw4]; exact B3.out
    clear hw4
    go_wp2_with fail
    refine (C22.out w4 B4.out).mono ?_
    rintro e w5 ⟨rfl, hw5⟩
    have B5 : Hid (Below w.heap.size w w5) := by show Below _ _ _; rw [hw5]; exact B4.out
    clear hw5
    have CH := Lib.hid (heads_any w5 (LY.out.below B5.out))
    go_wp2_with fail
    refine CH.out.mono ?_
    rintro e w6 ⟨rfl, hb⟩
    have B6 := Lib.hid (below_chain B5.out hb)
    clear hb
    go_wp2_with fail
    go_ret
    exact ⟨rfl, B6.out⟩
end Go.Proofs.YtjjcdlbmpopfcaaDoor.Sh
