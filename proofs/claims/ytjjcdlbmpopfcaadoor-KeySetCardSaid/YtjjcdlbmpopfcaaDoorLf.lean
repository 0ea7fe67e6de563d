/-
  The walk of the statement KeySet. Condition: the tables of sha stand in memory.
-/
import Derived.Test.YtjjcdlbmpopfcaaDoorLe
namespace Go.Proofs.YtjjcdlbmpopfcaaDoor.Sh
open Go.RowKit Go.Lib

theorem set_rise (l : List ByteArray) (i : Nat) (x y : ByteArray) (hi : 0 < i) (hx : (sortU ltB l)[i]? = some x) (hy : (sortU ltB l)[i - 1]? = some y) : Op.bytesLess y.toList x.toList = true := by
  obtain ⟨h1, rfl⟩ := List.getElem?_eq_some_iff.1 hx
  obtain ⟨h2, rfl⟩ := List.getElem?_eq_some_iff.1 hy
  exact List.pairwise_iff_getElem.1 (su_sortU ltB ords_B l) (i - 1) i h2 h1 (by omega)
theorem set_has (l : List ByteArray) (i : Nat) (x : ByteArray) (hx : (sortU ltB l)[i]? = some x) : 0 ≤ find x l :=
  find_mem x l ((mem_sortU ltB l x).1 (List.mem_of_getElem? hx))
theorem has_set (l : List ByteArray) (i : Nat) (x : ByteArray) (hx : l[i]? = some x) : 0 ≤ find x (sortU ltB l) :=
  find_mem x _ ((mem_sortU ltB l x).2 (List.mem_of_getElem? hx))
theorem not_leq (x y : ByteArray) (h : Op.bytesLess y.toList x.toList = true) : Op.bytesLess x.toList y.toList = false ∧ (x.toList == y.toList) = false := by
  constructor
  · cases h2 : Op.bytesLess x.toList y.toList with
    | false => rfl
    | true =>
      have := bl_tr _ _ _ h h2
      rw [bl_irr] at this
      cases this
  · rw [beq_eq_false_iff_ne]
    intro e
    rw [e, bl_irr] at h
    cases h
theorem srw_drewN {w : World} {ao : Option Addr} {l : List ByteArray} (h : Srw w ao l) (k : Nat) : Srw (w.drewN k) ao l := h.below (below_drewN (Below.refl _ _) k)
set_option maxHeartbeats 800000 in
set_option maxRecDepth 100000 in
theorem set_law (ao : Option Addr) (l : List ByteArray) (c : Nat) (w : World) (hl : Lay w) (h : Srw w ao l) (hc : l.length ≤ c) (hcc : c ≤ 9223372036854775807) (hsz : ∀ s ∈ l, s.size ≤ maxLen) :
    Calls Tryd.prog 7 #[.slice ao l.length c] w fun e w' => e = .returned (.bool true) ∧ Below w.heap.size w w' := by
  have H := Lib.hid h
  have LY := Lib.hid hl
  have HZ := Lib.hid hsz
  obtain ⟨n, hln⟩ : ∃ n, n = l.length := ⟨_, rfl⟩
  have HL : Hid (l.length = n) := hln.symm
  rw [← hln] at hc ⊢
  clear h hl hsz hln
  by_cases h1 : 300 < n
  · have C := Lib.hid (heads_any w LY.out)
    have t1 : decide ((300 : Int) < (n : Int)) = true := by simp; omega
    go_enter Tryd.func7, Tryd.ntmps7
    go_wp2_with fail
    refine C.out.mono ?_
    rintro e w1 ⟨rfl, hb⟩
    have HB := Lib.hid hb
    go_wp2_with fail
    go_ret
    exact ⟨rfl, HB.out⟩
  · have t1 : decide ((300 : Int) < (n : Int)) = false := by simp; omega
    have hn3 : n ≤ 300 := by omega
    have C19 := Lib.hid (sort_any ao l n c w H.out HL.out hc hcc HZ.out hn3)
    have C21 := Lib.hid (fun x W (hB : Below w.heap.size w W) => find_len ao l n c x W (H.out.below hB) HL.out hc hcc)
    have RISE := Lib.hid (set_rise l)
    have HAS := Lib.hid (set_has l)
    have SAH := Lib.hid (has_set l)
    have HLS := Lib.hid (show ∀ s ∈ sortU ltB l, s.size ≤ maxLen from fun s hs => HZ.out s ((mem_sortU ltB l s).1 hs))
    have HAG := Lib.hid (sortU_again ltB ords_B l)
    have HLE := Lib.hid (show (sortU ltB l).length ≤ n by rw [← HL.out]; exact sortU_len ltB l)
    generalize sortU ltB l = L at *
    clear h1
    go_enter Tryd.func7, Tryd.ntmps7
    go_wp2_with fail
    refine C19.out.mono ?_
    rintro e w1 ⟨b1, v1, rfl, o1⟩
    obtain ⟨a1, c1, rfl, hc1, hm1, hs1, _⟩ := own_srw o1
    have B1 := Lib.hid b1
    have S1 := Lib.hid hs1
    clear b1 o1 hs1
    obtain ⟨m, hm⟩ : ∃ m, m = L.length := ⟨_, rfl⟩
    rw [← hm] at hc1 HLE ⊢
    have HM := Lib.hid hm
    have hmn := HLE.out
    clear hm
    go_wp2_with fail
    go_loopw [4] (fun vi wr => ∃ i k : Nat, i ≤ m ∧ vi = .int .i64 i ∧ Hid (wr = w1.drewN k)) (fun vi _ => m - (RowKit.intOf vi).toNat)
    case atStart => exact ⟨0, 0, by omega, rfl, rfl⟩
    case round =>
      obtain ⟨i, k, hi, rfl, hw⟩ := hrel
      by_cases hin : i < m
      · obtain ⟨b, o, x, rfl, hb, gx, e1⟩ := srw_cell (srw_drewN S1.out k) i (by have := HM.out; omega)
        rw [← hw.out] at e1
        have q1 : (0 : Int) ≤ (i : Int) := by omega
        have q2 : (i : Int) < (m : Int) := by omega
        have hfx := HAS.out i x gx
        obtain ⟨f, hf⟩ : ∃ f, f = find x l := ⟨_, rfl⟩
        rw [← hf] at hfx
        have t2 : decide (f < 0) = false := by simp; omega
        have CF : Hid (∀ q, Calls Tryd.prog 21 #[.slice ao n c, .string x] (wr.drewN q) fun e w' => e = .returned (.int .i64 f) ∧ w' = wr.drewN q) := fun q => by
          rw [hf]
          exact C21.out x _ (by rw [hw.out]; exact below_drewN (below_drewN B1.out _) _)
        by_cases h0 : i = 0
        · have t3 : decide (0 < i) = false := by simp; omega
          have HF := Lib.hid hf
          clear hf hfx gx h0
          go_wp2_with fail
          go_quiet ((go_at_call 21; (with_reducible exact Calls.quiet_of_same (CF.out _))))
          go_wp2_with fail
          go_roundw
          case rel => exact ⟨i + 1, k + nq, by omega, by go_num, by show _ = _; rw [hw.out, World.drewN_drewN]⟩
          case measure => simp [RowKit.intOf]; omega
        · obtain ⟨b', o', y, hbo, _, gy, e2⟩ := srw_cell (srw_drewN S1.out k) (i - 1) (by have := HM.out; omega)
          injection hbo with hbo
          injection hbo with hbo1 hbo2
          subst hbo1
          subst hbo2
          rw [← hw.out] at e2
          obtain ⟨hxy1, hxy2⟩ := not_leq x y (RISE.out i x y (by omega) gx gy)
          have t3 : decide (0 < i) = true := by simp; omega
          have w1a : IntKind.i64.wrap ((i : Int) - 1) = (i : Int) - 1 := IntWalk.i64_in _ (by omega)
          have n1 : ((i : Int) - 1).toNat = i - 1 := by omega
          have q3 : (0 : Int) ≤ (i : Int) - 1 := by omega
          have q5 : (1 : Int) ≤ (i : Int) := by omega
          have q6 : 1 ≤ i := by omega
          have q7 : 0 < i := by omega
          have q4 : (i : Int) - 1 < (m : Int) := by omega
          have HF := Lib.hid hf
          clear hf hfx gx gy h0
          go_wp2_with fail
          go_quiet ((go_at_call 21; (with_reducible exact Calls.quiet_of_same (CF.out _))))
          go_wp2_with fail
          go_roundw
          case rel => exact ⟨i + 1, k + nq, by omega, by go_num, by show _ = _; rw [hw.out, World.drewN_drewN]⟩
          case measure => simp [RowKit.intOf]; omega
      · obtain rfl : i = m := by omega
        have BW : Hid (Below w.heap.size w wr) := by show Below _ _ _; rw [hw.out]; exact below_drewN B1.out _
        have SW : Hid (Srw wr a1 L) := by show Srw _ _ _; rw [hw.out]; exact srw_drewN S1.out _
        rename World => w2
        clear hw hi hin
        go_wp2_with fail
        go_loopw [5] (fun vi wr => ∃ j k : Nat, j ≤ n ∧ vi = .int .i64 j ∧ Hid (wr = w2.drewN k)) (fun vi _ => n - (RowKit.intOf vi).toNat)
        case atStart => exact ⟨0, 0, by omega, rfl, rfl⟩
        case round =>
          obtain ⟨j, k2, hj, rfl, hw⟩ := hrel
          by_cases hjn : j < n
          · obtain ⟨b, o, x, rfl, hb, gx, e1⟩ := srw_cell (srw_drewN (H.out.below BW.out) k2) j (by have := HL.out; omega)
            rw [← hw.out] at e1
            have q1 : (0 : Int) ≤ (j : Int) := by omega
            have q2 : (j : Int) < (n : Int) := by omega
            have hfx := SAH.out j x gx
            obtain ⟨f, hf⟩ : ∃ f, f = find x L := ⟨_, rfl⟩
            rw [← hf] at hfx
            have t2 : decide (f < 0) = false := by simp; omega
            have CF : Hid (Calls Tryd.prog 21 #[.slice a1 i c1, .string x] wr fun e w' => e = .returned (.int .i64 f) ∧ w' = wr) := by
              rw [hf]
              exact find_len a1 L i c1 x _ (by rw [hw.out]; exact srw_drewN SW.out _) HM.out.symm hc1 hm1
            have HF := Lib.hid hf
            clear hf hfx gx
            go_wp2_with fail
            refine CF.out.mono ?_
            rintro e w4 ⟨rfl, rfl⟩
            go_wp2_with fail
            go_roundw
            case rel => exact ⟨j + 1, k2, by omega, by go_num, hw⟩
            case measure => simp [RowKit.intOf]; omega
          · obtain rfl : j = n := by omega
            have BV : Hid (Below w.heap.size w wr) := by show Below _ _ _; rw [hw.out]; exact below_drewN BW.out _
            have SV : Hid (Srw wr a1 L) := by show Srw _ _ _; rw [hw.out]; exact srw_drewN SW.out _
            have CS := Lib.hid (sort_any a1 L i c1 wr SV.out HM.out.symm hc1 hm1 HLS.out (by omega))
            rw [HAG.out] at CS
            rename World => w3
            clear hw hj hjn
            go_wp2_with fail
            refine CS.out.mono ?_
            rintro e w4 ⟨b4, v4, rfl, o4⟩
            obtain ⟨a4, c4, rfl, hc4, hm4, hs4, _⟩ := own_srw o4
            have B4 := Lib.hid (below_chain BV.out b4)
            have C18 := Lib.hid (same_any a4 a1 L L c4 c1 w4 hs4 (SV.out.below b4) hc4 hm4 (by rw [← HM.out]; exact hc1) hm1)
            rw [decide_eq_true rfl, ← HM.out] at C18
            rw [← HM.out]
            clear b4 o4 hs4 hc4
            go_wp2_with fail
            refine C18.out.mono ?_
            rintro e w5 ⟨rfl, n5, hw5⟩
            have B5 : Hid (Below w.heap.size w w5) := by show Below _ _ _; rw [hw5]; exact below_drewN B4.out _
            clear hw5
            have CH := Lib.hid (heads_any w5 (LY.out.below B5.out))
            go_wp2_with fail
            refine CH.out.mono ?_
            rintro e w6 ⟨rfl, hb⟩
            have B6 := Lib.hid (below_chain B5.out hb)
            clear hb
            go_wp2_with fail
            go_ret
            exact ⟨rfl, B6.out⟩
end Go.Proofs.YtjjcdlbmpopfcaaDoor.Sh
