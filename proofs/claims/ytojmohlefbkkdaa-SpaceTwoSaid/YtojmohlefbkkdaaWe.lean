/-
  The contracts of space's Set and of the document's own Set. Conditions: each law's own.
-/
import Derived.Test.YtojmohlefbkkdaaWd
import Derived.OwnWalk
namespace Go.Proofs.Ytojmohlefbkkdaa.Sp
open Go.RowKit Go.Lib Go.WideShapes Go.ChangeAt

/-- slots taken, one behind the other -/
def setL : List Bool → List Int → Option (List Bool)
  | r, [] => some r
  | r, x :: xs => if 0 ≤ x ∧ r[x.toNat]? = some false then setL (r.set x.toNat true) xs else none
/-- what Set answers -/
def setS (n : Int) (T : List Int) : Option (List Bool) := if 0 ≤ n ∧ n ≤ 4096 then setL (List.replicate n.toNat false) T else none
def SetP (w : World) (n : Int) (T : List Int) (k : IntKind) (e : Ending) (w' : World) : Prop :=
  Below w.heap.size w w' ∧ ∃ (v : Value) (r : List Bool) (q : Int), e = .returned (.tuple #[v, .int k q]) ∧ Own w' w.heap.size v r ∧ r.length ≤ 4096 ∧ ((setS n T = some r ∧ q = 0) ∨ (setS n T = none ∧ r = [] ∧ q = 2))
theorem setL_step {r : List Bool} {T : List Int} {i : Nat} {x : Int} (hx : T[i]? = some x) (h0 : 0 ≤ x) (hf : r[x.toNat]? = some false) : setL r (T.drop i) = setL (r.set x.toNat true) (T.drop (i + 1)) := by
  obtain ⟨hi, rfl⟩ := List.getElem?_eq_some_iff.1 hx
  rw [List.drop_eq_getElem_cons hi, setL, if_pos ⟨h0, hf⟩]
theorem setL_stop {r : List Bool} {T : List Int} {i : Nat} {x : Int} (hx : T[i]? = some x) (hf : ¬ (0 ≤ x ∧ r[x.toNat]? = some false)) : setL r (T.drop i) = none := by
  obtain ⟨hi, rfl⟩ := List.getElem?_eq_some_iff.1 hx
  rw [List.drop_eq_getElem_cons hi, setL, if_neg hf]
theorem setL_end {r : List Bool} {T : List Int} {i : Nat} (hi : T.length ≤ i) : setL r (T.drop i) = some r := by
  rw [List.drop_eq_nil_of_le hi]
  rfl
theorem bl_rep (n : Nat) : bl (List.replicate n false) = List.replicate n (Value.bool false) := by simp [bl]
theorem made_rep (k : Nat) : (madeCells (Value.bool false).cells (k * 1)).toList = List.replicate k (Value.bool false) := by
  rw [List.eq_replicate_iff]
  constructor
  · simp [madeCells]
  · intro b hb
    have hc : (Value.bool false).cells = #[.bool false] := rfl
    rw [hc] at hb
    simp [madeCells, Nat.mod_one] at hb
    exact hb.2.symm
set_option maxHeartbeats 1000000 in
set_option maxRecDepth 100000 in
theorem set_any (ao : Option Addr) (T : List Int) (m c : Nat) (n : Int) (w : World) (h : Zrw w ao T) (hl : T.length = m) (hc : m ≤ c) (hcc : c ≤ 9223372036854775807) :
    Calls Try.prog 10 #[.int .i64 n, .slice ao m c] w (SetP w n T .i64) := by
  by_cases hn : 0 ≤ n ∧ n ≤ 4096
  · obtain ⟨k, rfl⟩ : ∃ k : Nat, n = (k : Int) := ⟨n.toNat, by omega⟩
    have hk : k ≤ 4096 := by omega
    have HE : Hid (setS k T = setL (List.replicate k false) T) := by show _ = _; simp [setS, hn]
    have t1 : decide ((k : Int) < 0) = false := by simp
    have t2 : decide ((4096 : Int) < (k : Int)) = false := by simp; omega
    obtain ⟨i4, j0, j1, j2, j3⟩ := info_parts info4
    have H := Lib.hid h
    have HL := Lib.hid hl
    clear h hl hn
    go_enter Try.func10, Try.ntmps10
    go_wp2_with (refine wpList_make_full w rfl _ _ 22 rfl w.heap.size 4 i4 (.bool false) 1 Try.underlying22 j0 j1 j2 .i64 .i64 _ _ k rfl rfl rfl rfl (by rw [j3]; omega) (by unfold maxLen; omega) (Nat.le_refl _) ?_; intro w2 how hg2; have HB2 := Lib.hid ((Below.refl w.heap.size w).grown hg2 (Nat.le_refl _) (by simp)); have HO2 : Hid (Own w2 w.heap.size (.slice (some ⟨w.heap.size, 0, none⟩) k k) (List.replicate k false)) := (by show w2.ownsRow _ _ _ _ _ _; rw [made_rep] at how; rw [List.length_replicate, bl_rep]; exact how); clear how hg2)
    go_loopw [8, 19] (fun _ vi wr => ∃ (i : Nat) (r : List Bool), i ≤ m ∧ vi = .int .i64 i ∧ r.length = k ∧ Hid (Below w.heap.size w wr) ∧ Hid (Own wr w.heap.size (.slice (some ⟨w.heap.size, 0, none⟩) k k) r) ∧ Hid (setS k T = setL r (T.drop i))) (fun _ vi _ => m - (RowKit.intOf vi).toNat)
    case atStart => exact ⟨0, _, by omega, rfl, by simp, HB2, HO2, HE⟩
    case round =>
      obtain ⟨i, r, hi, rfl, hr, hB, hO, hS⟩ := hrel
      by_cases hin : i < m
      · obtain ⟨b, o, rfl, hb, hcell⟩ := zrw_cell H.out i (by have := HL.out; omega)
        obtain ⟨x, hx⟩ : ∃ y, T[i]? = some y := ⟨_, List.getElem?_eq_getElem (by have := HL.out; omega)⟩
        have HX := Lib.hid hx
        have d1 : wr.cell? ⟨b, o + i, none⟩ = some (.int .i64 x) := (hB.out.cell (p := ⟨b, o + i, none⟩) hb).trans (hcell i x hx)
        have q1 : (0 : Int) ≤ (i : Int) := by omega
        have q2 : (i : Int) < (m : Int) := by omega
        have CW := Lib.hid (within_any (some ⟨w.heap.size, 0, none⟩) k k x 1 wr (by omega) (by omega))
        clear hx hcell hb
        by_cases hw : Within k x 1
        · obtain ⟨y, rfl⟩ : ∃ y : Nat, x = (y : Int) := ⟨x.toNat, by have := hw.2.1; omega⟩
          have hyk : y < k := by have := hw.2.2; omega
          obtain ⟨z, hz⟩ : ∃ z, r[y]? = some z := ⟨_, List.getElem?_eq_getElem (by omega)⟩
          have d2 : wr.cell? ⟨w.heap.size, y, none⟩ = some (.bool z) := by
            rw [Own.get hO.out y (by omega), ← (List.getElem?_eq_some_iff.1 hz).2]
          have d3 := Own.frozen hO.out y
          have q3 : (0 : Int) ≤ (y : Int) := by omega
          have q4 : (y : Int) < (k : Int) := by omega
          have e0 : decide (Within k (y : Int) 1) = true := by simpa using hw
          rw [e0] at CW
          clear e0 hw
          cases z with
          | false =>
            have HS2 : Hid (setS k T = setL (r.set y true) (T.drop (i + 1))) := by
              show _ = _
              rw [hS.out, setL_step HX.out (by omega) (by simpa using hz)]
              simp
            have HO3 : Hid (Own (wr.setCell ⟨w.heap.size, y, none⟩ (.bool true)) w.heap.size (.slice (some ⟨w.heap.size, 0, none⟩) k k) (r.set y true)) := Own.set hO.out y true
            clear hz
            go_wp2_with fail
            refine CW.out.mono ?_
            rintro e w1 ⟨rfl, rfl⟩
            go_wp2_with fail
            go_roundw
            case rel => exact ⟨i + 1, _, by omega, by go_num, by rw [List.length_set]; exact hr, Lib.hid (hB.out.setCell (Nat.le_refl _) _), HO3, HS2⟩
            case measure => simp [RowKit.intOf]; omega
          | true =>
            have HN : Hid (setS k T = none) := by
              show _ = _
              rw [hS.out, setL_stop HX.out]
              rintro ⟨_, h2⟩
              rw [show ((y : Int)).toNat = y by omega, hz] at h2
              cases h2
            clear hz
            go_wp2_with fail
            refine CW.out.mono ?_
            rintro e w1 ⟨rfl, rfl⟩
            go_wp2_with fail
            go_ret2
            exact ⟨hB.out, _, [], 2, rfl, World.ownsRow_nil _ _ _ _, by simp, .inr ⟨HN.out, rfl, rfl⟩⟩
        · have HN : Hid (setS k T = none) := by
            show _ = _
            rw [hS.out, setL_stop HX.out]
            rintro ⟨h1, h2⟩
            have := (List.getElem?_eq_some_iff.1 h2).1
            exact hw ⟨by omega, h1, by omega⟩
          have e0 : decide (Within k x 1) = false := by simpa using hw
          rw [e0] at CW
          clear e0 hw
          go_wp2_with fail
          refine CW.out.mono ?_
          rintro e w1 ⟨rfl, rfl⟩
          go_wp2_with fail
          go_ret2
          exact ⟨hB.out, _, [], 2, rfl, World.ownsRow_nil _ _ _ _, by simp, .inr ⟨HN.out, rfl, rfl⟩⟩
      · obtain rfl : i = m := by omega
        have HN : Hid (setS k T = some r) := by show _ = _; rw [hS.out, setL_end (by rw [HL.out]; exact Nat.le_refl _)]
        go_wp2_with fail
        go_ret2
        exact ⟨hB.out, _, r, 0, rfl, hO.out, by omega, .inl ⟨HN.out, rfl⟩⟩
  · have HE : Hid (setS n T = none) := by show _ = _; rw [setS, if_neg hn]
    by_cases h0 : n < 0
    · clear h hn
      go_enter Try.func10, Try.ntmps10
      go_wp2_with fail
      go_ret2
      exact ⟨Below.refl _ _, _, [], 2, rfl, World.ownsRow_nil _ _ _ _, by simp, .inr ⟨HE.out, rfl, rfl⟩⟩
    · have t2 : decide ((4096 : Int) < n) = true := by simp; omega
      clear h hn
      go_enter Try.func10, Try.ntmps10
      go_wp2_with fail
      go_ret2
      exact ⟨Below.refl _ _, _, [], 2, rfl, World.ownsRow_nil _ _ _ _, by simp, .inr ⟨HE.out, rfl, rfl⟩⟩
set_option maxHeartbeats 1000000 in
set_option maxRecDepth 100000 in
theorem refset_any (ao : Option Addr) (T : List Int) (m c : Nat) (n : Int) (w : World) (h : Zrw w ao T) (hl : T.length = m) (hc : m ≤ c) (hcc : c ≤ 9223372036854775807) :
    Calls Try.prog 11 #[.int .i64 n, .slice ao m c] w (SetP w n T .i64) := by
  by_cases hn : 0 ≤ n ∧ n ≤ 4096
  · obtain ⟨k, rfl⟩ : ∃ k : Nat, n = (k : Int) := ⟨n.toNat, by omega⟩
    have hk : k ≤ 4096 := by omega
    have HE : Hid (setS k T = setL (List.replicate k false) T) := by show _ = _; simp [setS, hn]
    have t1 : decide ((k : Int) < 0) = false := by simp
    have t2 : decide ((4096 : Int) < (k : Int)) = false := by simp; omega
    obtain ⟨i4, j0, j1, j2, j3⟩ := info_parts info4
    have H := Lib.hid h
    have HL := Lib.hid hl
    clear h hl hn
    go_enter Try.func11, Try.ntmps11
    go_wp2_with (refine wpList_make_full w rfl _ _ 22 rfl w.heap.size 4 i4 (.bool false) 1 Try.underlying22 j0 j1 j2 .i64 .i64 _ _ k rfl rfl rfl rfl (by rw [j3]; omega) (by unfold maxLen; omega) (Nat.le_refl _) ?_; intro w2 how hg2; have HB2 := Lib.hid ((Below.refl w.heap.size w).grown hg2 (Nat.le_refl _) (by simp)); have HO2 : Hid (Own w2 w.heap.size (.slice (some ⟨w.heap.size, 0, none⟩) k k) (List.replicate k false)) := (by show w2.ownsRow _ _ _ _ _ _; rw [made_rep] at how; rw [List.length_replicate, bl_rep]; exact how); clear how hg2)
    go_loopw [7] (fun vi wr => ∃ (i : Nat) (r : List Bool), i ≤ m ∧ vi = .int .i64 i ∧ r.length = k ∧ Hid (Below w.heap.size w wr) ∧ Hid (Own wr w.heap.size (.slice (some ⟨w.heap.size, 0, none⟩) k k) r) ∧ Hid (setS k T = setL r (T.drop i))) (fun vi _ => m - (RowKit.intOf vi).toNat)
    case atStart => exact ⟨0, _, by omega, rfl, by simp, HB2, HO2, HE⟩
    case round =>
      obtain ⟨i, r, hi, rfl, hr, hB, hO, hS⟩ := hrel
      by_cases hin : i < m
      · obtain ⟨b, o, rfl, hb, hcell⟩ := zrw_cell H.out i (by have := HL.out; omega)
        obtain ⟨x, hx⟩ : ∃ y, T[i]? = some y := ⟨_, List.getElem?_eq_getElem (by have := HL.out; omega)⟩
        have HX := Lib.hid hx
        have d1 : wr.cell? ⟨b, o + i, none⟩ = some (.int .i64 x) := (hB.out.cell (p := ⟨b, o + i, none⟩) hb).trans (hcell i x hx)
        have q1 : (0 : Int) ≤ (i : Int) := by omega
        have q2 : (i : Int) < (m : Int) := by omega
        clear hx hcell hb
        by_cases hw : Within k x 1
        · obtain ⟨y, rfl⟩ : ∃ y : Nat, x = (y : Int) := ⟨x.toNat, by have := hw.2.1; omega⟩
          have hyk : y < k := by have := hw.2.2; omega
          obtain ⟨z, hz⟩ : ∃ z, r[y]? = some z := ⟨_, List.getElem?_eq_getElem (by omega)⟩
          have d2 : wr.cell? ⟨w.heap.size, y, none⟩ = some (.bool z) := by
            rw [Own.get hO.out y (by omega), ← (List.getElem?_eq_some_iff.1 hz).2]
          have d3 := Own.frozen hO.out y
          have q3 : (0 : Int) ≤ (y : Int) := by omega
          have q4 : (y : Int) < (k : Int) := by omega
          have t3 : decide ((y : Int) < 0) = false := by simp
          have t4 : decide ((k : Int) ≤ (y : Int)) = false := by simp; omega
          clear hw
          cases z with
          | false =>
            have HS2 : Hid (setS k T = setL (r.set y true) (T.drop (i + 1))) := by
              show _ = _
              rw [hS.out, setL_step HX.out (by omega) (by simpa using hz)]
              simp
            have HO3 : Hid (Own (wr.setCell ⟨w.heap.size, y, none⟩ (.bool true)) w.heap.size (.slice (some ⟨w.heap.size, 0, none⟩) k k) (r.set y true)) := Own.set hO.out y true
            clear hz
            go_wp2_with fail
            go_roundw
            case rel => exact ⟨i + 1, _, by omega, by go_num, by rw [List.length_set]; exact hr, Lib.hid (hB.out.setCell (Nat.le_refl _) _), HO3, HS2⟩
            case measure => simp [RowKit.intOf]; omega
          | true =>
            have HN : Hid (setS k T = none) := by
              show _ = _
              rw [hS.out, setL_stop HX.out]
              rintro ⟨_, h2⟩
              rw [show ((y : Int)).toNat = y by omega, hz] at h2
              cases h2
            clear hz
            go_wp2_with fail
            go_ret2
            exact ⟨hB.out, _, [], 2, rfl, World.ownsRow_nil _ _ _ _, by simp, .inr ⟨HN.out, rfl, rfl⟩⟩
        · have HN : Hid (setS k T = none) := by
            show _ = _
            rw [hS.out, setL_stop HX.out]
            rintro ⟨h1, h2⟩
            have := (List.getElem?_eq_some_iff.1 h2).1
            exact hw ⟨by omega, h1, by omega⟩
          by_cases h0 : x < 0
          · clear hw
            go_wp2_with fail
            go_ret2
            exact ⟨hB.out, _, [], 2, rfl, World.ownsRow_nil _ _ _ _, by simp, .inr ⟨HN.out, rfl, rfl⟩⟩
          · have t4 : decide ((k : Int) ≤ x) = true := by simp only [decide_eq_true_eq]; exact Int.not_lt.1 fun h9 => hw ⟨by omega, by omega, by omega⟩
            clear hw
            go_wp2_with fail
            go_ret2
            exact ⟨hB.out, _, [], 2, rfl, World.ownsRow_nil _ _ _ _, by simp, .inr ⟨HN.out, rfl, rfl⟩⟩
      · obtain rfl : i = m := by omega
        have HN : Hid (setS k T = some r) := by show _ = _; rw [hS.out, setL_end (by rw [HL.out]; exact Nat.le_refl _)]
        go_wp2_with fail
        go_ret2
        exact ⟨hB.out, _, r, 0, rfl, hO.out, by omega, .inl ⟨HN.out, rfl⟩⟩
  · have HE : Hid (setS n T = none) := by show _ = _; rw [setS, if_neg hn]
    by_cases h0 : n < 0
    · clear h hn
      go_enter Try.func11, Try.ntmps11
      go_wp2_with fail
      go_ret2
      exact ⟨Below.refl _ _, _, [], 2, rfl, World.ownsRow_nil _ _ _ _, by simp, .inr ⟨HE.out, rfl, rfl⟩⟩
    · have t2 : decide ((4096 : Int) < n) = true := by simp; omega
      clear h hn
      go_enter Try.func11, Try.ntmps11
      go_wp2_with fail
      go_ret2
      exact ⟨Below.refl _ _, _, [], 2, rfl, World.ownsRow_nil _ _ _ _, by simp, .inr ⟨HE.out, rfl, rfl⟩⟩
end Go.Proofs.Ytojmohlefbkkdaa.Sp
