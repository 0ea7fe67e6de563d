/-
  What must come at any rate of space: the contract of the statements' own heads. No other condition.
-/
import Derived.Test.YtojmohlefbkkdaaWe
namespace Go.Proofs.Ytojmohlefbkkdaa.Sp
open Go.RowKit Go.Lib Go.WideShapes Go.ChangeAt

def L5 : List Bool := [true, false, true, false, false]
def M5 : List Bool := [true, false, true, true, true]
theorem fits_two (q : Nat) : Fits L5 2 q ↔ q = 3 := by
  constructor
  · rintro ⟨h1, h2⟩
    have h3 := h2 q (by omega) (by omega)
    have h4 := h2 (q + 1) (by omega) (by omega)
    simp only [L5, List.length_cons, List.length_nil] at h1
    rcases (show q = 0 ∨ q = 1 ∨ q = 2 ∨ q = 3 by omega) with rfl | rfl | rfl | rfl
    · simp [L5] at h3
    · simp [L5] at h4
    · simp [L5] at h3
    · rfl
  · rintro rfl
    refine ⟨by decide, fun j h1 h2 => ?_⟩
    rcases (show j = 3 ∨ j = 4 by omega) with rfl | rfl <;> rfl
theorem fits_three (q : Nat) : ¬ Fits L5 3 q := by
  rintro ⟨h1, h2⟩
  have h3 := h2 (q + 0) (by omega) (by omega)
  have h4 := h2 (q + 1) (by omega) (by omega)
  have h5 := h2 (q + 2) (by omega) (by omega)
  simp only [L5, List.length_cons, List.length_nil] at h1
  rcases (show q = 0 ∨ q = 1 ∨ q = 2 by omega) with rfl | rfl | rfl
  · simp [L5] at h3
  · simp [L5] at h4
  · simp [L5] at h3
theorem take_two {w w' : World} {e : Ending} (h : TakeP w L5 2 e w') : Below w.heap.size w w' ∧ ∃ v, e = .returned (.tuple #[.int .i64 3, v, .int .i64 0]) ∧ Own w' w.heap.size v M5 := by
  obtain ⟨hb, p, v, r, k, rfl, ho, ⟨_, _, h1⟩ | ⟨_, _, _, h1⟩ | ⟨rfl, _, _, h1, _, rfl⟩⟩ := h
  · simp [L5] at h1
  · exact absurd ((fits_two 3).2 rfl) (h1 3)
  · obtain rfl := (fits_two p).1 h1
    exact ⟨hb, v, rfl, ho⟩
theorem take_three {w w' : World} {e : Ending} (h : TakeP w L5 3 e w') : Below w.heap.size w w' ∧ ∃ (p : Nat) (v : Value), e = .returned (.tuple #[.int .i64 p, v, .int .i64 100]) := by
  obtain ⟨hb, p, v, r, k, rfl, ho, ⟨_, _, h1⟩ | ⟨rfl, _, _, h1⟩ | ⟨rfl, _, _, h1, _, rfl⟩⟩ := h
  · simp [L5] at h1
  · exact ⟨hb, p, v, rfl⟩
  · exact absurd h1 (fits_three p)
theorem give_two {w w' : World} {e : Ending} (h : GiveP w M5 3 2 e w') : Below w.heap.size w w' ∧ ∃ v, e = .returned (.tuple #[v, .int .i64 0]) ∧ Own w' w.heap.size v L5 := by
  obtain ⟨hb, v, r, k, rfl, ho, ⟨_, _, h1⟩ | ⟨rfl, _, _, rfl⟩⟩ := h
  · refine absurd ⟨by decide, ⟨by decide, by decide, by decide⟩, by decide, fun j h1 h2 => ?_⟩ h1
    rcases (show j = 3 ∨ j = 4 by omega) with rfl | rfl <;> rfl
  · exact ⟨hb, v, rfl, ho⟩
theorem give_one {w w' : World} {e : Ending} (h : GiveP w L5 1 1 e w') : Below w.heap.size w w' ∧ ∃ v, e = .returned (.tuple #[v, .int .i64 2]) := by
  obtain ⟨hb, v, r, k, rfl, ho, ⟨rfl, _, h1⟩ | ⟨rfl, _, h1, rfl⟩⟩ := h
  · exact ⟨hb, v, rfl⟩
  · have := h1.2 1 (by omega) (by omega)
    simp [L5] at this
theorem set_three {w w' : World} {e : Ending} (h : SetP w 3 [1] .i64 e w') : Below w.heap.size w w' ∧ ∃ (a : Option Addr) (c : Nat), e = .returned (.tuple #[.slice a 3 c, .int .i64 0]) := by
  obtain ⟨hb, v, r, k, rfl, ho, _, ⟨h1, rfl⟩ | ⟨h1, _⟩⟩ := h
  · have e0 : setS 3 [1] = some [false, true, false] := by decide
    rw [e0] at h1
    injection h1 with h1
    subst h1
    obtain ⟨a, c, rfl, _⟩ := own_bol ho
    exact ⟨hb, a, c, rfl⟩
  · have e0 : setS 3 [1] = some [false, true, false] := by decide
    rw [e0] at h1
    cases h1
theorem zrw_one (w : World) (n : Int) : Zrw (w.alloc (.cells #[.int .i64 n] 3)) (some ⟨w.heap.size, 0, none⟩) [n] := fun _ => by
  refine ⟨w.heap.size, 0, rfl, by simp, fun j hj => ?_⟩
  obtain rfl : j = 0 := by simpa using hj
  rw [World.cell?_alloc_new]
  simp
theorem bol_lit (w : World) : Bol (w.alloc (.cells #[.bool true, .bool false, .bool true, .bool false, .bool false] 4)) (some ⟨w.heap.size, 0, none⟩) L5 := by
  have h := own_lit w L5 w.heap.size (Nat.le_refl _) (by decide)
  obtain ⟨ao, c, e, _, _, hb, _⟩ := own_bol h
  simp only [Value.slice.injEq] at e
  rw [e.1]
  exact hb
set_option maxHeartbeats 1000000 in
set_option maxRecDepth 100000 in
theorem heads_any (w : World) : Calls Try.prog 5 #[] w fun e w' => e = .returned (.bool true) ∧ Below w.heap.size w w' := by
  have B0 := Lib.hid ((Below.refl w.heap.size w).alloc (Nat.le_refl _) (.cells #[.bool true, .bool false, .bool true, .bool false, .bool false] 4))
  have H0 := Lib.hid (bol_lit w)
  go_enter Try.func5, Try.ntmps5
  go_wp2_with fail
  generalize (w.alloc (.cells #[.bool true, .bool false, .bool true, .bool false, .bool false] 4)) = w0 at *
  refine (take_any (some ⟨w.heap.size, 0, none⟩) L5 5 5 2 w0 H0.out (fun h => by cases h) rfl (by omega) (by omega) (by omega) (by omega)).mono ?_
  rintro e w1 hP1
  obtain ⟨hb1, v1, rfl, ho1⟩ := take_two hP1
  obtain ⟨a1, c1, rfl, hc1, hcc1, hr1, hn1⟩ := own_bol ho1
  have B1 := Lib.hid (below_chain B0.out hb1)
  have H1 := Lib.hid (H0.out.below hb1)
  have R1 := Lib.hid hr1
  clear hP1 hb1 ho1 hr1 B0 H0
  go_wp2_with fail
  refine (take_any (some ⟨w.heap.size, 0, none⟩) L5 5 5 3 w1 H1.out (fun h => by cases h) rfl (by omega) (by omega) (by omega) (by omega)).mono ?_
  rintro e w2 hP2
  obtain ⟨hb2, p2, v2, rfl⟩ := take_three hP2
  have B2 := Lib.hid (below_chain B1.out hb2)
  have H2 := Lib.hid (H1.out.below hb2)
  have R2 := Lib.hid (R1.out.below hb2)
  clear hP2 hb2 B1 H1 R1
  go_wp2_with fail
  refine (give_any a1 M5 5 c1 3 2 w2 R2.out hn1 rfl (by omega) hc1 hcc1 (by omega)).mono ?_
  rintro e w3 hP3
  obtain ⟨hb3, v3, rfl, ho3⟩ := give_two hP3
  obtain ⟨a3, c3, rfl, hc3, hcc3, hr3, hn3⟩ := own_bol ho3
  have B3 := Lib.hid (below_chain B2.out hb3)
  have H3 := Lib.hid (H2.out.below hb3)
  have R3 := Lib.hid hr3
  clear hP3 hb3 ho3 hr3 B2 H2 R2
  go_wp2_with fail
  refine (give_any (some ⟨w.heap.size, 0, none⟩) L5 5 5 1 1 w3 H3.out (fun h => by cases h) rfl (by omega) (by omega) (by omega) (by omega)).mono ?_
  rintro e w4 hP4
  obtain ⟨hb4, v4, rfl⟩ := give_one hP4
  have B4 := Lib.hid (below_chain B3.out hb4)
  have H4 := Lib.hid (H3.out.below hb4)
  have R4 := Lib.hid (R3.out.below hb4)
  have Z4 := Lib.hid (zrw_one w4 1)
  have B40 := Lib.hid ((Below.refl w4.heap.size w4).alloc (Nat.le_refl _) (.cells #[.int .i64 1] 3))
  clear hP4 hb4 B3 H3 R3
  go_wp2_with fail
  generalize (w4.alloc (.cells #[.int .i64 1] 3)) = w40 at *
  refine (set_any (some ⟨w4.heap.size, 0, none⟩) [1] 1 1 3 w40 Z4.out rfl (by omega) (by omega)).mono ?_
  rintro e w5 hP5
  obtain ⟨hb5, a5, c5, rfl⟩ := set_three hP5
  have B5 := Lib.hid (below_chain (below_chain B4.out B40.out) hb5)
  have H5 := Lib.hid ((H4.out.below B40.out).below hb5)
  have R5 := Lib.hid ((R4.out.below B40.out).below hb5)
  clear hP5 hb5 B4 H4 R4 Z4 B40
  go_wp2_with fail
  refine (same_any a3 (some ⟨w.heap.size, 0, none⟩) L5 L5 L5.length 5 c3 5 w5 R5.out H5.out rfl rfl hc3 (by omega) hcc3 (by omega)).mono ?_
  rintro e w6 ⟨rfl, hb6⟩
  have B6 := Lib.hid (below_chain B5.out hb6)
  have H6 := Lib.hid (H5.out.below hb6)
  have e0 : decide (L5 = L5) = true := by simp
  rw [e0]
  clear hb6 B5 H5 R5 e0
  go_wp2_with fail
  refine (free_any (some ⟨w.heap.size, 0, none⟩) L5 5 5 w6 H6.out rfl (by omega) (by omega) (by omega)).mono ?_
  rintro e w7 ⟨rfl, rfl⟩
  have e0 : L5.count false = 3 := by decide
  rw [e0]
  clear e0
  go_wp2_with fail
  refine (longest_any (some ⟨w.heap.size, 0, none⟩) L5 5 5 w7 H6.out rfl (by omega) (by omega) (by omega)).mono ?_
  rintro e w8 ⟨rfl, rfl⟩
  have e0 : (lng L5).1 = 2 := by decide
  rw [e0]
  clear e0
  go_wp2_with fail
  go_ret
  exact ⟨rfl, B6.out⟩
end Go.Proofs.Ytojmohlefbkkdaa.Sp
