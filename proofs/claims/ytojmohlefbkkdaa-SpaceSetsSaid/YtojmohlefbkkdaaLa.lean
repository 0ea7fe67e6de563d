/-
  The law of the statement SpaceSets. No other condition.
-/
import Derived.Test.YtojmohlefbkkdaaWf
namespace Go.Proofs.Ytojmohlefbkkdaa.Sp
open Go.RowKit Go.Lib Go.WideShapes Go.ChangeAt

theorem sets_twice {w w1 w2 : World} {n : Int} {T : List Int} {e e2 : Ending} (h : SetP w n T .i64 e w1) (h2 : SetP w1 n T .i64 e2 w2) :
    ∃ (a b : Option Addr) (r : List Bool) (c d : Nat) (q : Int), Below w.heap.size w w1 ∧ Below w1.heap.size w1 w2 ∧ e = .returned (.tuple #[.slice a r.length c, .int .i64 q]) ∧ e2 = .returned (.tuple #[.slice b r.length d, .int .i64 q]) ∧
      Bol w1 a r ∧ Bol w2 b r ∧ r.length ≤ c ∧ c ≤ 9223372036854775807 ∧ r.length ≤ d ∧ d ≤ 9223372036854775807 := by
  obtain ⟨hb, v, r, q, rfl, ho, _, hx⟩ := h
  obtain ⟨hb2, v2, r2, q2, rfl, ho2, _, hy⟩ := h2
  have hrq : r = r2 ∧ q = q2 := by
    rcases hx with ⟨h1, rfl⟩ | ⟨h1, rfl, rfl⟩
    · rcases hy with ⟨h3, rfl⟩ | ⟨h3, rfl, rfl⟩
      · rw [h1] at h3
        injection h3 with h3
        exact ⟨h3, rfl⟩
      · rw [h1] at h3
        cases h3
    · rcases hy with ⟨h3, rfl⟩ | ⟨h3, rfl, rfl⟩
      · rw [h1] at h3
        cases h3
      · exact ⟨rfl, rfl⟩
  obtain ⟨rfl, rfl⟩ := hrq
  obtain ⟨a, c, rfl, k1, k2, k3, _⟩ := own_bol ho
  obtain ⟨b, d, rfl, j1, j2, j3, _⟩ := own_bol ho2
  exact ⟨a, b, r, c, d, q, hb, hb2, rfl, rfl, k3, j3, k1, k2, j1, j2⟩
set_option maxHeartbeats 1000000 in
set_option maxRecDepth 100000 in
theorem sets_law (n : Int) (ao : Option Addr) (T : List Int) (c : Nat) (w : World) (h : Zrw w ao T) (hc : T.length ≤ c) (hcc : c ≤ 9223372036854775807) :
    Calls Try.prog 4 #[.int .i64 n, .slice ao T.length c] w fun e w' => e = .returned (.bool true) ∧ Below w.heap.size w w' := by
  obtain ⟨m, hm⟩ : ∃ m, T.length = m := ⟨_, rfl⟩
  rw [hm] at hc ⊢
  by_cases hbig : 5000 < m
  · have t1 : decide ((5000 : Int) < (m : Int)) = true := by simp; omega
    clear h hm
    go_enter Try.func4, Try.ntmps4
    go_wp2_with fail
    refine (heads_any w).mono ?_
    rintro e w1 ⟨rfl, hb⟩
    go_wp2_with fail
    go_ret
    exact ⟨rfl, hb⟩
  · have t1 : decide ((5000 : Int) < (m : Int)) = false := by simp; omega
    have H := Lib.hid h
    have HM := Lib.hid hm
    clear h hm
    go_enter Try.func4, Try.ntmps4
    go_wp2_with fail
    refine (set_any ao T m c n w H.out HM.out hc hcc).mono ?_
    rintro e w1 hP1
    have hP1' := hP1
    obtain ⟨hb1, v1, r1, q1, rfl, _⟩ := hP1'
    have P1 := Lib.hid hP1
    have H1 := Lib.hid (H.out.below hb1)
    clear hP1 hb1
    go_wp2_with fail
    refine (refset_any ao T m c n w1 H1.out HM.out hc hcc).mono ?_
    rintro e w2 hP2
    obtain ⟨a, b, r, c1, d1, q, hb1, hb2, e1, rfl, k1, k2, k3, k4, k5, k6⟩ := sets_twice P1.out hP2
    simp only [Ending.returned.injEq, Value.tuple.injEq, Array.mk.injEq, List.cons.injEq, and_true, Value.int.injEq, true_and] at e1
    obtain ⟨rfl, rfl⟩ := e1
    have K1 := Lib.hid (k1.below hb2)
    have K2 := Lib.hid k2
    have B2 := Lib.hid (below_chain hb1 hb2)
    have HR : Hid (r.length = r.length) := rfl
    clear hP2 P1 k1 k2 hb1 hb2
    go_wp2_with fail
    refine (same_any a b r r r.length r.length c1 d1 w2 K1.out K2.out rfl rfl k3 k5 k4 k6).mono ?_
    rintro e w3 ⟨rfl, hb3⟩
    have B3 := Lib.hid (below_chain B2.out hb3)
    have e0 : decide (r = r) = true := by simp
    rw [e0]
    clear e0 hb3 B2
    go_wp2_with fail
    refine (heads_any w3).mono ?_
    rintro e w4 ⟨rfl, hb4⟩
    have B4 := Lib.hid (below_chain B3.out hb4)
    clear hb4 B3
    go_wp2_with fail
    go_ret
    exact ⟨rfl, B4.out⟩
end Go.Proofs.Ytojmohlefbkkdaa.Sp
