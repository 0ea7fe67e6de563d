/-
  The statement DiskKeeps where its numbers are out of bounds. No other condition.
-/
import Derived.Test.YtohmdcbfffgheaaXi
namespace Go.Proofs.Ytohmdcbfffgheaa.Dk
open Go.RowKit Go.Lib Go.Maps
set_option maxHeartbeats 4000000 in
set_option maxRecDepth 100000 in
theorem keeps_bad (lo n : Int) (a1 a2 a3 : Option Addr) (m1 m2 m3 c1 c2 c3 : Nat) (w : World) (h : lo < 0 ∨ n < 1 ∨ 20 < lo ∨ 30 < n ∨ 60 < m1 ∨ 60 < m2 ∨ 100 < m3) :
    Calls Try.prog 6 #[.int .i64 lo, .int .i64 n, .slice a1 m1 c1, .slice a2 m2 c2, .slice a3 m3 c3] w fun e w' => e = .returned (.bool true) ∧ Below w.heap.size w w' := by
  by_cases c0_ : lo < 0
  · have t0 : decide (lo < 0) = true := by simp; omega
    clear h c0_
    go_enter Try.func6, Try.ntmps6
    go_wp2_with fail
    refine (heads_any w).mono ?_
    rintro e w1 ⟨rfl, hb⟩
    go_wp2_with fail
    go_ret
    exact ⟨rfl, hb⟩
  have t0 : decide (lo < 0) = false := by simp; omega
  by_cases c1_ : n < 1
  · have t1 : decide (n < 1) = true := by simp; omega
    clear h c0_ c1_
    go_enter Try.func6, Try.ntmps6
    go_wp2_with fail
    refine (heads_any w).mono ?_
    rintro e w1 ⟨rfl, hb⟩
    go_wp2_with fail
    go_ret
    exact ⟨rfl, hb⟩
  have t1 : decide (n < 1) = false := by simp; omega
  by_cases c2_ : 20 < lo
  · have t2 : decide (20 < lo) = true := by simp; omega
    clear h c0_ c1_ c2_
    go_enter Try.func6, Try.ntmps6
    go_wp2_with fail
    refine (heads_any w).mono ?_
    rintro e w1 ⟨rfl, hb⟩
    go_wp2_with fail
    go_ret
    exact ⟨rfl, hb⟩
  have t2 : decide (20 < lo) = false := by simp; omega
  by_cases c3_ : 30 < n
  · have t3 : decide (30 < n) = true := by simp; omega
    clear h c0_ c1_ c2_ c3_
    go_enter Try.func6, Try.ntmps6
    go_wp2_with fail
    refine (heads_any w).mono ?_
    rintro e w1 ⟨rfl, hb⟩
    go_wp2_with fail
    go_ret
    exact ⟨rfl, hb⟩
  have t3 : decide (30 < n) = false := by simp; omega
  by_cases c4_ : 60 < m1
  · have t4 : decide ((60 : Int) < (m1 : Int)) = true := by simp; omega
    have s4 : decide (60 < m1) = true := by simp; omega
    clear h c0_ c1_ c2_ c3_ c4_
    go_enter Try.func6, Try.ntmps6
    go_wp2_with fail
    refine (heads_any w).mono ?_
    rintro e w1 ⟨rfl, hb⟩
    go_wp2_with fail
    go_ret
    exact ⟨rfl, hb⟩
  have t4 : decide ((60 : Int) < (m1 : Int)) = false := by simp; omega
  have s4 : decide (60 < m1) = false := by simp; omega
  by_cases c5_ : 60 < m2
  · have t5 : decide ((60 : Int) < (m2 : Int)) = true := by simp; omega
    have s5 : decide (60 < m2) = true := by simp; omega
    clear h c0_ c1_ c2_ c3_ c4_ c5_
    go_enter Try.func6, Try.ntmps6
    go_wp2_with fail
    refine (heads_any w).mono ?_
    rintro e w1 ⟨rfl, hb⟩
    go_wp2_with fail
    go_ret
    exact ⟨rfl, hb⟩
  have t5 : decide ((60 : Int) < (m2 : Int)) = false := by simp; omega
  have s5 : decide (60 < m2) = false := by simp; omega
  have c6_ : 100 < m3 := by omega
  have t6 : decide ((100 : Int) < (m3 : Int)) = true := by simp; omega
  have s6 : decide (100 < m3) = true := by simp; omega
  clear h c0_ c1_ c2_ c3_ c4_ c5_ c6_
  go_enter Try.func6, Try.ntmps6
  go_wp2_with fail
  refine (heads_any w).mono ?_
  rintro e w1 ⟨rfl, hb⟩
  go_wp2_with fail
  go_ret
  exact ⟨rfl, hb⟩
end Go.Proofs.Ytohmdcbfffgheaa.Dk
