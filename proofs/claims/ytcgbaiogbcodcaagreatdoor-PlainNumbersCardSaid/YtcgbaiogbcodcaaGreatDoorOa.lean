/-
  The contracts of obj's need and within. No condition.
-/
import Derived.Test.YtcgbaiogbcodcaaGreatDoorWk
import Derived.Test.YtcgbaiogbcodcaaGreatDoorKy
import Derived.Test.YtcgbaiogbcodcaaGreatDoorNa
import Derived.Defers
import Derived.Recover
namespace Go.Proofs.YtcgbaiogbcodcaaGreatDoor.Sh
open Go.RowKit Go.Lib Lb

/-- what goes up where something is wrong -/
def Wrong : List PanicEntry := [{ v := .iface 167 (.agg #[]), recovered := false }]
theorem need_any (b : Bool) (w : World) : Calls Tryz.prog 91 #[.bool b] w fun e w' => (if b = true then e = .returned (.tuple #[]) else e = .panicked Wrong) ∧ w = w' := by
  cases b with
  | true =>
    go_enter Tryz.func91, Tryz.ntmps91
    go_wp2_with fail
    go_end0
    exact ⟨rfl, rfl⟩
  | false =>
    go_enter Tryz.func91, Tryz.ntmps91
    go_wp2_with fail
    exact ⟨rfl, rfl, rfl⟩
theorem need_yes (w : World) : Calls Tryz.prog 91 #[.bool true] w fun e w' => e = .returned (.tuple #[]) ∧ w = w' := (need_any true w).mono fun _ _ h => by simpa using h
theorem need_no (w : World) : Calls Tryz.prog 91 #[.bool false] w fun e w' => e = .panicked Wrong ∧ w = w' := (need_any false w).mono fun _ _ h => by simpa using h
set_option maxRecDepth 100000 in
theorem withini_any (x lo hi : Int) (w : World) : Calls Tryz.prog 93 #[.int .i64 x, .int .i64 lo, .int .i64 hi] w fun e w' => e = .returned (.bool (decide (within x lo hi))) ∧ w' = w := by
  by_cases h1 : lo ≤ x
  · have t1 : decide (lo ≤ x) = true := by simpa using h1
    have hr : Hid (decide (within x lo hi) = decide (x ≤ hi)) := by show _ = _; unfold within; simp [h1]
    clear h1
    cases t2 : decide (x ≤ hi) with
    | true =>
      go_enter Tryz.func93, Tryz.ntmps93
      go_wp2_with fail
      go_ret
      exact ⟨by rw [hr.out, t2]; rfl, rfl⟩
    | false =>
      go_enter Tryz.func93, Tryz.ntmps93
      go_wp2_with fail
      go_ret
      exact ⟨by rw [hr.out, t2]; rfl, rfl⟩
  · have t1 : decide (lo ≤ x) = false := by simpa using h1
    have hr : Hid (decide (within x lo hi) = false) := by show _ = _; unfold within; simp [h1]
    clear h1
    go_enter Tryz.func93, Tryz.ntmps93
    go_wp2_with fail
    go_ret
    exact ⟨by rw [hr.out]; rfl, rfl⟩
set_option maxRecDepth 100000 in
theorem withink_any (x lo hi : Int) (w : World) : Calls Tryz.prog 92 #[.int .i64 x, .int .i64 lo, .int .i64 hi] w fun e w' => e = .returned (.bool (decide (within x lo hi))) ∧ w' = w := by
  by_cases h1 : lo ≤ x
  · have t1 : decide (lo ≤ x) = true := by simpa using h1
    have hr : Hid (decide (within x lo hi) = decide (x ≤ hi)) := by show _ = _; unfold within; simp [h1]
    clear h1
    cases t2 : decide (x ≤ hi) with
    | true =>
      go_enter Tryz.func92, Tryz.ntmps92
      go_wp2_with fail
      go_ret
      exact ⟨by rw [hr.out, t2]; rfl, rfl⟩
    | false =>
      go_enter Tryz.func92, Tryz.ntmps92
      go_wp2_with fail
      go_ret
      exact ⟨by rw [hr.out, t2]; rfl, rfl⟩
  · have t1 : decide (lo ≤ x) = false := by simpa using h1
    have hr : Hid (decide (within x lo hi) = false) := by show _ = _; unfold within; simp [h1]
    clear h1
    go_enter Tryz.func92, Tryz.ntmps92
    go_wp2_with fail
    go_ret
    exact ⟨by rw [hr.out]; rfl, rfl⟩
end Go.Proofs.YtcgbaiogbcodcaaGreatDoor.Sh
