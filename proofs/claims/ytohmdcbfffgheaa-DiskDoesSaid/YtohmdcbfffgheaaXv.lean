/-
  The law of the statement DiskDoes: what is refused. No other condition.
-/
import Derived.Test.YtohmdcbfffgheaaXt
namespace Go.Proofs.Ytohmdcbfffgheaa.Dk
open Go.RowKit Go.Lib Go.Maps
set_option maxHeartbeats 2000000 in
set_option maxRecDepth 100000 in
theorem does_big (ao oo : Option Addr) (n c m oc : Nat) (lower : Int) (w : World) (hn : n ≤ 9223372036854775807) (hm : m ≤ 9223372036854775807) (hbig : 25650 < n ∨ 300 < m) :
    Calls Try.prog 4 #[.slice ao n c, .int .i64 lower, .slice oo m oc] w fun e w' => e = .returned (.bool true) ∧ Below w.heap.size w w' := by
  have HH := Lib.hid (fun W => heads_any W)
  by_cases h1 : 25650 < n
  · have t1 : decide ((25650 : Int) < (n : Int)) = true := by simp; omega
    have t2 : decide (25650 < n) = true := by simp; omega
    go_enter Try.func4, Try.ntmps4
    go_wp2_with fail
    refine (HH.out _).mono ?_
    rintro e w1 ⟨rfl, hb⟩
    have HB := Lib.hid hb
    clear hb
    go_wp2_with fail
    go_ret
    exact ⟨rfl, HB.out⟩
  · have t1 : decide ((25650 : Int) < (n : Int)) = false := by simp; omega
    have t2 : decide (25650 < n) = false := by simp; omega
    have t3 : decide ((300 : Int) < (m : Int)) = true := by simp; omega
    have t4 : decide (300 < m) = true := by simp; omega
    go_enter Try.func4, Try.ntmps4
    go_wp2_with fail
    refine (HH.out _).mono ?_
    rintro e w1 ⟨rfl, hb⟩
    have HB := Lib.hid hb
    clear hb
    go_wp2_with fail
    go_ret
    exact ⟨rfl, HB.out⟩
set_option maxHeartbeats 2000000 in
set_option maxRecDepth 100000 in
theorem does_bad (ao oo : Option Addr) (n c m oc : Nat) (lower : Int) (w : World) (hn : n ≤ 25650) (hm : m ≤ 300) (h : n % 256 ≠ 0 ∨ n < 256 ∨ n / 256 > 4096 ∨ lower < 0 ∨ lower > (n / 256 : Nat)) :
    Calls Try.prog 4 #[.slice ao n c, .int .i64 lower, .slice oo m oc] w fun e w' => e = .returned (.bool true) ∧ Below w.heap.size w w' := by
  have HH := Lib.hid (fun W => heads_any W)
  have C1 := Lib.hid (load_bad ao n c lower h (by omega) (w := w))
  have C2 := Lib.hid (rload_bad ao n c lower h (by omega) (w := w))
  have t1 : decide ((25650 : Int) < (n : Int)) = false := by simp; omega
  have t2 : decide (25650 < n) = false := by simp; omega
  have t3 : decide ((300 : Int) < (m : Int)) = false := by simp; omega
  have t4 : decide (300 < m) = false := by simp; omega
  clear h
  go_enter Try.func4, Try.ntmps4
  go_wp2_with fail
  refine C1.out.mono ?_
  rintro e w1 ⟨rfl, rfl⟩
  go_wp2_with fail
  refine C2.out.mono ?_
  rintro e w1 ⟨rfl, rfl⟩
  go_wp2_with fail
  go_loopw [11] (fun vi wr => vi = .int .i64 0 ∧ wr = w1) (fun _ _ => 0)
  case atStart => exact ⟨rfl, rfl⟩
  case round =>
    obtain ⟨rfl, rfl⟩ := hrel
    by_cases hm0 : 0 < m
    · have t5 : decide ((0 : Int) < (m : Int)) = true := by simp; omega
      go_wp2_with fail
      refine (HH.out _).mono ?_
      rintro e w1 ⟨rfl, hb⟩
      have HB := Lib.hid hb
      clear hb
      go_wp2_with fail
      go_ret
      exact ⟨rfl, HB.out⟩
    · obtain rfl : m = 0 := by omega
      go_wp2_with fail
      refine (HH.out _).mono ?_
      rintro e w1 ⟨rfl, hb⟩
      have HB := Lib.hid hb
      clear hb
      go_wp2_with fail
      go_ret
      exact ⟨rfl, HB.out⟩
end Go.Proofs.Ytohmdcbfffgheaa.Dk
