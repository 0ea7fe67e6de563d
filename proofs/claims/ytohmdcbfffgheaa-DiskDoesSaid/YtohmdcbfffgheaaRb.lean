/-
  The document's own page of layer 9: what it refuses. Conditions: each law's own.
-/
import Derived.Test.YtohmdcbfffgheaaRa
namespace Go.Proofs.Ytohmdcbfffgheaa.Dk
open Go.RowKit Go.Lib Go.Maps
variable {w : World} {g : Nat} {im bo ro : Value} {low : Int} {dead armed : Bool} {left nw : Int}
set_option maxHeartbeats 4000000 in
set_option maxRecDepth 100000 in
theorem rload_bad (ao : Option Addr) (m c : Nat) (low : Int) (h : m % 256 ≠ 0 ∨ m < 256 ∨ m / 256 > 4096 ∨ low < 0 ∨ low > (m / 256 : Nat)) (hm : m ≤ 140737488355328) :
    Calls Try.prog 16 #[.slice ao m c, .int .i64 low] w fun e w' => e = .returned (.tuple #[.pointer none, .int .i64 2]) ∧ w' = w := by
  by_cases h1 : m % 256 = 0
  · obtain ⟨q, hq⟩ : ∃ q, q = m / 256 := ⟨_, rfl⟩
    rw [← hq] at h
    have e1 : ((m : Int) % 256 != 0) = false := by simp; omega
    have e2 : (((m : Int).tmod 256) != 0) = false := by rw [Int.tmod_eq_emod_of_nonneg (by omega)]; exact e1
    have e3 : (m : Int) / 256 = (q : Int) := by omega
    have e4 : (m : Int).tdiv 256 = (q : Int) := by rw [Int.tdiv_eq_ediv_of_nonneg (by omega)]; exact e3
    have q0 : (0 : Int) ≤ (q : Int) := by omega
    have q1 : (q : Int) ≤ 140737488355328 := by omega
    have wq : wrap64 (q : Int) = (q : Int) := IntWalk.wrap64_in _ ⟨by omega, by omega⟩
    by_cases h2 : q < 1
    · have t2 : decide ((q : Int) < 1) = true := by simp; omega
      clear h h1 hq hm
      go_enter Try.func16, Try.ntmps16
      go_wp2_with fail
      go_ret2
      exact ⟨rfl, rfl⟩
    have t2 : decide ((q : Int) < 1) = false := by simp; omega
    have t2' : decide (q < 1) = false := by simp; omega
    by_cases h3 : q > 4096
    · have t3 : decide ((4096 : Int) < (q : Int)) = true := by simp; omega
      clear h h1 hq hm
      go_enter Try.func16, Try.ntmps16
      go_wp2_with fail
      go_ret2
      exact ⟨rfl, rfl⟩
    have t3 : decide ((4096 : Int) < (q : Int)) = false := by simp; omega
    have t3' : decide (4096 < q) = false := by simp; omega
    by_cases h4 : low < 0
    · have t4 : decide (low < 0) = true := by simpa using h4
      clear h h1 hq hm
      go_enter Try.func16, Try.ntmps16
      go_wp2_with fail
      go_ret2
      exact ⟨rfl, rfl⟩
    have t4 : decide (low < 0) = false := by simpa using h4
    have h5 : (q : Int) < low := by omega
    · have t5 : decide ((q : Int) < low) = true := by simpa using h5
      clear h h1 hq hm
      go_enter Try.func16, Try.ntmps16
      go_wp2_with fail
      go_ret2
      exact ⟨rfl, rfl⟩
  · have e1 : ((m : Int) % 256 != 0) = true := by simp; omega
    have e2 : (((m : Int).tmod 256) != 0) = true := by rw [Int.tmod_eq_emod_of_nonneg (by omega)]; exact e1
    clear h h1
    go_enter Try.func16, Try.ntmps16
    go_wp2_with fail
    go_ret2
    exact ⟨rfl, rfl⟩
set_option maxHeartbeats 4000000 in
set_option maxRecDepth 100000 in
theorem rread_dead (h : Rv w g im bo ro low true armed left nw) (i : Int) : Calls Try.prog 21 #[.pointer (some ⟨g, 0, none⟩), .int .i64 i] w fun e w' => e = .returned (.tuple #[.slice none 0 0, .int .i64 91]) ∧ w' = w := by
  have c4 := h.c4
  clear h
  go_enter Try.func21, Try.ntmps21
  go_wp2_with fail
  go_ret2
  exact ⟨rfl, rfl⟩
set_option maxHeartbeats 4000000 in
set_option maxRecDepth 100000 in
theorem rread_out {bb : Option Addr} {n c : Nat} (h : Rv w g im (.slice bb n c) ro low false armed left nw) (i : Int) (hi : i < 0 ∨ (n : Int) ≤ i) : Calls Try.prog 21 #[.pointer (some ⟨g, 0, none⟩), .int .i64 i] w fun e w' => e = .returned (.tuple #[.slice none 0 0, .int .i64 90]) ∧ w' = w := by
  have c4 := h.c4
  have c2 : w.cell? ⟨g, 2, none⟩ = some (.slice bb n c) := Blk.cell h 2
  clear h
  by_cases h1 : i < 0
  · have t1 : decide (i < 0) = true := by simpa using h1
    clear hi h1
    go_enter Try.func21, Try.ntmps21
    go_wp2_with fail
    go_ret2
    exact ⟨rfl, rfl⟩
  · have t1 : decide (i < 0) = false := by simpa using h1
    have t2 : decide ((n : Int) ≤ i) = true := by simp; omega
    clear hi h1
    go_enter Try.func21, Try.ntmps21
    go_wp2_with fail
    go_ret2
    exact ⟨rfl, rfl⟩
set_option maxRecDepth 100000 in
theorem rwrite_dead (h : Rv w g im bo ro low true armed left nw) (i : Int) (ao : Option Addr) (n c : Nat) : Calls Try.prog 17 #[.pointer (some ⟨g, 0, none⟩), .int .i64 i, .slice ao n c] w fun e w' => e = .returned (.int .i64 91) ∧ w' = w := by
  have c4 := h.c4
  clear h
  go_enter Try.func17, Try.ntmps17
  go_wp2_with fail
  go_ret
  exact ⟨rfl, rfl⟩
set_option maxHeartbeats 4000000 in
set_option maxRecDepth 100000 in
theorem rwrite_neg {bb : Option Addr} {n c : Nat} (h : Rv w g im (.slice bb n c) ro low false armed left nw) (i : Int) (ao : Option Addr) (m cc : Nat) (hi : i < 0) : Calls Try.prog 17 #[.pointer (some ⟨g, 0, none⟩), .int .i64 i, .slice ao m cc] w fun e w' => e = .returned (.int .i64 90) ∧ w' = w := by
  have c1 : w.cell? ⟨g, 1, none⟩ = some (.int .i64 low) := Blk.cell h 1
  have c4 := h.c4
  have c2 : w.cell? ⟨g, 2, none⟩ = some (.slice bb n c) := Blk.cell h 2
  have t1 : decide (i < 0) = true := by simpa using hi
  clear h hi
  go_enter Try.func17, Try.ntmps17
  go_wp2_with fail
  go_ret
  exact ⟨rfl, rfl⟩
set_option maxHeartbeats 4000000 in
set_option maxRecDepth 100000 in
theorem rwrite_out {bb : Option Addr} {n c : Nat} (h : Rv w g im (.slice bb n c) ro low false armed left nw) (i : Int) (ao : Option Addr) (m cc : Nat) (hi : ¬ i < 0) (hi2 : (n : Int) ≤ i) : Calls Try.prog 17 #[.pointer (some ⟨g, 0, none⟩), .int .i64 i, .slice ao m cc] w fun e w' => e = .returned (.int .i64 90) ∧ w' = w := by
  have c1 : w.cell? ⟨g, 1, none⟩ = some (.int .i64 low) := Blk.cell h 1
  have c4 := h.c4
  have c2 : w.cell? ⟨g, 2, none⟩ = some (.slice bb n c) := Blk.cell h 2
  have t1 : decide (i < 0) = false := by simpa using hi
  have t2 : decide ((n : Int) ≤ i) = true := by simpa using hi2
  clear h hi hi2
  go_enter Try.func17, Try.ntmps17
  go_wp2_with fail
  go_ret
  exact ⟨rfl, rfl⟩
set_option maxHeartbeats 4000000 in
set_option maxRecDepth 100000 in
theorem rwrite_low {bb : Option Addr} {n c : Nat} (h : Rv w g im (.slice bb n c) ro low false armed left nw) (i : Int) (ao : Option Addr) (m cc : Nat) (hi : ¬ i < 0) (hi2 : i < (n : Int)) (hl : i < low) : Calls Try.prog 17 #[.pointer (some ⟨g, 0, none⟩), .int .i64 i, .slice ao m cc] w fun e w' => e = .returned (.int .i64 92) ∧ w' = w := by
  have c1 : w.cell? ⟨g, 1, none⟩ = some (.int .i64 low) := Blk.cell h 1
  have c4 := h.c4
  have c2 : w.cell? ⟨g, 2, none⟩ = some (.slice bb n c) := Blk.cell h 2
  have t1 : decide (i < 0) = false := by simpa using hi
  have t2 : decide ((n : Int) ≤ i) = false := by simp; omega
  have t3 : decide (i < low) = true := by simpa using hl
  clear h hi hi2 hl
  go_enter Try.func17, Try.ntmps17
  go_wp2_with fail
  go_ret
  exact ⟨rfl, rfl⟩
set_option maxHeartbeats 4000000 in
set_option maxRecDepth 100000 in
theorem rwrite_arg {bb : Option Addr} {n c : Nat} (h : Rv w g im (.slice bb n c) ro low false armed left nw) (i : Int) (ao : Option Addr) (m cc : Nat) (hi : ¬ i < 0) (hi2 : i < (n : Int)) (hl : ¬ i < low) (hm : m ≠ 256) : Calls Try.prog 17 #[.pointer (some ⟨g, 0, none⟩), .int .i64 i, .slice ao m cc] w fun e w' => e = .returned (.int .i64 2) ∧ w' = w := by
  have c1 : w.cell? ⟨g, 1, none⟩ = some (.int .i64 low) := Blk.cell h 1
  have c4 := h.c4
  have c2 : w.cell? ⟨g, 2, none⟩ = some (.slice bb n c) := Blk.cell h 2
  have t1 : decide (i < 0) = false := by simpa using hi
  have t2 : decide ((n : Int) ≤ i) = false := by simp; omega
  have t3 : decide (i < low) = false := by simpa using hl
  have t4 : ((m : Int) != 256) = true := by simp; omega
  have t5 : (m == 256) = false := by simpa using hm
  clear h hi hi2 hl hm
  go_enter Try.func17, Try.ntmps17
  go_wp2_with fail
  go_ret
  exact ⟨rfl, rfl⟩
end Go.Proofs.Ytohmdcbfffgheaa.Dk
