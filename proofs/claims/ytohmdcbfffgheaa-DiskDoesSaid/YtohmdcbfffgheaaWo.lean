/-
  The contract of slices.Chunk at this program. Conditions: each law's own.
-/
import Derived.Test.YtohmdcbfffgheaaWn
namespace Go.Proofs.Ytohmdcbfffgheaa.Dk
open Go.RowKit Go.Lib Go.Maps
variable {w : World}
set_option maxRecDepth 100000 in
theorem chunk_40 (ao : Option Addr) (n c : Nat) : Calls Try.prog 40 #[.slice ao n c, .int .i64 256] w fun e w' => e = .returned (.func (.func 48) #[] #[.pointer (some ⟨w.heap.size, 0, none⟩), .pointer (some ⟨w.heap.size + 1, 0, none⟩)]) ∧ w' = (w.alloc (.cells #[.slice ao n c] 29)).alloc (.cells #[.int .i64 256] 3) := by
  go_enter Try.func40, Try.ntmps40
  go_wp2_with fail
  go_ret
  simp
set_option maxHeartbeats 4000000 in
set_option maxRecDepth 100000 in
theorem load_bad (ao : Option Addr) (m c : Nat) (low : Int) (h : m % 256 ≠ 0 ∨ m < 256 ∨ m / 256 > 4096 ∨ low < 0 ∨ low > (m / 256 : Nat)) (hm : m ≤ 140737488355328) :
    Calls Try.prog 15 #[.slice ao m c, .int .i64 low] w fun e w' => e = .returned (.tuple #[.pointer none, .int .i64 2]) ∧ w' = w := by
  by_cases h1 : m % 256 = 0
  · obtain ⟨q, hq⟩ : ∃ q, q = m / 256 := ⟨_, rfl⟩
    rw [← hq] at h
    have e1 : ((m : Int) % 256 != 0) = false := by simp; omega
    have e2 : (((m : Int).tmod 256) != 0) = false := by rw [Int.tmod_eq_emod_of_nonneg (by omega)]; exact e1
    have e3 : (m : Int) / 256 = (q : Int) := by omega
    have e4 : (m : Int).tdiv 256 = (q : Int) := by rw [Int.tdiv_eq_ediv_of_nonneg (by omega)]; exact e3
    have q0 : (0 : Int) ≤ (q : Int) := by omega
    have q1 : (q : Int) ≤ 140737488355328 := by omega
    have wq : wrap64 (q : Int) = (q : Int) := IntWalk.wrap64_in _ ⟨by omega, by omega⟩
    by_cases h2 : q < 1
    · have t2 : decide ((q : Int) < 1) = true := by simp; omega
      clear h h1 hq hm
      go_enter Try.func15, Try.ntmps15
      go_wp2_with fail
      go_ret2
      exact ⟨rfl, rfl⟩
    have t2 : decide ((q : Int) < 1) = false := by simp; omega
    have t2' : decide (q < 1) = false := by simp; omega
    by_cases h3 : q > 4096
    · have t3 : decide ((4096 : Int) < (q : Int)) = true := by simp; omega
      clear h h1 hq hm
      go_enter Try.func15, Try.ntmps15
      go_wp2_with fail
      go_ret2
      exact ⟨rfl, rfl⟩
    have t3 : decide ((4096 : Int) < (q : Int)) = false := by simp; omega
    have t3' : decide (4096 < q) = false := by simp; omega
    by_cases h4 : low < 0
    · have t4 : decide (low < 0) = true := by simpa using h4
      clear h h1 hq hm
      go_enter Try.func15, Try.ntmps15
      go_wp2_with fail
      go_ret2
      exact ⟨rfl, rfl⟩
    have t4 : decide (low < 0) = false := by simpa using h4
    have h5 : (q : Int) < low := by omega
    · have t5 : decide ((q : Int) < low) = true := by simpa using h5
      clear h h1 hq hm
      go_enter Try.func15, Try.ntmps15
      go_wp2_with fail
      go_ret2
      exact ⟨rfl, rfl⟩
  · have e1 : ((m : Int) % 256 != 0) = true := by simp; omega
    have e2 : (((m : Int).tmod 256) != 0) = true := by rw [Int.tmod_eq_emod_of_nonneg (by omega)]; exact e1
    clear h h1
    go_enter Try.func15, Try.ntmps15
    go_wp2_with fail
    go_ret2
    exact ⟨rfl, rfl⟩
/-- how many sectors a row of bytes fills, the last one perhaps not wholly -/
def upTo (m : Nat) : Nat := if m % 256 = 0 then m / 256 else m / 256 + 1
set_option maxHeartbeats 4000000 in
set_option maxRecDepth 100000 in
theorem new_bad (n : Int) (ao : Option Addr) (m c : Nat) (h : n < 0 ∨ n > 4096 - (upTo m : Int)) (hm : m ≤ 140737488355328) (hn : n ≤ 9223372036854775807) :
    Calls Try.prog 9 #[.int .i64 n, .slice ao m c] w fun e w' => e = .returned (.tuple #[.pointer none, .int .i64 2]) ∧ w' = w := by
  obtain ⟨q, hq⟩ : ∃ q, q = m / 256 := ⟨_, rfl⟩
  have e3 : (m : Int) / 256 = (q : Int) := by omega
  have e4 : (m : Int).tdiv 256 = (q : Int) := by rw [Int.tdiv_eq_ediv_of_nonneg (by omega)]; exact e3
  have q0 : (0 : Int) ≤ (q : Int) := by omega
  have q1 : (q : Int) ≤ 140737488355328 := by omega
  have wq : wrap64 (q : Int) = (q : Int) := IntWalk.wrap64_in _ ⟨by omega, by omega⟩
  by_cases h1 : m % 256 = 0
  · have eu : upTo m = q := by unfold upTo; rw [if_pos h1, hq]
    rw [eu] at h
    have e1 : ((m : Int) % 256 != 0) = false := by simp; omega
    have e2 : (((m : Int).tmod 256) != 0) = false := by rw [Int.tmod_eq_emod_of_nonneg (by omega)]; exact e1
    by_cases h2 : n < 0
    · have t2 : decide (n < 0) = true := by simpa using h2
      clear h h1 hq hm eu
      go_enter Try.func9, Try.ntmps9
      go_wp2_with fail
      go_ret2
      exact ⟨rfl, rfl⟩
    · have t2 : decide (n < 0) = false := by simpa using h2
      have t3 : decide (4096 - (q : Int) < n) = true := by simp; omega
      have w3 : wrap64 (4096 - (q : Int)) = 4096 - (q : Int) := IntWalk.wrap64_in _ ⟨by omega, by omega⟩
      clear h h1 hq hm eu
      go_enter Try.func9, Try.ntmps9
      go_wp2_with fail
      go_ret2
      exact ⟨rfl, rfl⟩
  · have eu : upTo m = q + 1 := by unfold upTo; rw [if_neg h1, hq]
    rw [eu] at h
    have e1 : ((m : Int) % 256 != 0) = true := by simp; omega
    have e2 : (((m : Int).tmod 256) != 0) = true := by rw [Int.tmod_eq_emod_of_nonneg (by omega)]; exact e1
    have w2 : wrap64 ((q : Int) + 1) = (q : Int) + 1 := IntWalk.wrap64_in _ ⟨by omega, by omega⟩
    by_cases h2 : n < 0
    · have t2 : decide (n < 0) = true := by simpa using h2
      clear h h1 hq hm eu
      go_enter Try.func9, Try.ntmps9
      go_wp2_with fail
      go_ret2
      exact ⟨rfl, rfl⟩
    · have t2 : decide (n < 0) = false := by simpa using h2
      have t3 : decide (4096 - ((q : Int) + 1) < n) = true := by simp; omega
      have w3 : wrap64 (4096 - ((q : Int) + 1)) = 4096 - ((q : Int) + 1) := IntWalk.wrap64_in _ ⟨by omega, by omega⟩
      clear h h1 hq hm eu
      go_enter Try.func9, Try.ntmps9
      go_wp2_with fail
      go_ret2
      exact ⟨rfl, rfl⟩
end Go.Proofs.Ytohmdcbfffgheaa.Dk
