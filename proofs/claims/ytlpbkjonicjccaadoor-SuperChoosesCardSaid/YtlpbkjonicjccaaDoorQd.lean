/-
  A number's eight bytes with one bit more (plain mathematics).
-/
import Derived.Test.YtlpbkjonicjccaaDoorQa
namespace Go.Proofs.YtlpbkjonicjccaaDoor.Sh

theorem byte_fin : ∀ y : Fin 256, ∀ s : Fin 8, (y : Nat).testBit s = false → (y : Nat) ||| 2 ^ (s : Nat) = (y : Nat) + 2 ^ (s : Nat) := by decide +kernel
theorem byte_fin2 : ∀ y : Fin 256, ∀ s : Fin 8, (y : Nat).testBit s = false → (y : Nat) + 2 ^ (s : Nat) < 256 := by decide +kernel
theorem byte_or (y s : Nat) (hy : y < 256) (hs : s < 8) (h : y.testBit s = false) : y ||| 2 ^ s = y + 2 ^ s ∧ y + 2 ^ s < 256 :=
  ⟨byte_fin ⟨y, hy⟩ ⟨s, hs⟩ h, byte_fin2 ⟨y, hy⟩ ⟨s, hs⟩ h⟩
theorem byte_bit (x j i : Nat) : (x / 2 ^ (8 * j) % 256).testBit i = (decide (i < 8) && x.testBit (8 * j + i)) := by
  rw [show 256 = 2 ^ 8 from rfl, Nat.testBit_mod_two_pow, Nat.testBit_div_two_pow]
  rw [Nat.add_comm]
theorem byte_at8 (x k j : Nat) : (x ||| 2 ^ k) / 2 ^ (8 * j) % 256 = (x / 2 ^ (8 * j) % 256) ||| (if j = k / 8 then 2 ^ (k % 8) else 0) := by
  apply Nat.eq_of_testBit_eq
  intro i
  rw [byte_bit, Nat.testBit_or, Nat.testBit_or, byte_bit, Nat.testBit_two_pow]
  by_cases hi : i < 8
  · by_cases hj : j = k / 8
    · rw [if_pos hj, Nat.testBit_two_pow]
      have : decide (k = 8 * j + i) = decide (k % 8 = i) := by
        congr 1
        simp only [eq_iff_iff]
        omega
      rw [this]
      simp [hi]
    · rw [if_neg hj]
      have : decide (k = 8 * j + i) = false := by simp; omega
      rw [this]
      simp
  · by_cases hj : j = k / 8
    · rw [if_pos hj, Nat.testBit_two_pow]
      have : decide (k % 8 = i) = false := by simp; omega
      rw [this]
      simp [hi]
    · rw [if_neg hj]
      simp [hi]
/-- a bit more, in its byte -/
theorem le8_or (x k y : Nat) (hk : k < 64) (hy : y = x / 2 ^ (8 * (k / 8)) % 256) (h : x.testBit k = false) :
    le8 (x ||| 2 ^ k) = (le8 x).set (k / 8) (y + 2 ^ (k % 8)).toUInt8 ∧ y + 2 ^ (k % 8) < 256 ∧ (le8 x)[k / 8]? = some y.toUInt8 ∧ y < 256 := by
  have hy2 : y < 256 := by rw [hy]; exact Nat.mod_lt _ (by decide)
  have hb : y.testBit (k % 8) = false := by
    rw [hy, byte_bit, show 8 * (k / 8) + k % 8 = k by omega, h, Bool.and_false]
  obtain ⟨h1, h2⟩ := byte_or y (k % 8) hy2 (by omega) hb
  refine ⟨?_, h2, ?_, hy2⟩
  · apply List.ext_getElem
    · rw [List.length_set, le8_len, le8_len]
    · intro j a1 a2
      rw [le8_len] at a1
      rw [le8_get _ _ a1, byte_at8]
      by_cases hj : j = k / 8
      · subst hj
        rw [if_pos rfl, ← hy, h1, List.getElem_set_self]
      · rw [if_neg hj, Nat.or_zero, List.getElem_set_ne (fun he => hj he.symm), le8_get _ _ a1]
  · rw [List.getElem?_eq_getElem (by rw [le8_len]; omega), le8_get _ _ (by omega), ← hy]
theorem or_fresh (p : List Int) (hsu : SU ltI p) (hq : ∀ q ∈ p, 0 ≤ q ∧ q < 62) (i : Nat) (h : i < p.length) : (orL (p.take i)).testBit (p[i]).toNat = false := by
  rw [orL_has, List.any_eq_false]
  intro q hm
  obtain ⟨j, hj, rfl⟩ := List.getElem_of_mem hm
  rw [List.length_take] at hj
  rw [List.getElem_take]
  have h1 := List.pairwise_iff_getElem.1 hsu j i (by omega) h (by omega)
  have h2 := hq p[j] (List.getElem_mem _)
  have h3 := hq p[i] (List.getElem_mem _)
  simp only [ltI, decide_eq_true_eq] at h1
  simp
  omega
end Go.Proofs.YtlpbkjonicjccaaDoor.Sh
