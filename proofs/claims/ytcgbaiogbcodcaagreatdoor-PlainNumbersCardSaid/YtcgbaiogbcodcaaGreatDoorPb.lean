/-
  Plain: how many bytes a number has, by the number of its bits. Condition: the number is below 2^64.
-/
import Derived.Test.YtcgbaiogbcodcaaGreatDoorPn
import Derived.Lib.ItoaNum
namespace Go.Proofs.YtcgbaiogbcodcaaGreatDoor.Lb
open Go.Lib

theorem or_one (x : Nat) : x ||| 1 = 2 * (x / 2) + 1 := by
  apply Nat.eq_of_testBit_eq
  intro i
  cases i with
  | zero => simp
  | succ i =>
    rw [Nat.testBit_or]
    have h1 : Nat.testBit 1 (i + 1) = false := by simp [Nat.testBit_succ]
    have h2 : (2 * (x / 2) + 1) / 2 = x / 2 := by omega
    rw [h1, Bool.or_false, Nat.testBit_succ, Nat.testBit_succ, h2]
theorem pow128 (n : Nat) : 128 ^ n = 2 ^ (7 * n) := by
  rw [Nat.pow_mul]
theorem size_eq (x : Nat) (h : x < 18446744073709551616) : (bitLen (x ||| 1) + 6) / 7 = (putL x).length ∧ 1 ≤ bitLen (x ||| 1) ∧ bitLen (x ||| 1) ≤ 64 := by
  obtain ⟨y, hy⟩ : ∃ y, y = x ||| 1 := ⟨_, rfl⟩
  rw [← hy]
  rw [or_one] at hy
  have hl := putL_len x
  obtain ⟨hp1, hp2⟩ := putL_pow x h
  have hb := bitLenAux_bounds 64 y (by show y < 18446744073709551616; omega) (by omega)
  obtain ⟨b1, b2, b3⟩ := hb
  have hL : bitLenAux 64 y = bitLen y := rfl
  rw [hL] at b1 b2 b3
  obtain ⟨L, hLL⟩ : ∃ L, L = bitLen y := ⟨_, rfl⟩
  obtain ⟨n, hn⟩ : ∃ n, n = (putL x).length := ⟨_, rfl⟩
  rw [← hLL] at b1 b2 b3 ⊢
  rw [← hn] at hl hp1 hp2 ⊢
  have h64 : L ≤ 64 := by
    apply Nat.le_of_not_lt
    intro hc
    have : 2 ^ 64 ≤ 2 ^ (L - 1) := Nat.pow_le_pow_right (by decide) (by omega)
    have e : (2 : Nat) ^ 64 = 18446744073709551616 := by decide
    omega
  have hup : L ≤ 7 * n := by
    apply Nat.le_of_not_lt
    intro hc
    have h1 : 2 ^ (7 * n) ≤ 2 ^ (L - 1) := Nat.pow_le_pow_right (by decide) (by omega)
    rw [pow128] at hp1
    obtain ⟨m, hm⟩ : ∃ m, 7 * n = m + 1 := ⟨7 * n - 1, by omega⟩
    rw [hm, Nat.pow_succ] at h1 hp1
    omega
  have hlo : 1 < n → 7 * (n - 1) < L := by
    intro h1
    have h2 := hp2 h1
    rw [pow128] at h2
    apply Nat.lt_of_not_le
    intro hc
    have h3 : 2 ^ L ≤ 2 ^ (7 * (n - 1)) := Nat.pow_le_pow_right (by decide) hc
    omega
  refine ⟨?_, b1, h64⟩
  by_cases h1 : 1 < n
  · have := hlo h1
    omega
  · omega
/-- the Go text's own formula -/
theorem size_int (x : Nat) (h : x < 18446744073709551616) : ((bitLen (x ||| 1) : Nat) : Int) + 7 - 1 = ((bitLen (x ||| 1) + 6 : Nat) : Int) := by
  have := size_eq x h
  omega

/-- more is as long, or longer -/
theorem len_mono (x y : Nat) (h : x ≤ y) (hy : y < 18446744073709551616) : (putL x).length ≤ (putL y).length := by
  have hx := putL_pow x (by omega)
  have hyy := putL_pow y hy
  have hl := putL_len y
  apply Nat.le_of_not_lt
  intro hc
  have h1 := hx.2 (by omega)
  have h2 : 128 ^ (putL y).length ≤ 128 ^ ((putL x).length - 1) := Nat.pow_le_pow_right (by decide) (by omega)
  omega
/-- seven bits a byte are enough, and one byte less is not -/
theorem shift_none (x : Nat) (hx : x < 18446744073709551616) : x >>> (7 * (putL x).length) = 0 := by
  rw [Nat.shiftRight_eq_div_pow, ← pow128]
  exact Nat.div_eq_of_lt (putL_pow x hx).1
theorem shift_some (x : Nat) (hx : x < 18446744073709551616) (h : 1 < (putL x).length) : x >>> (7 * (putL x).length - 7) ≠ 0 := by
  rw [Nat.shiftRight_eq_div_pow, show 7 * (putL x).length - 7 = 7 * ((putL x).length - 1) by omega, ← pow128]
  have := Nat.div_pos ((putL_pow x hx).2 h) (Nat.pow_pos (by decide))
  omega
end Go.Proofs.YtcgbaiogbcodcaaGreatDoor.Lb
