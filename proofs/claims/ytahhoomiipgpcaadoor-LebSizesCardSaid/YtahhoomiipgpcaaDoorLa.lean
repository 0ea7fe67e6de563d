/-
  The walk of the statement LebSizes. Condition: the library's variable errors.errorType is as its text lays it.
-/
import Derived.Test.YtahhoomiipgpcaaDoorWk
namespace Go.Proofs.YtahhoomiipgpcaaDoor.Lb
open Go.RowKit Go.Lib

set_option maxHeartbeats 1000000 in
set_option maxRecDepth 100000 in
theorem sizes_law (x y : Nat) (hx : x < 18446744073709551616) (hy : y < 18446744073709551616) (w : World) (hg : ErrT w) :
    Calls Tryd.prog 3 #[.int .u64 x, .int .u64 y] w fun e w' => e = .returned (.bool true) ∧ Below w.heap.size w w' := by
  have sx := size_any x hx
  have sy := size_any y hy
  have px := put_any x hx
  have hl := putL_len x
  have hm : x ≤ y → (putL x).length ≤ (putL y).length := fun h => len_mono x y h hy
  have sh0 : ((x : Int) / 2 ^ (7 * (putL x).length)) = 0 := by
    have h := shift_none x hx
    rw [Nat.shiftRight_eq_div_pow] at h
    have e : ((x : Int) / 2 ^ (7 * (putL x).length)) = ((x / 2 ^ (7 * (putL x).length) : Nat) : Int) := by rw [Int.natCast_ediv, Int.natCast_pow]; rfl
    rw [e, h]
    rfl
  have sh1 : 1 < (putL x).length → ((x : Int) / 2 ^ (7 * (putL x).length - 7) == 0) = false := fun h1 => by
    have h := shift_some x hx h1
    rw [Nat.shiftRight_eq_div_pow] at h
    have e : ((x : Int) / 2 ^ (7 * (putL x).length - 7)) = ((x / 2 ^ (7 * (putL x).length - 7) : Nat) : Int) := by rw [Int.natCast_ediv, Int.natCast_pow]; rfl
    rw [e]
    simp only [beq_eq_false_iff_ne, ne_eq]
    omega
  obtain ⟨n, hn⟩ : ∃ n, n = (putL x).length := ⟨_, rfl⟩
  obtain ⟨m, hm'⟩ : ∃ m, m = (putL y).length := ⟨_, rfl⟩
  rw [← hn] at sx px hl hm sh0 sh1
  rw [← hm'] at sy hm
  have SX := Lib.hid sx
  have SY := Lib.hid sy
  have PX := Lib.hid px
  have al : ∀ (W : World) (o : Obj), Below W.heap.size W (W.alloc o) := fun W o => (Below.refl _ W).alloc (Nat.le_refl _) o
  have hcase : (x ≤ y ∧ n ≤ m ∧ 1 < n ∧ ((x : Int) / 2 ^ (7 * n - 7) == 0) = false) ∨ (x ≤ y ∧ n ≤ m ∧ n = 1) ∨ (¬ x ≤ y ∧ 1 < n ∧ ((x : Int) / 2 ^ (7 * n - 7) == 0) = false) ∨ (¬ x ≤ y ∧ n = 1) := by
    by_cases h1 : x ≤ y <;> by_cases h2 : 1 < n
    · exact Or.inl ⟨h1, hm h1, h2, sh1 h2⟩
    · exact Or.inr (Or.inl ⟨h1, hm h1, by omega⟩)
    · exact Or.inr (Or.inr (Or.inl ⟨h1, h2, sh1 h2⟩))
    · exact Or.inr (Or.inr (Or.inr ⟨h1, by omega⟩))
  clear sx sy px hm hn hm' sh1
  rcases hcase with ⟨k1, k2, k3, k4⟩ | ⟨k1, k2, rfl⟩ | ⟨k1, k3, k4⟩ | ⟨k1, rfl⟩
  all_goals
    go_enter Tryd.func3, Tryd.ntmps3
    go_wp2_with fail
    refine (SX.out _).mono ?_
    rintro e w1 ⟨rfl, rfl⟩
    go_wp2_with (first | (go_at_call 8; refine (SY.out _).mono ?_; rintro e w1 ⟨rfl, rfl⟩) | (go_at_call 9; refine (PX.out _).mono ?_; rintro e w1 ⟨rfl, rfl⟩))
    all_goals
      refine (heads_any _ (hg.alloc _)).mono ?_
      rintro e w2 ⟨rfl, b2⟩
      go_wp2_with fail
      go_ret
      exact ⟨rfl, (al w _).trans (b2.mono (by simp))⟩
end Go.Proofs.YtahhoomiipgpcaaDoor.Lb
