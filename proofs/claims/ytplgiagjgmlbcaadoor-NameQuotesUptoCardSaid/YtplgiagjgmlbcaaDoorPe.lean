/-
  Plain facts on quoted texts: a text is no longer than what it is quoted as. No program in it, no condition.
-/
import Derived.Test.YtplgiagjgmlbcaaDoorPd
namespace Go.Proofs.YtplgiagjgmlbcaaDoor.Nm
open Go.Lib

theorem quoteOne_ge (l : List UInt8) (hl : l ≠ []) : (decodeL l).2 ≤ (quoteOne l).length := by
  have h4 := width_four l
  cases hs : strayL l with
  | true =>
    have hd : decodeL l = (65533, 1) := by simpa [strayL] using hs
    rw [quoteOne_stray l hs, hd]
    simp only [List.length_append, List.length_cons, List.length_nil]
    omega
  | false =>
    have he := congrArg List.length (encode_decode l hl hs)
    rw [List.length_take] at he
    have hw := width_le l hl
    have h5 := (hexF_len 5 (decodeL l).1).1
    unfold quoteOne
    rw [hs, if_neg (by simp)]
    split
    · simp only [List.length_cons]; omega
    · split
      · omega
      · simp only [List.length_append, List.length_cons, List.length_nil]; omega
theorem quoteB_ge : ∀ (f : Nat) (l : List UInt8), l.length ≤ f → l.length ≤ (quoteB f l).length
  | 0, l, h => by omega
  | f + 1, l, h => by
    by_cases hl : l = []
    · subst hl; simp
    · have h1 := quoteOne_ge l hl
      have h2 := decodeL_width l
      have h3 := quoteB_ge f (l.drop (decodeL l).2) (by rw [List.length_drop]; omega)
      rw [List.length_drop] at h3
      rw [quoteB_cons f l hl, List.length_append]
      omega
theorem quoteL_ge (l : List UInt8) : l.length + 2 ≤ (quoteL l).length := by
  have := quoteB_ge l.length l (Nat.le_refl _)
  unfold quoteL
  simp only [List.length_cons, List.length_append, List.length_nil]
  omega
end Go.Proofs.YtplgiagjgmlbcaaDoor.Nm
