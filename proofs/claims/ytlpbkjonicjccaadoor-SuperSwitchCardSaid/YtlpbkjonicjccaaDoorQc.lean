/-
  A sector of which one bit is turned is none (plain mathematics).
-/
import Derived.Test.YtlpbkjonicjccaaDoorQa
namespace Go.Proofs.YtlpbkjonicjccaaDoor.Sh
open Cr

theorem flip_ne (l : List UInt8) (k : Nat) (h : k < 8 * l.length) : l ≠ Cr.flip l k := fun he => by
  have := flip_bit l k k h
  rw [← he] at this
  generalize bitAt l k = b at this
  cases b <;> simp at this
theorem flip_left (a b : List UInt8) (k : Nat) (h : k / 8 < a.length) : Cr.flip (a ++ b) k = Cr.flip a k ++ b := by
  unfold Cr.flip
  rw [List.set_append_left _ _ h, List.getD_eq_getElem?_getD, List.getElem?_append_left h, ← List.getD_eq_getElem?_getD]
theorem flip_right (a b : List UInt8) (k : Nat) (h : a.length ≤ k / 8) : Cr.flip (a ++ b) k = a ++ Cr.flip b (k - 8 * a.length) := by
  unfold Cr.flip
  rw [List.set_append_right _ _ h, List.getD_eq_getElem?_getD, List.getElem?_append_right h, ← List.getD_eq_getElem?_getD, show (k - 8 * a.length) / 8 = k / 8 - a.length by omega, show (k - 8 * a.length) % 8 = k % 8 by omega]
theorem tells_one (b : List UInt8) (k : Nat) (h : k < 8 * (bytesL b).length) : rightL (Cr.flip (bytesL b) k) = false := by
  have := tells b k 1 1 (by decide) (by omega)
  have e : flipN k 1 1 (bytesL b) = Cr.flip (bytesL b) k := rfl
  rw [e] at this
  rw [this]
  exact decide_eq_false (flip_ne _ _ h)
/-- a sector of which one bit is turned is none -/
theorem get_flip {s : SP} (h : okP s = true) (k : Nat) (hk : k < 2048) : getL (Cr.flip (secL s) k) = none := by
  cases ht : getL (Cr.flip (secL s) k) with
  | none => rfl
  | some t =>
    exfalso
    obtain ⟨h1, h2, _⟩ := getL_some ht
    obtain ⟨m, _, hm, _, _, _, _, e⟩ := okP_key h
    obtain ⟨m', _, hm', _, _, _, _, e'⟩ := okP_key h1
    rw [e, e', secOf, secOf] at h2
    have l1 : (bytesL (headL s.g.toNat m (orL s.p))).length = 56 := by rw [bytesL_len, headL_len _ _ _ hm]
    have l2 : (bytesL (headL t.g.toNat m' (orL t.p))).length = 56 := by rw [bytesL_len, headL_len _ _ _ hm']
    by_cases hlt : k / 8 < 56
    · rw [flip_left _ _ _ (by rw [l1]; exact hlt)] at h2
      have h3 := (List.append_inj h2 (by rw [l2, flip_len, l1])).1
      have h4 := tells_one (headL s.g.toNat m (orL s.p)) k (by rw [l1]; omega)
      rw [← h3, right_bytes] at h4
      cases h4
    · rw [flip_right _ _ _ (by rw [l1]; omega)] at h2
      have h3 := (List.append_inj h2 (by rw [l2, l1])).2
      exact flip_ne _ _ (by rw [l1, List.length_replicate]; omega) h3
end Go.Proofs.YtlpbkjonicjccaaDoor.Sh
