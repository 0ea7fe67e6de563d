/-
  The model's order of texts is one: strict, going on, and of any two unlike ones one is less. No condition.
-/
import Derived.Test.YtcgbaiogbcodcaaGreatDoorPk
import Derived.Test.YtcgbaiogbcodcaaGreatDoorProg
import Derived.Lib.BufferRead
namespace Go.Proofs.YtcgbaiogbcodcaaGreatDoor.Sh
open Go.Lib

theorem bl_irr : ∀ a : List UInt8, Op.bytesLess a a = false
  | [] => rfl
  | a :: x => by
    rw [Op.bytesLess, bl_irr x]
    simp
theorem bl_cons (a b : UInt8) (x y : List UInt8) : Op.bytesLess (a :: x) (b :: y) = true ↔ a < b ∨ (a = b ∧ Op.bytesLess x y = true) := by
  rw [Op.bytesLess]
  simp
theorem bl_nil (b : UInt8) (y : List UInt8) : Op.bytesLess [] (b :: y) = true := rfl
theorem bl_none (x : List UInt8) : Op.bytesLess x [] = false := by cases x <;> rfl
theorem bl_tr (a b c : List UInt8) (h1 : Op.bytesLess a b = true) (h2 : Op.bytesLess b c = true) : Op.bytesLess a c = true := by
  induction a generalizing b c with
  | nil =>
    cases c with
    | nil => rw [bl_none] at h2; cases h2
    | cons z r => exact bl_nil z r
  | cons x p ih =>
    cases b with
    | nil => rw [bl_none] at h1; cases h1
    | cons y q =>
      cases c with
      | nil => rw [bl_none] at h2; cases h2
      | cons z r =>
        rw [bl_cons] at h1 h2 ⊢
        rcases h1 with h1 | ⟨rfl, h1⟩
        · rcases h2 with h2 | ⟨rfl, h2⟩
          · exact Or.inl (UInt8.lt_trans h1 h2)
          · exact Or.inl h1
        · rcases h2 with h2 | ⟨rfl, h2⟩
          · exact Or.inl h2
          · exact Or.inr ⟨rfl, ih q r h1 h2⟩
theorem bl_tot (a b : List UInt8) (h : a ≠ b) : Op.bytesLess a b = true ∨ Op.bytesLess b a = true := by
  induction a generalizing b with
  | nil =>
    cases b with
    | nil => exact absurd rfl h
    | cons y q => exact Or.inl (bl_nil y q)
  | cons x p ih =>
    cases b with
    | nil => exact Or.inr (bl_nil x p)
    | cons y q =>
      rw [bl_cons, bl_cons]
      by_cases hxy : x = y
      · subst hxy
        rcases ih q (fun e => h (by rw [e])) with h1 | h1
        · exact Or.inl (Or.inr ⟨rfl, h1⟩)
        · exact Or.inr (Or.inr ⟨rfl, h1⟩)
      · rcases UInt8.lt_or_lt_of_ne hxy with h1 | h1
        · exact Or.inl (Or.inl h1)
        · exact Or.inr (Or.inl h1)
/-- texts, as lists of bytes -/
def ltL (a b : List UInt8) : Bool := Op.bytesLess a b
theorem ords_L : Ords ltL := ⟨bl_irr, bl_tr, bl_tot⟩
/-- texts, as the model has them -/
def ltB (a b : ByteArray) : Bool := Op.bytesLess a.toList b.toList
theorem toList_inj {a b : ByteArray} (h : a.toList = b.toList) : a = b := by
  rw [toList_data, toList_data] at h
  cases a
  cases b
  simp only [ByteArray.mk.injEq]
  exact Array.toList_inj.1 h
theorem ords_B : Ords ltB := ⟨fun _ => bl_irr _, fun _ _ _ => bl_tr _ _ _, fun _ _ h => bl_tot _ _ fun e => h (toList_inj e)⟩
end Go.Proofs.YtcgbaiogbcodcaaGreatDoor.Sh
