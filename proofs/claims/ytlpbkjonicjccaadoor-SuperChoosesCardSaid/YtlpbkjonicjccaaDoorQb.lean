/-
  A row of ints sorted, then made compact, is the row sorted, each once. No condition; nothing of the program.
-/
import Derived.Test.YtlpbkjonicjccaaDoorQa
import Derived.Lib.SlicesCompact
namespace Go.Proofs.YtlpbkjonicjccaaDoor.Sh
open Go.Lib
def mergeI (p : List Int) : List Int := p.mergeSort fun x y => decide (x ≤ y)
theorem mergeI_len (p : List Int) : (mergeI p).length = p.length := List.length_mergeSort _
theorem compact_su (zs : List Int) (h : zs.Pairwise (fun a b => a ≤ b)) : SU ltI (Lib.compact zs) ∧ ∀ x, x ∈ Lib.compact zs ↔ x ∈ zs := by
  have hs : ∀ i j, i < j → j < zs.length → zs.toArray[i]! ≤ zs.toArray[j]! := fun i j h1 h2 => by
    have := List.pairwise_iff_getElem.1 h i j (by omega) h2 h1
    simpa [show i < zs.length by omega, h2] using this
  have key : ∀ m, m ≤ zs.length → SU ltI (compactUpTo zs.toArray m) ∧ (∀ x, x ∈ compactUpTo zs.toArray m ↔ ∃ j, j < m ∧ zs.toArray[j]! = x) := by
    intro m
    induction m with
    | zero => intro _; exact ⟨by simp [compactUpTo, su_nil], by simp [compactUpTo]⟩
    | succ m ih =>
      intro hm
      obtain ⟨h1, h2⟩ := ih (by omega)
      rw [compactUpTo_succ]
      by_cases hk : keeps zs.toArray m = true
      · rw [if_pos hk]
        refine ⟨List.pairwise_append.2 ⟨h1, List.pairwise_singleton _ _, fun a ha b hb => ?_⟩, fun x => ?_⟩
        · obtain rfl := List.mem_singleton.1 hb
          obtain ⟨j, hj, rfl⟩ := (h2 a).1 ha
          simp only [keeps, decide_eq_true_eq] at hk
          simp only [ltI, decide_eq_true_eq]
          rcases hk with h0 | h0
          · omega
          · have a1 : zs.toArray[m - 1]! ≤ zs.toArray[m]! := hs _ _ (by omega) (by omega)
            have a2 : zs.toArray[j]! ≤ zs.toArray[m - 1]! := by
              by_cases hj2 : j = m - 1
              · rw [hj2]; exact Int.le_refl _
              · exact hs _ _ (by omega) (by omega)
            omega
        · rw [List.mem_append, h2, List.mem_singleton]
          constructor
          · rintro (⟨j, hj, rfl⟩ | rfl)
            · exact ⟨j, by omega, rfl⟩
            · exact ⟨m, by omega, rfl⟩
          · rintro ⟨j, hj, rfl⟩
            by_cases hjm : j = m
            · exact .inr (by rw [hjm])
            · exact .inl ⟨j, by omega, rfl⟩
      · rw [if_neg hk, List.append_nil]
        refine ⟨h1, fun x => ?_⟩
        rw [h2]
        simp only [keeps, decide_eq_true_eq, not_or, Classical.not_not] at hk
        constructor
        · rintro ⟨j, hj, rfl⟩
          exact ⟨j, by omega, rfl⟩
        · rintro ⟨j, hj, rfl⟩
          by_cases hjm : j = m
          · exact ⟨m - 1, by omega, by rw [hjm, hk.2]⟩
          · exact ⟨j, by omega, rfl⟩
  obtain ⟨h1, h2⟩ := key zs.length (Nat.le_refl _)
  refine ⟨h1, fun x => (h2 x).trans ?_⟩
  rw [List.mem_iff_getElem]
  constructor
  · rintro ⟨j, hj, rfl⟩
    exact ⟨j, hj, by simp [hj]⟩
  · rintro ⟨j, hj, rfl⟩
    exact ⟨j, hj, by simp [hj]⟩
theorem compact_merge (p : List Int) : Lib.compact (mergeI p) = sortU ltI p := by
  have hp : (mergeI p).Pairwise (fun a b => a ≤ b) := by
    have := List.pairwise_mergeSort (le := fun (x y : Int) => decide (x ≤ y)) (by intro a b c; simp; omega) (by intro a b; simp; omega) p
    exact this.imp (by intro a b h; simpa using h)
  obtain ⟨h1, h2⟩ := compact_su _ hp
  exact sortU_is ltI ords_I p _ h1 fun x => (h2 x).trans List.mem_mergeSort
theorem compact_len (zs : List Int) : (Lib.compact zs).length ≤ zs.length := by
  unfold Lib.compact compactUpTo
  rw [List.length_map]
  exact Nat.le_trans (List.length_filter_le _ _) (by simp)
end Go.Proofs.YtlpbkjonicjccaaDoor.Sh
