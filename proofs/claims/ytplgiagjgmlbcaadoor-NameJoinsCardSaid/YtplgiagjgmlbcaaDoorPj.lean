/-
  Plain facts on names that are joined: a name that may be has no stroke in it, so what is joined splits into the names again. No condition.
-/
import Derived.Test.YtplgiagjgmlbcaaDoorPi
import Derived.Test.YtplgiagjgmlbcaaDoorPh
namespace Go.Proofs.YtplgiagjgmlbcaaDoor.Nm
open Go.Lib

theorem mem47 {c : UInt8} (h : (47 : UInt8) = c) : c.toNat = 47 := by subst h; rfl
set_option maxRecDepth 100000 in
/-- a stroke within a rune's bytes is the rune -/
theorem take_47 (l : List UInt8) (hne : l ≠ []) (hs : strayL l = false) (h : (47 : UInt8) ∈ l.take (decodeL l).2) : (decodeL l).1 = 47 := by
  have hs' : ¬ decodeL l = (65533, 1) := by simpa [strayL] using hs
  have b0 := (l.getD 0 0).toNat_lt
  have b1 := (l.getD 1 0).toNat_lt
  have b2 := (l.getD 2 0).toNat_lt
  have b3 := (l.getD 3 0).toNat_lt
  rw [decodeL_N] at hs' h ⊢
  by_cases k0 : (l.getD 0 0).toNat < 128
  · rw [dN1 _ _ _ _ _ k0] at h ⊢
    rw [take1' l hne] at h
    exact mem47 (List.mem_singleton.1 h)
  exfalso
  by_cases k1 : (l.getD 0 0).toNat < 194
  · exact hs' (dNbad _ _ _ _ _ (by omega) b1)
  by_cases k2 : (l.getD 0 0).toNat < 224
  · rw [dN2 _ _ _ _ _ (by omega)] at h hs'
    split at h
    · rename_i q
      rw [take2' l q.1] at h
      simp only [List.mem_cons, List.not_mem_nil, or_false] at h
      rcases h with h | h
      all_goals
        have := mem47 h
        omega
    · rename_i q
      exact hs' (if_neg q)
  by_cases k3 : (l.getD 0 0).toNat < 240
  · rw [dN3 _ _ _ _ _ (by omega)] at h hs'
    split at h
    · rename_i q
      rw [take3' l q.2.1.1] at h
      simp only [List.mem_cons, List.not_mem_nil, or_false] at h
      rcases h with h | h | h
      all_goals
        have := mem47 h
        omega
    · rename_i q
      exact hs' (if_neg q)
  by_cases k4 : (l.getD 0 0).toNat < 245
  · rw [dN4 _ _ _ _ _ (by omega)] at h hs'
    split at h
    · rename_i q
      rw [take4' l q.2.2.1.1] at h
      simp only [List.mem_cons, List.not_mem_nil, or_false] at h
      rcases h with h | h | h | h
      all_goals
        have := mem47 h
        omega
    · rename_i q
      exact hs' (if_neg q)
  exact hs' (dNbad _ _ _ _ _ (by omega) b1)
theorem bad_47 : ∀ (f : Nat) (l : List UInt8), l.length ≤ f → badL f l = false → (47 : UInt8) ∉ l
  | 0, l, h, _ => by
    have : l = [] := List.eq_nil_of_length_eq_zero (by omega)
    subst this
    simp
  | f + 1, l, h, hb => by
    by_cases hl : l = []
    · subst hl; simp
    rw [badL, if_neg hl] at hb
    simp only [Bool.or_eq_false_iff, decide_eq_false_iff_not] at hb
    obtain ⟨h47, _, hst, hrest⟩ := hb
    have hw := decodeL_width l
    have ih := bad_47 f (l.drop (decodeL l).2) (by rw [List.length_drop]; have := List.length_pos_iff.2 hl; omega) hrest
    intro hm
    rw [← List.take_append_drop (decodeL l).2 l, List.mem_append] at hm
    rcases hm with hm | hm
    · exact h47 (take_47 l hl hst hm)
    · exact ih hm
/-- what a name that may be is -/
theorem name_ok (l : List UInt8) (h : checkL l = 0) : l ≠ [] ∧ l ≠ [46] ∧ l ≠ [46, 46] ∧ (47 : UInt8) ∉ l ∧ l.length ≤ 100 := by
  unfold checkL at h
  by_cases h0 : l = []
  · rw [if_pos h0] at h; exact absurd h (by decide)
  rw [if_neg h0] at h
  by_cases h1 : 100 < l.length
  · rw [if_pos h1] at h; exact absurd h (by decide)
  rw [if_neg h1] at h
  by_cases h2 : l = [46] ∨ l = [46, 46]
  · rw [if_pos h2] at h; exact absurd h (by decide)
  rw [if_neg h2] at h
  cases hb : badL l.length l with
  | true => rw [hb] at h; exact absurd h (by decide)
  | false => exact ⟨h0, fun e => h2 (Or.inl e), fun e => h2 (Or.inr e), bad_47 _ l (Nat.le_refl _) hb, by omega⟩
theorem pieces_app : ∀ (n t : List UInt8), (47 : UInt8) ∉ n → pieces (n ++ 47 :: t) = n :: pieces t
  | [], t, _ => by rw [List.nil_append, pieces, if_pos rfl]
  | c :: n, t, h => by
    have hc : ¬ c = 47 := fun e => h (by rw [e]; simp)
    rw [List.cons_append, pieces, if_neg hc, pieces_app n t (fun hm => h (List.mem_cons_of_mem _ hm)), headC]
theorem pieces_one : ∀ (n : List UInt8), (47 : UInt8) ∉ n → pieces n = [n]
  | [], _ => rfl
  | c :: n, h => by
    have hc : ¬ c = 47 := fun e => h (by rw [e]; simp)
    rw [pieces, if_neg hc, pieces_one n (fun hm => h (List.mem_cons_of_mem _ hm)), headC]
theorem join_pieces : ∀ (n : ByteArray) (r : List ByteArray), (∀ m ∈ n :: r, (47 : UInt8) ∉ m.data.toList) → pieces (n.data.toList ++ joinL r) = (n :: r).map (·.data.toList)
  | n, [], h => by
    rw [joinL, List.append_nil, pieces_one _ (h n (by simp))]
    rfl
  | n, m :: r, h => by
    rw [joinL, pieces_app _ _ (h n (by simp)), join_pieces m r (fun x hx => h x (List.mem_cons_of_mem _ hx))]
    rfl
theorem goP_names : ∀ (l acc : List ByteArray), (∀ m ∈ l, checkL m.data.toList = 0) → goP acc (l.map (·.data.toList)) = (acc ++ l, 0)
  | [], acc, _ => by simp [goP]
  | n :: r, acc, h => by
    have hn := h n (by simp)
    obtain ⟨a, b, c, _, _⟩ := name_ok _ hn
    rw [List.map_cons, goP, if_neg (fun e => e.elim a b), if_neg c, if_pos hn, mkB_of, goP_names r _ (fun x hx => h x (List.mem_cons_of_mem _ hx))]
    simp
theorem joinL_app : ∀ (a b : List ByteArray), joinL (a ++ b) = joinL a ++ joinL b
  | [], b => by simp [joinL]
  | n :: a, b => by
    rw [List.cons_append, joinL, joinL, joinL_app a b]
    simp
theorem joinL_ge : ∀ (l : List ByteArray), l.length ≤ (joinL l).length
  | [] => by simp [joinL]
  | n :: r => by
    have := joinL_ge r
    simp only [joinL, List.length_cons, List.length_append]
    omega
theorem last_of : ∀ (q : List ByteArray) (x : ByteArray), ∃ y ∈ x :: q, (q.map (·.data.toList)).getLastD x.data.toList = y.data.toList
  | [], x => ⟨x, by simp, rfl⟩
  | z :: q, x => by
    obtain ⟨y, hy, he⟩ := last_of q z
    exact ⟨y, List.mem_cons_of_mem _ hy, by rw [List.map_cons, List.getLastD_cons]; exact he⟩
theorem joins_back (l : List ByteArray) (h : ∀ m ∈ l, checkL m.data.toList = 0) (hl : (joinL l).length ≤ 1000) : splitN ⟨(joinN l).toArray⟩ = (l, decide (l = []), 0) := by
  cases l with
  | nil => decide +kernel
  | cons n r =>
    have hd : (⟨(joinN (n :: r)).toArray⟩ : ByteArray).data.toList = 47 :: (n.data.toList ++ joinL r) := by
      rw [joinN, if_neg (by simp)]
      rfl
    have hs : (⟨(joinN (n :: r)).toArray⟩ : ByteArray).size = (joinL (n :: r)).length := by
      rw [size_eq, hd]
      rfl
    have h47 : ∀ m ∈ n :: r, (47 : UInt8) ∉ m.data.toList := fun m hm => (name_ok _ (h m hm)).2.2.2.1
    rw [splitN_run _ (by rw [hd]; simp) (by rw [hs]; omega) (by rw [hd]; rfl), hd]
    rw [show (47 :: (n.data.toList ++ joinL r) : List UInt8).drop 1 = n.data.toList ++ joinL r from rfl, join_pieces n r h47]
    unfold runS
    rw [goP_names _ _ h]
    simp only [List.nil_append, if_true]
    have hlast : ∀ (x : ByteArray) (q : List ByteArray), (∀ m ∈ x :: q, checkL m.data.toList = 0) → dirP ((([] : List UInt8) :: (x :: q).map (·.data.toList)).getLastD []) = false := by
      intro x q hq
      obtain ⟨y, hy, e⟩ := last_of q x
      rw [List.map_cons, List.getLastD_cons, List.getLastD_cons, e]
      obtain ⟨a, b, _⟩ := name_ok _ (hq y hy)
      unfold dirP
      exact decide_eq_false (fun hh => hh.elim a b)
    rw [hlast n r h]
    simp
end Go.Proofs.YtplgiagjgmlbcaaDoor.Nm
