/-
  The order of texts, plain: it is that of lists of numbers, so it is total. No program in it, no condition.
-/
import Derived.Test.YtplgiagjgmlbcaaDoorWo
namespace Go.Proofs.YtplgiagjgmlbcaaDoor.Nm
open Go.Lib

def lexI : List Nat → List Nat → Int
  | [], [] => 0
  | [], _ :: _ => -1
  | _ :: _, [] => 1
  | x :: xs, y :: ys => if x = y then lexI xs ys else if x < y then -1 else 1
theorem lexI_neg : ∀ a b, lexI b a = -lexI a b
  | [], [] => rfl
  | [], _ :: _ => rfl
  | _ :: _, [] => rfl
  | x :: xs, y :: ys => by
    unfold lexI
    have := lexI_neg xs ys
    repeat' split
    all_goals first | omega | assumption
theorem lexI_self : ∀ a, lexI a a = 0
  | [] => rfl
  | x :: xs => by rw [lexI, if_pos rfl]; exact lexI_self xs
theorem lexI_zero : ∀ a b, lexI a b = 0 → a = b
  | [], [], _ => rfl
  | [], _ :: _, h => by simp [lexI] at h
  | _ :: _, [], h => by simp [lexI] at h
  | x :: xs, y :: ys, h => by
    unfold lexI at h
    split at h
    · rename_i e
      rw [e, lexI_zero xs ys h]
    · split at h <;> omega
theorem lexI_trans : ∀ a b c, lexI a b ≤ 0 → lexI b c ≤ 0 → lexI a c ≤ 0
  | [], b, [], _, _ => by simp [lexI]
  | [], b, _ :: _, _, _ => by simp [lexI]
  | x :: xs, [], c, h, _ => by simp [lexI] at h
  | x :: xs, y :: ys, [], _, h => by simp [lexI] at h
  | x :: xs, y :: ys, z :: zs, h1, h2 => by
    have ih := lexI_trans xs ys zs
    unfold lexI at h1 h2 ⊢
    repeat' split at h1
    all_goals (repeat' split at h2)
    all_goals (repeat' split)
    all_goals first | omega | (exact ih h1 h2)
theorem lexI_range : ∀ a b, lexI a b = -1 ∨ lexI a b = 0 ∨ lexI a b = 1
  | [], [] => by simp [lexI]
  | [], _ :: _ => by simp [lexI]
  | _ :: _, [] => by simp [lexI]
  | x :: xs, y :: ys => by
    have := lexI_range xs ys
    unfold lexI
    repeat' split
    all_goals first | assumption | simp

theorem bytesCmp_lex : ∀ a b : List UInt8, bytesCmp a b = lexI (a.map (·.toNat)) (b.map (·.toNat))
  | [], [] => rfl
  | [], _ :: _ => by simp [bytesCmp, Op.bytesLess, lexI]
  | _ :: _, [] => by simp [bytesCmp, Op.bytesLess, lexI]
  | x :: xs, y :: ys => by
    have ih := bytesCmp_lex xs ys
    unfold bytesCmp at ih ⊢
    simp only [List.map_cons, lexI, Op.bytesLess]
    by_cases h : x = y
    · subst h
      rw [if_pos rfl, ← ih]
      simp
    · have hn : ¬ x.toNat = y.toNat := fun e => h (UInt8.toNat_inj.1 e)
      rw [if_neg hn]
      by_cases hl : x < y
      · have hl' : x.toNat < y.toNat := UInt8.lt_iff_toNat_lt.1 hl
        rw [if_pos hl']
        simp [hl]
      · have hl' : ¬ x.toNat < y.toNat := fun e => hl (UInt8.lt_iff_toNat_lt.2 e)
        rw [if_neg hl']
        simp [hl, h]

def runesF : Nat → List UInt8 → List Nat
  | 0, _ => []
  | f + 1, l => if l = [] then [] else ((decodeL l).1 + 1) :: runesF f (l.drop (decodeL l).2)
theorem runesF_nil (f : Nat) : runesF f [] = [] := by cases f <;> simp [runesF]
theorem runesF_cons (f : Nat) (l : List UInt8) (h : l ≠ []) : runesF (f + 1) l = ((decodeL l).1 + 1) :: runesF f (l.drop (decodeL l).2) := by rw [runesF, if_neg h]
def keyO (l : List UInt8) : List Nat := runesF l.length l ++ 0 :: l.map (·.toNat)

theorem ordF_lex (A B : List Nat) : ∀ (f f' g' : Nat) (a b : List UInt8), a.length + 1 ≤ f → a.length ≤ f' → b.length ≤ g' → (ordF f a b).getD (lexI A B) = lexI (runesF f' a ++ 0 :: A) (runesF g' b ++ 0 :: B)
  | 0, _, _, a, _, h, _, _ => by omega
  | f + 1, f', g', a, b, h, h1, h2 => by
    by_cases ha : a = []
    · subst ha
      rw [ordF, if_pos rfl, runesF_nil]
      by_cases hb : b = []
      · subst hb
        rw [if_pos rfl, runesF_nil]
        simp [lexI]
      · obtain ⟨g, rfl⟩ : ∃ g, g' = g + 1 := ⟨g' - 1, by have := List.length_pos_iff.2 hb; omega⟩
        rw [if_neg hb, runesF_cons g b hb]
        simp [lexI]
    · obtain ⟨f1, rfl⟩ : ∃ g, f' = g + 1 := ⟨f' - 1, by have := List.length_pos_iff.2 ha; omega⟩
      rw [ordF, if_neg ha, runesF_cons f1 a ha]
      by_cases hb : b = []
      · subst hb
        rw [if_pos rfl, runesF_nil]
        simp [lexI]
      · obtain ⟨g, rfl⟩ : ∃ g, g' = g + 1 := ⟨g' - 1, by have := List.length_pos_iff.2 hb; omega⟩
        rw [if_neg hb, runesF_cons g b hb]
        have wa := decodeL_width a
        have wb := decodeL_width b
        simp only [List.cons_append, lexI]
        by_cases hc : (decodeL a).1 = (decodeL b).1
        · rw [if_pos hc, if_pos (by omega)]
          have pa := List.length_pos_iff.2 ha
          have pb := List.length_pos_iff.2 hb
          exact ordF_lex A B f f1 g _ _ (by rw [List.length_drop]; omega) (by rw [List.length_drop]; omega) (by rw [List.length_drop]; omega)
        · rw [if_neg hc, if_neg (show ¬ ((decodeL a).1 + 1 = (decodeL b).1 + 1) by omega)]
          by_cases hl : (decodeL a).1 < (decodeL b).1
          · rw [if_pos hl, if_pos (by omega)]; rfl
          · rw [if_neg hl, if_neg (by omega)]; rfl
theorem orderL_key (a b : List UInt8) : orderL a b = lexI (keyO a) (keyO b) := by
  unfold orderL
  rw [bytesCmp_lex, ordF_lex _ _ _ a.length b.length a b (Nat.le_refl _) (Nat.le_refl _) (Nat.le_refl _)]
  rfl
theorem behind_zero : ∀ (x y A B : List Nat), (∀ n ∈ x, n ≠ 0) → (∀ n ∈ y, n ≠ 0) → x ++ 0 :: A = y ++ 0 :: B → A = B
  | [], [], A, B, _, _, h => by simpa using h
  | [], y :: ys, A, B, _, hy, h => by
    simp at h
    exact absurd h.1.symm (hy y (List.mem_cons_self ..))
  | x :: xs, [], A, B, hx, _, h => by
    simp at h
    exact absurd h.1 (hx x (List.mem_cons_self ..))
  | x :: xs, y :: ys, A, B, hx, hy, h => by
    simp at h
    exact behind_zero xs ys A B (fun n hn => hx n (List.mem_cons_of_mem _ hn)) (fun n hn => hy n (List.mem_cons_of_mem _ hn)) h.2
theorem runesF_pos : ∀ (f : Nat) (l : List UInt8), ∀ n ∈ runesF f l, n ≠ 0
  | 0, _, n, h => by simp [runesF] at h
  | f + 1, l, n, h => by
    unfold runesF at h
    split at h
    · simp at h
    · rcases List.mem_cons.1 h with rfl | h
      · omega
      · exact runesF_pos f _ n h
theorem map_inj : ∀ a b : List UInt8, a.map (·.toNat) = b.map (·.toNat) → a = b
  | [], [], _ => rfl
  | [], _ :: _, h => by simp at h
  | _ :: _, [], h => by simp at h
  | x :: xs, y :: ys, h => by
    simp at h
    rw [UInt8.toNat_inj.1 h.1, map_inj xs ys (by simpa using h.2)]
theorem order_neg (a b : List UInt8) : orderL b a = -orderL a b := by rw [orderL_key, orderL_key, lexI_neg]
theorem order_range (a b : List UInt8) : orderL a b = -1 ∨ orderL a b = 0 ∨ orderL a b = 1 := by rw [orderL_key]; exact lexI_range _ _
theorem order_zero (a b : List UInt8) : orderL a b = 0 ↔ a = b := by
  rw [orderL_key]
  constructor
  · intro h
    exact map_inj _ _ (behind_zero _ _ _ _ (runesF_pos _ _) (runesF_pos _ _) (lexI_zero _ _ h))
  · intro h
    subst h
    exact lexI_self _
theorem order_trans (a b c : List UInt8) (h1 : orderL a b ≤ 0) (h2 : orderL b c ≤ 0) : orderL a c ≤ 0 := by
  rw [orderL_key] at h1 h2 ⊢
  exact lexI_trans _ _ _ h1 h2
end Go.Proofs.YtplgiagjgmlbcaaDoor.Nm
