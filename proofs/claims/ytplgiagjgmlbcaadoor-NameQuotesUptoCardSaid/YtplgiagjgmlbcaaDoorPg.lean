/-
  Quoted texts, plain: what is quoted is in letters that can be seen, and is unquoted as it was. No program in it, no condition.
-/
import Derived.Test.YtplgiagjgmlbcaaDoorPe
namespace Go.Proofs.YtplgiagjgmlbcaaDoor.Nm
open Go.Lib

theorem digs_hexv : ∀ d : Fin 16, hexv (digs.getD d.val 0) = some d.val := by decide
theorem digs_seen : ∀ d : Fin 16, 48 ≤ (digs.getD d.val 0).toNat ∧ (digs.getD d.val 0).toNat ≤ 102 := by decide
theorem hexF_seen : ∀ f n, ∀ c ∈ hexF f n, 48 ≤ c.toNat ∧ c.toNat ≤ 102
  | 0, n, c, h => by
    simp only [hexF, List.mem_cons, List.not_mem_nil, or_false] at h
    subst h
    exact digs_seen ⟨n % 16, by omega⟩
  | f + 1, n, c, h => by
    unfold hexF at h
    split at h
    · simp only [List.mem_cons, List.not_mem_nil, or_false] at h
      subst h
      exact digs_seen ⟨n % 16, by omega⟩
    · rcases List.mem_append.1 h with h | h
      · exact hexF_seen f (n / 16) c h
      · simp only [List.mem_cons, List.not_mem_nil, or_false] at h
        subst h
        exact digs_seen ⟨n % 16, by omega⟩
theorem encode_ascii (r : Nat) (h : r ≤ 127) : encodeRune (r : Int) = [r.toUInt8] := by
  unfold encodeRune
  rw [encodeRuneZ_one (by omega) (by omega)]
  simp
theorem quoteOne_seenL (l : List UInt8) : ∀ c ∈ quoteOne l, 32 ≤ c.toNat ∧ c.toNat ≤ 126 := by
  intro c hc
  unfold quoteOne at hc
  split at hc
  · rcases List.mem_append.1 hc with h | h
    · simp only [List.mem_cons, List.not_mem_nil, or_false] at h
      rcases h with rfl | rfl <;> decide
    · have := hexF_seen _ _ c h; omega
  · split at hc
    · rename_i h
      rcases List.mem_cons.1 hc with rfl | hc
      · decide
      · rcases h with h | h
        · rw [h, encode_ascii 34 (by omega)] at hc
          simp only [List.mem_cons, List.not_mem_nil, or_false] at hc
          subst hc; decide
        · rw [h, encode_ascii 92 (by omega)] at hc
          simp only [List.mem_cons, List.not_mem_nil, or_false] at hc
          subst hc; decide
    · split at hc
      · rename_i h
        rw [encode_ascii _ (by omega)] at hc
        simp only [List.mem_cons, List.not_mem_nil, or_false] at hc
        subst hc
        simp
        omega
      · rcases List.mem_append.1 hc with h | h
        · rcases List.mem_append.1 h with h | h
          · simp only [List.mem_cons, List.not_mem_nil, or_false] at h
            rcases h with rfl | rfl | rfl <;> decide
          · have := hexF_seen _ _ c h; omega
        · simp only [List.mem_cons, List.not_mem_nil, or_false] at h
          subst h; decide
theorem quoteB_seen : ∀ (f : Nat) (l : List UInt8), ∀ c ∈ quoteB f l, 32 ≤ c.toNat ∧ c.toNat ≤ 126
  | 0, l, c, h => by simp [quoteB] at h
  | f + 1, l, c, h => by
    unfold quoteB at h
    split at h
    · simp at h
    · rcases List.mem_append.1 h with h | h
      · exact quoteOne_seenL l c h
      · exact quoteB_seen f _ c h
theorem quoteL_seen (l : List UInt8) : ∀ c ∈ quoteL l, 32 ≤ c.toNat ∧ c.toNat ≤ 126 := by
  intro c h
  unfold quoteL at h
  rcases List.mem_cons.1 h with rfl | h
  · decide
  · rcases List.mem_append.1 h with h | h
    · exact quoteB_seen _ _ c h
    · simp only [List.mem_cons, List.not_mem_nil, or_false] at h
      subst h; decide

theorem parse16_append (M : Nat) : ∀ (a b : List UInt8) (acc : Nat), parse16 M acc (a ++ b) = (parse16 M acc a).bind fun x => parse16 M x b
  | [], b, acc => rfl
  | c :: a, b, acc => by
    simp only [List.cons_append, parse16]
    cases hexv c with
    | none => rfl
    | some d =>
      simp only
      split
      · rfl
      · exact parse16_append M a b _
theorem parse16_one (M acc d : Nat) (h : d < 16) (hM : acc * 16 + d ≤ M) : parse16 M acc [digs.getD d 0] = some (acc * 16 + d) := by
  have hx := digs_hexv ⟨d, h⟩
  simp only [parse16, hx]
  rw [if_neg (by omega)]
theorem parse16_hexF (M : Nat) : ∀ (f n : Nat), n < 16 ^ (f + 1) → n ≤ M → parse16 M 0 (hexF f n) = some n
  | 0, n, h, hM => by
    have h' : n < 16 := by simpa using h
    unfold hexF
    rw [Nat.mod_eq_of_lt h', parse16_one M 0 n h' (by omega)]
    congr 1
    omega
  | f + 1, n, h, hM => by
    unfold hexF
    by_cases h' : n < 16
    · rw [if_pos h', Nat.mod_eq_of_lt h', parse16_one M 0 n h' (by omega)]
      congr 1
      omega
    · rw [if_neg h', parse16_append, parse16_hexF M f (n / 16) (by rw [Nat.pow_succ] at h; omega) (by omega)]
      show parse16 M (n / 16) [digs.getD (n % 16) 0] = some n
      rw [parse16_one M (n / 16) (n % 16) (by omega) (by omega)]
      congr 1
      omega
theorem pU_hexF (M n : Nat) (h : n < 16777216) (hM : n ≤ M) : pU M (hexF 5 n) = some n := by
  unfold pU
  rw [if_neg (by intro e; have := (hexF_len 5 n).1; rw [e] at this; simp at this)]
  exact parse16_hexF M 5 n (by simpa using h) hM

theorem index_at : ∀ (h r : List UInt8), (∀ c ∈ h, c.toNat ≤ 102) → index (h ++ 125 :: r) [125] = h.length
  | [], r, _ => by simp [index, List.isPrefixOf]
  | c :: h, r, hc => by
    have ih := index_at h r (fun x hx => hc x (List.mem_cons_of_mem _ hx))
    have h1 := hc c (List.mem_cons_self ..)
    have hne : ¬ (125 : UInt8) = c := by intro e; subst e; revert h1; decide
    simp only [List.cons_append, index, List.isPrefixOf]
    rw [ih]
    simp [hne]
theorem cut_at (h r : List UInt8) (hc : ∀ c ∈ h, c.toNat ≤ 102) : cut (h ++ 125 :: r) [125] = (h, r, true) := by
  unfold cut
  rw [index_at h r hc, if_pos (by omega)]
  simp

theorem two_digits (n : Nat) (h1 : 128 ≤ n) (h2 : n < 256) : hexF 5 n = [digs.getD (n / 16) 0, digs.getD (n % 16) 0] := by
  unfold hexF
  rw [if_neg (by omega)]
  unfold hexF
  rw [if_pos (by omega), Nat.mod_eq_of_lt (show n / 16 < 16 by omega)]
  rfl

/-- what is quoted of one rune stands for the rune -/
theorem first_quoteOne (l r : List UInt8) (hl : l ≠ []) : firstS (quoteOne l ++ r) = some (l.take (decodeL l).2, r) := by
  cases hs : strayL l with
  | true =>
    have hd : decodeL l = (65533, 1) := by simpa [strayL] using hs
    have h8 := stray_high l hs
    have hlt := (l.getD 0 0).toNat_lt
    have hp : pU 255 (hexF 5 (l.getD 0 0).toNat) = some (l.getD 0 0).toNat := pU_hexF 255 _ (by omega) (by omega)
    rw [quoteOne_stray l hs, hd, take1' l hl, two_digits _ h8 (by omega)]
    rw [two_digits _ h8 (by omega)] at hp
    simp only [firstS, List.cons_append, List.nil_append, List.getD_cons_zero, hasPrefix, List.isPrefixOf, List.drop_succ_cons, List.drop_zero, List.take_succ_cons, List.take_zero, List.length_cons, hp]
    simp
  | false =>
    have he := encode_decode l hl hs
    by_cases hm : (decodeL l).1 = 34 ∨ (decodeL l).1 = 92
    · rw [quoteOne_mark l hs hm, ← he]
      rcases hm with h | h
      · rw [h, encode_ascii 34 (by omega)]
        simp [firstS, hasPrefix, List.isPrefixOf]
      · rw [h, encode_ascii 92 (by omega)]
        simp [firstS, hasPrefix, List.isPrefixOf]
    · by_cases hr : 32 ≤ (decodeL l).1 ∧ (decodeL l).1 ≤ 126
      · rw [quoteOne_seen l hs hm hr, ← he, encode_ascii _ (by omega)]
        have hne : ¬ (decodeL l).1.toUInt8 = 92 := by
          intro e
          have := congrArg UInt8.toNat e
          simp at this
          omega
        simp [firstS, hne]
      · have hrune := decodeL_rune l
        have hp : pU 2097151 (hexF 5 (decodeL l).1) = some (decodeL l).1 := pU_hexF 2097151 _ (by omega) (by omega)
        have hc := cut_at (hexF 5 (decodeL l).1) r (fun c h => (hexF_seen _ _ c h).2)
        rw [quoteOne_hex l hs hm hr, ← he]
        have e1 : [92, 117, 123] ++ hexF 5 (decodeL l).1 ++ [125] ++ r = 92 :: 117 :: 123 :: (hexF 5 (decodeL l).1 ++ 125 :: r) := by simp
        rw [e1]
        simp only [firstS, List.getD_cons_zero, hasPrefix, List.isPrefixOf, List.drop_succ_cons, List.drop_zero, hc, hp]
        simp
theorem inner_quoteB : ∀ (f : Nat) (l : List UInt8) (n : Nat), l.length ≤ f → (quoteB f l).length < n → innerF n (quoteB f l) = some l
  | 0, l, n, h, hn => by
    have : l = [] := List.eq_nil_of_length_eq_zero (by omega)
    subst this
    obtain ⟨m, rfl⟩ : ∃ m, n = m + 1 := ⟨n - 1, by omega⟩
    simp [quoteB, innerF]
  | f + 1, l, n, h, hn => by
    obtain ⟨m, rfl⟩ : ∃ m, n = m + 1 := ⟨n - 1, by omega⟩
    by_cases hl : l = []
    · subst hl
      simp [quoteB, innerF]
    · have hw := decodeL_width l
      have hq := quoteOne_ge l hl
      rw [quoteB_cons f l hl] at hn ⊢
      rw [List.length_append] at hn
      have hne : quoteOne l ++ quoteB f (l.drop (decodeL l).2) ≠ [] := by
        intro e
        have := congrArg List.length e
        rw [List.length_append, List.length_nil] at this
        omega
      rw [innerF_cons m _ hne, first_quoteOne l _ hl]
      simp only
      rw [inner_quoteB f (l.drop (decodeL l).2) m (by rw [List.length_drop]; omega) (by omega)]
      simp
theorem unq_quote (l : List UInt8) : unqL (quoteL l) = some l := by
  have hlen : (quoteL l).length = (quoteB l.length l).length + 2 := by simp [quoteL]
  unfold unqL
  rw [if_neg]
  · have hin : ((quoteL l).drop 1).take ((quoteL l).length - 2) = quoteB l.length l := by
      rw [hlen]
      simp [quoteL]
    rw [hin, inner_quoteB l.length l _ (Nat.le_refl _) (by omega)]
    simp
  · rintro (h | h | h)
    · omega
    · simp [quoteL] at h
    · rw [hlen] at h
      apply h
      show (34 :: (quoteB l.length l ++ [34])).getD ((quoteB l.length l).length + 1) 0 = 34
      simp [List.getD]
end Go.Proofs.YtplgiagjgmlbcaaDoor.Nm
