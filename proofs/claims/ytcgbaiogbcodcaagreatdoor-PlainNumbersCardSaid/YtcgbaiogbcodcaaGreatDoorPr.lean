/-
  Plain facts on runes, with no program in them: a text's runes as the model's decode gives them, how wide they are, and which bytes they are. No condition.
-/
import Derived.Lib.TrimUEq
import Derived.Lib.RuneBytes
namespace Go.Proofs.YtcgbaiogbcodcaaGreatDoor.Nm
open Go.Lib

theorem width_le (l : List UInt8) (h : l ≠ []) : (decodeL l).2 ≤ l.length := by
  have hl : 0 < l.length := List.length_pos_iff.2 h
  rw [decodeL_N]
  unfold decodeN
  repeat' split
  all_goals (simp only; omega)

theorem width_four (l : List UInt8) : (decodeL l).2 ≤ 4 := by
  rw [decodeL_N]
  unfold decodeN
  repeat' split
  all_goals (simp only; omega)

/-- a byte that is none of UTF-8's stands ahead -/
def strayL (l : List UInt8) : Bool := decide (decodeL l = (65533, 1))

theorem stray_high (l : List UInt8) (h : strayL l = true) : 128 ≤ (l.getD 0 0).toNat := by
  have h' : decodeL l = (65533, 1) := by simpa [strayL] using h
  rw [decodeL_N] at h'
  by_cases hc : (l.getD 0 0).toNat < 128
  · unfold decodeN at h'
    rw [if_pos hc] at h'
    have := congrArg Prod.fst h'
    simp only at this
    omega
  · omega

theorem take1' : ∀ l : List UInt8, l ≠ [] → l.take 1 = [l.getD 0 0]
  | a :: l, _ => by simp
theorem take2' (l : List UInt8) (h : 1 < l.length) : l.take 2 = [l.getD 0 0, l.getD 1 0] := by
  match l, h with
  | a :: b :: r, _ => simp
theorem take3' (l : List UInt8) (h : 2 < l.length) : l.take 3 = [l.getD 0 0, l.getD 1 0, l.getD 2 0] := by
  match l, h with
  | a :: b :: c :: r, _ => simp
theorem take4' (l : List UInt8) (h : 3 < l.length) : l.take 4 = [l.getD 0 0, l.getD 1 0, l.getD 2 0, l.getD 3 0] := by
  match l, h with
  | a :: b :: c :: d :: r, _ => simp
theorem byte_eq {n : Nat} {c : UInt8} (h : n = c.toNat) : n.toUInt8 = c := by subst h; simp

theorem ecast {a : Nat} {c : UInt8} (h : a = c.toNat) : ((a : Int).toNat).toUInt8 = c := by
  rw [Int.toNat_natCast]; exact byte_eq h
theorem ecast' {z : Int} {c : UInt8} (h : z = c.toNat) : z.toNat.toUInt8 = c := by
  subst h; rw [Int.toNat_natCast]; exact byte_eq rfl

/-- A rune that stands in a text is encoded as it stands. -/
theorem encode_decode (l : List UInt8) (hne : l ≠ []) (hs : strayL l = false) : encodeRune ((decodeL l).1 : Nat) = l.take (decodeL l).2 := by
  have hs' : ¬ decodeL l = (65533, 1) := by simpa [strayL] using hs
  have hl : 0 < l.length := List.length_pos_iff.2 hne
  have b0 := (l.getD 0 0).toNat_lt
  have b1 := (l.getD 1 0).toNat_lt
  have b2 := (l.getD 2 0).toNat_lt
  have b3 := (l.getD 3 0).toNat_lt
  rw [decodeL_N] at hs' ⊢
  unfold decodeN at hs' ⊢
  split
  · rename_i h
    rw [take1' l hne]
    unfold encodeRune
    rw [encodeRuneZ_one (by omega) (by omega)]
    simp
  · rename_i h0
    rw [if_neg h0] at hs'
    split
    · rename_i h1
      rw [if_pos h1] at hs'
      split
      · rename_i h2
        rw [take2' l (by omega)]
        unfold encodeRune
        rw [encodeRuneZ_two (by simp only; omega) (by simp only; omega)]
        simp only [List.map_cons, List.map_nil]
        rw [ecast' (c := l.getD 0 0) (by omega), ecast' (c := l.getD 1 0) (by omega)]
      · rename_i h2
        rw [if_neg h2] at hs'
        exact absurd rfl hs'
    · rename_i h1
      rw [if_neg h1] at hs'
      split
      · rename_i h2
        rw [if_pos h2] at hs'
        split
        · rename_i h3
          rw [take3' l (by omega)]
          unfold encodeRune
          rw [encodeRuneZ_three (by simp only; omega)]
          simp only [List.map_cons, List.map_nil]
          rw [ecast' (c := l.getD 0 0) (by omega), ecast' (c := l.getD 1 0) (by omega), ecast' (c := l.getD 2 0) (by omega)]
        · rename_i h3
          rw [if_neg h3] at hs'
          exact absurd rfl hs'
      · rename_i h2
        rw [if_neg h2] at hs'
        split
        · rename_i h3
          rw [if_pos h3] at hs'
          split
          · rename_i h4
            simp only
            rw [take4' l h3.2.2.2.1]
            generalize hz : (l.getD 0 0).toNat % 8 * 262144 + (l.getD 1 0).toNat % 64 * 4096 + (l.getD 2 0).toNat % 64 * 64 + (l.getD 3 0).toNat % 64 = z at h4 ⊢
            have hz1 : (65536 : Int) ≤ (z : Int) := by omega
            have hz2 : (z : Int) ≤ 1114111 := by omega
            unfold encodeRune
            rw [encodeRuneZ_four hz1 hz2]
            simp only [List.map_cons, List.map_nil]
            rw [ecast' (c := l.getD 0 0) (by omega), ecast' (c := l.getD 1 0) (by omega), ecast' (c := l.getD 2 0) (by omega), ecast' (c := l.getD 3 0) (by omega)]
          · rename_i h4
            rw [if_neg h4] at hs'
            exact absurd rfl hs'
        · rename_i h3
          rw [if_neg h3] at hs'
          exact absurd rfl hs'

theorem decodeN_fffd (n c0 c1 c2 c3 : Nat) (_b0 : c0 < 256) (_b1 : c1 < 256) (_b2 : c2 < 256) :
    decodeN n c0 c1 c2 c3 = (65533, 1) ∨ (decodeN n c0 c1 c2 c3).1 ≠ 65533 ∨ (3 ≤ n ∧ c0 = 239 ∧ c1 = 191 ∧ c2 = 189) := by
  unfold decodeN
  repeat' split
  all_goals first
    | (left; rfl)
    | (right; simp only; omega)
/-- what name.stray asks, in one word -/
theorem stray_eq (l : List UInt8) : (decide (((decodeL l).1 : Int) = 65533) && !hasPrefix l [239, 191, 189]) = strayL l := by
  rw [Bool.eq_iff_iff]
  simp only [strayL, Bool.and_eq_true, decide_eq_true_eq, Bool.not_eq_true']
  have b0 := (l.getD 0 0).toNat_lt
  have b1 := (l.getD 1 0).toNat_lt
  have b2 := (l.getD 2 0).toNat_lt
  have hp : hasPrefix l [239, 191, 189] = true ↔ 3 ≤ l.length ∧ (l.getD 0 0).toNat = 239 ∧ (l.getD 1 0).toNat = 191 ∧ (l.getD 2 0).toNat = 189 := by
    have e : ∀ (a : UInt8) (n : Nat), n < 256 → (a.toNat = n ↔ n.toUInt8 = a) := fun a n hn => ⟨fun h => byte_eq h.symm, fun h => by subst h; simp; omega⟩
    rw [e _ 239 (by omega), e _ 191 (by omega), e _ 189 (by omega)]
    match l with
    | [] => simp [hasPrefix]
    | [a] => simp [hasPrefix]
    | [a, b] => simp [hasPrefix]
    | a :: b :: c :: r => simp [hasPrefix, List.isPrefixOf]
  constructor
  · rintro ⟨h1, h2⟩
    have hn : ¬ (3 ≤ l.length ∧ (l.getD 0 0).toNat = 239 ∧ (l.getD 1 0).toNat = 191 ∧ (l.getD 2 0).toNat = 189) := by
      intro h; rw [hp.2 h] at h2; exact absurd h2 (by simp)
    have h1' : (decodeL l).1 = 65533 := by omega
    rcases decodeN_fffd l.length (l.getD 0 0).toNat (l.getD 1 0).toNat (l.getD 2 0).toNat (l.getD 3 0).toNat b0 b1 b2 with h | h | h
    · rw [decodeL_N]; exact h
    · rw [← decodeL_N] at h; exact absurd h1' h
    · exact absurd h hn
  · intro h
    refine ⟨by rw [h]; rfl, ?_⟩
    cases hq : hasPrefix l [239, 191, 189] with
    | false => rfl
    | true =>
      obtain ⟨q0, q1, q2, q3⟩ := hp.1 hq
      rw [decodeL_N, q1, q2, q3] at h
      have := congrArg Prod.snd h
      unfold decodeN at this
      simp only [Nat.reduceLT, Nat.reduceDiv, Nat.reduceMod, Nat.reduceEqDiff, Nat.reduceMul, Nat.reduceAdd, if_false, false_and] at this
      rw [if_pos (by simp; omega)] at this
      simp only [and_true, Nat.reduceLeDiff, or_true, if_true, ge_iff_le] at this
      exact absurd this (by decide)

/-- one of the runes may not be in a name -/
def badL : Nat → List UInt8 → Bool
  | 0, _ => false
  | f + 1, l => if l = [] then false else decide ((decodeL l).1 = 47) || (decide ((decodeL l).1 = 0) || (strayL l || badL f (l.drop (decodeL l).2)))
/-- name.Check -/
def checkL (l : List UInt8) : Int :=
  if l = [] then 206 else if 100 < l.length then 208 else if l = [46] ∨ l = [46, 46] then 206 else if badL l.length l then 206 else 0
/-- name.Count -/
def countL : Nat → List UInt8 → Nat
  | 0, _ => 0
  | f + 1, l => if l = [] then 0 else 1 + countL f (l.drop (decodeL l).2)
theorem countL_nil (f : Nat) : countL f [] = 0 := by cases f <;> simp [countL]
theorem badL_nil (f : Nat) : badL f [] = false := by cases f <;> simp [badL]
theorem countL_le : ∀ (f : Nat) (l : List UInt8), countL f l ≤ f
  | 0, _ => by simp [countL]
  | f + 1, l => by
    have := countL_le f (l.drop (decodeL l).2)
    unfold countL
    split <;> omega
theorem drop_drop' (l : List UInt8) (a b : Nat) : (l.drop a).drop b = l.drop (a + b) := by rw [List.drop_drop]
theorem drop_ne (s : ByteArray) (pos : Nat) (h : pos < s.size) : s.data.toList.drop pos ≠ [] := by
  intro h0
  have := congrArg List.length h0
  rw [List.length_drop, ← size_eq] at this
  simp at this
  omega
theorem drop_all (s : ByteArray) (pos : Nat) (h : ¬ pos < s.size) : s.data.toList.drop pos = [] := List.drop_eq_nil_of_le (by rw [← size_eq]; omega)
theorem extract_drop (s : ByteArray) (pos : Nat) : (s.extract pos s.size).data.toList = s.data.toList.drop pos := by
  rw [extract_data, List.take_of_length_le]
  rw [List.length_drop, ← size_eq]
  exact Nat.le_refl _
end Go.Proofs.YtcgbaiogbcodcaaGreatDoor.Nm
