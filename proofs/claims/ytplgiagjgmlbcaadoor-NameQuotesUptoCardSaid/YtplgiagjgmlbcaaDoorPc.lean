/-
  name.Unquote, plain: what the front of a quoted text stands for, and which text a quoted one is. No program in it, no condition.
-/
import Derived.Test.YtplgiagjgmlbcaaDoorPb
import Derived.Lib.IndexMore
namespace Go.Proofs.YtplgiagjgmlbcaaDoor.Nm
open Go.Lib

/-- a digit of 16, as strconv takes it -/
def hexv (c : UInt8) : Option Nat :=
  if 48 ≤ c.toNat ∧ c.toNat ≤ 57 then some (c.toNat - 48)
  else if 97 ≤ c.toNat ∧ c.toNat ≤ 102 then some (c.toNat - 87)
  else if 65 ≤ c.toNat ∧ c.toNat ≤ 70 then some (c.toNat - 55)
  else none
def parse16 (M : Nat) : Nat → List UInt8 → Option Nat
  | acc, [] => some acc
  | acc, c :: r => match hexv c with
    | none => none
    | some d => if M < acc * 16 + d then none else parse16 M (acc * 16 + d) r
def pU (M : Nat) (l : List UInt8) : Option Nat := if l = [] then none else parse16 M 0 l
theorem parse16_le (M : Nat) : ∀ (l : List UInt8) (acc n : Nat), acc ≤ M → parse16 M acc l = some n → n ≤ M
  | [], acc, n, h, hp => by simp [parse16] at hp; omega
  | c :: r, acc, n, h, hp => by
    unfold parse16 at hp
    cases hc : hexv c with
    | none => simp [hc] at hp
    | some d =>
      simp only [hc] at hp
      split at hp
      · simp at hp
      · rename_i hle
        exact parse16_le M r (acc * 16 + d) n (by omega) hp
theorem pU_le (M n : Nat) (l : List UInt8) (h : pU M l = some n) : n ≤ M := by
  unfold pU at h
  split at h
  · simp at h
  · exact parse16_le M l 0 n (by omega) h

/-- what the front of a quoted text stands for, and what is behind it -/
def firstS (l : List UInt8) : Option (List UInt8 × List UInt8) :=
  if l.getD 0 0 ≠ 92 then some ([l.getD 0 0], l.drop 1)
  else if hasPrefix l [92, 34] = true ∨ hasPrefix l [92, 92] = true then some ([l.getD 1 0], l.drop 2)
  else if hasPrefix l [92, 117, 123] = true then
    (if (cut (l.drop 3) [125]).2.2 = true then (pU 2097151 (cut (l.drop 3) [125]).1).map fun n => (encodeRune (n : Nat), (cut (l.drop 3) [125]).2.1) else none)
  else if hasPrefix l [92, 120] = true ∧ 4 ≤ l.length then (pU 255 ((l.drop 2).take 2)).map fun n => ([n.toUInt8], l.drop 4)
  else none
/-- the text that a quoted text's inside stands for; none: it stands for none -/
def innerF : Nat → List UInt8 → Option (List UInt8)
  | 0, _ => none
  | f + 1, l => if l = [] then some [] else match firstS l with
    | none => none
    | some (p, b) => (innerF f b).map fun t => p ++ t
/-- name.Unquote -/
def unqL (l : List UInt8) : Option (List UInt8) :=
  if l.length < 2 ∨ l.getD 0 0 ≠ 34 ∨ l.getD (l.length - 1) 0 ≠ 34 then none
  else match innerF l.length ((l.drop 1).take (l.length - 2)) with
    | none => none
    | some t => if quoteL t = l then some t else none
theorem unqL_quote (l t : List UInt8) (h : unqL l = some t) : quoteL t = l := by
  unfold unqL at h
  split at h
  · simp at h
  · split at h
    · simp at h
    · split at h
      · rename_i hq
        cases h
        exact hq
      · simp at h
theorem cut_len (l : List UInt8) (h : (cut l [125]).2.2 = true) : (cut l [125]).2.1.length < l.length := by
  unfold cut at h ⊢
  split
  · rename_i h0
    have := index_room l [125] h0
    simp only [List.length_cons, List.length_nil] at this
    simp only [List.length_drop, List.length_cons, List.length_nil]
    omega
  · rename_i h0
    rw [if_neg h0] at h
    simp at h
theorem firstS_len (l p b : List UInt8) (hl : l ≠ []) (h : firstS l = some (p, b)) : p.length ≤ 4 ∧ b.length < l.length := by
  have hpos : 0 < l.length := List.length_pos_iff.2 hl
  unfold firstS at h
  split at h
  · cases h; simp; omega
  · split at h
    · cases h; simp; omega
    · split at h
      · split at h
        · rename_i hc
          cases hn : pU 2097151 (cut (l.drop 3) [125]).1 with
          | none => simp [hn] at h
          | some n =>
            simp only [hn, Option.map_some, Option.some.injEq, Prod.mk.injEq] at h
            obtain ⟨rfl, rfl⟩ := h
            refine ⟨(encodeRune_len _).2, ?_⟩
            have := cut_len _ hc
            rw [List.length_drop] at this
            omega
        · simp at h
      · split at h
        · rename_i hx
          cases hn : pU 255 ((l.drop 2).take 2) with
          | none => simp [hn] at h
          | some n =>
            simp only [hn, Option.map_some, Option.some.injEq, Prod.mk.injEq] at h
            obtain ⟨rfl, rfl⟩ := h
            simp; omega
        · simp at h
theorem innerF_cons (f : Nat) (l : List UInt8) (h : l ≠ []) : innerF (f + 1) l = match firstS l with
    | none => none
    | some (p, b) => (innerF f b).map fun t => p ++ t := by rw [innerF, if_neg h]
end Go.Proofs.YtplgiagjgmlbcaaDoor.Nm
