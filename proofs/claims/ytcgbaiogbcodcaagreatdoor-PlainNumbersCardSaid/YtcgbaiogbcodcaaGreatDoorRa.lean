/-
  The contracts of the document's own leb: Put, Bytes, Get, Take. Conditions: a number is one of 64 bits; bytes are at most 2^47 - 10.
-/
import Derived.Test.YtcgbaiogbcodcaaGreatDoorKc
import Derived.Test.YtcgbaiogbcodcaaGreatDoorPo
namespace Go.Proofs.YtcgbaiogbcodcaaGreatDoor.Sh
open Go.RowKit Go.Lib Lb

theorem byt_new (w : World) (n : Int) (c : UInt8) (h : n = c.toNat) : Byt (w.alloc (.cells #[.int .u8 n] 5)) (some ⟨w.heap.size, 0, none⟩) [c] := fun _ => by
  refine ⟨w.heap.size, 0, rfl, by simp, fun j hj => ?_⟩
  obtain rfl : j = 0 := by simpa using hj
  rw [World.cell?_alloc_new]
  simp [h]
/-- bytes that go on: 128 and more -/
def Lead (l : List UInt8) (n : Nat) : Prop := ∀ j, j < n → 128 ≤ (l.getD j 0).toNat
theorem firstI_lead (l : List UInt8) (n : Nat) (h : Lead l n) (i : Nat) (hi : firstI l = some i) : n ≤ i := by
  obtain ⟨h1, h2, h3⟩ := firstI_some l i hi
  rcases Nat.lt_or_ge i n with h4 | h4
  · have := h i h4
    omega
  · exact h4
theorem firstI_at (l : List UInt8) (n : Nat) (h : Lead l n) (hn : n < l.length) (hc : (l.getD n 0).toNat < 128) : firstI l = some n := by
  cases hf : firstI l with
  | none =>
    have := firstI_none l hf n hn
    omega
  | some i =>
    have h1 := firstI_lead l n h i hf
    obtain ⟨_, h3, _⟩ := firstI_some l i hf
    rcases Nat.lt_or_ge n i with h4 | h4
    · have := h3 n h4
      omega
    · rw [show i = n by omega]
/-- ten that go on are no number -/
theorem getL_ten (l : List UInt8) (h : Lead l 10) : (getL l).2.2 ≠ 0 := by
  unfold getL
  cases hf : firstI l with
  | none => simp
  | some i =>
    have h1 := firstI_lead l 10 h i hf
    obtain ⟨h2, _, _⟩ := firstI_some l i hf
    have hb : badB (l.take (i + 1)) = true := by
      unfold badB
      rw [List.length_take, Nat.min_eq_left (by omega), decide_eq_true (show 10 < i + 1 by omega)]
      rfl
    simp only [hb, if_true]
    decide
theorem getL_all (l : List UInt8) (h : Lead l l.length) : (getL l).2.2 ≠ 0 := by
  unfold getL
  cases hf : firstI l with
  | none => simp
  | some i =>
    have h1 := firstI_lead l l.length h i hf
    obtain ⟨h2, _, _⟩ := firstI_some l i hf
    omega
theorem bad_at (l : List UInt8) (n : Nat) (hn : n < l.length) (h10 : n < 10) : badB (l.take (n + 1)) = ((decide (0 < n) && decide ((l.getD n 0).toNat = 0)) || (decide (n = 9) && decide (1 < (l.getD n 0).toNat))) := by
  unfold badB
  have hlen : (l.take (n + 1)).length = n + 1 := by rw [List.length_take]; omega
  rw [hlen, Nat.add_sub_cancel, take_getD _ _ _ (by omega)]
  have e1 : decide (10 < n + 1) = false := by simp; omega
  have e2 : decide (n + 1 = 10) = decide (n = 9) := by congr 1; simp
  have e3 : decide (1 < n + 1) = decide (0 < n) := by congr 1; simp
  rw [e1, e2, e3, Bool.false_or, Bool.or_comm]
theorem getL_good (l : List UInt8) (n : Nat) (h : Lead l n) (hn : n < l.length) (hc : (l.getD n 0).toNat < 128) (hb : badB (l.take (n + 1)) = false) : getL l = (valL (l.take (n + 1)), n + 1, 0) := by
  unfold getL
  rw [firstI_at l n h hn hc]
  simp only [hb]
  rfl
theorem getL_bad (l : List UInt8) (n : Nat) (h : Lead l n) (hn : n < l.length) (hc : (l.getD n 0).toNat < 128) (hb : badB (l.take (n + 1)) = true) : (getL l).2.2 ≠ 0 := by
  unfold getL
  rw [firstI_at l n h hn hc]
  simp only [hb, if_true]
  decide
theorem valL_drop (l : List UInt8) (i : Nat) (hi : i < l.length) : valL (l.drop i) = (l.getD i 0).toNat % 128 + 128 * valL (l.drop (i + 1)) := by
  rw [List.drop_eq_getElem_cons hi, valL]
  simp [List.getD_eq_getElem?_getD, List.getElem?_eq_getElem hi]
theorem valL_drop_le (l : List UInt8) (i : Nat) : valL (l.drop i) ≤ valL l := by
  induction i generalizing l with
  | zero => exact Nat.le_refl _
  | succ i ih =>
    cases l with
    | nil => simp
    | cons c r =>
      rw [List.drop_succ_cons, valL]
      have := ih r
      omega
/-- what Get answers: of a number it and how many bytes; else noughts and an error -/
def AnsG (l : List UInt8) (e : Ending) : Prop := ∃ ec : Int, e = .returned (.tuple #[.int .u64 ((getL l).1 : Int), .int .i64 ((getL l).2.1 : Int), .int .i64 ec]) ∧ (ec = 0 ↔ (getL l).2.2 = 0)
theorem ansG_err (l : List UInt8) (ec : Int) (h : (getL l).2.2 ≠ 0) (he : ec ≠ 0) : AnsG l (.returned (.tuple #[.int .u64 0, .int .i64 0, .int .i64 ec])) := by
  obtain ⟨h1, h2⟩ := getL_err l h
  exact ⟨ec, by rw [h1, h2]; rfl, fun h0 => absurd h0 he, fun h0 => absurd h0 h⟩
theorem u64_mix (V y : Nat) : Value.int .u64 ((V : Int) * 128 + (y : Int) % 128) = .int .u64 ((y % 128 + 128 * V : Nat) : Int) := by congr 1; omega
theorem byt_getD {w : World} {b o : Nat} {l : List UInt8} (h : Byt w (some ⟨b, o, none⟩) l) (i : Nat) (hi : i < l.length) : w.cell? ⟨b, o + i, none⟩ = some (.int .u8 ((l.getD i 0).toNat : Int)) := by
  obtain ⟨b', o', h1, h2, h3⟩ := h (by intro h0; rw [h0] at hi; simp at hi)
  injection h1 with h1
  injection h1 with h1 h4
  subst h1
  subst h4
  rw [h3 i hi]
  simp [List.getD_eq_getElem?_getD, List.getElem?_eq_getElem hi]
end Go.Proofs.YtcgbaiogbcodcaaGreatDoor.Sh
