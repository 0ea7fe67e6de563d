/-
  The contracts of obj's reader: number, counted, key. Conditions: each law's own.
-/
import Derived.Test.YtojhlhpbhoeplaaGreatDoorOg
namespace Go.Proofs.YtojhlhpbhoeplaaGreatDoor.Sh
open Go.RowKit Go.Lib Lb

/-- obj's reader, as memory holds it: what is left -/
structure Rp (w : World) (g : Nat) (l : List UInt8) (ao : Option Addr) (m c : Nat) : Prop where
  blk : Blk w g [.slice ao m c] 127
  byt : Byt w ao l
  hn : ao = none → c = 0
  len : l.length = m
  cap : m ≤ c
  max : c ≤ 9223372036854775807
  most : m ≤ 140737488355328
  far : ∀ a, ao = some a → a.block < g
  err : ErrT w
  one : 1 < g
def Rdr (w : World) (g : Nat) (l : List UInt8) : Prop := ∃ ao m c, Rp w g l ao m c
theorem Rp.grown {w w' : World} {g : Nat} {l : List UInt8} {ao : Option Addr} {m c : Nat} (h : Rp w g l ao m c) (hb : Below w.heap.size w w') : Rp w' g l ao m c :=
  { blk := h.blk.low hb, byt := h.byt.below hb, hn := h.hn, len := h.len, cap := h.cap, max := h.max, most := h.most, far := h.far, err := h.err.below hb, one := h.one }
theorem Rdr.grown {w w' : World} {g : Nat} {l : List UInt8} (h : Rdr w g l) (hb : Below w.heap.size w w') : Rdr w' g l := by
  obtain ⟨ao, m, c, h⟩ := h
  exact ⟨ao, m, c, h.grown hb⟩
theorem ErrT.row {w w' : World} {k : Option Nat} (h : ErrT w) (hg : w.grownBy w' k) (hk : ∀ b, k = some b → 1 < b) : ErrT w' := hg.cell h (fun e => by have := hk 1 e.symm; omega)
theorem Rp.row {w w' : World} {g : Nat} {l : List UInt8} {ao : Option Addr} {m c : Nat} {k : Option Nat} (h : Rp w g l ao m c) (hg : w.grownBy w' k) (hk : ∀ b, k = some b → g < b) : Rp w' g l ao m c :=
  { blk := blk_row h.blk hg (fun e => by have := hk g e.symm; omega)
    byt := fun hne => by
      obtain ⟨b, o, h1, h2, h3⟩ := h.byt hne
      have hb : b < g := h.far _ h1
      exact ⟨b, o, h1, Nat.lt_of_lt_of_le h2 hg.size, fun j hj => hg.cell (h3 j hj) (fun e => by have := hk b e.symm; omega)⟩
    hn := h.hn, len := h.len, cap := h.cap, max := h.max, most := h.most, far := h.far, err := h.err.row hg (fun b hb => by have := hk b hb; have := h.one; omega), one := h.one }
theorem Rdr.row {w w' : World} {g : Nat} {l : List UInt8} {k : Option Nat} (h : Rdr w g l) (hg : w.grownBy w' k) (hk : ∀ b, k = some b → g < b) : Rdr w' g l := by
  obtain ⟨ao, m, c, h⟩ := h
  exact ⟨ao, m, c, h.row hg hk⟩
/-- what is left, set -/
theorem Rp.rest {w : World} {g : Nat} {l l' : List UInt8} {ao ao' : Option Addr} {m c m' c' : Nat} (h : Rp w g l ao m c) (hb : Byt w ao' l') (hn : ao' = none → c' = 0) (hl : l'.length = m') (hc : m' ≤ c') (hm : c' ≤ 9223372036854775807) (h47 : m' ≤ 140737488355328) (hf : ∀ a, ao' = some a → a.block < g) :
    Rp (w.setCell ⟨g, 0, none⟩ (.slice ao' m' c')) g l' ao' m' c' :=
  { blk := by have := h.blk.set 0 (.slice ao' m' c'); simpa using this
    byt := byt_grown hb (grownBy_setCell w g 0 _) hf
    hn := hn, len := hl, cap := hc, max := hm, most := h47, far := hf
    err := h.err.row (grownBy_setCell w g 0 _) (fun b e => by injection e with e; have := h.one; omega)
    one := h.one }
/-- what a reader's call leaves: a value and what is left, or what is wrong goes up -/
def AnsP {α : Type} (w : World) (g : Nat) (V : World → α → Value → Prop) (o : Option (α × List UInt8)) (e : Ending) (w' : World) : Prop :=
  w.grownBy w' (some g) ∧ ((o = none ∧ e = .panicked Wrong) ∨ ∃ x r v, o = some (x, r) ∧ e = .returned v ∧ V w' x v ∧ Rdr w' g r)
def VInt (_ : World) (x : Int) (v : Value) : Prop := v = .int .i64 x
def VStr (_ : World) (s : ByteArray) (v : Value) : Prop := v = .string s
def VOwn (B : Nat) (w : World) (l : List UInt8) (v : Value) : Prop := Own w B v l
theorem take_data (l : List UInt8) (most : Nat) : ((takeR l (most : Int)).2.2 = 0 ∧ (takeR l (most : Int)).2.1 ≤ l.length ∧ pData most l = some ((takeR l (most : Int)).1, l.drop (takeR l (most : Int)).2.1)) ∨ ((takeR l (most : Int)).2.2 ≠ 0 ∧ pData most l = none) := by
  have hag := fun x n => getL_again l x n
  unfold takeR pData pNum
  obtain ⟨x, n, q, hg⟩ : ∃ x n q, getL l = (x, n, q) := ⟨_, _, _, rfl⟩
  rw [hg] at hag ⊢
  simp only
  by_cases hq : q = 0
  · subst hq
    obtain ⟨_, g2, _, _⟩ := hag x n rfl
    have m1 : ¬ ((most : Int) < 0) := by omega
    by_cases hx : x ≤ most
    · have m2 : ¬ (most < x) := by omega
      by_cases h3 : l.length < n + x
      · have h4 : ¬ x ≤ l.length - n := by omega
        simp [m1, m2, h3, h4, hx]
      · have h4 : x ≤ l.length - n := by omega
        simp [m1, m2, h3, h4, hx, List.drop_drop]
        omega
    · have m2 : most < x := by omega
      simp [m1, m2, hx]
  · simp [hq]
end Go.Proofs.YtojhlhpbhoeplaaGreatDoor.Sh
