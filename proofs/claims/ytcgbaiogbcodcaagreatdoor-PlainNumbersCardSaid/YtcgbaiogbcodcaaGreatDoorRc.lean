/-
  The contracts of the document's own reader: num, data and key. Conditions: each law's own.
-/
import Derived.Test.YtcgbaiogbcodcaaGreatDoorRb
import Derived.Laws.Rows
import Derived.Deep.WholeRow
import Derived.Lib.BufferOwn
import Derived.Lib.BufferWrite
namespace Go.Proofs.YtcgbaiogbcodcaaGreatDoor.Sh
open Go.RowKit Go.Lib Lb

/-- block g holds these cells, and none is frozen -/
def Blk (w : World) (g : Nat) (cs : List Value) (t : TypeId) : Prop := w.heap[g]? = some (.cells cs.toArray t (0, 0))
theorem Blk.lt {w : World} {g : Nat} {cs : List Value} {t : TypeId} (h : Blk w g cs t) : g < w.heap.size := (Array.getElem?_eq_some_iff.1 h).1
theorem Blk.cell {w : World} {g : Nat} {cs : List Value} {t : TypeId} (h : Blk w g cs t) (j : Nat) : w.cell? ⟨g, j, none⟩ = cs[j]? := by
  rw [cell_of_row w g j _ t (0, 0) h]
  simp
theorem Blk.frozen {w : World} {g : Nat} {cs : List Value} {t : TypeId} (h : Blk w g cs t) (j : Nat) : w.frozen? ⟨g, j, none⟩ = false := frozen_of_row w g j _ t h
theorem Blk.drew {w : World} {g : Nat} {cs : List Value} {t : TypeId} (h : Blk w g cs t) : Blk w.drew g cs t := h
theorem Blk.below {w w' : World} {B g : Nat} {cs : List Value} {t : TypeId} (h : Blk w g cs t) (hb : Below B w w') (hg : g < B) : Blk w' g cs t := (hb.block g hg).trans h
theorem Blk.low {w w' : World} {g : Nat} {cs : List Value} {t : TypeId} (h : Blk w g cs t) (hb : Below w.heap.size w w') : Blk w' g cs t := h.below hb h.lt
theorem Blk.alloc {w : World} {g : Nat} {cs : List Value} {t : TypeId} (h : Blk w g cs t) (o : Obj) : Blk (w.alloc o) g cs t := (Below.heap_alloc w o g h.lt).trans h
theorem Blk.new (w : World) (cs : List Value) (t : TypeId) (g : Nat) (hg : g = w.heap.size) : Blk (w.alloc (.cells cs.toArray t)) g cs t := by
  subst hg
  exact heap_alloc_new w _
theorem Blk.set {w : World} {g : Nat} {cs : List Value} {t : TypeId} (h : Blk w g cs t) (i : Nat) (v : Value) : Blk (w.setCell ⟨g, i, none⟩ v) g (cs.set i v) t := by
  unfold Blk
  rw [heap_setCell_same w g i _ t v h]
  simp
theorem Blk.other {w : World} {g : Nat} {cs : List Value} {t : TypeId} (h : Blk w g cs t) {a : Addr} (v : Value) (ha : g ≠ a.block) : Blk (w.setCell a v) g cs t := (heap_setCell_other w a g v ha).trans h
theorem Blk.byt {w : World} {g : Nat} {l : List UInt8} {t : TypeId} (h : Blk w g (bs l) t) : Byt w (some ⟨g, 0, none⟩) l := fun _ => ⟨g, 0, rfl, h.lt, fun j hj => by
  rw [Nat.zero_add, h.cell, bs_get l j hj]⟩

/-- a reader, as memory holds it: what is left, and whether it is bad -/
structure Rd (w : World) (g : Nat) (l : List UInt8) (bad : Bool) (ao : Option Addr) (m c : Nat) : Prop where
  blk : Blk w g [.slice ao m c, .bool bad] 99
  byt : Byt w ao l
  hn : ao = none → c = 0
  len : l.length = m
  cap : m ≤ c
  max : c ≤ 9223372036854775807
  most : m ≤ 140737488355328
  far : ∀ a, ao = some a → a.block < g
theorem blk_grown {w w' : World} {g k : Nat} {cs : List Value} {t : TypeId} (h : Blk w g cs t) (hg : w.grownBy w' (some k)) (hne : g ≠ k) : Blk w' g cs t := (hg.block g h.lt (fun e => hne (by injection e))).trans h
theorem byt_grown {w w' : World} {ao : Option Addr} {l : List UInt8} {g : Nat} (h : Byt w ao l) (hg : w.grownBy w' (some g)) (far : ∀ a, ao = some a → a.block < g) : Byt w' ao l := fun hne => by
  obtain ⟨b, o, h1, h2, h3⟩ := h hne
  have hb : b < g := far _ h1
  exact ⟨b, o, h1, Nat.lt_of_lt_of_le h2 hg.size, fun j hj => hg.cell (h3 j hj) (by intro e; injection e with e; simp only at e; omega)⟩
theorem Rd.grown {w w' : World} {g : Nat} {l : List UInt8} {bad : Bool} {ao : Option Addr} {m c : Nat} (h : Rd w g l bad ao m c) (hb : Below w.heap.size w w') : Rd w' g l bad ao m c :=
  { blk := h.blk.low hb, byt := h.byt.below hb, hn := h.hn, len := h.len, cap := h.cap, max := h.max, most := h.most, far := h.far }
theorem grown_below {w w' : World} (h : Below w.heap.size w w') (row : Option Nat) : w.grownBy w' row := ⟨h.os, h.tape, h.output, h.size, fun k hk _ => h.block k hk⟩
/-- set bad -/
theorem Rd.fail {w : World} {g : Nat} {l : List UInt8} {bad : Bool} {ao : Option Addr} {m c : Nat} (h : Rd w g l bad ao m c) : Rd (w.setCell ⟨g, 1, none⟩ (.bool true)) g l true ao m c :=
  { blk := by have := h.blk.set 1 (.bool true); simpa using this, byt := byt_grown h.byt (grownBy_setCell w g 1 _) h.far, hn := h.hn, len := h.len, cap := h.cap, max := h.max, most := h.most, far := h.far }
set_option maxRecDepth 100000 in
/-- the rest of a slice of bytes -/
theorem slice_rest (ao : Option Addr) (len c n : Nat) (l : List UInt8) (h1 : n ≤ len) (h3 : len = l.length) (h4 : ao = none → c = 0) (h5 : len ≤ c) :
    ∃ ao', (∀ W, (Instr.slice 33 (.slice ao len c) (some (.int .i64 (n : Int))) none none).run Tryz.prog W = .ok (.slice ao' (len - n) (c - n)) W) ∧ (∀ w, Byt w ao l → Byt w ao' (l.drop n)) ∧ (ao' = none → c - n = 0) ∧ (∀ g, (∀ a, ao = some a → a.block < g) → ∀ a, ao' = some a → a.block < g) := by
  have hs := fun W => run_slice_l (P := Tryz.prog) W 33 ao len c (by rw [Tryz.underlying33]; rfl) .i64 (n : Int) (by omega) (by omega)
  have e3 : Tryz.prog.elem 33 = 5 := by kernel_rfl
  simp only [e3, Tryz.sizeOf5, sliced, Result.andThen, Int.toNat_natCast, Nat.mul_one] at hs
  by_cases hcn : c = n
  · refine ⟨ao, fun W => by rw [hs W, if_pos hcn], fun w hb hne => ?_, fun _ => by omega, fun g h => h⟩
    exfalso
    apply hne
    apply List.drop_of_length_le
    omega
  · cases ao with
    | none =>
      have := h4 rfl
      omega
    | some a =>
      refine ⟨some (a.add n), fun W => by rw [hs W, if_neg hcn]; rfl, fun w hb => ?_, fun h => (by cases h), fun g h a' ha' => ?_⟩
      · by_cases hl : l = []
        · subst hl
          rw [List.drop_nil]
          exact byt_nil _ _
        · obtain ⟨b, o, h0, _, _⟩ := hb hl
          injection h0 with h0
          subst h0
          rw [WideShapes.add_plain]
          exact hb.drop n
      · injection ha' with ha'
        subst ha'
        have hb : (a.add n).block = a.block := by
          unfold Addr.add
          split <;> rfl
        rw [hb]
        exact h a rfl
/-- what a reader's call leaves: its value, what is left, whether it is bad -/
def AnsR (w : World) (g : Nat) (v : Value) (l : List UInt8) (bad : Bool) (e : Ending) (w' : World) : Prop := e = .returned v ∧ w.grownBy w' (some g) ∧ ∃ ao m c, Rd w' g l bad ao m c
/-- a reader's step, as plain mathematics: of a bad one, or where there is none, nought -/
def stepR {α : Type} (p : List UInt8 → Option (α × List UInt8)) (z : α) (l : List UInt8) (bad : Bool) : α × List UInt8 × Bool :=
  if bad = true then (z, l, true) else match p l with
    | none => (z, l, true)
    | some (x, r) => (x, r, false)
end Go.Proofs.YtcgbaiogbcodcaaGreatDoor.Sh
