/-
  A block of memory known whole, and an array read out of it, or laid into it, whole. Conditions: each law's own.
-/
import Derived.Test.YtpcmminokhmkjaaDoorKd
import Derived.Test.YtpcmminokhmkjaaDoorPa
import Derived.Laws.Rows
import Derived.Deep.WholeRow
namespace Go.Proofs.YtpcmminokhmkjaaDoor.Sh
open Go.ChangeShapes Go.WideShapes Go.ChangeAt Go.RowKit Go.Lib Go.ChangeMaps
theorem us_getD (L : List UInt32) (j : Nat) (h : j < L.length) : (us L)[j]? = some (.int .u32 ((L.getD j 0).toNat : Int)) := by
  rw [us_get L j h, List.getD_eq_getElem?_getD, List.getElem?_eq_getElem h]
  rfl
theorem us_set (L : List UInt32) (j : Nat) (y : UInt32) : (us L).set j (.int .u32 (y.toNat : Int)) = us (L.set j y) := by simp [us, List.map_set]
theorem part_u (l : List UInt8) (i j : Nat) (h : j ≤ 4) : (UInt32.ofNat (part l i j)).toNat = part l i j := by
  rw [UInt32.toNat_ofNat']
  apply Nat.mod_eq_of_lt
  exact Nat.lt_of_lt_of_le (part_lt l i j) (Nat.pow_le_pow_right (by decide) h)
theorem byte_cell (blk : List UInt8) (hb : blk.length = 64) (j : Nat) (h : j < 64) : (bs blk)[j]? = some (.int .u8 (byte blk j : Int)) := by
  rw [bs_get blk j (by omega), byte, List.getD_eq_getElem?_getD, List.getElem?_eq_getElem (by omega)]
  rfl

/-- block g holds these cells, and none is frozen -/
def Blk (w : World) (g : Nat) (cs : List Value) (t : TypeId) : Prop := w.heap[g]? = some (.cells cs.toArray t (0, 0))
theorem Blk.lt {w : World} {g : Nat} {cs : List Value} {t : TypeId} (h : Blk w g cs t) : g < w.heap.size := (Array.getElem?_eq_some_iff.1 h).1
theorem Blk.cell {w : World} {g : Nat} {cs : List Value} {t : TypeId} (h : Blk w g cs t) (j : Nat) : w.cell? ⟨g, j, none⟩ = cs[j]? := by
  rw [cell_of_row w g j _ t (0, 0) h]
  simp
theorem Blk.frozen {w : World} {g : Nat} {cs : List Value} {t : TypeId} (h : Blk w g cs t) (j : Nat) : w.frozen? ⟨g, j, none⟩ = false := frozen_of_row w g j _ t h
theorem Blk.drew {w : World} {g : Nat} {cs : List Value} {t : TypeId} (h : Blk w g cs t) : Blk w.drew g cs t := h
theorem Blk.below {w w' : World} {B g : Nat} {cs : List Value} {t : TypeId} (h : Blk w g cs t) (hb : Below B w w') (hg : g < B) : Blk w' g cs t := (hb.block g hg).trans h
theorem Blk.low {w w' : World} {g : Nat} {cs : List Value} {t : TypeId} (h : Blk w g cs t) (hb : Below w.heap.size w w') : Blk w' g cs t := h.below hb h.lt
theorem Blk.alloc {w : World} {g : Nat} {cs : List Value} {t : TypeId} (h : Blk w g cs t) (o : Obj) : Blk (w.alloc o) g cs t := (Below.heap_alloc w o g h.lt).trans h
theorem Blk.new (w : World) (cs : List Value) (t : TypeId) (g : Nat) (hg : g = w.heap.size) : Blk (w.alloc (.cells cs.toArray t)) g cs t := by
  subst hg
  exact heap_alloc_new w _
theorem Blk.set {w : World} {g : Nat} {cs : List Value} {t : TypeId} (h : Blk w g cs t) (i : Nat) (v : Value) : Blk (w.setCell ⟨g, i, none⟩ v) g (cs.set i v) t := by
  unfold Blk
  rw [heap_setCell_same w g i _ t v h]
  simp
theorem Blk.other {w : World} {g : Nat} {cs : List Value} {t : TypeId} (h : Blk w g cs t) {a : Addr} (v : Value) (ha : g ≠ a.block) : Blk (w.setCell a v) g cs t := (heap_setCell_other w a g v ha).trans h
theorem Blk.wrd {w : World} {g : Nat} {l : List UInt32} {t : TypeId} (h : Blk w g (us l) t) : Wrd w (some ⟨g, 0, none⟩) l := fun _ => ⟨g, 0, rfl, h.lt, fun j hj => by
  rw [Nat.zero_add, h.cell, us_get l j hj]⟩
theorem Blk.byt {w : World} {g : Nat} {l : List UInt8} {t : TypeId} (h : Blk w g (bs l) t) : Byt w (some ⟨g, 0, none⟩) l := fun _ => ⟨g, 0, rfl, h.lt, fun j hj => by
  rw [Nat.zero_add, h.cell, bs_get l j hj]⟩

theorem cells_us (l : List UInt32) : (us l).length = l.length := by simp [us]
end Go.Proofs.YtpcmminokhmkjaaDoor.Sh
