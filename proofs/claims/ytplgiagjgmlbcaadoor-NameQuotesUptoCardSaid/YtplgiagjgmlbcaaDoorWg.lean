/-
  What the contracts of this seat ask of memory: the library's tables and variables read as their texts lay them; and that this stays so whatever is laid behind. No other condition.
-/
import Derived.Test.YtplgiagjgmlbcaaDoorShelf
import Derived.WalkKit
namespace Go.Proofs.YtplgiagjgmlbcaaDoor.Nm
open Go.RowKit Go.Lib

structure Glob (w : World) : Prop where
  size : 8 ≤ w.heap.size
  tabs : Lib.Utf8Tabs 0 1 w
  mlen : ∃ m, w.cell? ⟨3, 0, none⟩ = some (.int .i64 m)
  syn : ∃ ev, w.cell? ⟨4, 0, none⟩ = some ev ∧ (ev = .nilIface ∨ ∃ te pe, ev = .iface te pe)
  rng : ∃ ev, w.cell? ⟨5, 0, none⟩ = some ev ∧ (ev = .nilIface ∨ ∃ te pe, ev = .iface te pe)
  tz : w.cell? ⟨7, 15, none⟩ = some (.int .u8 4)

theorem Glob.below {w w' : World} (h : Glob w) (hb : Below w.heap.size w w') : Glob w' where
  size := Nat.le_trans h.size hb.size
  tabs := Utf8Tabs_below h.tabs hb
  mlen := by
    obtain ⟨m, hm⟩ := h.mlen
    exact ⟨m, (hb.cell (p := ⟨3, 0, none⟩) (Nat.lt_of_lt_of_le (by decide : 3 < 8) h.size)).trans hm⟩
  syn := by
    obtain ⟨m, hm, he⟩ := h.syn
    exact ⟨m, (hb.cell (p := ⟨4, 0, none⟩) (Nat.lt_of_lt_of_le (by decide : 4 < 8) h.size)).trans hm, he⟩
  rng := by
    obtain ⟨m, hm, he⟩ := h.rng
    exact ⟨m, (hb.cell (p := ⟨5, 0, none⟩) (Nat.lt_of_lt_of_le (by decide : 5 < 8) h.size)).trans hm, he⟩
  tz := (hb.cell (p := ⟨7, 15, none⟩) (Nat.lt_of_lt_of_le (by decide : 7 < 8) h.size)).trans h.tz
theorem Glob.alloc {w : World} (h : Glob w) (o : Obj) : Glob (w.alloc o) := h.below ((Below.refl _ w).alloc (Nat.le_refl _) o)
end Go.Proofs.YtplgiagjgmlbcaaDoor.Nm
