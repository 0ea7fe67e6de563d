/-
  The contracts of leb.Take and of the statements' own heads (it returns true). Condition: the library's variable errors.errorType is as its text lays it.
-/
import Derived.Test.YtcgbaiogbcodcaaGreatDoorWi
namespace Go.Proofs.YtcgbaiogbcodcaaGreatDoor.Sh
open Go.RowKit Go.Lib Lb

theorem Own.below {w w' : World} {B : Nat} {v : Value} {l : List UInt8} (h : Own w B v l) (hb : Below w.heap.size w w') : Own w' B v l :=
  World.ownsRow.kept (row := none) h ⟨hb.os, hb.tape, hb.output, hb.size, fun i hi _ => hb.block i hi⟩ (Classical.em _)
theorem byt_lit (w : World) (l : List UInt8) (vs : Array Value) (h : vs = (bs l).toArray) : Byt (w.alloc (.cells vs 5)) (some ⟨w.heap.size, 0, none⟩) l := fun _ => by
  refine ⟨w.heap.size, 0, rfl, by simp, fun j hj => ?_⟩
  rw [World.cell?_alloc_new, h]
  simp [bs, hj]

end Go.Proofs.YtcgbaiogbcodcaaGreatDoor.Sh
