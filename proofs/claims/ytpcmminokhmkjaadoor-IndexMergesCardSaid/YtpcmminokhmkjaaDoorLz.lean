/-
  A region that draws its order, whose operations only read, and whose callees leave whatever world that is as it was below: walked once, in the text's order. No condition.
-/
import Derived.Test.YtpcmminokhmkjaaDoorRows
import Derived.Below
import Derived.Deep.QuietTactic
import Derived.Sort.Grow
import Derived.Shelf.RegionOpenPlain
namespace Go.Proofs.YtpcmminokhmkjaaDoor.Lz
open Go.RowKit Go.Sort
/-- how far a world is from w: what was drawn, and the blocks behind those of w -/
structure Lo where
  d : Nat
  os : Array Obj
  deriving Inhabited
def loo (w : World) (d : Nat) (os : Array Obj) : World := { w with heap := w.heap ++ os, drawn := d }
theorem below_loo {w w' : World} (h : Below w.heap.size w w') : ∃ p : Lo, w' = loo w p.d p.os := by
  refine ⟨⟨w'.drawn, w'.heap.extract w.heap.size w'.heap.size⟩, ?_⟩
  have hh : w'.heap = w.heap ++ w'.heap.extract w.heap.size w'.heap.size := by
    have hs := h.size
    apply Array.ext
    · simp; omega
    · intro i h1 h2
      rw [Array.getElem_append]
      split
      · rename_i hi
        have := h.block i hi
        rw [Array.getElem?_eq_getElem hi, Array.getElem?_eq_getElem h1] at this
        injection this
      · rename_i hi
        rw [Array.getElem_extract]
        congr 1
        omega
  obtain ⟨heap, tape, drawn, os, output⟩ := w'
  obtain ⟨h1, h2, h3, _, _⟩ := h
  simp only at h1 h2 h3 hh
  unfold loo
  rw [← hh, h1, h2, h3]
theorem loo_below (w : World) (d : Nat) (os : Array Obj) : Below w.heap.size w (loo w d os) := by
  refine ⟨rfl, rfl, rfl, ?_, fun k hk => ?_⟩
  · show w.heap.size ≤ (w.heap ++ os).size
    simp
  · show (w.heap ++ os)[k]? = _
    rw [Array.getElem?_append, if_pos hk]
theorem loo_size (w : World) (d : Nat) (os : Array Obj) : w.heap.size ≤ (loo w d os).heap.size := (loo_below w d os).size
theorem loo_drew (w : World) : ∃ p : Lo, w.drew = loo w p.d p.os := below_loo (Below.refl _ w).drew
theorem wp_region_quiet_loo {P : Program} {id : Nat} {Q : Exit → Act → World → Prop} {a : Act} {w : World} {l : List Oper} (hm : P.follows .mixedOrders = true) (hB : Region.lexB .any l.toArray = true)
    (h : wpQuiet P l.toArray (fun w' => ∃ p : Lo, w' = loo w p.d p.os) (fun a' => ∀ w', (∃ p : Lo, w' = loo w p.d p.os) → Q .normal a' w') l a) : (Code.region id l.toArray true).wp P Q a w :=
  wp_region_quiet (C := fun w' => ∃ p : Lo, w' = loo w p.d p.os) hm hB (loo_drew w) (by simpa using h)
/-- a cell of an old block, in every world of the class -/
theorem cell_loo {w : World} {a : Addr} {v : Value} (hb : a.block < w.heap.size) (h : w.cell? a = some v) (d : Nat) (os : Array Obj) : (loo w d os).cell? a = some v :=
  ((loo_below w d os).cell (p := a) hb).trans h
/-- a callee's contract, met in a world of the class -/
theorem calls_loo {P : Program} {f : FuncId} {args : Array Value} {w : World} {d : Nat} {os : Array Obj} {v : Value}
    (h : Calls P f args (loo w d os) fun e w' => e = .returned v ∧ Below (loo w d os).heap.size (loo w d os) w') : Calls P f args (loo w d os) fun e w'' => e = .returned v ∧ ∃ p : Lo, w'' = loo w p.d p.os :=
  h.mono fun _ _ ⟨he, hb⟩ => ⟨he, below_loo ((loo_below w d os).trans (hb.mono (loo_size w d os)))⟩
end Go.Proofs.YtpcmminokhmkjaaDoor.Lz
