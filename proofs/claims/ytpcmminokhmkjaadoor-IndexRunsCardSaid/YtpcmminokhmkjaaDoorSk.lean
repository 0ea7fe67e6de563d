/-
  The contracts of the package's bounded, right and Check, and of the document's own Check. Conditions: each law's own.
-/
import Derived.Test.YtpcmminokhmkjaaDoorSj
import Derived.Test.YtpcmminokhmkjaaDoorPk
import Derived.Laws.Rows
namespace Go.Proofs.YtpcmminokhmkjaaDoor.St
open Go.Shelf Go.RowKit Go.Lib Go.Sort
def bnd (e : Ent) : Ent := ⟨e.key, min (max e.pack 0) 61, min (max e.off 0) 16383, min (max e.size 1) 16384, min (max e.refs 0) 2147483648⟩
theorem size31 (a b c d e : Value) : (Tryd.prog.info? 31).map (·.size) = some (#[a, b, c, d, e] : Array Value).size := by kernel_rfl
set_option maxHeartbeats 4000000 in
set_option maxRecDepth 100000 in
theorem bounded_any (e : Ent) (w : World) : Calls Tryd.prog 29 #[.agg (encE e).toArray] w fun r w' => r = .returned (.agg (encE (bnd e)).toArray) ∧ Below w.heap.size w w' := by
  obtain ⟨key, a, b, c, d⟩ := e
  simp only [encE, bnd]
  have hb : Hid (Below w.heap.size w w) := Below.refl _ _
  go_enter Tryd.func29, Tryd.ntmps29
  go_wp2
  refine bodyPost_ret (results_cell_row rfl _ _ (w.heap.size + 1) 31 _ (0, 0) _ rfl (by rw [show w.heap.size + 1 = (w.alloc (.cells #[.string key, .int .i64 (min (max a 0) 61), .int .i64 (min (max b 0) 16383), .int .i64 (min (max c 1) 16384), .int .i64 (min (max d 0) 2147483648)] 31)).heap.size by simp]; exact heap_alloc_new _ _) Tryd.underlying31 rfl (size31 _ _ _ _ _)) rfl ?_
  exact ⟨rfl, (hb.out.alloc (Nat.le_refl _) _).alloc (by simp) _⟩
/-- an entry that may be -/
def okE (e : Ent) : Bool := (Sh.keyBytes e.key.data.toList).isSome && decide (e = bnd e)
end Go.Proofs.YtpcmminokhmkjaaDoor.St
