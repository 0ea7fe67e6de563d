/-
  The contracts of sha's and the document's New. Condition: the tables of sha stand in memory.
-/
import Derived.Test.YtpcmminokhmkjaaDoorWh
import Derived.Test.YtpcmminokhmkjaaDoorKe
namespace Go.Proofs.YtpcmminokhmkjaaDoor.Sh
open Go.RowKit Go.Lib

theorem info75 : (Tryd.prog.info? 75).map (·.size) = some 3 := by kernel_rfl
theorem two_below (w : World) (o1 o2 : Obj) : Below w.heap.size w ((w.alloc o1).alloc o2) := ((Below.refl _ w).alloc (Nat.le_refl _) _).alloc (by simp) _
theorem new_sha {w : World} {cs : Array Value} {u : TypeId} (t : TypeId) : ShaV ((w.alloc (.cells cs u)).alloc (.cells (us startL).toArray t)) (.agg #[.slice (some ⟨w.heap.size + 1, 0, none⟩) 8 8, .slice none 0 0, .int .u64 0]) newS (some ⟨w.heap.size + 1, 0, none⟩) 8 none 0 := {
  val := rfl
  wrd := (Blk.new (w.alloc (.cells cs u)) (us startL) t (w.heap.size + 1) (by simp)).wrd
  hnil := fun h => by cases h
  hcap := Nat.le_refl _
  hmax := by decide
  byt := byt_nil _ _
  bnil := fun _ => rfl
  bcap := Nat.le_refl _
  bmax := by decide
  num := by decide }
set_option maxHeartbeats 1000000 in
set_option maxRecDepth 100000 in
theorem refnew_any (w : World) : Calls Tryd.prog 44 #[] w fun e w' => Below w.heap.size w w' ∧ ∃ v ha hc, e = .returned v ∧ ShaV w' v newS ha hc none 0 := by
  go_enter Tryd.func44, Tryd.ntmps44
  go_wp2_with fail
  exact bodyPost_ret (results_cell_row Tryd.results44 _ _ w.heap.size 75 #[.slice (some ⟨w.heap.size + 1, 0, none⟩) 8 8, .slice none 0 0, .int .u64 0] (0, 0) _ rfl (Blk.alloc (Blk.new w [.slice (some ⟨w.heap.size + 1, 0, none⟩) 8 8, .slice none 0 0, .int .u64 0] 75 _ rfl) _) Tryd.underlying75 rfl info75) rfl
    ⟨two_below w _ _, _, some ⟨w.heap.size + 1, 0, none⟩, 8, rfl, new_sha 91⟩
theorem two_cells (w : World) (c1 c2 : Array Value) (t1 t2 : TypeId) (j : Nat) : ((w.alloc (.cells c1 t1)).alloc (.cells c2 t2)).cell? ⟨w.heap.size, j, none⟩ = c1[j]? ∧ ((w.alloc (.cells c1 t1)).alloc (.cells c2 t2)).cell? ⟨w.heap.size + 1, j, none⟩ = c2[j]? := by
  refine ⟨?_, ?_⟩
  · rw [World.cell?_alloc_lt _ _ _ (by simp), World.cell?_alloc_new]
  · have := World.cell?_alloc_new (w.alloc (.cells c1 t1)) c2 t2 j
    rwa [show (w.alloc (.cells c1 t1)).heap.size = w.heap.size + 1 by simp] at this
end Go.Proofs.YtpcmminokhmkjaaDoor.Sh
