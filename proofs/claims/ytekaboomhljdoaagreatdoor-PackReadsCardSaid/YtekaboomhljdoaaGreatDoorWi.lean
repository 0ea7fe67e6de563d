/-
  The contracts of sha's and the document's New. Condition: the tables of sha stand in memory.
-/
import Derived.Test.YtekaboomhljdoaaGreatDoorWh
namespace Go.Proofs.YtekaboomhljdoaaGreatDoor.Sh
open Go.RowKit Go.Lib

theorem info115 : (Tryz.prog.info? 115).map (·.size) = some 3 := by kernel_rfl
theorem two_below (w : World) (o1 o2 : Obj) : Below w.heap.size w ((w.alloc o1).alloc o2) := ((Below.refl _ w).alloc (Nat.le_refl _) _).alloc (by simp) _
theorem new_sha {w : World} {cs : Array Value} {u : TypeId} (t : TypeId) : ShaV ((w.alloc (.cells cs u)).alloc (.cells (us startL).toArray t)) (.agg #[.slice (some ⟨w.heap.size + 1, 0, none⟩) 8 8, .slice none 0 0, .int .u64 0]) newS (some ⟨w.heap.size + 1, 0, none⟩) 8 none 0 := {
  val := rfl
  wrd := (Blk.new (w.alloc (.cells cs u)) (us startL) t (w.heap.size + 1) (by simp)).wrd
  hnil := fun h => by cases h
  hcap := Nat.le_refl _
  hmax := by decide
  byt := byt_nil _ _
  bnil := fun _ => rfl
  bcap := Nat.le_refl _
  bmax := by decide
  num := by decide }
set_option maxHeartbeats 1000000 in
set_option maxRecDepth 100000 in
theorem new_any (w : World) (hl : Lay w) : Calls Tryz.prog 99 #[] w fun e w' => Below w.heap.size w w' ∧ ∃ v ha hc, e = .returned v ∧ ShaV w' v newS ha hc none 0 := by
  have h2 := hl.2.2
  have r0 : ∀ o, (w.alloc o).cell? ⟨2, 0, none⟩ = some (.int .u32 1779033703) := fun o => (World.cell?_alloc_lt w o ⟨2, 0, none⟩ (by show 2 < _; omega)).trans (hl.1 0 (by decide))
  have r1 : ∀ o, (w.alloc o).cell? ⟨2, 1, none⟩ = some (.int .u32 3144134277) := fun o => (World.cell?_alloc_lt w o ⟨2, 1, none⟩ (by show 2 < _; omega)).trans (hl.1 1 (by decide))
  have r2 : ∀ o, (w.alloc o).cell? ⟨2, 2, none⟩ = some (.int .u32 1013904242) := fun o => (World.cell?_alloc_lt w o ⟨2, 2, none⟩ (by show 2 < _; omega)).trans (hl.1 2 (by decide))
  have r3 : ∀ o, (w.alloc o).cell? ⟨2, 3, none⟩ = some (.int .u32 2773480762) := fun o => (World.cell?_alloc_lt w o ⟨2, 3, none⟩ (by show 2 < _; omega)).trans (hl.1 3 (by decide))
  have r4 : ∀ o, (w.alloc o).cell? ⟨2, 4, none⟩ = some (.int .u32 1359893119) := fun o => (World.cell?_alloc_lt w o ⟨2, 4, none⟩ (by show 2 < _; omega)).trans (hl.1 4 (by decide))
  have r5 : ∀ o, (w.alloc o).cell? ⟨2, 5, none⟩ = some (.int .u32 2600822924) := fun o => (World.cell?_alloc_lt w o ⟨2, 5, none⟩ (by show 2 < _; omega)).trans (hl.1 5 (by decide))
  have r6 : ∀ o, (w.alloc o).cell? ⟨2, 6, none⟩ = some (.int .u32 528734635) := fun o => (World.cell?_alloc_lt w o ⟨2, 6, none⟩ (by show 2 < _; omega)).trans (hl.1 6 (by decide))
  have r7 : ∀ o, (w.alloc o).cell? ⟨2, 7, none⟩ = some (.int .u32 1541459225) := fun o => (World.cell?_alloc_lt w o ⟨2, 7, none⟩ (by show 2 < _; omega)).trans (hl.1 7 (by decide))
  clear hl
  go_enter Tryz.func99, Tryz.ntmps99
  go_wp2_with fail
  exact bodyPost_ret (results_cell_row Tryz.results99 _ _ w.heap.size 115 #[.slice (some ⟨w.heap.size + 1, 0, none⟩) 8 8, .slice none 0 0, .int .u64 0] (0, 0) _ rfl (Blk.alloc (Blk.new w [.slice (some ⟨w.heap.size + 1, 0, none⟩) 8 8, .slice none 0 0, .int .u64 0] 115 _ rfl) _) Tryz.underlying115 rfl info115) rfl
    ⟨two_below w _ _, _, some ⟨w.heap.size + 1, 0, none⟩, 8, rfl, new_sha 156⟩
set_option maxHeartbeats 1000000 in
set_option maxRecDepth 100000 in
theorem refnew_any (w : World) : Calls Tryz.prog 70 #[] w fun e w' => Below w.heap.size w w' ∧ ∃ v ha hc, e = .returned v ∧ ShaV w' v newS ha hc none 0 := by
  go_enter Tryz.func70, Tryz.ntmps70
  go_wp2_with fail
  exact bodyPost_ret (results_cell_row Tryz.results70 _ _ w.heap.size 115 #[.slice (some ⟨w.heap.size + 1, 0, none⟩) 8 8, .slice none 0 0, .int .u64 0] (0, 0) _ rfl (Blk.alloc (Blk.new w [.slice (some ⟨w.heap.size + 1, 0, none⟩) 8 8, .slice none 0 0, .int .u64 0] 115 _ rfl) _) Tryz.underlying115 rfl info115) rfl
    ⟨two_below w _ _, _, some ⟨w.heap.size + 1, 0, none⟩, 8, rfl, new_sha 118⟩
theorem same_bytes (ao bo : Option Addr) (l : List UInt8) (c d : Nat) (w : World) (h1 : Byt w ao l) (h2 : Byt w bo l) (n1 : ao = none → c = 0) (n2 : bo = none → d = 0) :
    Calls Tryz.prog 43 #[.slice ao l.length c, .slice bo l.length d] w fun e w' => e = .returned (.bool true) ∧ w = w' := by
  have k1 := conv_byt (P := Tryz.prog) Tryz.underlying24 Tryz.underlying5 Tryz.underlying9 ao l c h1 n1
  have k2 := conv_byt (P := Tryz.prog) Tryz.underlying24 Tryz.underlying5 Tryz.underlying9 bo l d h2 n2
  clear h1 h2
  go_enter Tryz.func43, Tryz.ntmps43
  go_wp2_with fail
  go_ret
  exact ⟨rfl, rfl⟩
theorem two_cells (w : World) (c1 c2 : Array Value) (t1 t2 : TypeId) (j : Nat) : ((w.alloc (.cells c1 t1)).alloc (.cells c2 t2)).cell? ⟨w.heap.size, j, none⟩ = c1[j]? ∧ ((w.alloc (.cells c1 t1)).alloc (.cells c2 t2)).cell? ⟨w.heap.size + 1, j, none⟩ = c2[j]? := by
  refine ⟨?_, ?_⟩
  · rw [World.cell?_alloc_lt _ _ _ (by simp), World.cell?_alloc_new]
  · have := World.cell?_alloc_new (w.alloc (.cells c1 t1)) c2 t2 j
    rwa [show (w.alloc (.cells c1 t1)).heap.size = w.heap.size + 1 by simp] at this
end Go.Proofs.YtekaboomhljdoaaGreatDoor.Sh
