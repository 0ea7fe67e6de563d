/-
  The contracts of sha's and the document's New, and of both Sames. Condition: the tables of sha stand in memory.
-/
import Derived.Test.YtekmmafgknnmlaaDoorWh
namespace Go.Proofs.YtekmmafgknnmlaaDoor.Sh
open Go.RowKit Go.Lib

theorem info26 : (Tryd.prog.info? 26).map (·.size) = some 3 := by kernel_rfl
theorem two_below (w : World) (o1 o2 : Obj) : Below w.heap.size w ((w.alloc o1).alloc o2) := ((Below.refl _ w).alloc (Nat.le_refl _) _).alloc (by simp) _
theorem new_sha {w : World} {cs : Array Value} {u : TypeId} (t : TypeId) : ShaV ((w.alloc (.cells cs u)).alloc (.cells (us startL).toArray t)) (.agg #[.slice (some ⟨w.heap.size + 1, 0, none⟩) 8 8, .slice none 0 0, .int .u64 0]) newS (some ⟨w.heap.size + 1, 0, none⟩) 8 none 0 := {
  val := rfl
  wrd := (Blk.new (w.alloc (.cells cs u)) (us startL) t (w.heap.size + 1) (by simp)).wrd
  hnil := fun h => by cases h
  hcap := Nat.le_refl _
  hmax := by decide
  byt := byt_nil _ _
  bnil := fun _ => rfl
  bcap := Nat.le_refl _
  bmax := by decide
  num := by decide }
set_option maxHeartbeats 1000000 in
set_option maxRecDepth 100000 in
theorem new_any (w : World) (hl : Lay w) : Calls Tryd.prog 16 #[] w fun e w' => Below w.heap.size w w' ∧ ∃ v ha hc, e = .returned v ∧ ShaV w' v newS ha hc none 0 := by
  have h2 := hl.2.2
  have r0 : ∀ o, (w.alloc o).cell? ⟨0, 0, none⟩ = some (.int .u32 1779033703) := fun o => (World.cell?_alloc_lt w o ⟨0, 0, none⟩ (by show 0 < _; omega)).trans (hl.1 0 (by decide))
  have r1 : ∀ o, (w.alloc o).cell? ⟨0, 1, none⟩ = some (.int .u32 3144134277) := fun o => (World.cell?_alloc_lt w o ⟨0, 1, none⟩ (by show 0 < _; omega)).trans (hl.1 1 (by decide))
  have r2 : ∀ o, (w.alloc o).cell? ⟨0, 2, none⟩ = some (.int .u32 1013904242) := fun o => (World.cell?_alloc_lt w o ⟨0, 2, none⟩ (by show 0 < _; omega)).trans (hl.1 2 (by decide))
  have r3 : ∀ o, (w.alloc o).cell? ⟨0, 3, none⟩ = some (.int .u32 2773480762) := fun o => (World.cell?_alloc_lt w o ⟨0, 3, none⟩ (by show 0 < _; omega)).trans (hl.1 3 (by decide))
  have r4 : ∀ o, (w.alloc o).cell? ⟨0, 4, none⟩ = some (.int .u32 1359893119) := fun o => (World.cell?_alloc_lt w o ⟨0, 4, none⟩ (by show 0 < _; omega)).trans (hl.1 4 (by decide))
  have r5 : ∀ o, (w.alloc o).cell? ⟨0, 5, none⟩ = some (.int .u32 2600822924) := fun o => (World.cell?_alloc_lt w o ⟨0, 5, none⟩ (by show 0 < _; omega)).trans (hl.1 5 (by decide))
  have r6 : ∀ o, (w.alloc o).cell? ⟨0, 6, none⟩ = some (.int .u32 528734635) := fun o => (World.cell?_alloc_lt w o ⟨0, 6, none⟩ (by show 0 < _; omega)).trans (hl.1 6 (by decide))
  have r7 : ∀ o, (w.alloc o).cell? ⟨0, 7, none⟩ = some (.int .u32 1541459225) := fun o => (World.cell?_alloc_lt w o ⟨0, 7, none⟩ (by show 0 < _; omega)).trans (hl.1 7 (by decide))
  clear hl
  go_enter Tryd.func16, Tryd.ntmps16
  go_wp2_with fail
  exact bodyPost_ret (results_cell_row Tryd.results16 _ _ w.heap.size 26 #[.slice (some ⟨w.heap.size + 1, 0, none⟩) 8 8, .slice none 0 0, .int .u64 0] (0, 0) _ rfl (Blk.alloc (Blk.new w [.slice (some ⟨w.heap.size + 1, 0, none⟩) 8 8, .slice none 0 0, .int .u64 0] 26 _ rfl) _) Tryd.underlying26 rfl info26) rfl
    ⟨two_below w _ _, _, some ⟨w.heap.size + 1, 0, none⟩, 8, rfl, new_sha 43⟩
set_option maxHeartbeats 1000000 in
set_option maxRecDepth 100000 in
theorem refnew_any (w : World) : Calls Tryd.prog 17 #[] w fun e w' => Below w.heap.size w w' ∧ ∃ v ha hc, e = .returned v ∧ ShaV w' v newS ha hc none 0 := by
  go_enter Tryd.func17, Tryd.ntmps17
  go_wp2_with fail
  exact bodyPost_ret (results_cell_row Tryd.results17 _ _ w.heap.size 26 #[.slice (some ⟨w.heap.size + 1, 0, none⟩) 8 8, .slice none 0 0, .int .u64 0] (0, 0) _ rfl (Blk.alloc (Blk.new w [.slice (some ⟨w.heap.size + 1, 0, none⟩) 8 8, .slice none 0 0, .int .u64 0] 26 _ rfl) _) Tryd.underlying26 rfl info26) rfl
    ⟨two_below w _ _, _, some ⟨w.heap.size + 1, 0, none⟩, 8, rfl, new_sha 42⟩
theorem same_bytes (ao bo : Option Addr) (l : List UInt8) (c d : Nat) (w : World) (h1 : Byt w ao l) (h2 : Byt w bo l) (n1 : ao = none → c = 0) (n2 : bo = none → d = 0) :
    Calls Tryd.prog 12 #[.slice ao l.length c, .slice bo l.length d] w fun e w' => e = .returned (.bool true) ∧ w = w' := by
  have k1 := conv_byt (P := Tryd.prog) Tryd.underlying23 Tryd.underlying5 Tryd.underlying9 ao l c h1 n1
  have k2 := conv_byt (P := Tryd.prog) Tryd.underlying23 Tryd.underlying5 Tryd.underlying9 bo l d h2 n2
  clear h1 h2
  go_enter Tryd.func12, Tryd.ntmps12
  go_wp2_with fail
  go_ret
  exact ⟨rfl, rfl⟩
theorem two_cells (w : World) (c1 c2 : Array Value) (t1 t2 : TypeId) (j : Nat) : ((w.alloc (.cells c1 t1)).alloc (.cells c2 t2)).cell? ⟨w.heap.size, j, none⟩ = c1[j]? ∧ ((w.alloc (.cells c1 t1)).alloc (.cells c2 t2)).cell? ⟨w.heap.size + 1, j, none⟩ = c2[j]? := by
  refine ⟨?_, ?_⟩
  · rw [World.cell?_alloc_lt _ _ _ (by simp), World.cell?_alloc_new]
  · have := World.cell?_alloc_new (w.alloc (.cells c1 t1)) c2 t2 j
    rwa [show (w.alloc (.cells c1 t1)).heap.size = w.heap.size + 1 by simp] at this
set_option maxHeartbeats 2000000 in
set_option maxRecDepth 100000 in
theorem same_sha (v1 v2 : Value) (s : Sha) (a1 a2 : Option Addr) (c1 c2 : Nat) (b1 b2 : Option Addr) (d1 d2 : Nat) (w : World) (h1 : ShaV w v1 s a1 c1 b1 d1) (h2 : ShaV w v2 s a2 c2 b2 d2) :
    Calls Tryd.prog 11 #[v1, v2] w fun e w' => e = .returned (.bool true) ∧ Below w.heap.size w w' := by
  rw [h1.val, h2.val]
  have f1 := two_cells w #[.slice a1 s.H.length c1, .slice b1 s.B.length d1, .int .u64 (s.N : Int)] #[.slice a2 s.H.length c2, .slice b2 s.B.length d2, .int .u64 (s.N : Int)] 26 26
  have b0 := two_below w (.cells #[.slice a1 s.H.length c1, .slice b1 s.B.length d1, .int .u64 (s.N : Int)] 26) (.cells #[.slice a2 s.H.length c2, .slice b2 s.B.length d2, .int .u64 (s.N : Int)] 26)
  have H1 := Lib.hid (h1.wrd.below b0)
  have H2 := Lib.hid (h2.wrd.below b0)
  have B1 := Lib.hid (h1.byt.below b0)
  have B2 := Lib.hid (h2.byt.below b0)
  have N1 := Lib.hid h1.bnil
  have N2 := Lib.hid h2.bnil
  have hcap := Nat.le_trans h1.hcap h1.hmax
  have bcap := Nat.le_trans h1.bcap h1.bmax
  clear h1 h2
  obtain ⟨H, B, N⟩ := s
  simp only at *
  obtain ⟨n, hn⟩ : ∃ n, n = H.length := ⟨_, rfl⟩
  obtain ⟨m, hm⟩ : ∃ m, m = B.length := ⟨_, rfl⟩
  have HN := Lib.hid hn
  have HM := Lib.hid hm
  rw [← hn, ← hm] at f1 b0 H1 H2 B1 B2 ⊢
  rw [← hn] at hcap
  rw [← hm] at bcap
  clear hn hm
  go_enter Tryd.func11, Tryd.ntmps11
  go_wp2_with fail
  have f10 := (f1 0).1
  have f11 := (f1 1).1
  have f12 := (f1 2).1
  have f20 := (f1 0).2
  have f21 := (f1 1).2
  have f22 := (f1 2).2
  simp only [List.getElem?_toArray, List.getElem?_cons_zero, List.getElem?_cons_succ] at f10 f11 f12 f20 f21 f22
  clear f1
  generalize hW : (w.alloc (.cells #[.slice a1 n c1, .slice b1 m d1, .int .u64 (N : Int)] 26)).alloc (.cells #[.slice a2 n c2, .slice b2 m d2, .int .u64 (N : Int)] 26) = W0 at *
  clear hW
  go_loopw [5] (fun vi wr => ∃ i k : Nat, i ≤ n ∧ vi = .int .i64 i ∧ Hid (wr = W0.drewN k)) (fun vi _ => n - (RowKit.intOf vi).toNat)
  case atStart => exact ⟨0, 0, by omega, rfl, rfl⟩
  case round =>
    obtain ⟨i, k, hi, rfl, hw⟩ := hrel
    rw [show W0 = W0.drewN 0 from rfl] at f10
    have g10 : wr.cell? ⟨w.heap.size, 0, none⟩ = some (.slice a1 n c1) := by rw [hw.out]; exact f10
    have g11 : wr.cell? ⟨w.heap.size, 1, none⟩ = some (.slice b1 m d1) := by rw [hw.out]; exact f11
    have g12 : wr.cell? ⟨w.heap.size, 2, none⟩ = some (.int .u64 (N : Int)) := by rw [hw.out]; exact f12
    have g20 : wr.cell? ⟨w.heap.size + 1, 0, none⟩ = some (.slice a2 n c2) := by rw [hw.out]; exact f20
    have g21 : wr.cell? ⟨w.heap.size + 1, 1, none⟩ = some (.slice b2 m d2) := by rw [hw.out]; exact f21
    have g22 : wr.cell? ⟨w.heap.size + 1, 2, none⟩ = some (.int .u64 (N : Int)) := by rw [hw.out]; exact f22
    have hbw : Hid (Below w.heap.size w wr) := by show Below _ _ _; rw [hw.out]; exact below_drewN b0 _
    clear f10 f11 f12 f20 f21 f22
    by_cases hin : i < n
    · have l1 := HN.out
      obtain ⟨x1, o1, rfl, hx1, hc1⟩ := H1.out (by intro h0; rw [h0] at l1; simp at l1; omega)
      obtain ⟨x2, o2, rfl, hx2, hc2⟩ := H2.out (by intro h0; rw [h0] at l1; simp at l1; omega)
      have e1 : wr.cell? ⟨x1, o1 + i, none⟩ = some (.int .u32 (H[i]'(by omega)).toNat) := by rw [hw.out]; exact hc1 i (by omega)
      have e2 : wr.cell? ⟨x2, o2 + i, none⟩ = some (.int .u32 (H[i]'(by omega)).toNat) := by rw [hw.out]; exact hc2 i (by omega)
      generalize H[i]'(by omega) = x at *
      have q1 : (0 : Int) ≤ (i : Int) := by omega
      have q2 : (i : Int) < (n : Int) := by omega
      clear l1 hc1 hc2
      go_wp2_with fail
      go_quiet (fail)
      go_wp2_with fail
      go_roundw
      case rel => exact ⟨i + 1, k + nq, by omega, by go_num, by show _ = _; rw [hw.out, World.drewN_drewN]⟩
      case measure => simp [RowKit.intOf]; omega
    · obtain rfl : i = n := by omega
      have k1 := conv_byt (P := Tryd.prog) (w := wr) Tryd.underlying23 Tryd.underlying5 Tryd.underlying9 b1 B d1 (by rw [hw.out]; exact B1.out) N1.out
      have k2 := conv_byt (P := Tryd.prog) (w := wr) Tryd.underlying23 Tryd.underlying5 Tryd.underlying9 b2 B d2 (by rw [hw.out]; exact B2.out) N2.out
      rw [← HM.out] at k1 k2
      go_wp2_with fail
      go_ret
      exact ⟨rfl, hbw.out⟩
end Go.Proofs.YtekmmafgknnmlaaDoor.Sh
