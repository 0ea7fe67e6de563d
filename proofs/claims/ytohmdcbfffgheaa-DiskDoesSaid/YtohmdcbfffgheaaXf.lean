/-
  The contract of the document's own Load, where it goes well. Conditions: each law's own.
-/
import Derived.Test.YtohmdcbfffgheaaXe
namespace Go.Proofs.Ytohmdcbfffgheaa.Dk
open Go.RowKit Go.Lib Go.Maps
theorem opw_val {P : Program} {ops : Array Oper} {o : Oper} {a : Act} {w w' : World} {K : Act → World → Prop} {Q : Exit → Act → World → Prop} {E : Prop} {v : Value} (hgd : o.guard = none)
    (hrun : (execOp a.eval o).run P w = .ok (.value v) w') (hK : K (a.put o.dst v) w') :
    if Region.wanted o (yielded ops a.tmps) = true then Oper.wp P o a w K Q else E := by
  have hw : Region.wanted o (yielded ops a.tmps) = true := by simp [Region.wanted, hgd]
  rw [if_pos hw]
  unfold Oper.wp
  rw [hrun]
  exact hK
theorem blk_ne {w : World} {g h : Nat} {cs ds : List Value} {t u : TypeId} (hg : Blk w g cs t) (hh : Blk w h ds u) (hne : t ≠ u) : g ≠ h := fun e => by
  subst e
  unfold Blk at hg hh
  rw [hg] at hh
  injection hh with hh
  injection hh with _ hh
  exact hne hh
theorem full_any {W : World} {g N : Nat} {base : Nat} {e : TypeId} {xs : List Value} (h : W.ownsRow base e 1 (.slice (some ⟨g, 0, none⟩) N N) N xs) : Blk W g xs e := by
  obtain ⟨h1, ⟨h2, _⟩ | ⟨g', cap, cur, e1, e2, e3, e4, e5, e6, e7⟩⟩ := h
  · cases h2
  · simp only [Value.slice.injEq, Option.some.injEq, Addr.mk.injEq, and_true, true_and] at e1
    obtain ⟨rfl, rfl⟩ := e1
    rw [List.take_of_length_le (by rw [Array.length_toList, e6]; exact Nat.le_refl _)] at e7
    unfold Blk
    rw [e3, ← e7]
theorem made_one (v : Value) (hv : v.cells = #[v]) (k : Nat) : (madeCells v.cells (k * 1)).toList = List.replicate k v := by
  rw [List.eq_replicate_iff]
  constructor
  · simp [madeCells]
  · intro b hb
    rw [hv] at hb
    simp [madeCells, Nat.mod_one] at hb
    exact hb.2.symm
theorem info4d : (Try.prog.info? 4).map (fun i => (i.zero, i.size, i.bytes)) = some (some (.bool false), 1, 1) := by kernel_rfl
theorem info29d : (Try.prog.info? 29).map (fun i => (i.zero, i.size, i.bytes)) = some (some (.slice none 0 0), 1, 24) := by kernel_rfl
theorem mk0 (W : World) : ∃ W', (Instr.buildSlice 29 0 #[]).run Try.prog W = .ok (.slice (some ⟨W.heap.size, 0, none⟩) 0 0) W' ∧ Blk W' W.heap.size [] 5 ∧ W.grownBy W' none := by
  refine ⟨W.alloc (.cells #[] 5), by go_simp, Blk.new W [] 5 _ rfl, World.grownBy_alloc W _ none⟩
theorem mk74 (N : Nat) (hN : N ≤ 4096) (W : World) : ∃ W', (Instr.makeSlice 74 (.int .i64 (N : Int)) (.int .i64 (N : Int))).run Try.prog W = .ok (.slice (some ⟨W.heap.size, 0, none⟩) N N) W' ∧ Blk W' W.heap.size (List.replicate N (.bool false)) 4 ∧ W.grownBy W' none := by
  obtain ⟨i4, j0, j1, j2, j3⟩ := info_parts info4d
  obtain ⟨W', h1, h2, h3⟩ := run_make_full (P := Try.prog) (w := W) W.heap.size 74 4 i4 (.bool false) 1 Try.underlying74 j0 j1 j2 .i64 .i64 N (by rw [j3]; omega) (by unfold maxLen; omega) (Nat.le_refl _)
  rw [made_one _ rfl] at h2
  exact ⟨W', h1, full_any h2, h3⟩
theorem mk75 (N : Nat) (hN : N ≤ 4096) (W : World) : ∃ W', (Instr.makeSlice 75 (.int .i64 (N : Int)) (.int .i64 (N : Int))).run Try.prog W = .ok (.slice (some ⟨W.heap.size, 0, none⟩) N N) W' ∧ Blk W' W.heap.size (List.replicate N (.slice none 0 0)) 29 ∧ W.grownBy W' none := by
  obtain ⟨i4, j0, j1, j2, j3⟩ := info_parts info29d
  obtain ⟨W', h1, h2, h3⟩ := run_make_full (P := Try.prog) (w := W) W.heap.size 75 29 i4 (.slice none 0 0) 1 Try.underlying75 j0 j1 j2 .i64 .i64 N (by rw [j3]; omega) (by unfold maxLen; omega) (Nat.le_refl _)
  rw [made_one _ rfl] at h2
  exact ⟨W', h1, full_any h2, h3⟩
theorem ap33 {w W : World} {n31 b o M c : Nat} {l : List UInt8} (h31 : Blk W n31 [] 5) (hB : Below w.heap.size w W) (hb : Byt W (some ⟨b, o, none⟩) l) (hn : w.heap.size ≤ n31) (hl : l.length = M) (hM : M ≤ 1048576) :
    ∃ p33 cc W', (Builtin.append_ #[29, 29] 29 #[.slice (some ⟨n31, 0, none⟩) 0 0, .slice (some ⟨b, o, none⟩) M c]).run Try.prog W = .ok (.slice p33 M cc) W' ∧ W'.ownsRow w.heap.size 5 1 (.slice p33 M cc) M (bs l) ∧ W.grownBy W' (some n31) := by
  obtain ⟨i5, j0, j1, j2, j3⟩ := info_parts info5
  have hown : W.ownsRow w.heap.size 5 1 (.slice (some ⟨n31, 0, none⟩) 0 0) 0 [] := ⟨rfl, Or.inr ⟨n31, 0, #[], rfl, hn, h31, Nat.le_refl _, by unfold maxLen; omega, by simp, by simp⟩⟩
  obtain ⟨v', W', r1, r2, r3, _⟩ := run_append_own (P := Try.prog) (w := W) w.heap.size 29 29 5 i5 (.int .u8 0) 1 1 Try.underlying29 j0 j1 j2 j3 rfl (by decide) _ 0 [] hown ⟨b, o, none⟩ M c (bs l) (by rw [bs_len, hl]; omega) (fun j u hj => by
      have hjl : j < l.length := by
        have := (List.getElem?_eq_some_iff.1 hj).1
        simpa [bs] using this
      obtain ⟨b', o', h0, _, hcell⟩ := hb (by intro h0; rw [h0] at hjl; simp at hjl)
      injection h0 with h0
      injection h0 with h1 h2
      subst h1
      subst h2
      rw [WideShapes.add_plain, hcell j hjl]
      rw [bs_get l j hjl] at hj
      exact hj) (bs_one l) (by unfold maxLen; omega) (by omega) hB.size
  rw [Nat.zero_add, List.nil_append] at r2
  obtain ⟨p33, cc, rfl⟩ : ∃ p33 cc, v' = .slice p33 M cc := by
    rcases r2.2 with ⟨rfl, rfl⟩ | ⟨g, cap, cur, rfl, _⟩
    · exact ⟨none, 0, rfl⟩
    · exact ⟨_, cap, rfl⟩
  exact ⟨p33, cc, W', r1, r2, r3⟩
theorem bd77 (W : World) (p q r : Option Addr) (M cc N : Nat) (low : Int) : (Instr.build 77 #[(0, .slice p M cc), (1, .int .i64 low), (2, .slice q N N), (3, .slice r N N)]).run Try.prog W = .ok (.agg #[.slice p M cc, .int .i64 low, .slice q N N, .slice r N N, .bool false, .bool false, .int .i64 0, .int .i64 0]) W := by
  go_simp
theorem bx77 (W : World) (p q r : Option Addr) (M cc N : Nat) (low : Int) : (Instr.box 77 (.agg #[.slice p M cc, .int .i64 low, .slice q N N, .slice r N N, .bool false, .bool false, .int .i64 0, .int .i64 0])).run Try.prog W = .ok (.pointer (some ⟨W.heap.size, 0, none⟩)) (W.alloc (.cells (rvC (.slice p M cc) (.slice q N N) (.slice r N N) low false false 0 0).toArray 77)) := by
  go_simp
  rfl
/-- the page's device, fresh -/
def RefP (w : World) (l : List UInt8) (N : Nat) (low : Int) (e : Ending) (w' : World) : Prop :=
  Below w.heap.size w w' ∧ ∃ (g bb rb : Nat) (v : Value), e = .returned (.tuple #[.pointer (some ⟨g, 0, none⟩), .int .i64 0]) ∧ w.heap.size ≤ g ∧ Rv w' g v (.slice (some ⟨bb, 0, none⟩) N N) (.slice (some ⟨rb, 0, none⟩) N N) low false false 0 0 ∧
    w.heap.size ≤ bb ∧ w.heap.size ≤ rb ∧ Own w' w.heap.size v l ∧ Blk w' bb (List.replicate N (.bool false)) 4 ∧ Blk w' rb (List.replicate N (.slice none 0 0)) 29
set_option maxHeartbeats 4000000 in
set_option maxRecDepth 100000 in
theorem refload_ok (b o c N M : Nat) (l : List UInt8) (low : Nat) (w : World) (h : Byt w (some ⟨b, o, none⟩) l) (hl : l.length = M) (hM : M = 256 * N) (h1 : 1 ≤ N) (h2 : N ≤ 4096) (h3 : low ≤ N) :
    Calls Try.prog 16 #[.slice (some ⟨b, o, none⟩) M c, .int .i64 (low : Int)] w (RefP w l N low) := by
  have e1 : ((M : Int) % 256 != 0) = false := by simp; omega
  have e2 : (((M : Int).tmod 256) != 0) = false := by rw [Int.tmod_eq_emod_of_nonneg (by omega)]; exact e1
  have e3 : (M : Int) / 256 = (N : Int) := by omega
  have e4 : (M : Int).tdiv 256 = (N : Int) := by rw [Int.tdiv_eq_ediv_of_nonneg (by omega)]; exact e3
  have q0 : (0 : Int) ≤ (N : Int) := by omega
  have q1 : (N : Int) ≤ 4096 := by omega
  have wq : wrap64 (N : Int) = (N : Int) := IntWalk.wrap64_in _ ⟨by omega, by omega⟩
  have t2 : decide ((N : Int) < 1) = false := by simp; omega
  have t3 : decide ((4096 : Int) < (N : Int)) = false := by simp; omega
  have t4 : decide ((low : Int) < 0) = false := by simp
  have t5 : decide ((N : Int) < (low : Int)) = false := by simp; omega
  have t6 : decide (N < low) = false := by simp; omega
  have hM2 : M ≤ 1048576 := by omega
  have HB := Lib.hid h
  have HL := Lib.hid hl
  have B0 := Lib.hid ((Below.refl w.heap.size w).drew)
  clear h hl hM
  go_enter Try.func16, Try.ntmps16
  go_wp2_with fail
  refine wp_region_any (by kernel_rfl) ?_
  change wpAny _ _ _ _ _ _ _ w.drew
  generalize hw0 : w.drew = w0 at *
  clear hw0
  have fin : ∀ (W : World) (v33 : Value) (n36 n38 : Nat), Below w.heap.size w W → W.ownsRow w.heap.size 5 1 v33 M (bs l) → Blk W n36 (List.replicate N (.bool false)) 4 → Blk W n38 (List.replicate N (.slice none 0 0)) 29 → w.heap.size ≤ n36 → w.heap.size ≤ n38 →
      RefP w l N low (.returned (.tuple #[.pointer (some ⟨W.heap.size, 0, none⟩), .int .i64 0])) (W.alloc (.cells (rvC v33 (.slice (some ⟨n36, 0, none⟩) N N) (.slice (some ⟨n38, 0, none⟩) N N) (low : Int) false false 0 0).toArray 77)) := fun W v33 n36 n38 f1 f2 f3 f4 g1 g2 => by
    refine ⟨f1.alloc f1.size _, W.heap.size, n36, n38, v33, rfl, f1.size, Blk.new W _ 77 _ rfl, g1, g2, ?_, f3.alloc _, f4.alloc _⟩
    have f5 := World.ownsRow.alloc f2 (.cells (rvC v33 (.slice (some ⟨n36, 0, none⟩) N N) (.slice (some ⟨n38, 0, none⟩) N N) (low : Int) false false 0 0).toArray 77)
    unfold Own
    rw [HL.out]
    exact f5
  refine wpAny_take (oi := { dst := some 32, op := Op.move (Operand.tmp 0), type := 29, pos := "ref.go:33", after := #[], guard := none }) (i := 1) (v := .slice (some ⟨b, o, none⟩) M c) rfl (by kernel_rfl) (by kernel_rfl) (by kernel_rfl) (fun _ _ _ h => h) (Or.inl ⟨by rfl, fun W => by rfl⟩) ?_
  try simp only [Act.put, List.setIfInBounds_toArray, List.set_cons_zero, List.set_cons_succ]
  refine wpAny_take (oi := { dst := some 34, op := Op.move (Operand.tmp 1), type := 3, pos := "ref.go:33", after := #[], guard := none }) (i := 3) (v := .int .i64 (low : Int)) rfl (by kernel_rfl) (by kernel_rfl) (by kernel_rfl) (fun _ _ _ h => h) (Or.inl ⟨by rfl, fun W => by rfl⟩) ?_
  try simp only [Act.put, List.setIfInBounds_toArray, List.set_cons_zero, List.set_cons_succ]
  refine wpAny_take (oi := { dst := some 35, op := Op.move (Operand.tmp 6), type := 3, pos := "ref.go:33", after := #[], guard := none }) (i := 4) (v := .int .i64 (N : Int)) rfl (by kernel_rfl) (by kernel_rfl) (by kernel_rfl) (fun _ _ _ h => h) (Or.inl ⟨by rfl, fun W => by rfl⟩) ?_
  try simp only [Act.put, List.setIfInBounds_toArray, List.set_cons_zero, List.set_cons_succ]
  refine wpAny_take (oi := { dst := some 37, op := Op.move (Operand.tmp 6), type := 3, pos := "ref.go:33", after := #[], guard := none }) (i := 6) (v := .int .i64 (N : Int)) rfl (by kernel_rfl) (by kernel_rfl) (by kernel_rfl) (fun _ _ _ h => h) (Or.inl ⟨by rfl, fun W => by rfl⟩) ?_
  try simp only [Act.put, List.setIfInBounds_toArray, List.set_cons_zero, List.set_cons_succ]
  refine wpAny_ready (rs := [0, 5, 7]) (by kernel_rfl) (by simp) ?_
  refine AllReady.cons (o := { dst := some 31, op := Op.buildSlice 29 0 #[], type := 29, pos := "ref.go:33", after := #[], guard := none }) rfl (fun K hK => ?_) ?_
  · skip
    obtain ⟨w1, r1, k1, g1⟩ := mk0 w0
    refine opw_val (v := .slice (some ⟨w0.heap.size, 0, none⟩) 0 0) (w' := w1) rfl (by simp only [execOp, List.map_toArray, List.map_nil]; exact run_val r1) (hK _ _ ?_)
    clear hK K
    try simp only [Act.put, List.setIfInBounds_toArray, List.set_cons_zero, List.set_cons_succ]
    have B1 := Lib.hid (B0.out.grown g1 B0.out.size (by simp))
    have H1 := Lib.hid k1
    clear r1 k1 g1
    refine wpAny_ready (rs := [2, 5, 7]) (by kernel_rfl) (by simp) ?_
    refine AllReady.cons (o := { dst := some 33, op := Op.call { callee := Callee.builtin Builtin.append, args := #[Operand.tmp 31, Operand.tmp 32], argTypes := #[29, 29] }, type := 29, pos := "ref.go:33", after := #[{ on := 0, ground := Ground.data }, { on := 1, ground := Ground.data }], guard := none }) rfl (fun K hK => ?_) ?_
    · skip
      obtain ⟨p33, cc, w2, r2, k2, g2⟩ := ap33 (b := b) (o := o) (c := c) (l := l) H1.out B1.out (HB.out.below B1.out) (by have := B0.out.size; omega) HL.out hM2
      refine opw_val (v := .slice p33 M cc) (w' := w2) rfl (by simp [execOp, resolve, invoke, builtin, Act.eval, r2, Result.andThen]) (hK _ _ ?_)
      clear hK K
      try simp only [Act.put, List.setIfInBounds_toArray, List.set_cons_zero, List.set_cons_succ]
      have B2 := Lib.hid (B1.out.grown g2 B1.out.size (fun j e => by injection e with e; have := B0.out.size; omega))
      have H2 := Lib.hid k2
      clear r2 k2 g2
      refine wpAny_ready (rs := [5, 7]) (by kernel_rfl) (by simp) ?_
      refine AllReady.cons (o := { dst := some 36, op := Op.makeSlice 74 (Operand.tmp 35) (Operand.tmp 35), type := 74, pos := "ref.go:33", after := #[{ on := 4, ground := Ground.data }, { on := 4, ground := Ground.data }], guard := none }) rfl (fun K hK => ?_) ?_
      · skip
        obtain ⟨w3, r3, k3, g3⟩ := mk74 N h2 w2
        refine opw_val (v := .slice (some ⟨w2.heap.size, 0, none⟩) N N) (w' := w3) rfl (by simp only [execOp]; exact run_val r3) (hK _ _ ?_)
        clear hK K
        try simp only [Act.put, List.setIfInBounds_toArray, List.set_cons_zero, List.set_cons_succ]
        have B3 := Lib.hid (B2.out.grown g3 B2.out.size (by simp))
        have own_3 := Lib.hid (H2.out.kept g3 (Classical.em _))
        have H3 := Lib.hid k3
        clear r3 k3 g3
        refine wpAny_ready (rs := [7]) (by kernel_rfl) (by simp) ?_
        refine AllReady.cons (o := { dst := some 38, op := Op.makeSlice 75 (Operand.tmp 37) (Operand.tmp 37), type := 75, pos := "ref.go:33", after := #[{ on := 6, ground := Ground.data }, { on := 6, ground := Ground.data }], guard := none }) rfl (fun K hK => ?_) AllReady.nil
        obtain ⟨w4, r4, k4, g4⟩ := mk75 N h2 w3
        refine opw_val (v := .slice (some ⟨w3.heap.size, 0, none⟩) N N) (w' := w4) rfl (by simp only [execOp]; exact run_val r4) (hK _ _ ?_)
        clear hK K
        try simp only [Act.put, List.setIfInBounds_toArray, List.set_cons_zero, List.set_cons_succ]
        have B4 := Lib.hid (B3.out.grown g4 B3.out.size (by simp))
        have b36_4 := Lib.hid (blk_row H3.out g4 (by simp))
        have own_4 := Lib.hid (own_3.out.kept g4 (Classical.em _))
        have H4 := Lib.hid k4
        clear r4 k4 g4
        refine wpAny_take (oi := { dst := some 39, op := Op.build 77 #[(0, Operand.tmp 33), (1, Operand.tmp 34), (2, Operand.tmp 36), (3, Operand.tmp 38)], type := 77, pos := "ref.go:33", after := #[{ on := 2, ground := Ground.data }, { on := 3, ground := Ground.data }, { on := 5, ground := Ground.data }, { on := 7, ground := Ground.data }], guard := none }) (i := 8) (v := .agg #[.slice p33 M cc, .int .i64 (low : Int), .slice (some ⟨w2.heap.size, 0, none⟩) N N, .slice (some ⟨w3.heap.size, 0, none⟩) N N, .bool false, .bool false, .int .i64 0, .int .i64 0]) rfl (by kernel_rfl) (by kernel_rfl) (by kernel_rfl) (fun _ _ _ h => h) (Or.inl ⟨by rfl, fun W => by simp only [execOp, List.map_toArray, List.map_cons, List.map_nil]; exact run_val (bd77 W _ _ _ _ _ _ _)⟩) ?_
        try simp only [Act.put, List.setIfInBounds_toArray, List.set_cons_zero, List.set_cons_succ]
        refine wpAny_ready (rs := [9]) (by kernel_rfl) (by simp) ?_
        refine AllReady.cons (o := { dst := some 40, op := Op.box 77 (Operand.tmp 39), type := 37, pos := "ref.go:33", after := #[{ on := 8, ground := Ground.data }], guard := none }) rfl (fun K hK => ?_) AllReady.nil
        refine opw_val (v := .pointer (some ⟨w4.heap.size, 0, none⟩)) (w' := w4.alloc (.cells (rvC (.slice p33 M cc) (.slice (some ⟨w2.heap.size, 0, none⟩) N N) (.slice (some ⟨w3.heap.size, 0, none⟩) N N) (low : Int) false false 0 0).toArray 77)) rfl (by simp only [execOp]; exact run_val (bx77 w4 _ _ _ _ _ _ _)) (hK _ _ ?_)
        clear hK K
        try simp only [Act.put, List.setIfInBounds_toArray, List.set_cons_zero, List.set_cons_succ]
        refine wpAny_take (oi := { dst := some 4, op := Op.assign (Operand.tmp 40), type := 37, pos := "ref.go:33", after := #[{ on := 9, ground := Ground.data }, { on := 2, ground := Ground.chain }, { on := 0, ground := Ground.phase }, { on := 1, ground := Ground.phase }, { on := 2, ground := Ground.phase }, { on := 3, ground := Ground.phase }, { on := 4, ground := Ground.phase }, { on := 5, ground := Ground.phase }, { on := 6, ground := Ground.phase }, { on := 7, ground := Ground.phase }, { on := 8, ground := Ground.phase }, { on := 9, ground := Ground.phase }], guard := none }) (i := 10) (v := .pointer (some ⟨w4.heap.size, 0, none⟩)) rfl (by kernel_rfl) (by kernel_rfl) (by kernel_rfl) (fun _ _ _ h => h) (Or.inl ⟨by rfl, fun W => by rfl⟩) ?_
        try simp only [Act.put, List.setIfInBounds_toArray, List.set_cons_zero, List.set_cons_succ]
        refine wpAny_take (oi := { dst := some 5, op := Op.assign (Operand.const (Value.int IntKind.i64 0)), type := 3, pos := "ref.go:33", after := #[{ on := 10, ground := Ground.chain }, { on := 0, ground := Ground.phase }, { on := 1, ground := Ground.phase }, { on := 2, ground := Ground.phase }, { on := 3, ground := Ground.phase }, { on := 4, ground := Ground.phase }, { on := 5, ground := Ground.phase }, { on := 6, ground := Ground.phase }, { on := 7, ground := Ground.phase }, { on := 8, ground := Ground.phase }, { on := 9, ground := Ground.phase }, { on := 10, ground := Ground.phase }], guard := none }) (i := 11) (v := .int .i64 0) rfl (by kernel_rfl) (by kernel_rfl) (by kernel_rfl) (fun _ _ _ h => h) (Or.inl ⟨by rfl, fun W => by rfl⟩) ?_
        try simp only [Act.put, List.setIfInBounds_toArray, List.set_cons_zero, List.set_cons_succ]
        refine wpAny_done (by kernel_rfl) ?_ _
        have FF := Lib.hid (fin w4 (.slice p33 M cc) (w2.heap.size) (w3.heap.size) B4.out own_4.out b36_4.out H4.out B2.out.size B3.out.size)
        go_wp2_with fail
        go_ret2
        exact FF.out
      refine AllReady.cons (o := { dst := some 38, op := Op.makeSlice 75 (Operand.tmp 37) (Operand.tmp 37), type := 75, pos := "ref.go:33", after := #[{ on := 6, ground := Ground.data }, { on := 6, ground := Ground.data }], guard := none }) rfl (fun K hK => ?_) AllReady.nil
      obtain ⟨w3, r3, k3, g3⟩ := mk75 N h2 w2
      refine opw_val (v := .slice (some ⟨w2.heap.size, 0, none⟩) N N) (w' := w3) rfl (by simp only [execOp]; exact run_val r3) (hK _ _ ?_)
      clear hK K
      try simp only [Act.put, List.setIfInBounds_toArray, List.set_cons_zero, List.set_cons_succ]
      have B3 := Lib.hid (B2.out.grown g3 B2.out.size (by simp))
      have own_3 := Lib.hid (H2.out.kept g3 (Classical.em _))
      have H3 := Lib.hid k3
      clear r3 k3 g3
      refine wpAny_ready (rs := [5]) (by kernel_rfl) (by simp) ?_
      refine AllReady.cons (o := { dst := some 36, op := Op.makeSlice 74 (Operand.tmp 35) (Operand.tmp 35), type := 74, pos := "ref.go:33", after := #[{ on := 4, ground := Ground.data }, { on := 4, ground := Ground.data }], guard := none }) rfl (fun K hK => ?_) AllReady.nil
      obtain ⟨w4, r4, k4, g4⟩ := mk74 N h2 w3
      refine opw_val (v := .slice (some ⟨w3.heap.size, 0, none⟩) N N) (w' := w4) rfl (by simp only [execOp]; exact run_val r4) (hK _ _ ?_)
      clear hK K
      try simp only [Act.put, List.setIfInBounds_toArray, List.set_cons_zero, List.set_cons_succ]
      have B4 := Lib.hid (B3.out.grown g4 B3.out.size (by simp))
      have b38_4 := Lib.hid (blk_row H3.out g4 (by simp))
      have own_4 := Lib.hid (own_3.out.kept g4 (Classical.em _))
      have H4 := Lib.hid k4
      clear r4 k4 g4
      refine wpAny_take (oi := { dst := some 39, op := Op.build 77 #[(0, Operand.tmp 33), (1, Operand.tmp 34), (2, Operand.tmp 36), (3, Operand.tmp 38)], type := 77, pos := "ref.go:33", after := #[{ on := 2, ground := Ground.data }, { on := 3, ground := Ground.data }, { on := 5, ground := Ground.data }, { on := 7, ground := Ground.data }], guard := none }) (i := 8) (v := .agg #[.slice p33 M cc, .int .i64 (low : Int), .slice (some ⟨w3.heap.size, 0, none⟩) N N, .slice (some ⟨w2.heap.size, 0, none⟩) N N, .bool false, .bool false, .int .i64 0, .int .i64 0]) rfl (by kernel_rfl) (by kernel_rfl) (by kernel_rfl) (fun _ _ _ h => h) (Or.inl ⟨by rfl, fun W => by simp only [execOp, List.map_toArray, List.map_cons, List.map_nil]; exact run_val (bd77 W _ _ _ _ _ _ _)⟩) ?_
      try simp only [Act.put, List.setIfInBounds_toArray, List.set_cons_zero, List.set_cons_succ]
      refine wpAny_ready (rs := [9]) (by kernel_rfl) (by simp) ?_
      refine AllReady.cons (o := { dst := some 40, op := Op.box 77 (Operand.tmp 39), type := 37, pos := "ref.go:33", after := #[{ on := 8, ground := Ground.data }], guard := none }) rfl (fun K hK => ?_) AllReady.nil
      refine opw_val (v := .pointer (some ⟨w4.heap.size, 0, none⟩)) (w' := w4.alloc (.cells (rvC (.slice p33 M cc) (.slice (some ⟨w3.heap.size, 0, none⟩) N N) (.slice (some ⟨w2.heap.size, 0, none⟩) N N) (low : Int) false false 0 0).toArray 77)) rfl (by simp only [execOp]; exact run_val (bx77 w4 _ _ _ _ _ _ _)) (hK _ _ ?_)
      clear hK K
      try simp only [Act.put, List.setIfInBounds_toArray, List.set_cons_zero, List.set_cons_succ]
      refine wpAny_take (oi := { dst := some 4, op := Op.assign (Operand.tmp 40), type := 37, pos := "ref.go:33", after := #[{ on := 9, ground := Ground.data }, { on := 2, ground := Ground.chain }, { on := 0, ground := Ground.phase }, { on := 1, ground := Ground.phase }, { on := 2, ground := Ground.phase }, { on := 3, ground := Ground.phase }, { on := 4, ground := Ground.phase }, { on := 5, ground := Ground.phase }, { on := 6, ground := Ground.phase }, { on := 7, ground := Ground.phase }, { on := 8, ground := Ground.phase }, { on := 9, ground := Ground.phase }], guard := none }) (i := 10) (v := .pointer (some ⟨w4.heap.size, 0, none⟩)) rfl (by kernel_rfl) (by kernel_rfl) (by kernel_rfl) (fun _ _ _ h => h) (Or.inl ⟨by rfl, fun W => by rfl⟩) ?_
      try simp only [Act.put, List.setIfInBounds_toArray, List.set_cons_zero, List.set_cons_succ]
      refine wpAny_take (oi := { dst := some 5, op := Op.assign (Operand.const (Value.int IntKind.i64 0)), type := 3, pos := "ref.go:33", after := #[{ on := 10, ground := Ground.chain }, { on := 0, ground := Ground.phase }, { on := 1, ground := Ground.phase }, { on := 2, ground := Ground.phase }, { on := 3, ground := Ground.phase }, { on := 4, ground := Ground.phase }, { on := 5, ground := Ground.phase }, { on := 6, ground := Ground.phase }, { on := 7, ground := Ground.phase }, { on := 8, ground := Ground.phase }, { on := 9, ground := Ground.phase }, { on := 10, ground := Ground.phase }], guard := none }) (i := 11) (v := .int .i64 0) rfl (by kernel_rfl) (by kernel_rfl) (by kernel_rfl) (fun _ _ _ h => h) (Or.inl ⟨by rfl, fun W => by rfl⟩) ?_
      try simp only [Act.put, List.setIfInBounds_toArray, List.set_cons_zero, List.set_cons_succ]
      refine wpAny_done (by kernel_rfl) ?_ _
      have FF := Lib.hid (fin w4 (.slice p33 M cc) (w3.heap.size) (w2.heap.size) B4.out own_4.out H4.out b38_4.out B3.out.size B2.out.size)
      go_wp2_with fail
      go_ret2
      exact FF.out
    refine AllReady.cons (o := { dst := some 36, op := Op.makeSlice 74 (Operand.tmp 35) (Operand.tmp 35), type := 74, pos := "ref.go:33", after := #[{ on := 4, ground := Ground.data }, { on := 4, ground := Ground.data }], guard := none }) rfl (fun K hK => ?_) ?_
    · skip
      obtain ⟨w2, r2, k2, g2⟩ := mk74 N h2 w1
      refine opw_val (v := .slice (some ⟨w1.heap.size, 0, none⟩) N N) (w' := w2) rfl (by simp only [execOp]; exact run_val r2) (hK _ _ ?_)
      clear hK K
      try simp only [Act.put, List.setIfInBounds_toArray, List.set_cons_zero, List.set_cons_succ]
      have B2 := Lib.hid (B1.out.grown g2 B1.out.size (by simp))
      have b31_2 := Lib.hid (blk_row H1.out g2 (by simp))
      have H2 := Lib.hid k2
      clear r2 k2 g2
      refine wpAny_ready (rs := [2, 7]) (by kernel_rfl) (by simp) ?_
      refine AllReady.cons (o := { dst := some 33, op := Op.call { callee := Callee.builtin Builtin.append, args := #[Operand.tmp 31, Operand.tmp 32], argTypes := #[29, 29] }, type := 29, pos := "ref.go:33", after := #[{ on := 0, ground := Ground.data }, { on := 1, ground := Ground.data }], guard := none }) rfl (fun K hK => ?_) ?_
      · skip
        obtain ⟨p33, cc, w3, r3, k3, g3⟩ := ap33 (b := b) (o := o) (c := c) (l := l) b31_2.out B2.out (HB.out.below B2.out) (by have := B0.out.size; omega) HL.out hM2
        refine opw_val (v := .slice p33 M cc) (w' := w3) rfl (by simp [execOp, resolve, invoke, builtin, Act.eval, r3, Result.andThen]) (hK _ _ ?_)
        clear hK K
        try simp only [Act.put, List.setIfInBounds_toArray, List.set_cons_zero, List.set_cons_succ]
        have B3 := Lib.hid (B2.out.grown g3 B2.out.size (fun j e => by injection e with e; have := B0.out.size; omega))
        have b36_3 := Lib.hid (blk_row H2.out g3 (fun e => by injection e with e; exact blk_ne H2.out b31_2.out (by decide) e))
        have H3 := Lib.hid k3
        clear r3 k3 g3
        refine wpAny_ready (rs := [7]) (by kernel_rfl) (by simp) ?_
        refine AllReady.cons (o := { dst := some 38, op := Op.makeSlice 75 (Operand.tmp 37) (Operand.tmp 37), type := 75, pos := "ref.go:33", after := #[{ on := 6, ground := Ground.data }, { on := 6, ground := Ground.data }], guard := none }) rfl (fun K hK => ?_) AllReady.nil
        obtain ⟨w4, r4, k4, g4⟩ := mk75 N h2 w3
        refine opw_val (v := .slice (some ⟨w3.heap.size, 0, none⟩) N N) (w' := w4) rfl (by simp only [execOp]; exact run_val r4) (hK _ _ ?_)
        clear hK K
        try simp only [Act.put, List.setIfInBounds_toArray, List.set_cons_zero, List.set_cons_succ]
        have B4 := Lib.hid (B3.out.grown g4 B3.out.size (by simp))
        have b36_4 := Lib.hid (blk_row b36_3.out g4 (by simp))
        have own_4 := Lib.hid (H3.out.kept g4 (Classical.em _))
        have H4 := Lib.hid k4
        clear r4 k4 g4
        refine wpAny_take (oi := { dst := some 39, op := Op.build 77 #[(0, Operand.tmp 33), (1, Operand.tmp 34), (2, Operand.tmp 36), (3, Operand.tmp 38)], type := 77, pos := "ref.go:33", after := #[{ on := 2, ground := Ground.data }, { on := 3, ground := Ground.data }, { on := 5, ground := Ground.data }, { on := 7, ground := Ground.data }], guard := none }) (i := 8) (v := .agg #[.slice p33 M cc, .int .i64 (low : Int), .slice (some ⟨w1.heap.size, 0, none⟩) N N, .slice (some ⟨w3.heap.size, 0, none⟩) N N, .bool false, .bool false, .int .i64 0, .int .i64 0]) rfl (by kernel_rfl) (by kernel_rfl) (by kernel_rfl) (fun _ _ _ h => h) (Or.inl ⟨by rfl, fun W => by simp only [execOp, List.map_toArray, List.map_cons, List.map_nil]; exact run_val (bd77 W _ _ _ _ _ _ _)⟩) ?_
        try simp only [Act.put, List.setIfInBounds_toArray, List.set_cons_zero, List.set_cons_succ]
        refine wpAny_ready (rs := [9]) (by kernel_rfl) (by simp) ?_
        refine AllReady.cons (o := { dst := some 40, op := Op.box 77 (Operand.tmp 39), type := 37, pos := "ref.go:33", after := #[{ on := 8, ground := Ground.data }], guard := none }) rfl (fun K hK => ?_) AllReady.nil
        refine opw_val (v := .pointer (some ⟨w4.heap.size, 0, none⟩)) (w' := w4.alloc (.cells (rvC (.slice p33 M cc) (.slice (some ⟨w1.heap.size, 0, none⟩) N N) (.slice (some ⟨w3.heap.size, 0, none⟩) N N) (low : Int) false false 0 0).toArray 77)) rfl (by simp only [execOp]; exact run_val (bx77 w4 _ _ _ _ _ _ _)) (hK _ _ ?_)
        clear hK K
        try simp only [Act.put, List.setIfInBounds_toArray, List.set_cons_zero, List.set_cons_succ]
        refine wpAny_take (oi := { dst := some 4, op := Op.assign (Operand.tmp 40), type := 37, pos := "ref.go:33", after := #[{ on := 9, ground := Ground.data }, { on := 2, ground := Ground.chain }, { on := 0, ground := Ground.phase }, { on := 1, ground := Ground.phase }, { on := 2, ground := Ground.phase }, { on := 3, ground := Ground.phase }, { on := 4, ground := Ground.phase }, { on := 5, ground := Ground.phase }, { on := 6, ground := Ground.phase }, { on := 7, ground := Ground.phase }, { on := 8, ground := Ground.phase }, { on := 9, ground := Ground.phase }], guard := none }) (i := 10) (v := .pointer (some ⟨w4.heap.size, 0, none⟩)) rfl (by kernel_rfl) (by kernel_rfl) (by kernel_rfl) (fun _ _ _ h => h) (Or.inl ⟨by rfl, fun W => by rfl⟩) ?_
        try simp only [Act.put, List.setIfInBounds_toArray, List.set_cons_zero, List.set_cons_succ]
        refine wpAny_take (oi := { dst := some 5, op := Op.assign (Operand.const (Value.int IntKind.i64 0)), type := 3, pos := "ref.go:33", after := #[{ on := 10, ground := Ground.chain }, { on := 0, ground := Ground.phase }, { on := 1, ground := Ground.phase }, { on := 2, ground := Ground.phase }, { on := 3, ground := Ground.phase }, { on := 4, ground := Ground.phase }, { on := 5, ground := Ground.phase }, { on := 6, ground := Ground.phase }, { on := 7, ground := Ground.phase }, { on := 8, ground := Ground.phase }, { on := 9, ground := Ground.phase }, { on := 10, ground := Ground.phase }], guard := none }) (i := 11) (v := .int .i64 0) rfl (by kernel_rfl) (by kernel_rfl) (by kernel_rfl) (fun _ _ _ h => h) (Or.inl ⟨by rfl, fun W => by rfl⟩) ?_
        try simp only [Act.put, List.setIfInBounds_toArray, List.set_cons_zero, List.set_cons_succ]
        refine wpAny_done (by kernel_rfl) ?_ _
        have FF := Lib.hid (fin w4 (.slice p33 M cc) (w1.heap.size) (w3.heap.size) B4.out own_4.out b36_4.out H4.out B1.out.size B3.out.size)
        go_wp2_with fail
        go_ret2
        exact FF.out
      refine AllReady.cons (o := { dst := some 38, op := Op.makeSlice 75 (Operand.tmp 37) (Operand.tmp 37), type := 75, pos := "ref.go:33", after := #[{ on := 6, ground := Ground.data }, { on := 6, ground := Ground.data }], guard := none }) rfl (fun K hK => ?_) AllReady.nil
      obtain ⟨w3, r3, k3, g3⟩ := mk75 N h2 w2
      refine opw_val (v := .slice (some ⟨w2.heap.size, 0, none⟩) N N) (w' := w3) rfl (by simp only [execOp]; exact run_val r3) (hK _ _ ?_)
      clear hK K
      try simp only [Act.put, List.setIfInBounds_toArray, List.set_cons_zero, List.set_cons_succ]
      have B3 := Lib.hid (B2.out.grown g3 B2.out.size (by simp))
      have b31_3 := Lib.hid (blk_row b31_2.out g3 (by simp))
      have b36_3 := Lib.hid (blk_row H2.out g3 (by simp))
      have H3 := Lib.hid k3
      clear r3 k3 g3
      refine wpAny_ready (rs := [2]) (by kernel_rfl) (by simp) ?_
      refine AllReady.cons (o := { dst := some 33, op := Op.call { callee := Callee.builtin Builtin.append, args := #[Operand.tmp 31, Operand.tmp 32], argTypes := #[29, 29] }, type := 29, pos := "ref.go:33", after := #[{ on := 0, ground := Ground.data }, { on := 1, ground := Ground.data }], guard := none }) rfl (fun K hK => ?_) AllReady.nil
      obtain ⟨p33, cc, w4, r4, k4, g4⟩ := ap33 (b := b) (o := o) (c := c) (l := l) b31_3.out B3.out (HB.out.below B3.out) (by have := B0.out.size; omega) HL.out hM2
      refine opw_val (v := .slice p33 M cc) (w' := w4) rfl (by simp [execOp, resolve, invoke, builtin, Act.eval, r4, Result.andThen]) (hK _ _ ?_)
      clear hK K
      try simp only [Act.put, List.setIfInBounds_toArray, List.set_cons_zero, List.set_cons_succ]
      have B4 := Lib.hid (B3.out.grown g4 B3.out.size (fun j e => by injection e with e; have := B0.out.size; omega))
      have b36_4 := Lib.hid (blk_row b36_3.out g4 (fun e => by injection e with e; exact blk_ne b36_3.out b31_3.out (by decide) e))
      have b38_4 := Lib.hid (blk_row H3.out g4 (fun e => by injection e with e; exact blk_ne H3.out b31_3.out (by decide) e))
      have H4 := Lib.hid k4
      clear r4 k4 g4
      refine wpAny_take (oi := { dst := some 39, op := Op.build 77 #[(0, Operand.tmp 33), (1, Operand.tmp 34), (2, Operand.tmp 36), (3, Operand.tmp 38)], type := 77, pos := "ref.go:33", after := #[{ on := 2, ground := Ground.data }, { on := 3, ground := Ground.data }, { on := 5, ground := Ground.data }, { on := 7, ground := Ground.data }], guard := none }) (i := 8) (v := .agg #[.slice p33 M cc, .int .i64 (low : Int), .slice (some ⟨w1.heap.size, 0, none⟩) N N, .slice (some ⟨w2.heap.size, 0, none⟩) N N, .bool false, .bool false, .int .i64 0, .int .i64 0]) rfl (by kernel_rfl) (by kernel_rfl) (by kernel_rfl) (fun _ _ _ h => h) (Or.inl ⟨by rfl, fun W => by simp only [execOp, List.map_toArray, List.map_cons, List.map_nil]; exact run_val (bd77 W _ _ _ _ _ _ _)⟩) ?_
      try simp only [Act.put, List.setIfInBounds_toArray, List.set_cons_zero, List.set_cons_succ]
      refine wpAny_ready (rs := [9]) (by kernel_rfl) (by simp) ?_
      refine AllReady.cons (o := { dst := some 40, op := Op.box 77 (Operand.tmp 39), type := 37, pos := "ref.go:33", after := #[{ on := 8, ground := Ground.data }], guard := none }) rfl (fun K hK => ?_) AllReady.nil
      refine opw_val (v := .pointer (some ⟨w4.heap.size, 0, none⟩)) (w' := w4.alloc (.cells (rvC (.slice p33 M cc) (.slice (some ⟨w1.heap.size, 0, none⟩) N N) (.slice (some ⟨w2.heap.size, 0, none⟩) N N) (low : Int) false false 0 0).toArray 77)) rfl (by simp only [execOp]; exact run_val (bx77 w4 _ _ _ _ _ _ _)) (hK _ _ ?_)
      clear hK K
      try simp only [Act.put, List.setIfInBounds_toArray, List.set_cons_zero, List.set_cons_succ]
      refine wpAny_take (oi := { dst := some 4, op := Op.assign (Operand.tmp 40), type := 37, pos := "ref.go:33", after := #[{ on := 9, ground := Ground.data }, { on := 2, ground := Ground.chain }, { on := 0, ground := Ground.phase }, { on := 1, ground := Ground.phase }, { on := 2, ground := Ground.phase }, { on := 3, ground := Ground.phase }, { on := 4, ground := Ground.phase }, { on := 5, ground := Ground.phase }, { on := 6, ground := Ground.phase }, { on := 7, ground := Ground.phase }, { on := 8, ground := Ground.phase }, { on := 9, ground := Ground.phase }], guard := none }) (i := 10) (v := .pointer (some ⟨w4.heap.size, 0, none⟩)) rfl (by kernel_rfl) (by kernel_rfl) (by kernel_rfl) (fun _ _ _ h => h) (Or.inl ⟨by rfl, fun W => by rfl⟩) ?_
      try simp only [Act.put, List.setIfInBounds_toArray, List.set_cons_zero, List.set_cons_succ]
      refine wpAny_take (oi := { dst := some 5, op := Op.assign (Operand.const (Value.int IntKind.i64 0)), type := 3, pos := "ref.go:33", after := #[{ on := 10, ground := Ground.chain }, { on := 0, ground := Ground.phase }, { on := 1, ground := Ground.phase }, { on := 2, ground := Ground.phase }, { on := 3, ground := Ground.phase }, { on := 4, ground := Ground.phase }, { on := 5, ground := Ground.phase }, { on := 6, ground := Ground.phase }, { on := 7, ground := Ground.phase }, { on := 8, ground := Ground.phase }, { on := 9, ground := Ground.phase }, { on := 10, ground := Ground.phase }], guard := none }) (i := 11) (v := .int .i64 0) rfl (by kernel_rfl) (by kernel_rfl) (by kernel_rfl) (fun _ _ _ h => h) (Or.inl ⟨by rfl, fun W => by rfl⟩) ?_
      try simp only [Act.put, List.setIfInBounds_toArray, List.set_cons_zero, List.set_cons_succ]
      refine wpAny_done (by kernel_rfl) ?_ _
      have FF := Lib.hid (fin w4 (.slice p33 M cc) (w1.heap.size) (w2.heap.size) B4.out H4.out b36_4.out b38_4.out B1.out.size B2.out.size)
      go_wp2_with fail
      go_ret2
      exact FF.out
    refine AllReady.cons (o := { dst := some 38, op := Op.makeSlice 75 (Operand.tmp 37) (Operand.tmp 37), type := 75, pos := "ref.go:33", after := #[{ on := 6, ground := Ground.data }, { on := 6, ground := Ground.data }], guard := none }) rfl (fun K hK => ?_) AllReady.nil
    obtain ⟨w2, r2, k2, g2⟩ := mk75 N h2 w1
    refine opw_val (v := .slice (some ⟨w1.heap.size, 0, none⟩) N N) (w' := w2) rfl (by simp only [execOp]; exact run_val r2) (hK _ _ ?_)
    clear hK K
    try simp only [Act.put, List.setIfInBounds_toArray, List.set_cons_zero, List.set_cons_succ]
    have B2 := Lib.hid (B1.out.grown g2 B1.out.size (by simp))
    have b31_2 := Lib.hid (blk_row H1.out g2 (by simp))
    have H2 := Lib.hid k2
    clear r2 k2 g2
    refine wpAny_ready (rs := [2, 5]) (by kernel_rfl) (by simp) ?_
    refine AllReady.cons (o := { dst := some 33, op := Op.call { callee := Callee.builtin Builtin.append, args := #[Operand.tmp 31, Operand.tmp 32], argTypes := #[29, 29] }, type := 29, pos := "ref.go:33", after := #[{ on := 0, ground := Ground.data }, { on := 1, ground := Ground.data }], guard := none }) rfl (fun K hK => ?_) ?_
    · skip
      obtain ⟨p33, cc, w3, r3, k3, g3⟩ := ap33 (b := b) (o := o) (c := c) (l := l) b31_2.out B2.out (HB.out.below B2.out) (by have := B0.out.size; omega) HL.out hM2
      refine opw_val (v := .slice p33 M cc) (w' := w3) rfl (by simp [execOp, resolve, invoke, builtin, Act.eval, r3, Result.andThen]) (hK _ _ ?_)
      clear hK K
      try simp only [Act.put, List.setIfInBounds_toArray, List.set_cons_zero, List.set_cons_succ]
      have B3 := Lib.hid (B2.out.grown g3 B2.out.size (fun j e => by injection e with e; have := B0.out.size; omega))
      have b38_3 := Lib.hid (blk_row H2.out g3 (fun e => by injection e with e; exact blk_ne H2.out b31_2.out (by decide) e))
      have H3 := Lib.hid k3
      clear r3 k3 g3
      refine wpAny_ready (rs := [5]) (by kernel_rfl) (by simp) ?_
      refine AllReady.cons (o := { dst := some 36, op := Op.makeSlice 74 (Operand.tmp 35) (Operand.tmp 35), type := 74, pos := "ref.go:33", after := #[{ on := 4, ground := Ground.data }, { on := 4, ground := Ground.data }], guard := none }) rfl (fun K hK => ?_) AllReady.nil
      obtain ⟨w4, r4, k4, g4⟩ := mk74 N h2 w3
      refine opw_val (v := .slice (some ⟨w3.heap.size, 0, none⟩) N N) (w' := w4) rfl (by simp only [execOp]; exact run_val r4) (hK _ _ ?_)
      clear hK K
      try simp only [Act.put, List.setIfInBounds_toArray, List.set_cons_zero, List.set_cons_succ]
      have B4 := Lib.hid (B3.out.grown g4 B3.out.size (by simp))
      have b38_4 := Lib.hid (blk_row b38_3.out g4 (by simp))
      have own_4 := Lib.hid (H3.out.kept g4 (Classical.em _))
      have H4 := Lib.hid k4
      clear r4 k4 g4
      refine wpAny_take (oi := { dst := some 39, op := Op.build 77 #[(0, Operand.tmp 33), (1, Operand.tmp 34), (2, Operand.tmp 36), (3, Operand.tmp 38)], type := 77, pos := "ref.go:33", after := #[{ on := 2, ground := Ground.data }, { on := 3, ground := Ground.data }, { on := 5, ground := Ground.data }, { on := 7, ground := Ground.data }], guard := none }) (i := 8) (v := .agg #[.slice p33 M cc, .int .i64 (low : Int), .slice (some ⟨w3.heap.size, 0, none⟩) N N, .slice (some ⟨w1.heap.size, 0, none⟩) N N, .bool false, .bool false, .int .i64 0, .int .i64 0]) rfl (by kernel_rfl) (by kernel_rfl) (by kernel_rfl) (fun _ _ _ h => h) (Or.inl ⟨by rfl, fun W => by simp only [execOp, List.map_toArray, List.map_cons, List.map_nil]; exact run_val (bd77 W _ _ _ _ _ _ _)⟩) ?_
      try simp only [Act.put, List.setIfInBounds_toArray, List.set_cons_zero, List.set_cons_succ]
      refine wpAny_ready (rs := [9]) (by kernel_rfl) (by simp) ?_
      refine AllReady.cons (o := { dst := some 40, op := Op.box 77 (Operand.tmp 39), type := 37, pos := "ref.go:33", after := #[{ on := 8, ground := Ground.data }], guard := none }) rfl (fun K hK => ?_) AllReady.nil
      refine opw_val (v := .pointer (some ⟨w4.heap.size, 0, none⟩)) (w' := w4.alloc (.cells (rvC (.slice p33 M cc) (.slice (some ⟨w3.heap.size, 0, none⟩) N N) (.slice (some ⟨w1.heap.size, 0, none⟩) N N) (low : Int) false false 0 0).toArray 77)) rfl (by simp only [execOp]; exact run_val (bx77 w4 _ _ _ _ _ _ _)) (hK _ _ ?_)
      clear hK K
      try simp only [Act.put, List.setIfInBounds_toArray, List.set_cons_zero, List.set_cons_succ]
      refine wpAny_take (oi := { dst := some 4, op := Op.assign (Operand.tmp 40), type := 37, pos := "ref.go:33", after := #[{ on := 9, ground := Ground.data }, { on := 2, ground := Ground.chain }, { on := 0, ground := Ground.phase }, { on := 1, ground := Ground.phase }, { on := 2, ground := Ground.phase }, { on := 3, ground := Ground.phase }, { on := 4, ground := Ground.phase }, { on := 5, ground := Ground.phase }, { on := 6, ground := Ground.phase }, { on := 7, ground := Ground.phase }, { on := 8, ground := Ground.phase }, { on := 9, ground := Ground.phase }], guard := none }) (i := 10) (v := .pointer (some ⟨w4.heap.size, 0, none⟩)) rfl (by kernel_rfl) (by kernel_rfl) (by kernel_rfl) (fun _ _ _ h => h) (Or.inl ⟨by rfl, fun W => by rfl⟩) ?_
      try simp only [Act.put, List.setIfInBounds_toArray, List.set_cons_zero, List.set_cons_succ]
      refine wpAny_take (oi := { dst := some 5, op := Op.assign (Operand.const (Value.int IntKind.i64 0)), type := 3, pos := "ref.go:33", after := #[{ on := 10, ground := Ground.chain }, { on := 0, ground := Ground.phase }, { on := 1, ground := Ground.phase }, { on := 2, ground := Ground.phase }, { on := 3, ground := Ground.phase }, { on := 4, ground := Ground.phase }, { on := 5, ground := Ground.phase }, { on := 6, ground := Ground.phase }, { on := 7, ground := Ground.phase }, { on := 8, ground := Ground.phase }, { on := 9, ground := Ground.phase }, { on := 10, ground := Ground.phase }], guard := none }) (i := 11) (v := .int .i64 0) rfl (by kernel_rfl) (by kernel_rfl) (by kernel_rfl) (fun _ _ _ h => h) (Or.inl ⟨by rfl, fun W => by rfl⟩) ?_
      try simp only [Act.put, List.setIfInBounds_toArray, List.set_cons_zero, List.set_cons_succ]
      refine wpAny_done (by kernel_rfl) ?_ _
      have FF := Lib.hid (fin w4 (.slice p33 M cc) (w3.heap.size) (w1.heap.size) B4.out own_4.out H4.out b38_4.out B3.out.size B1.out.size)
      go_wp2_with fail
      go_ret2
      exact FF.out
    refine AllReady.cons (o := { dst := some 36, op := Op.makeSlice 74 (Operand.tmp 35) (Operand.tmp 35), type := 74, pos := "ref.go:33", after := #[{ on := 4, ground := Ground.data }, { on := 4, ground := Ground.data }], guard := none }) rfl (fun K hK => ?_) AllReady.nil
    obtain ⟨w3, r3, k3, g3⟩ := mk74 N h2 w2
    refine opw_val (v := .slice (some ⟨w2.heap.size, 0, none⟩) N N) (w' := w3) rfl (by simp only [execOp]; exact run_val r3) (hK _ _ ?_)
    clear hK K
    try simp only [Act.put, List.setIfInBounds_toArray, List.set_cons_zero, List.set_cons_succ]
    have B3 := Lib.hid (B2.out.grown g3 B2.out.size (by simp))
    have b31_3 := Lib.hid (blk_row b31_2.out g3 (by simp))
    have b38_3 := Lib.hid (blk_row H2.out g3 (by simp))
    have H3 := Lib.hid k3
    clear r3 k3 g3
    refine wpAny_ready (rs := [2]) (by kernel_rfl) (by simp) ?_
    refine AllReady.cons (o := { dst := some 33, op := Op.call { callee := Callee.builtin Builtin.append, args := #[Operand.tmp 31, Operand.tmp 32], argTypes := #[29, 29] }, type := 29, pos := "ref.go:33", after := #[{ on := 0, ground := Ground.data }, { on := 1, ground := Ground.data }], guard := none }) rfl (fun K hK => ?_) AllReady.nil
    obtain ⟨p33, cc, w4, r4, k4, g4⟩ := ap33 (b := b) (o := o) (c := c) (l := l) b31_3.out B3.out (HB.out.below B3.out) (by have := B0.out.size; omega) HL.out hM2
    refine opw_val (v := .slice p33 M cc) (w' := w4) rfl (by simp [execOp, resolve, invoke, builtin, Act.eval, r4, Result.andThen]) (hK _ _ ?_)
    clear hK K
    try simp only [Act.put, List.setIfInBounds_toArray, List.set_cons_zero, List.set_cons_succ]
    have B4 := Lib.hid (B3.out.grown g4 B3.out.size (fun j e => by injection e with e; have := B0.out.size; omega))
    have b36_4 := Lib.hid (blk_row H3.out g4 (fun e => by injection e with e; exact blk_ne H3.out b31_3.out (by decide) e))
    have b38_4 := Lib.hid (blk_row b38_3.out g4 (fun e => by injection e with e; exact blk_ne b38_3.out b31_3.out (by decide) e))
    have H4 := Lib.hid k4
    clear r4 k4 g4
    refine wpAny_take (oi := { dst := some 39, op := Op.build 77 #[(0, Operand.tmp 33), (1, Operand.tmp 34), (2, Operand.tmp 36), (3, Operand.tmp 38)], type := 77, pos := "ref.go:33", after := #[{ on := 2, ground := Ground.data }, { on := 3, ground := Ground.data }, { on := 5, ground := Ground.data }, { on := 7, ground := Ground.data }], guard := none }) (i := 8) (v := .agg #[.slice p33 M cc, .int .i64 (low : Int), .slice (some ⟨w2.heap.size, 0, none⟩) N N, .slice (some ⟨w1.heap.size, 0, none⟩) N N, .bool false, .bool false, .int .i64 0, .int .i64 0]) rfl (by kernel_rfl) (by kernel_rfl) (by kernel_rfl) (fun _ _ _ h => h) (Or.inl ⟨by rfl, fun W => by simp only [execOp, List.map_toArray, List.map_cons, List.map_nil]; exact run_val (bd77 W _ _ _ _ _ _ _)⟩) ?_
    try simp only [Act.put, List.setIfInBounds_toArray, List.set_cons_zero, List.set_cons_succ]
    refine wpAny_ready (rs := [9]) (by kernel_rfl) (by simp) ?_
    refine AllReady.cons (o := { dst := some 40, op := Op.box 77 (Operand.tmp 39), type := 37, pos := "ref.go:33", after := #[{ on := 8, ground := Ground.data }], guard := none }) rfl (fun K hK => ?_) AllReady.nil
    refine opw_val (v := .pointer (some ⟨w4.heap.size, 0, none⟩)) (w' := w4.alloc (.cells (rvC (.slice p33 M cc) (.slice (some ⟨w2.heap.size, 0, none⟩) N N) (.slice (some ⟨w1.heap.size, 0, none⟩) N N) (low : Int) false false 0 0).toArray 77)) rfl (by simp only [execOp]; exact run_val (bx77 w4 _ _ _ _ _ _ _)) (hK _ _ ?_)
    clear hK K
    try simp only [Act.put, List.setIfInBounds_toArray, List.set_cons_zero, List.set_cons_succ]
    refine wpAny_take (oi := { dst := some 4, op := Op.assign (Operand.tmp 40), type := 37, pos := "ref.go:33", after := #[{ on := 9, ground := Ground.data }, { on := 2, ground := Ground.chain }, { on := 0, ground := Ground.phase }, { on := 1, ground := Ground.phase }, { on := 2, ground := Ground.phase }, { on := 3, ground := Ground.phase }, { on := 4, ground := Ground.phase }, { on := 5, ground := Ground.phase }, { on := 6, ground := Ground.phase }, { on := 7, ground := Ground.phase }, { on := 8, ground := Ground.phase }, { on := 9, ground := Ground.phase }], guard := none }) (i := 10) (v := .pointer (some ⟨w4.heap.size, 0, none⟩)) rfl (by kernel_rfl) (by kernel_rfl) (by kernel_rfl) (fun _ _ _ h => h) (Or.inl ⟨by rfl, fun W => by rfl⟩) ?_
    try simp only [Act.put, List.setIfInBounds_toArray, List.set_cons_zero, List.set_cons_succ]
    refine wpAny_take (oi := { dst := some 5, op := Op.assign (Operand.const (Value.int IntKind.i64 0)), type := 3, pos := "ref.go:33", after := #[{ on := 10, ground := Ground.chain }, { on := 0, ground := Ground.phase }, { on := 1, ground := Ground.phase }, { on := 2, ground := Ground.phase }, { on := 3, ground := Ground.phase }, { on := 4, ground := Ground.phase }, { on := 5, ground := Ground.phase }, { on := 6, ground := Ground.phase }, { on := 7, ground := Ground.phase }, { on := 8, ground := Ground.phase }, { on := 9, ground := Ground.phase }, { on := 10, ground := Ground.phase }], guard := none }) (i := 11) (v := .int .i64 0) rfl (by kernel_rfl) (by kernel_rfl) (by kernel_rfl) (fun _ _ _ h => h) (Or.inl ⟨by rfl, fun W => by rfl⟩) ?_
    try simp only [Act.put, List.setIfInBounds_toArray, List.set_cons_zero, List.set_cons_succ]
    refine wpAny_done (by kernel_rfl) ?_ _
    have FF := Lib.hid (fin w4 (.slice p33 M cc) (w2.heap.size) (w1.heap.size) B4.out H4.out b36_4.out b38_4.out B2.out.size B1.out.size)
    go_wp2_with fail
    go_ret2
    exact FF.out
  refine AllReady.cons (o := { dst := some 36, op := Op.makeSlice 74 (Operand.tmp 35) (Operand.tmp 35), type := 74, pos := "ref.go:33", after := #[{ on := 4, ground := Ground.data }, { on := 4, ground := Ground.data }], guard := none }) rfl (fun K hK => ?_) ?_
  · skip
    obtain ⟨w1, r1, k1, g1⟩ := mk74 N h2 w0
    refine opw_val (v := .slice (some ⟨w0.heap.size, 0, none⟩) N N) (w' := w1) rfl (by simp only [execOp]; exact run_val r1) (hK _ _ ?_)
    clear hK K
    try simp only [Act.put, List.setIfInBounds_toArray, List.set_cons_zero, List.set_cons_succ]
    have B1 := Lib.hid (B0.out.grown g1 B0.out.size (by simp))
    have H1 := Lib.hid k1
    clear r1 k1 g1
    refine wpAny_ready (rs := [0, 7]) (by kernel_rfl) (by simp) ?_
    refine AllReady.cons (o := { dst := some 31, op := Op.buildSlice 29 0 #[], type := 29, pos := "ref.go:33", after := #[], guard := none }) rfl (fun K hK => ?_) ?_
    · skip
      obtain ⟨w2, r2, k2, g2⟩ := mk0 w1
      refine opw_val (v := .slice (some ⟨w1.heap.size, 0, none⟩) 0 0) (w' := w2) rfl (by simp only [execOp, List.map_toArray, List.map_nil]; exact run_val r2) (hK _ _ ?_)
      clear hK K
      try simp only [Act.put, List.setIfInBounds_toArray, List.set_cons_zero, List.set_cons_succ]
      have B2 := Lib.hid (B1.out.grown g2 B1.out.size (by simp))
      have b36_2 := Lib.hid (blk_row H1.out g2 (by simp))
      have H2 := Lib.hid k2
      clear r2 k2 g2
      refine wpAny_ready (rs := [2, 7]) (by kernel_rfl) (by simp) ?_
      refine AllReady.cons (o := { dst := some 33, op := Op.call { callee := Callee.builtin Builtin.append, args := #[Operand.tmp 31, Operand.tmp 32], argTypes := #[29, 29] }, type := 29, pos := "ref.go:33", after := #[{ on := 0, ground := Ground.data }, { on := 1, ground := Ground.data }], guard := none }) rfl (fun K hK => ?_) ?_
      · skip
        obtain ⟨p33, cc, w3, r3, k3, g3⟩ := ap33 (b := b) (o := o) (c := c) (l := l) H2.out B2.out (HB.out.below B2.out) (by have := B1.out.size; omega) HL.out hM2
        refine opw_val (v := .slice p33 M cc) (w' := w3) rfl (by simp [execOp, resolve, invoke, builtin, Act.eval, r3, Result.andThen]) (hK _ _ ?_)
        clear hK K
        try simp only [Act.put, List.setIfInBounds_toArray, List.set_cons_zero, List.set_cons_succ]
        have B3 := Lib.hid (B2.out.grown g3 B2.out.size (fun j e => by injection e with e; have := B1.out.size; omega))
        have b36_3 := Lib.hid (blk_row b36_2.out g3 (fun e => by injection e with e; exact blk_ne b36_2.out H2.out (by decide) e))
        have H3 := Lib.hid k3
        clear r3 k3 g3
        refine wpAny_ready (rs := [7]) (by kernel_rfl) (by simp) ?_
        refine AllReady.cons (o := { dst := some 38, op := Op.makeSlice 75 (Operand.tmp 37) (Operand.tmp 37), type := 75, pos := "ref.go:33", after := #[{ on := 6, ground := Ground.data }, { on := 6, ground := Ground.data }], guard := none }) rfl (fun K hK => ?_) AllReady.nil
        obtain ⟨w4, r4, k4, g4⟩ := mk75 N h2 w3
        refine opw_val (v := .slice (some ⟨w3.heap.size, 0, none⟩) N N) (w' := w4) rfl (by simp only [execOp]; exact run_val r4) (hK _ _ ?_)
        clear hK K
        try simp only [Act.put, List.setIfInBounds_toArray, List.set_cons_zero, List.set_cons_succ]
        have B4 := Lib.hid (B3.out.grown g4 B3.out.size (by simp))
        have b36_4 := Lib.hid (blk_row b36_3.out g4 (by simp))
        have own_4 := Lib.hid (H3.out.kept g4 (Classical.em _))
        have H4 := Lib.hid k4
        clear r4 k4 g4
        refine wpAny_take (oi := { dst := some 39, op := Op.build 77 #[(0, Operand.tmp 33), (1, Operand.tmp 34), (2, Operand.tmp 36), (3, Operand.tmp 38)], type := 77, pos := "ref.go:33", after := #[{ on := 2, ground := Ground.data }, { on := 3, ground := Ground.data }, { on := 5, ground := Ground.data }, { on := 7, ground := Ground.data }], guard := none }) (i := 8) (v := .agg #[.slice p33 M cc, .int .i64 (low : Int), .slice (some ⟨w0.heap.size, 0, none⟩) N N, .slice (some ⟨w3.heap.size, 0, none⟩) N N, .bool false, .bool false, .int .i64 0, .int .i64 0]) rfl (by kernel_rfl) (by kernel_rfl) (by kernel_rfl) (fun _ _ _ h => h) (Or.inl ⟨by rfl, fun W => by simp only [execOp, List.map_toArray, List.map_cons, List.map_nil]; exact run_val (bd77 W _ _ _ _ _ _ _)⟩) ?_
        try simp only [Act.put, List.setIfInBounds_toArray, List.set_cons_zero, List.set_cons_succ]
        refine wpAny_ready (rs := [9]) (by kernel_rfl) (by simp) ?_
        refine AllReady.cons (o := { dst := some 40, op := Op.box 77 (Operand.tmp 39), type := 37, pos := "ref.go:33", after := #[{ on := 8, ground := Ground.data }], guard := none }) rfl (fun K hK => ?_) AllReady.nil
        refine opw_val (v := .pointer (some ⟨w4.heap.size, 0, none⟩)) (w' := w4.alloc (.cells (rvC (.slice p33 M cc) (.slice (some ⟨w0.heap.size, 0, none⟩) N N) (.slice (some ⟨w3.heap.size, 0, none⟩) N N) (low : Int) false false 0 0).toArray 77)) rfl (by simp only [execOp]; exact run_val (bx77 w4 _ _ _ _ _ _ _)) (hK _ _ ?_)
        clear hK K
        try simp only [Act.put, List.setIfInBounds_toArray, List.set_cons_zero, List.set_cons_succ]
        refine wpAny_take (oi := { dst := some 4, op := Op.assign (Operand.tmp 40), type := 37, pos := "ref.go:33", after := #[{ on := 9, ground := Ground.data }, { on := 2, ground := Ground.chain }, { on := 0, ground := Ground.phase }, { on := 1, ground := Ground.phase }, { on := 2, ground := Ground.phase }, { on := 3, ground := Ground.phase }, { on := 4, ground := Ground.phase }, { on := 5, ground := Ground.phase }, { on := 6, ground := Ground.phase }, { on := 7, ground := Ground.phase }, { on := 8, ground := Ground.phase }, { on := 9, ground := Ground.phase }], guard := none }) (i := 10) (v := .pointer (some ⟨w4.heap.size, 0, none⟩)) rfl (by kernel_rfl) (by kernel_rfl) (by kernel_rfl) (fun _ _ _ h => h) (Or.inl ⟨by rfl, fun W => by rfl⟩) ?_
        try simp only [Act.put, List.setIfInBounds_toArray, List.set_cons_zero, List.set_cons_succ]
        refine wpAny_take (oi := { dst := some 5, op := Op.assign (Operand.const (Value.int IntKind.i64 0)), type := 3, pos := "ref.go:33", after := #[{ on := 10, ground := Ground.chain }, { on := 0, ground := Ground.phase }, { on := 1, ground := Ground.phase }, { on := 2, ground := Ground.phase }, { on := 3, ground := Ground.phase }, { on := 4, ground := Ground.phase }, { on := 5, ground := Ground.phase }, { on := 6, ground := Ground.phase }, { on := 7, ground := Ground.phase }, { on := 8, ground := Ground.phase }, { on := 9, ground := Ground.phase }, { on := 10, ground := Ground.phase }], guard := none }) (i := 11) (v := .int .i64 0) rfl (by kernel_rfl) (by kernel_rfl) (by kernel_rfl) (fun _ _ _ h => h) (Or.inl ⟨by rfl, fun W => by rfl⟩) ?_
        try simp only [Act.put, List.setIfInBounds_toArray, List.set_cons_zero, List.set_cons_succ]
        refine wpAny_done (by kernel_rfl) ?_ _
        have FF := Lib.hid (fin w4 (.slice p33 M cc) (w0.heap.size) (w3.heap.size) B4.out own_4.out b36_4.out H4.out B0.out.size B3.out.size)
        go_wp2_with fail
        go_ret2
        exact FF.out
      refine AllReady.cons (o := { dst := some 38, op := Op.makeSlice 75 (Operand.tmp 37) (Operand.tmp 37), type := 75, pos := "ref.go:33", after := #[{ on := 6, ground := Ground.data }, { on := 6, ground := Ground.data }], guard := none }) rfl (fun K hK => ?_) AllReady.nil
      obtain ⟨w3, r3, k3, g3⟩ := mk75 N h2 w2
      refine opw_val (v := .slice (some ⟨w2.heap.size, 0, none⟩) N N) (w' := w3) rfl (by simp only [execOp]; exact run_val r3) (hK _ _ ?_)
      clear hK K
      try simp only [Act.put, List.setIfInBounds_toArray, List.set_cons_zero, List.set_cons_succ]
      have B3 := Lib.hid (B2.out.grown g3 B2.out.size (by simp))
      have b31_3 := Lib.hid (blk_row H2.out g3 (by simp))
      have b36_3 := Lib.hid (blk_row b36_2.out g3 (by simp))
      have H3 := Lib.hid k3
      clear r3 k3 g3
      refine wpAny_ready (rs := [2]) (by kernel_rfl) (by simp) ?_
      refine AllReady.cons (o := { dst := some 33, op := Op.call { callee := Callee.builtin Builtin.append, args := #[Operand.tmp 31, Operand.tmp 32], argTypes := #[29, 29] }, type := 29, pos := "ref.go:33", after := #[{ on := 0, ground := Ground.data }, { on := 1, ground := Ground.data }], guard := none }) rfl (fun K hK => ?_) AllReady.nil
      obtain ⟨p33, cc, w4, r4, k4, g4⟩ := ap33 (b := b) (o := o) (c := c) (l := l) b31_3.out B3.out (HB.out.below B3.out) (by have := B1.out.size; omega) HL.out hM2
      refine opw_val (v := .slice p33 M cc) (w' := w4) rfl (by simp [execOp, resolve, invoke, builtin, Act.eval, r4, Result.andThen]) (hK _ _ ?_)
      clear hK K
      try simp only [Act.put, List.setIfInBounds_toArray, List.set_cons_zero, List.set_cons_succ]
      have B4 := Lib.hid (B3.out.grown g4 B3.out.size (fun j e => by injection e with e; have := B1.out.size; omega))
      have b36_4 := Lib.hid (blk_row b36_3.out g4 (fun e => by injection e with e; exact blk_ne b36_3.out b31_3.out (by decide) e))
      have b38_4 := Lib.hid (blk_row H3.out g4 (fun e => by injection e with e; exact blk_ne H3.out b31_3.out (by decide) e))
      have H4 := Lib.hid k4
      clear r4 k4 g4
      refine wpAny_take (oi := { dst := some 39, op := Op.build 77 #[(0, Operand.tmp 33), (1, Operand.tmp 34), (2, Operand.tmp 36), (3, Operand.tmp 38)], type := 77, pos := "ref.go:33", after := #[{ on := 2, ground := Ground.data }, { on := 3, ground := Ground.data }, { on := 5, ground := Ground.data }, { on := 7, ground := Ground.data }], guard := none }) (i := 8) (v := .agg #[.slice p33 M cc, .int .i64 (low : Int), .slice (some ⟨w0.heap.size, 0, none⟩) N N, .slice (some ⟨w2.heap.size, 0, none⟩) N N, .bool false, .bool false, .int .i64 0, .int .i64 0]) rfl (by kernel_rfl) (by kernel_rfl) (by kernel_rfl) (fun _ _ _ h => h) (Or.inl ⟨by rfl, fun W => by simp only [execOp, List.map_toArray, List.map_cons, List.map_nil]; exact run_val (bd77 W _ _ _ _ _ _ _)⟩) ?_
      try simp only [Act.put, List.setIfInBounds_toArray, List.set_cons_zero, List.set_cons_succ]
      refine wpAny_ready (rs := [9]) (by kernel_rfl) (by simp) ?_
      refine AllReady.cons (o := { dst := some 40, op := Op.box 77 (Operand.tmp 39), type := 37, pos := "ref.go:33", after := #[{ on := 8, ground := Ground.data }], guard := none }) rfl (fun K hK => ?_) AllReady.nil
      refine opw_val (v := .pointer (some ⟨w4.heap.size, 0, none⟩)) (w' := w4.alloc (.cells (rvC (.slice p33 M cc) (.slice (some ⟨w0.heap.size, 0, none⟩) N N) (.slice (some ⟨w2.heap.size, 0, none⟩) N N) (low : Int) false false 0 0).toArray 77)) rfl (by simp only [execOp]; exact run_val (bx77 w4 _ _ _ _ _ _ _)) (hK _ _ ?_)
      clear hK K
      try simp only [Act.put, List.setIfInBounds_toArray, List.set_cons_zero, List.set_cons_succ]
      refine wpAny_take (oi := { dst := some 4, op := Op.assign (Operand.tmp 40), type := 37, pos := "ref.go:33", after := #[{ on := 9, ground := Ground.data }, { on := 2, ground := Ground.chain }, { on := 0, ground := Ground.phase }, { on := 1, ground := Ground.phase }, { on := 2, ground := Ground.phase }, { on := 3, ground := Ground.phase }, { on := 4, ground := Ground.phase }, { on := 5, ground := Ground.phase }, { on := 6, ground := Ground.phase }, { on := 7, ground := Ground.phase }, { on := 8, ground := Ground.phase }, { on := 9, ground := Ground.phase }], guard := none }) (i := 10) (v := .pointer (some ⟨w4.heap.size, 0, none⟩)) rfl (by kernel_rfl) (by kernel_rfl) (by kernel_rfl) (fun _ _ _ h => h) (Or.inl ⟨by rfl, fun W => by rfl⟩) ?_
      try simp only [Act.put, List.setIfInBounds_toArray, List.set_cons_zero, List.set_cons_succ]
      refine wpAny_take (oi := { dst := some 5, op := Op.assign (Operand.const (Value.int IntKind.i64 0)), type := 3, pos := "ref.go:33", after := #[{ on := 10, ground := Ground.chain }, { on := 0, ground := Ground.phase }, { on := 1, ground := Ground.phase }, { on := 2, ground := Ground.phase }, { on := 3, ground := Ground.phase }, { on := 4, ground := Ground.phase }, { on := 5, ground := Ground.phase }, { on := 6, ground := Ground.phase }, { on := 7, ground := Ground.phase }, { on := 8, ground := Ground.phase }, { on := 9, ground := Ground.phase }, { on := 10, ground := Ground.phase }], guard := none }) (i := 11) (v := .int .i64 0) rfl (by kernel_rfl) (by kernel_rfl) (by kernel_rfl) (fun _ _ _ h => h) (Or.inl ⟨by rfl, fun W => by rfl⟩) ?_
      try simp only [Act.put, List.setIfInBounds_toArray, List.set_cons_zero, List.set_cons_succ]
      refine wpAny_done (by kernel_rfl) ?_ _
      have FF := Lib.hid (fin w4 (.slice p33 M cc) (w0.heap.size) (w2.heap.size) B4.out H4.out b36_4.out b38_4.out B0.out.size B2.out.size)
      go_wp2_with fail
      go_ret2
      exact FF.out
    refine AllReady.cons (o := { dst := some 38, op := Op.makeSlice 75 (Operand.tmp 37) (Operand.tmp 37), type := 75, pos := "ref.go:33", after := #[{ on := 6, ground := Ground.data }, { on := 6, ground := Ground.data }], guard := none }) rfl (fun K hK => ?_) AllReady.nil
    obtain ⟨w2, r2, k2, g2⟩ := mk75 N h2 w1
    refine opw_val (v := .slice (some ⟨w1.heap.size, 0, none⟩) N N) (w' := w2) rfl (by simp only [execOp]; exact run_val r2) (hK _ _ ?_)
    clear hK K
    try simp only [Act.put, List.setIfInBounds_toArray, List.set_cons_zero, List.set_cons_succ]
    have B2 := Lib.hid (B1.out.grown g2 B1.out.size (by simp))
    have b36_2 := Lib.hid (blk_row H1.out g2 (by simp))
    have H2 := Lib.hid k2
    clear r2 k2 g2
    refine wpAny_ready (rs := [0]) (by kernel_rfl) (by simp) ?_
    refine AllReady.cons (o := { dst := some 31, op := Op.buildSlice 29 0 #[], type := 29, pos := "ref.go:33", after := #[], guard := none }) rfl (fun K hK => ?_) AllReady.nil
    obtain ⟨w3, r3, k3, g3⟩ := mk0 w2
    refine opw_val (v := .slice (some ⟨w2.heap.size, 0, none⟩) 0 0) (w' := w3) rfl (by simp only [execOp, List.map_toArray, List.map_nil]; exact run_val r3) (hK _ _ ?_)
    clear hK K
    try simp only [Act.put, List.setIfInBounds_toArray, List.set_cons_zero, List.set_cons_succ]
    have B3 := Lib.hid (B2.out.grown g3 B2.out.size (by simp))
    have b36_3 := Lib.hid (blk_row b36_2.out g3 (by simp))
    have b38_3 := Lib.hid (blk_row H2.out g3 (by simp))
    have H3 := Lib.hid k3
    clear r3 k3 g3
    refine wpAny_ready (rs := [2]) (by kernel_rfl) (by simp) ?_
    refine AllReady.cons (o := { dst := some 33, op := Op.call { callee := Callee.builtin Builtin.append, args := #[Operand.tmp 31, Operand.tmp 32], argTypes := #[29, 29] }, type := 29, pos := "ref.go:33", after := #[{ on := 0, ground := Ground.data }, { on := 1, ground := Ground.data }], guard := none }) rfl (fun K hK => ?_) AllReady.nil
    obtain ⟨p33, cc, w4, r4, k4, g4⟩ := ap33 (b := b) (o := o) (c := c) (l := l) H3.out B3.out (HB.out.below B3.out) (by have := B2.out.size; omega) HL.out hM2
    refine opw_val (v := .slice p33 M cc) (w' := w4) rfl (by simp [execOp, resolve, invoke, builtin, Act.eval, r4, Result.andThen]) (hK _ _ ?_)
    clear hK K
    try simp only [Act.put, List.setIfInBounds_toArray, List.set_cons_zero, List.set_cons_succ]
    have B4 := Lib.hid (B3.out.grown g4 B3.out.size (fun j e => by injection e with e; have := B2.out.size; omega))
    have b36_4 := Lib.hid (blk_row b36_3.out g4 (fun e => by injection e with e; exact blk_ne b36_3.out H3.out (by decide) e))
    have b38_4 := Lib.hid (blk_row b38_3.out g4 (fun e => by injection e with e; exact blk_ne b38_3.out H3.out (by decide) e))
    have H4 := Lib.hid k4
    clear r4 k4 g4
    refine wpAny_take (oi := { dst := some 39, op := Op.build 77 #[(0, Operand.tmp 33), (1, Operand.tmp 34), (2, Operand.tmp 36), (3, Operand.tmp 38)], type := 77, pos := "ref.go:33", after := #[{ on := 2, ground := Ground.data }, { on := 3, ground := Ground.data }, { on := 5, ground := Ground.data }, { on := 7, ground := Ground.data }], guard := none }) (i := 8) (v := .agg #[.slice p33 M cc, .int .i64 (low : Int), .slice (some ⟨w0.heap.size, 0, none⟩) N N, .slice (some ⟨w1.heap.size, 0, none⟩) N N, .bool false, .bool false, .int .i64 0, .int .i64 0]) rfl (by kernel_rfl) (by kernel_rfl) (by kernel_rfl) (fun _ _ _ h => h) (Or.inl ⟨by rfl, fun W => by simp only [execOp, List.map_toArray, List.map_cons, List.map_nil]; exact run_val (bd77 W _ _ _ _ _ _ _)⟩) ?_
    try simp only [Act.put, List.setIfInBounds_toArray, List.set_cons_zero, List.set_cons_succ]
    refine wpAny_ready (rs := [9]) (by kernel_rfl) (by simp) ?_
    refine AllReady.cons (o := { dst := some 40, op := Op.box 77 (Operand.tmp 39), type := 37, pos := "ref.go:33", after := #[{ on := 8, ground := Ground.data }], guard := none }) rfl (fun K hK => ?_) AllReady.nil
    refine opw_val (v := .pointer (some ⟨w4.heap.size, 0, none⟩)) (w' := w4.alloc (.cells (rvC (.slice p33 M cc) (.slice (some ⟨w0.heap.size, 0, none⟩) N N) (.slice (some ⟨w1.heap.size, 0, none⟩) N N) (low : Int) false false 0 0).toArray 77)) rfl (by simp only [execOp]; exact run_val (bx77 w4 _ _ _ _ _ _ _)) (hK _ _ ?_)
    clear hK K
    try simp only [Act.put, List.setIfInBounds_toArray, List.set_cons_zero, List.set_cons_succ]
    refine wpAny_take (oi := { dst := some 4, op := Op.assign (Operand.tmp 40), type := 37, pos := "ref.go:33", after := #[{ on := 9, ground := Ground.data }, { on := 2, ground := Ground.chain }, { on := 0, ground := Ground.phase }, { on := 1, ground := Ground.phase }, { on := 2, ground := Ground.phase }, { on := 3, ground := Ground.phase }, { on := 4, ground := Ground.phase }, { on := 5, ground := Ground.phase }, { on := 6, ground := Ground.phase }, { on := 7, ground := Ground.phase }, { on := 8, ground := Ground.phase }, { on := 9, ground := Ground.phase }], guard := none }) (i := 10) (v := .pointer (some ⟨w4.heap.size, 0, none⟩)) rfl (by kernel_rfl) (by kernel_rfl) (by kernel_rfl) (fun _ _ _ h => h) (Or.inl ⟨by rfl, fun W => by rfl⟩) ?_
    try simp only [Act.put, List.setIfInBounds_toArray, List.set_cons_zero, List.set_cons_succ]
    refine wpAny_take (oi := { dst := some 5, op := Op.assign (Operand.const (Value.int IntKind.i64 0)), type := 3, pos := "ref.go:33", after := #[{ on := 10, ground := Ground.chain }, { on := 0, ground := Ground.phase }, { on := 1, ground := Ground.phase }, { on := 2, ground := Ground.phase }, { on := 3, ground := Ground.phase }, { on := 4, ground := Ground.phase }, { on := 5, ground := Ground.phase }, { on := 6, ground := Ground.phase }, { on := 7, ground := Ground.phase }, { on := 8, ground := Ground.phase }, { on := 9, ground := Ground.phase }, { on := 10, ground := Ground.phase }], guard := none }) (i := 11) (v := .int .i64 0) rfl (by kernel_rfl) (by kernel_rfl) (by kernel_rfl) (fun _ _ _ h => h) (Or.inl ⟨by rfl, fun W => by rfl⟩) ?_
    try simp only [Act.put, List.setIfInBounds_toArray, List.set_cons_zero, List.set_cons_succ]
    refine wpAny_done (by kernel_rfl) ?_ _
    have FF := Lib.hid (fin w4 (.slice p33 M cc) (w0.heap.size) (w1.heap.size) B4.out H4.out b36_4.out b38_4.out B0.out.size B1.out.size)
    go_wp2_with fail
    go_ret2
    exact FF.out
  refine AllReady.cons (o := { dst := some 38, op := Op.makeSlice 75 (Operand.tmp 37) (Operand.tmp 37), type := 75, pos := "ref.go:33", after := #[{ on := 6, ground := Ground.data }, { on := 6, ground := Ground.data }], guard := none }) rfl (fun K hK => ?_) AllReady.nil
  obtain ⟨w1, r1, k1, g1⟩ := mk75 N h2 w0
  refine opw_val (v := .slice (some ⟨w0.heap.size, 0, none⟩) N N) (w' := w1) rfl (by simp only [execOp]; exact run_val r1) (hK _ _ ?_)
  clear hK K
  try simp only [Act.put, List.setIfInBounds_toArray, List.set_cons_zero, List.set_cons_succ]
  have B1 := Lib.hid (B0.out.grown g1 B0.out.size (by simp))
  have H1 := Lib.hid k1
  clear r1 k1 g1
  refine wpAny_ready (rs := [0, 5]) (by kernel_rfl) (by simp) ?_
  refine AllReady.cons (o := { dst := some 31, op := Op.buildSlice 29 0 #[], type := 29, pos := "ref.go:33", after := #[], guard := none }) rfl (fun K hK => ?_) ?_
  · skip
    obtain ⟨w2, r2, k2, g2⟩ := mk0 w1
    refine opw_val (v := .slice (some ⟨w1.heap.size, 0, none⟩) 0 0) (w' := w2) rfl (by simp only [execOp, List.map_toArray, List.map_nil]; exact run_val r2) (hK _ _ ?_)
    clear hK K
    try simp only [Act.put, List.setIfInBounds_toArray, List.set_cons_zero, List.set_cons_succ]
    have B2 := Lib.hid (B1.out.grown g2 B1.out.size (by simp))
    have b38_2 := Lib.hid (blk_row H1.out g2 (by simp))
    have H2 := Lib.hid k2
    clear r2 k2 g2
    refine wpAny_ready (rs := [2, 5]) (by kernel_rfl) (by simp) ?_
    refine AllReady.cons (o := { dst := some 33, op := Op.call { callee := Callee.builtin Builtin.append, args := #[Operand.tmp 31, Operand.tmp 32], argTypes := #[29, 29] }, type := 29, pos := "ref.go:33", after := #[{ on := 0, ground := Ground.data }, { on := 1, ground := Ground.data }], guard := none }) rfl (fun K hK => ?_) ?_
    · skip
      obtain ⟨p33, cc, w3, r3, k3, g3⟩ := ap33 (b := b) (o := o) (c := c) (l := l) H2.out B2.out (HB.out.below B2.out) (by have := B1.out.size; omega) HL.out hM2
      refine opw_val (v := .slice p33 M cc) (w' := w3) rfl (by simp [execOp, resolve, invoke, builtin, Act.eval, r3, Result.andThen]) (hK _ _ ?_)
      clear hK K
      try simp only [Act.put, List.setIfInBounds_toArray, List.set_cons_zero, List.set_cons_succ]
      have B3 := Lib.hid (B2.out.grown g3 B2.out.size (fun j e => by injection e with e; have := B1.out.size; omega))
      have b38_3 := Lib.hid (blk_row b38_2.out g3 (fun e => by injection e with e; exact blk_ne b38_2.out H2.out (by decide) e))
      have H3 := Lib.hid k3
      clear r3 k3 g3
      refine wpAny_ready (rs := [5]) (by kernel_rfl) (by simp) ?_
      refine AllReady.cons (o := { dst := some 36, op := Op.makeSlice 74 (Operand.tmp 35) (Operand.tmp 35), type := 74, pos := "ref.go:33", after := #[{ on := 4, ground := Ground.data }, { on := 4, ground := Ground.data }], guard := none }) rfl (fun K hK => ?_) AllReady.nil
      obtain ⟨w4, r4, k4, g4⟩ := mk74 N h2 w3
      refine opw_val (v := .slice (some ⟨w3.heap.size, 0, none⟩) N N) (w' := w4) rfl (by simp only [execOp]; exact run_val r4) (hK _ _ ?_)
      clear hK K
      try simp only [Act.put, List.setIfInBounds_toArray, List.set_cons_zero, List.set_cons_succ]
      have B4 := Lib.hid (B3.out.grown g4 B3.out.size (by simp))
      have b38_4 := Lib.hid (blk_row b38_3.out g4 (by simp))
      have own_4 := Lib.hid (H3.out.kept g4 (Classical.em _))
      have H4 := Lib.hid k4
      clear r4 k4 g4
      refine wpAny_take (oi := { dst := some 39, op := Op.build 77 #[(0, Operand.tmp 33), (1, Operand.tmp 34), (2, Operand.tmp 36), (3, Operand.tmp 38)], type := 77, pos := "ref.go:33", after := #[{ on := 2, ground := Ground.data }, { on := 3, ground := Ground.data }, { on := 5, ground := Ground.data }, { on := 7, ground := Ground.data }], guard := none }) (i := 8) (v := .agg #[.slice p33 M cc, .int .i64 (low : Int), .slice (some ⟨w3.heap.size, 0, none⟩) N N, .slice (some ⟨w0.heap.size, 0, none⟩) N N, .bool false, .bool false, .int .i64 0, .int .i64 0]) rfl (by kernel_rfl) (by kernel_rfl) (by kernel_rfl) (fun _ _ _ h => h) (Or.inl ⟨by rfl, fun W => by simp only [execOp, List.map_toArray, List.map_cons, List.map_nil]; exact run_val (bd77 W _ _ _ _ _ _ _)⟩) ?_
      try simp only [Act.put, List.setIfInBounds_toArray, List.set_cons_zero, List.set_cons_succ]
      refine wpAny_ready (rs := [9]) (by kernel_rfl) (by simp) ?_
      refine AllReady.cons (o := { dst := some 40, op := Op.box 77 (Operand.tmp 39), type := 37, pos := "ref.go:33", after := #[{ on := 8, ground := Ground.data }], guard := none }) rfl (fun K hK => ?_) AllReady.nil
      refine opw_val (v := .pointer (some ⟨w4.heap.size, 0, none⟩)) (w' := w4.alloc (.cells (rvC (.slice p33 M cc) (.slice (some ⟨w3.heap.size, 0, none⟩) N N) (.slice (some ⟨w0.heap.size, 0, none⟩) N N) (low : Int) false false 0 0).toArray 77)) rfl (by simp only [execOp]; exact run_val (bx77 w4 _ _ _ _ _ _ _)) (hK _ _ ?_)
      clear hK K
      try simp only [Act.put, List.setIfInBounds_toArray, List.set_cons_zero, List.set_cons_succ]
      refine wpAny_take (oi := { dst := some 4, op := Op.assign (Operand.tmp 40), type := 37, pos := "ref.go:33", after := #[{ on := 9, ground := Ground.data }, { on := 2, ground := Ground.chain }, { on := 0, ground := Ground.phase }, { on := 1, ground := Ground.phase }, { on := 2, ground := Ground.phase }, { on := 3, ground := Ground.phase }, { on := 4, ground := Ground.phase }, { on := 5, ground := Ground.phase }, { on := 6, ground := Ground.phase }, { on := 7, ground := Ground.phase }, { on := 8, ground := Ground.phase }, { on := 9, ground := Ground.phase }], guard := none }) (i := 10) (v := .pointer (some ⟨w4.heap.size, 0, none⟩)) rfl (by kernel_rfl) (by kernel_rfl) (by kernel_rfl) (fun _ _ _ h => h) (Or.inl ⟨by rfl, fun W => by rfl⟩) ?_
      try simp only [Act.put, List.setIfInBounds_toArray, List.set_cons_zero, List.set_cons_succ]
      refine wpAny_take (oi := { dst := some 5, op := Op.assign (Operand.const (Value.int IntKind.i64 0)), type := 3, pos := "ref.go:33", after := #[{ on := 10, ground := Ground.chain }, { on := 0, ground := Ground.phase }, { on := 1, ground := Ground.phase }, { on := 2, ground := Ground.phase }, { on := 3, ground := Ground.phase }, { on := 4, ground := Ground.phase }, { on := 5, ground := Ground.phase }, { on := 6, ground := Ground.phase }, { on := 7, ground := Ground.phase }, { on := 8, ground := Ground.phase }, { on := 9, ground := Ground.phase }, { on := 10, ground := Ground.phase }], guard := none }) (i := 11) (v := .int .i64 0) rfl (by kernel_rfl) (by kernel_rfl) (by kernel_rfl) (fun _ _ _ h => h) (Or.inl ⟨by rfl, fun W => by rfl⟩) ?_
      try simp only [Act.put, List.setIfInBounds_toArray, List.set_cons_zero, List.set_cons_succ]
      refine wpAny_done (by kernel_rfl) ?_ _
      have FF := Lib.hid (fin w4 (.slice p33 M cc) (w3.heap.size) (w0.heap.size) B4.out own_4.out H4.out b38_4.out B3.out.size B0.out.size)
      go_wp2_with fail
      go_ret2
      exact FF.out
    refine AllReady.cons (o := { dst := some 36, op := Op.makeSlice 74 (Operand.tmp 35) (Operand.tmp 35), type := 74, pos := "ref.go:33", after := #[{ on := 4, ground := Ground.data }, { on := 4, ground := Ground.data }], guard := none }) rfl (fun K hK => ?_) AllReady.nil
    obtain ⟨w3, r3, k3, g3⟩ := mk74 N h2 w2
    refine opw_val (v := .slice (some ⟨w2.heap.size, 0, none⟩) N N) (w' := w3) rfl (by simp only [execOp]; exact run_val r3) (hK _ _ ?_)
    clear hK K
    try simp only [Act.put, List.setIfInBounds_toArray, List.set_cons_zero, List.set_cons_succ]
    have B3 := Lib.hid (B2.out.grown g3 B2.out.size (by simp))
    have b31_3 := Lib.hid (blk_row H2.out g3 (by simp))
    have b38_3 := Lib.hid (blk_row b38_2.out g3 (by simp))
    have H3 := Lib.hid k3
    clear r3 k3 g3
    refine wpAny_ready (rs := [2]) (by kernel_rfl) (by simp) ?_
    refine AllReady.cons (o := { dst := some 33, op := Op.call { callee := Callee.builtin Builtin.append, args := #[Operand.tmp 31, Operand.tmp 32], argTypes := #[29, 29] }, type := 29, pos := "ref.go:33", after := #[{ on := 0, ground := Ground.data }, { on := 1, ground := Ground.data }], guard := none }) rfl (fun K hK => ?_) AllReady.nil
    obtain ⟨p33, cc, w4, r4, k4, g4⟩ := ap33 (b := b) (o := o) (c := c) (l := l) b31_3.out B3.out (HB.out.below B3.out) (by have := B1.out.size; omega) HL.out hM2
    refine opw_val (v := .slice p33 M cc) (w' := w4) rfl (by simp [execOp, resolve, invoke, builtin, Act.eval, r4, Result.andThen]) (hK _ _ ?_)
    clear hK K
    try simp only [Act.put, List.setIfInBounds_toArray, List.set_cons_zero, List.set_cons_succ]
    have B4 := Lib.hid (B3.out.grown g4 B3.out.size (fun j e => by injection e with e; have := B1.out.size; omega))
    have b36_4 := Lib.hid (blk_row H3.out g4 (fun e => by injection e with e; exact blk_ne H3.out b31_3.out (by decide) e))
    have b38_4 := Lib.hid (blk_row b38_3.out g4 (fun e => by injection e with e; exact blk_ne b38_3.out b31_3.out (by decide) e))
    have H4 := Lib.hid k4
    clear r4 k4 g4
    refine wpAny_take (oi := { dst := some 39, op := Op.build 77 #[(0, Operand.tmp 33), (1, Operand.tmp 34), (2, Operand.tmp 36), (3, Operand.tmp 38)], type := 77, pos := "ref.go:33", after := #[{ on := 2, ground := Ground.data }, { on := 3, ground := Ground.data }, { on := 5, ground := Ground.data }, { on := 7, ground := Ground.data }], guard := none }) (i := 8) (v := .agg #[.slice p33 M cc, .int .i64 (low : Int), .slice (some ⟨w2.heap.size, 0, none⟩) N N, .slice (some ⟨w0.heap.size, 0, none⟩) N N, .bool false, .bool false, .int .i64 0, .int .i64 0]) rfl (by kernel_rfl) (by kernel_rfl) (by kernel_rfl) (fun _ _ _ h => h) (Or.inl ⟨by rfl, fun W => by simp only [execOp, List.map_toArray, List.map_cons, List.map_nil]; exact run_val (bd77 W _ _ _ _ _ _ _)⟩) ?_
    try simp only [Act.put, List.setIfInBounds_toArray, List.set_cons_zero, List.set_cons_succ]
    refine wpAny_ready (rs := [9]) (by kernel_rfl) (by simp) ?_
    refine AllReady.cons (o := { dst := some 40, op := Op.box 77 (Operand.tmp 39), type := 37, pos := "ref.go:33", after := #[{ on := 8, ground := Ground.data }], guard := none }) rfl (fun K hK => ?_) AllReady.nil
    refine opw_val (v := .pointer (some ⟨w4.heap.size, 0, none⟩)) (w' := w4.alloc (.cells (rvC (.slice p33 M cc) (.slice (some ⟨w2.heap.size, 0, none⟩) N N) (.slice (some ⟨w0.heap.size, 0, none⟩) N N) (low : Int) false false 0 0).toArray 77)) rfl (by simp only [execOp]; exact run_val (bx77 w4 _ _ _ _ _ _ _)) (hK _ _ ?_)
    clear hK K
    try simp only [Act.put, List.setIfInBounds_toArray, List.set_cons_zero, List.set_cons_succ]
    refine wpAny_take (oi := { dst := some 4, op := Op.assign (Operand.tmp 40), type := 37, pos := "ref.go:33", after := #[{ on := 9, ground := Ground.data }, { on := 2, ground := Ground.chain }, { on := 0, ground := Ground.phase }, { on := 1, ground := Ground.phase }, { on := 2, ground := Ground.phase }, { on := 3, ground := Ground.phase }, { on := 4, ground := Ground.phase }, { on := 5, ground := Ground.phase }, { on := 6, ground := Ground.phase }, { on := 7, ground := Ground.phase }, { on := 8, ground := Ground.phase }, { on := 9, ground := Ground.phase }], guard := none }) (i := 10) (v := .pointer (some ⟨w4.heap.size, 0, none⟩)) rfl (by kernel_rfl) (by kernel_rfl) (by kernel_rfl) (fun _ _ _ h => h) (Or.inl ⟨by rfl, fun W => by rfl⟩) ?_
    try simp only [Act.put, List.setIfInBounds_toArray, List.set_cons_zero, List.set_cons_succ]
    refine wpAny_take (oi := { dst := some 5, op := Op.assign (Operand.const (Value.int IntKind.i64 0)), type := 3, pos := "ref.go:33", after := #[{ on := 10, ground := Ground.chain }, { on := 0, ground := Ground.phase }, { on := 1, ground := Ground.phase }, { on := 2, ground := Ground.phase }, { on := 3, ground := Ground.phase }, { on := 4, ground := Ground.phase }, { on := 5, ground := Ground.phase }, { on := 6, ground := Ground.phase }, { on := 7, ground := Ground.phase }, { on := 8, ground := Ground.phase }, { on := 9, ground := Ground.phase }, { on := 10, ground := Ground.phase }], guard := none }) (i := 11) (v := .int .i64 0) rfl (by kernel_rfl) (by kernel_rfl) (by kernel_rfl) (fun _ _ _ h => h) (Or.inl ⟨by rfl, fun W => by rfl⟩) ?_
    try simp only [Act.put, List.setIfInBounds_toArray, List.set_cons_zero, List.set_cons_succ]
    refine wpAny_done (by kernel_rfl) ?_ _
    have FF := Lib.hid (fin w4 (.slice p33 M cc) (w2.heap.size) (w0.heap.size) B4.out H4.out b36_4.out b38_4.out B2.out.size B0.out.size)
    go_wp2_with fail
    go_ret2
    exact FF.out
  refine AllReady.cons (o := { dst := some 36, op := Op.makeSlice 74 (Operand.tmp 35) (Operand.tmp 35), type := 74, pos := "ref.go:33", after := #[{ on := 4, ground := Ground.data }, { on := 4, ground := Ground.data }], guard := none }) rfl (fun K hK => ?_) AllReady.nil
  obtain ⟨w2, r2, k2, g2⟩ := mk74 N h2 w1
  refine opw_val (v := .slice (some ⟨w1.heap.size, 0, none⟩) N N) (w' := w2) rfl (by simp only [execOp]; exact run_val r2) (hK _ _ ?_)
  clear hK K
  try simp only [Act.put, List.setIfInBounds_toArray, List.set_cons_zero, List.set_cons_succ]
  have B2 := Lib.hid (B1.out.grown g2 B1.out.size (by simp))
  have b38_2 := Lib.hid (blk_row H1.out g2 (by simp))
  have H2 := Lib.hid k2
  clear r2 k2 g2
  refine wpAny_ready (rs := [0]) (by kernel_rfl) (by simp) ?_
  refine AllReady.cons (o := { dst := some 31, op := Op.buildSlice 29 0 #[], type := 29, pos := "ref.go:33", after := #[], guard := none }) rfl (fun K hK => ?_) AllReady.nil
  obtain ⟨w3, r3, k3, g3⟩ := mk0 w2
  refine opw_val (v := .slice (some ⟨w2.heap.size, 0, none⟩) 0 0) (w' := w3) rfl (by simp only [execOp, List.map_toArray, List.map_nil]; exact run_val r3) (hK _ _ ?_)
  clear hK K
  try simp only [Act.put, List.setIfInBounds_toArray, List.set_cons_zero, List.set_cons_succ]
  have B3 := Lib.hid (B2.out.grown g3 B2.out.size (by simp))
  have b36_3 := Lib.hid (blk_row H2.out g3 (by simp))
  have b38_3 := Lib.hid (blk_row b38_2.out g3 (by simp))
  have H3 := Lib.hid k3
  clear r3 k3 g3
  refine wpAny_ready (rs := [2]) (by kernel_rfl) (by simp) ?_
  refine AllReady.cons (o := { dst := some 33, op := Op.call { callee := Callee.builtin Builtin.append, args := #[Operand.tmp 31, Operand.tmp 32], argTypes := #[29, 29] }, type := 29, pos := "ref.go:33", after := #[{ on := 0, ground := Ground.data }, { on := 1, ground := Ground.data }], guard := none }) rfl (fun K hK => ?_) AllReady.nil
  obtain ⟨p33, cc, w4, r4, k4, g4⟩ := ap33 (b := b) (o := o) (c := c) (l := l) H3.out B3.out (HB.out.below B3.out) (by have := B2.out.size; omega) HL.out hM2
  refine opw_val (v := .slice p33 M cc) (w' := w4) rfl (by simp [execOp, resolve, invoke, builtin, Act.eval, r4, Result.andThen]) (hK _ _ ?_)
  clear hK K
  try simp only [Act.put, List.setIfInBounds_toArray, List.set_cons_zero, List.set_cons_succ]
  have B4 := Lib.hid (B3.out.grown g4 B3.out.size (fun j e => by injection e with e; have := B2.out.size; omega))
  have b36_4 := Lib.hid (blk_row b36_3.out g4 (fun e => by injection e with e; exact blk_ne b36_3.out H3.out (by decide) e))
  have b38_4 := Lib.hid (blk_row b38_3.out g4 (fun e => by injection e with e; exact blk_ne b38_3.out H3.out (by decide) e))
  have H4 := Lib.hid k4
  clear r4 k4 g4
  refine wpAny_take (oi := { dst := some 39, op := Op.build 77 #[(0, Operand.tmp 33), (1, Operand.tmp 34), (2, Operand.tmp 36), (3, Operand.tmp 38)], type := 77, pos := "ref.go:33", after := #[{ on := 2, ground := Ground.data }, { on := 3, ground := Ground.data }, { on := 5, ground := Ground.data }, { on := 7, ground := Ground.data }], guard := none }) (i := 8) (v := .agg #[.slice p33 M cc, .int .i64 (low : Int), .slice (some ⟨w1.heap.size, 0, none⟩) N N, .slice (some ⟨w0.heap.size, 0, none⟩) N N, .bool false, .bool false, .int .i64 0, .int .i64 0]) rfl (by kernel_rfl) (by kernel_rfl) (by kernel_rfl) (fun _ _ _ h => h) (Or.inl ⟨by rfl, fun W => by simp only [execOp, List.map_toArray, List.map_cons, List.map_nil]; exact run_val (bd77 W _ _ _ _ _ _ _)⟩) ?_
  try simp only [Act.put, List.setIfInBounds_toArray, List.set_cons_zero, List.set_cons_succ]
  refine wpAny_ready (rs := [9]) (by kernel_rfl) (by simp) ?_
  refine AllReady.cons (o := { dst := some 40, op := Op.box 77 (Operand.tmp 39), type := 37, pos := "ref.go:33", after := #[{ on := 8, ground := Ground.data }], guard := none }) rfl (fun K hK => ?_) AllReady.nil
  refine opw_val (v := .pointer (some ⟨w4.heap.size, 0, none⟩)) (w' := w4.alloc (.cells (rvC (.slice p33 M cc) (.slice (some ⟨w1.heap.size, 0, none⟩) N N) (.slice (some ⟨w0.heap.size, 0, none⟩) N N) (low : Int) false false 0 0).toArray 77)) rfl (by simp only [execOp]; exact run_val (bx77 w4 _ _ _ _ _ _ _)) (hK _ _ ?_)
  clear hK K
  try simp only [Act.put, List.setIfInBounds_toArray, List.set_cons_zero, List.set_cons_succ]
  refine wpAny_take (oi := { dst := some 4, op := Op.assign (Operand.tmp 40), type := 37, pos := "ref.go:33", after := #[{ on := 9, ground := Ground.data }, { on := 2, ground := Ground.chain }, { on := 0, ground := Ground.phase }, { on := 1, ground := Ground.phase }, { on := 2, ground := Ground.phase }, { on := 3, ground := Ground.phase }, { on := 4, ground := Ground.phase }, { on := 5, ground := Ground.phase }, { on := 6, ground := Ground.phase }, { on := 7, ground := Ground.phase }, { on := 8, ground := Ground.phase }, { on := 9, ground := Ground.phase }], guard := none }) (i := 10) (v := .pointer (some ⟨w4.heap.size, 0, none⟩)) rfl (by kernel_rfl) (by kernel_rfl) (by kernel_rfl) (fun _ _ _ h => h) (Or.inl ⟨by rfl, fun W => by rfl⟩) ?_
  try simp only [Act.put, List.setIfInBounds_toArray, List.set_cons_zero, List.set_cons_succ]
  refine wpAny_take (oi := { dst := some 5, op := Op.assign (Operand.const (Value.int IntKind.i64 0)), type := 3, pos := "ref.go:33", after := #[{ on := 10, ground := Ground.chain }, { on := 0, ground := Ground.phase }, { on := 1, ground := Ground.phase }, { on := 2, ground := Ground.phase }, { on := 3, ground := Ground.phase }, { on := 4, ground := Ground.phase }, { on := 5, ground := Ground.phase }, { on := 6, ground := Ground.phase }, { on := 7, ground := Ground.phase }, { on := 8, ground := Ground.phase }, { on := 9, ground := Ground.phase }, { on := 10, ground := Ground.phase }], guard := none }) (i := 11) (v := .int .i64 0) rfl (by kernel_rfl) (by kernel_rfl) (by kernel_rfl) (fun _ _ _ h => h) (Or.inl ⟨by rfl, fun W => by rfl⟩) ?_
  try simp only [Act.put, List.setIfInBounds_toArray, List.set_cons_zero, List.set_cons_succ]
  refine wpAny_done (by kernel_rfl) ?_ _
  have FF := Lib.hid (fin w4 (.slice p33 M cc) (w1.heap.size) (w0.heap.size) B4.out H4.out b36_4.out b38_4.out B1.out.size B0.out.size)
  go_wp2_with fail
  go_ret2
  exact FF.out
end Go.Proofs.Ytohmdcbfffgheaa.Dk
