/-
  The contract of disk's Load, where it goes well. Conditions: each law's own.
-/
import Derived.Test.YtohmdcbfffgheaaXa
import Derived.RangeFuncBox
import Derived.Maps.OwnIn
import Derived.Great.BuildSlice
namespace Go.Proofs.Ytohmdcbfffgheaa.Dk
open Go.RowKit Go.Lib Go.Maps Go.Shelf
attribute [local go_sem] Oper.semAt_some

/-- the j-th sector of a row of bytes -/
def secN (l : List UInt8) (j : Nat) : List UInt8 := (l.drop (256 * j)).take 256
/-- a row of bytes as sectors -/
def secs (l : List UInt8) (n : Nat) : List (List UInt8) := (List.range n).map (secN l)
theorem secN_len {l : List UInt8} {n j : Nat} (hl : l.length = 256 * n) (hj : j < n) : (secN l j).length = 256 := by
  rw [secN, List.length_take, List.length_drop]; omega
theorem secs_len (l : List UInt8) (n : Nat) : (secs l n).length = n := by simp [secs]
set_option maxRecDepth 100000 in
theorem info66a : (Try.prog.info? 66).map (fun i => (i.zero, i.size, i.bytes)) = some (some (secV zeros), 256, 256) := by
  rw [zeroV]
  kernel_rfl
set_option maxRecDepth 100000 in
theorem zero_size : (secV zeros).cells.size = 256 := by
  rw [zeroV]
  rfl
theorem make_map59 (w : World) : (Instr.makeMap 59 none).run Try.prog w = .ok (.map (some w.heap.size)) (w.alloc (.map #[] 0)) := by
  simp [Instr.makeMap]
theorem opx_val {F : Fence} {n : Nat} {P : Program} {ops : Array Oper} {o : Oper} {a : Act} {w w' : World} {K : Act → World → Prop} {Q : Exit → Act → World → Prop} {v : Value} (hgd : o.guard = none) (hd : ∀ c, o.op ≠ .defer c) (hab : o.about P w a.eval = none)
    (hrun : (execOp a.eval o).run P w = .ok (.value v) w') (hK : K (a.put o.dst v) w') :
    if Region.wanted o (yielded ops a.tmps) = true then Oper.wpIn F n P o a w K Q else (∀ f, o.about P w a.eval = some f → F.fn f) ∧ K (a.put o.dst undef) w := by
  have hw : Region.wanted o (yielded ops a.tmps) = true := by simp [Region.wanted, hgd]
  rw [if_pos hw]
  refine ⟨fun f hf => (by rw [hab] at hf; cases hf), ?_⟩
  rw [Oper.semAt_plain F _ _ hd, hrun]
  exact hK
theorem opx_skip {F : Fence} {n : Nat} {P : Program} {ops : Array Oper} {o : Oper} {a : Act} {w w' : World} {K : Act → World → Prop} {Q : Exit → Act → World → Prop} (hgd : o.guard = none) (hd : ∀ c, o.op ≠ .defer c) (hab : o.about P w a.eval = none)
    (hrun : (execOp a.eval o).run P w = .ok .skip w') (hK : K (a.put o.dst undef) w') :
    if Region.wanted o (yielded ops a.tmps) = true then Oper.wpIn F n P o a w K Q else (∀ f, o.about P w a.eval = some f → F.fn f) ∧ K (a.put o.dst undef) w := by
  have hw : Region.wanted o (yielded ops a.tmps) = true := by simp [Region.wanted, hgd]
  rw [if_pos hw]
  refine ⟨fun f hf => (by rw [hab] at hf; cases hf), ?_⟩
  rw [Oper.semAt_plain F _ _ hd, hrun]
  exact hK
theorem run_val {P : Program} {s : Sem Value} {v : Value} {w w' : World} (h : s.run P w = .ok v w') : (do pure (.value (← s)) : Sem Next).run P w = .ok (.value v) w' := by simp [h]
theorem run_uni {P : Program} {s : Sem Unit} {w w' : World} (h : s.run P w = .ok () w') : (do s; pure .skip : Sem Next).run P w = .ok .skip w' := by simp [h]
theorem r58 {W : World} {bx : Nat} {v : Value} (h : W.cell? ⟨bx, 0, none⟩ = some v) : (Instr.loadAt 58 (.pointer (some ⟨bx, 0, none⟩))).run Try.prog W = .ok v W := by
  go_simp
theorem s58 {W : World} {bx : Nat} {v : Value} {a : Option Addr} {n c : Nat} (h : W.cell? ⟨bx, 0, none⟩ = some v) (hf : W.frozen? ⟨bx, 0, none⟩ = false) : (Instr.storeAt 58 (.pointer (some ⟨bx, 0, none⟩)) (.slice a n c)).run Try.prog W = .ok () (W.setCell ⟨bx, 0, none⟩ (.slice a n c)) := by
  go_simp
set_option maxRecDepth 100000 in
theorem b58 (W : World) (s : List UInt8) (hs : s.length = 256) : (Instr.buildSlice 58 1 #[(0, .agg (bs s).toArray)]).run Try.prog W = .ok (.slice (some ⟨W.heap.size, 0, none⟩) 1 1) (W.alloc (.cells (bs s).toArray 66)) := by
  obtain ⟨i66, j0, j1, j2, j3⟩ := info_parts info66a
  refine run_buildSlice W 58 66 1 _ _ i66 _ Try.underlying58 j0 j1 (by rw [j2]; omega) (by rw [j2]; omega) ?_
  rw [j2]
  have h := Great.fill_whole (s := 256) (by omega) [.agg (bs s).toArray] ((Array.range (1 * 256)).map ((secV zeros).cells[· % (secV zeros).cells.size]!)) (by
    intro v hv
    obtain rfl : v = .agg (bs s).toArray := by simpa using hv
    show (bs s).toArray.size = 256
    rw [List.size_toArray, bs_len, hs]) (by simp)
  have e : (([Value.agg (bs s).toArray].flatMap fun v => v.cells.toList).toArray) = (bs s).toArray := by simp [Value.cells]
  rw [e] at h
  exact h
/-- a row that is full: its block -/
theorem full_blk {W : World} {g N : Nat} {base : Nat} {xs : List Value} (h : W.ownsRow base 66 256 (.slice (some ⟨g, 0, none⟩) N N) N xs) : Blk W g xs 66 := by
  obtain ⟨h1, ⟨h2, _⟩ | ⟨g', cap, cur, e1, e2, e3, e4, e5, e6, e7⟩⟩ := h
  · cases h2
  · simp only [Value.slice.injEq, Option.some.injEq, Addr.mk.injEq, and_true, true_and] at e1
    obtain ⟨rfl, rfl⟩ := e1
    rw [List.take_of_length_le (by rw [Array.length_toList, e6]; exact Nat.le_refl _)] at e7
    unfold Blk
    rw [e3, ← e7]
theorem secs_up (l : List UInt8) (N : Nat) : (up N N).map (fun x => secN l x.1) = secs l N := by
  have h := congrArg (List.map (secN l)) (up_map N N (Nat.le_refl _))
  rw [List.map_map] at h
  exact h
theorem blk_put {W : World} {g D : Nat} {cs : List Value} {t : TypeId} (h : Blk W g cs t) (o : Obj) (hne : g ≠ D) : Blk (W.putObj D o) g cs t := (World.putObj_heap_other hne).trans h
set_option maxHeartbeats 1000000 in
set_option maxRecDepth 100000 in
theorem load_ok (b o c N M : Nat) (l : List UInt8) (low : Nat) (w : World) (h : Byt w (some ⟨b, o, none⟩) l) (hl : l.length = M) (hM : M = 256 * N) (h1 : 1 ≤ N) (h2 : N ≤ 4096) (h3 : low ≤ N) (hc : M ≤ c) (_hcc : c ≤ 9223372036854775807) :
    Calls Try.prog 15 #[.slice (some ⟨b, o, none⟩) M c, .int .i64 (low : Int)] w fun e w' => Below w.heap.size w w' ∧ ∃ g sa mb, e = .returned (.tuple #[.pointer (some ⟨g, 0, none⟩), .int .i64 0]) ∧ w.heap.size ≤ g ∧ w.heap.size ≤ sa ∧ w.heap.size ≤ mb ∧ DevS w' g sa mb (secs l N) low 0 (.map []) true (-1) 0 := by
  have e1 : ((M : Int) % 256 != 0) = false := by simp; omega
  have e2 : (((M : Int).tmod 256) != 0) = false := by rw [Int.tmod_eq_emod_of_nonneg (by omega)]; exact e1
  have e3 : (M : Int) / 256 = (N : Int) := by omega
  have e4 : (M : Int).tdiv 256 = (N : Int) := by rw [Int.tdiv_eq_ediv_of_nonneg (by omega)]; exact e3
  have q0 : (0 : Int) ≤ (N : Int) := by omega
  have q1 : (N : Int) ≤ 4096 := by omega
  have wq : wrap64 (N : Int) = (N : Int) := IntWalk.wrap64_in _ ⟨by omega, by omega⟩
  have t2 : decide ((N : Int) < 1) = false := by simp; omega
  have t3 : decide ((4096 : Int) < (N : Int)) = false := by simp; omega
  have t4 : decide ((low : Int) < 0) = false := by simp
  have t5 : decide ((N : Int) < (low : Int)) = false := by simp; omega
  obtain ⟨i66, j0, j1, j2, j3⟩ := info_parts info66a
  have HB := Lib.hid h
  have HL := Lib.hid hl
  have HM := Lib.hid hM
  have HC := Lib.hid (fun w => chunk_40 (w := w) (some ⟨b, o, none⟩) M c)
  clear h hl hM
  refine (callsIn_wide (n := 6)).1 ?_
  refine callsIn_of_wp_marks Try.func15 rfl trivial ?_ rfl
  simp only [Try.ntmps15, List.size_toArray, List.length_cons, List.length_nil, Nat.reduceAdd, Nat.reduceSub, Array.replicate_succ, Array.replicate_zero, List.push_toArray, List.append_toArray, List.nil_append, List.cons_append]
  gi_wp2_with (first
    | (gi_at_make; refine wpListIn_make_own w rfl _ _ 58 rfl w.heap.size 66 i66 (secV zeros) 256 Try.underlying58 j0 j1 j2 .i64 .i64 _ N rfl rfl rfl (by rw [j3]; omega) (by unfold maxLen; omega) (Nat.le_refl _) ?_; intro w2 how hg2; have HO2 := Lib.hid how; have HG2 := Lib.hid hg2; clear how hg2)
    | (refine ⟨trivial, ?_⟩; gi_at_call 40; refine (callsIn_wide.2 (HC.out _)).mono ?_; rintro e w' ⟨rfl, rfl⟩))
  have hzB := HG2.out.size
  have B1 : Below w.heap.size w w2 := (Below.refl w.heap.size w).grown HG2.out (Nat.le_refl _) (by simp)
  have hlt2 := (HO2.out.lt w.heap.size rfl).2
  obtain ⟨bx, hbx⟩ : ∃ bx, w2.heap.size = bx := ⟨_, rfl⟩
  have BX := Boxed.new w2 58 (.slice (some ⟨w.heap.size, 0, none⟩) 0 N)
  rw [hbx] at BX
  have sz1 : (w2.alloc (.cells #[.slice (some ⟨w.heap.size, 0, none⟩) 0 N] 58)).heap.size = bx + 1 := by rw [World.size_alloc, hbx]
  have CB1 := (Boxed.new (w2.alloc (.cells #[.slice (some ⟨w.heap.size, 0, none⟩) 0 N] 58)) 29 (.slice (some ⟨b, o, none⟩) M c))
  rw [sz1] at CB1
  have sz2 : ((w2.alloc (.cells #[.slice (some ⟨w.heap.size, 0, none⟩) 0 N] 58)).alloc (.cells #[.slice (some ⟨b, o, none⟩) M c] 29)).heap.size = bx + 1 + 1 := by rw [World.size_alloc, sz1]
  have CB2 := (Boxed.new ((w2.alloc (.cells #[.slice (some ⟨w.heap.size, 0, none⟩) 0 N] 58)).alloc (.cells #[.slice (some ⟨b, o, none⟩) M c] 29)) 3 (.int .i64 256))
  rw [sz2] at CB2
  have sz3 : (((w2.alloc (.cells #[.slice (some ⟨w.heap.size, 0, none⟩) 0 N] 58)).alloc (.cells #[.slice (some ⟨b, o, none⟩) M c] 29)).alloc (.cells #[.int .i64 256] 3)).heap.size = bx + 3 := by rw [World.size_alloc, sz2]
  have BX3 := (BX.alloc (.cells #[.slice (some ⟨b, o, none⟩) M c] 29)).alloc (.cells #[.int .i64 256] 3)
  have CB13 := CB1.alloc (.cells #[.int .i64 256] 3)
  have RW3 := ((HO2.out.alloc (.cells #[.slice (some ⟨w.heap.size, 0, none⟩) 0 N] 58)).alloc (.cells #[.slice (some ⟨b, o, none⟩) M c] 29)).alloc (.cells #[.int .i64 256] 3)
  have BL3 := ((B1.alloc B1.size (.cells #[.slice (some ⟨w.heap.size, 0, none⟩) 0 N] 58)).alloc (by rw [sz1]; omega) (.cells #[.slice (some ⟨b, o, none⟩) M c] 29)).alloc (by rw [sz2]; omega) (.cells #[.int .i64 256] 3)
  rw [hbx]
  generalize (((w2.alloc (.cells #[.slice (some ⟨w.heap.size, 0, none⟩) 0 N] 58)).alloc (.cells #[.slice (some ⟨b, o, none⟩) M c] 29)).alloc (.cells #[.int .i64 256] 3)) = WL at *
  clear BX CB1 sz1 sz2 HG2 HO2 B1
  refine wpIn_rangeFunc_ownF (n := 6) rfl (by omega) (gf := 48) (lb := #[.pointer (some ⟨bx + 1, 0, none⟩), .pointer (some ⟨bx + 1 + 1, 0, none⟩)]) rfl trivial (enters_of Try.func48 (by kernel_rfl) rfl)
    (chunk_stops 5 (by omega) (bx + 1) (bx + 1 + 1) b o c N M HM.out h2 hc WL (by omega) (by omega) CB13.cell CB2.cell) kb_t (kb_b (by omega) (by omega)) (Below.refl _ _) (fun _ => rfl)
    (fun (pre : List { j : Nat // j < N }) W => (∃ v, Boxed W bx 58 v ∧ W.ownsRow w.heap.size 66 256 v pre.length ((pre.map fun (x : { j : Nat // j < N }) => secN l x.1).flatMap bs) ∧ v = .slice (some ⟨w.heap.size, 0, none⟩) pre.length N) ∧ Below w.heap.size w W)
    (fun _ _ _ => False)
    (OwnFrom.and (Own.from (holdsRow_own w.heap.size bx 58 66 256 (fun (pre : List { j : Nat // j < N }) => pre.length) (fun pre => (pre.map fun (x : { j : Nat // j < N }) => secN l x.1).flatMap bs) (fun pre v => v = .slice (some ⟨w.heap.size, 0, none⟩) pre.length N)) _) (ownFrom_below (Nat.le_refl _) (by omega)))
    (fun _ _ _ _ _ hs _ _ => hs)
    ⟨⟨_, BX3, by simpa using RW3, rfl⟩, BL3⟩
    (fun (x : { j : Nat // j < N }) => { tmps := #[.slice (some ⟨b, o, none⟩) M c, .int .i64 (low : Int), undef, undef, .pointer none,
          .int .i64 0, .int .i64 N, .pointer (some ⟨bx, 0, none⟩),
          .slice (some ⟨b, o + 256 * x.1, none⟩) 256 256, .slice (some ⟨b, o, none⟩) M c, .int .i64 M, .int .i64 N,
          .slice (some ⟨b, o, none⟩) M c, .int .i64 M, .int .i64 ((M : Int) % 256),
          .bool false, .bool false, .int .i64 N, .bool false, .bool false,
          .bool false, .int .i64 N, .bool false, .bool false, .bool false,
          .int .i64 (low : Int), .bool false, .bool false, .bool false, .int .i64 (low : Int),
          .int .i64 N, .bool false, .bool false, .int .i64 N,
          .slice (some ⟨w.heap.size, 0, none⟩) 0 N, .slice (some ⟨b, o, none⟩) M c,
          .func (.func 48) #[] #[.pointer (some ⟨bx + 1, 0, none⟩), .pointer (some ⟨bx + 1 + 1, 0, none⟩)],
          .slice (some ⟨b, o + 256 * x.1, none⟩) 256 256, undef, undef, undef, undef, undef, undef, undef, undef, undef, undef, undef], defers := [] }) ?assign ?body ?done ?stop
  case assign =>
    intro l x W K hK
    gi_wp2
    exact hK
  case stop =>
    rintro D c pre W _ _ h _
    exact h.elim
  case body =>
    rintro l0 pre x W ⟨⟨v, hv, hrow, rfl⟩, hB⟩ hlt
    have hxN := x.2
    obtain ⟨s, hse⟩ : ∃ s, s = secN l x.1 := ⟨_, rfl⟩
    have hs : s.length = 256 := by rw [hse]; exact secN_len (HL.out.trans HM.out) hxN
    have hb0 : Hid (W.drew.cell? ⟨bx, 0, none⟩ = some (.slice (some ⟨w.heap.size, 0, none⟩) pre.length N)) := hv.cell
    have hvd : Boxed W.drew bx 58 (.slice (some ⟨w.heap.size, 0, none⟩) pre.length N) := hv
    have hb1 : Hid ((W.drew.alloc (.cells (bs s).toArray 66)).cell? ⟨bx, 0, none⟩ = some (.slice (some ⟨w.heap.size, 0, none⟩) pre.length N)) := (hvd.alloc _).cell
    have hat : Hid (∀ w, (Instr.arrayAt 66 (.slice (some ⟨b, o + 256 * x.1, none⟩) 256 256)).run Try.prog w = .ok (.pointer (some ⟨b, o + 256 * x.1, none⟩)) w) := fun w => by
      simp [Instr.arrayAt, run_underlying Try.underlying66]
    have hBl := HB.out.below hB
    have hrg : W.drew.rangeAt b (o + 256 * x.1) (bs s) := fun j y hj => by
      have hj2 : j < 256 := by have := (List.getElem?_eq_some_iff.1 hj).1; rw [bs_len, hs] at this; exact this
      obtain ⟨b', o', e, _, hcell⟩ := hBl (by intro h0; have := HL.out; have := HM.out; rw [h0] at *; simp at *; omega)
      injection e with e
      injection e with e1 e2
      subst e1
      subst e2
      have hin : 256 * x.1 + j < l.length := by have := HL.out; have := HM.out; omega
      have h1 := hcell (256 * x.1 + j) hin
      rw [← Nat.add_assoc] at h1
      refine h1.trans ?_
      rw [bs_get s j (by omega)] at hj
      injection hj with hj
      rw [← hj]
      have e9 : s[j]'(by omega) = l[256 * x.1 + j] := by
        have : s[j]? = l[256 * x.1 + j]? := by rw [hse, secN, List.getElem?_take_of_lt hj2, List.getElem?_drop]
        rw [List.getElem?_eq_getElem (by omega), List.getElem?_eq_getElem hin] at this
        injection this
      rw [e9]
    have HIL : (Try.prog.info? 66).map (·.size) = some (bs s).length := by rw [info66, bs_len, hs]
    have h41 : Hid ((Instr.loadAt 66 (.pointer (some ⟨b, o + 256 * x.1, none⟩))).run Try.prog W.drew = .ok (.agg (bs s).toArray) W.drew) := run_loadAt_mid W.drew b (o + 256 * x.1) 66 (bs s) _ hrg Try.underlying66 rfl HIL
    have h42 : Hid ((Instr.buildSlice 58 1 #[(0, .agg (bs s).toArray)]).run Try.prog W.drew = .ok (.slice (some ⟨W.drew.heap.size, 0, none⟩) 1 1) (W.drew.alloc (.cells (bs s).toArray 66))) := b58 W.drew s hs
    have hrowd : (W.drew.alloc (.cells (bs s).toArray 66)).ownsRow w.heap.size 66 256 (.slice (some ⟨w.heap.size, 0, none⟩) pre.length N) pre.length ((pre.map fun (x : { j : Nat // j < N }) => secN l x.1).flatMap bs) := World.ownsRow.alloc (w := W.drew) hrow _
    obtain ⟨w3, hrun5, hown3, hgrow3⟩ := run_append_fits (W.drew.alloc (.cells (bs s).toArray 66)) w.heap.size 58 58 66 i66 256 Try.underlying58 j0 j2 w.heap.size pre.length N _ hrowd ⟨W.drew.heap.size, 0, none⟩ 1 1 (bs s) (by rw [bs_len, hs])
      (fun j u hj => by rw [WideShapes.add_plain, Nat.zero_add, (Blk.new W.drew (bs s) 66 W.drew.heap.size rfl).cell]; exact hj) (bs_one s) (by omega)
    obtain ⟨hv1, hv2, hr2, hk2, hb2⟩ := Boxed.appended hvd (by decide) (show W.drew.ownsRow w.heap.size 66 256 (.slice (some ⟨w.heap.size, 0, none⟩) pre.length N) pre.length _ from hrow) (by have := hB.size; exact this) (by omega) hown3 hgrow3
    have hrun6 := s58 (a := some ⟨w.heap.size, 0, none⟩) (n := pre.length + 1) (c := N) hv1.cell hv1.frozen
    have hkb : KB (bx + 1) (bx + 1 + 1) W (w3.setCell ⟨bx, 0, none⟩ (.slice (some ⟨w.heap.size, 0, none⟩) (pre.length + 1) N)) := by
      have hone : ∀ q v, bx < q → W.cell? ⟨q, 0, none⟩ = some v → (w3.setCell ⟨bx, 0, none⟩ (.slice (some ⟨w.heap.size, 0, none⟩) (pre.length + 1) N)).cell? ⟨q, 0, none⟩ = some v := fun q v hq h1 => by
        obtain ⟨ob, ho, _⟩ := cells_of_cell h1
        have hql : q < W.heap.size := (Array.getElem?_eq_some_iff.1 ho).1
        refine (World.cell?_of_block (a := ⟨q, 0, none⟩) ?_).trans h1
        refine (Below.heap_setCell _ _ _ q (show q ≠ bx by omega)).trans ?_
        refine (hgrow3.block q (by simp; omega) (fun e => by injection e with e; omega)).trans ?_
        exact Below.heap_alloc W.drew _ q hql
      exact ⟨fun v h => hone _ v (by omega) h, fun v h => hone _ v (by omega) h⟩
    have fin : KeepsOthers W (w3.setCell ⟨bx, 0, none⟩ (.slice (some ⟨w.heap.size, 0, none⟩) (pre.length + 1) N)) ∧ KB (bx + 1) (bx + 1 + 1) W (w3.setCell ⟨bx, 0, none⟩ (.slice (some ⟨w.heap.size, 0, none⟩) (pre.length + 1) N)) ∧ (∃ v, Boxed (w3.setCell ⟨bx, 0, none⟩ (.slice (some ⟨w.heap.size, 0, none⟩) (pre.length + 1) N)) bx 58 v ∧ (w3.setCell ⟨bx, 0, none⟩ (.slice (some ⟨w.heap.size, 0, none⟩) (pre.length + 1) N)).ownsRow w.heap.size 66 256 v (pre ++ [x]).length (((pre ++ [x]).map fun (x : { j : Nat // j < N }) => secN l x.1).flatMap bs) ∧ v = .slice (some ⟨w.heap.size, 0, none⟩) (pre ++ [x]).length N) ∧ Below w.heap.size w (w3.setCell ⟨bx, 0, none⟩ (.slice (some ⟨w.heap.size, 0, none⟩) (pre.length + 1) N)) := by
      refine ⟨(KeepsOthers.drew W).trans hk2, hkb, ⟨_, hv2, ?_, by simp⟩, (hB.drew).trans hb2⟩
      rw [List.map_append, List.flatMap_append, List.length_append]
      simpa [hse] using hr2
    have hrun5b : (Builtin.append_ #[58, 58] 58 #[.slice (some ⟨w.heap.size, 0, none⟩) pre.length N, .slice (some ⟨W.heap.size, 0, none⟩) 1 1]).run Try.prog (W.drew.alloc (.cells (bs s).toArray 66)) = .ok (.slice (some ⟨w.heap.size, 0, none⟩) (pre.length + 1) N) w3 := hrun5
    clear hkb hv1 hv2 hr2 hk2 hb2 hown3 hgrow3 hrowd hrg hBl hv hvd hrow hB
    gi_wp2
    refine wpIn_region_any (by kernel_rfl) ?_
    change wpAnyIn _ _ _ _ _ _ _ _ _ W.drew
    refine wpAnyIn_ready (rs := [0, 1]) (by kernel_rfl) (by simp) ?_
    refine AllReadyIn.cons (o := { dst := some 38, op := Op.load 58 (Operand.tmp 7), type := 58, pos := "disk.go:50", after := #[], guard := none }) rfl (fun K hK => ?_) ?_
    · skip
      refine opx_val (v := .slice (some ⟨w.heap.size, 0, none⟩) pre.length N) (w' := W.drew) rfl (fun c h => by cases h) rfl (by simp only [execOp]; exact run_val (r58 hb0.out)) (hK _ _ ?_)
      clear hK K
      simp only [Act.put, List.setIfInBounds_toArray, List.set_cons_zero, List.set_cons_succ]
      refine wpAnyIn_ready (rs := [1]) (by kernel_rfl) (by simp) ?_
      refine AllReadyIn.cons (o := { dst := some 39, op := Op.move (Operand.tmp 8), type := 29, pos := "disk.go:50", after := #[], guard := none }) rfl (fun K hK => ?_) AllReadyIn.nil
      refine opx_val (v := .slice (some ⟨b, o + 256 * x.1, none⟩) 256 256) (w' := W.drew) rfl (fun c h => by cases h) rfl (by simp only [execOp]; rfl) (hK _ _ ?_)
      clear hK K
      simp only [Act.put, List.setIfInBounds_toArray, List.set_cons_zero, List.set_cons_succ]
      refine wpAnyIn_ready (rs := [2]) (by kernel_rfl) (by simp) ?_
      refine AllReadyIn.cons (o := { dst := some 40, op := Op.sliceToArrayPointer 66 (Operand.tmp 39), type := 0, pos := "disk.go:50", after := #[{ on := 1, ground := Ground.data }], guard := none }) rfl (fun K hK => ?_) AllReadyIn.nil
      refine opx_val (v := .pointer (some ⟨b, o + 256 * x.1, none⟩)) (w' := W.drew) rfl (fun c h => by cases h) rfl (by simp only [execOp]; exact run_val (hat.out W.drew)) (hK _ _ ?_)
      clear hK K
      simp only [Act.put, List.setIfInBounds_toArray, List.set_cons_zero, List.set_cons_succ]
      refine wpAnyIn_ready (rs := [3]) (by kernel_rfl) (by simp) ?_
      refine AllReadyIn.cons (o := { dst := some 41, op := Op.load 66 (Operand.tmp 40), type := 66, pos := "disk.go:50", after := #[{ on := 2, ground := Ground.data }], guard := none }) rfl (fun K hK => ?_) AllReadyIn.nil
      refine opx_val (v := .agg (bs s).toArray) (w' := W.drew) rfl (fun c h => by cases h) rfl (by simp only [execOp]; exact run_val h41.out) (hK _ _ ?_)
      clear hK K
      simp only [Act.put, List.setIfInBounds_toArray, List.set_cons_zero, List.set_cons_succ]
      refine wpAnyIn_ready (rs := [4]) (by kernel_rfl) (by simp) ?_
      refine AllReadyIn.cons (o := { dst := some 42, op := Op.buildSlice 58 1 #[(0, Operand.tmp 41)], type := 58, pos := "disk.go:50", after := #[{ on := 3, ground := Ground.data }], guard := none }) rfl (fun K hK => ?_) AllReadyIn.nil
      refine opx_val (v := .slice (some ⟨W.drew.heap.size, 0, none⟩) 1 1) (w' := W.drew.alloc (.cells (bs s).toArray 66)) rfl (fun c h => by cases h) rfl (by simp only [execOp, List.map_toArray, List.map_cons, List.map_nil]; exact run_val h42.out) (hK _ _ ?_)
      clear hK K
      simp only [Act.put, List.setIfInBounds_toArray, List.set_cons_zero, List.set_cons_succ]
      refine wpAnyIn_ready (rs := [5]) (by kernel_rfl) (by simp) ?_
      refine AllReadyIn.cons (o := { dst := some 43, op := Op.call { callee := Callee.builtin Builtin.append, args := #[Operand.tmp 38, Operand.tmp 42], argTypes := #[58, 58] }, type := 58, pos := "disk.go:50", after := #[{ on := 0, ground := Ground.data }, { on := 4, ground := Ground.data }], guard := none }) rfl (fun K hK => ?_) AllReadyIn.nil
      refine opx_val (v := .slice (some ⟨w.heap.size, 0, none⟩) (pre.length + 1) N) (w' := w3) rfl (fun c h => by cases h) (by simp [Oper.about, resolve, Target.leads, Sem.run_pure]) (by simp [execOp, resolve, invoke, builtin, Act.eval, hrun5b, Result.andThen]) (hK _ _ ?_)
      clear hK K
      simp only [Act.put, List.setIfInBounds_toArray, List.set_cons_zero, List.set_cons_succ]
      refine wpAnyIn_ready (rs := [6]) (by kernel_rfl) (by simp) ?_
      refine AllReadyIn.cons (o := { dst := none, op := Op.store 58 (Operand.tmp 7) (Operand.tmp 43), type := 0, pos := "disk.go:50", after := #[{ on := 5, ground := Ground.data }, { on := 5, ground := Ground.chain }, { on := 0, ground := Ground.phase }, { on := 1, ground := Ground.phase }, { on := 2, ground := Ground.phase }, { on := 3, ground := Ground.phase }, { on := 4, ground := Ground.phase }, { on := 5, ground := Ground.phase }], guard := none }) rfl (fun K hK => ?_) AllReadyIn.nil
      refine opx_skip (w' := w3.setCell ⟨bx, 0, none⟩ (.slice (some ⟨w.heap.size, 0, none⟩) (pre.length + 1) N)) rfl (fun c h => by cases h) rfl (by simp only [execOp]; exact run_uni hrun6) (hK _ _ ?_)
      clear hK K
      refine wpAnyIn_done (by kernel_rfl) ?_ _
      exact fin
    refine AllReadyIn.cons (o := { dst := some 39, op := Op.move (Operand.tmp 8), type := 29, pos := "disk.go:50", after := #[], guard := none }) rfl (fun K hK => ?_) AllReadyIn.nil
    refine opx_val (v := .slice (some ⟨b, o + 256 * x.1, none⟩) 256 256) (w' := W.drew) rfl (fun c h => by cases h) rfl (by simp only [execOp]; rfl) (hK _ _ ?_)
    clear hK K
    simp only [Act.put, List.setIfInBounds_toArray, List.set_cons_zero, List.set_cons_succ]
    refine wpAnyIn_ready (rs := [0, 2]) (by kernel_rfl) (by simp) ?_
    refine AllReadyIn.cons (o := { dst := some 38, op := Op.load 58 (Operand.tmp 7), type := 58, pos := "disk.go:50", after := #[], guard := none }) rfl (fun K hK => ?_) ?_
    · skip
      refine opx_val (v := .slice (some ⟨w.heap.size, 0, none⟩) pre.length N) (w' := W.drew) rfl (fun c h => by cases h) rfl (by simp only [execOp]; exact run_val (r58 hb0.out)) (hK _ _ ?_)
      clear hK K
      simp only [Act.put, List.setIfInBounds_toArray, List.set_cons_zero, List.set_cons_succ]
      refine wpAnyIn_ready (rs := [2]) (by kernel_rfl) (by simp) ?_
      refine AllReadyIn.cons (o := { dst := some 40, op := Op.sliceToArrayPointer 66 (Operand.tmp 39), type := 0, pos := "disk.go:50", after := #[{ on := 1, ground := Ground.data }], guard := none }) rfl (fun K hK => ?_) AllReadyIn.nil
      refine opx_val (v := .pointer (some ⟨b, o + 256 * x.1, none⟩)) (w' := W.drew) rfl (fun c h => by cases h) rfl (by simp only [execOp]; exact run_val (hat.out W.drew)) (hK _ _ ?_)
      clear hK K
      simp only [Act.put, List.setIfInBounds_toArray, List.set_cons_zero, List.set_cons_succ]
      refine wpAnyIn_ready (rs := [3]) (by kernel_rfl) (by simp) ?_
      refine AllReadyIn.cons (o := { dst := some 41, op := Op.load 66 (Operand.tmp 40), type := 66, pos := "disk.go:50", after := #[{ on := 2, ground := Ground.data }], guard := none }) rfl (fun K hK => ?_) AllReadyIn.nil
      refine opx_val (v := .agg (bs s).toArray) (w' := W.drew) rfl (fun c h => by cases h) rfl (by simp only [execOp]; exact run_val h41.out) (hK _ _ ?_)
      clear hK K
      simp only [Act.put, List.setIfInBounds_toArray, List.set_cons_zero, List.set_cons_succ]
      refine wpAnyIn_ready (rs := [4]) (by kernel_rfl) (by simp) ?_
      refine AllReadyIn.cons (o := { dst := some 42, op := Op.buildSlice 58 1 #[(0, Operand.tmp 41)], type := 58, pos := "disk.go:50", after := #[{ on := 3, ground := Ground.data }], guard := none }) rfl (fun K hK => ?_) AllReadyIn.nil
      refine opx_val (v := .slice (some ⟨W.drew.heap.size, 0, none⟩) 1 1) (w' := W.drew.alloc (.cells (bs s).toArray 66)) rfl (fun c h => by cases h) rfl (by simp only [execOp, List.map_toArray, List.map_cons, List.map_nil]; exact run_val h42.out) (hK _ _ ?_)
      clear hK K
      simp only [Act.put, List.setIfInBounds_toArray, List.set_cons_zero, List.set_cons_succ]
      refine wpAnyIn_ready (rs := [5]) (by kernel_rfl) (by simp) ?_
      refine AllReadyIn.cons (o := { dst := some 43, op := Op.call { callee := Callee.builtin Builtin.append, args := #[Operand.tmp 38, Operand.tmp 42], argTypes := #[58, 58] }, type := 58, pos := "disk.go:50", after := #[{ on := 0, ground := Ground.data }, { on := 4, ground := Ground.data }], guard := none }) rfl (fun K hK => ?_) AllReadyIn.nil
      refine opx_val (v := .slice (some ⟨w.heap.size, 0, none⟩) (pre.length + 1) N) (w' := w3) rfl (fun c h => by cases h) (by simp [Oper.about, resolve, Target.leads, Sem.run_pure]) (by simp [execOp, resolve, invoke, builtin, Act.eval, hrun5b, Result.andThen]) (hK _ _ ?_)
      clear hK K
      simp only [Act.put, List.setIfInBounds_toArray, List.set_cons_zero, List.set_cons_succ]
      refine wpAnyIn_ready (rs := [6]) (by kernel_rfl) (by simp) ?_
      refine AllReadyIn.cons (o := { dst := none, op := Op.store 58 (Operand.tmp 7) (Operand.tmp 43), type := 0, pos := "disk.go:50", after := #[{ on := 5, ground := Ground.data }, { on := 5, ground := Ground.chain }, { on := 0, ground := Ground.phase }, { on := 1, ground := Ground.phase }, { on := 2, ground := Ground.phase }, { on := 3, ground := Ground.phase }, { on := 4, ground := Ground.phase }, { on := 5, ground := Ground.phase }], guard := none }) rfl (fun K hK => ?_) AllReadyIn.nil
      refine opx_skip (w' := w3.setCell ⟨bx, 0, none⟩ (.slice (some ⟨w.heap.size, 0, none⟩) (pre.length + 1) N)) rfl (fun c h => by cases h) rfl (by simp only [execOp]; exact run_uni hrun6) (hK _ _ ?_)
      clear hK K
      refine wpAnyIn_done (by kernel_rfl) ?_ _
      exact fin
    refine AllReadyIn.cons (o := { dst := some 40, op := Op.sliceToArrayPointer 66 (Operand.tmp 39), type := 0, pos := "disk.go:50", after := #[{ on := 1, ground := Ground.data }], guard := none }) rfl (fun K hK => ?_) AllReadyIn.nil
    refine opx_val (v := .pointer (some ⟨b, o + 256 * x.1, none⟩)) (w' := W.drew) rfl (fun c h => by cases h) rfl (by simp only [execOp]; exact run_val (hat.out W.drew)) (hK _ _ ?_)
    clear hK K
    simp only [Act.put, List.setIfInBounds_toArray, List.set_cons_zero, List.set_cons_succ]
    refine wpAnyIn_ready (rs := [0, 3]) (by kernel_rfl) (by simp) ?_
    refine AllReadyIn.cons (o := { dst := some 38, op := Op.load 58 (Operand.tmp 7), type := 58, pos := "disk.go:50", after := #[], guard := none }) rfl (fun K hK => ?_) ?_
    · skip
      refine opx_val (v := .slice (some ⟨w.heap.size, 0, none⟩) pre.length N) (w' := W.drew) rfl (fun c h => by cases h) rfl (by simp only [execOp]; exact run_val (r58 hb0.out)) (hK _ _ ?_)
      clear hK K
      simp only [Act.put, List.setIfInBounds_toArray, List.set_cons_zero, List.set_cons_succ]
      refine wpAnyIn_ready (rs := [3]) (by kernel_rfl) (by simp) ?_
      refine AllReadyIn.cons (o := { dst := some 41, op := Op.load 66 (Operand.tmp 40), type := 66, pos := "disk.go:50", after := #[{ on := 2, ground := Ground.data }], guard := none }) rfl (fun K hK => ?_) AllReadyIn.nil
      refine opx_val (v := .agg (bs s).toArray) (w' := W.drew) rfl (fun c h => by cases h) rfl (by simp only [execOp]; exact run_val h41.out) (hK _ _ ?_)
      clear hK K
      simp only [Act.put, List.setIfInBounds_toArray, List.set_cons_zero, List.set_cons_succ]
      refine wpAnyIn_ready (rs := [4]) (by kernel_rfl) (by simp) ?_
      refine AllReadyIn.cons (o := { dst := some 42, op := Op.buildSlice 58 1 #[(0, Operand.tmp 41)], type := 58, pos := "disk.go:50", after := #[{ on := 3, ground := Ground.data }], guard := none }) rfl (fun K hK => ?_) AllReadyIn.nil
      refine opx_val (v := .slice (some ⟨W.drew.heap.size, 0, none⟩) 1 1) (w' := W.drew.alloc (.cells (bs s).toArray 66)) rfl (fun c h => by cases h) rfl (by simp only [execOp, List.map_toArray, List.map_cons, List.map_nil]; exact run_val h42.out) (hK _ _ ?_)
      clear hK K
      simp only [Act.put, List.setIfInBounds_toArray, List.set_cons_zero, List.set_cons_succ]
      refine wpAnyIn_ready (rs := [5]) (by kernel_rfl) (by simp) ?_
      refine AllReadyIn.cons (o := { dst := some 43, op := Op.call { callee := Callee.builtin Builtin.append, args := #[Operand.tmp 38, Operand.tmp 42], argTypes := #[58, 58] }, type := 58, pos := "disk.go:50", after := #[{ on := 0, ground := Ground.data }, { on := 4, ground := Ground.data }], guard := none }) rfl (fun K hK => ?_) AllReadyIn.nil
      refine opx_val (v := .slice (some ⟨w.heap.size, 0, none⟩) (pre.length + 1) N) (w' := w3) rfl (fun c h => by cases h) (by simp [Oper.about, resolve, Target.leads, Sem.run_pure]) (by simp [execOp, resolve, invoke, builtin, Act.eval, hrun5b, Result.andThen]) (hK _ _ ?_)
      clear hK K
      simp only [Act.put, List.setIfInBounds_toArray, List.set_cons_zero, List.set_cons_succ]
      refine wpAnyIn_ready (rs := [6]) (by kernel_rfl) (by simp) ?_
      refine AllReadyIn.cons (o := { dst := none, op := Op.store 58 (Operand.tmp 7) (Operand.tmp 43), type := 0, pos := "disk.go:50", after := #[{ on := 5, ground := Ground.data }, { on := 5, ground := Ground.chain }, { on := 0, ground := Ground.phase }, { on := 1, ground := Ground.phase }, { on := 2, ground := Ground.phase }, { on := 3, ground := Ground.phase }, { on := 4, ground := Ground.phase }, { on := 5, ground := Ground.phase }], guard := none }) rfl (fun K hK => ?_) AllReadyIn.nil
      refine opx_skip (w' := w3.setCell ⟨bx, 0, none⟩ (.slice (some ⟨w.heap.size, 0, none⟩) (pre.length + 1) N)) rfl (fun c h => by cases h) rfl (by simp only [execOp]; exact run_uni hrun6) (hK _ _ ?_)
      clear hK K
      refine wpAnyIn_done (by kernel_rfl) ?_ _
      exact fin
    refine AllReadyIn.cons (o := { dst := some 41, op := Op.load 66 (Operand.tmp 40), type := 66, pos := "disk.go:50", after := #[{ on := 2, ground := Ground.data }], guard := none }) rfl (fun K hK => ?_) AllReadyIn.nil
    refine opx_val (v := .agg (bs s).toArray) (w' := W.drew) rfl (fun c h => by cases h) rfl (by simp only [execOp]; exact run_val h41.out) (hK _ _ ?_)
    clear hK K
    simp only [Act.put, List.setIfInBounds_toArray, List.set_cons_zero, List.set_cons_succ]
    refine wpAnyIn_ready (rs := [0, 4]) (by kernel_rfl) (by simp) ?_
    refine AllReadyIn.cons (o := { dst := some 38, op := Op.load 58 (Operand.tmp 7), type := 58, pos := "disk.go:50", after := #[], guard := none }) rfl (fun K hK => ?_) ?_
    · skip
      refine opx_val (v := .slice (some ⟨w.heap.size, 0, none⟩) pre.length N) (w' := W.drew) rfl (fun c h => by cases h) rfl (by simp only [execOp]; exact run_val (r58 hb0.out)) (hK _ _ ?_)
      clear hK K
      simp only [Act.put, List.setIfInBounds_toArray, List.set_cons_zero, List.set_cons_succ]
      refine wpAnyIn_ready (rs := [4]) (by kernel_rfl) (by simp) ?_
      refine AllReadyIn.cons (o := { dst := some 42, op := Op.buildSlice 58 1 #[(0, Operand.tmp 41)], type := 58, pos := "disk.go:50", after := #[{ on := 3, ground := Ground.data }], guard := none }) rfl (fun K hK => ?_) AllReadyIn.nil
      refine opx_val (v := .slice (some ⟨W.drew.heap.size, 0, none⟩) 1 1) (w' := W.drew.alloc (.cells (bs s).toArray 66)) rfl (fun c h => by cases h) rfl (by simp only [execOp, List.map_toArray, List.map_cons, List.map_nil]; exact run_val h42.out) (hK _ _ ?_)
      clear hK K
      simp only [Act.put, List.setIfInBounds_toArray, List.set_cons_zero, List.set_cons_succ]
      refine wpAnyIn_ready (rs := [5]) (by kernel_rfl) (by simp) ?_
      refine AllReadyIn.cons (o := { dst := some 43, op := Op.call { callee := Callee.builtin Builtin.append, args := #[Operand.tmp 38, Operand.tmp 42], argTypes := #[58, 58] }, type := 58, pos := "disk.go:50", after := #[{ on := 0, ground := Ground.data }, { on := 4, ground := Ground.data }], guard := none }) rfl (fun K hK => ?_) AllReadyIn.nil
      refine opx_val (v := .slice (some ⟨w.heap.size, 0, none⟩) (pre.length + 1) N) (w' := w3) rfl (fun c h => by cases h) (by simp [Oper.about, resolve, Target.leads, Sem.run_pure]) (by simp [execOp, resolve, invoke, builtin, Act.eval, hrun5b, Result.andThen]) (hK _ _ ?_)
      clear hK K
      simp only [Act.put, List.setIfInBounds_toArray, List.set_cons_zero, List.set_cons_succ]
      refine wpAnyIn_ready (rs := [6]) (by kernel_rfl) (by simp) ?_
      refine AllReadyIn.cons (o := { dst := none, op := Op.store 58 (Operand.tmp 7) (Operand.tmp 43), type := 0, pos := "disk.go:50", after := #[{ on := 5, ground := Ground.data }, { on := 5, ground := Ground.chain }, { on := 0, ground := Ground.phase }, { on := 1, ground := Ground.phase }, { on := 2, ground := Ground.phase }, { on := 3, ground := Ground.phase }, { on := 4, ground := Ground.phase }, { on := 5, ground := Ground.phase }], guard := none }) rfl (fun K hK => ?_) AllReadyIn.nil
      refine opx_skip (w' := w3.setCell ⟨bx, 0, none⟩ (.slice (some ⟨w.heap.size, 0, none⟩) (pre.length + 1) N)) rfl (fun c h => by cases h) rfl (by simp only [execOp]; exact run_uni hrun6) (hK _ _ ?_)
      clear hK K
      refine wpAnyIn_done (by kernel_rfl) ?_ _
      exact fin
    refine AllReadyIn.cons (o := { dst := some 42, op := Op.buildSlice 58 1 #[(0, Operand.tmp 41)], type := 58, pos := "disk.go:50", after := #[{ on := 3, ground := Ground.data }], guard := none }) rfl (fun K hK => ?_) AllReadyIn.nil
    refine opx_val (v := .slice (some ⟨W.drew.heap.size, 0, none⟩) 1 1) (w' := W.drew.alloc (.cells (bs s).toArray 66)) rfl (fun c h => by cases h) rfl (by simp only [execOp, List.map_toArray, List.map_cons, List.map_nil]; exact run_val h42.out) (hK _ _ ?_)
    clear hK K
    simp only [Act.put, List.setIfInBounds_toArray, List.set_cons_zero, List.set_cons_succ]
    refine wpAnyIn_ready (rs := [0]) (by kernel_rfl) (by simp) ?_
    refine AllReadyIn.cons (o := { dst := some 38, op := Op.load 58 (Operand.tmp 7), type := 58, pos := "disk.go:50", after := #[], guard := none }) rfl (fun K hK => ?_) AllReadyIn.nil
    refine opx_val (v := .slice (some ⟨w.heap.size, 0, none⟩) pre.length N) (w' := (W.drew.alloc (.cells (bs s).toArray 66))) rfl (fun c h => by cases h) rfl (by simp only [execOp]; exact run_val (r58 hb1.out)) (hK _ _ ?_)
    clear hK K
    simp only [Act.put, List.setIfInBounds_toArray, List.set_cons_zero, List.set_cons_succ]
    refine wpAnyIn_ready (rs := [5]) (by kernel_rfl) (by simp) ?_
    refine AllReadyIn.cons (o := { dst := some 43, op := Op.call { callee := Callee.builtin Builtin.append, args := #[Operand.tmp 38, Operand.tmp 42], argTypes := #[58, 58] }, type := 58, pos := "disk.go:50", after := #[{ on := 0, ground := Ground.data }, { on := 4, ground := Ground.data }], guard := none }) rfl (fun K hK => ?_) AllReadyIn.nil
    refine opx_val (v := .slice (some ⟨w.heap.size, 0, none⟩) (pre.length + 1) N) (w' := w3) rfl (fun c h => by cases h) (by simp [Oper.about, resolve, Target.leads, Sem.run_pure]) (by simp [execOp, resolve, invoke, builtin, Act.eval, hrun5b, Result.andThen]) (hK _ _ ?_)
    clear hK K
    simp only [Act.put, List.setIfInBounds_toArray, List.set_cons_zero, List.set_cons_succ]
    refine wpAnyIn_ready (rs := [6]) (by kernel_rfl) (by simp) ?_
    refine AllReadyIn.cons (o := { dst := none, op := Op.store 58 (Operand.tmp 7) (Operand.tmp 43), type := 0, pos := "disk.go:50", after := #[{ on := 5, ground := Ground.data }, { on := 5, ground := Ground.chain }, { on := 0, ground := Ground.phase }, { on := 1, ground := Ground.phase }, { on := 2, ground := Ground.phase }, { on := 3, ground := Ground.phase }, { on := 4, ground := Ground.phase }, { on := 5, ground := Ground.phase }], guard := none }) rfl (fun K hK => ?_) AllReadyIn.nil
    refine opx_skip (w' := w3.setCell ⟨bx, 0, none⟩ (.slice (some ⟨w.heap.size, 0, none⟩) (pre.length + 1) N)) rfl (fun c h => by cases h) rfl (by simp only [execOp]; exact run_uni hrun6) (hK _ _ ?_)
    clear hK K
    refine wpAnyIn_done (by kernel_rfl) ?_ _
    exact fin
  case done =>
    rintro D ys W hD rfl ⟨⟨v, hv, hrow, rfl⟩, hB⟩ hK
    have hc := hv.cell
    have hmm := make_map59
    have hzW : D < W.heap.size := (Array.getElem?_eq_some_iff.1 hK).1
    rw [up_len N N (Nat.le_refl _), secs_up] at hrow
    rw [up_len N N (Nat.le_refl _)] at hc hv
    have HROW := Lib.hid hrow
    have HBB := Lib.hid hB
    have HKK := Lib.hid hK
    have HHL := Lib.hid HL.out
    clear hrow hB hK hv
    gi_wp2
    have hK2 : ((W.alloc (.map #[] 0)).alloc (.cells (dvC (some ⟨w.heap.size, 0, none⟩) N N low (some W.heap.size) true (-1) 0).toArray 61)).heap[D]? = some (.deferred (some [])) := (Below.heap_alloc _ _ D (by simp; omega)).trans ((Below.heap_alloc _ _ D hzW).trans HKK.out)
    refine ⟨by simp, .inl ⟨_, _, rfl, run_takeDeferred hK2, ?_⟩⟩
    have hsz := HBB.out.size
    have hs2 := HROW.out.lt w.heap.size rfl
    refine ⟨_, results_tmp2 rfl _ _ _, ?_, W.heap.size + 1, w.heap.size, W.heap.size, rfl, by omega, by omega, by omega, ?_, ?_, ?_, ?_⟩
    · exact ((HBB.out.alloc hsz _).alloc (by simp; omega) _).grown (grownBy_putObj' _ D _) (by simp; omega) (fun k e => by cases e; omega)
    · rw [secs_len]
      refine blk_put ?_ _ (by omega)
      exact Blk.new (W.alloc (.map #[] 0)) _ 61 _ (by simp)
    · exact blk_put (((full_blk HROW.out).alloc _).alloc _) _ (by omega)
    · intro s hs
      obtain ⟨j, hj, rfl⟩ := List.mem_map.1 hs
      exact secN_len (HHL.out.trans HM.out) (List.mem_range.1 hj)
    · exact ((World.ownsMap_made W Try.prog 3 secR).alloc _).kept (grownBy_putObj' _ D _) (fun e => by injection e with e; omega)
end Go.Proofs.Ytohmdcbfffgheaa.Dk
