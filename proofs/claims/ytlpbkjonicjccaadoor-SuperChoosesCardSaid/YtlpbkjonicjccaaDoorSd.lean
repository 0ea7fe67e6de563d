/-
  The contract of super's written: the sector of a superblock that may be. Conditions: each law's own.
-/
import Derived.Test.YtlpbkjonicjccaaDoorSc
import Derived.Test.YtlpbkjonicjccaaDoorCd
import Derived.Test.YtlpbkjonicjccaaDoorWf
import Derived.Deep.RegionLaw
import Derived.Deep.DeepCutAuto
import Derived.Laws.CopyOwn
import Derived.Laws.Tables
import Derived.RangeFuncOwn
namespace Go.Proofs.YtlpbkjonicjccaaDoor.Sh
open Go.RowKit Go.Lib

theorem info51 : (Tryd.prog.info? 51).map (·.size) = some 256 := by kernel_rfl
/-- the noughts of a new sector -/
def nou : List Value := bs (List.replicate 256 0)
theorem nou_len : nou.length = 256 := by rw [nou, bs_len, List.length_replicate]
theorem zv51 (W : World) : (zeroValue 51).run Tryd.prog W = .ok (.agg nou.toArray) W := by kernel_rfl
abbrev P4 : List Value := [.int .u8 80, .int .u8 76, .int .u8 77, .int .u8 80]
set_option maxRecDepth 100000 in
theorem slice51 (g : Nat) (W : World) : (Instr.sliceAt 51 (.pointer (some ⟨g, 0, none⟩)) none none none).run Tryd.prog W = .ok (.slice (some ⟨g, 0, none⟩) 256 256) W := by
  have e3 : Tryd.prog.elem 51 = 5 := by kernel_rfl
  have e4 : Tryd.prog.arrayLen 51 = 256 := by kernel_rfl
  have hs := run_sliceAt_array_all (P := Tryd.prog) W 51 ⟨g, 0, none⟩ (by rw [Tryd.underlying51]; rfl)
  rw [hs, e3, e4]
  simp [Tryd.sizeOf5, slicedAt, Result.andThen, add_zero]
theorem below_alloc' {B : Nat} {w W : World} (h : Below B w W) (hb : B ≤ w.heap.size) (o : Obj) : Below B w (W.alloc o) := h.alloc (Nat.le_trans hb h.size) o
/-- the four rows that stand ahead of the sum -/
theorem rws4 (W : World) (k a1 a2 a4 : Nat) (ao : Option Addr) (l1 l2 l3 l4 : List UInt8) (c : Nat) (n1 n2 n3 n4 : Nat) (e1 : l1.length = n1) (e2 : l2.length = n2) (e3 : l3.length = n3) (e4 : l4.length = n4)
    (h : Blk W k [.slice (some ⟨a1, 0, none⟩) n1 n1, .slice (some ⟨a2, 0, none⟩) n2 n2, .slice ao n3 c, .slice (some ⟨a4, 0, none⟩) n4 n4] 26)
    (h1 : Byt W (some ⟨a1, 0, none⟩) l1) (h2 : Byt W (some ⟨a2, 0, none⟩) l2) (h3 : Byt W ao l3) (hn : ao = none → c = 0) (h4 : Byt W (some ⟨a4, 0, none⟩) l4) : Rws W k [l1, l2, l3, l4] := by
  subst e1 e2 e3 e4
  intro j hj
  rcases (show j = 0 ∨ j = 1 ∨ j = 2 ∨ j = 3 by simp at hj; omega) with rfl | rfl | rfl | rfl
  · exact ⟨some ⟨a1, 0, none⟩, _, by rw [h.cell]; rfl, h1, fun h => by cases h⟩
  · exact ⟨some ⟨a2, 0, none⟩, _, by rw [h.cell]; rfl, h2, fun h => by cases h⟩
  · exact ⟨ao, c, by rw [h.cell]; rfl, h3, hn⟩
  · exact ⟨some ⟨a4, 0, none⟩, _, by rw [h.cell]; rfl, h4, fun h => by cases h⟩
/-- the block of the mark, as it is laid or with the run-time's sign behind it -/
def Bm (W : World) (g : Nat) : Prop := ∃ f, W.heap[g]? = some (.cells P4.toArray 5 f)
theorem Bm.low {W W' : World} {g : Nat} (h : Bm W g) (hb : Below W.heap.size W W') : Bm W' g := by
  obtain ⟨f, hf⟩ := h
  exact ⟨f, (hb.block g (Array.getElem?_eq_some_iff.1 hf).1).trans hf⟩
theorem Bm.alloc {W : World} {g : Nat} (h : Bm W g) (o : Obj) : Bm (W.alloc o) g := h.low ((Below.refl _ W).alloc (Nat.le_refl _) o)
theorem Bm.byt {W : World} {g : Nat} (h : Bm W g) : Byt W (some ⟨g, 0, none⟩) [80, 76, 77, 80] := fun _ => by
  obtain ⟨f, hf⟩ := h
  refine ⟨g, 0, rfl, (Array.getElem?_eq_some_iff.1 hf).1, fun j hj => ?_⟩
  refine (cell_of_row _ g _ _ _ _ hf).trans ?_
  rw [Nat.zero_add]
  rcases (show j = 0 ∨ j = 1 ∨ j = 2 ∨ j = 3 by simp at hj; omega) with rfl | rfl | rfl | rfl <;> rfl
theorem Bm.lay (W : World) : Bm (W.alloc (.cells #[.int .u8 80, .int .u8 76, .int .u8 77, .int .u8 80] 5)) W.heap.size := ⟨_, heap_alloc_new W _⟩
theorem Bm.layd (W : World) : Bm ((W.alloc (.cells #[.int .u8 80, .int .u8 76, .int .u8 77, .int .u8 80] 5)).drew) W.heap.size := ⟨_, heap_alloc_new W _⟩
/-- the sign laid -/
def mk (W : World) (g : Nat) : World := W.putObj g (.cells P4.toArray 5 (4, 5))
theorem mk_size (W : World) (g : Nat) : (mk W g).heap.size = W.heap.size := by simp [mk, World.putObj]
theorem mk_below {B : Nat} {w W : World} {g : Nat} (h : Below B w W) (hg : B ≤ g) (hb : B ≤ w.heap.size) : Below B w (mk W g) := h.grown (grownBy_putObj' W g _) (Nat.le_trans hb h.size) (fun k e => by cases e; exact hg)
theorem Bm.mk {W : World} {g : Nat} (h : Bm W g) : Bm (mk W g) g := by
  obtain ⟨f, hf⟩ := h
  exact ⟨_, World.putObj_heap_same (Array.getElem?_eq_some_iff.1 hf).1⟩
theorem blk_mk {W : World} {g g2 : Nat} {cs : List Value} {t : TypeId} (h : Blk W g2 cs t) (hne : g2 ≠ g) : Blk (mk W g) g2 cs t := (World.putObj_heap_other hne).trans h
theorem conv_blk (W : World) (g : Nat) (h : W.heap[g]? = some (.cells P4.toArray 5 (0, 0))) :
    (convert 26 26 (.slice (some ⟨g, 0, none⟩) 4 4)).run Tryd.prog W = .ok (.slice (some ⟨g, 0, none⟩) 4 4) (mk W g) := by
  have hsh : W.shape? g = some (5, 4) := by
    unfold World.shape?
    rw [h]
    rfl
  have hfr : W.freeze ⟨g, 4, none⟩ 1 = mk W g := by
    have hlt := (Array.getElem?_eq_some_iff.1 h).1
    have heq := (Array.getElem?_eq_some_iff.1 h).2
    unfold World.freeze
    rw [if_neg (by decide)]
    unfold mk World.putObj
    congr 1
    apply Array.ext_getElem?
    intro i
    rw [Array.getElem?_modify, Array.getElem?_setIfInBounds]
    by_cases hi : g = i
    · subst hi
      simp only [if_true, hlt, h, Option.map_some]
      rfl
    · simp only [hi, if_false]
  simp [convert, run_underlying Tryd.underlying26, run_underlying Tryd.underlying5, markStringish, hsh]
  exact hfr
theorem bm_ne {W : World} {g g2 x : Nat} (h : Bm W g) (k : Blk W g2 (bs (le8 x)) 5) : g2 ≠ g := by
  rintro rfl
  obtain ⟨f, hf⟩ := h
  have e := hf.symm.trans k
  injection e with e
  injection e with e
  have := congrArg Array.size e
  rw [List.size_toArray, List.size_toArray, bs_len, le8_len] at this
  cases this
theorem step_copy {P : Program} {w : World} {ops : Array Oper} {o : Oper} {a : Act} {K : Act → World → Prop} {Q : Exit → Act → World → Prop} {E : Prop} (hgd : o.guard = none) (d s : Operand) (dT sT : TypeId)
    (ho : o.op = .call { callee := .builtin .copy, args := #[d, s], argTypes := #[dT, sT] }) (elem : TypeId) (hu : P.underlying dT = some (.slice elem)) (hsz : (P.info? elem).map (·.size) = some 1)
    (g off dLen dCap : Nat) (ad : Addr) (sLen sCap : Nat) (hd : a.eval d = .slice (some ⟨g, off, none⟩) dLen dCap) (hs : a.eval s = .slice (some ad) sLen sCap)
    (cur : Array Value) (t : TypeId) (hg : w.heap[g]? = some (.cells cur t (0, 0))) (cs : List Value) (hn : cs.length = Nat.min sLen dLen)
    (hsrc : ∀ j v, cs[j]? = some v → w.cell? (ad.add j) = some v) (hfit : off + cs.length ≤ cur.size) (h1 : ∀ v ∈ cs, v.oneCell' = true)
    (h : K (a.put o.dst (goInt cs.length)) (w.setRow g (cur.toList.take off ++ (cs ++ cur.toList.drop (off + cs.length))).toArray)) : if Region.wanted o (yielded ops a.tmps) = true then Oper.wp P o a w K Q else E := by
  have hw : Region.wanted o (yielded ops a.tmps) = true := by simp [Region.wanted, hgd]
  rw [if_pos hw]
  have hrun := run_copy_row (P := P) w dT sT o.type elem g off dLen dCap ad sLen sCap cur t cs hu hsz hg hn hsrc hfit h1
  unfold Oper.wp
  simp [execOp, ho, resolve, invoke, builtin, hd, hs, hrun, Result.andThen]
  exact h
theorem nou_fill (l : List UInt8) (h : l.length = 56) : nou.take 0 ++ (bs l ++ nou.drop (0 + (bs l).length)) = bs (l ++ List.replicate 200 0) := by
  rw [bs_len, h, List.take_zero, List.nil_append, bs_app, nou, show bs (List.replicate 256 0) = List.replicate 256 (.int .u8 0) by simp only [bs, List.map_replicate]; rfl, show bs (List.replicate 200 0) = List.replicate 200 (.int .u8 0) by simp only [bs, List.map_replicate]; rfl, List.drop_replicate]
theorem blk_row {w : World} {g : Nat} {cs l : List Value} {t : TypeId} (h : Blk w g cs t) : Blk (w.setRow g l.toArray) g l t := setRow_heap w g _ _ t (0, 0) h
theorem blk_rowo {w : World} {g g2 : Nat} {cs l : List Value} {t : TypeId} (h : Blk w g cs t) (hne : g ≠ g2) : Blk (w.setRow g2 l.toArray) g cs t := (setRow_other w g2 g _ hne).trans h
theorem below_row {B : Nat} {a w : World} (h : Below B a w) {g : Nat} (hg : B ≤ g) (cs : Array Value) : Below B a (w.setRow g cs) :=
  ⟨h.os, h.tape, h.output, by rw [size_setRow]; exact h.size, fun k hk => (setRow_other w g k cs (by omega)).trans (h.block k hk)⟩
theorem own_some {w : World} {B : Nat} {v : Value} {l : List UInt8} {n : Nat} (h : Own w B v l) (hl : l.length = n) (hn : 1 ≤ n) : ∃ g c, v = .slice (some ⟨g, 0, none⟩) n c ∧ n ≤ c ∧ c ≤ 9223372036854775807 ∧ B ≤ g ∧ Byt w (some ⟨g, 0, none⟩) l := by
  obtain ⟨ao, c, rfl, h1, h2, h3, _⟩ := own_byt h
  rcases h.2 with ⟨h4, h5⟩ | ⟨g, cap, cur, h4, hB, _⟩
  · omega
  · injection h4 with h4 h5 h6
    subst h4 h6 hl
    exact ⟨g, c, rfl, h1, h2, hB, h3⟩
theorem byt_src {w : World} {a6 : Nat} {L : List UInt8} (hy6 : Byt w (some ⟨a6, 0, none⟩) L) : ∀ (j : Nat) (v : Value), (bs L)[j]? = some v → w.cell? ((⟨a6, 0, none⟩ : Addr).add j) = some v := fun j v hj => by
  have hjl : j < L.length := by have := (List.getElem?_eq_some_iff.1 hj).1; simpa [bs] using this
  obtain ⟨b, o', h0, _, hcell⟩ := hy6 (by intro h0; rw [h0] at hjl; simp at hjl)
  injection h0 with h0
  rw [WideShapes.add_plain]
  injection h0 with h0 h1
  subst h0 h1
  rw [hcell j hjl]
  rw [bs_get L j hjl] at hj
  exact hj
/-- what written has in hand: the box of the superblock, and all else below -/
structure Bxs (w W : World) (bx : Nat) (g : Int) (r : ByteArray) (ao : Option Addr) (n c : Nat) : Prop where
  c0 : W.cell? ⟨bx, 0, none⟩ = some (.int .i64 g)
  c1 : W.cell? ⟨bx, 1, none⟩ = some (.string r)
  c2 : W.cell? ⟨bx, 2, none⟩ = some (.slice ao n c)
  lt : bx < W.heap.size
theorem Bxs.new (w : World) (g : Int) (r : ByteArray) (ao : Option Addr) (n c : Nat) : Bxs w (w.alloc (.cells #[.int .i64 g, .string r, .slice ao n c] 25)) w.heap.size g r ao n c := by
  refine ⟨?_, ?_, ?_, by simp⟩ <;> rw [World.cell?_alloc_new] <;> rfl
theorem Bxs.low {w W W' : World} {bx : Nat} {g : Int} {r : ByteArray} {ao : Option Addr} {n c : Nat} (h : Bxs w W bx g r ao n c) (hb : Below W.heap.size W W') : Bxs w W' bx g r ao n c :=
  ⟨(hb.cell (p := ⟨bx, 0, none⟩) h.lt).trans h.c0, (hb.cell (p := ⟨bx, 1, none⟩) h.lt).trans h.c1, (hb.cell (p := ⟨bx, 2, none⟩) h.lt).trans h.c2, Nat.lt_of_lt_of_le h.lt hb.size⟩
set_option maxHeartbeats 4000000 in
set_option maxRecDepth 100000 in
theorem written20 (s : SP) (hs : okP s = true) (ao : Option Addr) (n c : Nat) (w : World) (hz : Zrw w ao s.p) (hpn : s.p.length = n) (hn : n ≤ 9223372036854775807) (hr : s.r.size ≤ 9223372036854775807) :
    Calls Tryd.prog 20 #[.agg #[.int .i64 s.g, .string s.r, .slice ao n c]] w fun e w' => e = .returned (.agg (bs (secL s)).toArray) ∧ Below w.heap.size w w' := by
  obtain ⟨m, hm, hml, hmr, hg1, hg2, hp, hsec⟩ := okP_key hs
  have hpr := (riseL_su _ _).1 hp
  rw [hsec]
  have hx := orL_lt s.p hpr.2
  obtain ⟨x, hxx⟩ : ∃ x, x = orL s.p := ⟨_, rfl⟩
  obtain ⟨g, hgg⟩ : ∃ g : Nat, s.g = (g : Int) := ⟨s.g.toNat, by omega⟩
  have hgt : s.g.toNat = g := by omega
  rw [hgt, ← hxx]
  rw [← hxx] at hx
  have zv := zv51
  obtain ⟨Z, hZ⟩ : ∃ Z, Z = nou.toArray := ⟨_, rfl⟩
  rw [← hZ] at zv
  have HZZ := Lib.hid hZ
  -- the two blocks that come first
  have b1 : Below w.heap.size w ((w.alloc (.cells #[.int .i64 s.g, .string s.r, .slice ao n c] 25)).alloc (.cells Z 51)) := below_alloc' (below_alloc' (Below.refl _ w) (Nat.le_refl _) _) (Nat.le_refl _) _
  have BX0 : Bxs w ((w.alloc (.cells #[.int .i64 s.g, .string s.r, .slice ao n c] 25)).alloc (.cells Z 51)) w.heap.size s.g s.r ao n c := (Bxs.new w s.g s.r ao n c).low (below_alloc' (Below.refl _ _) (Nat.le_refl _) _)
  have K0 : Blk ((w.alloc (.cells #[.int .i64 s.g, .string s.r, .slice ao n c] 25)).alloc (.cells Z 51)) (w.heap.size + 1) nou 51 := by
    rw [hZ]
    exact Blk.new _ _ _ _ (by simp)
  have CK := Lib.hid (bytes_any s.r ((w.alloc (.cells #[.int .i64 s.g, .string s.r, .slice ao n c] 25)).alloc (.cells Z 51)) hr)
  have C33 := Lib.hid (fun (W : World) (hb : Below w.heap.size w W) => bitsOf_any ao s.p n c W (hz.below hb) hpn hn hpr.2)
  rw [← hxx] at C33
  have CA := Lib.hid (fun (W : World) => bytesOf_any g W)
  have CB := Lib.hid (fun (W : World) => bytesOf_any x W)
  have HB := Lib.hid b1
  have HM : Hid (bytesL s.r = m) := by show _ = _; rw [bytesL, hm]; rfl
  have HE : Hid (bytesE s.r = 0) := by show _ = _; rw [bytesE, hm]; rfl
  have HML := Lib.hid hml
  have wg : IntKind.u64.wrap (s.g : Int) = (g : Int) := by rw [hgg]; exact wrap_nat _ (by omega)
  have HX := Lib.hid hx
  have f1 := BX0.c1
  have BXH := Lib.hid BX0
  have KH := Lib.hid K0
  clear hs hm hmr hp hsec hpr hgg hgt hxx hz hZ b1 BX0 K0 hpn hml hx hg1 hg2
  go_enter Tryd.func20, Tryd.ntmps20
  go_wp2_with fail
  refine CK.out.mono ?_
  rintro e w1 ⟨hb1, v, rfl, ho⟩
  rw [HM.out, HE.out] at *
  obtain ⟨ak, ck, rfl, hk1, hk2, hky, hkn⟩ := own_byt ho
  have HB1 := Lib.hid (below_chain HB.out hb1)
  have BX1 := Lib.hid (BXH.out.low hb1)
  have K1 := Lib.hid (KH.out.low hb1)
  have HKY := Lib.hid hky
  have HKN := Lib.hid hkn
  have HKL := Lib.hid HML.out
  clear ho hky hkn hb1 f1 HB BXH KH
  go_wp2_with fail
  have BQ := Lib.hid (Below.refl w1.heap.size w1)
  have S0 : Hid (∀ W, Below w1.heap.size w1 W → W.cell? ⟨w.heap.size, 0, none⟩ = some (.int .i64 s.g) ∧ W.cell? ⟨w.heap.size, 2, none⟩ = some (.slice ao n c)) := fun W hb => ⟨(BX1.out.low hb).c0, (BX1.out.low hb).c2⟩
  have D33 := Lib.hid (fun (W : World) (hb : Below w1.heap.size w1 W) => C33.out W (below_chain HB1.out hb))
  have HKZ := Lib.hid (fun (W : World) (hb : Below w1.heap.size w1 W) => HKY.out.below hb)
  obtain ⟨mn, hmn⟩ : ∃ mn, mn = m.length := ⟨_, rfl⟩
  rw [← hmn]
  have HMN := Lib.hid hmn
  clear hmn
  have cvN : ∀ X : World, (convert 26 26 (.slice (some ⟨X.heap.size, 0, none⟩) 4 4)).run Tryd.prog (X.alloc (.cells #[.int .u8 80, .int .u8 76, .int .u8 77, .int .u8 80] 5)) = .ok (.slice (some ⟨X.heap.size, 0, none⟩) 4 4) (mk (X.alloc (.cells #[.int .u8 80, .int .u8 76, .int .u8 77, .int .u8 80] 5)) X.heap.size) := fun X => conv_blk _ _ (heap_alloc_new X _)
  have cvD : ∀ X : World, (convert 26 26 (.slice (some ⟨X.heap.size, 0, none⟩) 4 4)).run Tryd.prog (X.alloc (.cells #[.int .u8 80, .int .u8 76, .int .u8 77, .int .u8 80] 5)).drew = .ok (.slice (some ⟨X.heap.size, 0, none⟩) 4 4) (mk (X.alloc (.cells #[.int .u8 80, .int .u8 76, .int .u8 77, .int .u8 80] 5)).drew X.heap.size) := fun X => conv_blk _ _ (heap_alloc_new X _)
  have HFL : Hid (([[80, 76, 77, 80], le8 g, m, le8 x] : List (List UInt8)).flatten.length = 52) := by show _ = _; simp [le8_len, HML.out]
  have HFE : Hid (([[80, 76, 77, 80], le8 g, m, le8 x] : List (List UInt8)).flatten = headL g m x) := by show _ = _; simp [headL]
  go_cut [5] from 13 (fun s5 wx => ∃ v, s5 = v ∧ Hid (Below w1.heap.size w1 wx ∧ Own wx w1.heap.size v (headL g m x)))
  case first =>
    refine wp_region_held_drew (S := fun W => W.cell? ⟨w.heap.size, 0, none⟩ = some (.int .i64 s.g) ∧ W.cell? ⟨w.heap.size, 2, none⟩ = some (.slice ao n c)) (by kernel_rfl) (by with_reducible refine S0.out _ ?_; (repeat' (first | (with_reducible exact BQ.out) | (with_reducible refine below_alloc' ?_ (Nat.le_refl _) _) | (with_reducible refine Below.drew ?_) | (with_reducible refine mk_below ?_ ?_ (Nat.le_refl _)) | (with_reducible exact Nat.le_refl _) | (have := BQ.out.size; omega)))) (fun hHeld => ?_)
    have O5 : True := trivial
    refine wpAnyH_take (i := 2) (oi := { dst := some 15, op := Op.fieldAddr 25 (Operand.tmp 1) 0, type := 0, pos := "super.go:101", after := #[], guard := none }) (v := .pointer (some ⟨w.heap.size, 0, none⟩)) rfl (by kernel_rfl) (by kernel_rfl) (by kernel_rfl) (fun _ _ _ h => h) (Or.inl ⟨by rfl, fun w hSw => by (try dsimp only at hSw); go_simp⟩) (by assumption) ?_
    (try simp only [Act.put, List.setIfInBounds_toArray, List.set_cons_zero, List.set_cons_succ])
    refine wpAnyH_take (i := 3) (oi := { dst := some 16, op := Op.load 3 (Operand.tmp 15), type := 3, pos := "super.go:101", after := #[{ on := 2, ground := Ground.data }], guard := none }) (v := .int .i64 s.g) rfl (by kernel_rfl) (by kernel_rfl) (by kernel_rfl) (fun _ _ _ h => h) (Or.inl ⟨by rfl, fun w hSw => by (try dsimp only at hSw); go_simp⟩) (by assumption) ?_
    (try simp only [Act.put, List.setIfInBounds_toArray, List.set_cons_zero, List.set_cons_succ])
    refine wpAnyH_take (i := 4) (oi := { dst := some 17, op := Op.convert 3 57 (Operand.tmp 16), type := 57, pos := "super.go:101", after := #[{ on := 3, ground := Ground.data }], guard := none }) (v := .int .u64 (g : Int)) rfl (by kernel_rfl) (by kernel_rfl) (by kernel_rfl) (fun _ _ _ h => h) (Or.inl ⟨by rfl, fun w hSw => by (try dsimp only at hSw); go_simp⟩) (by assumption) ?_
    (try simp only [Act.put, List.setIfInBounds_toArray, List.set_cons_zero, List.set_cons_succ])
    refine wpAnyH_take (i := 6) (oi := { dst := some 19, op := Op.move (Operand.tmp 3), type := 26, pos := "super.go:101", after := #[], guard := none }) (v := .slice ak mn ck) rfl (by kernel_rfl) (by kernel_rfl) (by kernel_rfl) (fun _ _ _ h => h) (Or.inl ⟨by rfl, fun w hSw => by (try dsimp only at hSw); go_simp⟩) (by assumption) ?_
    (try simp only [Act.put, List.setIfInBounds_toArray, List.set_cons_zero, List.set_cons_succ])
    refine wpAnyH_take (i := 7) (oi := { dst := some 20, op := Op.fieldAddr 25 (Operand.tmp 1) 2, type := 0, pos := "super.go:101", after := #[], guard := none }) (v := .pointer (some ⟨w.heap.size, 2, none⟩)) rfl (by kernel_rfl) (by kernel_rfl) (by kernel_rfl) (fun _ _ _ h => h) (Or.inl ⟨by rfl, fun w hSw => by (try dsimp only at hSw); go_simp⟩) (by assumption) ?_
    (try simp only [Act.put, List.setIfInBounds_toArray, List.set_cons_zero, List.set_cons_succ])
    refine wpAnyH_take (i := 8) (oi := { dst := some 21, op := Op.load 23 (Operand.tmp 20), type := 23, pos := "super.go:101", after := #[{ on := 7, ground := Ground.data }], guard := none }) (v := .slice ao n c) rfl (by kernel_rfl) (by kernel_rfl) (by kernel_rfl) (fun _ _ _ h => h) (Or.inl ⟨by rfl, fun w hSw => by (try dsimp only at hSw); go_simp⟩) (by assumption) ?_
    (try simp only [Act.put, List.setIfInBounds_toArray, List.set_cons_zero, List.set_cons_succ])
    refine wpAnyH_ready (rs := [0, 5]) (by kernel_rfl) (by simp) ?_
    refine AllReadyH.cons (o := { dst := some 13, op := Op.buildSlice 26 4 #[(0, Operand.const (Value.int IntKind.u8 80)), (1, Operand.const (Value.int IntKind.u8 76)), (2, Operand.const (Value.int IntKind.u8 77)), (3, Operand.const (Value.int IntKind.u8 80))], type := 26, pos := "super.go:101", after := #[], guard := none }) rfl (fun K hK => ?_) ?_
    · skip
      go_simp
      refine hK.out _ _ ?_ (fun hHeld => ?_)
      · (try dsimp only)
        with_reducible refine S0.out _ ?_; (repeat' (first | (with_reducible exact BQ.out) | (with_reducible refine below_alloc' ?_ (Nat.le_refl _) _) | (with_reducible refine Below.drew ?_) | (with_reducible refine mk_below ?_ ?_ (Nat.le_refl _)) | (with_reducible exact Nat.le_refl _) | (have := BQ.out.size; omega)))
      clear hK K
      (try simp only [Act.put, List.setIfInBounds_toArray, List.set_cons_zero, List.set_cons_succ])
      refine wpAnyH_ready (rs := [1, 5]) (by kernel_rfl) (by simp) ?_
      refine AllReadyH.cons (o := { dst := some 14, op := Op.convert 26 26 (Operand.tmp 13), type := 26, pos := "super.go:101", after := #[{ on := 0, ground := Ground.data }], guard := none }) rfl (fun K hK => ?_) ?_
      · skip
        go_simp
        refine hK.out _ _ ?_ (fun hHeld => ?_)
        · (try dsimp only)
          with_reducible refine S0.out _ ?_; (repeat' (first | (with_reducible exact BQ.out) | (with_reducible refine below_alloc' ?_ (Nat.le_refl _) _) | (with_reducible refine Below.drew ?_) | (with_reducible refine mk_below ?_ ?_ (Nat.le_refl _)) | (with_reducible exact Nat.le_refl _) | (have := BQ.out.size; omega)))
        clear hK K
        (try simp only [Act.put, List.setIfInBounds_toArray, List.set_cons_zero, List.set_cons_succ])
        refine wpAnyH_ready (rs := [5]) (by kernel_rfl) (by simp) ?_
        refine AllReadyH.cons (o := { dst := some 18, op := Op.call { callee := Callee.value (Operand.func 32), args := #[Operand.tmp 17], argTypes := #[57] }, type := 26, pos := "super.go:101", after := #[{ on := 4, ground := Ground.data }], guard := none }) rfl (fun K hK => ?_) AllReadyH.nil
        go_simp
        go_at_call 32
        refine (CA.out _).mono ?_
        rintro e w2 ⟨b2, g2, rfl, hg2, k2⟩
        (first | (with_reducible refine (fun (BM : Hid (Bm w2 _)) => ?_) (Lib.hid (Bm.low (Bm.layd _) b2))) | (with_reducible refine (fun (BM : Hid (Bm w2 _)) => ?_) (Lib.hid (Bm.low (Bm.lay _) b2))) | (with_reducible refine (fun (BM : Hid (Bm w2 _)) => ?_) (Lib.hid (Bm.low (Bm.mk (Bm.layd _)) b2))) | (with_reducible refine (fun (BM : Hid (Bm w2 _)) => ?_) (Lib.hid (Bm.low (Bm.mk (Bm.lay _)) b2))))
        have BQ : Hid (Below w1.heap.size w1 w2) := Lib.hid (below_chain (by (repeat' (first | (with_reducible exact BQ.out) | (with_reducible refine below_alloc' ?_ (Nat.le_refl _) _) | (with_reducible refine Below.drew ?_) | (with_reducible refine mk_below ?_ ?_ (Nat.le_refl _)) | (with_reducible exact Nat.le_refl _) | (have := BQ.out.size; omega)))) b2)
        have SZ2 : w1.heap.size ≤ w2.heap.size := BQ.out.size
        have K2 := Lib.hid k2
        clear b2 k2 hg2
        refine hK.out _ _ ?_ (fun hHeld => ?_)
        · (try dsimp only)
          with_reducible refine S0.out _ ?_; (repeat' (first | (with_reducible exact BQ.out) | (with_reducible refine below_alloc' ?_ (Nat.le_refl _) _) | (with_reducible refine Below.drew ?_) | (with_reducible refine mk_below ?_ ?_ (Nat.le_refl _)) | (with_reducible exact Nat.le_refl _) | (have := BQ.out.size; omega)))
        clear hK K
        (try simp only [Act.put, List.setIfInBounds_toArray, List.set_cons_zero, List.set_cons_succ])
        refine wpAnyH_ready (rs := [9]) (by kernel_rfl) (by simp) ?_
        refine AllReadyH.cons (o := { dst := some 22, op := Op.call { callee := Callee.value (Operand.func 33), args := #[Operand.tmp 21], argTypes := #[23] }, type := 57, pos := "super.go:101", after := #[{ on := 8, ground := Ground.data }, { on := 5, ground := Ground.chain }], guard := none }) rfl (fun K hK => ?_) AllReadyH.nil
        go_simp
        go_at_call 33
        refine (D33.out _ (by (repeat' (first | (with_reducible exact BQ.out) | (with_reducible refine below_alloc' ?_ (Nat.le_refl _) _) | (with_reducible refine Below.drew ?_) | (with_reducible refine mk_below ?_ ?_ (Nat.le_refl _)) | (with_reducible exact Nat.le_refl _) | (have := BQ.out.size; omega))))).mono ?_
        rintro e w3 ⟨rfl, rfl⟩
        refine hK.out _ _ ?_ (fun hHeld => ?_)
        · (try dsimp only)
          with_reducible refine S0.out _ ?_; (repeat' (first | (with_reducible exact BQ.out) | (with_reducible refine below_alloc' ?_ (Nat.le_refl _) _) | (with_reducible refine Below.drew ?_) | (with_reducible refine mk_below ?_ ?_ (Nat.le_refl _)) | (with_reducible exact Nat.le_refl _) | (have := BQ.out.size; omega)))
        clear hK K
        (try simp only [Act.put, List.setIfInBounds_toArray, List.set_cons_zero, List.set_cons_succ])
        refine wpAnyH_ready (rs := [10]) (by kernel_rfl) (by simp) ?_
        refine AllReadyH.cons (o := { dst := some 23, op := Op.call { callee := Callee.value (Operand.func 32), args := #[Operand.tmp 22], argTypes := #[57] }, type := 26, pos := "super.go:101", after := #[{ on := 9, ground := Ground.data }, { on := 9, ground := Ground.chain }], guard := none }) rfl (fun K hK => ?_) AllReadyH.nil
        go_simp
        go_at_call 32
        refine (CB.out _).mono ?_
        rintro e w4 ⟨b4, g4, rfl, hg4, k4⟩
        have K2 := Lib.hid (Blk.low (by first | (with_reducible exact K2.out) | (with_reducible exact K2.out.alloc _) | (with_reducible exact blk_mk K2.out (bm_ne BM.out K2.out)) | (with_reducible refine blk_mk (K2.out.alloc _) ?_; have := K2.out.lt; omega)) b4)
        have BQ : Hid (Below w1.heap.size w1 w4) := Lib.hid (below_chain (by (repeat' (first | (with_reducible exact BQ.out) | (with_reducible refine below_alloc' ?_ (Nat.le_refl _) _) | (with_reducible refine Below.drew ?_) | (with_reducible refine mk_below ?_ ?_ (Nat.le_refl _)) | (with_reducible exact Nat.le_refl _) | (have := BQ.out.size; omega)))) b4)
        (first | (with_reducible refine (fun (BM : Hid (Bm w4 _)) => ?_) (Lib.hid (Bm.low (Bm.layd _) b4))) | (with_reducible refine (fun (BM : Hid (Bm w4 _)) => ?_) (Lib.hid (Bm.low (Bm.lay _) b4))) | (with_reducible refine (fun (BM : Hid (Bm w4 _)) => ?_) (Lib.hid (Bm.low (Bm.mk (Bm.layd _)) b4))) | (with_reducible refine (fun (BM : Hid (Bm w4 _)) => ?_) (Lib.hid (Bm.low (Bm.mk (Bm.lay _)) b4))) | (with_reducible refine (fun (BM : Hid (Bm w4 _)) => ?_) (Lib.hid (Bm.low (Bm.mk BM.out) b4))) | (with_reducible refine (fun (BM : Hid (Bm w4 _)) => ?_) (Lib.hid (Bm.low BM.out b4))))
        have K4 := Lib.hid k4
        clear b4 k4 hg4
        refine hK.out _ _ ?_ (fun hHeld => ?_)
        · (try dsimp only)
          with_reducible refine S0.out _ ?_; (repeat' (first | (with_reducible exact BQ.out) | (with_reducible refine below_alloc' ?_ (Nat.le_refl _) _) | (with_reducible refine Below.drew ?_) | (with_reducible refine mk_below ?_ ?_ (Nat.le_refl _)) | (with_reducible exact Nat.le_refl _) | (have := BQ.out.size; omega)))
        clear hK K
        (try simp only [Act.put, List.setIfInBounds_toArray, List.set_cons_zero, List.set_cons_succ])
        refine wpAnyH_ready (rs := [11]) (by kernel_rfl) (by simp) ?_
        refine AllReadyH.cons (o := { dst := some 24, op := Op.buildSlice 80 4 #[(0, Operand.tmp 14), (1, Operand.tmp 18), (2, Operand.tmp 19), (3, Operand.tmp 23)], type := 80, pos := "super.go:101", after := #[{ on := 1, ground := Ground.data }, { on := 5, ground := Ground.data }, { on := 6, ground := Ground.data }, { on := 10, ground := Ground.data }], guard := none }) rfl (fun K hK => ?_) AllReadyH.nil
        go_simp
        refine hK.out _ _ ?_ (fun hHeld => ?_)
        · (try dsimp only)
          with_reducible refine S0.out _ ?_; (repeat' (first | (with_reducible exact BQ.out) | (with_reducible refine below_alloc' ?_ (Nat.le_refl _) _) | (with_reducible refine Below.drew ?_) | (with_reducible refine mk_below ?_ ?_ (Nat.le_refl _)) | (with_reducible exact Nat.le_refl _) | (have := BQ.out.size; omega)))
        clear hK K
        (try simp only [Act.put, List.setIfInBounds_toArray, List.set_cons_zero, List.set_cons_succ])
        refine wpAnyH_ready (rs := [12]) (by kernel_rfl) (by simp) ?_
        refine AllReadyH.cons (o := { dst := some 25, op := Op.call { callee := Callee.value (Operand.func 31), args := #[Operand.tmp 24], argTypes := #[80] }, type := 26, pos := "super.go:101", after := #[{ on := 11, ground := Ground.data }, { on := 10, ground := Ground.chain }], guard := none }) rfl (fun K hK => ?_) AllReadyH.nil
        go_simp
        go_at_call 31
        refine (concat_any _ 4 [[80, 76, 77, 80], le8 g, m, le8 x] _ ?_ rfl (by decide) (by simp) (by rw [HFL.out]; decide) (by rw [HFL.out]; decide)).mono ?_
        · refine rws4 _ _ _ _ _ _ _ _ _ _ _ _ _ _ _ rfl rfl HMN.out.symm rfl (Blk.new _ _ 26 _ rfl) ?_ ?_ ?_ HKN.out ?_
          · exact (by first | (with_reducible exact Bm.alloc (Bm.layd _) _) | (with_reducible exact Bm.alloc (Bm.lay _) _) | (with_reducible exact Bm.alloc (Bm.mk (Bm.layd _)) _) | (with_reducible exact Bm.alloc (Bm.mk (Bm.lay _)) _) | (with_reducible exact Bm.alloc (Bm.mk BM.out) _) | (with_reducible exact Bm.alloc BM.out _) : Bm _ _).byt
          · exact Blk.byt (Blk.alloc (by first | (with_reducible exact K2.out) | (with_reducible exact K2.out.alloc _) | (with_reducible exact blk_mk K2.out (bm_ne BM.out K2.out)) | (with_reducible refine blk_mk (K2.out.alloc _) ?_; have := K2.out.lt; omega)) _)
          · exact HKZ.out _ (by (repeat' (first | (with_reducible exact BQ.out) | (with_reducible refine below_alloc' ?_ (Nat.le_refl _) _) | (with_reducible refine Below.drew ?_) | (with_reducible refine mk_below ?_ ?_ (Nat.le_refl _)) | (with_reducible exact Nat.le_refl _) | (have := BQ.out.size; omega))))
          · exact Blk.byt (Blk.alloc (by first | (with_reducible exact K4.out) | (with_reducible exact K4.out.alloc _) | (with_reducible exact blk_mk K4.out (bm_ne BM.out K4.out)) | (with_reducible refine blk_mk (K4.out.alloc _) ?_; have := K4.out.lt; omega)) _)
        rintro e w5 ⟨b5, v5, rfl, o5⟩
        skip
        have BQ0 := BQ
        have BQ : Hid (Below w1.heap.size w1 w5) := Lib.hid (below_chain (by (repeat' (first | (with_reducible exact BQ.out) | (with_reducible refine below_alloc' ?_ (Nat.le_refl _) _) | (with_reducible refine Below.drew ?_) | (with_reducible refine mk_below ?_ ?_ (Nat.le_refl _)) | (with_reducible exact Nat.le_refl _) | (have := BQ.out.size; omega)))) b5)
        have O5 : Hid (Own w5 w1.heap.size v5 (headL g m x)) := by
          refine Lib.hid ?_
          rw [← HFE.out]
          refine o5.low ?_
          have := BQ0.out.size
          (first | (rw [World.size_alloc]; omega) | (rw [World.size_alloc, mk_size]; omega) | (rw [World.size_alloc, mk_size, World.size_alloc]; omega) | (rw [World.size_alloc, World.size_alloc]; omega))
        clear b5 o5
        refine hK.out _ _ ?_ (fun hHeld => ?_)
        · (try dsimp only)
          with_reducible refine S0.out _ ?_; (repeat' (first | (with_reducible exact BQ.out) | (with_reducible refine below_alloc' ?_ (Nat.le_refl _) _) | (with_reducible refine Below.drew ?_) | (with_reducible refine mk_below ?_ ?_ (Nat.le_refl _)) | (with_reducible exact Nat.le_refl _) | (have := BQ.out.size; omega)))
        clear hK K
        (try simp only [Act.put, List.setIfInBounds_toArray, List.set_cons_zero, List.set_cons_succ])
        refine wpAnyH_take (i := 13) (oi := { dst := some 5, op := Op.assign (Operand.tmp 25), type := 26, pos := "super.go:101", after := #[{ on := 12, ground := Ground.data }, { on := 12, ground := Ground.chain }, { on := 0, ground := Ground.phase }, { on := 1, ground := Ground.phase }, { on := 2, ground := Ground.phase }, { on := 3, ground := Ground.phase }, { on := 4, ground := Ground.phase }, { on := 5, ground := Ground.phase }, { on := 6, ground := Ground.phase }, { on := 7, ground := Ground.phase }, { on := 8, ground := Ground.phase }, { on := 9, ground := Ground.phase }, { on := 10, ground := Ground.phase }, { on := 11, ground := Ground.phase }, { on := 12, ground := Ground.phase }], guard := none }) (v := v5) rfl (by kernel_rfl) (by kernel_rfl) (by kernel_rfl) (fun _ _ _ h => h) (Or.inl ⟨by rfl, fun w hSw => by (try dsimp only at hSw); go_simp⟩) (by assumption) ?_
        (try simp only [Act.put, List.setIfInBounds_toArray, List.set_cons_zero, List.set_cons_succ])
        refine wpAnyH_done (by kernel_rfl) ?_ _
        go_wp2_with fail
        go_meet
        exact ⟨_, rfl, Lib.hid ⟨BQ.out, O5.out⟩⟩
      refine AllReadyH.cons (o := { dst := some 18, op := Op.call { callee := Callee.value (Operand.func 32), args := #[Operand.tmp 17], argTypes := #[57] }, type := 26, pos := "super.go:101", after := #[{ on := 4, ground := Ground.data }], guard := none }) rfl (fun K hK => ?_) AllReadyH.nil
      go_simp
      go_at_call 32
      refine (CA.out _).mono ?_
      rintro e w2 ⟨b2, g2, rfl, hg2, k2⟩
      (first | (with_reducible refine (fun (BM : Hid (Bm w2 _)) => ?_) (Lib.hid (Bm.low (Bm.layd _) b2))) | (with_reducible refine (fun (BM : Hid (Bm w2 _)) => ?_) (Lib.hid (Bm.low (Bm.lay _) b2))) | (with_reducible refine (fun (BM : Hid (Bm w2 _)) => ?_) (Lib.hid (Bm.low (Bm.mk (Bm.layd _)) b2))) | (with_reducible refine (fun (BM : Hid (Bm w2 _)) => ?_) (Lib.hid (Bm.low (Bm.mk (Bm.lay _)) b2))))
      (first | ((with_reducible refine (fun (PL : Blk w2 _ P4 5) => ?_) (Blk.low (Blk.drew (Blk.new _ P4 5 _ rfl)) b2)); have cv := conv_blk w2 _ PL) | ((with_reducible refine (fun (PL : Blk w2 _ P4 5) => ?_) (Blk.low (Blk.new _ P4 5 _ rfl) b2)); have cv := conv_blk w2 _ PL))
      have BQ : Hid (Below w1.heap.size w1 w2) := Lib.hid (below_chain (by (repeat' (first | (with_reducible exact BQ.out) | (with_reducible refine below_alloc' ?_ (Nat.le_refl _) _) | (with_reducible refine Below.drew ?_) | (with_reducible refine mk_below ?_ ?_ (Nat.le_refl _)) | (with_reducible exact Nat.le_refl _) | (have := BQ.out.size; omega)))) b2)
      have SZ2 : w1.heap.size ≤ w2.heap.size := BQ.out.size
      have K2 := Lib.hid k2
      clear b2 k2 hg2
      refine hK.out _ _ ?_ (fun hHeld => ?_)
      · (try dsimp only)
        with_reducible refine S0.out _ ?_; (repeat' (first | (with_reducible exact BQ.out) | (with_reducible refine below_alloc' ?_ (Nat.le_refl _) _) | (with_reducible refine Below.drew ?_) | (with_reducible refine mk_below ?_ ?_ (Nat.le_refl _)) | (with_reducible exact Nat.le_refl _) | (have := BQ.out.size; omega)))
      clear hK K
      (try simp only [Act.put, List.setIfInBounds_toArray, List.set_cons_zero, List.set_cons_succ])
      refine wpAnyH_ready (rs := [1, 9]) (by kernel_rfl) (by simp) ?_
      refine AllReadyH.cons (o := { dst := some 14, op := Op.convert 26 26 (Operand.tmp 13), type := 26, pos := "super.go:101", after := #[{ on := 0, ground := Ground.data }], guard := none }) rfl (fun K hK => ?_) ?_
      · skip
        go_simp
        refine hK.out _ _ ?_ (fun hHeld => ?_)
        · (try dsimp only)
          with_reducible refine S0.out _ ?_; (repeat' (first | (with_reducible exact BQ.out) | (with_reducible refine below_alloc' ?_ (Nat.le_refl _) _) | (with_reducible refine Below.drew ?_) | (with_reducible refine mk_below ?_ ?_ (Nat.le_refl _)) | (with_reducible exact Nat.le_refl _) | (have := BQ.out.size; omega)))
        clear hK K
        (try simp only [Act.put, List.setIfInBounds_toArray, List.set_cons_zero, List.set_cons_succ])
        refine wpAnyH_ready (rs := [9]) (by kernel_rfl) (by simp) ?_
        refine AllReadyH.cons (o := { dst := some 22, op := Op.call { callee := Callee.value (Operand.func 33), args := #[Operand.tmp 21], argTypes := #[23] }, type := 57, pos := "super.go:101", after := #[{ on := 8, ground := Ground.data }, { on := 5, ground := Ground.chain }], guard := none }) rfl (fun K hK => ?_) AllReadyH.nil
        go_simp
        go_at_call 33
        refine (D33.out _ (by (repeat' (first | (with_reducible exact BQ.out) | (with_reducible refine below_alloc' ?_ (Nat.le_refl _) _) | (with_reducible refine Below.drew ?_) | (with_reducible refine mk_below ?_ ?_ (Nat.le_refl _)) | (with_reducible exact Nat.le_refl _) | (have := BQ.out.size; omega))))).mono ?_
        rintro e w3 ⟨rfl, rfl⟩
        refine hK.out _ _ ?_ (fun hHeld => ?_)
        · (try dsimp only)
          with_reducible refine S0.out _ ?_; (repeat' (first | (with_reducible exact BQ.out) | (with_reducible refine below_alloc' ?_ (Nat.le_refl _) _) | (with_reducible refine Below.drew ?_) | (with_reducible refine mk_below ?_ ?_ (Nat.le_refl _)) | (with_reducible exact Nat.le_refl _) | (have := BQ.out.size; omega)))
        clear hK K
        (try simp only [Act.put, List.setIfInBounds_toArray, List.set_cons_zero, List.set_cons_succ])
        refine wpAnyH_ready (rs := [10]) (by kernel_rfl) (by simp) ?_
        refine AllReadyH.cons (o := { dst := some 23, op := Op.call { callee := Callee.value (Operand.func 32), args := #[Operand.tmp 22], argTypes := #[57] }, type := 26, pos := "super.go:101", after := #[{ on := 9, ground := Ground.data }, { on := 9, ground := Ground.chain }], guard := none }) rfl (fun K hK => ?_) AllReadyH.nil
        go_simp
        go_at_call 32
        refine (CB.out _).mono ?_
        rintro e w4 ⟨b4, g4, rfl, hg4, k4⟩
        have K2 := Lib.hid (Blk.low (by first | (with_reducible exact K2.out) | (with_reducible exact K2.out.alloc _) | (with_reducible exact blk_mk K2.out (bm_ne BM.out K2.out)) | (with_reducible refine blk_mk (K2.out.alloc _) ?_; have := K2.out.lt; omega)) b4)
        have BQ : Hid (Below w1.heap.size w1 w4) := Lib.hid (below_chain (by (repeat' (first | (with_reducible exact BQ.out) | (with_reducible refine below_alloc' ?_ (Nat.le_refl _) _) | (with_reducible refine Below.drew ?_) | (with_reducible refine mk_below ?_ ?_ (Nat.le_refl _)) | (with_reducible exact Nat.le_refl _) | (have := BQ.out.size; omega)))) b4)
        (first | (with_reducible refine (fun (BM : Hid (Bm w4 _)) => ?_) (Lib.hid (Bm.low (Bm.layd _) b4))) | (with_reducible refine (fun (BM : Hid (Bm w4 _)) => ?_) (Lib.hid (Bm.low (Bm.lay _) b4))) | (with_reducible refine (fun (BM : Hid (Bm w4 _)) => ?_) (Lib.hid (Bm.low (Bm.mk (Bm.layd _)) b4))) | (with_reducible refine (fun (BM : Hid (Bm w4 _)) => ?_) (Lib.hid (Bm.low (Bm.mk (Bm.lay _)) b4))) | (with_reducible refine (fun (BM : Hid (Bm w4 _)) => ?_) (Lib.hid (Bm.low (Bm.mk BM.out) b4))) | (with_reducible refine (fun (BM : Hid (Bm w4 _)) => ?_) (Lib.hid (Bm.low BM.out b4))))
        have K4 := Lib.hid k4
        clear b4 k4 hg4
        refine hK.out _ _ ?_ (fun hHeld => ?_)
        · (try dsimp only)
          with_reducible refine S0.out _ ?_; (repeat' (first | (with_reducible exact BQ.out) | (with_reducible refine below_alloc' ?_ (Nat.le_refl _) _) | (with_reducible refine Below.drew ?_) | (with_reducible refine mk_below ?_ ?_ (Nat.le_refl _)) | (with_reducible exact Nat.le_refl _) | (have := BQ.out.size; omega)))
        clear hK K
        (try simp only [Act.put, List.setIfInBounds_toArray, List.set_cons_zero, List.set_cons_succ])
        refine wpAnyH_ready (rs := [11]) (by kernel_rfl) (by simp) ?_
        refine AllReadyH.cons (o := { dst := some 24, op := Op.buildSlice 80 4 #[(0, Operand.tmp 14), (1, Operand.tmp 18), (2, Operand.tmp 19), (3, Operand.tmp 23)], type := 80, pos := "super.go:101", after := #[{ on := 1, ground := Ground.data }, { on := 5, ground := Ground.data }, { on := 6, ground := Ground.data }, { on := 10, ground := Ground.data }], guard := none }) rfl (fun K hK => ?_) AllReadyH.nil
        go_simp
        refine hK.out _ _ ?_ (fun hHeld => ?_)
        · (try dsimp only)
          with_reducible refine S0.out _ ?_; (repeat' (first | (with_reducible exact BQ.out) | (with_reducible refine below_alloc' ?_ (Nat.le_refl _) _) | (with_reducible refine Below.drew ?_) | (with_reducible refine mk_below ?_ ?_ (Nat.le_refl _)) | (with_reducible exact Nat.le_refl _) | (have := BQ.out.size; omega)))
        clear hK K
        (try simp only [Act.put, List.setIfInBounds_toArray, List.set_cons_zero, List.set_cons_succ])
        refine wpAnyH_ready (rs := [12]) (by kernel_rfl) (by simp) ?_
        refine AllReadyH.cons (o := { dst := some 25, op := Op.call { callee := Callee.value (Operand.func 31), args := #[Operand.tmp 24], argTypes := #[80] }, type := 26, pos := "super.go:101", after := #[{ on := 11, ground := Ground.data }, { on := 10, ground := Ground.chain }], guard := none }) rfl (fun K hK => ?_) AllReadyH.nil
        go_simp
        go_at_call 31
        refine (concat_any _ 4 [[80, 76, 77, 80], le8 g, m, le8 x] _ ?_ rfl (by decide) (by simp) (by rw [HFL.out]; decide) (by rw [HFL.out]; decide)).mono ?_
        · refine rws4 _ _ _ _ _ _ _ _ _ _ _ _ _ _ _ rfl rfl HMN.out.symm rfl (Blk.new _ _ 26 _ rfl) ?_ ?_ ?_ HKN.out ?_
          · exact (by first | (with_reducible exact Bm.alloc (Bm.layd _) _) | (with_reducible exact Bm.alloc (Bm.lay _) _) | (with_reducible exact Bm.alloc (Bm.mk (Bm.layd _)) _) | (with_reducible exact Bm.alloc (Bm.mk (Bm.lay _)) _) | (with_reducible exact Bm.alloc (Bm.mk BM.out) _) | (with_reducible exact Bm.alloc BM.out _) : Bm _ _).byt
          · exact Blk.byt (Blk.alloc (by first | (with_reducible exact K2.out) | (with_reducible exact K2.out.alloc _) | (with_reducible exact blk_mk K2.out (bm_ne BM.out K2.out)) | (with_reducible refine blk_mk (K2.out.alloc _) ?_; have := K2.out.lt; omega)) _)
          · exact HKZ.out _ (by (repeat' (first | (with_reducible exact BQ.out) | (with_reducible refine below_alloc' ?_ (Nat.le_refl _) _) | (with_reducible refine Below.drew ?_) | (with_reducible refine mk_below ?_ ?_ (Nat.le_refl _)) | (with_reducible exact Nat.le_refl _) | (have := BQ.out.size; omega))))
          · exact Blk.byt (Blk.alloc (by first | (with_reducible exact K4.out) | (with_reducible exact K4.out.alloc _) | (with_reducible exact blk_mk K4.out (bm_ne BM.out K4.out)) | (with_reducible refine blk_mk (K4.out.alloc _) ?_; have := K4.out.lt; omega)) _)
        rintro e w5 ⟨b5, v5, rfl, o5⟩
        skip
        have BQ0 := BQ
        have BQ : Hid (Below w1.heap.size w1 w5) := Lib.hid (below_chain (by (repeat' (first | (with_reducible exact BQ.out) | (with_reducible refine below_alloc' ?_ (Nat.le_refl _) _) | (with_reducible refine Below.drew ?_) | (with_reducible refine mk_below ?_ ?_ (Nat.le_refl _)) | (with_reducible exact Nat.le_refl _) | (have := BQ.out.size; omega)))) b5)
        have O5 : Hid (Own w5 w1.heap.size v5 (headL g m x)) := by
          refine Lib.hid ?_
          rw [← HFE.out]
          refine o5.low ?_
          have := BQ0.out.size
          (first | (rw [World.size_alloc]; omega) | (rw [World.size_alloc, mk_size]; omega) | (rw [World.size_alloc, mk_size, World.size_alloc]; omega) | (rw [World.size_alloc, World.size_alloc]; omega))
        clear b5 o5
        refine hK.out _ _ ?_ (fun hHeld => ?_)
        · (try dsimp only)
          with_reducible refine S0.out _ ?_; (repeat' (first | (with_reducible exact BQ.out) | (with_reducible refine below_alloc' ?_ (Nat.le_refl _) _) | (with_reducible refine Below.drew ?_) | (with_reducible refine mk_below ?_ ?_ (Nat.le_refl _)) | (with_reducible exact Nat.le_refl _) | (have := BQ.out.size; omega)))
        clear hK K
        (try simp only [Act.put, List.setIfInBounds_toArray, List.set_cons_zero, List.set_cons_succ])
        refine wpAnyH_take (i := 13) (oi := { dst := some 5, op := Op.assign (Operand.tmp 25), type := 26, pos := "super.go:101", after := #[{ on := 12, ground := Ground.data }, { on := 12, ground := Ground.chain }, { on := 0, ground := Ground.phase }, { on := 1, ground := Ground.phase }, { on := 2, ground := Ground.phase }, { on := 3, ground := Ground.phase }, { on := 4, ground := Ground.phase }, { on := 5, ground := Ground.phase }, { on := 6, ground := Ground.phase }, { on := 7, ground := Ground.phase }, { on := 8, ground := Ground.phase }, { on := 9, ground := Ground.phase }, { on := 10, ground := Ground.phase }, { on := 11, ground := Ground.phase }, { on := 12, ground := Ground.phase }], guard := none }) (v := v5) rfl (by kernel_rfl) (by kernel_rfl) (by kernel_rfl) (fun _ _ _ h => h) (Or.inl ⟨by rfl, fun w hSw => by (try dsimp only at hSw); go_simp⟩) (by assumption) ?_
        (try simp only [Act.put, List.setIfInBounds_toArray, List.set_cons_zero, List.set_cons_succ])
        refine wpAnyH_done (by kernel_rfl) ?_ _
        go_wp2_with fail
        go_meet
        exact ⟨_, rfl, Lib.hid ⟨BQ.out, O5.out⟩⟩
      refine AllReadyH.cons (o := { dst := some 22, op := Op.call { callee := Callee.value (Operand.func 33), args := #[Operand.tmp 21], argTypes := #[23] }, type := 57, pos := "super.go:101", after := #[{ on := 8, ground := Ground.data }, { on := 5, ground := Ground.chain }], guard := none }) rfl (fun K hK => ?_) AllReadyH.nil
      go_simp
      go_at_call 33
      refine (D33.out _ (by (repeat' (first | (with_reducible exact BQ.out) | (with_reducible refine below_alloc' ?_ (Nat.le_refl _) _) | (with_reducible refine Below.drew ?_) | (with_reducible refine mk_below ?_ ?_ (Nat.le_refl _)) | (with_reducible exact Nat.le_refl _) | (have := BQ.out.size; omega))))).mono ?_
      rintro e w3 ⟨rfl, rfl⟩
      refine hK.out _ _ ?_ (fun hHeld => ?_)
      · (try dsimp only)
        with_reducible refine S0.out _ ?_; (repeat' (first | (with_reducible exact BQ.out) | (with_reducible refine below_alloc' ?_ (Nat.le_refl _) _) | (with_reducible refine Below.drew ?_) | (with_reducible refine mk_below ?_ ?_ (Nat.le_refl _)) | (with_reducible exact Nat.le_refl _) | (have := BQ.out.size; omega)))
      clear hK K
      (try simp only [Act.put, List.setIfInBounds_toArray, List.set_cons_zero, List.set_cons_succ])
      refine wpAnyH_ready (rs := [1, 10]) (by kernel_rfl) (by simp) ?_
      refine AllReadyH.cons (o := { dst := some 14, op := Op.convert 26 26 (Operand.tmp 13), type := 26, pos := "super.go:101", after := #[{ on := 0, ground := Ground.data }], guard := none }) rfl (fun K hK => ?_) ?_
      · skip
        go_simp
        refine hK.out _ _ ?_ (fun hHeld => ?_)
        · (try dsimp only)
          with_reducible refine S0.out _ ?_; (repeat' (first | (with_reducible exact BQ.out) | (with_reducible refine below_alloc' ?_ (Nat.le_refl _) _) | (with_reducible refine Below.drew ?_) | (with_reducible refine mk_below ?_ ?_ (Nat.le_refl _)) | (with_reducible exact Nat.le_refl _) | (have := BQ.out.size; omega)))
        clear hK K
        (try simp only [Act.put, List.setIfInBounds_toArray, List.set_cons_zero, List.set_cons_succ])
        refine wpAnyH_ready (rs := [10]) (by kernel_rfl) (by simp) ?_
        refine AllReadyH.cons (o := { dst := some 23, op := Op.call { callee := Callee.value (Operand.func 32), args := #[Operand.tmp 22], argTypes := #[57] }, type := 26, pos := "super.go:101", after := #[{ on := 9, ground := Ground.data }, { on := 9, ground := Ground.chain }], guard := none }) rfl (fun K hK => ?_) AllReadyH.nil
        go_simp
        go_at_call 32
        refine (CB.out _).mono ?_
        rintro e w4 ⟨b4, g4, rfl, hg4, k4⟩
        have K2 := Lib.hid (Blk.low (by first | (with_reducible exact K2.out) | (with_reducible exact K2.out.alloc _) | (with_reducible exact blk_mk K2.out (bm_ne BM.out K2.out)) | (with_reducible refine blk_mk (K2.out.alloc _) ?_; have := K2.out.lt; omega)) b4)
        have BQ : Hid (Below w1.heap.size w1 w4) := Lib.hid (below_chain (by (repeat' (first | (with_reducible exact BQ.out) | (with_reducible refine below_alloc' ?_ (Nat.le_refl _) _) | (with_reducible refine Below.drew ?_) | (with_reducible refine mk_below ?_ ?_ (Nat.le_refl _)) | (with_reducible exact Nat.le_refl _) | (have := BQ.out.size; omega)))) b4)
        (first | (with_reducible refine (fun (BM : Hid (Bm w4 _)) => ?_) (Lib.hid (Bm.low (Bm.layd _) b4))) | (with_reducible refine (fun (BM : Hid (Bm w4 _)) => ?_) (Lib.hid (Bm.low (Bm.lay _) b4))) | (with_reducible refine (fun (BM : Hid (Bm w4 _)) => ?_) (Lib.hid (Bm.low (Bm.mk (Bm.layd _)) b4))) | (with_reducible refine (fun (BM : Hid (Bm w4 _)) => ?_) (Lib.hid (Bm.low (Bm.mk (Bm.lay _)) b4))) | (with_reducible refine (fun (BM : Hid (Bm w4 _)) => ?_) (Lib.hid (Bm.low (Bm.mk BM.out) b4))) | (with_reducible refine (fun (BM : Hid (Bm w4 _)) => ?_) (Lib.hid (Bm.low BM.out b4))))
        have K4 := Lib.hid k4
        clear b4 k4 hg4
        refine hK.out _ _ ?_ (fun hHeld => ?_)
        · (try dsimp only)
          with_reducible refine S0.out _ ?_; (repeat' (first | (with_reducible exact BQ.out) | (with_reducible refine below_alloc' ?_ (Nat.le_refl _) _) | (with_reducible refine Below.drew ?_) | (with_reducible refine mk_below ?_ ?_ (Nat.le_refl _)) | (with_reducible exact Nat.le_refl _) | (have := BQ.out.size; omega)))
        clear hK K
        (try simp only [Act.put, List.setIfInBounds_toArray, List.set_cons_zero, List.set_cons_succ])
        refine wpAnyH_ready (rs := [11]) (by kernel_rfl) (by simp) ?_
        refine AllReadyH.cons (o := { dst := some 24, op := Op.buildSlice 80 4 #[(0, Operand.tmp 14), (1, Operand.tmp 18), (2, Operand.tmp 19), (3, Operand.tmp 23)], type := 80, pos := "super.go:101", after := #[{ on := 1, ground := Ground.data }, { on := 5, ground := Ground.data }, { on := 6, ground := Ground.data }, { on := 10, ground := Ground.data }], guard := none }) rfl (fun K hK => ?_) AllReadyH.nil
        go_simp
        refine hK.out _ _ ?_ (fun hHeld => ?_)
        · (try dsimp only)
          with_reducible refine S0.out _ ?_; (repeat' (first | (with_reducible exact BQ.out) | (with_reducible refine below_alloc' ?_ (Nat.le_refl _) _) | (with_reducible refine Below.drew ?_) | (with_reducible refine mk_below ?_ ?_ (Nat.le_refl _)) | (with_reducible exact Nat.le_refl _) | (have := BQ.out.size; omega)))
        clear hK K
        (try simp only [Act.put, List.setIfInBounds_toArray, List.set_cons_zero, List.set_cons_succ])
        refine wpAnyH_ready (rs := [12]) (by kernel_rfl) (by simp) ?_
        refine AllReadyH.cons (o := { dst := some 25, op := Op.call { callee := Callee.value (Operand.func 31), args := #[Operand.tmp 24], argTypes := #[80] }, type := 26, pos := "super.go:101", after := #[{ on := 11, ground := Ground.data }, { on := 10, ground := Ground.chain }], guard := none }) rfl (fun K hK => ?_) AllReadyH.nil
        go_simp
        go_at_call 31
        refine (concat_any _ 4 [[80, 76, 77, 80], le8 g, m, le8 x] _ ?_ rfl (by decide) (by simp) (by rw [HFL.out]; decide) (by rw [HFL.out]; decide)).mono ?_
        · refine rws4 _ _ _ _ _ _ _ _ _ _ _ _ _ _ _ rfl rfl HMN.out.symm rfl (Blk.new _ _ 26 _ rfl) ?_ ?_ ?_ HKN.out ?_
          · exact (by first | (with_reducible exact Bm.alloc (Bm.layd _) _) | (with_reducible exact Bm.alloc (Bm.lay _) _) | (with_reducible exact Bm.alloc (Bm.mk (Bm.layd _)) _) | (with_reducible exact Bm.alloc (Bm.mk (Bm.lay _)) _) | (with_reducible exact Bm.alloc (Bm.mk BM.out) _) | (with_reducible exact Bm.alloc BM.out _) : Bm _ _).byt
          · exact Blk.byt (Blk.alloc (by first | (with_reducible exact K2.out) | (with_reducible exact K2.out.alloc _) | (with_reducible exact blk_mk K2.out (bm_ne BM.out K2.out)) | (with_reducible refine blk_mk (K2.out.alloc _) ?_; have := K2.out.lt; omega)) _)
          · exact HKZ.out _ (by (repeat' (first | (with_reducible exact BQ.out) | (with_reducible refine below_alloc' ?_ (Nat.le_refl _) _) | (with_reducible refine Below.drew ?_) | (with_reducible refine mk_below ?_ ?_ (Nat.le_refl _)) | (with_reducible exact Nat.le_refl _) | (have := BQ.out.size; omega))))
          · exact Blk.byt (Blk.alloc (by first | (with_reducible exact K4.out) | (with_reducible exact K4.out.alloc _) | (with_reducible exact blk_mk K4.out (bm_ne BM.out K4.out)) | (with_reducible refine blk_mk (K4.out.alloc _) ?_; have := K4.out.lt; omega)) _)
        rintro e w5 ⟨b5, v5, rfl, o5⟩
        skip
        have BQ0 := BQ
        have BQ : Hid (Below w1.heap.size w1 w5) := Lib.hid (below_chain (by (repeat' (first | (with_reducible exact BQ.out) | (with_reducible refine below_alloc' ?_ (Nat.le_refl _) _) | (with_reducible refine Below.drew ?_) | (with_reducible refine mk_below ?_ ?_ (Nat.le_refl _)) | (with_reducible exact Nat.le_refl _) | (have := BQ.out.size; omega)))) b5)
        have O5 : Hid (Own w5 w1.heap.size v5 (headL g m x)) := by
          refine Lib.hid ?_
          rw [← HFE.out]
          refine o5.low ?_
          have := BQ0.out.size
          (first | (rw [World.size_alloc]; omega) | (rw [World.size_alloc, mk_size]; omega) | (rw [World.size_alloc, mk_size, World.size_alloc]; omega) | (rw [World.size_alloc, World.size_alloc]; omega))
        clear b5 o5
        refine hK.out _ _ ?_ (fun hHeld => ?_)
        · (try dsimp only)
          with_reducible refine S0.out _ ?_; (repeat' (first | (with_reducible exact BQ.out) | (with_reducible refine below_alloc' ?_ (Nat.le_refl _) _) | (with_reducible refine Below.drew ?_) | (with_reducible refine mk_below ?_ ?_ (Nat.le_refl _)) | (with_reducible exact Nat.le_refl _) | (have := BQ.out.size; omega)))
        clear hK K
        (try simp only [Act.put, List.setIfInBounds_toArray, List.set_cons_zero, List.set_cons_succ])
        refine wpAnyH_take (i := 13) (oi := { dst := some 5, op := Op.assign (Operand.tmp 25), type := 26, pos := "super.go:101", after := #[{ on := 12, ground := Ground.data }, { on := 12, ground := Ground.chain }, { on := 0, ground := Ground.phase }, { on := 1, ground := Ground.phase }, { on := 2, ground := Ground.phase }, { on := 3, ground := Ground.phase }, { on := 4, ground := Ground.phase }, { on := 5, ground := Ground.phase }, { on := 6, ground := Ground.phase }, { on := 7, ground := Ground.phase }, { on := 8, ground := Ground.phase }, { on := 9, ground := Ground.phase }, { on := 10, ground := Ground.phase }, { on := 11, ground := Ground.phase }, { on := 12, ground := Ground.phase }], guard := none }) (v := v5) rfl (by kernel_rfl) (by kernel_rfl) (by kernel_rfl) (fun _ _ _ h => h) (Or.inl ⟨by rfl, fun w hSw => by (try dsimp only at hSw); go_simp⟩) (by assumption) ?_
        (try simp only [Act.put, List.setIfInBounds_toArray, List.set_cons_zero, List.set_cons_succ])
        refine wpAnyH_done (by kernel_rfl) ?_ _
        go_wp2_with fail
        go_meet
        exact ⟨_, rfl, Lib.hid ⟨BQ.out, O5.out⟩⟩
      refine AllReadyH.cons (o := { dst := some 23, op := Op.call { callee := Callee.value (Operand.func 32), args := #[Operand.tmp 22], argTypes := #[57] }, type := 26, pos := "super.go:101", after := #[{ on := 9, ground := Ground.data }, { on := 9, ground := Ground.chain }], guard := none }) rfl (fun K hK => ?_) AllReadyH.nil
      go_simp
      go_at_call 32
      refine (CB.out _).mono ?_
      rintro e w4 ⟨b4, g4, rfl, hg4, k4⟩
      have K2 := Lib.hid (Blk.low (by first | (with_reducible exact K2.out) | (with_reducible exact K2.out.alloc _) | (with_reducible exact blk_mk K2.out (bm_ne BM.out K2.out)) | (with_reducible refine blk_mk (K2.out.alloc _) ?_; have := K2.out.lt; omega)) b4)
      have BQ : Hid (Below w1.heap.size w1 w4) := Lib.hid (below_chain (by (repeat' (first | (with_reducible exact BQ.out) | (with_reducible refine below_alloc' ?_ (Nat.le_refl _) _) | (with_reducible refine Below.drew ?_) | (with_reducible refine mk_below ?_ ?_ (Nat.le_refl _)) | (with_reducible exact Nat.le_refl _) | (have := BQ.out.size; omega)))) b4)
      (first | (with_reducible refine (fun (BM : Hid (Bm w4 _)) => ?_) (Lib.hid (Bm.low (Bm.layd _) b4))) | (with_reducible refine (fun (BM : Hid (Bm w4 _)) => ?_) (Lib.hid (Bm.low (Bm.lay _) b4))) | (with_reducible refine (fun (BM : Hid (Bm w4 _)) => ?_) (Lib.hid (Bm.low (Bm.mk (Bm.layd _)) b4))) | (with_reducible refine (fun (BM : Hid (Bm w4 _)) => ?_) (Lib.hid (Bm.low (Bm.mk (Bm.lay _)) b4))) | (with_reducible refine (fun (BM : Hid (Bm w4 _)) => ?_) (Lib.hid (Bm.low (Bm.mk BM.out) b4))) | (with_reducible refine (fun (BM : Hid (Bm w4 _)) => ?_) (Lib.hid (Bm.low BM.out b4))))
      (first | ((with_reducible refine (fun (PL : Blk w4 _ P4 5) => ?_) (Blk.low (Blk.drew (Blk.new _ P4 5 _ rfl)) b4)); have cv := conv_blk w4 _ PL) | ((with_reducible refine (fun (PL : Blk w4 _ P4 5) => ?_) (Blk.low (Blk.new _ P4 5 _ rfl) b4)); have cv := conv_blk w4 _ PL) | ((with_reducible refine (fun (PL : Blk w4 _ P4 5) => ?_) (Blk.low PL b4)); have cv := conv_blk w4 _ PL))
      have K4 := Lib.hid k4
      clear b4 k4 hg4
      refine hK.out _ _ ?_ (fun hHeld => ?_)
      · (try dsimp only)
        with_reducible refine S0.out _ ?_; (repeat' (first | (with_reducible exact BQ.out) | (with_reducible refine below_alloc' ?_ (Nat.le_refl _) _) | (with_reducible refine Below.drew ?_) | (with_reducible refine mk_below ?_ ?_ (Nat.le_refl _)) | (with_reducible exact Nat.le_refl _) | (have := BQ.out.size; omega)))
      clear hK K
      (try simp only [Act.put, List.setIfInBounds_toArray, List.set_cons_zero, List.set_cons_succ])
      refine wpAnyH_ready (rs := [1]) (by kernel_rfl) (by simp) ?_
      refine AllReadyH.cons (o := { dst := some 14, op := Op.convert 26 26 (Operand.tmp 13), type := 26, pos := "super.go:101", after := #[{ on := 0, ground := Ground.data }], guard := none }) rfl (fun K hK => ?_) AllReadyH.nil
      go_simp
      refine hK.out _ _ ?_ (fun hHeld => ?_)
      · (try dsimp only)
        with_reducible refine S0.out _ ?_; (repeat' (first | (with_reducible exact BQ.out) | (with_reducible refine below_alloc' ?_ (Nat.le_refl _) _) | (with_reducible refine Below.drew ?_) | (with_reducible refine mk_below ?_ ?_ (Nat.le_refl _)) | (with_reducible exact Nat.le_refl _) | (have := BQ.out.size; omega)))
      clear hK K
      (try simp only [Act.put, List.setIfInBounds_toArray, List.set_cons_zero, List.set_cons_succ])
      refine wpAnyH_ready (rs := [11]) (by kernel_rfl) (by simp) ?_
      refine AllReadyH.cons (o := { dst := some 24, op := Op.buildSlice 80 4 #[(0, Operand.tmp 14), (1, Operand.tmp 18), (2, Operand.tmp 19), (3, Operand.tmp 23)], type := 80, pos := "super.go:101", after := #[{ on := 1, ground := Ground.data }, { on := 5, ground := Ground.data }, { on := 6, ground := Ground.data }, { on := 10, ground := Ground.data }], guard := none }) rfl (fun K hK => ?_) AllReadyH.nil
      go_simp
      refine hK.out _ _ ?_ (fun hHeld => ?_)
      · (try dsimp only)
        with_reducible refine S0.out _ ?_; (repeat' (first | (with_reducible exact BQ.out) | (with_reducible refine below_alloc' ?_ (Nat.le_refl _) _) | (with_reducible refine Below.drew ?_) | (with_reducible refine mk_below ?_ ?_ (Nat.le_refl _)) | (with_reducible exact Nat.le_refl _) | (have := BQ.out.size; omega)))
      clear hK K
      (try simp only [Act.put, List.setIfInBounds_toArray, List.set_cons_zero, List.set_cons_succ])
      refine wpAnyH_ready (rs := [12]) (by kernel_rfl) (by simp) ?_
      refine AllReadyH.cons (o := { dst := some 25, op := Op.call { callee := Callee.value (Operand.func 31), args := #[Operand.tmp 24], argTypes := #[80] }, type := 26, pos := "super.go:101", after := #[{ on := 11, ground := Ground.data }, { on := 10, ground := Ground.chain }], guard := none }) rfl (fun K hK => ?_) AllReadyH.nil
      go_simp
      go_at_call 31
      refine (concat_any _ 4 [[80, 76, 77, 80], le8 g, m, le8 x] _ ?_ rfl (by decide) (by simp) (by rw [HFL.out]; decide) (by rw [HFL.out]; decide)).mono ?_
      · refine rws4 _ _ _ _ _ _ _ _ _ _ _ _ _ _ _ rfl rfl HMN.out.symm rfl (Blk.new _ _ 26 _ rfl) ?_ ?_ ?_ HKN.out ?_
        · exact (by first | (with_reducible exact Bm.alloc (Bm.layd _) _) | (with_reducible exact Bm.alloc (Bm.lay _) _) | (with_reducible exact Bm.alloc (Bm.mk (Bm.layd _)) _) | (with_reducible exact Bm.alloc (Bm.mk (Bm.lay _)) _) | (with_reducible exact Bm.alloc (Bm.mk BM.out) _) | (with_reducible exact Bm.alloc BM.out _) : Bm _ _).byt
        · exact Blk.byt (Blk.alloc (by first | (with_reducible exact K2.out) | (with_reducible exact K2.out.alloc _) | (with_reducible exact blk_mk K2.out (bm_ne BM.out K2.out)) | (with_reducible refine blk_mk (K2.out.alloc _) ?_; have := K2.out.lt; omega)) _)
        · exact HKZ.out _ (by (repeat' (first | (with_reducible exact BQ.out) | (with_reducible refine below_alloc' ?_ (Nat.le_refl _) _) | (with_reducible refine Below.drew ?_) | (with_reducible refine mk_below ?_ ?_ (Nat.le_refl _)) | (with_reducible exact Nat.le_refl _) | (have := BQ.out.size; omega))))
        · exact Blk.byt (Blk.alloc (by first | (with_reducible exact K4.out) | (with_reducible exact K4.out.alloc _) | (with_reducible exact blk_mk K4.out (bm_ne BM.out K4.out)) | (with_reducible refine blk_mk (K4.out.alloc _) ?_; have := K4.out.lt; omega)) _)
      rintro e w5 ⟨b5, v5, rfl, o5⟩
      skip
      have BQ0 := BQ
      have BQ : Hid (Below w1.heap.size w1 w5) := Lib.hid (below_chain (by (repeat' (first | (with_reducible exact BQ.out) | (with_reducible refine below_alloc' ?_ (Nat.le_refl _) _) | (with_reducible refine Below.drew ?_) | (with_reducible refine mk_below ?_ ?_ (Nat.le_refl _)) | (with_reducible exact Nat.le_refl _) | (have := BQ.out.size; omega)))) b5)
      have O5 : Hid (Own w5 w1.heap.size v5 (headL g m x)) := by
        refine Lib.hid ?_
        rw [← HFE.out]
        refine o5.low ?_
        have := BQ0.out.size
        (first | (rw [World.size_alloc]; omega) | (rw [World.size_alloc, mk_size]; omega) | (rw [World.size_alloc, mk_size, World.size_alloc]; omega) | (rw [World.size_alloc, World.size_alloc]; omega))
      clear b5 o5
      refine hK.out _ _ ?_ (fun hHeld => ?_)
      · (try dsimp only)
        with_reducible refine S0.out _ ?_; (repeat' (first | (with_reducible exact BQ.out) | (with_reducible refine below_alloc' ?_ (Nat.le_refl _) _) | (with_reducible refine Below.drew ?_) | (with_reducible refine mk_below ?_ ?_ (Nat.le_refl _)) | (with_reducible exact Nat.le_refl _) | (have := BQ.out.size; omega)))
      clear hK K
      (try simp only [Act.put, List.setIfInBounds_toArray, List.set_cons_zero, List.set_cons_succ])
      refine wpAnyH_take (i := 13) (oi := { dst := some 5, op := Op.assign (Operand.tmp 25), type := 26, pos := "super.go:101", after := #[{ on := 12, ground := Ground.data }, { on := 12, ground := Ground.chain }, { on := 0, ground := Ground.phase }, { on := 1, ground := Ground.phase }, { on := 2, ground := Ground.phase }, { on := 3, ground := Ground.phase }, { on := 4, ground := Ground.phase }, { on := 5, ground := Ground.phase }, { on := 6, ground := Ground.phase }, { on := 7, ground := Ground.phase }, { on := 8, ground := Ground.phase }, { on := 9, ground := Ground.phase }, { on := 10, ground := Ground.phase }, { on := 11, ground := Ground.phase }, { on := 12, ground := Ground.phase }], guard := none }) (v := v5) rfl (by kernel_rfl) (by kernel_rfl) (by kernel_rfl) (fun _ _ _ h => h) (Or.inl ⟨by rfl, fun w hSw => by (try dsimp only at hSw); go_simp⟩) (by assumption) ?_
      (try simp only [Act.put, List.setIfInBounds_toArray, List.set_cons_zero, List.set_cons_succ])
      refine wpAnyH_done (by kernel_rfl) ?_ _
      go_wp2_with fail
      go_meet
      exact ⟨_, rfl, Lib.hid ⟨BQ.out, O5.out⟩⟩
    refine AllReadyH.cons (o := { dst := some 18, op := Op.call { callee := Callee.value (Operand.func 32), args := #[Operand.tmp 17], argTypes := #[57] }, type := 26, pos := "super.go:101", after := #[{ on := 4, ground := Ground.data }], guard := none }) rfl (fun K hK => ?_) AllReadyH.nil
    go_simp
    go_at_call 32
    refine (CA.out _).mono ?_
    rintro e w2 ⟨b2, g2, rfl, hg2, k2⟩
    have BQ : Hid (Below w1.heap.size w1 w2) := Lib.hid (below_chain (by (repeat' (first | (with_reducible exact BQ.out) | (with_reducible refine below_alloc' ?_ (Nat.le_refl _) _) | (with_reducible refine Below.drew ?_) | (with_reducible refine mk_below ?_ ?_ (Nat.le_refl _)) | (with_reducible exact Nat.le_refl _) | (have := BQ.out.size; omega)))) b2)
    have SZ2 : w1.heap.size ≤ w2.heap.size := BQ.out.size
    have K2 := Lib.hid k2
    clear b2 k2 hg2
    refine hK.out _ _ ?_ (fun hHeld => ?_)
    · (try dsimp only)
      with_reducible refine S0.out _ ?_; (repeat' (first | (with_reducible exact BQ.out) | (with_reducible refine below_alloc' ?_ (Nat.le_refl _) _) | (with_reducible refine Below.drew ?_) | (with_reducible refine mk_below ?_ ?_ (Nat.le_refl _)) | (with_reducible exact Nat.le_refl _) | (have := BQ.out.size; omega)))
    clear hK K
    (try simp only [Act.put, List.setIfInBounds_toArray, List.set_cons_zero, List.set_cons_succ])
    refine wpAnyH_ready (rs := [0, 9]) (by kernel_rfl) (by simp) ?_
    refine AllReadyH.cons (o := { dst := some 13, op := Op.buildSlice 26 4 #[(0, Operand.const (Value.int IntKind.u8 80)), (1, Operand.const (Value.int IntKind.u8 76)), (2, Operand.const (Value.int IntKind.u8 77)), (3, Operand.const (Value.int IntKind.u8 80))], type := 26, pos := "super.go:101", after := #[], guard := none }) rfl (fun K hK => ?_) ?_
    · skip
      go_simp
      refine hK.out _ _ ?_ (fun hHeld => ?_)
      · (try dsimp only)
        with_reducible refine S0.out _ ?_; (repeat' (first | (with_reducible exact BQ.out) | (with_reducible refine below_alloc' ?_ (Nat.le_refl _) _) | (with_reducible refine Below.drew ?_) | (with_reducible refine mk_below ?_ ?_ (Nat.le_refl _)) | (with_reducible exact Nat.le_refl _) | (have := BQ.out.size; omega)))
      clear hK K
      (try simp only [Act.put, List.setIfInBounds_toArray, List.set_cons_zero, List.set_cons_succ])
      refine wpAnyH_ready (rs := [1, 9]) (by kernel_rfl) (by simp) ?_
      refine AllReadyH.cons (o := { dst := some 14, op := Op.convert 26 26 (Operand.tmp 13), type := 26, pos := "super.go:101", after := #[{ on := 0, ground := Ground.data }], guard := none }) rfl (fun K hK => ?_) ?_
      · skip
        go_simp
        refine hK.out _ _ ?_ (fun hHeld => ?_)
        · (try dsimp only)
          with_reducible refine S0.out _ ?_; (repeat' (first | (with_reducible exact BQ.out) | (with_reducible refine below_alloc' ?_ (Nat.le_refl _) _) | (with_reducible refine Below.drew ?_) | (with_reducible refine mk_below ?_ ?_ (Nat.le_refl _)) | (with_reducible exact Nat.le_refl _) | (have := BQ.out.size; omega)))
        clear hK K
        (try simp only [Act.put, List.setIfInBounds_toArray, List.set_cons_zero, List.set_cons_succ])
        refine wpAnyH_ready (rs := [9]) (by kernel_rfl) (by simp) ?_
        refine AllReadyH.cons (o := { dst := some 22, op := Op.call { callee := Callee.value (Operand.func 33), args := #[Operand.tmp 21], argTypes := #[23] }, type := 57, pos := "super.go:101", after := #[{ on := 8, ground := Ground.data }, { on := 5, ground := Ground.chain }], guard := none }) rfl (fun K hK => ?_) AllReadyH.nil
        go_simp
        go_at_call 33
        refine (D33.out _ (by (repeat' (first | (with_reducible exact BQ.out) | (with_reducible refine below_alloc' ?_ (Nat.le_refl _) _) | (with_reducible refine Below.drew ?_) | (with_reducible refine mk_below ?_ ?_ (Nat.le_refl _)) | (with_reducible exact Nat.le_refl _) | (have := BQ.out.size; omega))))).mono ?_
        rintro e w3 ⟨rfl, rfl⟩
        refine hK.out _ _ ?_ (fun hHeld => ?_)
        · (try dsimp only)
          with_reducible refine S0.out _ ?_; (repeat' (first | (with_reducible exact BQ.out) | (with_reducible refine below_alloc' ?_ (Nat.le_refl _) _) | (with_reducible refine Below.drew ?_) | (with_reducible refine mk_below ?_ ?_ (Nat.le_refl _)) | (with_reducible exact Nat.le_refl _) | (have := BQ.out.size; omega)))
        clear hK K
        (try simp only [Act.put, List.setIfInBounds_toArray, List.set_cons_zero, List.set_cons_succ])
        refine wpAnyH_ready (rs := [10]) (by kernel_rfl) (by simp) ?_
        refine AllReadyH.cons (o := { dst := some 23, op := Op.call { callee := Callee.value (Operand.func 32), args := #[Operand.tmp 22], argTypes := #[57] }, type := 26, pos := "super.go:101", after := #[{ on := 9, ground := Ground.data }, { on := 9, ground := Ground.chain }], guard := none }) rfl (fun K hK => ?_) AllReadyH.nil
        go_simp
        go_at_call 32
        refine (CB.out _).mono ?_
        rintro e w4 ⟨b4, g4, rfl, hg4, k4⟩
        have K2 := Lib.hid (Blk.low (by first | (with_reducible exact K2.out) | (with_reducible exact K2.out.alloc _) | (with_reducible exact blk_mk K2.out (bm_ne BM.out K2.out)) | (with_reducible refine blk_mk (K2.out.alloc _) ?_; have := K2.out.lt; omega)) b4)
        have BQ : Hid (Below w1.heap.size w1 w4) := Lib.hid (below_chain (by (repeat' (first | (with_reducible exact BQ.out) | (with_reducible refine below_alloc' ?_ (Nat.le_refl _) _) | (with_reducible refine Below.drew ?_) | (with_reducible refine mk_below ?_ ?_ (Nat.le_refl _)) | (with_reducible exact Nat.le_refl _) | (have := BQ.out.size; omega)))) b4)
        (first | (with_reducible refine (fun (BM : Hid (Bm w4 _)) => ?_) (Lib.hid (Bm.low (Bm.layd _) b4))) | (with_reducible refine (fun (BM : Hid (Bm w4 _)) => ?_) (Lib.hid (Bm.low (Bm.lay _) b4))) | (with_reducible refine (fun (BM : Hid (Bm w4 _)) => ?_) (Lib.hid (Bm.low (Bm.mk (Bm.layd _)) b4))) | (with_reducible refine (fun (BM : Hid (Bm w4 _)) => ?_) (Lib.hid (Bm.low (Bm.mk (Bm.lay _)) b4))))
        have K4 := Lib.hid k4
        clear b4 k4 hg4
        refine hK.out _ _ ?_ (fun hHeld => ?_)
        · (try dsimp only)
          with_reducible refine S0.out _ ?_; (repeat' (first | (with_reducible exact BQ.out) | (with_reducible refine below_alloc' ?_ (Nat.le_refl _) _) | (with_reducible refine Below.drew ?_) | (with_reducible refine mk_below ?_ ?_ (Nat.le_refl _)) | (with_reducible exact Nat.le_refl _) | (have := BQ.out.size; omega)))
        clear hK K
        (try simp only [Act.put, List.setIfInBounds_toArray, List.set_cons_zero, List.set_cons_succ])
        refine wpAnyH_ready (rs := [11]) (by kernel_rfl) (by simp) ?_
        refine AllReadyH.cons (o := { dst := some 24, op := Op.buildSlice 80 4 #[(0, Operand.tmp 14), (1, Operand.tmp 18), (2, Operand.tmp 19), (3, Operand.tmp 23)], type := 80, pos := "super.go:101", after := #[{ on := 1, ground := Ground.data }, { on := 5, ground := Ground.data }, { on := 6, ground := Ground.data }, { on := 10, ground := Ground.data }], guard := none }) rfl (fun K hK => ?_) AllReadyH.nil
        go_simp
        refine hK.out _ _ ?_ (fun hHeld => ?_)
        · (try dsimp only)
          with_reducible refine S0.out _ ?_; (repeat' (first | (with_reducible exact BQ.out) | (with_reducible refine below_alloc' ?_ (Nat.le_refl _) _) | (with_reducible refine Below.drew ?_) | (with_reducible refine mk_below ?_ ?_ (Nat.le_refl _)) | (with_reducible exact Nat.le_refl _) | (have := BQ.out.size; omega)))
        clear hK K
        (try simp only [Act.put, List.setIfInBounds_toArray, List.set_cons_zero, List.set_cons_succ])
        refine wpAnyH_ready (rs := [12]) (by kernel_rfl) (by simp) ?_
        refine AllReadyH.cons (o := { dst := some 25, op := Op.call { callee := Callee.value (Operand.func 31), args := #[Operand.tmp 24], argTypes := #[80] }, type := 26, pos := "super.go:101", after := #[{ on := 11, ground := Ground.data }, { on := 10, ground := Ground.chain }], guard := none }) rfl (fun K hK => ?_) AllReadyH.nil
        go_simp
        go_at_call 31
        refine (concat_any _ 4 [[80, 76, 77, 80], le8 g, m, le8 x] _ ?_ rfl (by decide) (by simp) (by rw [HFL.out]; decide) (by rw [HFL.out]; decide)).mono ?_
        · refine rws4 _ _ _ _ _ _ _ _ _ _ _ _ _ _ _ rfl rfl HMN.out.symm rfl (Blk.new _ _ 26 _ rfl) ?_ ?_ ?_ HKN.out ?_
          · exact (by first | (with_reducible exact Bm.alloc (Bm.layd _) _) | (with_reducible exact Bm.alloc (Bm.lay _) _) | (with_reducible exact Bm.alloc (Bm.mk (Bm.layd _)) _) | (with_reducible exact Bm.alloc (Bm.mk (Bm.lay _)) _) | (with_reducible exact Bm.alloc (Bm.mk BM.out) _) | (with_reducible exact Bm.alloc BM.out _) : Bm _ _).byt
          · exact Blk.byt (Blk.alloc (by first | (with_reducible exact K2.out) | (with_reducible exact K2.out.alloc _) | (with_reducible exact blk_mk K2.out (bm_ne BM.out K2.out)) | (with_reducible refine blk_mk (K2.out.alloc _) ?_; have := K2.out.lt; omega)) _)
          · exact HKZ.out _ (by (repeat' (first | (with_reducible exact BQ.out) | (with_reducible refine below_alloc' ?_ (Nat.le_refl _) _) | (with_reducible refine Below.drew ?_) | (with_reducible refine mk_below ?_ ?_ (Nat.le_refl _)) | (with_reducible exact Nat.le_refl _) | (have := BQ.out.size; omega))))
          · exact Blk.byt (Blk.alloc (by first | (with_reducible exact K4.out) | (with_reducible exact K4.out.alloc _) | (with_reducible exact blk_mk K4.out (bm_ne BM.out K4.out)) | (with_reducible refine blk_mk (K4.out.alloc _) ?_; have := K4.out.lt; omega)) _)
        rintro e w5 ⟨b5, v5, rfl, o5⟩
        skip
        have BQ0 := BQ
        have BQ : Hid (Below w1.heap.size w1 w5) := Lib.hid (below_chain (by (repeat' (first | (with_reducible exact BQ.out) | (with_reducible refine below_alloc' ?_ (Nat.le_refl _) _) | (with_reducible refine Below.drew ?_) | (with_reducible refine mk_below ?_ ?_ (Nat.le_refl _)) | (with_reducible exact Nat.le_refl _) | (have := BQ.out.size; omega)))) b5)
        have O5 : Hid (Own w5 w1.heap.size v5 (headL g m x)) := by
          refine Lib.hid ?_
          rw [← HFE.out]
          refine o5.low ?_
          have := BQ0.out.size
          (first | (rw [World.size_alloc]; omega) | (rw [World.size_alloc, mk_size]; omega) | (rw [World.size_alloc, mk_size, World.size_alloc]; omega) | (rw [World.size_alloc, World.size_alloc]; omega))
        clear b5 o5
        refine hK.out _ _ ?_ (fun hHeld => ?_)
        · (try dsimp only)
          with_reducible refine S0.out _ ?_; (repeat' (first | (with_reducible exact BQ.out) | (with_reducible refine below_alloc' ?_ (Nat.le_refl _) _) | (with_reducible refine Below.drew ?_) | (with_reducible refine mk_below ?_ ?_ (Nat.le_refl _)) | (with_reducible exact Nat.le_refl _) | (have := BQ.out.size; omega)))
        clear hK K
        (try simp only [Act.put, List.setIfInBounds_toArray, List.set_cons_zero, List.set_cons_succ])
        refine wpAnyH_take (i := 13) (oi := { dst := some 5, op := Op.assign (Operand.tmp 25), type := 26, pos := "super.go:101", after := #[{ on := 12, ground := Ground.data }, { on := 12, ground := Ground.chain }, { on := 0, ground := Ground.phase }, { on := 1, ground := Ground.phase }, { on := 2, ground := Ground.phase }, { on := 3, ground := Ground.phase }, { on := 4, ground := Ground.phase }, { on := 5, ground := Ground.phase }, { on := 6, ground := Ground.phase }, { on := 7, ground := Ground.phase }, { on := 8, ground := Ground.phase }, { on := 9, ground := Ground.phase }, { on := 10, ground := Ground.phase }, { on := 11, ground := Ground.phase }, { on := 12, ground := Ground.phase }], guard := none }) (v := v5) rfl (by kernel_rfl) (by kernel_rfl) (by kernel_rfl) (fun _ _ _ h => h) (Or.inl ⟨by rfl, fun w hSw => by (try dsimp only at hSw); go_simp⟩) (by assumption) ?_
        (try simp only [Act.put, List.setIfInBounds_toArray, List.set_cons_zero, List.set_cons_succ])
        refine wpAnyH_done (by kernel_rfl) ?_ _
        go_wp2_with fail
        go_meet
        exact ⟨_, rfl, Lib.hid ⟨BQ.out, O5.out⟩⟩
      refine AllReadyH.cons (o := { dst := some 22, op := Op.call { callee := Callee.value (Operand.func 33), args := #[Operand.tmp 21], argTypes := #[23] }, type := 57, pos := "super.go:101", after := #[{ on := 8, ground := Ground.data }, { on := 5, ground := Ground.chain }], guard := none }) rfl (fun K hK => ?_) AllReadyH.nil
      go_simp
      go_at_call 33
      refine (D33.out _ (by (repeat' (first | (with_reducible exact BQ.out) | (with_reducible refine below_alloc' ?_ (Nat.le_refl _) _) | (with_reducible refine Below.drew ?_) | (with_reducible refine mk_below ?_ ?_ (Nat.le_refl _)) | (with_reducible exact Nat.le_refl _) | (have := BQ.out.size; omega))))).mono ?_
      rintro e w3 ⟨rfl, rfl⟩
      refine hK.out _ _ ?_ (fun hHeld => ?_)
      · (try dsimp only)
        with_reducible refine S0.out _ ?_; (repeat' (first | (with_reducible exact BQ.out) | (with_reducible refine below_alloc' ?_ (Nat.le_refl _) _) | (with_reducible refine Below.drew ?_) | (with_reducible refine mk_below ?_ ?_ (Nat.le_refl _)) | (with_reducible exact Nat.le_refl _) | (have := BQ.out.size; omega)))
      clear hK K
      (try simp only [Act.put, List.setIfInBounds_toArray, List.set_cons_zero, List.set_cons_succ])
      refine wpAnyH_ready (rs := [1, 10]) (by kernel_rfl) (by simp) ?_
      refine AllReadyH.cons (o := { dst := some 14, op := Op.convert 26 26 (Operand.tmp 13), type := 26, pos := "super.go:101", after := #[{ on := 0, ground := Ground.data }], guard := none }) rfl (fun K hK => ?_) ?_
      · skip
        go_simp
        refine hK.out _ _ ?_ (fun hHeld => ?_)
        · (try dsimp only)
          with_reducible refine S0.out _ ?_; (repeat' (first | (with_reducible exact BQ.out) | (with_reducible refine below_alloc' ?_ (Nat.le_refl _) _) | (with_reducible refine Below.drew ?_) | (with_reducible refine mk_below ?_ ?_ (Nat.le_refl _)) | (with_reducible exact Nat.le_refl _) | (have := BQ.out.size; omega)))
        clear hK K
        (try simp only [Act.put, List.setIfInBounds_toArray, List.set_cons_zero, List.set_cons_succ])
        refine wpAnyH_ready (rs := [10]) (by kernel_rfl) (by simp) ?_
        refine AllReadyH.cons (o := { dst := some 23, op := Op.call { callee := Callee.value (Operand.func 32), args := #[Operand.tmp 22], argTypes := #[57] }, type := 26, pos := "super.go:101", after := #[{ on := 9, ground := Ground.data }, { on := 9, ground := Ground.chain }], guard := none }) rfl (fun K hK => ?_) AllReadyH.nil
        go_simp
        go_at_call 32
        refine (CB.out _).mono ?_
        rintro e w4 ⟨b4, g4, rfl, hg4, k4⟩
        have K2 := Lib.hid (Blk.low (by first | (with_reducible exact K2.out) | (with_reducible exact K2.out.alloc _) | (with_reducible exact blk_mk K2.out (bm_ne BM.out K2.out)) | (with_reducible refine blk_mk (K2.out.alloc _) ?_; have := K2.out.lt; omega)) b4)
        have BQ : Hid (Below w1.heap.size w1 w4) := Lib.hid (below_chain (by (repeat' (first | (with_reducible exact BQ.out) | (with_reducible refine below_alloc' ?_ (Nat.le_refl _) _) | (with_reducible refine Below.drew ?_) | (with_reducible refine mk_below ?_ ?_ (Nat.le_refl _)) | (with_reducible exact Nat.le_refl _) | (have := BQ.out.size; omega)))) b4)
        (first | (with_reducible refine (fun (BM : Hid (Bm w4 _)) => ?_) (Lib.hid (Bm.low (Bm.layd _) b4))) | (with_reducible refine (fun (BM : Hid (Bm w4 _)) => ?_) (Lib.hid (Bm.low (Bm.lay _) b4))) | (with_reducible refine (fun (BM : Hid (Bm w4 _)) => ?_) (Lib.hid (Bm.low (Bm.mk (Bm.layd _)) b4))) | (with_reducible refine (fun (BM : Hid (Bm w4 _)) => ?_) (Lib.hid (Bm.low (Bm.mk (Bm.lay _)) b4))))
        have K4 := Lib.hid k4
        clear b4 k4 hg4
        refine hK.out _ _ ?_ (fun hHeld => ?_)
        · (try dsimp only)
          with_reducible refine S0.out _ ?_; (repeat' (first | (with_reducible exact BQ.out) | (with_reducible refine below_alloc' ?_ (Nat.le_refl _) _) | (with_reducible refine Below.drew ?_) | (with_reducible refine mk_below ?_ ?_ (Nat.le_refl _)) | (with_reducible exact Nat.le_refl _) | (have := BQ.out.size; omega)))
        clear hK K
        (try simp only [Act.put, List.setIfInBounds_toArray, List.set_cons_zero, List.set_cons_succ])
        refine wpAnyH_ready (rs := [11]) (by kernel_rfl) (by simp) ?_
        refine AllReadyH.cons (o := { dst := some 24, op := Op.buildSlice 80 4 #[(0, Operand.tmp 14), (1, Operand.tmp 18), (2, Operand.tmp 19), (3, Operand.tmp 23)], type := 80, pos := "super.go:101", after := #[{ on := 1, ground := Ground.data }, { on := 5, ground := Ground.data }, { on := 6, ground := Ground.data }, { on := 10, ground := Ground.data }], guard := none }) rfl (fun K hK => ?_) AllReadyH.nil
        go_simp
        refine hK.out _ _ ?_ (fun hHeld => ?_)
        · (try dsimp only)
          with_reducible refine S0.out _ ?_; (repeat' (first | (with_reducible exact BQ.out) | (with_reducible refine below_alloc' ?_ (Nat.le_refl _) _) | (with_reducible refine Below.drew ?_) | (with_reducible refine mk_below ?_ ?_ (Nat.le_refl _)) | (with_reducible exact Nat.le_refl _) | (have := BQ.out.size; omega)))
        clear hK K
        (try simp only [Act.put, List.setIfInBounds_toArray, List.set_cons_zero, List.set_cons_succ])
        refine wpAnyH_ready (rs := [12]) (by kernel_rfl) (by simp) ?_
        refine AllReadyH.cons (o := { dst := some 25, op := Op.call { callee := Callee.value (Operand.func 31), args := #[Operand.tmp 24], argTypes := #[80] }, type := 26, pos := "super.go:101", after := #[{ on := 11, ground := Ground.data }, { on := 10, ground := Ground.chain }], guard := none }) rfl (fun K hK => ?_) AllReadyH.nil
        go_simp
        go_at_call 31
        refine (concat_any _ 4 [[80, 76, 77, 80], le8 g, m, le8 x] _ ?_ rfl (by decide) (by simp) (by rw [HFL.out]; decide) (by rw [HFL.out]; decide)).mono ?_
        · refine rws4 _ _ _ _ _ _ _ _ _ _ _ _ _ _ _ rfl rfl HMN.out.symm rfl (Blk.new _ _ 26 _ rfl) ?_ ?_ ?_ HKN.out ?_
          · exact (by first | (with_reducible exact Bm.alloc (Bm.layd _) _) | (with_reducible exact Bm.alloc (Bm.lay _) _) | (with_reducible exact Bm.alloc (Bm.mk (Bm.layd _)) _) | (with_reducible exact Bm.alloc (Bm.mk (Bm.lay _)) _) | (with_reducible exact Bm.alloc (Bm.mk BM.out) _) | (with_reducible exact Bm.alloc BM.out _) : Bm _ _).byt
          · exact Blk.byt (Blk.alloc (by first | (with_reducible exact K2.out) | (with_reducible exact K2.out.alloc _) | (with_reducible exact blk_mk K2.out (bm_ne BM.out K2.out)) | (with_reducible refine blk_mk (K2.out.alloc _) ?_; have := K2.out.lt; omega)) _)
          · exact HKZ.out _ (by (repeat' (first | (with_reducible exact BQ.out) | (with_reducible refine below_alloc' ?_ (Nat.le_refl _) _) | (with_reducible refine Below.drew ?_) | (with_reducible refine mk_below ?_ ?_ (Nat.le_refl _)) | (with_reducible exact Nat.le_refl _) | (have := BQ.out.size; omega))))
          · exact Blk.byt (Blk.alloc (by first | (with_reducible exact K4.out) | (with_reducible exact K4.out.alloc _) | (with_reducible exact blk_mk K4.out (bm_ne BM.out K4.out)) | (with_reducible refine blk_mk (K4.out.alloc _) ?_; have := K4.out.lt; omega)) _)
        rintro e w5 ⟨b5, v5, rfl, o5⟩
        skip
        have BQ0 := BQ
        have BQ : Hid (Below w1.heap.size w1 w5) := Lib.hid (below_chain (by (repeat' (first | (with_reducible exact BQ.out) | (with_reducible refine below_alloc' ?_ (Nat.le_refl _) _) | (with_reducible refine Below.drew ?_) | (with_reducible refine mk_below ?_ ?_ (Nat.le_refl _)) | (with_reducible exact Nat.le_refl _) | (have := BQ.out.size; omega)))) b5)
        have O5 : Hid (Own w5 w1.heap.size v5 (headL g m x)) := by
          refine Lib.hid ?_
          rw [← HFE.out]
          refine o5.low ?_
          have := BQ0.out.size
          (first | (rw [World.size_alloc]; omega) | (rw [World.size_alloc, mk_size]; omega) | (rw [World.size_alloc, mk_size, World.size_alloc]; omega) | (rw [World.size_alloc, World.size_alloc]; omega))
        clear b5 o5
        refine hK.out _ _ ?_ (fun hHeld => ?_)
        · (try dsimp only)
          with_reducible refine S0.out _ ?_; (repeat' (first | (with_reducible exact BQ.out) | (with_reducible refine below_alloc' ?_ (Nat.le_refl _) _) | (with_reducible refine Below.drew ?_) | (with_reducible refine mk_below ?_ ?_ (Nat.le_refl _)) | (with_reducible exact Nat.le_refl _) | (have := BQ.out.size; omega)))
        clear hK K
        (try simp only [Act.put, List.setIfInBounds_toArray, List.set_cons_zero, List.set_cons_succ])
        refine wpAnyH_take (i := 13) (oi := { dst := some 5, op := Op.assign (Operand.tmp 25), type := 26, pos := "super.go:101", after := #[{ on := 12, ground := Ground.data }, { on := 12, ground := Ground.chain }, { on := 0, ground := Ground.phase }, { on := 1, ground := Ground.phase }, { on := 2, ground := Ground.phase }, { on := 3, ground := Ground.phase }, { on := 4, ground := Ground.phase }, { on := 5, ground := Ground.phase }, { on := 6, ground := Ground.phase }, { on := 7, ground := Ground.phase }, { on := 8, ground := Ground.phase }, { on := 9, ground := Ground.phase }, { on := 10, ground := Ground.phase }, { on := 11, ground := Ground.phase }, { on := 12, ground := Ground.phase }], guard := none }) (v := v5) rfl (by kernel_rfl) (by kernel_rfl) (by kernel_rfl) (fun _ _ _ h => h) (Or.inl ⟨by rfl, fun w hSw => by (try dsimp only at hSw); go_simp⟩) (by assumption) ?_
        (try simp only [Act.put, List.setIfInBounds_toArray, List.set_cons_zero, List.set_cons_succ])
        refine wpAnyH_done (by kernel_rfl) ?_ _
        go_wp2_with fail
        go_meet
        exact ⟨_, rfl, Lib.hid ⟨BQ.out, O5.out⟩⟩
      refine AllReadyH.cons (o := { dst := some 23, op := Op.call { callee := Callee.value (Operand.func 32), args := #[Operand.tmp 22], argTypes := #[57] }, type := 26, pos := "super.go:101", after := #[{ on := 9, ground := Ground.data }, { on := 9, ground := Ground.chain }], guard := none }) rfl (fun K hK => ?_) AllReadyH.nil
      go_simp
      go_at_call 32
      refine (CB.out _).mono ?_
      rintro e w4 ⟨b4, g4, rfl, hg4, k4⟩
      have K2 := Lib.hid (Blk.low (by first | (with_reducible exact K2.out) | (with_reducible exact K2.out.alloc _) | (with_reducible exact blk_mk K2.out (bm_ne BM.out K2.out)) | (with_reducible refine blk_mk (K2.out.alloc _) ?_; have := K2.out.lt; omega)) b4)
      have BQ : Hid (Below w1.heap.size w1 w4) := Lib.hid (below_chain (by (repeat' (first | (with_reducible exact BQ.out) | (with_reducible refine below_alloc' ?_ (Nat.le_refl _) _) | (with_reducible refine Below.drew ?_) | (with_reducible refine mk_below ?_ ?_ (Nat.le_refl _)) | (with_reducible exact Nat.le_refl _) | (have := BQ.out.size; omega)))) b4)
      (first | (with_reducible refine (fun (BM : Hid (Bm w4 _)) => ?_) (Lib.hid (Bm.low (Bm.layd _) b4))) | (with_reducible refine (fun (BM : Hid (Bm w4 _)) => ?_) (Lib.hid (Bm.low (Bm.lay _) b4))) | (with_reducible refine (fun (BM : Hid (Bm w4 _)) => ?_) (Lib.hid (Bm.low (Bm.mk (Bm.layd _)) b4))) | (with_reducible refine (fun (BM : Hid (Bm w4 _)) => ?_) (Lib.hid (Bm.low (Bm.mk (Bm.lay _)) b4))))
      (first | ((with_reducible refine (fun (PL : Blk w4 _ P4 5) => ?_) (Blk.low (Blk.drew (Blk.new _ P4 5 _ rfl)) b4)); have cv := conv_blk w4 _ PL) | ((with_reducible refine (fun (PL : Blk w4 _ P4 5) => ?_) (Blk.low (Blk.new _ P4 5 _ rfl) b4)); have cv := conv_blk w4 _ PL))
      have K4 := Lib.hid k4
      clear b4 k4 hg4
      refine hK.out _ _ ?_ (fun hHeld => ?_)
      · (try dsimp only)
        with_reducible refine S0.out _ ?_; (repeat' (first | (with_reducible exact BQ.out) | (with_reducible refine below_alloc' ?_ (Nat.le_refl _) _) | (with_reducible refine Below.drew ?_) | (with_reducible refine mk_below ?_ ?_ (Nat.le_refl _)) | (with_reducible exact Nat.le_refl _) | (have := BQ.out.size; omega)))
      clear hK K
      (try simp only [Act.put, List.setIfInBounds_toArray, List.set_cons_zero, List.set_cons_succ])
      refine wpAnyH_ready (rs := [1]) (by kernel_rfl) (by simp) ?_
      refine AllReadyH.cons (o := { dst := some 14, op := Op.convert 26 26 (Operand.tmp 13), type := 26, pos := "super.go:101", after := #[{ on := 0, ground := Ground.data }], guard := none }) rfl (fun K hK => ?_) AllReadyH.nil
      go_simp
      refine hK.out _ _ ?_ (fun hHeld => ?_)
      · (try dsimp only)
        with_reducible refine S0.out _ ?_; (repeat' (first | (with_reducible exact BQ.out) | (with_reducible refine below_alloc' ?_ (Nat.le_refl _) _) | (with_reducible refine Below.drew ?_) | (with_reducible refine mk_below ?_ ?_ (Nat.le_refl _)) | (with_reducible exact Nat.le_refl _) | (have := BQ.out.size; omega)))
      clear hK K
      (try simp only [Act.put, List.setIfInBounds_toArray, List.set_cons_zero, List.set_cons_succ])
      refine wpAnyH_ready (rs := [11]) (by kernel_rfl) (by simp) ?_
      refine AllReadyH.cons (o := { dst := some 24, op := Op.buildSlice 80 4 #[(0, Operand.tmp 14), (1, Operand.tmp 18), (2, Operand.tmp 19), (3, Operand.tmp 23)], type := 80, pos := "super.go:101", after := #[{ on := 1, ground := Ground.data }, { on := 5, ground := Ground.data }, { on := 6, ground := Ground.data }, { on := 10, ground := Ground.data }], guard := none }) rfl (fun K hK => ?_) AllReadyH.nil
      go_simp
      refine hK.out _ _ ?_ (fun hHeld => ?_)
      · (try dsimp only)
        with_reducible refine S0.out _ ?_; (repeat' (first | (with_reducible exact BQ.out) | (with_reducible refine below_alloc' ?_ (Nat.le_refl _) _) | (with_reducible refine Below.drew ?_) | (with_reducible refine mk_below ?_ ?_ (Nat.le_refl _)) | (with_reducible exact Nat.le_refl _) | (have := BQ.out.size; omega)))
      clear hK K
      (try simp only [Act.put, List.setIfInBounds_toArray, List.set_cons_zero, List.set_cons_succ])
      refine wpAnyH_ready (rs := [12]) (by kernel_rfl) (by simp) ?_
      refine AllReadyH.cons (o := { dst := some 25, op := Op.call { callee := Callee.value (Operand.func 31), args := #[Operand.tmp 24], argTypes := #[80] }, type := 26, pos := "super.go:101", after := #[{ on := 11, ground := Ground.data }, { on := 10, ground := Ground.chain }], guard := none }) rfl (fun K hK => ?_) AllReadyH.nil
      go_simp
      go_at_call 31
      refine (concat_any _ 4 [[80, 76, 77, 80], le8 g, m, le8 x] _ ?_ rfl (by decide) (by simp) (by rw [HFL.out]; decide) (by rw [HFL.out]; decide)).mono ?_
      · refine rws4 _ _ _ _ _ _ _ _ _ _ _ _ _ _ _ rfl rfl HMN.out.symm rfl (Blk.new _ _ 26 _ rfl) ?_ ?_ ?_ HKN.out ?_
        · exact (by first | (with_reducible exact Bm.alloc (Bm.layd _) _) | (with_reducible exact Bm.alloc (Bm.lay _) _) | (with_reducible exact Bm.alloc (Bm.mk (Bm.layd _)) _) | (with_reducible exact Bm.alloc (Bm.mk (Bm.lay _)) _) | (with_reducible exact Bm.alloc (Bm.mk BM.out) _) | (with_reducible exact Bm.alloc BM.out _) : Bm _ _).byt
        · exact Blk.byt (Blk.alloc (by first | (with_reducible exact K2.out) | (with_reducible exact K2.out.alloc _) | (with_reducible exact blk_mk K2.out (bm_ne BM.out K2.out)) | (with_reducible refine blk_mk (K2.out.alloc _) ?_; have := K2.out.lt; omega)) _)
        · exact HKZ.out _ (by (repeat' (first | (with_reducible exact BQ.out) | (with_reducible refine below_alloc' ?_ (Nat.le_refl _) _) | (with_reducible refine Below.drew ?_) | (with_reducible refine mk_below ?_ ?_ (Nat.le_refl _)) | (with_reducible exact Nat.le_refl _) | (have := BQ.out.size; omega))))
        · exact Blk.byt (Blk.alloc (by first | (with_reducible exact K4.out) | (with_reducible exact K4.out.alloc _) | (with_reducible exact blk_mk K4.out (bm_ne BM.out K4.out)) | (with_reducible refine blk_mk (K4.out.alloc _) ?_; have := K4.out.lt; omega)) _)
      rintro e w5 ⟨b5, v5, rfl, o5⟩
      skip
      have BQ0 := BQ
      have BQ : Hid (Below w1.heap.size w1 w5) := Lib.hid (below_chain (by (repeat' (first | (with_reducible exact BQ.out) | (with_reducible refine below_alloc' ?_ (Nat.le_refl _) _) | (with_reducible refine Below.drew ?_) | (with_reducible refine mk_below ?_ ?_ (Nat.le_refl _)) | (with_reducible exact Nat.le_refl _) | (have := BQ.out.size; omega)))) b5)
      have O5 : Hid (Own w5 w1.heap.size v5 (headL g m x)) := by
        refine Lib.hid ?_
        rw [← HFE.out]
        refine o5.low ?_
        have := BQ0.out.size
        (first | (rw [World.size_alloc]; omega) | (rw [World.size_alloc, mk_size]; omega) | (rw [World.size_alloc, mk_size, World.size_alloc]; omega) | (rw [World.size_alloc, World.size_alloc]; omega))
      clear b5 o5
      refine hK.out _ _ ?_ (fun hHeld => ?_)
      · (try dsimp only)
        with_reducible refine S0.out _ ?_; (repeat' (first | (with_reducible exact BQ.out) | (with_reducible refine below_alloc' ?_ (Nat.le_refl _) _) | (with_reducible refine Below.drew ?_) | (with_reducible refine mk_below ?_ ?_ (Nat.le_refl _)) | (with_reducible exact Nat.le_refl _) | (have := BQ.out.size; omega)))
      clear hK K
      (try simp only [Act.put, List.setIfInBounds_toArray, List.set_cons_zero, List.set_cons_succ])
      refine wpAnyH_take (i := 13) (oi := { dst := some 5, op := Op.assign (Operand.tmp 25), type := 26, pos := "super.go:101", after := #[{ on := 12, ground := Ground.data }, { on := 12, ground := Ground.chain }, { on := 0, ground := Ground.phase }, { on := 1, ground := Ground.phase }, { on := 2, ground := Ground.phase }, { on := 3, ground := Ground.phase }, { on := 4, ground := Ground.phase }, { on := 5, ground := Ground.phase }, { on := 6, ground := Ground.phase }, { on := 7, ground := Ground.phase }, { on := 8, ground := Ground.phase }, { on := 9, ground := Ground.phase }, { on := 10, ground := Ground.phase }, { on := 11, ground := Ground.phase }, { on := 12, ground := Ground.phase }], guard := none }) (v := v5) rfl (by kernel_rfl) (by kernel_rfl) (by kernel_rfl) (fun _ _ _ h => h) (Or.inl ⟨by rfl, fun w hSw => by (try dsimp only at hSw); go_simp⟩) (by assumption) ?_
      (try simp only [Act.put, List.setIfInBounds_toArray, List.set_cons_zero, List.set_cons_succ])
      refine wpAnyH_done (by kernel_rfl) ?_ _
      go_wp2_with fail
      go_meet
      exact ⟨_, rfl, Lib.hid ⟨BQ.out, O5.out⟩⟩
    refine AllReadyH.cons (o := { dst := some 22, op := Op.call { callee := Callee.value (Operand.func 33), args := #[Operand.tmp 21], argTypes := #[23] }, type := 57, pos := "super.go:101", after := #[{ on := 8, ground := Ground.data }, { on := 5, ground := Ground.chain }], guard := none }) rfl (fun K hK => ?_) AllReadyH.nil
    go_simp
    go_at_call 33
    refine (D33.out _ (by (repeat' (first | (with_reducible exact BQ.out) | (with_reducible refine below_alloc' ?_ (Nat.le_refl _) _) | (with_reducible refine Below.drew ?_) | (with_reducible refine mk_below ?_ ?_ (Nat.le_refl _)) | (with_reducible exact Nat.le_refl _) | (have := BQ.out.size; omega))))).mono ?_
    rintro e w3 ⟨rfl, rfl⟩
    refine hK.out _ _ ?_ (fun hHeld => ?_)
    · (try dsimp only)
      with_reducible refine S0.out _ ?_; (repeat' (first | (with_reducible exact BQ.out) | (with_reducible refine below_alloc' ?_ (Nat.le_refl _) _) | (with_reducible refine Below.drew ?_) | (with_reducible refine mk_below ?_ ?_ (Nat.le_refl _)) | (with_reducible exact Nat.le_refl _) | (have := BQ.out.size; omega)))
    clear hK K
    (try simp only [Act.put, List.setIfInBounds_toArray, List.set_cons_zero, List.set_cons_succ])
    refine wpAnyH_ready (rs := [0, 10]) (by kernel_rfl) (by simp) ?_
    refine AllReadyH.cons (o := { dst := some 13, op := Op.buildSlice 26 4 #[(0, Operand.const (Value.int IntKind.u8 80)), (1, Operand.const (Value.int IntKind.u8 76)), (2, Operand.const (Value.int IntKind.u8 77)), (3, Operand.const (Value.int IntKind.u8 80))], type := 26, pos := "super.go:101", after := #[], guard := none }) rfl (fun K hK => ?_) ?_
    · skip
      go_simp
      refine hK.out _ _ ?_ (fun hHeld => ?_)
      · (try dsimp only)
        with_reducible refine S0.out _ ?_; (repeat' (first | (with_reducible exact BQ.out) | (with_reducible refine below_alloc' ?_ (Nat.le_refl _) _) | (with_reducible refine Below.drew ?_) | (with_reducible refine mk_below ?_ ?_ (Nat.le_refl _)) | (with_reducible exact Nat.le_refl _) | (have := BQ.out.size; omega)))
      clear hK K
      (try simp only [Act.put, List.setIfInBounds_toArray, List.set_cons_zero, List.set_cons_succ])
      refine wpAnyH_ready (rs := [1, 10]) (by kernel_rfl) (by simp) ?_
      refine AllReadyH.cons (o := { dst := some 14, op := Op.convert 26 26 (Operand.tmp 13), type := 26, pos := "super.go:101", after := #[{ on := 0, ground := Ground.data }], guard := none }) rfl (fun K hK => ?_) ?_
      · skip
        go_simp
        refine hK.out _ _ ?_ (fun hHeld => ?_)
        · (try dsimp only)
          with_reducible refine S0.out _ ?_; (repeat' (first | (with_reducible exact BQ.out) | (with_reducible refine below_alloc' ?_ (Nat.le_refl _) _) | (with_reducible refine Below.drew ?_) | (with_reducible refine mk_below ?_ ?_ (Nat.le_refl _)) | (with_reducible exact Nat.le_refl _) | (have := BQ.out.size; omega)))
        clear hK K
        (try simp only [Act.put, List.setIfInBounds_toArray, List.set_cons_zero, List.set_cons_succ])
        refine wpAnyH_ready (rs := [10]) (by kernel_rfl) (by simp) ?_
        refine AllReadyH.cons (o := { dst := some 23, op := Op.call { callee := Callee.value (Operand.func 32), args := #[Operand.tmp 22], argTypes := #[57] }, type := 26, pos := "super.go:101", after := #[{ on := 9, ground := Ground.data }, { on := 9, ground := Ground.chain }], guard := none }) rfl (fun K hK => ?_) AllReadyH.nil
        go_simp
        go_at_call 32
        refine (CB.out _).mono ?_
        rintro e w4 ⟨b4, g4, rfl, hg4, k4⟩
        have K2 := Lib.hid (Blk.low (by first | (with_reducible exact K2.out) | (with_reducible exact K2.out.alloc _) | (with_reducible exact blk_mk K2.out (bm_ne BM.out K2.out)) | (with_reducible refine blk_mk (K2.out.alloc _) ?_; have := K2.out.lt; omega)) b4)
        have BQ : Hid (Below w1.heap.size w1 w4) := Lib.hid (below_chain (by (repeat' (first | (with_reducible exact BQ.out) | (with_reducible refine below_alloc' ?_ (Nat.le_refl _) _) | (with_reducible refine Below.drew ?_) | (with_reducible refine mk_below ?_ ?_ (Nat.le_refl _)) | (with_reducible exact Nat.le_refl _) | (have := BQ.out.size; omega)))) b4)
        (first | (with_reducible refine (fun (BM : Hid (Bm w4 _)) => ?_) (Lib.hid (Bm.low (Bm.layd _) b4))) | (with_reducible refine (fun (BM : Hid (Bm w4 _)) => ?_) (Lib.hid (Bm.low (Bm.lay _) b4))) | (with_reducible refine (fun (BM : Hid (Bm w4 _)) => ?_) (Lib.hid (Bm.low (Bm.mk (Bm.layd _)) b4))) | (with_reducible refine (fun (BM : Hid (Bm w4 _)) => ?_) (Lib.hid (Bm.low (Bm.mk (Bm.lay _)) b4))))
        have K4 := Lib.hid k4
        clear b4 k4 hg4
        refine hK.out _ _ ?_ (fun hHeld => ?_)
        · (try dsimp only)
          with_reducible refine S0.out _ ?_; (repeat' (first | (with_reducible exact BQ.out) | (with_reducible refine below_alloc' ?_ (Nat.le_refl _) _) | (with_reducible refine Below.drew ?_) | (with_reducible refine mk_below ?_ ?_ (Nat.le_refl _)) | (with_reducible exact Nat.le_refl _) | (have := BQ.out.size; omega)))
        clear hK K
        (try simp only [Act.put, List.setIfInBounds_toArray, List.set_cons_zero, List.set_cons_succ])
        refine wpAnyH_ready (rs := [11]) (by kernel_rfl) (by simp) ?_
        refine AllReadyH.cons (o := { dst := some 24, op := Op.buildSlice 80 4 #[(0, Operand.tmp 14), (1, Operand.tmp 18), (2, Operand.tmp 19), (3, Operand.tmp 23)], type := 80, pos := "super.go:101", after := #[{ on := 1, ground := Ground.data }, { on := 5, ground := Ground.data }, { on := 6, ground := Ground.data }, { on := 10, ground := Ground.data }], guard := none }) rfl (fun K hK => ?_) AllReadyH.nil
        go_simp
        refine hK.out _ _ ?_ (fun hHeld => ?_)
        · (try dsimp only)
          with_reducible refine S0.out _ ?_; (repeat' (first | (with_reducible exact BQ.out) | (with_reducible refine below_alloc' ?_ (Nat.le_refl _) _) | (with_reducible refine Below.drew ?_) | (with_reducible refine mk_below ?_ ?_ (Nat.le_refl _)) | (with_reducible exact Nat.le_refl _) | (have := BQ.out.size; omega)))
        clear hK K
        (try simp only [Act.put, List.setIfInBounds_toArray, List.set_cons_zero, List.set_cons_succ])
        refine wpAnyH_ready (rs := [12]) (by kernel_rfl) (by simp) ?_
        refine AllReadyH.cons (o := { dst := some 25, op := Op.call { callee := Callee.value (Operand.func 31), args := #[Operand.tmp 24], argTypes := #[80] }, type := 26, pos := "super.go:101", after := #[{ on := 11, ground := Ground.data }, { on := 10, ground := Ground.chain }], guard := none }) rfl (fun K hK => ?_) AllReadyH.nil
        go_simp
        go_at_call 31
        refine (concat_any _ 4 [[80, 76, 77, 80], le8 g, m, le8 x] _ ?_ rfl (by decide) (by simp) (by rw [HFL.out]; decide) (by rw [HFL.out]; decide)).mono ?_
        · refine rws4 _ _ _ _ _ _ _ _ _ _ _ _ _ _ _ rfl rfl HMN.out.symm rfl (Blk.new _ _ 26 _ rfl) ?_ ?_ ?_ HKN.out ?_
          · exact (by first | (with_reducible exact Bm.alloc (Bm.layd _) _) | (with_reducible exact Bm.alloc (Bm.lay _) _) | (with_reducible exact Bm.alloc (Bm.mk (Bm.layd _)) _) | (with_reducible exact Bm.alloc (Bm.mk (Bm.lay _)) _) | (with_reducible exact Bm.alloc (Bm.mk BM.out) _) | (with_reducible exact Bm.alloc BM.out _) : Bm _ _).byt
          · exact Blk.byt (Blk.alloc (by first | (with_reducible exact K2.out) | (with_reducible exact K2.out.alloc _) | (with_reducible exact blk_mk K2.out (bm_ne BM.out K2.out)) | (with_reducible refine blk_mk (K2.out.alloc _) ?_; have := K2.out.lt; omega)) _)
          · exact HKZ.out _ (by (repeat' (first | (with_reducible exact BQ.out) | (with_reducible refine below_alloc' ?_ (Nat.le_refl _) _) | (with_reducible refine Below.drew ?_) | (with_reducible refine mk_below ?_ ?_ (Nat.le_refl _)) | (with_reducible exact Nat.le_refl _) | (have := BQ.out.size; omega))))
          · exact Blk.byt (Blk.alloc (by first | (with_reducible exact K4.out) | (with_reducible exact K4.out.alloc _) | (with_reducible exact blk_mk K4.out (bm_ne BM.out K4.out)) | (with_reducible refine blk_mk (K4.out.alloc _) ?_; have := K4.out.lt; omega)) _)
        rintro e w5 ⟨b5, v5, rfl, o5⟩
        skip
        have BQ0 := BQ
        have BQ : Hid (Below w1.heap.size w1 w5) := Lib.hid (below_chain (by (repeat' (first | (with_reducible exact BQ.out) | (with_reducible refine below_alloc' ?_ (Nat.le_refl _) _) | (with_reducible refine Below.drew ?_) | (with_reducible refine mk_below ?_ ?_ (Nat.le_refl _)) | (with_reducible exact Nat.le_refl _) | (have := BQ.out.size; omega)))) b5)
        have O5 : Hid (Own w5 w1.heap.size v5 (headL g m x)) := by
          refine Lib.hid ?_
          rw [← HFE.out]
          refine o5.low ?_
          have := BQ0.out.size
          (first | (rw [World.size_alloc]; omega) | (rw [World.size_alloc, mk_size]; omega) | (rw [World.size_alloc, mk_size, World.size_alloc]; omega) | (rw [World.size_alloc, World.size_alloc]; omega))
        clear b5 o5
        refine hK.out _ _ ?_ (fun hHeld => ?_)
        · (try dsimp only)
          with_reducible refine S0.out _ ?_; (repeat' (first | (with_reducible exact BQ.out) | (with_reducible refine below_alloc' ?_ (Nat.le_refl _) _) | (with_reducible refine Below.drew ?_) | (with_reducible refine mk_below ?_ ?_ (Nat.le_refl _)) | (with_reducible exact Nat.le_refl _) | (have := BQ.out.size; omega)))
        clear hK K
        (try simp only [Act.put, List.setIfInBounds_toArray, List.set_cons_zero, List.set_cons_succ])
        refine wpAnyH_take (i := 13) (oi := { dst := some 5, op := Op.assign (Operand.tmp 25), type := 26, pos := "super.go:101", after := #[{ on := 12, ground := Ground.data }, { on := 12, ground := Ground.chain }, { on := 0, ground := Ground.phase }, { on := 1, ground := Ground.phase }, { on := 2, ground := Ground.phase }, { on := 3, ground := Ground.phase }, { on := 4, ground := Ground.phase }, { on := 5, ground := Ground.phase }, { on := 6, ground := Ground.phase }, { on := 7, ground := Ground.phase }, { on := 8, ground := Ground.phase }, { on := 9, ground := Ground.phase }, { on := 10, ground := Ground.phase }, { on := 11, ground := Ground.phase }, { on := 12, ground := Ground.phase }], guard := none }) (v := v5) rfl (by kernel_rfl) (by kernel_rfl) (by kernel_rfl) (fun _ _ _ h => h) (Or.inl ⟨by rfl, fun w hSw => by (try dsimp only at hSw); go_simp⟩) (by assumption) ?_
        (try simp only [Act.put, List.setIfInBounds_toArray, List.set_cons_zero, List.set_cons_succ])
        refine wpAnyH_done (by kernel_rfl) ?_ _
        go_wp2_with fail
        go_meet
        exact ⟨_, rfl, Lib.hid ⟨BQ.out, O5.out⟩⟩
      refine AllReadyH.cons (o := { dst := some 23, op := Op.call { callee := Callee.value (Operand.func 32), args := #[Operand.tmp 22], argTypes := #[57] }, type := 26, pos := "super.go:101", after := #[{ on := 9, ground := Ground.data }, { on := 9, ground := Ground.chain }], guard := none }) rfl (fun K hK => ?_) AllReadyH.nil
      go_simp
      go_at_call 32
      refine (CB.out _).mono ?_
      rintro e w4 ⟨b4, g4, rfl, hg4, k4⟩
      have K2 := Lib.hid (Blk.low (by first | (with_reducible exact K2.out) | (with_reducible exact K2.out.alloc _) | (with_reducible exact blk_mk K2.out (bm_ne BM.out K2.out)) | (with_reducible refine blk_mk (K2.out.alloc _) ?_; have := K2.out.lt; omega)) b4)
      have BQ : Hid (Below w1.heap.size w1 w4) := Lib.hid (below_chain (by (repeat' (first | (with_reducible exact BQ.out) | (with_reducible refine below_alloc' ?_ (Nat.le_refl _) _) | (with_reducible refine Below.drew ?_) | (with_reducible refine mk_below ?_ ?_ (Nat.le_refl _)) | (with_reducible exact Nat.le_refl _) | (have := BQ.out.size; omega)))) b4)
      (first | (with_reducible refine (fun (BM : Hid (Bm w4 _)) => ?_) (Lib.hid (Bm.low (Bm.layd _) b4))) | (with_reducible refine (fun (BM : Hid (Bm w4 _)) => ?_) (Lib.hid (Bm.low (Bm.lay _) b4))) | (with_reducible refine (fun (BM : Hid (Bm w4 _)) => ?_) (Lib.hid (Bm.low (Bm.mk (Bm.layd _)) b4))) | (with_reducible refine (fun (BM : Hid (Bm w4 _)) => ?_) (Lib.hid (Bm.low (Bm.mk (Bm.lay _)) b4))))
      (first | ((with_reducible refine (fun (PL : Blk w4 _ P4 5) => ?_) (Blk.low (Blk.drew (Blk.new _ P4 5 _ rfl)) b4)); have cv := conv_blk w4 _ PL) | ((with_reducible refine (fun (PL : Blk w4 _ P4 5) => ?_) (Blk.low (Blk.new _ P4 5 _ rfl) b4)); have cv := conv_blk w4 _ PL))
      have K4 := Lib.hid k4
      clear b4 k4 hg4
      refine hK.out _ _ ?_ (fun hHeld => ?_)
      · (try dsimp only)
        with_reducible refine S0.out _ ?_; (repeat' (first | (with_reducible exact BQ.out) | (with_reducible refine below_alloc' ?_ (Nat.le_refl _) _) | (with_reducible refine Below.drew ?_) | (with_reducible refine mk_below ?_ ?_ (Nat.le_refl _)) | (with_reducible exact Nat.le_refl _) | (have := BQ.out.size; omega)))
      clear hK K
      (try simp only [Act.put, List.setIfInBounds_toArray, List.set_cons_zero, List.set_cons_succ])
      refine wpAnyH_ready (rs := [1]) (by kernel_rfl) (by simp) ?_
      refine AllReadyH.cons (o := { dst := some 14, op := Op.convert 26 26 (Operand.tmp 13), type := 26, pos := "super.go:101", after := #[{ on := 0, ground := Ground.data }], guard := none }) rfl (fun K hK => ?_) AllReadyH.nil
      go_simp
      refine hK.out _ _ ?_ (fun hHeld => ?_)
      · (try dsimp only)
        with_reducible refine S0.out _ ?_; (repeat' (first | (with_reducible exact BQ.out) | (with_reducible refine below_alloc' ?_ (Nat.le_refl _) _) | (with_reducible refine Below.drew ?_) | (with_reducible refine mk_below ?_ ?_ (Nat.le_refl _)) | (with_reducible exact Nat.le_refl _) | (have := BQ.out.size; omega)))
      clear hK K
      (try simp only [Act.put, List.setIfInBounds_toArray, List.set_cons_zero, List.set_cons_succ])
      refine wpAnyH_ready (rs := [11]) (by kernel_rfl) (by simp) ?_
      refine AllReadyH.cons (o := { dst := some 24, op := Op.buildSlice 80 4 #[(0, Operand.tmp 14), (1, Operand.tmp 18), (2, Operand.tmp 19), (3, Operand.tmp 23)], type := 80, pos := "super.go:101", after := #[{ on := 1, ground := Ground.data }, { on := 5, ground := Ground.data }, { on := 6, ground := Ground.data }, { on := 10, ground := Ground.data }], guard := none }) rfl (fun K hK => ?_) AllReadyH.nil
      go_simp
      refine hK.out _ _ ?_ (fun hHeld => ?_)
      · (try dsimp only)
        with_reducible refine S0.out _ ?_; (repeat' (first | (with_reducible exact BQ.out) | (with_reducible refine below_alloc' ?_ (Nat.le_refl _) _) | (with_reducible refine Below.drew ?_) | (with_reducible refine mk_below ?_ ?_ (Nat.le_refl _)) | (with_reducible exact Nat.le_refl _) | (have := BQ.out.size; omega)))
      clear hK K
      (try simp only [Act.put, List.setIfInBounds_toArray, List.set_cons_zero, List.set_cons_succ])
      refine wpAnyH_ready (rs := [12]) (by kernel_rfl) (by simp) ?_
      refine AllReadyH.cons (o := { dst := some 25, op := Op.call { callee := Callee.value (Operand.func 31), args := #[Operand.tmp 24], argTypes := #[80] }, type := 26, pos := "super.go:101", after := #[{ on := 11, ground := Ground.data }, { on := 10, ground := Ground.chain }], guard := none }) rfl (fun K hK => ?_) AllReadyH.nil
      go_simp
      go_at_call 31
      refine (concat_any _ 4 [[80, 76, 77, 80], le8 g, m, le8 x] _ ?_ rfl (by decide) (by simp) (by rw [HFL.out]; decide) (by rw [HFL.out]; decide)).mono ?_
      · refine rws4 _ _ _ _ _ _ _ _ _ _ _ _ _ _ _ rfl rfl HMN.out.symm rfl (Blk.new _ _ 26 _ rfl) ?_ ?_ ?_ HKN.out ?_
        · exact (by first | (with_reducible exact Bm.alloc (Bm.layd _) _) | (with_reducible exact Bm.alloc (Bm.lay _) _) | (with_reducible exact Bm.alloc (Bm.mk (Bm.layd _)) _) | (with_reducible exact Bm.alloc (Bm.mk (Bm.lay _)) _) | (with_reducible exact Bm.alloc (Bm.mk BM.out) _) | (with_reducible exact Bm.alloc BM.out _) : Bm _ _).byt
        · exact Blk.byt (Blk.alloc (by first | (with_reducible exact K2.out) | (with_reducible exact K2.out.alloc _) | (with_reducible exact blk_mk K2.out (bm_ne BM.out K2.out)) | (with_reducible refine blk_mk (K2.out.alloc _) ?_; have := K2.out.lt; omega)) _)
        · exact HKZ.out _ (by (repeat' (first | (with_reducible exact BQ.out) | (with_reducible refine below_alloc' ?_ (Nat.le_refl _) _) | (with_reducible refine Below.drew ?_) | (with_reducible refine mk_below ?_ ?_ (Nat.le_refl _)) | (with_reducible exact Nat.le_refl _) | (have := BQ.out.size; omega))))
        · exact Blk.byt (Blk.alloc (by first | (with_reducible exact K4.out) | (with_reducible exact K4.out.alloc _) | (with_reducible exact blk_mk K4.out (bm_ne BM.out K4.out)) | (with_reducible refine blk_mk (K4.out.alloc _) ?_; have := K4.out.lt; omega)) _)
      rintro e w5 ⟨b5, v5, rfl, o5⟩
      skip
      have BQ0 := BQ
      have BQ : Hid (Below w1.heap.size w1 w5) := Lib.hid (below_chain (by (repeat' (first | (with_reducible exact BQ.out) | (with_reducible refine below_alloc' ?_ (Nat.le_refl _) _) | (with_reducible refine Below.drew ?_) | (with_reducible refine mk_below ?_ ?_ (Nat.le_refl _)) | (with_reducible exact Nat.le_refl _) | (have := BQ.out.size; omega)))) b5)
      have O5 : Hid (Own w5 w1.heap.size v5 (headL g m x)) := by
        refine Lib.hid ?_
        rw [← HFE.out]
        refine o5.low ?_
        have := BQ0.out.size
        (first | (rw [World.size_alloc]; omega) | (rw [World.size_alloc, mk_size]; omega) | (rw [World.size_alloc, mk_size, World.size_alloc]; omega) | (rw [World.size_alloc, World.size_alloc]; omega))
      clear b5 o5
      refine hK.out _ _ ?_ (fun hHeld => ?_)
      · (try dsimp only)
        with_reducible refine S0.out _ ?_; (repeat' (first | (with_reducible exact BQ.out) | (with_reducible refine below_alloc' ?_ (Nat.le_refl _) _) | (with_reducible refine Below.drew ?_) | (with_reducible refine mk_below ?_ ?_ (Nat.le_refl _)) | (with_reducible exact Nat.le_refl _) | (have := BQ.out.size; omega)))
      clear hK K
      (try simp only [Act.put, List.setIfInBounds_toArray, List.set_cons_zero, List.set_cons_succ])
      refine wpAnyH_take (i := 13) (oi := { dst := some 5, op := Op.assign (Operand.tmp 25), type := 26, pos := "super.go:101", after := #[{ on := 12, ground := Ground.data }, { on := 12, ground := Ground.chain }, { on := 0, ground := Ground.phase }, { on := 1, ground := Ground.phase }, { on := 2, ground := Ground.phase }, { on := 3, ground := Ground.phase }, { on := 4, ground := Ground.phase }, { on := 5, ground := Ground.phase }, { on := 6, ground := Ground.phase }, { on := 7, ground := Ground.phase }, { on := 8, ground := Ground.phase }, { on := 9, ground := Ground.phase }, { on := 10, ground := Ground.phase }, { on := 11, ground := Ground.phase }, { on := 12, ground := Ground.phase }], guard := none }) (v := v5) rfl (by kernel_rfl) (by kernel_rfl) (by kernel_rfl) (fun _ _ _ h => h) (Or.inl ⟨by rfl, fun w hSw => by (try dsimp only at hSw); go_simp⟩) (by assumption) ?_
      (try simp only [Act.put, List.setIfInBounds_toArray, List.set_cons_zero, List.set_cons_succ])
      refine wpAnyH_done (by kernel_rfl) ?_ _
      go_wp2_with fail
      go_meet
      exact ⟨_, rfl, Lib.hid ⟨BQ.out, O5.out⟩⟩
    refine AllReadyH.cons (o := { dst := some 23, op := Op.call { callee := Callee.value (Operand.func 32), args := #[Operand.tmp 22], argTypes := #[57] }, type := 26, pos := "super.go:101", after := #[{ on := 9, ground := Ground.data }, { on := 9, ground := Ground.chain }], guard := none }) rfl (fun K hK => ?_) AllReadyH.nil
    go_simp
    go_at_call 32
    refine (CB.out _).mono ?_
    rintro e w4 ⟨b4, g4, rfl, hg4, k4⟩
    have K2 := Lib.hid (Blk.low (by first | (with_reducible exact K2.out) | (with_reducible exact K2.out.alloc _) | (with_reducible exact blk_mk K2.out (bm_ne BM.out K2.out)) | (with_reducible refine blk_mk (K2.out.alloc _) ?_; have := K2.out.lt; omega)) b4)
    have BQ : Hid (Below w1.heap.size w1 w4) := Lib.hid (below_chain (by (repeat' (first | (with_reducible exact BQ.out) | (with_reducible refine below_alloc' ?_ (Nat.le_refl _) _) | (with_reducible refine Below.drew ?_) | (with_reducible refine mk_below ?_ ?_ (Nat.le_refl _)) | (with_reducible exact Nat.le_refl _) | (have := BQ.out.size; omega)))) b4)
    have K4 := Lib.hid k4
    clear b4 k4 hg4
    refine hK.out _ _ ?_ (fun hHeld => ?_)
    · (try dsimp only)
      with_reducible refine S0.out _ ?_; (repeat' (first | (with_reducible exact BQ.out) | (with_reducible refine below_alloc' ?_ (Nat.le_refl _) _) | (with_reducible refine Below.drew ?_) | (with_reducible refine mk_below ?_ ?_ (Nat.le_refl _)) | (with_reducible exact Nat.le_refl _) | (have := BQ.out.size; omega)))
    clear hK K
    (try simp only [Act.put, List.setIfInBounds_toArray, List.set_cons_zero, List.set_cons_succ])
    refine wpAnyH_ready (rs := [0]) (by kernel_rfl) (by simp) ?_
    refine AllReadyH.cons (o := { dst := some 13, op := Op.buildSlice 26 4 #[(0, Operand.const (Value.int IntKind.u8 80)), (1, Operand.const (Value.int IntKind.u8 76)), (2, Operand.const (Value.int IntKind.u8 77)), (3, Operand.const (Value.int IntKind.u8 80))], type := 26, pos := "super.go:101", after := #[], guard := none }) rfl (fun K hK => ?_) AllReadyH.nil
    go_simp
    refine hK.out _ _ ?_ (fun hHeld => ?_)
    · (try dsimp only)
      with_reducible refine S0.out _ ?_; (repeat' (first | (with_reducible exact BQ.out) | (with_reducible refine below_alloc' ?_ (Nat.le_refl _) _) | (with_reducible refine Below.drew ?_) | (with_reducible refine mk_below ?_ ?_ (Nat.le_refl _)) | (with_reducible exact Nat.le_refl _) | (have := BQ.out.size; omega)))
    clear hK K
    (try simp only [Act.put, List.setIfInBounds_toArray, List.set_cons_zero, List.set_cons_succ])
    refine wpAnyH_ready (rs := [1]) (by kernel_rfl) (by simp) ?_
    refine AllReadyH.cons (o := { dst := some 14, op := Op.convert 26 26 (Operand.tmp 13), type := 26, pos := "super.go:101", after := #[{ on := 0, ground := Ground.data }], guard := none }) rfl (fun K hK => ?_) AllReadyH.nil
    go_simp
    refine hK.out _ _ ?_ (fun hHeld => ?_)
    · (try dsimp only)
      with_reducible refine S0.out _ ?_; (repeat' (first | (with_reducible exact BQ.out) | (with_reducible refine below_alloc' ?_ (Nat.le_refl _) _) | (with_reducible refine Below.drew ?_) | (with_reducible refine mk_below ?_ ?_ (Nat.le_refl _)) | (with_reducible exact Nat.le_refl _) | (have := BQ.out.size; omega)))
    clear hK K
    (try simp only [Act.put, List.setIfInBounds_toArray, List.set_cons_zero, List.set_cons_succ])
    refine wpAnyH_ready (rs := [11]) (by kernel_rfl) (by simp) ?_
    refine AllReadyH.cons (o := { dst := some 24, op := Op.buildSlice 80 4 #[(0, Operand.tmp 14), (1, Operand.tmp 18), (2, Operand.tmp 19), (3, Operand.tmp 23)], type := 80, pos := "super.go:101", after := #[{ on := 1, ground := Ground.data }, { on := 5, ground := Ground.data }, { on := 6, ground := Ground.data }, { on := 10, ground := Ground.data }], guard := none }) rfl (fun K hK => ?_) AllReadyH.nil
    go_simp
    refine hK.out _ _ ?_ (fun hHeld => ?_)
    · (try dsimp only)
      with_reducible refine S0.out _ ?_; (repeat' (first | (with_reducible exact BQ.out) | (with_reducible refine below_alloc' ?_ (Nat.le_refl _) _) | (with_reducible refine Below.drew ?_) | (with_reducible refine mk_below ?_ ?_ (Nat.le_refl _)) | (with_reducible exact Nat.le_refl _) | (have := BQ.out.size; omega)))
    clear hK K
    (try simp only [Act.put, List.setIfInBounds_toArray, List.set_cons_zero, List.set_cons_succ])
    refine wpAnyH_ready (rs := [12]) (by kernel_rfl) (by simp) ?_
    refine AllReadyH.cons (o := { dst := some 25, op := Op.call { callee := Callee.value (Operand.func 31), args := #[Operand.tmp 24], argTypes := #[80] }, type := 26, pos := "super.go:101", after := #[{ on := 11, ground := Ground.data }, { on := 10, ground := Ground.chain }], guard := none }) rfl (fun K hK => ?_) AllReadyH.nil
    go_simp
    go_at_call 31
    refine (concat_any _ 4 [[80, 76, 77, 80], le8 g, m, le8 x] _ ?_ rfl (by decide) (by simp) (by rw [HFL.out]; decide) (by rw [HFL.out]; decide)).mono ?_
    · refine rws4 _ _ _ _ _ _ _ _ _ _ _ _ _ _ _ rfl rfl HMN.out.symm rfl (Blk.new _ _ 26 _ rfl) ?_ ?_ ?_ HKN.out ?_
      · exact (by first | (with_reducible exact Bm.alloc (Bm.layd _) _) | (with_reducible exact Bm.alloc (Bm.lay _) _) | (with_reducible exact Bm.alloc (Bm.mk (Bm.layd _)) _) | (with_reducible exact Bm.alloc (Bm.mk (Bm.lay _)) _) : Bm _ _).byt
      · exact Blk.byt (Blk.alloc (by first | (with_reducible exact K2.out) | (with_reducible exact K2.out.alloc _) | (with_reducible exact blk_mk K2.out (bm_ne BM.out K2.out)) | (with_reducible refine blk_mk (K2.out.alloc _) ?_; have := K2.out.lt; omega)) _)
      · exact HKZ.out _ (by (repeat' (first | (with_reducible exact BQ.out) | (with_reducible refine below_alloc' ?_ (Nat.le_refl _) _) | (with_reducible refine Below.drew ?_) | (with_reducible refine mk_below ?_ ?_ (Nat.le_refl _)) | (with_reducible exact Nat.le_refl _) | (have := BQ.out.size; omega))))
      · exact Blk.byt (Blk.alloc (by first | (with_reducible exact K4.out) | (with_reducible exact K4.out.alloc _) | (with_reducible exact blk_mk K4.out (bm_ne BM.out K4.out)) | (with_reducible refine blk_mk (K4.out.alloc _) ?_; have := K4.out.lt; omega)) _)
    rintro e w5 ⟨b5, v5, rfl, o5⟩
    skip
    have BQ0 := BQ
    have BQ : Hid (Below w1.heap.size w1 w5) := Lib.hid (below_chain (by (repeat' (first | (with_reducible exact BQ.out) | (with_reducible refine below_alloc' ?_ (Nat.le_refl _) _) | (with_reducible refine Below.drew ?_) | (with_reducible refine mk_below ?_ ?_ (Nat.le_refl _)) | (with_reducible exact Nat.le_refl _) | (have := BQ.out.size; omega)))) b5)
    have O5 : Hid (Own w5 w1.heap.size v5 (headL g m x)) := by
      refine Lib.hid ?_
      rw [← HFE.out]
      refine o5.low ?_
      have := BQ0.out.size
      (first | (rw [World.size_alloc]; omega) | (rw [World.size_alloc, mk_size]; omega) | (rw [World.size_alloc, mk_size, World.size_alloc]; omega) | (rw [World.size_alloc, World.size_alloc]; omega))
    clear b5 o5
    refine hK.out _ _ ?_ (fun hHeld => ?_)
    · (try dsimp only)
      with_reducible refine S0.out _ ?_; (repeat' (first | (with_reducible exact BQ.out) | (with_reducible refine below_alloc' ?_ (Nat.le_refl _) _) | (with_reducible refine Below.drew ?_) | (with_reducible refine mk_below ?_ ?_ (Nat.le_refl _)) | (with_reducible exact Nat.le_refl _) | (have := BQ.out.size; omega)))
    clear hK K
    (try simp only [Act.put, List.setIfInBounds_toArray, List.set_cons_zero, List.set_cons_succ])
    refine wpAnyH_take (i := 13) (oi := { dst := some 5, op := Op.assign (Operand.tmp 25), type := 26, pos := "super.go:101", after := #[{ on := 12, ground := Ground.data }, { on := 12, ground := Ground.chain }, { on := 0, ground := Ground.phase }, { on := 1, ground := Ground.phase }, { on := 2, ground := Ground.phase }, { on := 3, ground := Ground.phase }, { on := 4, ground := Ground.phase }, { on := 5, ground := Ground.phase }, { on := 6, ground := Ground.phase }, { on := 7, ground := Ground.phase }, { on := 8, ground := Ground.phase }, { on := 9, ground := Ground.phase }, { on := 10, ground := Ground.phase }, { on := 11, ground := Ground.phase }, { on := 12, ground := Ground.phase }], guard := none }) (v := v5) rfl (by kernel_rfl) (by kernel_rfl) (by kernel_rfl) (fun _ _ _ h => h) (Or.inl ⟨by rfl, fun w hSw => by (try dsimp only at hSw); go_simp⟩) (by assumption) ?_
    (try simp only [Act.put, List.setIfInBounds_toArray, List.set_cons_zero, List.set_cons_succ])
    refine wpAnyH_done (by kernel_rfl) ?_ _
    go_wp2_with fail
    go_meet
    exact ⟨_, rfl, Lib.hid ⟨BQ.out, O5.out⟩⟩
  case rest =>
    obtain ⟨v5, rfl, HO⟩ := hcut
    have BC := Lib.hid HO.out.1
    obtain ⟨a5, c5, rfl, hc5, hm5, hy5, hn5⟩ := own_byt HO.out.2
    have hl5 := headL_len g m x HML.out
    have BW := Lib.hid (below_chain HB1.out BC.out)
    have K2 := Lib.hid (K1.out.low BC.out)
    have zsz : Z.size = 256 := by rw [HZZ.out, List.size_toArray, nou_len]
    have K6 : Hid (Blk (wc.alloc (.cells Z 51)) wc.heap.size nou 51) := by show Blk _ _ _ _; rw [HZZ.out]; exact Blk.new wc _ _ _ rfl
    have K3 := Lib.hid (K2.out.alloc (.cells Z 51))
    have B3 := Lib.hid (below_alloc' (Below.refl wc.heap.size wc) (Nat.le_refl _) (.cells Z 51))
    have Y3 := Lib.hid (hy5.below B3.out)
    have hsl := slice51 wc.heap.size
    have HN5 := Lib.hid hn5
    have HC5 := Lib.hid hc5
    have HM5 := Lib.hid hm5
    rw [hl5]
    have C34 := Lib.hid (fun (W : World) (hb : Below (wc.alloc (.cells Z 51)).heap.size (wc.alloc (.cells Z 51)) W) => Cr.bytes_any a5 (headL g m x) c5 W (Y3.out.below hb) HN5.out HC5.out HM5.out (by rw [hl5]; decide))
    rw [hl5] at C34
    have BQ := Lib.hid (Below.refl (wc.alloc (.cells Z 51)).heap.size (wc.alloc (.cells Z 51)))
    clear HO hy5 hn5 hc5 hm5 hl5 cvN cvD S0 CA CB D33 HFL HFE HKZ HKY CK C33
    go_wp2_with fail
    have hcl : (Cr.bytesL (headL g m x)).length = 56 := by rw [Cr.bytesL_len, headL_len g m x HML.out]
    have HCL := Lib.hid hcl
    have hfit : 0 + (bs (Cr.bytesL (headL g m x))).length ≤ nou.toArray.size := by rw [bs_len, hcl, List.size_toArray, nou_len]; decide
    have hone := bs_one (Cr.bytesL (headL g m x))
    have hmin : (bs (Cr.bytesL (headL g m x))).length = Nat.min 56 256 := by rw [bs_len, hcl]; rfl
    have HSEC : Hid (nou.take 0 ++ (bs (Cr.bytesL (headL g m x)) ++ nou.drop (0 + (bs (Cr.bytesL (headL g m x))).length)) = bs (secOf g m x)) := nou_fill _ hcl
    obtain ⟨L, hL⟩ : ∃ L, L = Cr.bytesL (headL g m x) := ⟨_, rfl⟩
    rw [← hL] at C34 HCL hfit hone hmin HSEC
    clear hL hcl
    go_region_held3 (fun _ => True) (trivial) (first
      | (go_at_call 34; (with_reducible refine (C34.out _ (Below.drew BQ.out)).mono ?_); rintro e w6 ⟨b6, v6, rfl, o6⟩
         have BQ : Hid (Below wc.heap.size wc w6) := Lib.hid (below_chain B3.out.drew b6)
         have K6 := Lib.hid (K6.out.drew.low b6)
         have K3 := Lib.hid (K3.out.drew.low b6)
         obtain ⟨a6, c6, rfl, hc6, hm6, hg6, hy6⟩ := own_some o6 HCL.out (Nat.le_of_ble_eq_true rfl)
         have hsrc := byt_src hy6
         clear b6 o6 hy6)
      | (refine step_copy rfl (.tmp 26) (.tmp 28) 26 26 rfl 5 Tryd.underlying26 (by kernel_rfl) wc.heap.size 0 256 256 ⟨a6, 0, none⟩ 56 c6 (by simp [Act.eval]) (by simp [Act.eval]) nou.toArray 51 K6.out (bs L) hmin hsrc hfit hone ?_))
    have hne : w.heap.size + 1 ≠ wc.heap.size := Nat.ne_of_lt K2.out.lt
    have K7 := blk_row (l := nou.toArray.toList.take 0 ++ (bs L ++ nou.toArray.toList.drop (0 + (bs L).length))) K6.out
    have K8 := blk_rowo (l := nou.toArray.toList.take 0 ++ (bs L ++ nou.toArray.toList.drop (0 + (bs L).length))) K3.out hne
    have B7 : Below wc.heap.size wc (w6.setRow wc.heap.size (nou.toArray.toList.take 0 ++ (bs L ++ nou.toArray.toList.drop (0 + (bs L).length))).toArray) := below_row BQ.out (Nat.le_refl _) _
    have hlen : (bs (secOf g m x)).length = 256 := by rw [bs_len, secOf_len _ _ _ HML.out]
    have honeS := bs_one (secOf g m x)
    generalize w6.setRow wc.heap.size (nou.toArray.toList.take 0 ++ (bs L ++ nou.toArray.toList.drop (0 + (bs L).length))).toArray = w7 at *
    have e7 : nou.toArray.toList.take 0 ++ (bs L ++ nou.toArray.toList.drop (0 + (bs L).length)) = bs (secOf g m x) := HSEC.out
    rw [e7] at K7
    obtain ⟨M, hM⟩ : ∃ M, M = bs (secOf g m x) := ⟨_, rfl⟩
    rw [← hM] at K7 hlen honeS
    have hsz : (Tryd.prog.info? 51).map (·.size) = some M.toArray.size := by rw [info51, List.size_toArray, hlen]
    have hold : nou.toArray.size = M.toArray.size := by rw [List.size_toArray, List.size_toArray, nou_len, hlen]
    have hall : M.toArray.all (·.oneCell') = true := all_oneCell_toArray honeS
    unfold Blk at K7 K8
    obtain ⟨R, hR⟩ : ∃ R, R = M.toArray := ⟨_, rfl⟩
    obtain ⟨R0, hR0⟩ : ∃ R0, R0 = nou.toArray := ⟨_, rfl⟩
    rw [← hR] at K7 hsz hold hall
    rw [← hR0] at K8 hold
    have HK7 := Lib.hid K7
    have HK8 := Lib.hid K8
    have BW7 := Lib.hid (below_chain BW.out B7)
    have HM2 : Hid (R = (bs (secOf g m x)).toArray) := by show _ = _; rw [hR, hM]
    have HHS := Lib.hid hsz
    have HHO := Lib.hid hold
    have HHA := Lib.hid hall
    have HWB := Lib.hid (HB1.out.size)
    have K9 := Lib.hid (setRow_heap w7 (w.heap.size + 1) R0 R 51 (0, 0) K8)
    have B9 : Hid (Below w.heap.size w (w7.setRow (w.heap.size + 1) R)) := below_row BW7.out (by omega) _
    clear K7 K8 B7 hsz hold hall hM hlen honeS e7 hne hmin hsrc hfit hone hR hR0
    go_wp2_with (first
      | (with_reducible refine wpList_load_row rfl 51 (.tmp 6) rfl wc.heap.size rfl 51 R (0, 0) (.array 256 5) HK7.out Tryd.underlying51 rfl HHS.out ?_)
      | (with_reducible refine wpList_store_row rfl 51 (.tmp 2) (.tmp 30) rfl (w.heap.size + 1) R rfl rfl 51 R0 HK8.out HHS.out HHO.out HHA.out ?_))
    exact bodyPost_ret (results_cell_row Tryd.results20 _ _ (w.heap.size + 1) 51 R (0, 0) _ rfl K9.out Tryd.underlying51 rfl HHS.out) rfl ⟨by rw [HM2.out], B9.out⟩
end Go.Proofs.YtlpbkjonicjccaaDoor.Sh
