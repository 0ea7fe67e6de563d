/-
  THE STATEMENT LowerBack (P16.3): of every file system, what is written is read as it was, whatever noughts stand behind; what came in reads behind the call as before.
  Conditions: none but what the row lists.
-/
import Derived.Test.YtojhlhpbhoeplaaGreatDoorTie
import Derived.Test.YtojhlhpbhoeplaaGreatDoorCards
import Derived.Test.YtojhlhpbhoeplaaGreatDoorLwA
import Derived.ProofKit
import Derived.OpenShut
import Derived.LaidMore
import Derived.LaidHandle
import Derived.Lay
import Derived.Stop.Joined
import Derived.Stop.LaidErr
import Derived.Deep.DeepHandedRow
import Derived.Lib.LaidTab
import Derived.Lib.LaidU8
import Derived.MakeChecks
import Derived.Test.YtojhlhpbhoeplaaGreatDoorOc
import Derived.Lib.SmallJoins
import Derived.SliceStrings
import Derived.Deep.Slices
import Derived.Test.YtojhlhpbhoeplaaGreatDoorLwB
import Derived.Lib.AppendZerosOnto
import Derived.Laws.IdiomCopy
import Derived.BigRegion
namespace Go.Proofs.YtojhlhpbhoeplaaGreatDoor.Sh
open Go.ChangeShapes Go.WideShapes Go.ChangeAt Go.RowKit Go.Lib Lb

theorem own : ownKnob Tryz.prog.godebug = none := by kernel_rfl
/-- what each row lists -/
def laidAll : List (String × DataW Unit) := Rows.lowerOnceRow.laid
theorem kGlobal : Tryz.prog.globalNamed "errors.errorType" = some 1 := by kernel_rfl
theorem kRtype : (Tryz.prog.cutTypes.find? (·.1 == "internal/reflectlite.rtype")).map (·.2) = some 133 := by kernel_rfl
theorem kTypes : Tryz.prog.types.size = 273 := by kernel_rfl
theorem kOneRow : ((List.range 273).filter fun t => Tryz.prog.rowNamed t [101, 114, 114, 111, 114]) = [48] := by kernel_rfl
theorem filtOf : (laidAll.filter fun x => x.2.handleName?.isSome) = [("errors.errorType", Rows.laid_errors_errorType)] := by kernel_rfl
theorem errT_of {W : World} (h : laidMetH Tryz.prog laidAll W) : ErrT W := by
  have h' : laidMet Tryz.prog (laidAll.filter fun x => x.2.handleName?.isNone) W ∧ handlesMet Tryz.prog [("errors.errorType", Rows.laid_errors_errorType)] W := h
  obtain ⟨name, u, ty, e1, e2, e3, e4, e5⟩ := h'.2 _ (List.mem_singleton.2 rfl)
  have en : name = [101, 114, 114, 111, 114] := (Option.some.inj e1).symm
  subst en
  obtain rfl := Option.some.inj (kRtype.symm.trans e2)
  have hm : ty ∈ (List.range 273).filter fun t => Tryz.prog.rowNamed t [101, 114, 114, 111, 114] := List.mem_filter.2 ⟨List.mem_range.2 (by rw [← kTypes]; exact e3), e4⟩
  rw [kOneRow] at hm
  obtain rfl := List.mem_singleton.1 hm
  have hh : typeHandle Tryz.prog 48 = .pointer (some ⟨8, 48, none⟩) := by kernel_rfl
  rw [hh] at e5
  simpa [ErrT] using World.var?_cell kGlobal e5 0
/-- the tables and the sentinel -/
def six : List (String × DataW Unit) := [("math/bits.deBruijn32tab", Rows.laid_math_bits_deBruijn32tab), ("math/bits.deBruijn64tab", Rows.laid_math_bits_deBruijn64tab), ("internal/strconv.uint64pow10", Rows.laid_internal_strconv_uint64pow10), ("unicode/utf8.acceptRanges", Rows.laid_unicode_utf8_acceptRanges), ("palimpsest/lower.errImage", Rows.laid_palimpsest_lower_errImage), ("unicode/utf8.first", Rows.laid_unicode_utf8_first)]
theorem sixIs : (laidAll.filter fun x => x.2.handleName?.isNone) = six := by kernel_rfl
theorem powIs : (Rows.laid_internal_strconv_uint64pow10 : DataW Unit) = tabData .u64 Lib.pow10Tab := by kernel_rfl
theorem cells76 : Tryz.prog.cellsOf 76 = 1 := by kernel_rfl
theorem tab_of {W : World} (h0 : laidMet Tryz.prog six W) : Lw.Tab W := by
  have h1 : laidMet Tryz.prog (("internal/strconv.uint64pow10", tabData .u64 Lib.pow10Tab) :: six.tail.tail.tail) W := by
    rw [← powIs]
    exact h0.tail.tail
  exact tabIs_of_head (g := 2) (by kernel_rfl) (by kernel_rfl) Tryz.underlying204 Tryz.underlying76 cells76 (by kernel_rfl) h1
theorem gS : Tryz.prog.globalNamed "palimpsest/lower.errImage" = some 0 := by kernel_rfl
theorem gST : (Tryz.prog.globals[0]?).map (·.type) = some 48 := by kernel_rfl
theorem cells261 : Tryz.prog.cellsOf 261 = 1 := by kernel_rfl
theorem cells9 : Tryz.prog.cellsOf 9 = 1 := by kernel_rfl
theorem star : "*" ++ "errors.errorString" = "*errors.errorString" := by decide
theorem row242 (u : TypeId) (h : Tryz.prog.typeName? 3 u = some "*errors.errorString") : u = 242 :=
  typeName_ptr_named (nm := "errors.errorString") (by rw [star]; kernel_rfl) (by kernel_rfl) (by decide) u (by rw [star]; exact h)
theorem sen_of {W : World} (h0 : laidMet Tryz.prog six W) : ∃ a, Lw.Sen W a := by
  obtain ⟨a, s, hv, _⟩ := laid_sentinel h0.tail.tail.tail.tail gS gST Tryz.underlying48 row242 Tryz.underlying242 Tryz.underlying261 rfl rfl Tryz.underlying9 cells261 cells9
  exact ⟨a, by simpa [Lw.Sen] using World.var?_cell gS hv 0⟩
theorem env_of {W : World} (h : laidMetH Tryz.prog laidAll W) : ∃ a, Lw.Env W a := by
  have h' : laidMet Tryz.prog (laidAll.filter fun x => x.2.handleName?.isNone) W := h.1
  rw [sixIs] at h'
  obtain ⟨a, hs⟩ := sen_of h'
  have ht := tab_of h'
  have hc := Lib.TabIs.cell ht (g := 2) (by kernel_rfl) 0 (by decide)
  exact ⟨a, errT_of h, hs, ht, Lw.lt_of_cell hc⟩
/-- the settled state, with the handle's cell laid -/
noncomputable def baseWorld (os : Os) : World :=
  { World.holding Tryz.prog os ⟨#[], #[], []⟩ with heap := (World.holding Tryz.prog os ⟨#[], #[], []⟩).heap.modify 1 fun
      | .cells _ t frozen => .cells #[.iface 133 (.agg #[.pointer (some ⟨8, 48, none⟩)])] t frozen
      | o => o }
/-- a state that meets the rows -/
noncomputable def laidWorld (os : Os) : World := (baseWorld os).layVars Tryz.prog six
theorem laidWorld_os (os : Os) : (laidWorld os).os = os := World.layVars_os _ _ _
theorem six_met (os : Os) (args : Array Value) : laidMet Tryz.prog six ((laidWorld os).forCall (fun _ _ => 0) ⟨#[], args, []⟩).memory := by
  have e1 : (six.filter fun x => (six.map (·.1)).contains x.1) = six := List.filter_eq_self.2 fun x hx => List.contains_iff_mem.2 (List.mem_map.2 ⟨x, hx, rfl⟩)
  have e2 : (six.filter fun x => !(six.map (·.1)).contains x.1) = [] := List.filter_eq_nil_iff.2 fun x hx => by rw [List.contains_iff_mem.2 (List.mem_map.2 ⟨x, hx, rfl⟩)]; simp
  have h : laidMet Tryz.prog six (laidWorld os) := laidMet_layVars (w0 := baseWorld os) (six.map (·.1)) [] (by rw [e1]; rfl) (by rw [e1]; kernel_rfl) (by rw [e1]; kernel_rfl) (by rw [e2]; exact LaidIn.none)
  exact h.of_heap (by simp [World.memory, World.forCall, Input.heap])
theorem laidWorld_met (os : Os) (args : Array Value) : laidMetH Tryz.prog laidAll ((laidWorld os).forCall (fun _ _ => 0) ⟨#[], args, []⟩).memory :=
  laidMetH_of_parts (by rw [sixIs]; exact six_met os args) (by rw [filtOf]; kernel_rfl)
theorem laidWorld_shaped (os : Os) (args : Array Value) : ((laidWorld os).forCall (fun _ _ => 0) ⟨#[], args, []⟩).Shaped Tryz.prog :=
  World.shaped_of_ZipB (by kernel_rfl) (by kernel_rfl)
theorem laidOut : laidOutB Tryz.prog = true := by kernel_rfl
theorem cells5 : Tryz.prog.cellsOf 5 = 1 := by kernel_rfl
theorem bytes5 : Tryz.prog.bytesOf 5 = 1 := by kernel_rfl
/-- a row of bytes within the reach -/
theorem reach_byt {H : Type} {ts : List TypeId} {ds : List (DataW H)} (hsz : (DataW.weightsEach Tryz.prog ts ds).all (· ≤ reachBytes) = true) {j : Nat} {d : DataW H} {l : List UInt8} (ht : ts[j]? = some 22) (hd : ds[j]? = some d)
    (h : (d = .nil ∧ l = []) ∨ ∃ es sp, d = .slice es sp ∧ es.length = l.length) : l.length ≤ 140737488351232 := by
  rcases h with ⟨_, rfl⟩ | ⟨es, sp, rfl, hl⟩
  · simp
  · have := sized_slice hsz ht hd Tryz.underlying22
    rw [bytes5] at this
    simp only [reachBytes] at this
    omega
theorem okWide_far {P : Program} {w : World} {base : Nat} {t e : TypeId} {ao : Option Addr} {n c : Nat} (ht : P.underlying t = some (.slice e)) (h : Value.okWide P w .any base t (.slice ao n c)) : ∀ a, ao = some a → a.block < w.heap.size := by
  rintro a rfl
  simp only [Value.okWide, ht, Cell.okWide, Cell.ok] at h
  obtain ⟨_, _, _, _, row, cells, hs, _⟩ := h
  rcases Nat.lt_or_ge a.block w.heap.size with h1 | h0
  · exact h1
  · exfalso
    unfold World.shape? at hs
    rw [Array.getElem?_eq_none h0] at hs
    simp at hs
end Go.Proofs.YtojhlhpbhoeplaaGreatDoor.Sh
namespace Go.Proofs.YtojhlhpbhoeplaaGreatDoor.Lw
open Go.ChangeShapes Go.WideShapes Go.ChangeAt Go.RowKit Go.Lib Go.Proofs.YtojhlhpbhoeplaaGreatDoor.Sh Go.Proofs.YtojhlhpbhoeplaaGreatDoor.Lb

instance : Inhabited InoP := ⟨⟨0, 0, 0, 0, [], ⟨#[]⟩, [], [], []⟩⟩
theorem gcells5 : Tryz.prog.cellsOf 5 = 1 := by kernel_rfl
theorem gcells9 : Tryz.prog.cellsOf 9 = 1 := by kernel_rfl
theorem gcells3 : Tryz.prog.cellsOf 3 = 1 := by kernel_rfl
theorem gcells22 : Tryz.prog.cellsOf 22 = 1 := by kernel_rfl
theorem gcells42 : Tryz.prog.cellsOf 42 = 1 := by kernel_rfl
theorem gcells43 : Tryz.prog.cellsOf 43 = 1 := by kernel_rfl
theorem gcells44 : Tryz.prog.cellsOf 44 = 1 := by kernel_rfl
theorem gcells41 : Tryz.prog.cellsOf 41 = 1 := by kernel_rfl
theorem gcells24 : Tryz.prog.cellsOf 24 = 1 := by kernel_rfl
theorem gcells82 : Tryz.prog.cellsOf 82 = 2 := by kernel_rfl
theorem gcells46 : Tryz.prog.cellsOf 46 = 9 := by kernel_rfl
theorem gcells26 : Tryz.prog.cellsOf 26 = 2 := by kernel_rfl
section
variable {H : Type} {enc : TypeId × Value → H} {P : Program}
theorem open_byt_f {t e : TypeId} {W : World} {v : Value} {y : DataW H × List MemPlace} {n : Nat} (ht : P.underlying t = some (.slice e)) (he : P.underlying e = some (.int .u8)) (hc : P.cellsOf e = 1)
    (hf : DataW.trod enc P W 0 (fun _ => true) true n t [v] = some y) (hlt : ∀ x ∈ y.2, x.block < W.heap.size) :
    ∃ ao l c, v = .slice ao l.length c ∧ l.length ≤ c ∧ c ≤ 9223372036854775807 ∧ Byt W ao l ∧ (ao = none → c = 0) := by
  obtain ⟨d, p⟩ := y
  rcases open_ints ht he hc hf with ⟨hcs, hx⟩ | ⟨a, len', cap', zs, hcs, _, hl, hm, hz, hx, hcell, hws⟩
  · simp only [List.cons.injEq, and_true] at hcs
    subst hcs
    exact ⟨none, [], 0, rfl, Nat.le_refl _, by omega, byt_nil _ _, fun _ => rfl⟩
  · simp only [List.cons.injEq, and_true] at hcs
    subst hcs
    simp only [Prod.mk.injEq] at hx
    obtain ⟨rfl, rfl⟩ := hx
    simp only [if_true] at hz
    have hll : ((zs.take len').map fun n => UInt8.ofNat n.toNat).length = len' := by rw [List.length_map, List.length_take]; omega
    refine ⟨some a, (zs.take len').map fun n => UInt8.ofNat n.toNat, cap', by rw [hll], by rw [hll]; exact hl, by unfold maxLen at hm; omega, fun hne => ?_, fun h => by (cases h)⟩
    have hl0 : len' ≠ 0 := by
      intro h0
      apply hne
      rw [h0]
      rfl
    obtain ⟨b, off, spot⟩ := a
    have hspot : spot = none := by simpa [Addr.add] using World.cell?_spot (hcell 0 (by omega))
    subst hspot
    refine ⟨b, off, rfl, hlt (.cell b off) (MemPlace.mem_row.2 ⟨0, by omega, by simp⟩), fun j hj => ?_⟩
    rw [hll] at hj
    have hcj := hcell j (by omega)
    rw [WideShapes.add_plain] at hcj
    have hjs : j < zs.length := by omega
    have hb := range_u8 hws j
    have e : zs.getD j 0 = zs[j] := by simp [List.getD, List.getElem?_eq_getElem hjs]
    rw [List.getD_eq_getElem?_getD] at e
    rw [e] at hb
    rw [hcj, List.getD_eq_getElem?_getD, e]
    simp only [List.getElem_map, List.getElem_take, UInt8.toNat_ofNat']
    congr 2
    omega
/-- a row of numbers that came in -/
theorem open_zrw_f {t e : TypeId} {W : World} {v : Value} {y : DataW H × List MemPlace} {n : Nat} (ht : P.underlying t = some (.slice e)) (he : P.underlying e = some (.int .i64)) (hc : P.cellsOf e = 1)
    (hf : DataW.trod enc P W 0 (fun _ => true) true n t [v] = some y) (hlt : ∀ x ∈ y.2, x.block < W.heap.size) :
    ∃ ao l c, v = .slice ao (l : List Int).length c ∧ l.length ≤ c ∧ c ≤ 9223372036854775807 ∧ Zrw W ao l ∧ (ao = none → c = 0) := by
  obtain ⟨d, p⟩ := y
  rcases open_ints ht he hc hf with ⟨hcs, hx⟩ | ⟨a, len', cap', zs, hcs, _, hl, hm, hz, hx, hcell, hws⟩
  · simp only [List.cons.injEq, and_true] at hcs
    subst hcs
    exact ⟨none, [], 0, rfl, Nat.le_refl _, by omega, fun h => absurd rfl h, fun _ => rfl⟩
  · simp only [List.cons.injEq, and_true] at hcs
    subst hcs
    simp only [Prod.mk.injEq] at hx
    obtain ⟨rfl, rfl⟩ := hx
    simp only [if_true] at hz
    have hll : (zs.take len').length = len' := by rw [List.length_take]; omega
    refine ⟨some a, zs.take len', cap', by rw [hll], by rw [hll]; exact hl, by unfold maxLen at hm; omega, fun hne => ?_, fun h => by (cases h)⟩
    have hl0 : len' ≠ 0 := by
      intro h0
      apply hne
      rw [h0]
      rfl
    obtain ⟨b, off, spot⟩ := a
    have hspot : spot = none := by simpa [Addr.add] using World.cell?_spot (hcell 0 (by omega))
    subst hspot
    refine ⟨b, off, rfl, hlt (.cell b off) (MemPlace.mem_row.2 ⟨0, by omega, by simp⟩), fun j hj => ?_⟩
    rw [hll] at hj
    have hcj := hcell j (by omega)
    rw [WideShapes.add_plain] at hcj
    have hjs : j < zs.length := by omega
    rw [hcj, List.getElem_take, List.getD_eq_getElem?_getD, List.getElem?_eq_getElem hjs]
    rfl
/-- a row of texts that came in -/
theorem open_srw_f {t e : TypeId} {W : World} {v : Value} {y : DataW H × List MemPlace} {n : Nat} (ht : P.underlying t = some (.slice e)) (he : P.underlying e = some .string) (hc : P.cellsOf e = 1)
    (hf : DataW.trod enc P W 0 (fun _ => true) true n t [v] = some y) (hlt : ∀ x ∈ y.2, x.block < W.heap.size) :
    ∃ ao l c, v = .slice ao (l : List ByteArray).length c ∧ l.length ≤ c ∧ c ≤ 9223372036854775807 ∧ Srw W ao l ∧ (ao = none → c = 0) ∧ ∀ s ∈ l, s.size ≤ 9223372036854775807 := by
  obtain ⟨d, p⟩ := y
  rcases open_strings ht he hc hf with ⟨hcs, hx⟩ | ⟨a, len', cap', zs, hcs, _, hl, hm, hz, hx, hcell, hws⟩
  · simp only [List.cons.injEq, and_true] at hcs
    subst hcs
    exact ⟨none, [], 0, rfl, Nat.le_refl _, by omega, srw_nil _ _, fun _ => rfl, fun s hs => by cases hs⟩
  · simp only [List.cons.injEq, and_true] at hcs
    subst hcs
    simp only [Prod.mk.injEq] at hx
    obtain ⟨rfl, rfl⟩ := hx
    simp only [if_true] at hz
    have hll : (zs.take len').length = len' := by rw [List.length_take]; omega
    refine ⟨some a, zs.take len', cap', by rw [hll], by rw [hll]; exact hl, by unfold maxLen at hm; omega, fun hne => ?_, fun h => by (cases h), fun s hs => by have := hws s (List.mem_of_mem_take hs); unfold maxLen at this; omega⟩
    have hl0 : len' ≠ 0 := by
      intro h0
      apply hne
      rw [h0]
      rfl
    obtain ⟨b, off, spot⟩ := a
    have hspot : spot = none := by simpa [Addr.add] using World.cell?_spot (hcell 0 (by omega))
    subst hspot
    refine ⟨b, off, rfl, hlt (.cell b off) (MemPlace.mem_row.2 ⟨0, by omega, by simp⟩), fun j hj => ?_⟩
    rw [hll] at hj
    have hcj := hcell j (by omega)
    rw [WideShapes.add_plain] at hcj
    have hjs : j < zs.length := by omega
    rw [hcj, List.getElem_take, List.getD_eq_getElem?_getD, List.getElem?_eq_getElem hjs]
    rfl
end
theorem spot_none {W : World} {a : Addr} {k : Nat} {v : Value} (h : W.cell? ((a.add (0 * k)).add 0) = some v) : a.spot = none := by
  rw [Nat.zero_mul] at h
  simpa [Addr.add] using World.cell?_spot h
theorem add_two (b o i j : Nat) : ((⟨b, o, none⟩ : Addr).add i).add j = ⟨b, o + i + j, none⟩ := by rw [WideShapes.add_plain, WideShapes.add_plain]
section
variable {H : Type} {enc : TypeId × Value → H}
set_option maxRecDepth 100000 in
/-- a row of attributes that came in -/
theorem open_arw_f {W : World} {v : Value} {y : DataW H × List MemPlace} {n : Nat} (hf : DataW.trod enc Tryz.prog W 0 (fun _ => true) true n 44 [v] = some y) (hlt : ∀ x ∈ y.2, x.block < W.heap.size) :
    ∃ ao l c, v = .slice ao (l : List (ByteArray × List UInt8)).length c ∧ l.length ≤ c ∧ c ≤ 9223372036854775807 ∧ Arw W ao l := by
  obtain ⟨d, p⟩ := y
  rcases Go.Deep.open_slice Tryz.underlying44 hf with ⟨hcs, hx⟩ | ⟨a, len, cap, m, n', D, Pl, hcs, _, hl, hm, hmm, hx, each⟩
  · simp only [List.cons.injEq, and_true] at hcs
    subst hcs
    exact ⟨none, [], 0, rfl, Nat.le_refl _, by omega, fun h => absurd rfl h⟩
  · simp only [List.cons.injEq, and_true] at hcs
    subst hcs
    simp only [if_true] at hmm
    subst hmm
    simp only [Prod.mk.injEq] at hx
    obtain ⟨rfl, rfl⟩ := hx
    rw [gcells82] at each hlt
    obtain ⟨Y, hY⟩ := Go.Deep.choose_lt (α := ByteArray × List UInt8) (n := m) (p := fun i x => W.cell? ((a.add (i * 2)).add 0) = some (.string x.1) ∧ x.1.size ≤ 9223372036854775807 ∧
        ∃ ad q c, W.cell? ((a.add (i * 2)).add 1) = some (.slice ad q c) ∧ x.2.length = q ∧ q ≤ c ∧ c ≤ 9223372036854775807 ∧ Byt W ad x.2 ∧ (ad = none → c = 0)) (fun i hi => by
      obtain ⟨cs', h1, h2⟩ := each i hi
      obtain ⟨_, hlen, hc⟩ := World.cells?_some h1
      match cs', hlen with
      | [c0, c1], _ =>
        obtain ⟨y0, y1, k, hxx, _, t0, t1⟩ := trod_struct2 Tryz.underlying82 h2
        simp only [gcells9, gcells22, List.drop_succ_cons, List.drop_zero, List.take_succ_cons, List.take_zero] at t0 t1
        obtain ⟨s, e0, _, hs⟩ := DataW.trod_string Tryz.underlying9 t0
        obtain ⟨ad, l, c, e1, q1, q2, q3, q4⟩ := open_byt_f Tryz.underlying22 Tryz.underlying5 gcells5 t1 (fun x hx => hlt x (List.mem_append_right _ (List.mem_flatMap.2 ⟨i, List.mem_range.2 hi, by
          simp only [Prod.mk.injEq] at hxx
          rw [hxx.2]
          exact List.mem_append_right _ hx⟩)))
        simp only [List.cons.injEq, and_true] at e0
        subst e0 e1
        exact ⟨(s, l), hc 0 (by omega), by unfold maxLen at hs; show s.size ≤ _; omega, ad, _, c, hc 1 (by omega), rfl, q1, q2, q3, q4⟩)
    have hll : ((List.range len).map Y).length = len := by simp
    refine ⟨some a, (List.range len).map Y, m, by rw [hll], by rw [hll]; exact hl, by unfold maxLen at hm; omega, fun hne => ?_⟩
    have hl0 : len ≠ 0 := by
      intro h0
      apply hne
      rw [h0]
      rfl
    obtain ⟨b, off, spot⟩ := a
    have hspot : spot = none := spot_none (hY 0 (by omega)).1
    subst hspot
    refine ⟨b, off, rfl, hlt (.cell b off) (List.mem_append_left _ (MemPlace.mem_row.2 ⟨0, by omega, by simp⟩)), fun j x hx => ?_⟩
    have hj : j < len := by
      have := (List.getElem?_eq_some_iff.1 hx).1
      rw [hll] at this
      exact this
    have e : Y j = x := by
      rw [List.getElem?_map, List.getElem?_range hj] at hx
      exact Option.some.inj hx
    have h := hY j (by omega)
    simp only [add_two] at h
    rw [e] at h
    exact h
set_option maxRecDepth 100000 in
/-- an inode's cells that came in -/
theorem open_ino_f {W : World} {y : DataW H × List MemPlace} {n0 : Nat} {c0 c1 c2 c3 c4 c5 c6 c7 c8 : Value} (hf : DataW.trod enc Tryz.prog W 0 (fun _ => true) true n0 46 [c0, c1, c2, c3, c4, c5, c6, c7, c8] = some y) (hlt : ∀ x ∈ y.2, x.block < W.heap.size) :
    ∃ (x : InoP) (da : Option Addr) (dn dc : Nat) (na : Option Addr) (nn nc : Nat) (za : Option Addr) (zn zc : Nat) (aa : Option Addr) (an ac : Nat), [c0, c1, c2, c3, c4, c5, c6, c7, c8] = ivC x da dn dc na nn nc za zn zc aa an ac ∧ IvP W x da dn dc na nn nc za zn zc aa an ac := by
  obtain ⟨d, p⟩ := y
  obtain ⟨xs, n, _, hx, _, hlen, hfs⟩ := DataW.trod_struct Tryz.underlying46 hf
  match xs, hlen with
  | [y0, y1, y2, y3, y4, y5, y6, y7, y8], _ =>
    have f0 : DataW.trod enc Tryz.prog W 0 (fun _ => true) true n 3 [c0] = some y0 := by
      have h := hfs 0 _ rfl
      change DataW.trod enc Tryz.prog W 0 (fun _ => true) true n 3 (List.take (Tryz.prog.cellsOf 3) (List.drop 0 [c0, c1, c2, c3, c4, c5, c6, c7, c8])) = some y0 at h
      rw [gcells3] at h
      exact h
    have f1 : DataW.trod enc Tryz.prog W 0 (fun _ => true) true n 41 [c1] = some y1 := by
      have h := hfs 1 _ rfl
      change DataW.trod enc Tryz.prog W 0 (fun _ => true) true n 41 (List.take (Tryz.prog.cellsOf 41) (List.drop 1 [c0, c1, c2, c3, c4, c5, c6, c7, c8])) = some y1 at h
      rw [gcells41] at h
      exact h
    have f2 : DataW.trod enc Tryz.prog W 0 (fun _ => true) true n 3 [c2] = some y2 := by
      have h := hfs 2 _ rfl
      change DataW.trod enc Tryz.prog W 0 (fun _ => true) true n 3 (List.take (Tryz.prog.cellsOf 3) (List.drop 2 [c0, c1, c2, c3, c4, c5, c6, c7, c8])) = some y2 at h
      rw [gcells3] at h
      exact h
    have f3 : DataW.trod enc Tryz.prog W 0 (fun _ => true) true n 3 [c3] = some y3 := by
      have h := hfs 3 _ rfl
      change DataW.trod enc Tryz.prog W 0 (fun _ => true) true n 3 (List.take (Tryz.prog.cellsOf 3) (List.drop 3 [c0, c1, c2, c3, c4, c5, c6, c7, c8])) = some y3 at h
      rw [gcells3] at h
      exact h
    have f4 : DataW.trod enc Tryz.prog W 0 (fun _ => true) true n 22 [c4] = some y4 := by
      have h := hfs 4 _ rfl
      change DataW.trod enc Tryz.prog W 0 (fun _ => true) true n 22 (List.take (Tryz.prog.cellsOf 22) (List.drop 4 [c0, c1, c2, c3, c4, c5, c6, c7, c8])) = some y4 at h
      rw [gcells22] at h
      exact h
    have f5 : DataW.trod enc Tryz.prog W 0 (fun _ => true) true n 9 [c5] = some y5 := by
      have h := hfs 5 _ rfl
      change DataW.trod enc Tryz.prog W 0 (fun _ => true) true n 9 (List.take (Tryz.prog.cellsOf 9) (List.drop 5 [c0, c1, c2, c3, c4, c5, c6, c7, c8])) = some y5 at h
      rw [gcells9] at h
      exact h
    have f6 : DataW.trod enc Tryz.prog W 0 (fun _ => true) true n 42 [c6] = some y6 := by
      have h := hfs 6 _ rfl
      change DataW.trod enc Tryz.prog W 0 (fun _ => true) true n 42 (List.take (Tryz.prog.cellsOf 42) (List.drop 6 [c0, c1, c2, c3, c4, c5, c6, c7, c8])) = some y6 at h
      rw [gcells42] at h
      exact h
    have f7 : DataW.trod enc Tryz.prog W 0 (fun _ => true) true n 43 [c7] = some y7 := by
      have h := hfs 7 _ rfl
      change DataW.trod enc Tryz.prog W 0 (fun _ => true) true n 43 (List.take (Tryz.prog.cellsOf 43) (List.drop 7 [c0, c1, c2, c3, c4, c5, c6, c7, c8])) = some y7 at h
      rw [gcells43] at h
      exact h
    have f8 : DataW.trod enc Tryz.prog W 0 (fun _ => true) true n 44 [c8] = some y8 := by
      have h := hfs 8 _ rfl
      change DataW.trod enc Tryz.prog W 0 (fun _ => true) true n 44 (List.take (Tryz.prog.cellsOf 44) (List.drop 8 [c0, c1, c2, c3, c4, c5, c6, c7, c8])) = some y8 at h
      rw [gcells44] at h
      exact h
    simp only [Prod.mk.injEq] at hx
    obtain ⟨x0, e0, _, _⟩ := DataW.trod_int Tryz.underlying3 f0
    obtain ⟨x1, e1, _, _⟩ := DataW.trod_int Tryz.underlying41 f1
    obtain ⟨x2, e2, _, _⟩ := DataW.trod_int Tryz.underlying3 f2
    obtain ⟨x3, e3, _, _⟩ := DataW.trod_int Tryz.underlying3 f3
    obtain ⟨da, ld, dc, e4, d1, d2, d3, d4⟩ := open_byt_f Tryz.underlying22 Tryz.underlying5 gcells5 f4 (fun x hx2 => hlt x (by rw [hx.2]; simp [hx2]))
    obtain ⟨t, e5, _, ht⟩ := DataW.trod_string Tryz.underlying9 f5
    obtain ⟨na, ln, nc, e6, n1, n2, n3, n4, n5⟩ := open_srw_f Tryz.underlying42 Tryz.underlying9 gcells9 f6 (fun x hx2 => hlt x (by rw [hx.2]; simp [hx2]))
    obtain ⟨za, lz, zc, e7, z1, z2, z3, z4⟩ := open_zrw_f Tryz.underlying43 Tryz.underlying3 gcells3 f7 (fun x hx2 => hlt x (by rw [hx.2]; simp [hx2]))
    obtain ⟨aa, la, ac, e8, a1, a2, a3⟩ := open_arw_f f8 (fun x hx2 => hlt x (by rw [hx.2]; simp [hx2]))
    simp only [List.cons.injEq, and_true] at e0 e1 e2 e3 e5
    subst e0 e1 e2 e3 e4 e5 e6 e7 e8
    exact ⟨⟨x0, x1, x2, x3, ld, t, ln, lz, la⟩, da, _, dc, na, _, nc, za, _, zc, aa, _, ac, rfl, ⟨rfl, d1, d2, d3, d4, rfl, n1, n2, n3, rfl, z1, z2, z3, rfl, a1, a2, a3, by unfold maxLen at ht; show t.size ≤ _; omega⟩⟩
theorem add_at9 (b o i : Nat) (k : Nat) : ((⟨b, o, none⟩ : Addr).add (i * 9)).add k = ⟨b, o + i * 9 + k, none⟩ := by rw [WideShapes.add_plain, WideShapes.add_plain]
set_option maxRecDepth 100000 in
/-- a row of inodes that came in -/
theorem open_irw_f {W : World} {v : Value} {y : DataW H × List MemPlace} {n : Nat} (hf : DataW.trod enc Tryz.prog W 0 (fun _ => true) true n 24 [v] = some y) (hlt : ∀ x ∈ y.2, x.block < W.heap.size) :
    ∃ ao l c, v = .slice ao (l : List InoP).length c ∧ l.length ≤ c ∧ c ≤ 9223372036854775807 ∧ Irw W ao l := by
  obtain ⟨d, p⟩ := y
  rcases Go.Deep.open_slice Tryz.underlying24 hf with ⟨hcs, hx⟩ | ⟨a, len, cap, m, n', D, Pl, hcs, _, hl, hm, hmm, hx, each⟩
  · simp only [List.cons.injEq, and_true] at hcs
    subst hcs
    exact ⟨none, [], 0, rfl, Nat.le_refl _, by omega, fun h => absurd rfl h⟩
  · simp only [List.cons.injEq, and_true] at hcs
    subst hcs
    simp only [if_true] at hmm
    subst hmm
    simp only [Prod.mk.injEq] at hx
    obtain ⟨rfl, rfl⟩ := hx
    rw [gcells46] at each hlt
    obtain ⟨Y, hY⟩ := Go.Deep.choose_lt (α := InoP) (n := m) (p := fun i x => ∃ (da : Option Addr) (dn dc : Nat) (na : Option Addr) (nn nc : Nat) (za : Option Addr) (zn zc : Nat) (aa : Option Addr) (an ac : Nat), (∀ k, k < 9 → W.cell? ((a.add (i * 9)).add k) = (ivC x da dn dc na nn nc za zn zc aa an ac)[k]?) ∧ IvP W x da dn dc na nn nc za zn zc aa an ac) (fun i hi => by
      obtain ⟨cs', h1, h2⟩ := each i hi
      obtain ⟨_, hlen, hc⟩ := World.cells?_some h1
      match cs', hlen with
      | [c0, c1, c2, c3, c4, c5, c6, c7, c8], _ =>
        obtain ⟨x, da, dn, dc, na, nn, nc, za, zn, zc, aa, an, ac, e, hv⟩ := open_ino_f h2 (fun x hx => hlt x (List.mem_append_right _ (List.mem_flatMap.2 ⟨i, List.mem_range.2 hi, hx⟩)))
        refine ⟨x, da, dn, dc, na, nn, nc, za, zn, zc, aa, an, ac, fun k hk => ?_, hv⟩
        rw [← e, hc k hk])
    have hll : ((List.range len).map Y).length = len := by simp
    refine ⟨some a, (List.range len).map Y, m, by rw [hll], by rw [hll]; exact hl, by unfold maxLen at hm; omega, fun hne => ?_⟩
    have hl0 : len ≠ 0 := by
      intro h0
      apply hne
      rw [h0]
      rfl
    obtain ⟨b, off, spot⟩ := a
    have hspot : spot = none := by
      obtain ⟨da, dn, dc, na, nn, nc, za, zn, zc, aa, an, ac, h, _⟩ := hY 0 (by omega)
      exact spot_none (h 0 (by decide))
    subst hspot
    refine ⟨b, off, rfl, hlt (.cell b off) (List.mem_append_left _ (MemPlace.mem_row.2 ⟨0, by omega, by simp⟩)), fun j x hx => ?_⟩
    have hj : j < len := by
      have := (List.getElem?_eq_some_iff.1 hx).1
      rw [hll] at this
      exact this
    have e : Y j = x := by
      rw [List.getElem?_map, List.getElem?_range hj] at hx
      exact Option.some.inj hx
    obtain ⟨da, dn, dc, na, nn, nc, za, zn, zc, aa, an, ac, h, hv⟩ := hY j (by omega)
    simp only [add_at9] at h
    rw [e] at h hv
    exact ⟨da, dn, dc, na, nn, nc, za, zn, zc, aa, an, ac, ⟨h 0 (by decide), h 1 (by decide), h 2 (by decide), h 3 (by decide), h 4 (by decide), h 5 (by decide), h 6 (by decide), h 7 (by decide), h 8 (by decide)⟩, hv⟩
set_option maxRecDepth 100000 in
/-- a file system that came in -/
theorem open_fs {W : World} {base : Nat} {v : Value} {d : DataW H} {p : List MemPlace} (hval : Value.okWide Tryz.prog W .any base 26 v) (h : DataW.Trod enc Tryz.prog W 0 (fun _ => true) true 26 v d p) (hlt : ∀ x ∈ p, x.block < W.heap.size) :
    ∃ (ao : Option Addr) (l : List InoP) (c : Nat) (next : Int), v = .agg #[.slice ao l.length c, .int .i64 next] ∧ -9223372036854775808 ≤ next ∧ next ≤ 9223372036854775807 ∧ l.length ≤ c ∧ c ≤ 9223372036854775807 ∧ Irw W ao l := by
  obtain ⟨cs, rfl, hsz⟩ := okWide_struct Tryz.underlying26 hval
  rw [gcells26] at hsz
  obtain ⟨l⟩ := cs
  obtain ⟨fuel, hf⟩ := h
  match l, hsz with
  | [c0, c1], _ =>
    obtain ⟨xs, n, _, hx, _, hlen, hfs⟩ := DataW.trod_struct Tryz.underlying26 hf
    match xs, hlen with
    | [y0, y1], _ =>
      have f0 : DataW.trod enc Tryz.prog W 0 (fun _ => true) true n 24 [c0] = some y0 := by
        have h := hfs 0 _ rfl
        change DataW.trod enc Tryz.prog W 0 (fun _ => true) true n 24 (List.take (Tryz.prog.cellsOf 24) (List.drop 0 [c0, c1])) = some y0 at h
        rw [gcells24] at h
        exact h
      have f1 : DataW.trod enc Tryz.prog W 0 (fun _ => true) true n 3 [c1] = some y1 := by
        have h := hfs 1 _ rfl
        change DataW.trod enc Tryz.prog W 0 (fun _ => true) true n 3 (List.take (Tryz.prog.cellsOf 3) (List.drop 1 [c0, c1])) = some y1 at h
        rw [gcells3] at h
        exact h
      simp only [Prod.mk.injEq] at hx
      obtain ⟨ao, l, c, e0, h1, h2, h3⟩ := open_irw_f f0 (fun x hx2 => hlt x (by rw [hx.2]; simp [hx2]))
      obtain ⟨next, e1, _, hw⟩ := DataW.trod_int Tryz.underlying3 f1
      have hb := bounds_i64 hw
      simp only [List.cons.injEq, and_true] at e1
      subst e0 e1
      exact ⟨ao, l, c, next, rfl, hb.1, hb.2, h1, h2, h3⟩
end
end Go.Proofs.YtojhlhpbhoeplaaGreatDoor.Lw
namespace Go.Proofs.YtojhlhpbhoeplaaGreatDoor.Lw
open Go.RowKit Go.Lib Go.Proofs.YtojhlhpbhoeplaaGreatDoor.Sh Go.Proofs.YtojhlhpbhoeplaaGreatDoor.Lb
def overl : List Value → Nat → List Value → List Value
  | cs, _, [] => cs
  | cs, o, v :: r => overl (cs.set o v) (o + 1) r
theorem overl_mid : ∀ (vs p a r : List Value) (_ : a.length = vs.length), overl (p ++ (a ++ r)) p.length vs = p ++ (vs ++ r)
  | [], p, a, r, h => by
    have : a = [] := List.eq_nil_of_length_eq_zero (by simpa using h)
    rw [this]
    rfl
  | v :: vs, p, [], r, h => by simp at h
  | v :: vs, p, x :: a, r, h => by
    have h2 := overl_mid vs (p ++ [v]) a r (by simpa using h)
    have e : (p ++ (x :: a ++ r)).set p.length v = (p ++ [v]) ++ (a ++ r) := by simp
    show overl ((p ++ (x :: a ++ r)).set p.length v) (p.length + 1) vs = _
    rw [e]
    have e2 : (p ++ [v]).length = p.length + 1 := by simp
    rw [e2] at h2
    rw [h2]
    simp
theorem blk_sets {g : Nat} {t : TypeId} : ∀ (vs cs : List Value) (o : Nat) (w : World), Sh.Blk w g cs t → Sh.Blk (w.setCells g o vs) g (overl cs o vs) t
  | [], _, _, _, h => h
  | v :: r, cs, o, _, h => blk_sets r (cs.set o v) (o + 1) _ (Sh.Blk.set h o v)
theorem gbt {a b c : World} {g : Nat} (h : a.grownBy b (some g)) (k : b.grownBy c (some g)) : a.grownBy c (some g) := grownBy_trans h k
theorem gb_sets (g : Nat) : ∀ (vs : List Value) (o : Nat) (w : World), w.grownBy (w.setCells g o vs) (some g)
  | [], _, _ => ⟨rfl, rfl, rfl, Nat.le_refl _, fun _ _ _ => rfl⟩
  | v :: r, o, w => gbt (grownBy_setCell w g o v) (gb_sets g r (o + 1) _)
theorem run_append_room_zeros (w : World) (b n cap k : Nat) (hroom : n + k ≤ cap) (hk : k ≤ 1073741824) (hc : ∀ j, j < k → (w.cell? ⟨b, n + j, none⟩).isSome = true) (hf : ∀ j, j < k → w.frozen? ⟨b, n + j, none⟩ = false) :
    (Builtin.append_ #[22, 3] 22 #[.slice (some ⟨b, 0, none⟩) n cap, .int .i64 (k : Int)]).run Tryz.prog w = .ok (.slice (some ⟨b, 0, none⟩) (n + k) cap) (w.setCells b n (bs (List.replicate k 0))) := by
  obtain ⟨i5, hi, hz, hs, hb⟩ := info_parts info5
  have hl : (bs (List.replicate k 0)).length = k := by simp [bs]
  have hst := run_storeCells_cells (P := Tryz.prog) b n (bs (List.replicate k 0)) 0 w (by simpa [hl] using hc) (by simpa [hl] using hf) (bs_one _)
  simp only [Nat.add_zero] at hst
  have hw : IntKind.i64.wrap (k : Int) = k := by rw [IntKind.wrap_i64]; omega
  have hneg : ¬ ((k : Int) < 0) := by omega
  have h48 : ¬ (281474976710656 < (k : Int)) := by omega
  by_cases hk0 : k = 0
  · subst hk0
    have e : bs (List.replicate 0 0) = [] := rfl
    rw [e] at hst ⊢
    have hw0 : IntKind.i64.wrap 0 = 0 := by decide
    have hr0 : n ≤ cap := by omega
    simp [Builtin.append_, run_underlying Tryz.underlying22, run_underlying Tryz.underlying3, sizeOf, typeInfo, hi, hs, hb, asInt, asIntOf, Addr.add_lit, hst, hw0, hr0]
  · have hzc : (Builtin.zeroCells (Value.int .u8 0).cells k).toList = bs (List.replicate k 0) := by
      rw [show bs (List.replicate k 0) = List.replicate k (Value.int .u8 0) by simp [bs], List.eq_replicate_iff]
      refine ⟨by simp [Builtin.zeroCells, Value.cells], fun x hx => ?_⟩
      simp [Builtin.zeroCells, Value.cells, Nat.mod_one] at hx
      exact hx.2.symm
    simp [Builtin.append_, run_underlying Tryz.underlying22, run_underlying Tryz.underlying3, sizeOf, typeInfo, zeroValue, hi, hz, hs, hb, asInt, asIntOf, hw, hneg, h48, hk0, hroom, Addr.add_lit, hzc, hst]

theorem run_append_own_zeros (w : World) (B : Nat) (v : Value) (xs : List UInt8) (k : Nat) (hown : Own w B v xs) (hB : B ≤ w.heap.size) (hk : xs.length + k ≤ 1073741824) :
    ∃ v' w', (Builtin.append_ #[22, 3] 22 #[v, .int .i64 (k : Int)]).run Tryz.prog w = .ok v' w' ∧ Own w' B v' (xs ++ List.replicate k 0) ∧ Below B w w' := by
  obtain ⟨i5, hi, hz, hs, hb⟩ := info_parts info5
  have hlen : (xs ++ List.replicate k 0).length = xs.length + k := by simp
  have grow : ∀ (base : Option Addr) (cap : Nat), (Builtin.firstCells i5.size xs.length (.slice base xs.length cap)).run Tryz.prog w.drew = .ok (bs xs).toArray w.drew → cap < xs.length + k → 0 < k → cap ≤ 9223372036854775807 →
      ∃ v' w', (Builtin.append_ #[22, 3] 22 #[.slice base xs.length cap, .int .i64 (k : Int)]).run Tryz.prog w = .ok v' w' ∧ Own w' B v' (xs ++ List.replicate k 0) ∧ Below B w w' := fun base cap hold hg h0 hcm => by
    have hr := Lib.run_append_grow_zeros (P := Tryz.prog) w 22 3 22 5 i5 (.int .u8 0) .i64 .i64 Tryz.underlying22 Tryz.underlying3 hi hz base xs.length cap (bs xs) hold k h0 (by rw [hs]; omega) hg (by omega) (by rw [hb]; omega)
      (by rw [hb]; exact growslice_fits (by omega) (by omega))
    have hge := grownCap_ge w (xs.length + k) cap 5
    have hcm2 := grownCap_le_maxLen w (xs.length + k) cap 5 (by unfold maxLen; omega)
    generalize grownCap w (xs.length + k) cap 5 = G at *
    refine ⟨_, _, hr, ?_, (Below.refl B w).drew.alloc hB _⟩
    unfold Own
    rw [hlen]
    have hzc : (Builtin.zeroCells (Value.int .u8 0).cells k).toList = bs (List.replicate k 0) := by
      rw [show bs (List.replicate k 0) = List.replicate k (Value.int .u8 0) by simp [bs], List.eq_replicate_iff]
      refine ⟨by simp [Builtin.zeroCells, Value.cells], fun x hx => ?_⟩
      simp [Builtin.zeroCells, Value.cells, Nat.mod_one] at hx
      exact hx.2.symm
    refine ⟨by rw [bs_len, hlen]; omega, Or.inr ⟨w.heap.size, G, _, rfl, hB, heap_alloc_new w.drew _, hge, hcm2, ?_, ?_⟩⟩
    · have hz1 : (Value.int IntKind.u8 0).cells.size = 1 := rfl
      simp only [Array.size_append, List.size_toArray, size_zeroCells, hz1, bs_len]
      omega
    · rw [Array.toList_append, Array.toList_append, hzc, bs_app]
      have h9 : (bs xs ++ bs (List.replicate k 0)).length = xs.length + k := by rw [List.length_append, bs_len, bs_len, List.length_replicate]
      rw [Nat.mul_one, List.take_append_of_le_length (by rw [h9]; exact Nat.le_refl _), List.take_of_length_le (by rw [h9]; exact Nat.le_refl _)]
  have hown' := hown
  obtain ⟨h1, ⟨rfl, h2⟩ | ⟨g, cap, cur, rfl, e2, e3, e4, e5, e6, e7⟩⟩ := hown'
  · have hx : xs = [] := List.eq_nil_of_length_eq_zero h2
    subst hx
    by_cases h0 : k = 0
    · subst h0
      refine ⟨.slice none 0 0, w, ?_, by simpa using hown, Below.refl _ _⟩
      simp [Builtin.append_, run_underlying Tryz.underlying22, run_underlying Tryz.underlying3, sizeOf, typeInfo, hi, hb, asInt, asIntOf, show IntKind.i64.wrap 0 = 0 by decide]
    · exact grow none 0 (run_firstCells_none _ _ _ _ _) (by simp; omega) (by omega) (by omega)
  · have hcm : cap ≤ 9223372036854775807 := by unfold maxLen at e5; omega
    by_cases hroom : xs.length + k ≤ cap
    · have hblk : Sh.Blk w g cur.toList 5 := by unfold Sh.Blk; rw [e3]
      have hr := run_append_room_zeros w g xs.length cap k hroom (by omega) (fun j hj => by
        rw [hblk.cell, List.getElem?_eq_getElem (show xs.length + j < cur.toList.length by have h8 : cur.toList.length = cap := by { rw [Array.length_toList, e6, Nat.mul_one] }; omega)]; rfl) (fun j hj => hblk.frozen _)
      refine ⟨_, _, hr, ?_, (Below.refl B w).grown (gb_sets g _ _ w) hB (fun j e => by injection e with e; omega)⟩
      have hcl : cur.toList.length = cap := by rw [Array.length_toList, e6, Nat.mul_one]
      rw [Nat.mul_one] at e7
      have hsp : cur.toList = bs xs ++ ((cur.toList.drop xs.length).take k ++ (cur.toList.drop xs.length).drop k) := by rw [List.take_append_drop, ← e7, List.take_append_drop]
      have hb2 := blk_sets (bs (List.replicate k 0)) cur.toList xs.length w hblk
      have hov : overl cur.toList xs.length (bs (List.replicate k 0)) = bs xs ++ (bs (List.replicate k 0) ++ (cur.toList.drop xs.length).drop k) := by
        have h9 := overl_mid (bs (List.replicate k 0)) (bs xs) ((cur.toList.drop xs.length).take k) ((cur.toList.drop xs.length).drop k) (by rw [List.length_take, List.length_drop, hcl, bs_len, List.length_replicate]; omega)
        rw [← hsp, bs_len] at h9
        exact h9
      rw [hov] at hb2
      unfold Own
      rw [hlen]
      refine ⟨by rw [bs_len, hlen]; omega, Or.inr ⟨g, cap, _, rfl, e2, hb2, hroom, e5, ?_, ?_⟩⟩
      · rw [List.size_toArray, List.length_append, List.length_append, bs_len, bs_len, List.length_replicate, List.length_drop, List.length_drop, hcl]
        omega
      · rw [bs_app, ← List.append_assoc]
        have h9 : (bs xs ++ bs (List.replicate k 0)).length = xs.length + k := by rw [List.length_append, bs_len, bs_len, List.length_replicate]
        rw [Nat.mul_one, List.take_append_of_le_length (by rw [h9]; exact Nat.le_refl _), List.take_of_length_le (by rw [h9]; exact Nat.le_refl _)]
    · exact grow _ cap (by
        refine run_firstCells_some w.drew i5.size xs.length ⟨g, 0, none⟩ xs.length cap (bs xs) (by rw [bs_len, hs]; omega) (fun j u hj => ?_)
        have hj2 : j < xs.length := by have := (List.getElem?_eq_some_iff.1 hj).1; rw [bs_len] at this; exact this
        exact World.ownsRow.cells hown (g := g) rfl j u hj) (by omega) (by omega) hcm
end Go.Proofs.YtojhlhpbhoeplaaGreatDoor.Lw
namespace Go.Proofs.YtojhlhpbhoeplaaGreatDoor.Lw
open Go.RowKit Go.Lib Go.Proofs.YtojhlhpbhoeplaaGreatDoor.Sh Go.Proofs.YtojhlhpbhoeplaaGreatDoor.Lb

/-- some yes or no -/
def SomeB (w : World) (e : Ending) (w' : World) : Prop := (∃ b : Bool, e = .returned (.bool b)) ∧ Below w.heap.size w w'
set_option maxHeartbeats 4000000 in
set_option maxRecDepth 100000 in
theorem small_any (ao : Option Addr) (l : List InoP) (n c : Nat) (next : Int) (w : World) (h : Irw w ao l) (hl : l.length = n) (hn : n ≤ 9223372036854775807) :
    Calls Tryz.prog 13 #[.agg #[.slice ao n c, .int .i64 next]] w (SomeB w) := by
  obtain ⟨w1, hw1⟩ : ∃ w1, w1 = w.alloc (.cells #[.slice ao n c, .int .i64 next] 26) := ⟨_, rfl⟩
  have b1 : Below w.heap.size w w1 := by rw [hw1]; exact (Below.refl _ w).alloc (Nat.le_refl _) _
  have x1 : Sh.Blk w1 w.heap.size [.slice ao n c, .int .i64 next] 26 := by rw [hw1]; exact Sh.Blk.new w [.slice ao n c, .int .i64 next] 26 _ rfl
  have I1 := Lib.hid (h.below b1)
  have HL := Lib.hid hl
  have B1 := Lib.hid b1
  have X1 := Lib.hid x1
  have HW1 := Lib.hid hw1
  have c0 := x1.cell 0
  simp only [List.getElem?_cons_zero] at c0
  rw [hw1] at c0
  clear h hl x1 b1 hw1
  by_cases hbig : 100 < n
  · have t0 : decide ((100 : Int) < (n : Int)) = true := by simp; omega
    go_enter Tryz.func13, Tryz.ntmps13
    go_wp2_with fail
    rw [← HW1.out]
    go_ret
    exact ⟨⟨false, rfl⟩, B1.out⟩
  have t0 : decide ((100 : Int) < (n : Int)) = false := by simp; omega
  go_enter Tryz.func13, Tryz.ntmps13
  go_wp2_with fail
  rw [← HW1.out]
  clear HW1 c0 t0
  go_loopw [3, 4] (fun vs vi wr => ∃ (i : Nat) (z : Int), i ≤ n ∧ vi = .int .i64 i ∧ vs = .int .i64 z ∧ Hid (Below w1.heap.size w1 wr)) (fun _ vi _ => n - (RowKit.intOf vi).toNat)
  case atStart => exact ⟨0, 0, Nat.zero_le _, rfl, rfl, Below.refl _ _⟩
  case round =>
    obtain ⟨i, z, hi, rfl, rfl, hB⟩ := hrel
    have c0 := (X1.out.low hB.out).cell 0
    simp only [List.getElem?_cons_zero] at c0
    have BB := Lib.hid (below_chain B1.out hB.out)
    by_cases hin : i < n
    rotate_left
    · have u1 : decide ((i : Int) < (n : Int)) = false := by simp; omega
      have u2 : decide (i < n) = false := by simp; omega
      go_wp2_with fail
      all_goals first
        | (go_quiet (fail); go_wp2_with fail; go_ret; exact ⟨⟨_, rfl⟩, BB.out⟩)
        | (go_ret; exact ⟨⟨_, rfl⟩, BB.out⟩)
    have u1 : decide ((i : Int) < (n : Int)) = true := by simp; omega
    have u2 : decide (i < n) = true := by simp; omega
    obtain ⟨x, hx⟩ : ∃ x, l[i]? = some x := ⟨_, List.getElem?_eq_getElem (by have := HL.out; omega)⟩
    obtain ⟨fb, fo, e, hfbl, da, dn, dc, na, nn, nc, za, zn, zc, aa, an, ac, h9, _⟩ := irw_at I1.out i x hx
    subst e
    have k4 := (h9.below hB.out hfbl).k4
    have q2 : (0 : Int) ≤ (i : Int) := by omega
    have q3 : (i : Int) < (n : Int) := by omega
    have hwi : IntKind.i64.wrap ((i : Int) + 1) = (i : Int) + 1 := by rw [IntKind.wrap]; simp [IntKind.bits, IntKind.signed]; omega
    clear hx h9 hfbl
    by_cases hz : z ≤ 50000
    · have v1 : decide (z ≤ 50000) = true := by simpa using hz
      go_wp2_with fail
      go_roundw
      case rel => exact ⟨i + 1, _, by omega, by go_num, rfl, hB⟩
      case measure => simp [RowKit.intOf]; omega
    · have v1 : decide (z ≤ 50000) = false := by simpa using hz
      go_wp2_with fail
      go_ret
      exact ⟨⟨_, rfl⟩, BB.out⟩
theorem zeros_fit {l : List InoP} {next : Int} (h : OkFs ltB nameOk l next) (k : Nat) : IsFs ltB nameOk (imgL l ++ List.replicate k 0) l := by
  have hn := h.1.next
  exact ⟨by rw [← hn]; exact h, k, rfl⟩
theorem wpl_run_any {w : World} {ops : Array Oper} {rest : List Oper} {o : Oper} {a : Act} {Q : Exit → Act → World → Prop} (hgd : o.guard = none) (s x : Operand)
    (ho : o.op = .call { callee := .builtin .append, args := #[s, x], argTypes := #[22, 3] }) (hty : o.type = 22)
    (B : Nat) (v : Value) (xs : List UInt8) (k : Nat) (hs : a.eval s = v) (hx : a.eval x = .int .i64 (k : Int)) (hown : Own w B v xs) (hB : B ≤ w.heap.size) (hk : xs.length + k ≤ 1073741824)
    (h : ∀ v' w', Own w' B v' (xs ++ List.replicate k 0) → Below B w w' → wpList Tryz.prog ops Q rest (a.put o.dst v') w') : wpList Tryz.prog ops Q (o :: rest) a w := by
  obtain ⟨v', w', hr, ho', hb'⟩ := run_append_own_zeros w B v xs k hown hB hk
  refine Lib.wpList_append_run _ hgd _ _ _ _ ho _ _ hs hx _ _ (by rw [hty]; exact hr) ?_
  exact h v' w' ho' hb'

end Go.Proofs.YtojhlhpbhoeplaaGreatDoor.Lw
namespace Go.Proofs.YtojhlhpbhoeplaaGreatDoor.Lw
open Go.RowKit Go.Lib Go.Proofs.YtojhlhpbhoeplaaGreatDoor.Sh Go.Proofs.YtojhlhpbhoeplaaGreatDoor.Lb

set_option maxHeartbeats 8000000 in
set_option maxRecDepth 100000 in
theorem back_law (a : Addr) (ao : Option Addr) (l : List InoP) (n c : Nat) (next k : Int) (w : World) (hE : Env w a) (h : Irw w ao l) (hl : l.length = n) (hc : n ≤ c) (hcc : c ≤ 9223372036854775807) :
    Calls Tryz.prog 6 #[.agg #[.slice ao n c, .int .i64 next], .int .i64 k] w fun e w' => e = .returned (.bool true) ∧ Below w.heap.size w w' := by
  have E0 := Lib.hid hE
  have CH := Lib.hid (fun W (hb : Below w.heap.size w W) => heads_any a W (hE.below hb))
  obtain ⟨w1, hw1⟩ : ∃ w1, w1 = w.alloc (.cells #[.slice ao n c, .int .i64 next] 26) := ⟨_, rfl⟩
  have b1 : Below w.heap.size w w1 := by rw [hw1]; exact (Below.refl _ w).alloc (Nat.le_refl _) _
  have x1 : Sh.Blk w1 w.heap.size [.slice ao n c, .int .i64 next] 26 := by rw [hw1]; exact Sh.Blk.new w [.slice ao n c, .int .i64 next] 26 _ rfl
  have HI := Lib.hid h
  have HL := Lib.hid hl
  have HC := Lib.hid hc
  have HCC := Lib.hid hcc
  have B1 := Lib.hid b1
  have X1 := Lib.hid x1
  have HW1 := Lib.hid hw1
  have C := Lib.hid (small_any ao l n c next w1 (h.below b1) hl (by omega))
  have c0 := x1.cell 0
  have c1 := x1.cell 1
  simp only [List.getElem?_cons_zero, List.getElem?_cons_succ] at c0 c1
  rw [hw1] at c0 c1
  clear h hl x1 b1 hw1 hE hc hcc
  go_enter Tryz.func6, Tryz.ntmps6
  go_wp2_with fail
  rw [← HW1.out]
  refine C.out.mono ?_
  clear C c0 c1 HW1
  rintro e w2 ⟨⟨b, rfl⟩, hb⟩
  have B2 := Lib.hid (below_chain B1.out hb)
  have X2 := Lib.hid (X1.out.low hb)
  clear hb B1 X1
  by_cases hgo : b = true ∧ 0 ≤ k ∧ k ≤ 1000
  rotate_left
  · have C := Lib.hid (CH.out _ B2.out)
    cases b with
    | false =>
      go_wp2_with fail
      refine C.out.mono ?_
      rintro e w3 ⟨rfl, hb⟩
      have B3 := Lib.hid (below_chain B2.out hb)
      clear hb
      go_wp2_with fail
      go_ret
      exact ⟨rfl, B3.out⟩
    | true =>
      by_cases hk0 : k < 0
      · have t1 : decide (k < 0) = true := by simpa using hk0
        go_wp2_with fail
        refine C.out.mono ?_
        rintro e w3 ⟨rfl, hb⟩
        have B3 := Lib.hid (below_chain B2.out hb)
        clear hb
        go_wp2_with fail
        go_ret
        exact ⟨rfl, B3.out⟩
      · have t1 : decide (k < 0) = false := by simpa using hk0
        have hk2 : 1000 < k := by
          by_cases h1 : k ≤ 1000
          · exact absurd ⟨rfl, by omega, h1⟩ hgo
          · omega
        have t2 : decide (1000 < k) = true := by simpa using hk2
        go_wp2_with fail
        refine C.out.mono ?_
        rintro e w3 ⟨rfl, hb⟩
        have B3 := Lib.hid (below_chain B2.out hb)
        clear hb
        go_wp2_with fail
        go_ret
        exact ⟨rfl, B3.out⟩
  obtain ⟨rfl, hk0, hk1⟩ := hgo
  have t1 : decide (k < 0) = false := by simp; omega
  have t2 : decide (1000 < k) = false := by simp; omega
  have c0 := X2.out.cell 0
  have c1 := X2.out.cell 1
  simp only [List.getElem?_cons_zero, List.getElem?_cons_succ] at c0 c1
  have C := Lib.hid (put_any a ao l n c next w2 (E0.out.below B2.out) (HI.out.below B2.out) HL.out HC.out HCC.out)
  go_wp2_with fail
  refine C.out.mono ?_
  clear C c0 c1 t1 t2
  rintro e w3 ⟨hb, hv⟩
  have B3 := Lib.hid (below_chain B2.out hb)
  have X3 := Lib.hid (X2.out.low hb)
  rcases hv with ⟨hok, v, rfl, hown⟩ | ⟨hno, rfl⟩
  rotate_left
  · have NO := Lib.hid hno
    have c0 := X3.out.cell 0
    have c1 := X3.out.cell 1
    simp only [List.getElem?_cons_zero, List.getElem?_cons_succ] at c0 c1
    have C := Lib.hid (checkfs_any a ao l n c next w3 (E0.out.below B3.out) (HI.out.below B3.out) HL.out HC.out HCC.out)
    clear hb hno
    go_wp2_with fail
    refine C.out.mono ?_
    clear C c0 c1
    rintro e w4 ⟨hb, b, rfl, hbk⟩
    obtain rfl : b = false := by
      cases b with
      | false => rfl
      | true => exact absurd (hbk.1 rfl) NO.out
    have B4 := Lib.hid (below_chain B3.out hb)
    clear hb hbk
    go_wp2_with fail
    refine (CH.out _ B4.out).mono ?_
    rintro e w5 ⟨rfl, hb⟩
    have B5 := Lib.hid (below_chain B4.out hb)
    clear hb
    go_wp2_with fail
    go_ret
    exact ⟨rfl, B5.out⟩
  have OK := Lib.hid hok
  obtain ⟨kn, rfl⟩ : ∃ kn : Nat, k = (kn : Int) := ⟨k.toNat, by omega⟩
  have hlen := img_len hok.1
  obtain ⟨va, vc, hve, v1, v2, v3, v4⟩ := own_byt (show w3.ownsRow w2.heap.size 5 1 v _ (bs _) from hown)
  obtain ⟨m, hm⟩ : ∃ m, m = (imgL l).length := ⟨_, rfl⟩
  rw [← hm] at hve hlen
  subst hve
  have HM : Hid ((imgL l).length = m) := hm.symm
  have OWN0 : Hid ((w3.alloc (.cells #[] 5)).ownsRow w3.heap.size 5 1 (.slice (some ⟨w3.heap.size, 0, none⟩) 0 0) ([] : List UInt8).length (bs [])) := World.ownsRow_made w3 #[] 0 (Nat.le_refl _) (by decide) rfl
  have BA : Hid (Below w3.heap.size w3 (w3.alloc (.cells #[] 5))) := (Below.refl _ w3).alloc (Nat.le_refl _) _
  have V3 := Lib.hid (v3.below BA.out)
  have V4 := Lib.hid v4
  have hs3 : w3.heap.size ≤ (w3.alloc (.cells #[] 5)).heap.size := BA.out.size
  have H47 : Hid (([] : List UInt8).length + m ≤ 140737488355328) := by show _ ≤ _; simp only [List.length_nil]; omega
  have KB : Hid (kn ≤ 1000 ∧ m ≤ 40000000) := ⟨by omega, hlen⟩
  have HKN : Hid (([] ++ imgL l).length + kn ≤ 1073741824) := by show _ ≤ _; rw [List.nil_append, ← hm]; omega
  clear hb hok hown v1 v2 v3 v4 hm hlen hk0 hk1
  go_wp2_with (at_builtin; first
    | (refine wpl_app_len (t := 22) (e := 5) rfl (.tmp 40) (.tmp 41) rfl Tryz.underlying22 info5 w3.heap.size _ [] (imgL l) rfl OWN0.out va m vc rfl V3.out V4.out HM.out H47.out hs3 ?_; intro v4 w4 hown4 hgrow4; have HS4 : Hid (w3.heap.size ≤ w4.heap.size) := Nat.le_trans hs3 hgrow4.size)
    | (refine wpl_run_any rfl (.tmp 42) (.tmp 43) rfl rfl w3.heap.size _ ([] ++ imgL l) kn rfl rfl hown4 HS4.out HKN.out ?_; intro v5 w5 hown5 hb5))
  have B5 : Hid (Below w.heap.size w w5) := below_chain B3.out ((BA.out.grown hgrow4 hs3 (fun j hj => by have e : some w3.heap.size = some j := hj; injection e with e; omega)).trans hb5)
  have X5 := Lib.hid (X3.out.low ((BA.out.grown hgrow4 hs3 (fun j hj => by have e : some w3.heap.size = some j := hj; injection e with e; omega)).trans hb5))
  rw [List.nil_append] at hown5
  obtain ⟨va5, vc5, hve, u1, u2, u3, u4⟩ := own_byt (show w5.ownsRow w3.heap.size 5 1 v5 _ (bs _) from hown5)
  obtain ⟨q, hq⟩ : ∃ q, q = (imgL l ++ List.replicate kn 0).length := ⟨_, rfl⟩
  rw [← hq] at hve u1
  subst hve
  have hqb : q ≤ 140737488355328 := by rw [hq, List.length_append, List.length_replicate, HM.out]; have := KB.out; omega
  have far : ∀ x, va5 = some x → x.block < w5.heap.size := fun x hx => by
    subst hx
    exact (World.ownsRow.lt (show w5.ownsRow w3.heap.size 5 1 _ _ (bs _) from hown5) x.block rfl).2
  have C := Lib.hid (lget_any a va5 (imgL l ++ List.replicate kn 0) q vc5 w5 (E0.out.below B5.out) u3 u4 hq.symm u1 u2 hqb far)
  clear hown4 hgrow4 hown5 hb5 u1 u2 u3 u4 hq hqb far HS4 HKN V3 V4 hs3 H47 OWN0 BA
  refine C.out.mono ?_
  clear C
  rintro e w6 ⟨hb, ⟨l', ap, cp, rfl, hfs, ho, hsm⟩ | ⟨_, hno⟩⟩
  rotate_left
  · exact absurd ⟨l, zeros_fit OK.out kn⟩ hno
  obtain rfl : l' = l := isFs_unique nameOk_len hfs (zeros_fit OK.out kn)
  have hnx := OK.out.1.next
  obtain ⟨ap', cp', e, g1, g2, _, hi⟩ := ownI_irw ho hsm
  injection e with e1 e2 e3
  clear e2
  subst e1
  subst e3
  rw [HL.out] at g1 hnx ⊢
  rw [← hnx]
  obtain ⟨w7, hw7⟩ : ∃ w7, w7 = w6.alloc (.cells #[.slice ap n cp, .int .i64 next] 26) := ⟨_, rfl⟩
  have b7 : Below w6.heap.size w6 w7 := by rw [hw7]; exact (Below.refl _ w6).alloc (Nat.le_refl _) _
  have F7 : Hid (Sh.Blk w7 w6.heap.size [.slice ap n cp, .int .i64 next] 26) := by show Sh.Blk _ _ _ _; rw [hw7]; exact Sh.Blk.new w6 _ 26 _ rfl
  have B7 := Lib.hid (below_chain B5.out (below_chain hb b7))
  have X7 := Lib.hid ((X5.out.low hb).low b7)
  have I7 := Lib.hid (hi.below b7)
  have CS := Lib.hid (fs_same ao ap l' n c cp next w7 (HI.out.below B7.out) I7.out HL.out HC.out HCC.out g1 g2)
  have x0 := X7.out.cell 0
  have x1 := X7.out.cell 1
  have y0 := F7.out.cell 0
  have y1 := F7.out.cell 1
  simp only [List.getElem?_cons_zero, List.getElem?_cons_succ] at x0 x1 y0 y1
  rw [hw7] at x0 x1 y0 y1
  have HW := Lib.hid hw7
  clear hb hfs ho hsm hnx hi b7 hw7 g1 g2
  go_wp2_with fail
  rw [← HW.out]
  refine CS.out.mono ?_
  clear CS x0 x1 y0 y1 HW
  rintro e w8 ⟨rfl, hb⟩
  have B8 := Lib.hid (below_chain B7.out hb)
  clear hb
  go_wp2_with fail
  refine (CH.out _ B8.out).mono ?_
  rintro e w9 ⟨rfl, hb⟩
  have B9 := Lib.hid (below_chain B8.out hb)
  clear hb
  go_wp2_with fail
  go_ret
  exact ⟨rfl, B9.out⟩
end Go.Proofs.YtojhlhpbhoeplaaGreatDoor.Lw
namespace Go.Proofs.YtojhlhpbhoeplaaGreatDoor
namespace Sh
open Go.ChangeShapes Go.WideShapes Go.ChangeAt Go.RowKit Go.Lib Go.ChangeMaps

theorem back_env (ao : Option Addr) (l : List Lw.InoP) (c : Nat) (next k : Int) (w : World) (hL : laidMetH Tryz.prog laidAll w) (h : Lw.Irw w ao l) (hc : l.length ≤ c) (hc2 : c ≤ 9223372036854775807) :
    Calls Tryz.prog 6 #[.agg #[.slice ao l.length c, .int .i64 next], .int .i64 k] w fun e w' => e = .returned (.bool true) ∧ Below w.heap.size w w' := by
  obtain ⟨a, hE⟩ := env_of hL
  exact Lw.back_law a ao l l.length c next k w hE h rfl hc hc2
set_option maxRecDepth 100000 in
/-- WHAT THE WALK GIVES, for every argument and every memory that meets the row. -/
theorem lowerBack_contract (H : Type) (enc : TypeId × Value → H) (W : World) (base : Nat) (args : Array Value) (ds gs : List (DataW H)) (before : List MemPlace)
    (hval : ∀ (j : Nat) t v, Tryz.f6.params[j]? = some t → args[j]? = some v → Value.okWide Tryz.prog W .any base t v)
    (hW : DataW.Whole enc Tryz.prog Tryz.f6.params.toList Rows.lowerBackSpec.vars false W args.toList ds gs before) 
    (hsz0 : (DataW.weightsEach Tryz.prog (Tryz.f6.params.toList ++ (OpenSpec.ofChange Rows.lowerBackSpec).bare.plain.varTypes Tryz.prog) (ds ++ gs)).all (· ≤ reachBytes) = true) (hL : laidMetH Tryz.prog Rows.lowerBackRow.laid W) :
    Calls Tryz.prog 6 args W fun e W' => ∃ v, e = .returned v ∧ Rows.lowerBackSpec.post enc Tryz.prog Tryz.f6 false true false false W args v W' := by
  have hsz := hsz0
  clear hsz0
  have hW' := hW
  obtain ⟨p, q, hA0, hV, rfl, hfz, hnd⟩ := hW
  have hA : DataW.TrodAll enc Tryz.prog W 0 (fun _ => true) true Tryz.f6.params.toList args.toList ds p := hA0
  have hAk := hA
  clear hA0
  rw [Tryz.params6] at hA hval hsz
  obtain ⟨rfl, rfl⟩ := trodVars_none hV
  simp only [List.append_nil] at hW' hsz
  have hlt : ∀ x ∈ p, x.block < W.heap.size := fun x hx => by simpa using hW'.lt x hx
  obtain ⟨v0, vs0, d0, ds0, p0, q0, hargs, rfl, hp0, h0, r0⟩ := trodAll_cons hA
  obtain ⟨v1, vs1, d1, ds1, p1, q1, rfl, rfl, hp1, h1, r1⟩ := trodAll_cons r0
  obtain ⟨rfl, rfl, hpn⟩ := trodAll_nil r1
  obtain rfl : args = #[v0, v1] := by cases args; simp_all
  have hlt0 : ∀ x ∈ p0, x.block < W.heap.size := fun x hx => hlt x (by rw [hp0]; exact List.mem_append_left _ hx)
  have hltq0 : ∀ x ∈ q0, x.block < W.heap.size := fun x hx => hlt x (by rw [hp0]; exact List.mem_append_right _ hx)
  have hlt1 : ∀ x ∈ p1, x.block < W.heap.size := fun x hx => hltq0 x (by rw [hp1]; exact List.mem_append_left _ hx)
  have hltq1 : ∀ x ∈ q1, x.block < W.heap.size := fun x hx => hltq0 x (by rw [hp1]; exact List.mem_append_right _ hx)
  obtain ⟨af, f, cf, xf, rfl, hfl, hfh, hfc, hfm, hfr⟩ := Lw.open_fs (hval 0 26 v0 rfl rfl) h0 hlt0
  obtain ⟨k, rfl, rfl, rfl, ws1⟩ := open_int Tryz.underlying3 (hval 1 3 v1 rfl rfl) h1
  obtain ⟨hk0, hk1⟩ := bounds_i64 ws1
  refine (back_env af f cf xf k W hL hfr hfc hfm).mono fun e W' ⟨he, hb⟩ => ?_
  subst he
  exact ⟨_, rfl, _, _, _, [], p, [], hW', trodAll_mk1 (shut_bool Tryz.underlying4 _), below_trodAll laidOut hb _ _ _ _ (by kernel_rfl) hAk hlt, rfl, hb.frame _, fun h => by cases h⟩

theorem lowerBack_reads (os : Os) {H : Type} (enc : TypeId × Value → H) : ∃ places, DataW.whole enc Tryz.prog ((laidWorld os).forCall (fun _ _ => 0) ⟨#[], #[.agg #[.slice none 0 0, .int .i64 0], .int .i64 0], []⟩).memory Tryz.f6.params.toList Rows.lowerBackSpec.vars false (#[Value.agg #[.slice none 0 0, .int .i64 0], Value.int .i64 0] : Array Value).toList 8 = some ([.agg [.nil, .lit (.int .i64 0)], .lit (.int .i64 0)], [], places) :=
  ⟨[], by kernel_rfl⟩

set_option maxRecDepth 100000 in
theorem lowerBack_lifted (os : Os) (started : os.Started) (H : Type) (enc : TypeId × Value → H) (F : Stop.Interp) :
    ReturnsInHanded {} Tryz.checked os 6 .any ((OpenSpec.ofChange Rows.lowerBackSpec).preRow enc Tryz.prog Tryz.f6 Rows.lowerBackRow.domain false Rows.lowerBackRow.laid) (((OpenSpec.ofChange Rows.lowerBackSpec).at F).post enc Tryz.prog Tryz.f6 false true false false) := by
  obtain ⟨places, hx⟩ := lowerBack_reads os enc
  refine returnsInHanded_of_row (C := Tryz.checked) (s := OpenSpec.ofChange Rows.lowerBackSpec) own started (by kernel_rfl) Tryz.func6 ?_ ?_
  · refine ⟨laidWorld os, fun _ _ => 0, ⟨#[], #[.agg #[.slice none 0 0, .int .i64 0], .int .i64 0], []⟩, laidWorld_os os, laidWorld_shaped os _, rfl, (Input.okWide_of_okWideB (by kernel_rfl)).2, ?_, ?_⟩
    · exact OpenSpec.preRow_of_cond 8 hx (by kernel_rfl) (fun k hk => by cases hk) (by kernel_rfl) (laidWorld_met os _)
    · simp only [Assume.holds]
      exact ⟨by simp, by simp, fun _ => Modest.zero, by simp, by simp⟩
  intro W base args ds gs before hval hW _ _ hsz hL hsh _
  exact lowerBack_contract H enc W base args ds gs before hval hW hsz hL

theorem lowerBack_said : Rows.LowerBackSaid :=
  OpenClaim.holds_of_cond 6 Tryz.f6 rfl rfl rfl rfl rfl rfl rfl ⟨rfl, rfl, rfl, rfl, rfl⟩ rfl rfl rfl rfl rfl (by kernel_rfl) Tryz.func6 (by kernel_rfl)
    (of_decide_eq_true (by kernel_rfl)) (by unfold Func.isWrapper; first | (rw [if_pos (by decide +kernel)]; kernel_rfl) | (rw [if_neg (by decide +kernel)]; exact ⟨rfl, rfl⟩))
    (fun os started H enc _ F => by rw [OpenClaim.pre_eq_preRow]; exact lowerBack_lifted os started H enc F)
end Sh
theorem lowerBack_plain (f : FuncId) (fn : Func) (hf : Tryz.pinned.checked.prog.funcNamed Rows.lowerBackRow.func = some f) (hfn : Tryz.pinned.checked.prog.funcs[f]? = some fn) :
    true = Tryz.pinned.checked.prog.looks [] ∧ ∀ (j : Nat) t, fn.params[j]? = some t → Tryz.pinned.checked.prog.wantsStandIn t = false := by
  obtain rfl : f = 6 := Option.some.inj ((show Tryz.prog.funcNamed Rows.lowerBackRow.func = some 6 by kernel_rfl).symm.trans hf) |>.symm
  obtain rfl : fn = Tryz.f6 := (Option.some.inj (Tryz.func6.symm.trans hfn)).symm
  refine ⟨by kernel_rfl, fun j t ht => ?_⟩
  rw [Tryz.params6] at ht
  have hm : t ∈ [26, 3] := by simpa using Array.mem_of_getElem? ht
  have hall : ([26, 3].all fun u => !Tryz.prog.wantsStandIn u) = true := by kernel_rfl
  exact (show Tryz.prog.wantsStandIn t = false by simpa using List.all_eq_true.1 hall t hm)
/-- THE STATEMENT. -/
theorem lowerBack_card : Rows.LowerBackCardSaid :=
  Claim7.holds_tied_plain_at .later [] _ _ _ _ Sh.lowerBack_said (fun _ h => by cases h) (by kernel_rfl) (fun _ h => by cases h) lowerBack_row_tie rfl ⟨rfl, rfl⟩ (by kernel_rfl) rfl lowerBack_plain (by kernel_rfl)
end Go.Proofs.YtojhlhpbhoeplaaGreatDoor
