/-
  From what the rows list of sha's two tables to what the contracts ask of memory; a state that meets it; a digest, and rows of bytes, opened as arguments. No other condition.
-/
import Derived.Test.YtjjcdlbmpopfcaaDoorTie
import Derived.Test.YtjjcdlbmpopfcaaDoorWh
import Derived.OpenShut
import Derived.LaidMore
import Derived.LaidHandle
import Derived.Lay
import Derived.Stop.Joined
import Derived.Stop.LaidErr
import Derived.Deep.DeepHandedRow
import Derived.Deep.Matrix
import Derived.Lib.LaidTab
import Derived.Lib.LaidU8
import Derived.Lib.SmallJoins
import Derived.MakeChecks
import Derived.SliceStrings
import Derived.Test.YtjjcdlbmpopfcaaDoorKs
namespace Go.Proofs.YtjjcdlbmpopfcaaDoor.Sh
open Go.ChangeShapes Go.WideShapes Go.ChangeAt Go.RowKit Go.Lib

theorem own : ownKnob Tryd.prog.godebug = none := by kernel_rfl
/-- what each row lists -/
def laidAll : List (String × DataW Unit) := Rows.keyKindsRow.laid
theorem cells75 : Tryd.prog.cellsOf 75 = 1 := by kernel_rfl
theorem cells22 : Tryd.prog.cellsOf 22 = 1 := by kernel_rfl
theorem cells54 : Tryd.prog.cellsOf 54 = 3 := by kernel_rfl
theorem bytes75 : Tryd.prog.bytesOf 75 = 4 := by kernel_rfl
theorem startIs : (Rows.laid_palimpsest_sha_start : DataW Unit) = tabData .u32 (startL.map fun x => (x.toNat : Int)) := by kernel_rfl
theorem stepsIs : (Rows.laid_palimpsest_sha_steps : DataW Unit) = tabData .u32 (stepsL.map fun x => (x.toNat : Int)) := by kernel_rfl
theorem laid_get (l : List UInt32) (j : Nat) (h : j < l.length) : (l.map fun x => (x.toNat : Int)).getD j 0 = ((l.getD j 0).toNat : Int) := by
  simp [List.getD, h]
theorem lay_of {W : World} (h0 : laidMetH Tryd.prog laidAll W) : Lay W := by
  rw [MakeChecks.laidMetH_plain _ _ _ (by kernel_rfl)] at h0
  have h1 := h0.tail
  have h2 := h1.tail
  have h0' : laidMet Tryd.prog (("palimpsest/sha.start", tabData .u32 (startL.map fun x => (x.toNat : Int))) :: [("palimpsest/sha.steps", Rows.laid_palimpsest_sha_steps), ("unicode/utf8.first", Rows.laid_unicode_utf8_first)]) W := by
    rw [← startIs]
    exact h1
  have h1' : laidMet Tryd.prog (("palimpsest/sha.steps", tabData .u32 (stepsL.map fun x => (x.toNat : Int))) :: [("unicode/utf8.first", Rows.laid_unicode_utf8_first)]) W := by
    rw [← stepsIs]
    exact h2
  have t0 := (tabIs_of_head (g := 0) (by kernel_rfl) (by kernel_rfl) Tryd.underlying80 Tryd.underlying75 cells75 (by kernel_rfl) h0').cell (g := 0) (by kernel_rfl)
  have t1 := (tabIs_of_head (g := 1) (by kernel_rfl) (by kernel_rfl) Tryd.underlying90 Tryd.underlying75 cells75 (by kernel_rfl) h1').cell (g := 1) (by kernel_rfl)
  refine ⟨fun j hj => ?_, fun j hj => ?_, ?_⟩
  · rw [t0 j (by rw [List.length_map, startL_len]; exact hj), laid_get _ _ (by rw [startL_len]; exact hj)]
  · rw [t1 j (by rw [List.length_map, stepsL_len]; exact hj), laid_get _ _ (by rw [stepsL_len]; exact hj)]
  · rcases Nat.lt_or_ge W.heap.size 2 with h | h
    · exfalso
      have t := t1 0 (by rw [List.length_map, stepsL_len]; decide)
      have hn : W.heap[1]? = none := Array.getElem?_eq_none (by omega)
      simp [World.cell?, hn] at t
    · exact h

/-- a state that meets it -/
noncomputable def laidWorld (os : Os) : World := World.laidAll Tryd.prog os laidAll
theorem laidWorld_os (os : Os) : (laidWorld os).os = os := World.laidAll_os _ _ _
theorem laidWorld_met (os : Os) (args : Array Value) : laidMetH Tryd.prog laidAll ((laidWorld os).forCall (fun _ _ => 0) ⟨#[], args, []⟩).memory := by
  rw [MakeChecks.laidMetH_plain _ _ _ (by kernel_rfl)]
  exact laidMet_laidAll _ (by kernel_rfl) (by kernel_rfl)
theorem laidWorld_shaped (os : Os) (args : Array Value) : ((laidWorld os).forCall (fun _ _ => 0) ⟨#[], args, []⟩).Shaped Tryd.prog :=
  World.shaped_of_ZipB (by kernel_rfl) (by kernel_rfl)
theorem laidOut : laidOutB Tryd.prog = true := by kernel_rfl
theorem cells5 : Tryd.prog.cellsOf 5 = 1 := by kernel_rfl
theorem bytes5 : Tryd.prog.bytesOf 5 = 1 := by kernel_rfl
/-- a row of bytes within the reach -/
theorem reach_byt {H : Type} {ts : List TypeId} {ds : List (DataW H)} (hsz : (DataW.weightsEach Tryd.prog ts ds).all (· ≤ reachBytes) = true) {j : Nat} {d : DataW H} {l : List UInt8} (ht : ts[j]? = some 22) (hd : ds[j]? = some d)
    (h : (d = .nil ∧ l = []) ∨ ∃ es sp, d = .slice es sp ∧ es.length = l.length) : l.length ≤ 140737488351232 := by
  rcases h with ⟨_, rfl⟩ | ⟨es, sp, rfl, hl⟩
  · simp
  · have := sized_slice hsz ht hd Tryd.underlying22
    rw [bytes5] at this
    simp only [reachBytes] at this
    omega
theorem reach_wrd {H : Type} {ts : List TypeId} {ds : List (DataW H)} (hsz : (DataW.weightsEach Tryd.prog ts ds).all (· ≤ reachBytes) = true) {j : Nat} {d : DataW H} {l : List UInt32} (ht : ts[j]? = some 51) (hd : ds[j]? = some d)
    (h : (d = .nil ∧ l = []) ∨ ∃ es sp, d = .slice es sp ∧ es.length = l.length) : l.length * 4 ≤ 140737488351232 := by
  rcases h with ⟨_, rfl⟩ | ⟨es, sp, rfl, hl⟩
  · simp
  · have := sized_slice hsz ht hd Tryd.underlying51
    rw [bytes75] at this
    simp only [reachBytes] at this
    omega
/-- what a struct's fields weigh is within the reach -/
theorem reach_fields {H : Type} {ts : List TypeId} {ds : List (DataW H)} (hsz : (DataW.weightsEach Tryd.prog ts ds).all (· ≤ reachBytes) = true) {j : Nat} {y0 y1 y2 : DataW H} (ht : ts[j]? = some 54) (hd : ds[j]? = some (.agg [y0, y1, y2])) :
    (DataW.weightsEach Tryd.prog [51, 22, 52] [y0, y1, y2]).all (· ≤ reachBytes) = true := by
  refine List.all_eq_true.2 fun n hn => List.all_eq_true.1 hsz n (DataW.weights_mem_each ht hd n ?_)
  unfold DataW.weights
  rw [Tryd.underlying54]
  exact hn
section
variable {H : Type} {enc : TypeId × Value → H} {P : Program}
theorem open_byt_f {t e : TypeId} {W : World} {v : Value} {y : DataW H × List MemPlace} {n : Nat} (ht : P.underlying t = some (.slice e)) (he : P.underlying e = some (.int .u8)) (hc : P.cellsOf e = 1)
    (hf : DataW.trod enc P W 0 (fun _ => true) true n t [v] = some y) (hlt : ∀ x ∈ y.2, x.block < W.heap.size) :
    ∃ ao l c, v = .slice ao l.length c ∧ l.length ≤ c ∧ c ≤ 9223372036854775807 ∧ Byt W ao l ∧ (ao = none → c = 0) ∧ ((y.1 = .nil ∧ l = []) ∨ ∃ es sp, y.1 = .slice es sp ∧ es.length = l.length) := by
  obtain ⟨d, p⟩ := y
  rcases open_ints ht he hc hf with ⟨hcs, hx⟩ | ⟨a, len', cap', zs, hcs, _, hl, hm, hz, hx, hcell, hws⟩
  · simp only [List.cons.injEq, and_true] at hcs
    subst hcs
    simp only [Prod.mk.injEq] at hx
    obtain ⟨rfl, rfl⟩ := hx
    exact ⟨none, [], 0, rfl, Nat.le_refl _, by omega, byt_nil _ _, fun _ => rfl, Or.inl ⟨rfl, rfl⟩⟩
  · simp only [List.cons.injEq, and_true] at hcs
    subst hcs
    simp only [Prod.mk.injEq] at hx
    obtain ⟨rfl, rfl⟩ := hx
    simp only [if_true] at hz
    have hll : ((zs.take len').map fun n => UInt8.ofNat n.toNat).length = len' := by rw [List.length_map, List.length_take]; omega
    refine ⟨some a, (zs.take len').map fun n => UInt8.ofNat n.toNat, cap', by rw [hll], by rw [hll]; exact hl, by unfold maxLen at hm; omega, fun hne => ?_, fun h => by (cases h), Or.inr ⟨_, _, rfl, ?_⟩⟩
    · have hl0 : len' ≠ 0 := by
        intro h0
        apply hne
        rw [h0]
        rfl
      obtain ⟨b, off, spot⟩ := a
      have hspot : spot = none := by simpa [Addr.add] using World.cell?_spot (hcell 0 (by omega))
      subst hspot
      refine ⟨b, off, rfl, hlt (.cell b off) (MemPlace.mem_row.2 ⟨0, by omega, by simp⟩), fun j hj => ?_⟩
      rw [hll] at hj
      have hcj := hcell j (by omega)
      rw [add_plain] at hcj
      have hjs : j < zs.length := by omega
      have hb := range_u8 hws j
      have e : zs.getD j 0 = zs[j] := by simp [List.getD, List.getElem?_eq_getElem hjs]
      rw [List.getD_eq_getElem?_getD] at e
      rw [e] at hb
      rw [hcj, List.getD_eq_getElem?_getD, e]
      simp only [List.getElem_map, List.getElem_take, UInt8.toNat_ofNat']
      congr 2
      omega
    · rw [hll]
      simp [lits]
      omega
theorem wf_u32 {zs : List Int} (h : ∀ n ∈ zs, (Lit.int .u32 n).wf = true) (j : Nat) (hj : j < zs.length) : 0 ≤ zs[j] ∧ zs[j] ≤ 4294967295 := bounds_u32 (h _ (List.getElem_mem hj))
theorem open_wrd_f {t e : TypeId} {W : World} {v : Value} {y : DataW H × List MemPlace} {n : Nat} (ht : P.underlying t = some (.slice e)) (he : P.underlying e = some (.int .u32)) (hc : P.cellsOf e = 1)
    (hf : DataW.trod enc P W 0 (fun _ => true) true n t [v] = some y) (hlt : ∀ x ∈ y.2, x.block < W.heap.size) :
    ∃ ao l c, v = .slice ao l.length c ∧ l.length ≤ c ∧ c ≤ 9223372036854775807 ∧ Wrd W ao l ∧ (ao = none → c = 0) ∧ ((y.1 = .nil ∧ l = []) ∨ ∃ es sp, y.1 = .slice es sp ∧ es.length = l.length) := by
  obtain ⟨d, p⟩ := y
  rcases open_ints ht he hc hf with ⟨hcs, hx⟩ | ⟨a, len', cap', zs, hcs, _, hl, hm, hz, hx, hcell, hws⟩
  · simp only [List.cons.injEq, and_true] at hcs
    subst hcs
    simp only [Prod.mk.injEq] at hx
    obtain ⟨rfl, rfl⟩ := hx
    exact ⟨none, [], 0, rfl, Nat.le_refl _, by omega, wrd_nil _ _, fun _ => rfl, Or.inl ⟨rfl, rfl⟩⟩
  · simp only [List.cons.injEq, and_true] at hcs
    subst hcs
    simp only [Prod.mk.injEq] at hx
    obtain ⟨rfl, rfl⟩ := hx
    simp only [if_true] at hz
    have hll : ((zs.take len').map fun n => UInt32.ofNat n.toNat).length = len' := by rw [List.length_map, List.length_take]; omega
    refine ⟨some a, (zs.take len').map fun n => UInt32.ofNat n.toNat, cap', by rw [hll], by rw [hll]; exact hl, by unfold maxLen at hm; omega, fun hne => ?_, fun h => by (cases h), Or.inr ⟨_, _, rfl, ?_⟩⟩
    · have hl0 : len' ≠ 0 := by
        intro h0
        apply hne
        rw [h0]
        rfl
      obtain ⟨b, off, spot⟩ := a
      have hspot : spot = none := by simpa [Addr.add] using World.cell?_spot (hcell 0 (by omega))
      subst hspot
      refine ⟨b, off, rfl, hlt (.cell b off) (MemPlace.mem_row.2 ⟨0, by omega, by simp⟩), fun j hj => ?_⟩
      rw [hll] at hj
      have hcj := hcell j (by omega)
      rw [add_plain] at hcj
      have hjs : j < zs.length := by omega
      have hb := wf_u32 hws j hjs
      have e : zs.getD j 0 = zs[j] := by simp [List.getD, List.getElem?_eq_getElem hjs]
      rw [List.getD_eq_getElem?_getD] at e
      rw [hcj, List.getD_eq_getElem?_getD, e]
      simp only [List.getElem_map, List.getElem_take, UInt32.toNat_ofNat']
      congr 2
      omega
    · rw [hll]
      simp [lits]
      omega
end

/-- a row of texts that came in -/
theorem open_srw {H : Type} {enc : TypeId × Value → H} {P : Program} {t e : TypeId} {W : World} {base : Nat} {v : Value} {d : DataW H} {p : List MemPlace} (ht : P.underlying t = some (.slice e)) (he : P.underlying e = some .string) (hc : P.cellsOf e = 1)
    (hval : Value.okWide P W .any base t v) (h : DataW.Trod enc P W 0 (fun _ => true) true t v d p) (hlt : ∀ x ∈ p, x.block < W.heap.size) :
    ∃ ao l c, v = .slice ao l.length c ∧ l.length ≤ c ∧ c ≤ 9223372036854775807 ∧ Srw W ao l ∧ (ao = none → c = 0) ∧ ∀ s ∈ l, s.size ≤ maxLen := by
  obtain ⟨a0, len, cap, rfl⟩ := okWide_slice ht hval
  obtain ⟨fuel, hf⟩ := h
  rcases open_strings ht he hc hf with ⟨hcs, hx⟩ | ⟨a, len', cap', zs, hcs, _, hl, hm, hz, hx, hcell, hws⟩
  · simp [Value.cells] at hcs
    obtain ⟨rfl, rfl, rfl⟩ := hcs
    exact ⟨none, [], 0, rfl, Nat.le_refl _, by omega, srw_nil _ _, fun _ => rfl, fun s hs => by cases hs⟩
  · simp [Value.cells] at hcs
    obtain ⟨rfl, rfl, rfl⟩ := hcs
    simp only [Prod.mk.injEq] at hx
    obtain ⟨rfl, rfl⟩ := hx
    simp only [if_true] at hz
    have hll : (zs.take len).length = len := by rw [List.length_take]; omega
    refine ⟨some a, zs.take len, cap, by rw [hll], by rw [hll]; exact hl, by unfold maxLen at hm; omega, fun hne => ?_, fun h => by (cases h), fun s hs => hws s (List.mem_of_mem_take hs)⟩
    have hl0 : len ≠ 0 := by
      intro h0
      apply hne
      rw [h0]
      rfl
    obtain ⟨b, off, spot⟩ := a
    have hspot : spot = none := by simpa [Addr.add] using World.cell?_spot (hcell 0 (by omega))
    subst hspot
    refine ⟨b, off, rfl, hlt (.cell b off) (MemPlace.mem_row.2 ⟨0, by omega, by simp⟩), fun j hj => ?_⟩
    rw [hll] at hj
    have hcj := hcell j (by omega)
    rw [add_plain] at hcj
    have hjs : j < zs.length := by omega
    rw [hcj, List.getElem_take, List.getD_eq_getElem?_getD, List.getElem?_eq_getElem hjs]
    rfl
theorem cells24 : Tryd.prog.cellsOf 24 = 1 := by kernel_rfl
end Go.Proofs.YtjjcdlbmpopfcaaDoor.Sh
