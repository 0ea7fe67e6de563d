/-
  From what the rows list of the package's variables to what the contracts ask of memory; and a state that meets the rows. No other condition.
-/
import Derived.Test.YtekaboomhljdoaaGreatDoorTie
import Derived.Test.YtekaboomhljdoaaGreatDoorCards
import Derived.Test.YtekaboomhljdoaaGreatDoorFk
import Derived.ProofKit
import Derived.OpenShut
import Derived.LaidMore
import Derived.LaidHandle
import Derived.Lay
import Derived.Stop.Joined
import Derived.Stop.LaidErr
import Derived.Stop.LaidTwo
import Derived.Deep.DeepHandedRow
import Derived.Deep.Matrix
import Derived.Lib.LaidTab
import Derived.Lib.LaidU8
import Derived.MakeChecks
namespace Go.Proofs.YtekaboomhljdoaaGreatDoor.Sh
open Go.ChangeShapes Go.WideShapes Go.ChangeAt Go.RowKit Go.Lib Lb

theorem own : ownKnob Tryz.prog.godebug = none := by kernel_rfl
/-- what each row lists -/
def laidAll : List (String × DataW Unit) := Rows.packEndsRow.laid
theorem kGlobal : Tryz.prog.globalNamed "errors.errorType" = some 4 := by kernel_rfl
theorem kRtype : (Tryz.prog.cutTypes.find? (·.1 == "internal/reflectlite.rtype")).map (·.2) = some 141 := by kernel_rfl
theorem kTypes : Tryz.prog.types.size = 219 := by kernel_rfl
theorem kOneRow : ((List.range 219).filter fun t => Tryz.prog.rowNamed t [101, 114, 114, 111, 114]) = [99] := by kernel_rfl
theorem filtOf : (laidAll.filter fun x => x.2.handleName?.isSome) = [("errors.errorType", Rows.laid_errors_errorType)] := by kernel_rfl
theorem errT_of {W : World} (h : laidMetH Tryz.prog laidAll W) : ErrT W := by
  have h' : laidMet Tryz.prog (laidAll.filter fun x => x.2.handleName?.isNone) W ∧ handlesMet Tryz.prog [("errors.errorType", Rows.laid_errors_errorType)] W := h
  obtain ⟨name, u, ty, e1, e2, e3, e4, e5⟩ := h'.2 _ (List.mem_singleton.2 rfl)
  have en : name = [101, 114, 114, 111, 114] := (Option.some.inj e1).symm
  subst en
  obtain rfl := Option.some.inj (kRtype.symm.trans e2)
  have hm : ty ∈ (List.range 219).filter fun t => Tryz.prog.rowNamed t [101, 114, 114, 111, 114] := List.mem_filter.2 ⟨List.mem_range.2 (by rw [← kTypes]; exact e3), e4⟩
  rw [kOneRow] at hm
  obtain rfl := List.mem_singleton.1 hm
  have hh : typeHandle Tryz.prog 99 = .pointer (some ⟨5, 99, none⟩) := by kernel_rfl
  rw [hh] at e5
  simpa [ErrT] using World.var?_cell kGlobal e5 0
theorem cells118 : Tryz.prog.cellsOf 118 = 1 := by kernel_rfl
theorem startIs : (Rows.laid_palimpsest_sha_start : DataW Unit) = tabData .u32 (startL.map fun x => (x.toNat : Int)) := by kernel_rfl
theorem stepsIs : (Rows.laid_palimpsest_sha_steps : DataW Unit) = tabData .u32 (stepsL.map fun x => (x.toNat : Int)) := by kernel_rfl
/-- the tables and the sentinels -/
def four : List (String × DataW Unit) := [("palimpsest/sha.start", Rows.laid_palimpsest_sha_start), ("palimpsest/sha.steps", Rows.laid_palimpsest_sha_steps), ("palimpsest/frame.errShort", Rows.laid_palimpsest_frame_errShort), ("palimpsest/frame.errFrame", Rows.laid_palimpsest_frame_errFrame)]
theorem fourIs : (laidAll.filter fun x => x.2.handleName?.isNone) = four := by kernel_rfl
theorem laid_get (l : List UInt32) (j : Nat) (h : j < l.length) : (l.map fun x => (x.toNat : Int)).getD j 0 = ((l.getD j 0).toNat : Int) := by
  simp [List.getD, h]
theorem lay_of {W : World} (h0 : laidMet Tryz.prog four W) : Lay W := by
  have h1 : laidMet Tryz.prog (("palimpsest/sha.start", tabData .u32 (startL.map fun x => (x.toNat : Int))) :: four.tail) W := by
    rw [← startIs]
    exact h0
  have h2 : laidMet Tryz.prog (("palimpsest/sha.steps", tabData .u32 (stepsL.map fun x => (x.toNat : Int))) :: four.tail.tail) W := by
    rw [← stepsIs]
    exact h0.tail
  have t0 := (tabIs_of_head (g := 2) (by kernel_rfl) (by kernel_rfl) Tryz.underlying156 Tryz.underlying118 cells118 (by kernel_rfl) h1).cell (g := 2) (by kernel_rfl)
  have t1 := (tabIs_of_head (g := 3) (by kernel_rfl) (by kernel_rfl) Tryz.underlying167 Tryz.underlying118 cells118 (by kernel_rfl) h2).cell (g := 3) (by kernel_rfl)
  refine ⟨fun j hj => ?_, fun j hj => ?_, ?_⟩
  · rw [t0 j (by rw [List.length_map, startL_len]; exact hj), laid_get _ _ (by rw [startL_len]; exact hj)]
  · rw [t1 j (by rw [List.length_map, stepsL_len]; exact hj), laid_get _ _ (by rw [stepsL_len]; exact hj)]
  · rcases Nat.lt_or_ge W.heap.size 4 with h | h
    · exfalso
      have t := t1 0 (by rw [List.length_map, stepsL_len]; decide)
      have hn : W.heap[3]? = none := Array.getElem?_eq_none (by omega)
      simp [World.cell?, hn] at t
    · exact h
theorem gS : Tryz.prog.globalNamed "palimpsest/frame.errShort" = some 1 := by kernel_rfl
theorem gF : Tryz.prog.globalNamed "palimpsest/frame.errFrame" = some 0 := by kernel_rfl
theorem gST : (Tryz.prog.globals[1]?).map (·.type) = some 99 := by kernel_rfl
theorem gFT : (Tryz.prog.globals[0]?).map (·.type) = some 99 := by kernel_rfl
theorem cells207 : Tryz.prog.cellsOf 207 = 1 := by kernel_rfl
theorem cells9 : Tryz.prog.cellsOf 9 = 1 := by kernel_rfl
theorem star : "*" ++ "errors.errorString" = "*errors.errorString" := by decide
theorem row135 (u : TypeId) (h : Tryz.prog.typeName? 3 u = some "*errors.errorString") : u = 187 :=
  typeName_ptr_named (nm := "errors.errorString") (by rw [star]; kernel_rfl) (by kernel_rfl) (by decide) u (by rw [star]; exact h)
theorem sen_of {W : World} (h0 : laidMet Tryz.prog four W) : ∃ a0 a1, Sen W a0 a1 := by
  obtain ⟨a1, a0, s1, s0, c1, c0, t1, t0, hv1, hv0, _, _, _, _, _, _, hne, hb1, hb0⟩ := laid_sentinels2 h0.tail.tail gS gST gF gFT Tryz.underlying99 row135 Tryz.underlying187 Tryz.underlying207 rfl rfl Tryz.underlying9 cells207 cells9
  exact ⟨a0, a1, by simpa using World.var?_cell gF hv0 0, by simpa using World.var?_cell gS hv1 0, fun h => hne h.symm, ⟨c0, t0, hb0⟩, ⟨c1, t1, hb1⟩⟩
theorem env_of {W : World} (h : laidMetH Tryz.prog laidAll W) : ∃ a0 a1, Env W a0 a1 := by
  have h' : laidMet Tryz.prog (laidAll.filter fun x => x.2.handleName?.isNone) W := h.1
  rw [fourIs] at h'
  obtain ⟨a0, a1, hs⟩ := sen_of h'
  exact ⟨a0, a1, errT_of h, lay_of h', hs⟩
/-- the settled state, with the handle's cell laid -/
noncomputable def baseWorld (os : Os) : World :=
  { World.holding Tryz.prog os ⟨#[], #[], []⟩ with heap := (World.holding Tryz.prog os ⟨#[], #[], []⟩).heap.modify 4 fun
      | .cells _ t frozen => .cells #[.iface 141 (.agg #[.pointer (some ⟨5, 99, none⟩)])] t frozen
      | o => o }
/-- a state that meets the rows -/
noncomputable def laidWorld (os : Os) : World := (baseWorld os).layVars Tryz.prog four
theorem laidWorld_os (os : Os) : (laidWorld os).os = os := World.layVars_os _ _ _
theorem four_met (os : Os) (args : Array Value) : laidMet Tryz.prog four ((laidWorld os).forCall (fun _ _ => 0) ⟨#[], args, []⟩).memory := by
  have e1 : (four.filter fun x => (four.map (·.1)).contains x.1) = four := List.filter_eq_self.2 fun x hx => List.contains_iff_mem.2 (List.mem_map.2 ⟨x, hx, rfl⟩)
  have e2 : (four.filter fun x => !(four.map (·.1)).contains x.1) = [] := List.filter_eq_nil_iff.2 fun x hx => by rw [List.contains_iff_mem.2 (List.mem_map.2 ⟨x, hx, rfl⟩)]; simp
  have h : laidMet Tryz.prog four (laidWorld os) := laidMet_layVars (w0 := baseWorld os) (four.map (·.1)) [] (by rw [e1]; rfl) (by rw [e1]; kernel_rfl) (by rw [e1]; kernel_rfl) (by rw [e2]; exact LaidIn.none)
  exact h.of_heap (by simp [World.memory, World.forCall, Input.heap])
theorem laidWorld_met (os : Os) (args : Array Value) : laidMetH Tryz.prog laidAll ((laidWorld os).forCall (fun _ _ => 0) ⟨#[], args, []⟩).memory :=
  laidMetH_of_parts (by rw [fourIs]; exact four_met os args) (by rw [filtOf]; kernel_rfl)
theorem laidWorld_shaped (os : Os) (args : Array Value) : ((laidWorld os).forCall (fun _ _ => 0) ⟨#[], args, []⟩).Shaped Tryz.prog :=
  World.shaped_of_ZipB (by kernel_rfl) (by kernel_rfl)
theorem laidOut : laidOutB Tryz.prog = true := by kernel_rfl
theorem cells5 : Tryz.prog.cellsOf 5 = 1 := by kernel_rfl
theorem bytes5 : Tryz.prog.bytesOf 5 = 1 := by kernel_rfl
/-- a row of bytes within the reach -/
theorem reach_byt {H : Type} {ts : List TypeId} {ds : List (DataW H)} (hsz : (DataW.weightsEach Tryz.prog ts ds).all (· ≤ reachBytes) = true) {j : Nat} {d : DataW H} {l : List UInt8} (ht : ts[j]? = some 24) (hd : ds[j]? = some d)
    (h : (d = .nil ∧ l = []) ∨ ∃ es sp, d = .slice es sp ∧ es.length = l.length) : l.length ≤ 140737488351232 := by
  rcases h with ⟨_, rfl⟩ | ⟨es, sp, rfl, hl⟩
  · simp
  · have := sized_slice hsz ht hd Tryz.underlying24
    rw [bytes5] at this
    simp only [reachBytes] at this
    omega
end Go.Proofs.YtekaboomhljdoaaGreatDoor.Sh
