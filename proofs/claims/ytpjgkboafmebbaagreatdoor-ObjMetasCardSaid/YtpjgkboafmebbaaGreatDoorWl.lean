/-
  From what the rows list of the library's variables to what the contracts ask of memory (errors.errorType); and a state that meets the rows: the variable's cell, and two tables, one of them a pinned one. No other condition.
-/
import Derived.Test.YtpjgkboafmebbaaGreatDoorTie
import Derived.Test.YtpjgkboafmebbaaGreatDoorCards
import Derived.Test.YtpjgkboafmebbaaGreatDoorWe
import Derived.Test.YtpjgkboafmebbaaGreatDoorKa
import Derived.ProofKit
import Derived.OpenShut
import Derived.LaidMore
import Derived.LaidHandle
import Derived.Lay
import Derived.Stop.Joined
import Derived.Deep.DeepHandedRow
import Derived.MakeChecks
namespace Go.Proofs.YtpjgkboafmebbaaGreatDoor.Sh
open Go.ChangeShapes Go.WideShapes Go.ChangeAt Go.RowKit Go.Lib Lb

theorem own : ownKnob Tryz.prog.godebug = none := by kernel_rfl
/-- what each row lists -/
def laidAll : List (String × DataW Unit) := Rows.objAgainRow.laid
theorem kGlobal : Tryz.prog.globalNamed "errors.errorType" = some 1 := by kernel_rfl
theorem kRtype : (Tryz.prog.cutTypes.find? (·.1 == "internal/reflectlite.rtype")).map (·.2) = some 253 := by kernel_rfl
theorem kTypes : Tryz.prog.types.size = 294 := by kernel_rfl
theorem kOneRow : ((List.range 294).filter fun t => Tryz.prog.rowNamed t [101, 114, 114, 111, 114]) = [210] := by kernel_rfl
theorem filtOf : (laidAll.filter fun x => x.2.handleName?.isSome) = [("errors.errorType", Rows.laid_errors_errorType)] := by kernel_rfl
theorem errT_of {W : World} (h : laidMetH Tryz.prog laidAll W) : ErrT W := by
  have h' : laidMet Tryz.prog (laidAll.filter fun x => x.2.handleName?.isNone) W ∧ handlesMet Tryz.prog [("errors.errorType", Rows.laid_errors_errorType)] W := h
  obtain ⟨name, u, ty, e1, e2, e3, e4, e5⟩ := h'.2 _ (List.mem_singleton.2 rfl)
  have en : name = [101, 114, 114, 111, 114] := (Option.some.inj e1).symm
  subst en
  obtain rfl := Option.some.inj (kRtype.symm.trans e2)
  have hm : ty ∈ (List.range 294).filter fun t => Tryz.prog.rowNamed t [101, 114, 114, 111, 114] := List.mem_filter.2 ⟨List.mem_range.2 (by rw [← kTypes]; exact e3), e4⟩
  rw [kOneRow] at hm
  obtain rfl := List.mem_singleton.1 hm
  have hh : typeHandle Tryz.prog 210 = .pointer (some ⟨4, 210, none⟩) := by kernel_rfl
  rw [hh] at e5
  simpa [ErrT] using World.var?_cell kGlobal e5 0
/-- the two tables -/
def two : List (String × DataW Unit) := [("unicode/utf8.acceptRanges", Rows.laid_unicode_utf8_acceptRanges), ("unicode/utf8.first", Rows.laid_unicode_utf8_first)]
theorem twoIs : (laidAll.filter fun x => x.2.handleName?.isNone) = two := by kernel_rfl
/-- the settled state, with the variable's cell laid -/
noncomputable def baseWorld (os : Os) : World :=
  { World.holding Tryz.prog os ⟨#[], #[], []⟩ with heap := (World.holding Tryz.prog os ⟨#[], #[], []⟩).heap.modify 1 fun
      | .cells _ t frozen => .cells #[.iface 253 (.agg #[.pointer (some ⟨4, 210, none⟩)])] t frozen
      | o => o }
/-- a state that meets the rows -/
noncomputable def laidWorld (os : Os) : World := (baseWorld os).layVars Tryz.prog two
theorem laidWorld_os (os : Os) : (laidWorld os).os = os := World.layVars_os _ _ _
theorem two_met (os : Os) (args : Array Value) : laidMet Tryz.prog two ((laidWorld os).forCall (fun _ _ => 0) ⟨#[], args, []⟩).memory := by
  have e1 : (two.filter fun x => (two.map (·.1)).contains x.1) = two := List.filter_eq_self.2 fun x hx => List.contains_iff_mem.2 (List.mem_map.2 ⟨x, hx, rfl⟩)
  have e2 : (two.filter fun x => !(two.map (·.1)).contains x.1) = [] := List.filter_eq_nil_iff.2 fun x hx => by rw [List.contains_iff_mem.2 (List.mem_map.2 ⟨x, hx, rfl⟩)]; simp
  have h : laidMet Tryz.prog two (laidWorld os) := laidMet_layVars (w0 := baseWorld os) (two.map (·.1)) [] (by rw [e1]; rfl) (by rw [e1]; kernel_rfl) (by rw [e1]; kernel_rfl) (by rw [e2]; exact LaidIn.none)
  exact h.of_heap (by simp [World.memory, World.forCall, Input.heap])
theorem laidWorld_met (os : Os) (args : Array Value) : laidMetH Tryz.prog laidAll ((laidWorld os).forCall (fun _ _ => 0) ⟨#[], args, []⟩).memory :=
  laidMetH_of_parts (by rw [twoIs]; exact two_met os args) (by rw [filtOf]; kernel_rfl)
theorem laidWorld_shaped (os : Os) (args : Array Value) : ((laidWorld os).forCall (fun _ _ => 0) ⟨#[], args, []⟩).Shaped Tryz.prog :=
  World.shaped_of_ZipB (by kernel_rfl) (by kernel_rfl)
theorem laidOut : laidOutB Tryz.prog = true := by kernel_rfl
theorem cells5 : Tryz.prog.cellsOf 5 = 1 := by kernel_rfl
theorem bytes5 : Tryz.prog.bytesOf 5 = 1 := by kernel_rfl
/-- a row of bytes within the reach -/
theorem reach_byt {H : Type} {ts : List TypeId} {ds : List (DataW H)} (hsz : (DataW.weightsEach Tryz.prog ts ds).all (· ≤ reachBytes) = true) {j : Nat} {d : DataW H} {l : List UInt8} (ht : ts[j]? = some 36) (hd : ds[j]? = some d)
    (h : (d = .nil ∧ l = []) ∨ ∃ es sp, d = .slice es sp ∧ es.length = l.length) : l.length ≤ 140737488351232 := by
  rcases h with ⟨_, rfl⟩ | ⟨es, sp, rfl, hl⟩
  · simp
  · have := sized_slice hsz ht hd Tryz.underlying36
    rw [bytes5] at this
    simp only [reachBytes] at this
    omega
theorem byt_farOf {w : World} {ao : Option Addr} {l : List UInt8} (h : Byt w ao l) : l = [] ∨ ∀ a, ao = some a → a.block < w.heap.size := by
  rcases l with _ | ⟨x, r⟩
  · exact Or.inl rfl
  · refine Or.inr fun a ha => ?_
    obtain ⟨b, o, h1, h2, _⟩ := h (by simp)
    rw [h1] at ha
    injection ha with ha
    rw [← ha]
    exact h2
theorem okWide_far {P : Program} {w : World} {base : Nat} {t e : TypeId} {ao : Option Addr} {n c : Nat} (ht : P.underlying t = some (.slice e)) (h : Value.okWide P w .any base t (.slice ao n c)) : ∀ a, ao = some a → a.block < w.heap.size := by
  rintro a rfl
  simp only [Value.okWide, ht, Cell.okWide, Cell.ok] at h
  obtain ⟨_, _, _, _, row, cells, hs, _⟩ := h
  rcases Nat.lt_or_ge a.block w.heap.size with h1 | h0
  · exact h1
  · exfalso
    unfold World.shape? at hs
    rw [Array.getElem?_eq_none h0] at hs
    simp at hs
end Go.Proofs.YtpjgkboafmebbaaGreatDoor.Sh
