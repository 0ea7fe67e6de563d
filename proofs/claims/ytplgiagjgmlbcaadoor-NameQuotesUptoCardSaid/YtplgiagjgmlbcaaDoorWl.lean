/-
  From what the rows list of the library's tables and variables to what the contracts ask of memory; and a state that meets it. No other condition.
-/
import Derived.Test.YtplgiagjgmlbcaaDoorRows
import Derived.Test.YtplgiagjgmlbcaaDoorWk
import Derived.ProofKit
import Derived.OpenShut
import Derived.LaidMore
import Derived.Lay
import Derived.Stop.Joined
import Derived.Stop.LaidErr
import Derived.Deep.DeepHandedRow
import Derived.Lib.LaidTab
import Derived.Lib.LaidU8
import Derived.MakeChecks
namespace Go.Proofs.YtplgiagjgmlbcaaDoor.Nm
open Go.ChangeShapes Go.WideShapes Go.ChangeAt Go.RowKit Go.Lib

theorem own : ownKnob Tryd.prog.godebug = none := by kernel_rfl
/-- what each row lists -/
def laidAll : List (String × DataW Unit) := Rows.nameLongRow.laid
theorem cells112 : Tryd.prog.cellsOf 112 = 1 := by kernel_rfl
theorem cells9 : Tryd.prog.cellsOf 9 = 1 := by kernel_rfl
theorem firstIs : Rows.laid_unicode_utf8_first = firstData := by kernel_rfl
theorem acceptIs : (Rows.laid_unicode_utf8_acceptRanges : DataW Unit) = acceptData := by kernel_rfl
theorem u8x : U8Extra Tryd.prog Tryd.lays260_ren := {
  n3 := by kernel_rfl
  n4 := by kernel_rfl
  y3 := by kernel_rfl
  y4 := by kernel_rfl
  c5 := by kernel_rfl
  c119 := by kernel_rfl
  c138 := by kernel_rfl }
def tz64 : List Int := [0, 1, 56, 2, 57, 49, 28, 3, 61, 58, 42, 50, 38, 29, 17, 4, 62, 47, 59, 36, 45, 43, 51, 22, 53, 39, 33, 30, 24, 18, 12, 5, 63, 55, 48, 27, 60, 41, 37, 16, 46, 35, 44, 21, 52, 32, 23, 11, 54, 26, 40, 15, 34, 20, 31, 10, 25, 14, 19, 9, 13, 8, 7, 6]
theorem tz64Is : (Rows.laid_math_bits_deBruijn64tab : DataW Unit) = tabData .u8 tz64 := by kernel_rfl

theorem cell_of_var {W : World} {n : String} {g : Nat} {v : Value} (hg : Tryd.prog.globalNamed n = some g) (hv : W.var? Tryd.prog n = some #[v]) : W.cell? ⟨g, 0, none⟩ = some v := by
  rw [World.var?_cell hg hv 0]; rfl

theorem glob_of {W : World} (h0 : laidMetH Tryd.prog laidAll W) (hsh : W.ShapedOpen Tryd.prog) : Glob W := by
  rw [MakeChecks.laidMetH_plain _ _ _ (by kernel_rfl)] at h0
  have h1 := h0.tail
  have h2 := h1.tail
  have h3 := h2.tail
  have h4 := h3.tail
  have h5 := h4.tail
  have h6 := h5.tail
  obtain ⟨a5, s5, v5, _⟩ := laid_sentinel h4 (g := 5) (ti := 50) (by kernel_rfl) (by kernel_rfl) Tryd.underlying50 (fun u h => typeName_ptr_named (nm := "errors.errorString") (by kernel_rfl) (by kernel_rfl) (by decide) u h) Tryd.underlying110 Tryd.underlying112 rfl rfl Tryd.underlying9 cells112 cells9
  obtain ⟨a4, s4, v4, _⟩ := laid_sentinel h5 (g := 4) (ti := 50) (by kernel_rfl) (by kernel_rfl) Tryd.underlying50 (fun u h => typeName_ptr_named (nm := "errors.errorString") (by kernel_rfl) (by kernel_rfl) (by decide) u h) Tryd.underlying110 Tryd.underlying112 rfl rfl Tryd.underlying9 cells112 cells9
  have r3 := Lib.laidMet.reads h6 (List.mem_cons_self ..)
  rw [firstIs] at r3
  have r4 := Lib.laidMet.reads h3 (List.mem_cons_self ..)
  rw [acceptIs] at r4
  rw [tz64Is] at h1
  have t7 := (tabIs_of_head (g := 7) (by kernel_rfl) (by kernel_rfl) Tryd.underlying114 Tryd.underlying5 (by kernel_rfl) (by kernel_rfl) h1).cell (g := 7) (by kernel_rfl) 15 (by decide)
  exact {
    size := by
      rcases Nat.lt_or_ge W.heap.size 8 with h | h
      · exfalso
        have hn : W.heap[7]? = none := Array.getElem?_eq_none (by omega)
        simp [World.cell?, hn] at t7
      · exact h
    tabs := utf8Tabs_of_reads Tryd.lays260 u8x r3 r4
    mlen := Tryd.laysM145.s1_3 W hsh
    syn := ⟨_, cell_of_var (by kernel_rfl) v4, Or.inr ⟨_, _, rfl⟩⟩
    rng := ⟨_, cell_of_var (by kernel_rfl) v5, Or.inr ⟨_, _, rfl⟩⟩
    tz := t7 }

/-- What a row asks behind a call whose arguments lead to no memory, where old memory stands. -/
theorem post_plain {H : Type} {enc : TypeId × Value → H} {P : Program} {f : Func} {s : ChangeSpec} {W W' : World} {args : Array Value} {v : Value} {ds gs : List (DataW H)}
    (hW : DataW.Whole enc P f.params.toList s.vars false W args.toList ds gs []) (hb : Below W.heap.size W W')
    (hres : ∀ (b : Nat) (sp : Nat → Bool) (hd : Bool), DataW.TrodAll enc P W' b sp hd f.resultTypes.toList (v.resultList f.resultTypes.size) (s.fn H (ds ++ gs)).results [])
    (hargs : ∀ sp : Nat → Bool, DataW.TrodAll enc P W' 0 sp true f.params.toList args.toList (s.fn H (ds ++ gs)).args [])
    (hvars : ∀ sp : Nat → Bool, DataW.TrodVars enc P W' sp s.vars (s.fn H (ds ++ gs)).vars []) :
    s.post enc P f false true false false W args v W' :=
  ⟨ds, gs, [], [], [], [], hW, hres _ _ _, hargs _, hvars _, hb.frame _, fun h => by cases h⟩
end Go.Proofs.YtplgiagjgmlbcaaDoor.Nm
