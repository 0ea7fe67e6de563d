/-
  The contracts of slices.Clone and slices.Index, slices.Contains at bools, of space's within, and of the document's own Same. Conditions: each law's own.
-/
import Derived.Test.YtojmohlefbkkdaaKc
import Derived.Lib.AppendZerosOnto
import Derived.Lib.SliceRun
import Derived.Lib.Walk
import Derived.WalkSpells
import Derived.WalkMore
namespace Go.Proofs.Ytojmohlefbkkdaa.Sp
open Go.RowKit Go.Lib Go.WideShapes Go.ChangeAt

theorem bol_cell {w : World} {ao : Option Addr} {l : List Bool} (h : Bol w ao l) (i : Nat) (hi : i < l.length) : ∃ b o, ao = some ⟨b, o, none⟩ ∧ b < w.heap.size ∧ ∀ j y, l[j]? = some y → w.cell? ⟨b, o + j, none⟩ = some (.bool y) := by
  obtain ⟨b, o, h1, h2, h3⟩ := h (by intro h0; rw [h0] at hi; simp at hi)
  refine ⟨b, o, h1, h2, fun j y hy => ?_⟩
  obtain ⟨hj, rfl⟩ := List.getElem?_eq_some_iff.1 hy
  exact h3 j hj
theorem zrw_cell {w : World} {ao : Option Addr} {l : List Int} (h : Zrw w ao l) (i : Nat) (hi : i < l.length) : ∃ b o, ao = some ⟨b, o, none⟩ ∧ b < w.heap.size ∧ ∀ j y, l[j]? = some y → w.cell? ⟨b, o + j, none⟩ = some (.int .i64 y) := by
  obtain ⟨b, o, h1, h2, h3⟩ := h (by intro h0; rw [h0] at hi; simp at hi)
  refine ⟨b, o, h1, h2, fun j y hy => ?_⟩
  obtain ⟨hj, rfl⟩ := List.getElem?_eq_some_iff.1 hy
  exact h3 j hj

set_option maxHeartbeats 1000000 in
set_option maxRecDepth 100000 in
theorem clone_any (ao : Option Addr) (l : List Bool) (n c : Nat) (w : World) (h : Bol w ao l) (hn : ao = none → c = 0) (hl : l.length = n) (hl2 : n ≤ 140737488355328) :
    Calls Try.prog 13 #[.slice ao n c] w fun e w' => Below w.heap.size w w' ∧ ∃ v, e = .returned v ∧ Own w' w.heap.size v l := by
  have H := Lib.hid h
  have k0 := fun (W : World) (a : Option Addr) (n c : Nat) => Lib.run_eql_slice_nil (P := Try.prog) W 22 4 a n c 0 0 Try.underlying22
  cases ao with
  | none =>
    have hl0 : l = [] := by
      cases l with
      | nil => rfl
      | cons x r =>
        obtain ⟨b, o, h0, _⟩ := h (by simp)
        cases h0
    subst hl0
    clear h
    go_enter Try.func13, Try.ntmps13
    go_wp2_with fail
    go_ret
    exact ⟨Below.refl _ _, _, rfl, World.ownsRow_nil _ _ _ _⟩
  | some ad =>
    have lit := own_lit w [] w.heap.size (Nat.le_refl _) (by simp)
    have ba := (Below.refl _ w).alloc (Nat.le_refl _) (.cells #[] 4)
    have h1 : Bol (w.alloc (.cells #[] 4)) (some ad) l := h.below ba
    have p1 : ([] : List Bool).length + n ≤ 140737488355328 := by simpa using hl2
    have p2 : w.heap.size ≤ (w.alloc (.cells #[] 4)).heap.size := by simp
    have LIT := Lib.hid lit
    have BA := Lib.hid ba
    have H1 := Lib.hid h1
    have HL : Hid (l.length = n) := hl
    clear h lit ba h1 hl
    go_enter Try.func13, Try.ntmps13
    go_wp2_with (at_builtin; refine wpl_app_len (t := 22) (e := 4) rfl (.tmp 5) (.tmp 6) rfl Try.underlying22 info4 w.heap.size (.slice (some ⟨w.heap.size, 0, none⟩) 0 0) [] l rfl LIT.out (some ad) n c rfl H1.out (fun h => by cases h) HL p1 p2 ?_; intro v' w' hown' hgrow)
    have hb' : Below w.heap.size w w' := BA.out.grown hgrow p2 (fun k hk => (LIT.out.lt k hk).1)
    go_wp2_with fail
    go_ret
    exact ⟨hb', _, rfl, hown'⟩

/-- whether n slots, one at least, stand in a row of m from at on -/
def Within (m : Nat) (at_ n : Int) : Prop := 1 ≤ n ∧ 0 ≤ at_ ∧ at_ ≤ (m : Int) - n
instance (m : Nat) (a n : Int) : Decidable (Within m a n) := inferInstanceAs (Decidable (_ ∧ _))
set_option maxRecDepth 100000 in
theorem within_any (ao : Option Addr) (m c : Nat) (at_ n : Int) (w : World) (hm : m ≤ 9223372036854775807) (h1 : n ≤ 9223372036854775807) :
    Calls Try.prog 16 #[.slice ao m c, .int .i64 at_, .int .i64 n] w fun e w' => e = .returned (.bool (decide (Within m at_ n))) ∧ w' = w := by
  by_cases t1 : 1 ≤ n
  · by_cases t2 : 0 ≤ at_
    · have E : Hid (decide (Within m at_ n) = decide (at_ ≤ (m : Int) - n)) := by show _ = _; simp [Within, t1, t2]
      have w1 : IntKind.i64.wrap ((m : Int) - n) = (m : Int) - n := IntWalk.i64_in _ (by omega)
      go_enter Try.func16, Try.ntmps16
      go_wp2_with fail
      go_ret
      exact ⟨ret_bool E.out.symm, rfl⟩
    · have E : Hid (decide (Within m at_ n) = false) := by show _ = _; simp [Within, t2]
      go_enter Try.func16, Try.ntmps16
      go_wp2_with fail
      go_ret
      exact ⟨ret_bool E.out.symm, rfl⟩
  · have E : Hid (decide (Within m at_ n) = false) := by show _ = _; simp [Within, t1]
    go_enter Try.func16, Try.ntmps16
    go_wp2_with fail
    go_ret
    exact ⟨ret_bool E.out.symm, rfl⟩
end Go.Proofs.Ytojmohlefbkkdaa.Sp
