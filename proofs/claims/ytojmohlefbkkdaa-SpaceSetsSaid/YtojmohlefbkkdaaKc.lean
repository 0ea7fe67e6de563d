/-
  Small laws on rows of bools, over this seat's program: a row of the call's own, a slice cut short, append as a step of a region that draws its order. Conditions: each law's own.
-/
import Derived.Test.YtojmohlefbkkdaaKa
import Derived.Outline
import Derived.Laws.BitsAllLaws
import Derived.Deep.QuietTactic
import Derived.BigQuiet
import Derived.Deep.RegionWith
import Derived.Deep.RegionHeld3
import Derived.StillTailTactics
import Derived.WalkLawsBesides
import Derived.Laws.MakeOwn
namespace Go.Proofs.Ytojmohlefbkkdaa.Sp
open Go.RowKit Go.Lib Go.WideShapes Go.ChangeAt

theorem ret_i64 {a b : Int} (h : a = b) : Ending.returned (.int .i64 a) = .returned (.int .i64 b) := by rw [h]
theorem val_i64 {a b : Int} (h : a = b) : Value.int .i64 a = .int .i64 b := by rw [h]
/-- a row of bools of the call's own -/
def Own (w : World) (B : Nat) (v : Value) (l : List Bool) : Prop := w.ownsRow B 4 1 v l.length (bl l)
theorem own_lit (w : World) (l : List Bool) (B : Nat) (hB : B ≤ w.heap.size) (hl : l.length ≤ 9223372036854775807) : Own (w.alloc (.cells (bl l).toArray 4)) B (.slice (some ⟨w.heap.size, 0, none⟩) l.length l.length) l := by
  have h := World.ownsRow_lit (e := 4) (size := 1) w (bl l).toArray l.length hB (by unfold maxLen; omega) (by simp [bl])
  simpa [Own] using h
theorem info4 : (Try.prog.info? 4).map (fun i => (i.zero, i.size, i.bytes)) = some (some (.bool false), 1, 1) := by kernel_rfl
theorem ret_bool {a b : Bool} (h : a = b) : Ending.returned (.bool a) = .returned (.bool b) := by rw [h]
theorem below_drewN {B : Nat} {a w : World} (h : Below B a w) (n : Nat) : Below B a (w.drewN n) := by
  first | exact ⟨h.os, h.tape, h.output, h.size, h.block⟩ | (induction n with | zero => exact h | succ n ih => exact ih.drew)
theorem Own.low {w : World} {B B' : Nat} {v : Value} {l : List Bool} (h : Own w B v l) (hb : B' ≤ B) : Own w B' v l := by
  obtain ⟨h1, h2 | ⟨g, cap, cur, e1, e2, e3⟩⟩ := h
  · exact ⟨h1, Or.inl h2⟩
  · exact ⟨h1, Or.inr ⟨g, cap, cur, e1, Nat.le_trans hb e2, e3⟩⟩
theorem below_chain {w W W' : World} (h : Below w.heap.size w W) (hb : Below W.heap.size W W') : Below w.heap.size w W' := h.trans (hb.mono h.size)
/-- a row of the call's own that is not nil: its block -/
theorem Own.block {w : World} {B : Nat} {v : Value} {l : List Bool} (h : Own w B v l) (hl : l ≠ []) : ∃ g c, v = .slice (some ⟨g, 0, none⟩) l.length c ∧ B ≤ g ∧ g < w.heap.size ∧ l.length ≤ c ∧ c ≤ 9223372036854775807 := by
  obtain ⟨h1, ⟨_, h2⟩ | ⟨g, cap, cur, e1, e2, e3, e4, e5, e6⟩⟩ := h
  · exact absurd (List.eq_nil_of_length_eq_zero h2) hl
  · exact ⟨g, cap, e1, e2, (Array.getElem?_eq_some_iff.1 e3).1, e4, by unfold maxLen at e5; omega⟩
/-- a slot of a row of the call's own, written -/
theorem Own.set {w : World} {B g c n : Nat} {l : List Bool} (h : Own w B (.slice (some ⟨g, 0, none⟩) n c) l) (i : Nat) (x : Bool) : Own (w.setCell ⟨g, i, none⟩ (.bool x)) B (.slice (some ⟨g, 0, none⟩) n c) (l.set i x) := by
  unfold Own at h ⊢
  rw [List.length_set]
  obtain ⟨h1, ⟨h2, _⟩ | ⟨g', cap, cur, e1, e2, e3, e4, e5, e6, e7⟩⟩ := h
  · cases h2
  · simp only [Value.slice.injEq, Option.some.injEq, Addr.mk.injEq, and_true] at e1
    obtain ⟨rfl, rfl, rfl⟩ := e1
    refine ⟨by rw [bl_len, List.length_set]; omega, Or.inr ⟨g, c, cur.setIfInBounds i (.bool x), rfl, e2, heap_setCell_same w g i _ 4 _ e3, e4, e5, by simp [e6], ?_⟩⟩
    rw [Array.toList_setIfInBounds, List.take_set, e7]
    simp [bl, List.map_set]
theorem Own.get {w : World} {B g c n : Nat} {l : List Bool} (h : Own w B (.slice (some ⟨g, 0, none⟩) n c) l) (i : Nat) (hi : i < l.length) : w.cell? ⟨g, i, none⟩ = some (.bool l[i]) := by
  have hc := World.ownsRow.cells h (g := g) rfl i (.bool l[i]) (bl_get l i hi)
  rw [WideShapes.add_plain] at hc
  simpa using hc
theorem Own.frozen {w : World} {B g c n : Nat} {l : List Bool} (h : Own w B (.slice (some ⟨g, 0, none⟩) n c) l) (i : Nat) : w.frozen? ⟨g, i, none⟩ = false := by
  obtain ⟨h1, ⟨h2, _⟩ | ⟨g', cap, cur, e1, e2, e3, e4, e5, e6, e7⟩⟩ := h
  · cases h2
  · simp only [Value.slice.injEq, Option.some.injEq, Addr.mk.injEq, and_true] at e1
    obtain ⟨rfl, rfl, rfl⟩ := e1
    exact frozen_of_row w g i _ 4 e3
theorem cell_new (W : World) (cs : Array Value) (j k : Nat) {t : TypeId} {v : Value} (hk : k = W.heap.size) (h : cs[j]? = some v) : (W.alloc (.cells cs t)).cell? ⟨k, j, none⟩ = some v := by
  subst hk
  rw [World.cell?_alloc_new, h]
theorem Bol.drop {w : World} {b o : Nat} {l : List Bool} (h : Bol w (some ⟨b, o, none⟩) l) (n : Nat) : Bol w (some ⟨b, o + n, none⟩) (l.drop n) := fun hne => by
  obtain ⟨b', o', h1, h2, h3⟩ := h (fun h0 => hne (by rw [h0]; simp))
  injection h1 with h1
  injection h1 with h1 h4
  subst h1
  subst h4
  refine ⟨b, o + n, rfl, h2, fun j hj => ?_⟩
  rw [List.length_drop] at hj
  rw [Nat.add_assoc, h3 (n + j) (by omega), List.getElem_drop]
theorem cell_mark (W : World) (cs : Array Value) (t : TypeId) (f : Nat × Nat) (j : Nat) : (W.alloc (.cells cs t f)).cell? ⟨W.heap.size, j, none⟩ = cs[j]? := by
  show (match (W.heap.push _)[W.heap.size]? with | some (.cells cs ..) => _ | _ => _) = _
  simp
theorem add_zero (a : Addr) : a.add 0 = a := by
  obtain ⟨b, o, sp⟩ := a
  cases sp <;> simp [Addr.add]
theorem slice_to (ao : Option Addr) (len c n : Nat) (hn : n ≤ c) (W : World) :
    (Instr.slice 22 (.slice ao len c) none (some (.int .i64 (n : Int))) none).run Try.prog W = .ok (.slice ao n c) W := by
  have hs := run_slice_h (P := Try.prog) W 22 ao len c (by rw [Try.underlying22]; rfl) .i64 (n : Int) (by omega) (by omega)
  rw [hs]
  have e2 : ((n : Int)).toNat = n := by omega
  have e3 : Try.prog.elem 22 = 4 := by kernel_rfl
  rw [e2, e3]
  cases ao with
  | none => simp [Try.sizeOf4, sliced, Result.andThen]
  | some a => simp [Try.sizeOf4, sliced, Result.andThen, add_zero]
end Go.Proofs.Ytojmohlefbkkdaa.Sp
