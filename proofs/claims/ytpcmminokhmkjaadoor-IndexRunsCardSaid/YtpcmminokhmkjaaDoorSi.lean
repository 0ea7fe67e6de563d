/-
  Rows of entries, wherever they lie; appending them; the contracts of slices' Grow of nil and Concat at entries. Conditions: each law's own.
-/
import Derived.Test.YtpcmminokhmkjaaDoorSh
import Derived.ProofKit
import Derived.SizedLaws
import Derived.WalkKit
import Derived.OwnWalk
import Derived.Laws.AppendOwnNone
import Derived.WideShapes
import Derived.Laws.MakeOwn
import Derived.Lib.AppendZerosOnto
import Derived.Lib.Walk
import Derived.WalkSpells
namespace Go.Proofs.YtpcmminokhmkjaaDoor.St
open Go.Shelf Go.RowKit Go.Lib Go.Sort
/-- the cells of entries, one behind the other -/
def cs (l : List Ent) : List Value := l.flatMap encE
theorem cs_len (l : List Ent) : (cs l).length = l.length * 5 := by
  induction l with
  | nil => rfl
  | cons x r ih => rw [show cs (x :: r) = encE x ++ cs r from rfl, List.length_append, ih, List.length_cons]; show 5 + _ = _; omega
theorem cs_app (a b : List Ent) : cs (a ++ b) = cs a ++ cs b := by simp [cs]
theorem cs_one (l : List Ent) : ∀ u ∈ cs l, u.oneCell' = true := by
  intro u hu
  obtain ⟨x, _, hx⟩ := List.mem_flatMap.1 hu
  simp only [encE, List.mem_cons, List.not_mem_nil, or_false] at hx
  rcases hx with rfl | rfl | rfl | rfl | rfl <;> rfl
theorem cs_drop (l : List Ent) (n : Nat) (h : n ≤ l.length) : (cs l).drop (n * 5) = cs (l.drop n) := by
  have e := cs_app (l.take n) (l.drop n)
  rw [List.take_append_drop] at e
  rw [e, List.drop_append_of_le_length (by rw [cs_len, List.length_take]; omega), List.drop_eq_nil_of_le (by rw [cs_len, List.length_take]; omega), List.nil_append]
theorem cs_take (l : List Ent) (n : Nat) (h : n ≤ l.length) : (cs l).take (n * 5) = cs (l.take n) := by
  have e := cs_app (l.take n) (l.drop n)
  rw [List.take_append_drop] at e
  rw [e, List.take_append_of_le_length (by rw [cs_len, List.length_take]; omega), List.take_of_length_le (by rw [cs_len, List.length_take]; omega)]
/-- where entries lie -/
def Erw (w : World) (ao : Option Addr) (l : List Ent) : Prop :=
  l ≠ [] → ∃ b o, ao = some ⟨b, o, none⟩ ∧ b < w.heap.size ∧ ∀ j u, (cs l)[j]? = some u → w.cell? ⟨b, o + j, none⟩ = some u
theorem erw_nil (w : World) (ao : Option Addr) : Erw w ao [] := fun h => absurd rfl h
theorem Erw.below {w w' : World} {ao : Option Addr} {l : List Ent} (h : Erw w ao l) (hb : Below w.heap.size w w') : Erw w' ao l := fun hne => by
  obtain ⟨b, o, h1, h2, h3⟩ := h hne
  exact ⟨b, o, h1, Nat.lt_of_lt_of_le h2 hb.size, fun j u hj => (hb.cell (p := ⟨b, o + j, none⟩) h2).trans (h3 j u hj)⟩
theorem Erw.take {w : World} {ao : Option Addr} {l : List Ent} (h : Erw w ao l) (n : Nat) (hn : n ≤ l.length) : Erw w ao (l.take n) := fun hne => by
  obtain ⟨b, o, h1, h2, h3⟩ := h (fun h0 => hne (by rw [h0]; simp))
  refine ⟨b, o, h1, h2, fun j u hj => h3 j u ?_⟩
  rw [← cs_take l n hn] at hj
  rw [List.getElem?_take] at hj
  split at hj
  · exact hj
  · cases hj
theorem Erw.drop {w : World} {b o : Nat} {l : List Ent} (h : Erw w (some ⟨b, o, none⟩) l) (n : Nat) (hn : n ≤ l.length) : Erw w (some ⟨b, o + n * 5, none⟩) (l.drop n) := fun hne => by
  obtain ⟨b', o', h1, h2, h3⟩ := h (fun h0 => hne (by rw [h0]; simp))
  injection h1 with h1
  injection h1 with e1 e2
  subst e1 e2
  refine ⟨b, _, rfl, h2, fun j u hj => ?_⟩
  rw [← cs_drop l n hn, List.getElem?_drop] at hj
  rw [Nat.add_assoc]
  exact h3 _ u hj
/-- a row of the call's own -/
def OwnE (w : World) (B : Nat) (v : Value) (l : List Ent) : Prop := w.ownsRow B 31 5 v l.length (cs l)
theorem OwnE.low {w : World} {B B' : Nat} {v : Value} {l : List Ent} (h : OwnE w B v l) (hb : B' ≤ B) : OwnE w B' v l := by
  obtain ⟨h1, h2 | ⟨g, cap, cur, e1, e2, e3⟩⟩ := h
  · exact ⟨h1, Or.inl h2⟩
  · exact ⟨h1, Or.inr ⟨g, cap, cur, e1, Nat.le_trans hb e2, e3⟩⟩
theorem info31 : (Tryd.prog.info? 31).map (fun i => (i.zero, i.size, i.bytes)) = some (some (.agg (encT z0).toArray), 5, 48) := by kernel_rfl
theorem own_erw {w : World} {B : Nat} {v : Value} {l : List Ent} (h : OwnE w B v l) :
    ∃ ao c, v = .slice ao l.length c ∧ l.length ≤ c ∧ c ≤ 9223372036854775807 ∧ Erw w ao l ∧ (ao = none → c = 0) := by
  have hh := h
  obtain ⟨_, ⟨rfl, hl⟩ | ⟨g, cap, cur, rfl, _, hg, h1, h2, _⟩⟩ := h
  · have : l = [] := List.eq_nil_of_length_eq_zero hl
    subst this
    exact ⟨none, 0, rfl, Nat.le_refl _, by omega, erw_nil _ _, fun _ => rfl⟩
  · refine ⟨_, cap, rfl, h1, by unfold maxLen at h2; omega, fun _ => ⟨g, 0, rfl, (Array.getElem?_eq_some_iff.1 hg).1, fun j u hj => ?_⟩, fun h => by cases h⟩
    have hc := hh.cells (g := g) rfl j u hj
    rw [WideShapes.add_plain] at hc
    exact hc
set_option maxRecDepth 100000 in
theorem wpl_appE {w : World} {ops : Array Oper} {rest : List Oper} {o : Oper} {a : Act} {Q : Exit → Act → World → Prop} (hgd : o.guard = none) (s x : Operand)
    (ho : o.op = .call { callee := .builtin .append, args := #[s, x], argTypes := #[22, 22] })
    (base : Nat) (v : Value) (xs l : List Ent) (hs : a.eval s = v) (hown : OwnE w base v xs)
    (ao : Option Addr) (m c : Nat) (hx : a.eval x = .slice ao m c) (hr : Erw w ao l) (hn : ao = none → c = 0) (hm : Hid (l.length = m))
    (h47 : xs.length + m ≤ 1099511627776) (hbase : base ≤ w.heap.size)
    (h : ∀ v' w', OwnE w' base v' (xs ++ l) → w.grownBy w' v.ownBlock → wpList Tryd.prog ops Q rest (a.put o.dst v') w') : wpList Tryd.prog ops Q (o :: rest) a w := by
  have hm' : l.length = m := hm
  subst hm'
  obtain ⟨i0, hi, hz0, hz1, hz2⟩ := info_parts info31
  cases ao with
  | none =>
    obtain rfl : l = [] := by
      cases l with
      | nil => rfl
      | cons y r =>
        obtain ⟨b, o, h0, _⟩ := hr (by simp)
        cases h0
    have hc := hn rfl
    subst hc
    refine wpList_append_own_none hgd s x 22 ho base 31 i0 5 Tryd.underlying22 hi v xs.length (cs xs) hs hown hx ?_
    exact h v w (by simpa using hown) (World.grownBy.refl w _)
  | some ad =>
    refine wpList_append_own w hgd s x 22 ho base 31 i0 (.agg (encT z0).toArray) 5 48 Tryd.underlying22 hi hz0 hz1 hz2 rfl (by decide) v xs.length (cs xs) hs hown ad l.length c (cs l) hx (cs_len l) ?_ (cs_one l)
      (by unfold maxLen; omega) (by omega) hbase (fun v' w' h1 h2 _ => h v' w' (by unfold OwnE; rw [List.length_append, cs_app]; exact h1) h2)
    intro j u hj
    have hjl : j < (cs l).length := (List.getElem?_eq_some_iff.1 hj).1
    obtain ⟨b, o', h0, _, hcell⟩ := hr (by intro h0; rw [h0] at hjl; simp [cs] at hjl)
    injection h0 with h0
    subst h0
    rw [WideShapes.add_plain]
    exact hcell j u hj
set_option maxHeartbeats 1000000 in
set_option maxRecDepth 100000 in
theorem grow_nil (n : Nat) (h1 : 1 ≤ n) (h2 : n ≤ 1099511627776) (w : World) :
    Calls Tryd.prog 34 #[.slice none 0 0, .int .i64 n] w fun e w' => Below w.heap.size w w' ∧ ∃ v, e = .returned v ∧ OwnE w' w.heap.size v [] := by
  obtain ⟨i0, hi, hz0, hz1, hz2⟩ := info_parts info31
  have hr : ∀ ty, (Builtin.append_ #[22, 3] ty #[.slice none 0 0, .int .i64 (n : Int)]).run Tryd.prog w = _ := fun ty =>
    Lib.run_append_grow_zeros w 22 3 ty 31 i0 (.agg (encT z0).toArray) .i64 .i64 Tryd.underlying22 Tryd.underlying3 hi hz0 none 0 0 [] (run_firstCells_none _ _ _ _ _) n (by omega) (by rw [hz1]; omega) (by omega) (by omega)
      (by rw [hz2]; omega) (by rw [hz2]; exact growslice_fits (by omega) (by omega))
  rw [Nat.zero_add] at hr
  have hge := grownCap_ge w n 0 31
  have hcm := grownCap_le_maxLen w n 0 31 (by unfold maxLen; omega)
  obtain ⟨G, hG⟩ : ∃ G, G = grownCap w n 0 31 := ⟨_, rfl⟩
  obtain ⟨O, hO⟩ : ∃ O, O = Obj.cells ((([] : List Value).toArray ++ Builtin.zeroCells (Value.agg (encT z0).toArray).cells n) ++ Builtin.zeroCells (Value.agg (encT z0).toArray).cells (G - n)) 31 := ⟨_, rfl⟩
  rw [← hG] at hr hge hcm
  rw [← hO] at hr
  have hown : Hid (OwnE (w.drew.alloc O) w.heap.size (.slice (some ⟨w.heap.size, 0, none⟩) 0 G) []) := by
    refine ⟨by simp [cs], Or.inr ⟨w.heap.size, G, _, rfl, Nat.le_refl _, by rw [hO]; exact heap_alloc_new w.drew _, Nat.zero_le _, hcm, ?_, by simp [cs]⟩⟩
    have hz1 : (Value.agg (encT z0).toArray).cells.size = 5 := rfl
    simp only [Array.size_append, List.size_toArray, size_zeroCells, hz1, List.length_nil]
    omega
  have hb : Hid (Below w.heap.size w (w.drew.alloc O)) := (Below.refl _ w).drew.alloc (Nat.le_refl _) _
  unfold maxLen at hcm
  clear hO hG
  go_enter Tryd.func34, Tryd.ntmps34
  go_wp2_with (at_builtin; refine Lib.wpList_append_run _ rfl _ _ _ _ rfl _ _ rfl rfl _ _ (hr _) ?_)
  all_goals (go_ret; exact ⟨hb.out, _, rfl, hown.out⟩)
set_option maxRecDepth 100000 in
theorem grow_none (w : World) :
    Calls Tryd.prog 34 #[.slice none 0 0, .int .i64 0] w fun e w' => w' = w ∧ e = .returned (.slice none 0 0) := by
  go_enter Tryd.func34, Tryd.ntmps34
  go_wp2
  go_ret
  exact ⟨rfl, rfl⟩
end Go.Proofs.YtpcmminokhmkjaaDoor.St
