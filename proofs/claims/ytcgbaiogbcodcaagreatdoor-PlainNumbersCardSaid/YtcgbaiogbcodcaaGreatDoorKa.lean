/-
  Slices of bytes, over any program: what a row of the call's own reads as; append of bytes; a text out of bytes; an argument opened. Conditions: each law's own.
-/
import Derived.Test.YtcgbaiogbcodcaaGreatDoorProg
import Derived.ProofKit
import Derived.Carry
import Derived.SizedLaws
import Derived.WalkKit
import Derived.Below
import Derived.Lib.Hide
import Derived.OwnWalk
import Derived.Laws.AppendOwnNone
import Derived.Laws.IdiomStrings
import Derived.WideShapes
import Derived.ChangeSlices
import Derived.OpenShut
import Derived.Lib.BufferRead
namespace Go.Proofs.YtcgbaiogbcodcaaGreatDoor.Sh
open Go.ChangeShapes Go.WideShapes Go.ChangeAt Go.RowKit Go.Lib Go.ChangeMaps

theorem u8_eq {a b : UInt8} (h : a.toNat = b.toNat) : a = b := UInt8.toNat_inj.1 h
def bs (l : List UInt8) : List Value := l.map fun c => Value.int .u8 c.toNat
/-- the cells at an address read as bytes -/
def Byt (w : World) (ao : Option Addr) (l : List UInt8) : Prop :=
  l ≠ [] → ∃ b o, ao = some ⟨b, o, none⟩ ∧ b < w.heap.size ∧ ∀ j (h : j < l.length), w.cell? ⟨b, o + j, none⟩ = some (.int .u8 (l[j]).toNat)
theorem Byt.below {w w' : World} {ao : Option Addr} {l : List UInt8} (h : Byt w ao l) (hb : Below w.heap.size w w') : Byt w' ao l := fun hne => by
  obtain ⟨b, o, h1, h2, h3⟩ := h hne
  exact ⟨b, o, h1, Nat.lt_of_lt_of_le h2 hb.size, fun j hj => (hb.cell (p := ⟨b, o + j, none⟩) h2).trans (h3 j hj)⟩
theorem Byt.take {w : World} {ao : Option Addr} {l : List UInt8} (h : Byt w ao l) (n : Nat) : Byt w ao (l.take n) := fun hne => by
  obtain ⟨b, o, h1, h2, h3⟩ := h (fun h0 => hne (by rw [h0]; simp))
  refine ⟨b, o, h1, h2, fun j hj => ?_⟩
  rw [List.length_take] at hj
  rw [h3 j (by omega), List.getElem_take]
theorem Byt.drew {w : World} {ao : Option Addr} {l : List UInt8} (h : Byt w ao l) : Byt w.drew ao l := h
theorem u8_nat (n : Nat) (h : n < 256) : n.toUInt8.toNat = n := by simp; omega
theorem byt_nil (w : World) (ao : Option Addr) : Byt w ao [] := fun h => absurd rfl h
theorem bs_len (l : List UInt8) : (bs l).length = l.length := by simp [bs]
theorem bs_app (l m : List UInt8) : bs (l ++ m) = bs l ++ bs m := by simp [bs]
theorem bs_one (l : List UInt8) : ∀ u ∈ bs l, u.oneCell' = true := by
  intro u hu
  simp only [bs, List.mem_map] at hu
  obtain ⟨c, _, rfl⟩ := hu
  rfl
theorem bs_get (l : List UInt8) (j : Nat) (h : j < l.length) : (bs l)[j]? = some (.int .u8 (l[j]).toNat) := by simp [bs, h]
theorem bs_inj {l m : List UInt8} (h : bs l = bs m) : l = m := by
  apply List.ext_getElem?
  intro j
  have hj := congrArg (fun x => x[j]?) h
  simp only [bs, List.getElem?_map] at hj
  cases h1 : l[j]? with
  | none =>
    cases h2 : m[j]? with
    | none => rfl
    | some y => rw [h1, h2] at hj; cases hj
  | some x =>
    cases h2 : m[j]? with
    | none => rw [h1, h2] at hj; cases hj
    | some y =>
      rw [h1, h2] at hj
      simp only [Option.map_some, Option.some.injEq, Value.int.injEq, true_and] at hj
      rw [show x = y from u8_eq (by omega)]

section
variable {P : Program} {t e : TypeId}

/-- a row of the call's own, read -/
theorem own_byt {w : World} {base : Nat} {v : Value} {l : List UInt8} (h : w.ownsRow base e 1 v l.length (bs l)) :
    ∃ ao c, v = .slice ao l.length c ∧ l.length ≤ c ∧ c ≤ 9223372036854775807 ∧ Byt w ao l ∧ (ao = none → c = 0) := by
  have hh := h
  obtain ⟨_, ⟨rfl, hl⟩ | ⟨g, cap, cur, rfl, _, hg, h1, h2, _⟩⟩ := h
  · have : l = [] := List.eq_nil_of_length_eq_zero hl
    subst this
    exact ⟨none, 0, rfl, Nat.le_refl _, by omega, byt_nil _ _, fun _ => rfl⟩
  · refine ⟨_, cap, rfl, h1, by unfold maxLen at h2; omega, fun _ => ⟨g, 0, rfl, (Array.getElem?_eq_some_iff.1 hg).1, fun j hj => ?_⟩, fun h => by cases h⟩
    have hc := hh.cells (g := g) rfl j (.int .u8 (l[j]).toNat) (bs_get l j hj)
    rw [WideShapes.add_plain] at hc
    exact hc

theorem wpl_app {w : World} {ops : Array Oper} {rest : List Oper} {o : Oper} {a : Act} {Q : Exit → Act → World → Prop} (hgd : o.guard = none) (s x : Operand)
    (ho : o.op = .call { callee := .builtin .append, args := #[s, x], argTypes := #[t, t] })
    (ht : P.underlying t = some (.slice e)) (hinf : (P.info? e).map (fun i => (i.zero, i.size, i.bytes)) = some (some (.int .u8 0), 1, 1))
    (base : Nat) (v : Value) (xs l : List UInt8) (hs : a.eval s = v) (hown : w.ownsRow base e 1 v xs.length (bs xs))
    (ao : Option Addr) (c : Nat) (hx : a.eval x = .slice ao l.length c) (hr : Byt w ao l) (hn : ao = none → c = 0)
    (h47 : xs.length + l.length ≤ 140737488355328) (hbase : base ≤ w.heap.size)
    (h : ∀ v' w', w'.ownsRow base e 1 v' (xs ++ l).length (bs (xs ++ l)) → w.grownBy w' v.ownBlock → wpList P ops Q rest (a.put o.dst v') w') : wpList P ops Q (o :: rest) a w := by
  obtain ⟨i0, hi, hz0, hz1, hz2⟩ := info_parts hinf
  cases ao with
  | none =>
    obtain rfl : l = [] := by
      cases l with
      | nil => rfl
      | cons y r =>
        obtain ⟨b, o, h0, _⟩ := hr (by simp)
        cases h0
    have hc := hn rfl
    subst hc
    refine wpList_append_own_none hgd s x t ho base e i0 1 ht hi v xs.length (bs xs) hs hown hx ?_
    exact h v w (by simpa using hown) (World.grownBy.refl w _)
  | some ad =>
    refine wpList_append_own w hgd s x t ho base e i0 (.int .u8 0) 1 1 ht hi hz0 hz1 hz2 rfl (by decide) v xs.length (bs xs) hs hown ad l.length c (bs l) hx (by simp [bs]) ?_ (bs_one l)
      (by unfold maxLen; omega) (by omega) hbase (fun v' w' h1 h2 _ => h v' w' (by rw [List.length_append, bs_app]; exact h1) h2)
    intro j u hj
    have hjl : j < l.length := by
      have := (List.getElem?_eq_some_iff.1 hj).1
      simpa [bs] using this
    obtain ⟨b, o', h0, _, hcell⟩ := hr (by intro h0; rw [h0] at hjl; simp at hjl)
    injection h0 with h0
    subst h0
    rw [WideShapes.add_plain, hcell j hjl]
    rw [bs_get l j hjl] at hj
    exact hj

/-- the same, the length told apart -/
theorem wpl_app_len {w : World} {ops : Array Oper} {rest : List Oper} {o : Oper} {a : Act} {Q : Exit → Act → World → Prop} (hgd : o.guard = none) (s x : Operand)
    (ho : o.op = .call { callee := .builtin .append, args := #[s, x], argTypes := #[t, t] })
    (ht : P.underlying t = some (.slice e)) (hinf : (P.info? e).map (fun i => (i.zero, i.size, i.bytes)) = some (some (.int .u8 0), 1, 1))
    (base : Nat) (v : Value) (xs l : List UInt8) (hs : a.eval s = v) (hown : w.ownsRow base e 1 v xs.length (bs xs))
    (ao : Option Addr) (m c : Nat) (hx : a.eval x = .slice ao m c) (hr : Byt w ao l) (hn : ao = none → c = 0) (hm : Hid (l.length = m))
    (h47 : xs.length + m ≤ 140737488355328) (hbase : base ≤ w.heap.size)
    (h : ∀ v' w', w'.ownsRow base e 1 v' (xs ++ l).length (bs (xs ++ l)) → w.grownBy w' v.ownBlock → wpList P ops Q rest (a.put o.dst v') w') : wpList P ops Q (o :: rest) a w := by
  have hm' : l.length = m := hm
  subst hm'
  exact wpl_app hgd s x ho ht hinf base v xs l hs hown ao c hx hr hn h47 hbase h
/-- a text out of bytes -/
theorem conv_byt {w : World} {d : TypeId} (ht : P.underlying t = some (.slice e)) (he : P.underlying e = some (.int .u8)) (hd : P.underlying d = some .string) (ao : Option Addr) (l : List UInt8) (c : Nat) (hr : Byt w ao l) (hn : ao = none → c = 0) :
    (convert t d (.slice ao l.length c)).run P w = .ok (.string ⟨l.toArray⟩) w := by
  cases ao with
  | none =>
    obtain rfl : l = [] := by
      cases l with
      | nil => rfl
      | cons y r =>
        obtain ⟨b, o, h0, _⟩ := hr (by simp)
        cases h0
    have hc := hn rfl
    subst hc
    rw [run_convert_bytes_string w t d e none _ 0 ht he hd]
    rfl
  | some ad =>
    refine run_convert_bytes_back w t d e ad c l ht he hd (fun j hj => ?_)
    obtain ⟨b, o', h0, _, hcell⟩ := hr (by intro h0; rw [h0] at hj; simp at hj)
    injection h0 with h0
    subst h0
    rw [WideShapes.add_plain, hcell j hj]
end
section
variable {H : Type} {enc : TypeId × Value → H} {P : Program}

theorem below_trodAll (hl : laidOutB P = true) {W W' : World} (hb : Below W.heap.size W W') :
    ∀ (ts : List TypeId) (vs : List Value) (ds : List (DataW H)) (ps : List MemPlace), (ts.all fun t => P.readableRec t && decide (t < P.types.size)) = true →
      DataW.TrodAll enc P W 0 (fun _ => true) true ts vs ds ps → (∀ x ∈ ps, x.block < W.heap.size) → DataW.TrodAll enc P W' 0 (fun b => decide (b < W.heap.size)) true ts vs ds ps := by
  intro ts
  induction ts with
  | nil =>
    intro vs ds ps _ h _
    obtain ⟨rfl, rfl, rfl⟩ := trodAll_nil h
    exact trodAll_mk0
  | cons t ts ih =>
    intro vs ds ps ht h hlt
    obtain ⟨v, vs, d, ds, p, q, rfl, rfl, rfl, h1, h2⟩ := trodAll_cons h
    simp only [List.all_cons, Bool.and_eq_true, decide_eq_true_eq] at ht
    refine trodAll_cons_mk (Below.trod hl ht.1.1 ht.1.2 h1 hb (fun x hx => hlt x (List.mem_append_left _ hx))) (ih _ _ _ ?_ h2 (fun x hx => hlt x (List.mem_append_right _ hx)))
    simpa using ht.2

theorem open_byt {t e : TypeId} {W : World} {base : Nat} {v : Value} {d : DataW H} {p : List MemPlace} (ht : P.underlying t = some (.slice e)) (he : P.underlying e = some (.int .u8)) (hc : P.cellsOf e = 1)
    (hval : Value.okWide P W .any base t v) (h : DataW.Trod enc P W 0 (fun _ => true) true t v d p) (hlt : ∀ x ∈ p, x.block < W.heap.size) :
    ∃ ao l c, v = .slice ao l.length c ∧ l.length ≤ c ∧ c ≤ 9223372036854775807 ∧ Byt W ao l ∧ (ao = none → c = 0) ∧ ((d = .nil ∧ l = []) ∨ ∃ es sp, d = .slice es sp ∧ es.length = l.length) := by
  obtain ⟨a0, len, cap, rfl⟩ := okWide_slice ht hval
  obtain ⟨fuel, hf⟩ := h
  rcases open_ints ht he hc hf with ⟨hcs, hx⟩ | ⟨a, len', cap', zs, hcs, _, hl, hm, hz, hx, hcell, hws⟩
  · simp [Value.cells] at hcs
    obtain ⟨rfl, rfl, rfl⟩ := hcs
    simp only [Prod.mk.injEq] at hx
    obtain ⟨rfl, rfl⟩ := hx
    exact ⟨none, [], 0, rfl, Nat.le_refl _, by omega, byt_nil _ _, fun _ => rfl, Or.inl ⟨rfl, rfl⟩⟩
  · simp [Value.cells] at hcs
    obtain ⟨rfl, rfl, rfl⟩ := hcs
    simp only [Prod.mk.injEq] at hx
    obtain ⟨rfl, rfl⟩ := hx
    simp only [if_true] at hz
    have hll : ((zs.take len).map fun n => UInt8.ofNat n.toNat).length = len := by rw [List.length_map, List.length_take]; omega
    refine ⟨some a, (zs.take len).map fun n => UInt8.ofNat n.toNat, cap, by rw [hll], by rw [hll]; exact hl, by unfold maxLen at hm; omega, fun hne => ?_, fun h => by (cases h), Or.inr ⟨_, _, rfl, ?_⟩⟩
    · have hl0 : len ≠ 0 := by
        intro h0
        apply hne
        rw [h0]
        rfl
      obtain ⟨b, off, spot⟩ := a
      have hspot : spot = none := by simpa [Addr.add] using World.cell?_spot (hcell 0 (by omega))
      subst hspot
      refine ⟨b, off, rfl, hlt (.cell b off) (MemPlace.mem_row.2 ⟨0, by omega, by simp⟩), fun j hj => ?_⟩
      rw [hll] at hj
      have hcj := hcell j (by omega)
      rw [add_plain] at hcj
      have hjs : j < zs.length := by omega
      have hb := range_u8 hws j
      have e : zs.getD j 0 = zs[j] := by simp [List.getD, List.getElem?_eq_getElem hjs]
      rw [List.getD_eq_getElem?_getD] at e
      rw [e] at hb
      rw [hcj, List.getD_eq_getElem?_getD, e]
      simp only [List.getElem_map, List.getElem_take, UInt8.toNat_ofNat']
      congr 2
      omega
    · rw [hll]
      simp [lits]
      omega
end
end Go.Proofs.YtcgbaiogbcodcaaGreatDoor.Sh
