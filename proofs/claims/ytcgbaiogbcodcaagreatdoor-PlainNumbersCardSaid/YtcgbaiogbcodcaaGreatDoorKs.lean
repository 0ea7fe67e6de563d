/-
  Slices of texts, as Ka and Kc have it of bytes. Conditions: each law's own.
-/
import Derived.Test.YtcgbaiogbcodcaaGreatDoorKc
namespace Go.Proofs.YtcgbaiogbcodcaaGreatDoor.Sh
open Go.ChangeShapes Go.WideShapes Go.ChangeAt Go.RowKit Go.Lib Go.ChangeMaps

def sts (l : List ByteArray) : List Value := l.map fun c => Value.string c
/-- the cells at an address read as bytes -/
def Srw (w : World) (ao : Option Addr) (l : List ByteArray) : Prop :=
  l ≠ [] → ∃ b o, ao = some ⟨b, o, none⟩ ∧ b < w.heap.size ∧ ∀ j (h : j < l.length), w.cell? ⟨b, o + j, none⟩ = some (.string l[j])
theorem Srw.below {w w' : World} {ao : Option Addr} {l : List ByteArray} (h : Srw w ao l) (hb : Below w.heap.size w w') : Srw w' ao l := fun hne => by
  obtain ⟨b, o, h1, h2, h3⟩ := h hne
  exact ⟨b, o, h1, Nat.lt_of_lt_of_le h2 hb.size, fun j hj => (hb.cell (p := ⟨b, o + j, none⟩) h2).trans (h3 j hj)⟩
theorem Srw.take {w : World} {ao : Option Addr} {l : List ByteArray} (h : Srw w ao l) (n : Nat) : Srw w ao (l.take n) := fun hne => by
  obtain ⟨b, o, h1, h2, h3⟩ := h (fun h0 => hne (by rw [h0]; simp))
  refine ⟨b, o, h1, h2, fun j hj => ?_⟩
  rw [List.length_take] at hj
  rw [h3 j (by omega), List.getElem_take]
theorem Srw.drew {w : World} {ao : Option Addr} {l : List ByteArray} (h : Srw w ao l) : Srw w.drew ao l := h
theorem srw_nil (w : World) (ao : Option Addr) : Srw w ao [] := fun h => absurd rfl h
theorem ss_len (l : List ByteArray) : (sts l).length = l.length := by simp [sts]
theorem ss_app (l m : List ByteArray) : sts (l ++ m) = sts l ++ sts m := by simp [sts]
theorem ss_one (l : List ByteArray) : ∀ u ∈ sts l, u.oneCell' = true := by
  intro u hu
  simp only [sts, List.mem_map] at hu
  obtain ⟨c, _, rfl⟩ := hu
  rfl
theorem ss_get (l : List ByteArray) (j : Nat) (h : j < l.length) : (sts l)[j]? = some (.string l[j]) := by simp [sts, h]
theorem ss_inj {l m : List ByteArray} (h : sts l = sts m) : l = m := by
  apply List.ext_getElem?
  intro j
  have hj := congrArg (fun x => x[j]?) h
  simp only [sts, List.getElem?_map] at hj
  cases h1 : l[j]? with
  | none =>
    cases h2 : m[j]? with
    | none => rfl
    | some y => rw [h1, h2] at hj; cases hj
  | some x =>
    cases h2 : m[j]? with
    | none => rw [h1, h2] at hj; cases hj
    | some y =>
      rw [h1, h2] at hj
      simp only [Option.map_some, Option.some.injEq, Value.string.injEq] at hj
      rw [hj]

section
variable {P : Program} {t e : TypeId}

/-- a row of the call's own, read -/
theorem own_srw {w : World} {base : Nat} {v : Value} {l : List ByteArray} (h : w.ownsRow base e 1 v l.length (sts l)) :
    ∃ ao c, v = .slice ao l.length c ∧ l.length ≤ c ∧ c ≤ 9223372036854775807 ∧ Srw w ao l ∧ (ao = none → c = 0) := by
  have hh := h
  obtain ⟨_, ⟨rfl, hl⟩ | ⟨g, cap, cur, rfl, _, hg, h1, h2, _⟩⟩ := h
  · have : l = [] := List.eq_nil_of_length_eq_zero hl
    subst this
    exact ⟨none, 0, rfl, Nat.le_refl _, by omega, srw_nil _ _, fun _ => rfl⟩
  · refine ⟨_, cap, rfl, h1, by unfold maxLen at h2; omega, fun _ => ⟨g, 0, rfl, (Array.getElem?_eq_some_iff.1 hg).1, fun j hj => ?_⟩, fun h => by cases h⟩
    have hc := hh.cells (g := g) rfl j (.string l[j]) (ss_get l j hj)
    rw [WideShapes.add_plain] at hc
    exact hc

theorem wpl_apps {w : World} {ops : Array Oper} {rest : List Oper} {o : Oper} {a : Act} {Q : Exit → Act → World → Prop} (hgd : o.guard = none) (s x : Operand)
    (ho : o.op = .call { callee := .builtin .append, args := #[s, x], argTypes := #[t, t] })
    (ht : P.underlying t = some (.slice e)) (hinf : (P.info? e).map (fun i => (i.zero, i.size, i.bytes)) = some (some (.string ⟨#[]⟩), 1, 16))
    (base : Nat) (v : Value) (xs l : List ByteArray) (hs : a.eval s = v) (hown : w.ownsRow base e 1 v xs.length (sts xs))
    (ao : Option Addr) (c : Nat) (hx : a.eval x = .slice ao l.length c) (hr : Srw w ao l) (hn : ao = none → c = 0)
    (h47 : (xs.length + l.length) * 16 ≤ 140737488355328) (hbase : base ≤ w.heap.size)
    (h : ∀ v' w', w'.ownsRow base e 1 v' (xs ++ l).length (sts (xs ++ l)) → w.grownBy w' v.ownBlock → wpList P ops Q rest (a.put o.dst v') w') : wpList P ops Q (o :: rest) a w := by
  obtain ⟨i0, hi, hz0, hz1, hz2⟩ := info_parts hinf
  cases ao with
  | none =>
    obtain rfl : l = [] := by
      cases l with
      | nil => rfl
      | cons y r =>
        obtain ⟨b, o, h0, _⟩ := hr (by simp)
        cases h0
    have hc := hn rfl
    subst hc
    refine wpList_append_own_none hgd s x t ho base e i0 1 ht hi v xs.length (sts xs) hs hown hx ?_
    exact h v w (by simpa using hown) (World.grownBy.refl w _)
  | some ad =>
    refine wpList_append_own w hgd s x t ho base e i0 (.string ⟨#[]⟩) 1 16 ht hi hz0 hz1 hz2 rfl (by decide) v xs.length (sts xs) hs hown ad l.length c (sts l) hx (by simp [sts]) ?_ (ss_one l)
      (by unfold maxLen; omega) (by omega) hbase (fun v' w' h1 h2 _ => h v' w' (by rw [List.length_append, ss_app]; exact h1) h2)
    intro j u hj
    have hjl : j < l.length := by
      have := (List.getElem?_eq_some_iff.1 hj).1
      simpa [sts] using this
    obtain ⟨b, o', h0, _, hcell⟩ := hr (by intro h0; rw [h0] at hjl; simp at hjl)
    injection h0 with h0
    subst h0
    rw [WideShapes.add_plain, hcell j hjl]
    rw [ss_get l j hjl] at hj
    exact hj

/-- the same, the length told apart -/
theorem wpl_apps_len {w : World} {ops : Array Oper} {rest : List Oper} {o : Oper} {a : Act} {Q : Exit → Act → World → Prop} (hgd : o.guard = none) (s x : Operand)
    (ho : o.op = .call { callee := .builtin .append, args := #[s, x], argTypes := #[t, t] })
    (ht : P.underlying t = some (.slice e)) (hinf : (P.info? e).map (fun i => (i.zero, i.size, i.bytes)) = some (some (.string ⟨#[]⟩), 1, 16))
    (base : Nat) (v : Value) (xs l : List ByteArray) (hs : a.eval s = v) (hown : w.ownsRow base e 1 v xs.length (sts xs))
    (ao : Option Addr) (m c : Nat) (hx : a.eval x = .slice ao m c) (hr : Srw w ao l) (hn : ao = none → c = 0) (hm : Hid (l.length = m))
    (h47 : (xs.length + m) * 16 ≤ 140737488355328) (hbase : base ≤ w.heap.size)
    (h : ∀ v' w', w'.ownsRow base e 1 v' (xs ++ l).length (sts (xs ++ l)) → w.grownBy w' v.ownBlock → wpList P ops Q rest (a.put o.dst v') w') : wpList P ops Q (o :: rest) a w := by
  have hm' : l.length = m := hm
  subst hm'
  exact wpl_apps hgd s x ho ht hinf base v xs l hs hown ao c hx hr hn h47 hbase h

end
/-- a row of bytes of the call's own -/
def OwnS (w : World) (B : Nat) (v : Value) (l : List ByteArray) : Prop := w.ownsRow B 170 1 v l.length (sts l)
theorem owns_lit (w : World) (l : List ByteArray) (B : Nat) (hB : B ≤ w.heap.size) (hl : l.length ≤ 9223372036854775807) : OwnS (w.alloc (.cells (sts l).toArray 170)) B (.slice (some ⟨w.heap.size, 0, none⟩) l.length l.length) l := by
  have h := World.ownsRow_lit (e := 170) (size := 1) w (sts l).toArray l.length hB (by unfold maxLen; omega) (by simp [sts])
  simpa [OwnS] using h
theorem infoS : (Tryz.prog.info? 170).map (fun i => (i.zero, i.size, i.bytes)) = some (some (.string ⟨#[]⟩), 1, 16) := by kernel_rfl
theorem OwnS.low {w : World} {B B' : Nat} {v : Value} {l : List ByteArray} (h : OwnS w B v l) (hb : B' ≤ B) : OwnS w B' v l := by
  obtain ⟨h1, h2 | ⟨g, cap, cur, e1, e2, e3⟩⟩ := h
  · exact ⟨h1, Or.inl h2⟩
  · exact ⟨h1, Or.inr ⟨g, cap, cur, e1, Nat.le_trans hb e2, e3⟩⟩
theorem Srw.drop {w : World} {b o : Nat} {l : List ByteArray} (h : Srw w (some ⟨b, o, none⟩) l) (n : Nat) : Srw w (some ⟨b, o + n, none⟩) (l.drop n) := fun hne => by
  obtain ⟨b', o', h1, h2, h3⟩ := h (fun h0 => hne (by rw [h0]; simp))
  injection h1 with h1
  injection h1 with h1 h4
  subst h1
  subst h4
  refine ⟨b, o + n, rfl, h2, fun j hj => ?_⟩
  rw [List.length_drop] at hj
  rw [Nat.add_assoc, h3 (n + j) (by omega), List.getElem_drop]
section
variable {P : Program} {t e : TypeId}
/-- append to a row of the call's own, as one step of a region that draws -/
theorem step_apps {w : World} {ops : Array Oper} {o : Oper} {a : Act} {K : Act → World → Prop} {Q : Exit → Act → World → Prop} {E : Prop} (hgd : o.guard = none) (s x : Operand)
    (ho : o.op = .call { callee := .builtin .append, args := #[s, x], argTypes := #[t, t] })
    (ht : P.underlying t = some (.slice e)) (hinf : (P.info? e).map (fun i => (i.zero, i.size, i.bytes)) = some (some (.string ⟨#[]⟩), 1, 16))
    (base : Nat) (v : Value) (xs l : List ByteArray) (hs : a.eval s = v) (hown : w.ownsRow base e 1 v xs.length (sts xs))
    (ad : Addr) (c : Nat) (hx : a.eval x = .slice (some ad) l.length c) (hr : Srw w (some ad) l)
    (h47 : (xs.length + l.length) * 16 ≤ 140737488355328) (hbase : base ≤ w.heap.size)
    (h : ∀ v' w', w'.ownsRow base e 1 v' (xs ++ l).length (sts (xs ++ l)) → w.grownBy w' v.ownBlock → K (a.put o.dst v') w') :
    if Region.wanted o (yielded ops a.tmps) = true then Oper.wp P o a w K Q else E := by
  have hw : Region.wanted o (yielded ops a.tmps) = true := by simp [Region.wanted, hgd]
  rw [if_pos hw]
  obtain ⟨i0, hi, hz0, hz1, hz2⟩ := info_parts hinf
  refine wp_append_own w s x t ho base e i0 (.string ⟨#[]⟩) 1 16 ht hi hz0 hz1 hz2 rfl (by decide) v xs.length (sts xs) hs hown ad l.length c (sts l) hx (by simp [sts]) ?_ (ss_one l)
    (by unfold maxLen; omega) (by omega) hbase (fun v' w' h1 h2 _ => h v' w' (by rw [List.length_append, ss_app]; exact h1) h2)
  intro j u hj
  have hjl : j < l.length := by
    have := (List.getElem?_eq_some_iff.1 hj).1
    simpa [sts] using this
  obtain ⟨b, o', h0, _, hcell⟩ := hr (by intro h0; rw [h0] at hjl; simp at hjl)
  injection h0 with h0
  subst h0
  rw [WideShapes.add_plain, hcell j hjl]
  rw [ss_get l j hjl] at hj
  exact hj
end

end Go.Proofs.YtcgbaiogbcodcaaGreatDoor.Sh
