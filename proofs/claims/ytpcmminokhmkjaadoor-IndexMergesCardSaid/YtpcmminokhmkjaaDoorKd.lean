/-
  Slices of words of 32 bits, as Ka and Kc have it of bytes. Conditions: each law's own.
-/
import Derived.Test.YtpcmminokhmkjaaDoorKc
namespace Go.Proofs.YtpcmminokhmkjaaDoor.Sh
open Go.ChangeShapes Go.WideShapes Go.ChangeAt Go.RowKit Go.Lib Go.ChangeMaps
theorem below_chain {w W W' : World} (h : Below w.heap.size w W) (hb : Below W.heap.size W W') : Below w.heap.size w W' := h.trans (hb.mono h.size)

theorem u32_eq {a b : UInt32} (h : a.toNat = b.toNat) : a = b := UInt32.toNat_inj.1 h
def us (l : List UInt32) : List Value := l.map fun c => Value.int .u32 c.toNat
/-- the cells at an address read as bytes -/
def Wrd (w : World) (ao : Option Addr) (l : List UInt32) : Prop :=
  l ≠ [] → ∃ b o, ao = some ⟨b, o, none⟩ ∧ b < w.heap.size ∧ ∀ j (h : j < l.length), w.cell? ⟨b, o + j, none⟩ = some (.int .u32 (l[j]).toNat)
theorem Wrd.below {w w' : World} {ao : Option Addr} {l : List UInt32} (h : Wrd w ao l) (hb : Below w.heap.size w w') : Wrd w' ao l := fun hne => by
  obtain ⟨b, o, h1, h2, h3⟩ := h hne
  exact ⟨b, o, h1, Nat.lt_of_lt_of_le h2 hb.size, fun j hj => (hb.cell (p := ⟨b, o + j, none⟩) h2).trans (h3 j hj)⟩
theorem Wrd.take {w : World} {ao : Option Addr} {l : List UInt32} (h : Wrd w ao l) (n : Nat) : Wrd w ao (l.take n) := fun hne => by
  obtain ⟨b, o, h1, h2, h3⟩ := h (fun h0 => hne (by rw [h0]; simp))
  refine ⟨b, o, h1, h2, fun j hj => ?_⟩
  rw [List.length_take] at hj
  rw [h3 j (by omega), List.getElem_take]
theorem Wrd.drew {w : World} {ao : Option Addr} {l : List UInt32} (h : Wrd w ao l) : Wrd w.drew ao l := h
theorem wrd_nil (w : World) (ao : Option Addr) : Wrd w ao [] := fun h => absurd rfl h
theorem us_len (l : List UInt32) : (us l).length = l.length := by simp [us]
theorem us_app (l m : List UInt32) : us (l ++ m) = us l ++ us m := by simp [us]
theorem us_one (l : List UInt32) : ∀ u ∈ us l, u.oneCell' = true := by
  intro u hu
  simp only [us, List.mem_map] at hu
  obtain ⟨c, _, rfl⟩ := hu
  rfl
theorem us_get (l : List UInt32) (j : Nat) (h : j < l.length) : (us l)[j]? = some (.int .u32 (l[j]).toNat) := by simp [us, h]
theorem us_inj {l m : List UInt32} (h : us l = us m) : l = m := by
  apply List.ext_getElem?
  intro j
  have hj := congrArg (fun x => x[j]?) h
  simp only [us, List.getElem?_map] at hj
  cases h1 : l[j]? with
  | none =>
    cases h2 : m[j]? with
    | none => rfl
    | some y => rw [h1, h2] at hj; cases hj
  | some x =>
    cases h2 : m[j]? with
    | none => rw [h1, h2] at hj; cases hj
    | some y =>
      rw [h1, h2] at hj
      simp only [Option.map_some, Option.some.injEq, Value.int.injEq, true_and] at hj
      rw [show x = y from u32_eq (by omega)]

section
variable {P : Program} {t e : TypeId}

/-- a row of the call's own, read -/
theorem own_wrd {w : World} {base : Nat} {v : Value} {l : List UInt32} (h : w.ownsRow base e 1 v l.length (us l)) :
    ∃ ao c, v = .slice ao l.length c ∧ l.length ≤ c ∧ c ≤ 9223372036854775807 ∧ Wrd w ao l ∧ (ao = none → c = 0) := by
  have hh := h
  obtain ⟨_, ⟨rfl, hl⟩ | ⟨g, cap, cur, rfl, _, hg, h1, h2, _⟩⟩ := h
  · have : l = [] := List.eq_nil_of_length_eq_zero hl
    subst this
    exact ⟨none, 0, rfl, Nat.le_refl _, by omega, wrd_nil _ _, fun _ => rfl⟩
  · refine ⟨_, cap, rfl, h1, by unfold maxLen at h2; omega, fun _ => ⟨g, 0, rfl, (Array.getElem?_eq_some_iff.1 hg).1, fun j hj => ?_⟩, fun h => by cases h⟩
    have hc := hh.cells (g := g) rfl j (.int .u32 (l[j]).toNat) (us_get l j hj)
    rw [WideShapes.add_plain] at hc
    exact hc

theorem wpl_appw {w : World} {ops : Array Oper} {rest : List Oper} {o : Oper} {a : Act} {Q : Exit → Act → World → Prop} (hgd : o.guard = none) (s x : Operand)
    (ho : o.op = .call { callee := .builtin .append, args := #[s, x], argTypes := #[t, t] })
    (ht : P.underlying t = some (.slice e)) (hinf : (P.info? e).map (fun i => (i.zero, i.size, i.bytes)) = some (some (.int .u32 0), 1, 4))
    (base : Nat) (v : Value) (xs l : List UInt32) (hs : a.eval s = v) (hown : w.ownsRow base e 1 v xs.length (us xs))
    (ao : Option Addr) (c : Nat) (hx : a.eval x = .slice ao l.length c) (hr : Wrd w ao l) (hn : ao = none → c = 0)
    (h47 : (xs.length + l.length) * 4 ≤ 140737488355328) (hbase : base ≤ w.heap.size)
    (h : ∀ v' w', w'.ownsRow base e 1 v' (xs ++ l).length (us (xs ++ l)) → w.grownBy w' v.ownBlock → wpList P ops Q rest (a.put o.dst v') w') : wpList P ops Q (o :: rest) a w := by
  obtain ⟨i0, hi, hz0, hz1, hz2⟩ := info_parts hinf
  cases ao with
  | none =>
    obtain rfl : l = [] := by
      cases l with
      | nil => rfl
      | cons y r =>
        obtain ⟨b, o, h0, _⟩ := hr (by simp)
        cases h0
    have hc := hn rfl
    subst hc
    refine wpList_append_own_none hgd s x t ho base e i0 1 ht hi v xs.length (us xs) hs hown hx ?_
    exact h v w (by simpa using hown) (World.grownBy.refl w _)
  | some ad =>
    refine wpList_append_own w hgd s x t ho base e i0 (.int .u32 0) 1 4 ht hi hz0 hz1 hz2 rfl (by decide) v xs.length (us xs) hs hown ad l.length c (us l) hx (by simp [us]) ?_ (us_one l)
      (by unfold maxLen; omega) (by omega) hbase (fun v' w' h1 h2 _ => h v' w' (by rw [List.length_append, us_app]; exact h1) h2)
    intro j u hj
    have hjl : j < l.length := by
      have := (List.getElem?_eq_some_iff.1 hj).1
      simpa [us] using this
    obtain ⟨b, o', h0, _, hcell⟩ := hr (by intro h0; rw [h0] at hjl; simp at hjl)
    injection h0 with h0
    subst h0
    rw [WideShapes.add_plain, hcell j hjl]
    rw [us_get l j hjl] at hj
    exact hj

/-- the same, the length told apart -/
theorem wpl_appw_len {w : World} {ops : Array Oper} {rest : List Oper} {o : Oper} {a : Act} {Q : Exit → Act → World → Prop} (hgd : o.guard = none) (s x : Operand)
    (ho : o.op = .call { callee := .builtin .append, args := #[s, x], argTypes := #[t, t] })
    (ht : P.underlying t = some (.slice e)) (hinf : (P.info? e).map (fun i => (i.zero, i.size, i.bytes)) = some (some (.int .u32 0), 1, 4))
    (base : Nat) (v : Value) (xs l : List UInt32) (hs : a.eval s = v) (hown : w.ownsRow base e 1 v xs.length (us xs))
    (ao : Option Addr) (m c : Nat) (hx : a.eval x = .slice ao m c) (hr : Wrd w ao l) (hn : ao = none → c = 0) (hm : Hid (l.length = m))
    (h47 : (xs.length + m) * 4 ≤ 140737488355328) (hbase : base ≤ w.heap.size)
    (h : ∀ v' w', w'.ownsRow base e 1 v' (xs ++ l).length (us (xs ++ l)) → w.grownBy w' v.ownBlock → wpList P ops Q rest (a.put o.dst v') w') : wpList P ops Q (o :: rest) a w := by
  have hm' : l.length = m := hm
  subst hm'
  exact wpl_appw hgd s x ho ht hinf base v xs l hs hown ao c hx hr hn h47 hbase h

end
/-- a row of bytes of the call's own -/
def OwnW (w : World) (B : Nat) (v : Value) (l : List UInt32) : Prop := w.ownsRow B 91 1 v l.length (us l)
theorem ownw_lit (w : World) (l : List UInt32) (B : Nat) (hB : B ≤ w.heap.size) (hl : l.length ≤ 9223372036854775807) : OwnW (w.alloc (.cells (us l).toArray 91)) B (.slice (some ⟨w.heap.size, 0, none⟩) l.length l.length) l := by
  have h := World.ownsRow_lit (e := 91) (size := 1) w (us l).toArray l.length hB (by unfold maxLen; omega) (by simp [us])
  simpa [OwnW] using h
theorem info91 : (Tryd.prog.info? 91).map (fun i => (i.zero, i.size, i.bytes)) = some (some (.int .u32 0), 1, 4) := by kernel_rfl
theorem OwnW.low {w : World} {B B' : Nat} {v : Value} {l : List UInt32} (h : OwnW w B v l) (hb : B' ≤ B) : OwnW w B' v l := by
  obtain ⟨h1, h2 | ⟨g, cap, cur, e1, e2, e3⟩⟩ := h
  · exact ⟨h1, Or.inl h2⟩
  · exact ⟨h1, Or.inr ⟨g, cap, cur, e1, Nat.le_trans hb e2, e3⟩⟩
theorem Wrd.drop {w : World} {b o : Nat} {l : List UInt32} (h : Wrd w (some ⟨b, o, none⟩) l) (n : Nat) : Wrd w (some ⟨b, o + n, none⟩) (l.drop n) := fun hne => by
  obtain ⟨b', o', h1, h2, h3⟩ := h (fun h0 => hne (by rw [h0]; simp))
  injection h1 with h1
  injection h1 with h1 h4
  subst h1
  subst h4
  refine ⟨b, o + n, rfl, h2, fun j hj => ?_⟩
  rw [List.length_drop] at hj
  rw [Nat.add_assoc, h3 (n + j) (by omega), List.getElem_drop]
section
variable {P : Program} {t e : TypeId}
/-- append to a row of the call's own, as one step of a region that draws -/
theorem step_appw {w : World} {ops : Array Oper} {o : Oper} {a : Act} {K : Act → World → Prop} {Q : Exit → Act → World → Prop} {E : Prop} (hgd : o.guard = none) (s x : Operand)
    (ho : o.op = .call { callee := .builtin .append, args := #[s, x], argTypes := #[t, t] })
    (ht : P.underlying t = some (.slice e)) (hinf : (P.info? e).map (fun i => (i.zero, i.size, i.bytes)) = some (some (.int .u32 0), 1, 4))
    (base : Nat) (v : Value) (xs l : List UInt32) (hs : a.eval s = v) (hown : w.ownsRow base e 1 v xs.length (us xs))
    (ad : Addr) (c : Nat) (hx : a.eval x = .slice (some ad) l.length c) (hr : Wrd w (some ad) l)
    (h47 : (xs.length + l.length) * 4 ≤ 140737488355328) (hbase : base ≤ w.heap.size)
    (h : ∀ v' w', w'.ownsRow base e 1 v' (xs ++ l).length (us (xs ++ l)) → w.grownBy w' v.ownBlock → K (a.put o.dst v') w') :
    if Region.wanted o (yielded ops a.tmps) = true then Oper.wp P o a w K Q else E := by
  have hw : Region.wanted o (yielded ops a.tmps) = true := by simp [Region.wanted, hgd]
  rw [if_pos hw]
  obtain ⟨i0, hi, hz0, hz1, hz2⟩ := info_parts hinf
  refine wp_append_own w s x t ho base e i0 (.int .u32 0) 1 4 ht hi hz0 hz1 hz2 rfl (by decide) v xs.length (us xs) hs hown ad l.length c (us l) hx (by simp [us]) ?_ (us_one l)
    (by unfold maxLen; omega) (by omega) hbase (fun v' w' h1 h2 _ => h v' w' (by rw [List.length_append, us_app]; exact h1) h2)
  intro j u hj
  have hjl : j < l.length := by
    have := (List.getElem?_eq_some_iff.1 hj).1
    simpa [us] using this
  obtain ⟨b, o', h0, _, hcell⟩ := hr (by intro h0; rw [h0] at hjl; simp at hjl)
  injection h0 with h0
  subst h0
  rw [WideShapes.add_plain, hcell j hjl]
  rw [us_get l j hjl] at hj
  exact hj
end

end Go.Proofs.YtpcmminokhmkjaaDoor.Sh
