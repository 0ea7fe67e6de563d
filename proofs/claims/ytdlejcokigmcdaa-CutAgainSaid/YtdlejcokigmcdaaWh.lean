/-
  Rows of rows of bytes: what a row of the call's own reads as; the contracts of cut's Split, of the document's own Split and Lists. Condition: a content of at most a million bytes.
-/
import Derived.Test.YtdlejcokigmcdaaWg
namespace Go.Proofs.Ytdlejcokigmcdaa.Rb
open Go.ChangeShapes Go.WideShapes Go.ChangeAt Go.RowKit Go.Lib Go.ChangeMaps

theorem info25 : (Try.prog.info? 25).map (fun i => (i.zero, i.size, i.bytes)) = some (some (.slice none 0 0), 1, 24) := by kernel_rfl
theorem own_below {w w' : World} {B : Nat} {v : Value} {l : List UInt8} (h : Own w B v l) (hb : Below w.heap.size w w') : Own w' B v l := by
  obtain ⟨h1, h2 | ⟨g, cap, cur, e, hB, hg, rest⟩⟩ := h
  · exact ⟨h1, Or.inl h2⟩
  · exact ⟨h1, Or.inr ⟨g, cap, cur, e, hB, (hb.block g (Array.getElem?_eq_some_iff.1 hg).1).trans hg, rest⟩⟩
/-- a row of rows of bytes of the call's own, each of them of its own -/
def OwnR (w : World) (B : Nat) (v : Value) (rows : List (List UInt8)) : Prop :=
  ∃ vals, w.ownsRow B 25 1 v rows.length vals ∧ ∀ j (h : j < rows.length), ∃ u, vals[j]? = some u ∧ Own w B u rows[j]
theorem ownr_nil (w : World) (B : Nat) : OwnR w B (.slice none 0 0) [] := ⟨[], World.ownsRow_nil _ _ _ _, fun _ h => absurd h (Nat.not_lt_zero _)⟩
theorem ownr_below {w w' : World} {B : Nat} {v : Value} {rows : List (List UInt8)} (h : OwnR w B v rows) (hb : Below w.heap.size w w') : OwnR w' B v rows := by
  obtain ⟨vals, ⟨h1, h2⟩, h3⟩ := h
  refine ⟨vals, ⟨h1, ?_⟩, fun j hj => ?_⟩
  · rcases h2 with h2 | ⟨g, cap, cur, e, hB, hg, rest⟩
    · exact Or.inl h2
    · exact Or.inr ⟨g, cap, cur, e, hB, (hb.block g (Array.getElem?_eq_some_iff.1 hg).1).trans hg, rest⟩
  · obtain ⟨u, hu, ho⟩ := h3 j hj
    exact ⟨u, hu, own_below ho hb⟩
theorem own_block {w : World} {B : Nat} {e : TypeId} {v : Value} {n : Nat} {xs : List Value} (h : w.ownsRow B e 1 v n xs) {g : Nat} (hg : v.ownBlock = some g) : ∃ cur, w.heap[g]? = some (.cells cur e (0, 0)) := by
  obtain ⟨_, ⟨rfl, _⟩ | ⟨g', cap, cur, rfl, _, hc, _⟩⟩ := h
  · cases hg
  · injection hg with hg
    subst hg
    exact ⟨cur, hc⟩
theorem own_apart {w : World} {B B' : Nat} {u v : Value} {l : List UInt8} {n : Nat} {xs : List Value} (h : Own w B u l) (h2 : w.ownsRow B' 25 1 v n xs) : u.ownBlock = none ∨ u.ownBlock ≠ v.ownBlock := by
  cases hu : u.ownBlock with
  | none => exact Or.inl rfl
  | some g =>
    refine Or.inr fun hv => ?_
    obtain ⟨c1, e1⟩ := own_block h hu
    obtain ⟨c2, e2⟩ := own_block h2 hv.symm
    rw [e1] at e2
    cases e2
theorem ownr_app {w w' : World} {B : Nat} {v v' u : Value} {rows : List (List UInt8)} {row : List UInt8} {vals : List Value} (ho : w.ownsRow B 25 1 v rows.length vals) (h3 : ∀ j (h : j < rows.length), ∃ u, vals[j]? = some u ∧ Own w B u rows[j])
    (hu : Own w B u row) (hown : w'.ownsRow B 25 1 v' (rows.length + 1) (vals ++ [u])) (hg : w.grownBy w' v.ownBlock) : OwnR w' B v' (rows ++ [row]) := by
  have hvl : vals.length = rows.length := by simpa using ho.1
  refine ⟨vals ++ [u], by simpa using hown, fun j hj => ?_⟩
  rw [List.length_append, List.length_singleton] at hj
  rcases Nat.lt_or_ge j rows.length with h | h
  · obtain ⟨x, hx, hox⟩ := h3 j h
    refine ⟨x, by rw [List.getElem?_append_left (by omega)]; exact hx, ?_⟩
    rw [List.getElem_append_left h]
    exact hox.kept hg (own_apart hox ho)
  · obtain rfl : j = rows.length := by omega
    refine ⟨u, by rw [← hvl]; simp, ?_⟩
    rw [List.getElem_append_right (Nat.le_refl _)]
    simp only [Nat.sub_self, List.getElem_singleton]
    exact hu.kept hg (own_apart hu ho)
/-- the cells at an address read as rows of bytes -/
def RwG (w : World) (ao : Option Addr) (rows : List (List UInt8)) : Prop := rows ≠ [] → ∃ b, ao = some ⟨b, 0, none⟩ ∧ b < w.heap.size ∧ Rws w b rows
theorem Rws.below {w w' : World} {k : Nat} {rows : List (List UInt8)} (h : Rws w k rows) (hk : k < w.heap.size) (hb : Below w.heap.size w w') : Rws w' k rows := fun j hj => by
  obtain ⟨ao, c, h1, h2, h3⟩ := h j hj
  exact ⟨ao, c, (hb.cell (p := ⟨k, j, none⟩) hk).trans h1, h2.below hb, h3⟩
theorem RwG.below {w w' : World} {ao : Option Addr} {rows : List (List UInt8)} (h : RwG w ao rows) (hb : Below w.heap.size w w') : RwG w' ao rows := fun hne => by
  obtain ⟨b, h1, h2, h3⟩ := h hne
  exact ⟨b, h1, Nat.lt_of_lt_of_le h2 hb.size, h3.below h2 hb⟩
theorem ownr_read {w : World} {B : Nat} {v : Value} {rows : List (List UInt8)} (h : OwnR w B v rows) : ∃ ao c, v = .slice ao rows.length c ∧ rows.length ≤ c ∧ c ≤ 9223372036854775807 ∧ RwG w ao rows := by
  obtain ⟨vals, ho, h3⟩ := h
  have hh := ho
  obtain ⟨hl, ⟨rfl, hl0⟩ | ⟨g, cap, cur, rfl, _, hg, h1, h2, _⟩⟩ := ho
  · have : rows = [] := List.eq_nil_of_length_eq_zero hl0
    subst this
    exact ⟨none, 0, rfl, Nat.le_refl _, by omega, fun h => absurd rfl h⟩
  · refine ⟨_, cap, rfl, h1, by unfold maxLen at h2; omega, fun _ => ⟨g, rfl, (Array.getElem?_eq_some_iff.1 hg).1, fun j hj => ?_⟩⟩
    obtain ⟨u, hu, hou⟩ := h3 j hj
    have hc := hh.cells (g := g) rfl j u hu
    rw [WideShapes.add_plain, Nat.zero_add] at hc
    obtain ⟨ao, c, rfl, _, _, hb, hn⟩ := own_byt hou
    exact ⟨ao, c, hc, hb, hn⟩
theorem own_one {w : World} {B : Nat} {u : Value} {l : List UInt8} (h : Own w B u l) : u.oneCell' = true := by
  obtain ⟨_, ⟨rfl, _⟩ | ⟨g, cap, cur, rfl, _⟩⟩ := h <;> rfl

section
variable {P : Program}
/-- append of one row of bytes to a row of rows -/
theorem wpl_appr {w : World} {ops : Array Oper} {rest : List Oper} {o : Oper} {a : Act} {Q : Exit → Act → World → Prop} (hgd : o.guard = none) (s x : Operand)
    (ho : o.op = .call { callee := .builtin .append, args := #[s, x], argTypes := #[30, 30] })
    (ht : P.underlying 30 = some (.slice 25)) (hinf : (P.info? 25).map (fun i => (i.zero, i.size, i.bytes)) = some (some (.slice none 0 0), 1, 24))
    (base : Nat) (v u : Value) (rows : List (List UInt8)) (row : List UInt8) (hs : a.eval s = v) (hown : OwnR w base v rows) (hu : Own w base u row)
    (g : Nat) (hx : a.eval x = .slice (some ⟨g, 0, none⟩) 1 1) (hg : w.cell? ⟨g, 0, none⟩ = some u)
    (h47 : (rows.length + 1) * 24 ≤ 140737488355328) (hbase : base ≤ w.heap.size)
    (h : ∀ v' w', OwnR w' base v' (rows ++ [row]) → w.grownBy w' v.ownBlock → wpList P ops Q rest (a.put o.dst v') w') : wpList P ops Q (o :: rest) a w := by
  obtain ⟨i0, hi, hz0, hz1, hz2⟩ := info_parts hinf
  obtain ⟨vals, hv, h3⟩ := hown
  refine wpList_append_own w hgd s x 30 ho base 25 i0 (.slice none 0 0) 1 24 ht hi hz0 hz1 hz2 rfl (by decide) v rows.length vals hs hv ⟨g, 0, none⟩ 1 1 [u] hx (by simp) ?_ ?_
    (by unfold maxLen; omega) (by omega) hbase (fun v' w' h1 h2 _ => h v' w' (ownr_app hv h3 hu h1 h2) h2)
  · intro j y hj
    cases j with
    | zero =>
      simp only [List.getElem?_cons_zero, Option.some.injEq] at hj
      subst hj
      rw [WideShapes.add_plain]
      exact hg
    | succ j => simp at hj
  · intro y hy
    simp only [List.mem_singleton] at hy
    subst hy
    exact own_one hu
end
theorem own_ne {w : World} {k : Nat} {v : Value} {l : List UInt8} (h : Own w (k + 1) v l) {b : Nat} (hb : b ≤ k) : some b ≠ v.ownBlock := fun h0 => by
  have := (World.ownsRow.lt h b h0.symm).1
  omega
theorem slice_three (b o T c p d q : Nat) (h : p + d = q) (hd : 0 < d) (hq : q ≤ T) (hT : T ≤ c) (W : World) :
    (Instr.slice 25 (.slice (some ⟨b, o, none⟩) T c) (some (.int .i64 (p : Int))) (some (.int .i64 (q : Int))) (some (.int .i64 (q : Int)))).run Try.prog W = .ok (.slice (some ⟨b, o + p, none⟩) d d) W := by
  have hs := run_slice_lhm (P := Try.prog) W 25 (some ⟨b, o, none⟩) T c (by rw [Try.underlying25]; rfl) .i64 .i64 .i64 (p : Int) (q : Int) (q : Int) (by omega) (by omega) (by omega) (by omega)
  rw [hs]
  have e1 : ((p : Int)).toNat = p := by omega
  have e2 : ((q : Int)).toNat = q := by omega
  have e3 : Try.prog.elem 25 = 5 := by kernel_rfl
  rw [e1, e2, e3]
  simp [Try.sizeOf5, sliced, Result.andThen, Addr.add, show ¬ q = p by omega, show q - p = d by omega]
theorem slice_mid (b o T c p d q : Nat) (h : p + d = q) (hp : p < c) (hq : q ≤ T) (hT : T ≤ c) (W : World) :
    (Instr.slice 25 (.slice (some ⟨b, o, none⟩) T c) (some (.int .i64 (p : Int))) (some (.int .i64 (q : Int))) none).run Try.prog W = .ok (.slice (some ⟨b, o + p, none⟩) d (c - p)) W := by
  have hs := run_slice_lh (P := Try.prog) W 25 (some ⟨b, o, none⟩) T c (by rw [Try.underlying25]; rfl) .i64 .i64 (p : Int) (q : Int) (by omega) (by omega) (by omega)
  rw [hs]
  have e1 : ((p : Int)).toNat = p := by omega
  have e2 : ((q : Int)).toNat = q := by omega
  have e3 : Try.prog.elem 25 = 5 := by kernel_rfl
  rw [e1, e2, e3]
  simp [Try.sizeOf5, sliced, Result.andThen, Addr.add, show ¬ c = p by omega, show q - p = d by omega]
theorem madeR (n : Nat) : madeCells (Value.slice none 0 0).cells n = (List.replicate n (Value.slice none 0 0)).toArray := by
  unfold madeCells
  apply Array.ext
  · simp
  · intro i h1 h2
    simp [Value.cells, Nat.mod_one]
theorem make_rows (n : Nat) (hn : n ≤ 1000000) (W : World) :
    (Instr.makeSlice 30 (.int .i64 (n : Int)) (.int .i64 (n : Int))).run Try.prog W = .ok (.slice (some ⟨W.heap.size, 0, none⟩) n n) (W.alloc (.cells (List.replicate n (Value.slice none 0 0)).toArray 25)) := by
  obtain ⟨i0, hi, hz0, hz1, hz2⟩ := info_parts info25
  have h := run_make (P := Try.prog) W 30 25 i0 (.slice none 0 0) Try.underlying30 hi hz0 .i64 .i64 n n (by omega) (by omega) (by rw [hz2]; omega) (by omega)
  rw [Int.toNat_natCast, hz1, Nat.mul_one, madeR] at h
  exact h
theorem ends_size (a : Nat) (l : List UInt8) : (ends hit a l).length ≤ l.length := by
  induction hn : l.length using Nat.strongRecOn generalizing a l with
  | _ n ih =>
    subst hn
    by_cases h : l = []
    · rw [h, ends_nil]
      exact Nat.le_refl _
    · rw [ends_cons hit a l h]
      have h1 := first_pos hit l h
      have h2 := first_len hit l
      have := ih _ (rest_lt hit l h) (a + first hit l) _ rfl
      rw [List.length_drop] at this
      rw [List.length_cons]
      omega
theorem byt_set {w : World} {ao : Option Addr} {l : List UInt8} (h : Byt w ao l) (a : Addr) (v : Value) (hne : ∀ b o, ao = some ⟨b, o, none⟩ → b ≠ a.block) : Byt (w.setCell a v) ao l := fun hl => by
  obtain ⟨b, o, h1, h2, h3⟩ := h hl
  refine ⟨b, o, h1, by simpa using h2, fun j hj => ?_⟩
  exact (World.cell?_of_block (heap_setCell_other w a b v (hne b o h1))).trans (h3 j hj)
/-- what Split's loop holds: the chunks so far, slices of one block -/
def Sp (wr : World) (g n b o : Nat) (l : List UInt8) (done : List (List UInt8)) : Prop :=
  ∃ vals : List Value, Blk wr g vals 25 ∧ vals.length = n ∧ ∀ j (h : j < done.length), ∃ s, vals[j]? = some (.slice (some ⟨b, o + s, none⟩) (done[j]).length (done[j]).length) ∧ done[j] = (l.drop s).take (done[j]).length
theorem sp_next {wr : World} {g n b o : Nat} {l : List UInt8} {done : List (List UInt8)} {i p d : Nat} (h : Sp wr g n b o l done) (hi : done.length = i) (hin : i < n) (hpd : p + d ≤ l.length) :
    Sp (wr.setCell ⟨g, i, none⟩ (.slice (some ⟨b, o + p, none⟩) d d)) g n b o l (done ++ [(l.drop p).take d]) := by
  obtain ⟨vals, h1, h2, h3⟩ := h
  have hlen : ((l.drop p).take d).length = d := by rw [List.length_take, List.length_drop]; omega
  refine ⟨_, h1.set i _, by rw [List.length_set, h2], fun j hj => ?_⟩
  rw [List.length_append, List.length_singleton] at hj
  rcases Nat.lt_or_ge j done.length with hjl | hjl
  · obtain ⟨s, k1, k2⟩ := h3 j hjl
    refine ⟨s, ?_, ?_⟩
    · rw [List.getElem?_set_ne (by omega), List.getElem_append_left hjl]
      exact k1
    · rw [List.getElem_append_left hjl]
      exact k2
  · obtain rfl : j = i := by omega
    refine ⟨p, ?_, ?_⟩
    · rw [List.getElem?_set_self (by omega), List.getElem_append_right hjl]
      simp only [show j - done.length = 0 by omega, List.getElem_singleton, hlen]
    · rw [List.getElem_append_right hjl]
      simp only [show j - done.length = 0 by omega, List.getElem_singleton, hlen]
theorem sp_end {wr : World} {g n b o : Nat} {l : List UInt8} {done : List (List UInt8)} (h : Sp wr g n b o l done) (hb : Byt wr (some ⟨b, o, none⟩) l) : Rws wr g done := fun j hj => by
  obtain ⟨vals, h1, _, h3⟩ := h
  obtain ⟨s, k1, k2⟩ := h3 j hj
  refine ⟨_, _, (h1.cell j).trans k1, ?_, fun h => by cases h⟩
  rw [k2]
  exact (hb.drop s).take _
theorem sp_cell {wr : World} {g n b o i : Nat} {l : List UInt8} {done : List (List UInt8)} (h : Sp wr g n b o l done) (hi : i < n) : (∃ x, wr.cell? ⟨g, i, none⟩ = some x) ∧ wr.frozen? ⟨g, i, none⟩ = false ∧ g < wr.heap.size := by
  obtain ⟨vals, h1, h2, _⟩ := h
  exact ⟨⟨vals[i], by rw [h1.cell, List.getElem?_eq_getElem]⟩, h1.frozen i, h1.lt⟩
theorem chunks_step (l : List UInt8) (p d : Nat) (hp : p < l.length) (hd : d = first hit (l.drop p)) : chunks hit (l.drop p) = (l.drop p).take d :: chunks hit (l.drop (p + d)) := by
  have hne : l.drop p ≠ [] := fun h => by
    have := congrArg List.length h
    simp at this
    omega
  rw [chunks_cons hit _ hne, ← hd, List.drop_drop]
theorem get_drop (E : List Nat) (i q : Nat) (r : List Nat) (h : E.drop i = q :: r) : ∃ hi : i < E.length, E[i] = q ∧ E.drop (i + 1) = r := by
  have hi : i < E.length := by
    rcases Nat.lt_or_ge i E.length with h1 | h1
    · exact h1
    · rw [List.drop_eq_nil_of_le h1] at h
      cases h
  rw [List.drop_eq_getElem_cons hi] at h
  injection h with h1 h2
  exact ⟨hi, h1, h2⟩
end Go.Proofs.Ytdlejcokigmcdaa.Rb
