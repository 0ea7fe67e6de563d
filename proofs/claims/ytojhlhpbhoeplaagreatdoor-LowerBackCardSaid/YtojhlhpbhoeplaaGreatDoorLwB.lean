/-
  The contract of the law's heads. Conditions: each law's own.
-/
import Derived.Test.YtojhlhpbhoeplaaGreatDoorLwA
import Derived.Deep.Onto
import Derived.Maps.OwnOps
import Derived.Maps.Views
import Derived.Maps.OwnSet
import Derived.Deep.LoopGhost
import Derived.Deep.RegionLaw
import Derived.Laws.EntriesVeiled
import Derived.Deep.QuietTactic
import Derived.BigQuiet
import Derived.StillTailTactics
namespace Go.Proofs.YtojhlhpbhoeplaaGreatDoor.Lw
open Go.RowKit Go.Lib Go.Proofs.YtojhlhpbhoeplaaGreatDoor.Sh Go.Proofs.YtojhlhpbhoeplaaGreatDoor.Lb Go.Maps

/-- a queue: numbers that stand in a block of the call's own, from some place on -/
def Que (B : Nat) (w : World) (v : Value) (Q : List Int) : Prop :=
  ∃ (g o c : Nat) (row : Array Value), v = .slice (some ⟨g, o, none⟩) Q.length c ∧ B ≤ g ∧ w.heap[g]? = some (.cells row 3 (0, 0)) ∧ Q.length ≤ c ∧ o + c ≤ row.size ∧ c ≤ 9223372036854775807 ∧ ∀ (j : Nat) (x : Int), Q[j]? = some x → row[o + j]? = some (.int .i64 x)
theorem Que.lt {B : Nat} {w : World} {v : Value} {Q : List Int} (h : Que B w v Q) : ∃ g, v.ownBlock = some g ∧ B ≤ g ∧ g < w.heap.size := by
  obtain ⟨g, o, c, row, rfl, h1, h2, _⟩ := h
  exact ⟨g, rfl, h1, (Array.getElem?_eq_some_iff.1 h2).1⟩
theorem Que.kept {B : Nat} {w w' : World} {v : Value} {Q : List Int} {k : Option Nat} (h : Que B w v Q) (hg : w.grownBy w' k) (hk : ∀ g, v.ownBlock = some g → some g ≠ k) : Que B w' v Q := by
  obtain ⟨g, o, c, row, rfl, h1, h2, h3⟩ := h
  exact ⟨g, o, c, row, rfl, h1, (hg.block g (Array.getElem?_eq_some_iff.1 h2).1 (hk g rfl)).trans h2, h3⟩
theorem Que.alloc {B : Nat} {w : World} {v : Value} {Q : List Int} (h : Que B w v Q) (ob : Obj) : Que B (w.alloc ob) v Q := h.kept (World.grownBy_alloc w ob none) (fun _ _ e => by cases e)
theorem que_one (w : World) (B : Nat) (x : Int) (hB : B ≤ w.heap.size) : Que B (w.alloc (.cells #[.int .i64 x] 3)) (.slice (some ⟨w.heap.size, 0, none⟩) 1 1) [x] :=
  ⟨w.heap.size, 0, 1, #[.int .i64 x], rfl, hB, heap_alloc_new w _, Nat.le_refl _, Nat.le_refl _, by omega, fun j y hj => by
    have : j = 0 := by
      have := (List.getElem?_eq_some_iff.1 hj).1
      simpa using this
    subst this
    simp at hj
    subst hj
    rfl⟩
theorem flatI (Q : List Int) : Q.flatMap cellsI = Q.map fun x => Value.int .i64 x := by
  induction Q with
  | nil => rfl
  | cons y r ih => rw [List.flatMap_cons, ih]; rfl
theorem que_of_own {B : Nat} {w : World} {v : Value} {Q : List Int} {n : Nat} (h : w.ownsRow B 3 1 v n (Q.flatMap cellsI)) (hn : Q.length = n) (h0 : 0 < n) : Que B w v Q := by
  have hh := h
  obtain ⟨hl, ⟨rfl, h1⟩ | ⟨g, cap, cur, rfl, hB, hg, h1, h2, h3, h4⟩⟩ := h
  · omega
  · refine ⟨g, 0, cap, cur, by rw [hn], hB, hg, by omega, by omega, by unfold maxLen at h2; omega, fun j x hj => ?_⟩
    have hc : (Q.flatMap cellsI)[j]? = some (.int .i64 x) := by
      rw [flatI, List.getElem?_map, hj]
      rfl
    rw [← h4] at hc
    rw [List.getElem?_take] at hc
    split at hc
    · rw [Nat.zero_add, ← hc]
      simp
    · cases hc
/-- the first of it -/
theorem que_first {B : Nat} {w : World} {g o q c : Nat} {x : Int} {Q : List Int} (h : Que B w (.slice (some ⟨g, o, none⟩) q c) (x :: Q)) : w.cell? ⟨g, o, none⟩ = some (.int .i64 x) := by
  obtain ⟨g', o', c', row, hv, h1, h2, h3, h4, h5, h6⟩ := h
  injection hv with hv _ _
  injection hv with hv
  injection hv with e1 e2 _
  subst e1
  subst e2
  have := h6 0 x rfl
  rw [Nat.add_zero] at this
  simp [World.cell?, h2, this]
set_option maxRecDepth 100000 in
/-- what is behind the first -/
theorem que_rest {B : Nat} {w : World} {g o q c : Nat} {x : Int} {Q : List Int} (h : Que B w (.slice (some ⟨g, o, none⟩) q c) (x :: Q)) :
    ∃ v', (∀ W, (Instr.slice 43 (.slice (some ⟨g, o, none⟩) q c) (some (.int .i64 1)) none none).run Tryz.prog W = .ok v' W) ∧ ∀ w', Que B w' (.slice (some ⟨g, o, none⟩) q c) (x :: Q) → Que B w' v' Q := by
  have hq : q = Q.length + 1 := by
    obtain ⟨g', o', c', row, hv, _⟩ := h
    injection hv with _ hv _
  have hqc : q ≤ c := by
    obtain ⟨g', o', c', row, hv, h1, h2, h3, h4, h5, h6⟩ := h
    injection hv with _ e1 e2
    rw [e1, e2]
    try exact h3
  have hs := fun W => run_slice_l (P := Tryz.prog) W 43 (some ⟨g, o, none⟩) q c (by rw [Tryz.underlying43]; rfl) .i64 1 (by omega) (by omega)
  have e3 : Tryz.prog.elem 43 = 3 := by kernel_rfl
  simp only [e3, Tryz.sizeOf3, sliced, Result.andThen, Nat.mul_one, show ((1 : Int)).toNat = 1 from rfl] at hs
  by_cases hcn : c = 1
  · refine ⟨.slice (some ⟨g, o, none⟩) (q - 1) (c - 1), fun W => by rw [hs W, if_pos hcn], fun w' hw => ?_⟩
    obtain ⟨g', o', c', row, hv, h1, h2, h3, h4, h5, h6⟩ := hw
    injection hv with hv e1 e2
    injection hv with hv
    injection hv with a1 a2 _
    subst a1
    subst a2
    subst e2
    simp at h3
    have hQ : Q = [] := List.eq_nil_of_length_eq_zero (by omega)
    subst hQ
    exact ⟨g, o, c - 1, row, by rw [hq]; rfl, h1, h2, Nat.zero_le _, by omega, by omega, fun j y hj => by simp at hj⟩
  · refine ⟨.slice (some ⟨g, o + 1, none⟩) (q - 1) (c - 1), fun W => by rw [hs W, if_neg hcn]; rfl, fun w' hw => ?_⟩
    obtain ⟨g', o', c', row, hv, h1, h2, h3, h4, h5, h6⟩ := hw
    injection hv with hv e1 e2
    injection hv with hv
    injection hv with a1 a2 _
    subst a1
    subst a2
    subst e2
    simp at h3
    exact ⟨g, o + 1, c - 1, row, by rw [hq]; rfl, h1, h2, by omega, by omega, by omega, fun j y hj => by
      have := h6 (j + 1) y (by simpa using hj)
      rw [show o + 1 + j = o + (j + 1) by omega]
      exact this⟩
section
variable {P : Program}
/-- one more behind it -/
theorem wpl_que {w : World} {ops : Array Oper} {rest : List Oper} {oo : Oper} {a : Act} {Qx : Exit → Act → World → Prop} (hgd : oo.guard = none) (s x : Operand)
    (ho : oo.op = .call { callee := .builtin .append, args := #[s, x], argTypes := #[43, 43] })
    (B : Nat) (v : Value) (Q : List Int) (hs : a.eval s = v) (hq : Que B w v Q)
    (g' : Nat) (n : Int) (hx : a.eval x = .slice (some ⟨g', 0, none⟩) 1 1) (hc : w.cell? ⟨g', 0, none⟩ = some (.int .i64 n)) (h47 : Q.length + 1 ≤ 1000000) (hB : B ≤ w.heap.size)
    (h : ∀ v' w', Que B w' v' (Q ++ [n]) → w.grownBy w' v.ownBlock → wpList Tryz.prog ops Qx rest (a.put oo.dst v') w') : wpList Tryz.prog ops Qx (oo :: rest) a w := by
  obtain ⟨i0, hi, hz0, hz1, hz2⟩ := info_parts infoI
  refine wpList_plain hgd fun K hK => ?_
  have main : ∃ v' w', (Builtin.append_ #[43, 43] oo.type #[v, .slice (some ⟨g', 0, none⟩) 1 1]).run Tryz.prog w = .ok v' w' ∧ Que B w' v' (Q ++ [n]) ∧ w.grownBy w' v.ownBlock := by
    obtain ⟨g, o, c, row, rfl, h1, h2, h3, h4, h5, h6⟩ := hq
    have hnews : ∀ j u, [Value.int .i64 n][j]? = some u → w.cell? ((⟨g', 0, none⟩ : Addr).add j) = some u := fun j u hj => by
      have : j = 0 := by
        have := (List.getElem?_eq_some_iff.1 hj).1
        simpa using this
      subst this
      simp at hj
      subst hj
      rw [WideShapes.add_plain]
      exact hc
    have hcell : ∀ k, w.cell? ⟨g, k, none⟩ = row[k]? := fun k => by simp [World.cell?, h2]
    by_cases hr : Q.length + 1 ≤ c
    · have hrun := run_append_room_cells (P := Tryz.prog) w 43 oo.type 3 i0 Tryz.underlying43 hi g o Q.length c ⟨g', 0, none⟩ 1 1 [.int .i64 n] (by rw [hz1]; rfl) hnews (by simp [Value.oneCell']) hr (fun j hj => by
          simp at hj
          subst hj
          rw [hz1, Nat.mul_one, Nat.add_zero, hcell, Array.getElem?_eq_getElem (by omega)]
          rfl) (fun j hj => by
          exact frozen_of_row w g _ row 3 h2)
      rw [hz1, Nat.mul_one] at hrun
      refine ⟨_, _, hrun, ?_, ?_⟩
      · have hb : Sh.Blk w g row.toList 3 := by show w.heap[g]? = _; rw [h2]
        have hset : (w.setCells g (o + Q.length) [Value.int .i64 n]).heap[g]? = some (.cells (row.toList.set (o + Q.length) (.int .i64 n)).toArray 3 (0, 0)) := hb.set (o + Q.length) (.int .i64 n)
        refine ⟨g, o, c, _, by rw [List.length_append]; rfl, h1, hset, by rw [List.length_append]; exact hr, by simp; exact h4, h5, fun j y hj => ?_⟩
        rcases Nat.lt_or_ge j Q.length with hlt | hge
        · rw [List.getElem?_append_left hlt] at hj
          have := h6 j y hj
          simp only [List.getElem?_toArray]
          rw [List.getElem?_set_ne (by omega)]
          simpa using this
        · rw [List.getElem?_append_right hge] at hj
          have : j - Q.length = 0 := by
            have := (List.getElem?_eq_some_iff.1 hj).1
            simp at this
            omega
          rw [this] at hj
          simp at hj
          subst hj
          obtain rfl : j = Q.length := by omega
          simp only [List.getElem?_toArray]
          rw [List.getElem?_set_self (by simp; omega)]
      · exact grownBy_setCell w g _ _
    · obtain ⟨v', w', hrun, r1, r2⟩ := run_append_arg_grows (P := Tryz.prog) w 43 oo.type 3 i0 (.int .i64 0) 1 8 Tryz.underlying43 hi hz0 hz1 hz2 rfl (by decide) ⟨g, o, none⟩ Q.length c (Q.flatMap cellsI) (by rw [flatI]; simp) (fun j u hj => by
          rw [flatI, List.getElem?_map] at hj
          obtain ⟨y, hy, rfl⟩ := Option.map_eq_some_iff.1 hj
          rw [WideShapes.add_plain, hcell]
          exact h6 j y hy) ⟨g', 0, none⟩ 1 1 [.int .i64 n] rfl hnews (by omega) (by unfold maxLen; omega) (by omega)
      refine ⟨v', w', hrun, ?_, ⟨r2.os, r2.tape, r2.output, r2.size, fun k hk _ => r2.block k hk (by simp)⟩⟩
      have r3 : w'.ownsRow w.heap.size 3 1 v' (Q.length + 1) ((Q ++ [n]).flatMap cellsI) := by
        rw [List.flatMap_append]
        exact r1
      exact que_of_own (World.ownsRow.mono r3 hB) (by simp) (by omega)
  obtain ⟨v', w', hrun, h1, h2⟩ := main
  unfold Oper.wp
  simp [execOp, ho, resolve, invoke, builtin, hs, hx, hrun, Result.andThen]
  exact hK _ _ (h v' w' h1 h2)
end
end Go.Proofs.YtojhlhpbhoeplaaGreatDoor.Lw
namespace Go.Proofs.YtojhlhpbhoeplaaGreatDoor.Lw
open Go.RowKit Go.Lib Go.Proofs.YtojhlhpbhoeplaaGreatDoor.Sh Go.Proofs.YtojhlhpbhoeplaaGreatDoor.Lb Go.Maps

theorem law3 : Keyed Tryz.prog 3 := int_keyed Tryz.underlying3
theorem zero3 (w : World) : (zeroValue 3).run Tryz.prog w = .ok (.int .i64 0) w := by kernel_rfl
theorem int_ne {i j : Int} (h : i ≠ j) : Lit.int .i64 i ≠ Lit.int .i64 j := fun e => by
  injection e with _ e
  exact h e
/-- a map of counts -/
def MapM (C : DataW Unit) (m : Int → Nat) : Prop := ∀ x : Int, C.atKey (.int .i64 x) (.lit (.int .i64 0)) = .lit (.int .i64 (m x : Int))
theorem mapM_put {C : DataW Unit} {m : Int → Nat} (hC : IsMap C) (h : MapM C m) (a : Int) (v : Nat) : MapM (C.put (.int .i64 a) (.lit (.int .i64 (v : Int)))) (upd m a v) := fun x => by
  unfold upd
  by_cases hx : x = a
  · subst hx
    rw [if_pos rfl, atKey_put_same hC (by trivial)]
  · rw [if_neg hx, atKey_put_other (int_ne hx), h x]
/-- the state of the walk -/
structure MSt (w wr : World) (mb k : Nat) (m : Int → Nat) (v : Value) (Q : List Int) : Prop where
  mp : ∃ (C : DataW Unit) (cnt : Nat), MapM C m ∧ wr.ownsMap Tryz.prog 3 (plainElem Tryz.prog 3) mb cnt C ∧ cnt ≤ k
  que : Que w.heap.size wr v Q
  bel : Below w.heap.size w wr
theorem MSt.apart {w wr : World} {mb k : Nat} {m : Int → Nat} {v : Value} {Q : List Int} (h : MSt w wr mb k m v Q) : ∀ g, v.ownBlock = some g → some g ≠ some mb := fun g hg e => by
  injection e with e
  subst e
  obtain ⟨C, cnt, _, ⟨es, ck, hb, _⟩, _⟩ := h.mp
  obtain ⟨g', o, c, row, rfl, h1, h2, _⟩ := h.que
  injection hg with hg
  subst hg
  rw [hb] at h2
  cases h2
theorem wpl_insert_own {H : Type} {P : Program} (w : World) {ops : Array Oper} {rest : List Oper} {o : Oper} {a : Act} {Q : Exit → Act → World → Prop}
    (hg : o.guard = none) (m x v : Operand) (t : TypeId) (hop : o.op = Op.insert t m x v)
    (k e : TypeId) (K : Keyed P k) (ht : P.underlying t = some (.map k e)) (R : Value → Option (DataW H × List MemPlace)) (b n : Nat) (D : DataW H)
    (hm : a.eval m = .map (some b)) (hown : w.ownsMap P k R b n D) (hn : n < maxLen) (key val : Value) (kl : Lit) (hx : a.eval x = key) (hv : a.eval v = val) (hkey : keyOf P k key = some kl)
    (d : DataW H) (ps : List MemPlace) (hval : R val = some (d, ps))
    (hK : ∀ w', w'.ownsMap P k R b (n + 1) (D.put kl d) → w.grownBy w' (some b) → wpList P ops Q rest (a.put o.dst undef) w') :
    wpList P ops Q (o :: rest) a w := by
  refine wpList_plain hg fun K' hK' => ?_
  obtain ⟨w', hrun, r1, r2⟩ := hown.update K ht hn hkey hval
  unfold Oper.wp
  simp [execOp, hop, hm, hx, hv, hrun, Result.andThen]
  exact hK' _ _ (hK w' r1 r2)
theorem cntD_le {nu : Int → List Int} {k : Nat} (h : ∀ i, (nu i).length ≤ k) (D : List Int) (x : Int) : cntD nu D x ≤ k * D.length := by
  induction D with
  | nil => simp [cntD]
  | cons d r ih =>
    have e : cntD nu (d :: r) x = (nu d).count x + cntD nu r x := by simp [cntD]
    have h1 := List.count_le_length (a := x) (l := nu d)
    have h2 := h d
    rw [e, List.length_cons, Nat.mul_add]
    omega
/-- what a row of inodes' numbers may be -/
structure MeetOk (l : List InoP) : Prop where
  most : l.length ≤ 512
  one : 1 ≤ l.length
  row : ∀ i, (numsAt l i).length ≤ 128
  range : ∀ i z, z ∈ numsAt l i → 1 ≤ z ∧ z ≤ (l.length : Int)
theorem MeetOk.reach {l : List InoP} (h : MeetOk l) {z : Int} (hz : Reach (numsAt l) z) : 1 ≤ z ∧ z ≤ (l.length : Int) := by
  cases hz with
  | one => have := h.one; omega
  | step _ h2 => exact h.range _ _ h2
theorem meetOk_of {l : List InoP} {next : Int} (h : OkInos ltB nameOk l next) : MeetOk l := by
  refine ⟨h.most, h.one, fun i => ?_, fun i z hz => h.range hz⟩
  unfold numsAt
  split
  · cases hx : l[i.toNat - 1]? with
    | none => simp
    | some x =>
      have ho := (h.each _ x hx).2
      have h1 := ho.list.same
      have h2 := ho.most
      simp only at h1
      show x.nums.length ≤ 128
      omega
  · simp
/-- what meet answers -/
def MeetA (l : List InoP) (w : World) (e : Ending) (w' : World) : Prop :=
  Below w.heap.size w w' ∧ ∃ mb m C cnt, e = .returned (.map (some mb)) ∧ Meets (numsAt l) m ∧ MapM C m ∧ w'.ownsMap Tryz.prog 3 (plainElem Tryz.prog 3) mb cnt C ∧ w.heap.size ≤ mb
set_option maxHeartbeats 8000000 in
set_option maxRecDepth 100000 in
theorem meet_any (ao : Option Addr) (l : List InoP) (n c : Nat) (w : World) (h : Irw w ao l) (hl : l.length = n) (_ : n ≤ c) (_ : c ≤ 9223372036854775807) (hok : MeetOk l) :
    Calls Tryz.prog 36 #[.slice ao n c] w (MeetA l w) := by
  have hmm := @run_makeMap Tryz.prog
  have HI := Lib.hid h
  have HL := Lib.hid hl
  have HK := Lib.hid hok
  have O0 : Hid ((w.alloc (.map #[] 0)).ownsMap Tryz.prog 3 (plainElem (H := Unit) Tryz.prog 3) w.heap.size 0 (.map [])) := World.ownsMap_made _ _ _ _
  have key1 : keyOf Tryz.prog 3 (.int .i64 1) = some (.int .i64 1) := keyOf_int_mk Tryz.underlying3 (WalkArith.wf_i64 (by omega))
  have val1 : plainElem (H := Unit) Tryz.prog 3 (.int .i64 1) = some (.lit (.int .i64 1), []) := plainElem_int Tryz.underlying3 (WalkArith.wf_i64 (by omega))
  clear h hl hok
  go_enter Tryz.func36, Tryz.ntmps36
  go_wp2_with (refine wpl_insert_own _ rfl _ _ _ 71 rfl 3 3 law3 Tryz.underlying71 _ w.heap.size 0 _ rfl O0.out (by unfold maxLen; omega) _ _ _ rfl rfl key1 _ [] val1 ?_; intro w1 hown1 hgrow1)
  have B1 : Below w.heap.size w w1 := ((Below.refl _ w).alloc (Nat.le_refl _) _).grown hgrow1 (by simp) (fun k hk => by injection hk with hk; omega)
  have S0 : Hid (MSt w (w1.alloc (.cells #[.int .i64 1] 3)) w.heap.size (1 + 128 * ([] : List Int).length) first (.slice (some ⟨w1.heap.size, 0, none⟩) 1 1) [1]) := by
    refine ⟨⟨_, 1, fun x => ?_, hown1.alloc _, by simp⟩, que_one w1 w.heap.size 1 B1.size, B1.alloc B1.size _⟩
    by_cases hx : x = 1
    · subst hx
      rw [atKey_put_same ⟨_, rfl⟩ (by trivial)]
      rfl
    · rw [atKey_put_other (int_ne hx), show first x = 0 from if_neg hx]
      rfl
  clear hown1 hgrow1 B1 O0 key1 val1
  generalize w1.alloc (.cells #[.int .i64 1] 3) = w2 at *
  go_loopg [4] n (fun gk s4 wr => ∃ (m : Int → Nat) (D Q : List Int), Hid (Way (numsAt l) m D Q) ∧ Hid (MSt w wr w.heap.size (1 + 128 * D.length) m s4 Q) ∧ D.length ≤ n ∧ n ≤ D.length + gk)
  case atStart => exact ⟨first, [], [1], way_start _, S0.out, by simp, by simp⟩
  case round =>
    clear S0
    obtain ⟨m, D, Q, hW, hS, hD, hgk⟩ := hrel
    cases Q with
    | nil =>
      obtain ⟨g, o, cc, row, rfl, _⟩ := hS.out.que
      have hlen : Hid (([] : List Int).length = 0) := rfl
      go_wp2_with fail
      go_ret
      obtain ⟨C, cnt, h1, h2, h3⟩ := hS.out.mp
      exact ⟨hS.out.bel, w.heap.size, m, C, cnt, rfl, Way.done _ hW.out, h1, h2, Nat.le_refl _⟩
    | cons i Q =>
      have hrch : Reach (numsAt l) i := hW.out.rch i (by simp)
      have hir := HK.out.reach hrch
      have hst := Way.steps _ (n := l.length) hW.out (fun x hx => HK.out.reach hx)
      simp only [List.length_cons] at hst
      have hll := HL.out
      have hmost := HK.out.most
      obtain ⟨j, rfl⟩ : ∃ j : Nat, i = (j : Int) + 1 := ⟨(i - 1).toNat, by omega⟩
      have hjn : j < n := by omega
      obtain ⟨x, hx⟩ : ∃ x, l[j]? = some x := ⟨_, List.getElem?_eq_getElem (by omega)⟩
      have hnu : numsAt l ((j : Int) + 1) = x.nums := numsAt_get hx
      have hrow := HK.out.row ((j : Int) + 1)
      rw [hnu] at hrow
      obtain ⟨b, o, rfl, hb, da, dn, dc, na, nn, nc, za, zn, zc, aa, an, ac, h9, hv⟩ := irw_at HI.out j x hx
      have k7 := (h9.below hS.out.bel hb).k7
      have hzl := hv.z1
      have ZV := Lib.hid hv.z4
      have ZL := Lib.hid hv.z1
      have hzn : zn ≤ 128 := by omega
      have hzc := hv.z2
      have NU := Lib.hid hnu
      obtain ⟨g, o2, cc, row, hv2, _, _, hql, _⟩ := hS.out.que
      obtain ⟨qn, hqn⟩ : ∃ q, q = (((j : Int) + 1) :: Q).length := ⟨_, rfl⟩
      rw [← hqn] at hv2 hql
      have hq0 : 0 < qn := by rw [hqn]; simp
      subst hv2
      have c18 := que_first hS.out.que
      have t1 : decide ((0 : Int) < (qn : Int)) = true := by simp; omega
      have t2 : decide (0 < qn) = true := by simp; omega
      have HD := Lib.hid (show D.length + (Q.length + 1) ≤ n by omega)
      have WE := Lib.hid (Way.enter _ hW.out)
      have S1 : Hid (MSt w wr w.heap.size (1 + 128 * D.length + 0) m (.slice (some ⟨g, o2, none⟩) qn cc) (((j : Int) + 1) :: Q)) := hS.out
      have e1 : ((j : Int) + 1) - 1 = (j : Int) := by omega
      have q1 : (0 : Int) ≤ (j : Int) := by omega
      have q2 : (j : Int) < (n : Int) := by omega
      clear hrch hir hst hnu hrow h9 hv hqn hzl hb hx hW
      go_wp2_with fail
      go_loopw [4, 24] (fun s4 s24 wi => ∃ (q : Nat) (m : Int → Nat) (Qf : List Int), q ≤ zn ∧ s24 = .int .i64 q ∧ Hid (Within (numsAt l) m D ((j : Int) + 1) (x.nums.take q) Qf) ∧ Hid (MSt w wi w.heap.size (1 + 128 * D.length + q) m s4 (((j : Int) + 1) :: Qf))) (fun _ s24 _ => zn - (RowKit.intOf s24).toNat)
      case atStart => exact ⟨0, m, Q, by omega, rfl, WE.out, S1.out⟩
      case round =>
        clear S1 WE c18 k7 hS
        obtain ⟨q, m, Qf, hq, rfl, hW, hS⟩ := hrel
        by_cases hqz : q < zn
        · have r1 : (0 : Int) ≤ (q : Int) := by omega
          have r2 : (q : Int) < (zn : Int) := by omega
          have hql2 : q < x.nums.length := by have := ZL.out; omega
          obtain ⟨zb, zo, hza, hzb, hzcell⟩ := zrw_cell ZV.out q hql2
          subst hza
          obtain ⟨a, ha⟩ : ∃ a, x.nums[q]? = some a := ⟨_, List.getElem?_eq_getElem hql2⟩
          have ca := (hS.out.bel.cell (p := ⟨zb, zo + q, none⟩) hzb).trans (hzcell q a ha)
          have hmem : a ∈ numsAt l ((j : Int) + 1) := by rw [NU.out]; exact List.mem_of_getElem? ha
          have hra := HK.out.range _ _ hmem
          obtain ⟨C, cnt, hM, hown0, hcnt⟩ := hS.out.mp
          have hown := Lib.hid hown0
          have hDl : D.length ≤ 512 := by have := HD.out; omega
          have hcnt2 : cnt ≤ 65800 := by omega
          obtain ⟨k, hk⟩ : ∃ k, k = m a := ⟨_, rfl⟩
          have hkb : k ≤ 65800 := by
            rw [hk, hW.out.cnt a]
            have h1 := cntD_le HK.out.row D a
            have h2 := List.count_le_length (a := a) (l := x.nums.take q)
            rw [List.length_take] at h2
            have h3 : first a ≤ 1 := by unfold first; split <;> omega
            omega
          have HN : Hid (cnt < maxLen) := by show _ < _; unfold maxLen; omega
          have w4 : IntKind.i64.wrap ((k : Int) + 1) = (k : Int) + 1 := IntWalk.i64_in _ (by omega)
          have keyA : keyOf Tryz.prog 3 (.int .i64 a) = some (.int .i64 a) := keyOf_int_mk Tryz.underlying3 (WalkArith.wf_i64 (by omega))
          have valA : plainElem (H := Unit) Tryz.prog 3 (.int .i64 ((k : Int) + 1)) = some (.lit (.int .i64 ((k : Int) + 1)), []) := plainElem_int Tryz.underlying3 (WalkArith.wf_i64 (by omega))
          have hCm := hown0.isMap
          have H1 : Hid (∀ c1 : Int, C.atKey (.int .i64 a) (.lit (.int .i64 0)) = .lit (.int .i64 c1) → c1 = (k : Int)) := fun c1 h1 => by
            rw [hM a, ← hk] at h1
            exact (Lit.int.inj (DataW.lit.inj h1)).2.symm
          have hM2 := mapM_put hCm hM a (k + 1)
          rw [show ((k + 1 : Nat) : Int) = (k : Int) + 1 by omega] at hM2
          have H2 : Hid (∀ c2 : Int, (C.put (.int .i64 a) (.lit (.int .i64 ((k : Int) + 1)))).atKey (.int .i64 a) (.lit (.int .i64 0)) = .lit (.int .i64 c2) → c2 = (k : Int) + 1) := fun c2 h2 => by
            rw [hM2 a] at h2
            unfold upd at h2
            rw [if_pos rfl] at h2
            have := (Lit.int.inj (DataW.lit.inj h2)).2
            omega
          have MM := Lib.hid hM2
          have HA := Lib.hid ha
          have TK : Hid (x.nums.take (q + 1) = x.nums.take q ++ [a]) := by
            show _ = _
            rw [List.take_add_one, ha]
            rfl
          obtain ⟨g3, o3, cf, row3, hv3, _, _, hqlf, _⟩ := hS.out.que
          obtain ⟨qf, hqf⟩ : ∃ q, q = (((j : Int) + 1) :: Qf).length := ⟨_, rfl⟩
          rw [← hqf] at hv3
          subst hv3
          have QB : Hid ((((j : Int) + 1) :: Qf).length + 1 ≤ 1000000) := by
            have := hW.out.nod.length_le_of_subset (l₂ := upto l.length) fun y hy => mem_upto.2 (HK.out.reach (hW.out.rch y hy))
            rw [len_upto] at this
            simp only [List.length_append, List.length_cons] at this
            show _ ≤ _
            simp only [List.length_cons]
            omega
          have KQ := Lib.hid hk
          have HC2 := Lib.hid hcnt
          clear hk hM hown0 ha hql2 hzcell hzb hCm hM2 hqf hqlf hmem hcnt hcnt2 hkb hDl hmost hll
          by_cases hk0 : k = 0
          · have u1 : ((k : Int) + 1 == 1) = true := by simp; omega
            have WF : Hid (Within (numsAt l) (upd m a (k + 1)) D ((j : Int) + 1) (x.nums.take (q + 1)) (Qf ++ [a])) := by
              show Within _ _ _ _ _ _
              rw [TK.out, KQ.out]
              exact hW.out.fresh _ (by rw [NU.out]; exact List.mem_of_getElem? HA.out) (by rw [← KQ.out]; exact hk0)
            have K0 := Lib.hid hk0
            clear hk0
            go_wp2_with (first
              | (at_lookup; refine wpList_lookup_own_int _ rfl _ _ 71 rfl 3 3 .i64 law3 Tryz.underlying71 Tryz.underlying3 (zero3 _) w.heap.size (cnt + 1) _ rfl OW1.out _ _ rfl keyA ?_; intro c2 hat2 hwc2; have hc2 := H2.out c2 hat2; subst hc2; clear hat2 hwc2)
              | (at_lookup; refine wpList_lookup_own_int _ rfl _ _ 71 rfl 3 3 .i64 law3 Tryz.underlying71 Tryz.underlying3 (zero3 _) w.heap.size cnt _ rfl hown.out _ _ rfl keyA ?_; intro c1 hat1 hwc1; have hc1 := H1.out c1 hat1; subst hc1; clear hat1 hwc1)
              | (at_mapUpdate; refine wpList_mapUpdate_own _ rfl _ _ _ 71 rfl 3 3 law3 Tryz.underlying71 _ w.heap.size cnt _ rfl hown.out HN.out _ _ _ rfl rfl keyA _ [] valA ?_; intro w5 hown1 hgrow1; have OW1 := Lib.hid hown1; have GR1 := Lib.hid hgrow1; have B5 : Hid (Below w.heap.size w w5) := hS.out.bel.grown hgrow1 hS.out.bel.size (fun k hk => by injection hk with hk; omega); have QW := Lib.hid (hS.out.que.kept hgrow1 hS.out.apart); have hsz5 : w.heap.size ≤ w5.heap.size := B5.out.size; clear hown1 hgrow1)
              | (at_builtin; refine wpl_que rfl (.tmp 36) (.tmp 38) rfl w.heap.size (.slice (some ⟨g3, o3, none⟩) qf cf) _ rfl (QW.out.alloc _) w5.heap.size a rfl (cell_new w5 #[.int .i64 a] 0 _ rfl rfl) QB.out (by simp; omega) ?_; intro v' w6 hq2 hg2)
              | go_in)
            have B6 : Hid (Below w.heap.size w w6) := (below_alloc B5.out _).grown hg2 (by simp; omega) (fun k hk => by obtain ⟨g9, e9, h91, _⟩ := QW.out.lt; rw [e9] at hk; injection hk with hk; omega)
            have AP : some w.heap.size ≠ (Value.slice (some ⟨g3, o3, none⟩) qf cf).ownBlock := fun e => hS.out.apart g3 rfl (by rw [e]; rfl)
            have S6 : Hid (MSt w w6 w.heap.size (1 + 128 * D.length + (q + 1)) (upd m a (k + 1)) v' (((j : Int) + 1) :: (Qf ++ [a]))) := ⟨⟨_, cnt + 1, MM.out, (OW1.out.alloc _).kept hg2 AP, by have := HC2.out; omega⟩, hq2, B6.out⟩
            clear hq2 hg2
            go_roundw
            case rel => exact ⟨q + 1, _, _, by omega, by go_num, WF.out, S6.out⟩
            case measure => simp [RowKit.intOf]; omega
          · have u1 : ((k : Int) + 1 == 1) = false := by simp; omega
            have WF : Hid (Within (numsAt l) (upd m a (k + 1)) D ((j : Int) + 1) (x.nums.take (q + 1)) Qf) := by
              show Within _ _ _ _ _ _
              rw [TK.out, KQ.out]
              exact hW.out.more _ (by rw [NU.out]; exact List.mem_of_getElem? HA.out) (by rw [← KQ.out]; omega)
            have K0 := Lib.hid hk0
            clear hk0
            go_wp2_with (first
              | (at_lookup; refine wpList_lookup_own_int _ rfl _ _ 71 rfl 3 3 .i64 law3 Tryz.underlying71 Tryz.underlying3 (zero3 _) w.heap.size (cnt + 1) _ rfl OW1.out _ _ rfl keyA ?_; intro c2 hat2 hwc2; have hc2 := H2.out c2 hat2; subst hc2; clear hat2 hwc2)
              | (at_lookup; refine wpList_lookup_own_int _ rfl _ _ 71 rfl 3 3 .i64 law3 Tryz.underlying71 Tryz.underlying3 (zero3 _) w.heap.size cnt _ rfl hown.out _ _ rfl keyA ?_; intro c1 hat1 hwc1; have hc1 := H1.out c1 hat1; subst hc1; clear hat1 hwc1)
              | (at_mapUpdate; refine wpList_mapUpdate_own _ rfl _ _ _ 71 rfl 3 3 law3 Tryz.underlying71 _ w.heap.size cnt _ rfl hown.out HN.out _ _ _ rfl rfl keyA _ [] valA ?_; intro w5 hown1 hgrow1; have OW1 := Lib.hid hown1; have GR1 := Lib.hid hgrow1; have B5 : Hid (Below w.heap.size w w5) := hS.out.bel.grown hgrow1 hS.out.bel.size (fun k hk => by injection hk with hk; omega); have QW := Lib.hid (hS.out.que.kept hgrow1 hS.out.apart); have hsz5 : w.heap.size ≤ w5.heap.size := B5.out.size; clear hown1 hgrow1)
              | go_in)
            have S6 : Hid (MSt w w5 w.heap.size (1 + 128 * D.length + (q + 1)) (upd m a (k + 1)) (.slice (some ⟨g3, o3, none⟩) qf cf) (((j : Int) + 1) :: Qf)) := ⟨⟨_, cnt + 1, MM.out, OW1.out, by have := HC2.out; omega⟩, QW.out, B5.out⟩
            go_roundw
            case rel => exact ⟨q + 1, _, _, by omega, by go_num, WF.out, S6.out⟩
            case measure => simp [RowKit.intOf]; omega
        · obtain rfl : q = zn := by omega
          have hTA : x.nums.take q = numsAt l ((j : Int) + 1) := by rw [NU.out, List.take_of_length_le (by have := ZL.out; omega)]
          have hW2 := hW.out
          rw [hTA] at hW2
          have WL := Lib.hid (Within.leave _ hW2)
          obtain ⟨g3, o3, cf, row3, hv3, _, _, hqlf, _⟩ := hS.out.que
          obtain ⟨qf, hqf⟩ : ∃ q, q = (((j : Int) + 1) :: Qf).length := ⟨_, rfl⟩
          rw [← hqf] at hv3 hqlf
          subst hv3
          obtain ⟨v', hsl, hqu⟩ := que_rest hS.out.que
          obtain ⟨C, cnt, hM, hown0, hcnt⟩ := hS.out.mp
          have S6 : Hid (MSt w _ w.heap.size (1 + 128 * (D ++ [(j : Int) + 1]).length) m v' Qf) := ⟨⟨C, cnt, hM, hown0, by simp; omega⟩, hqu _ hS.out.que, hS.out.bel⟩
          have HDL : Hid ((D ++ [(j : Int) + 1]).length = D.length + 1) := by show _ = _; simp
          clear hW2 hTA hqu hM hown0 hcnt hqf
          go_wp2_with fail
          go_roundg (n - (D.length + 1))
          case measure => have := HD.out; omega
          case rel => exact ⟨m, D ++ [(j : Int) + 1], Qf, WL.out, S6.out, by have := HD.out; have := HDL.out; omega, by have := HDL.out; omega⟩
end Go.Proofs.YtojhlhpbhoeplaaGreatDoor.Lw
namespace Go.Proofs.YtojhlhpbhoeplaaGreatDoor.Lw
open Go.RowKit Go.Lib Go.Proofs.YtojhlhpbhoeplaaGreatDoor.Sh Go.Proofs.YtojhlhpbhoeplaaGreatDoor.Lb Go.Maps

set_option maxHeartbeats 8000000 in
set_option maxRecDepth 100000 in
theorem checklinks_any (a : Addr) (ao : Option Addr) (l : List InoP) (n c mb cnt : Nat) (C : DataW Unit) (m : Int → Nat) (w : World) (hs : Sen w a) (h : Irw w ao l) (hl : l.length = n) (hn : n ≤ 512) (hM : MapM C m) (hown : w.ownsMap Tryz.prog 3 (plainElem Tryz.prog 3) mb cnt C) (hnum : ∀ (i : Nat) (x : InoP), l[i]? = some x → x.num = (i : Int) + 1) :
    Calls Tryz.prog 37 #[.slice ao n c, .map (some mb)] w (Chk w a (OkLinks l m)) := by
  have HI := Lib.hid h
  have HL := Lib.hid hl
  have HS := Lib.hid hs
  have HM := Lib.hid hM
  have HN := Lib.hid hnum
  have OW := Lib.hid hown
  have hml := hown.lt
  clear h hl hs hM hnum hown
  go_enter Tryz.func37, Tryz.ntmps37
  go_wp2_with fail
  go_loopw [10] (fun vi wr => ∃ i : Nat, i ≤ n ∧ vi = .int .i64 i ∧ Hid (Below w.heap.size w wr) ∧ Hid (∀ (j : Nat) (x : InoP), j < i → l[j]? = some x → 1 ≤ x.links ∧ x.links ≤ (if x.kind = 2 then 1 else 64) ∧ x.links = (m ((j : Int) + 1) : Int))) (fun vi _ => n - (RowKit.intOf vi).toNat)
  case atStart => exact ⟨0, by omega, rfl, Below.refl _ _, (fun j x hj => by omega : ∀ (j : Nat) (x : InoP), j < 0 → l[j]? = some x → 1 ≤ x.links ∧ x.links ≤ (if x.kind = 2 then 1 else 64) ∧ x.links = (m ((j : Int) + 1) : Int))⟩
  case round =>
    obtain ⟨i, hi, rfl, hB, hO⟩ := hrel
    by_cases hin : i < n
    · have q1 : (0 : Int) ≤ (i : Int) := by omega
      have q2 : (i : Int) < (n : Int) := by omega
      obtain ⟨x, hx⟩ : ∃ x, l[i]? = some x := ⟨_, List.getElem?_eq_getElem (by have := HL.out; omega)⟩
      obtain ⟨b, o, hbo, hb, ea, en, ec, fa, fn, fc, ga, gn, gc, ha, hn', hc', h9, hv⟩ := irw_at HI.out i x hx
      subst hbo
      have hxn := HN.out i x hx
      have HX := Lib.hid hx
      obtain ⟨xn, xk, xm, xl, xd, xt, xs, xz, xa⟩ := x
      simp only at hxn
      subst hxn
      have h9' := h9.below hB.out hb
      have k0 := h9'.k0
      have k1 := h9'.k1
      have k2 := h9'.k2
      have k3 := h9'.k3
      have k4 := h9'.k4
      have k5 := h9'.k5
      have k6 := h9'.k6
      have k7 := h9'.k7
      have k8 := h9'.k8
      simp only at k0 k1 k2 k3 k4 k5 k6 k7 k8
      obtain ⟨wb, hwb⟩ : ∃ wb, wb = wr.alloc (.cells #[.int .i64 ((i : Int) + 1), .int .i64 xk, .int .i64 xm, .int .i64 xl, .slice ea en ec, .string xt, .slice fa fn fc, .slice ga gn gc, .slice ha hn' hc'] 46) := ⟨_, rfl⟩
      have bb : Below wr.heap.size wr wb := by rw [hwb]; exact (Below.refl _ wr).alloc (Nat.le_refl _) _
      have BB := Lib.hid (below_chain hB.out bb)
      have g0 : wb.cell? ⟨0, 0, none⟩ = some (.iface 242 (.pointer (some a))) := HS.out.below BB.out
      have keyA : keyOf Tryz.prog 3 (.int .i64 ((i : Int) + 1)) = some (.int .i64 ((i : Int) + 1)) := keyOf_int_mk Tryz.underlying3 (WalkArith.wf_i64 (by omega))
      obtain ⟨cc, hrun, hat, _⟩ := (OW.out.kept (grown_below BB.out none) (by simp)).lookup_int law3 Tryz.underlying71 Tryz.underlying3 (zero3 _) keyA
      have hcc : cc = (m ((i : Int) + 1) : Int) := by
        rw [HM.out] at hat
        exact (Lit.int.inj (DataW.lit.inj hat)).2.symm
      have HC := Lib.hid hcc
      rw [hwb] at g0 hrun BB
      clear hb h9 h9' hv hx bb hB hat hcc hwb
      have hkk : ((xk == 2) = true ∧ xk = 2) ∨ ((xk == 2) = false ∧ xk ≠ 2) := by
        by_cases h2 : xk = 2
        · exact .inl ⟨by simp [h2], h2⟩
        · exact .inr ⟨by simp [h2], h2⟩
      rcases hkk with ⟨t0, hk2⟩ | ⟨t0, hk2⟩
      · have HK2 : Hid (xk = 2) := hk2
        clear hk2
        by_cases e1 : xl < 1
        · have t1 : decide (xl < 1) = true := by simp; omega
          have NO : Hid (¬ OkLinks l m) := (fun ho => by have h1 := ho i _ HX.out; simp only [HK2.out, if_true] at h1; have := HC.out; omega)
          clear e1
          go_wp2_with fail
          go_ret
          exact ⟨BB.out, _, rfl, .inr ⟨NO.out, .inl ⟨_, rfl⟩⟩⟩
        have t1 : decide (xl < 1) = false := by simp; omega
        by_cases e2 : 1 < xl
        · have t2 : decide (1 < xl) = true := by simp; omega
          have NO : Hid (¬ OkLinks l m) := (fun ho => by have h1 := ho i _ HX.out; simp only [HK2.out, if_true] at h1; have := HC.out; omega)
          clear e1 e2
          go_wp2_with fail
          go_ret
          exact ⟨BB.out, _, rfl, .inr ⟨NO.out, .inl ⟨_, rfl⟩⟩⟩
        have t2 : decide (1 < xl) = false := by simp; omega
        by_cases e3 : xl = cc
        rotate_left
        · have t3 : (xl != cc) = true := by simp; omega
          have t4 : (xl == cc) = false := by simp; omega
          have NO : Hid (¬ OkLinks l m) := (fun ho => by have h1 := ho i _ HX.out; simp only [HK2.out, if_true] at h1; have := HC.out; omega)
          clear e1 e2 e3
          go_wp2_with fail
          go_ret
          exact ⟨BB.out, _, rfl, .inr ⟨NO.out, .inl ⟨_, rfl⟩⟩⟩
        have t3 : (xl != cc) = false := by simp; omega
        have t4 : (xl == cc) = true := by simp; omega
        have OKX : Hid (1 ≤ xl ∧ xl ≤ 1 ∧ xl = (m ((i : Int) + 1) : Int)) := ⟨by omega, by omega, by rw [e3]; exact HC.out⟩
        clear e1 e2 e3
        go_wp2_with fail
        go_roundw
        case rel => exact ⟨i + 1, by omega, by go_num, BB.out, (fun j x hj hx => by
          rcases Nat.lt_or_ge j i with h1 | h1
          · exact hO.out j x h1 hx
          · obtain rfl : j = i := by omega
            rw [HX.out] at hx
            injection hx with hx
            rw [← hx]
            obtain ⟨o1, o2, o3⟩ := OKX.out
            refine ⟨o1, ?_, o3⟩
            simp only [HK2.out, if_true]
            exact o2 : ∀ (j : Nat) (x : InoP), j < i + 1 → l[j]? = some x → 1 ≤ x.links ∧ x.links ≤ (if x.kind = 2 then 1 else 64) ∧ x.links = (m ((j : Int) + 1) : Int))⟩
        case measure => simp [RowKit.intOf]; omega
      · have HK2 : Hid (xk ≠ 2) := hk2
        clear hk2
        by_cases e1 : xl < 1
        · have t1 : decide (xl < 1) = true := by simp; omega
          have NO : Hid (¬ OkLinks l m) := (fun ho => by have h1 := ho i _ HX.out; simp only [if_neg HK2.out] at h1; have := HC.out; omega)
          clear e1
          go_wp2_with fail
          go_ret
          exact ⟨BB.out, _, rfl, .inr ⟨NO.out, .inl ⟨_, rfl⟩⟩⟩
        have t1 : decide (xl < 1) = false := by simp; omega
        by_cases e2 : 64 < xl
        · have t2 : decide (64 < xl) = true := by simp; omega
          have NO : Hid (¬ OkLinks l m) := (fun ho => by have h1 := ho i _ HX.out; simp only [if_neg HK2.out] at h1; have := HC.out; omega)
          clear e1 e2
          go_wp2_with fail
          go_ret
          exact ⟨BB.out, _, rfl, .inr ⟨NO.out, .inl ⟨_, rfl⟩⟩⟩
        have t2 : decide (64 < xl) = false := by simp; omega
        by_cases e3 : xl = cc
        rotate_left
        · have t3 : (xl != cc) = true := by simp; omega
          have t4 : (xl == cc) = false := by simp; omega
          have NO : Hid (¬ OkLinks l m) := (fun ho => by have h1 := ho i _ HX.out; simp only [if_neg HK2.out] at h1; have := HC.out; omega)
          clear e1 e2 e3
          go_wp2_with fail
          go_ret
          exact ⟨BB.out, _, rfl, .inr ⟨NO.out, .inl ⟨_, rfl⟩⟩⟩
        have t3 : (xl != cc) = false := by simp; omega
        have t4 : (xl == cc) = true := by simp; omega
        have OKX : Hid (1 ≤ xl ∧ xl ≤ 64 ∧ xl = (m ((i : Int) + 1) : Int)) := ⟨by omega, by omega, by rw [e3]; exact HC.out⟩
        clear e1 e2 e3
        go_wp2_with fail
        go_roundw
        case rel => exact ⟨i + 1, by omega, by go_num, BB.out, (fun j x hj hx => by
          rcases Nat.lt_or_ge j i with h1 | h1
          · exact hO.out j x h1 hx
          · obtain rfl : j = i := by omega
            rw [HX.out] at hx
            injection hx with hx
            rw [← hx]
            obtain ⟨o1, o2, o3⟩ := OKX.out
            refine ⟨o1, ?_, o3⟩
            simp only [if_neg HK2.out]
            exact o2 : ∀ (j : Nat) (x : InoP), j < i + 1 → l[j]? = some x → 1 ≤ x.links ∧ x.links ≤ (if x.kind = 2 then 1 else 64) ∧ x.links = (m ((j : Int) + 1) : Int))⟩
        case measure => simp [RowKit.intOf]; omega
    · obtain rfl : i = n := by omega
      have OK : Hid (OkLinks l m) := fun j x hx => hO.out j x (by have := (List.getElem?_eq_some_iff.1 hx).1; have := HL.out; omega) hx
      go_wp2_with fail
      go_ret
      exact ⟨hB.out, _, rfl, .inl ⟨OK.out, rfl⟩⟩
end Go.Proofs.YtojhlhpbhoeplaaGreatDoor.Lw
namespace Go.Proofs.YtojhlhpbhoeplaaGreatDoor.Lw
open Go.RowKit Go.Lib Go.Proofs.YtojhlhpbhoeplaaGreatDoor.Sh Go.Proofs.YtojhlhpbhoeplaaGreatDoor.Lb Go.Maps

set_option maxHeartbeats 8000000 in
set_option maxRecDepth 100000 in
theorem check_any (a : Addr) (ao : Option Addr) (l : List InoP) (n c : Nat) (next : Int) (w : World) (he : Env w a) (h : Irw w ao l) (hl : l.length = n) (hc : n ≤ c) (hcc : c ≤ 9223372036854775807) :
    Calls Tryz.prog 20 #[.agg #[.slice ao n c, .int .i64 next]] w (Chk w a (OkFs ltB nameOk l next)) := by
  obtain ⟨w1, hw1⟩ : ∃ w1, w1 = w.alloc (.cells #[.slice ao n c, .int .i64 next] 26) := ⟨_, rfl⟩
  have b1 : Below w.heap.size w w1 := by rw [hw1]; exact (Below.refl _ w).alloc (Nat.le_refl _) _
  have x1 : Sh.Blk w1 w.heap.size [.slice ao n c, .int .i64 next] 26 := by rw [hw1]; exact Sh.Blk.new w [.slice ao n c, .int .i64 next] 26 _ rfl
  have E1 := Lib.hid (he.below b1)
  have I1 := Lib.hid (h.below b1)
  have HL := Lib.hid hl
  have B1 := Lib.hid b1
  have X1 := Lib.hid x1
  have HW1 := Lib.hid hw1
  have C := Lib.hid (checkinodes_any a ao l n c next w1 E1.out I1.out hl hc hcc)
  clear he h hl b1 x1 hw1
  go_enter Tryz.func20, Tryz.ntmps20
  go_wp2_with fail
  rw [← HW1.out]
  refine C.out.mono ?_
  clear C HW1
  rintro e w2 ⟨hb, v, rfl, hv⟩
  have E2 := Lib.hid (E1.out.below hb)
  have I2 := Lib.hid (I1.out.below hb)
  have B2 := Lib.hid (below_chain B1.out hb)
  have X2 := Lib.hid (X1.out.low hb)
  clear hb E1 I1 B1 X1
  rcases hv with ⟨hok, rfl⟩ | ⟨hno, hfl⟩
  rotate_left
  · obtain ⟨x, rfl⟩ := flaw_iface hfl
    have NO : Hid (¬ OkFs ltB nameOk l next) := fun ho => hno ho.1
    have FL := Lib.hid hfl
    clear hno hfl
    go_wp2_with fail
    go_ret
    exact ⟨B2.out, _, rfl, .inr ⟨NO.out, FL.out⟩⟩
  have OK := Lib.hid hok
  have k0 := X2.out.cell 0
  simp only [List.getElem?_cons_zero] at k0
  have CM : Hid (∀ W, Below w2.heap.size w2 W → Calls Tryz.prog 36 #[.slice ao n c] W (MeetA l W)) := fun W hW => meet_any ao l n c W (I2.out.below hW) HL.out hc hcc (meetOk_of hok)
  have CL : Hid (∀ W mb m (C : DataW Unit) cnt, Below w2.heap.size w2 W → MapM C m → W.ownsMap Tryz.prog 3 (plainElem Tryz.prog 3) mb cnt C → Calls Tryz.prog 37 #[.slice ao n c, .map (some mb)] W (Chk W a (OkLinks l m))) := fun W mb m C cnt hW hM hown =>
    checklinks_any a ao l n c mb cnt C m W (E2.out.below hW).sen (I2.out.below hW) HL.out (by have := hok.most; have := HL.out; omega) hM hown (fun i x hx => (hok.each i x hx).1)
  have BQ := Lib.hid (Below.refl w2.heap.size w2).drew
  clear hok
  go_wp2_with fail
  go_region_held3 (fun w' => w'.cell? ⟨w.heap.size, 0, none⟩ = some (.slice ao n c))
    (first | go_keep | exact k0 | exact k5 | exact k6)
    ((first
      | (go_at_call 36; (with_reducible refine (CM.out _ BQ.out).mono ?_); rintro e w5 ⟨b5, mb, m, C, cnt, rfl, hm, hM, hown, hmb⟩; have k5 := ((X2.out.drew).low b5).cell 0; simp only [List.getElem?_cons_zero] at k5)
      | (go_at_call 37; (with_reducible refine (CL.out _ mb m C cnt (below_chain BQ.out b5) hM hown).mono ?_); rintro e w6 ⟨b6, v, rfl, hv⟩; have k6 := (((X2.out.drew).low b5).low b6).cell 0; simp only [List.getElem?_cons_zero] at k6)))
  have B6 := Lib.hid (below_chain B2.out (below_chain BQ.out (below_chain b5 b6)))
  have FIN : Hid (ErrV a (OkFs ltB nameOk l next) v) := by
    rcases hv with ⟨h1, h2⟩ | ⟨h1, h2⟩
    · exact .inl ⟨⟨OK.out, m, hm, h1⟩, h2⟩
    · refine .inr ⟨fun ho => h1 ?_, h2⟩
      obtain ⟨_, m', hm', ho'⟩ := ho
      rw [meets_unique _ hm hm']
      exact ho'
  clear hv hm hM hown b5 b6
  go_wp2_with fail
  go_ret
  exact ⟨B6.out, _, rfl, FIN.out⟩
set_option maxHeartbeats 2000000 in
theorem checkfs_any (a : Addr) (ao : Option Addr) (l : List InoP) (n c : Nat) (next : Int) (w : World) (he : Env w a) (h : Irw w ao l) (hl : l.length = n) (hc : n ≤ c) (hcc : c ≤ 9223372036854775807) :
    Calls Tryz.prog 12 #[.agg #[.slice ao n c, .int .i64 next]] w fun e w' => Below w.heap.size w w' ∧ ∃ b : Bool, e = .returned (.bool b) ∧ (b = true ↔ OkFs ltB nameOk l next) := by
  obtain ⟨w1, hw1⟩ : ∃ w1, w1 = w.alloc (.cells #[.slice ao n c, .int .i64 next] 26) := ⟨_, rfl⟩
  have b1 : Below w.heap.size w w1 := by rw [hw1]; exact (Below.refl _ w).alloc (Nat.le_refl _) _
  have E1 := Lib.hid (he.below b1)
  have B1 := Lib.hid b1
  have HW1 := Lib.hid hw1
  have C := Lib.hid (check_any a ao l n c next w1 E1.out (h.below b1) hl hc hcc)
  clear he h hl b1 hw1
  go_enter Tryz.func12, Tryz.ntmps12
  go_wp2_with fail
  rw [← HW1.out]
  refine C.out.mono ?_
  clear C HW1
  rintro e w2 ⟨hb, v, rfl, hv⟩
  have E2 := Lib.hid (E1.out.below hb)
  have B2 := Lib.hid (below_chain B1.out hb)
  clear hb E1 B1
  rcases hv with ⟨hok, rfl⟩ | ⟨hno, hfl⟩
  · have OK := Lib.hid hok
    have C2 := Lib.hid (errno_ok .nilIface a w2 E2.out.sen rfl)
    clear hok
    go_wp2_with fail
    refine C2.out.mono ?_
    rintro e w3 ⟨rfl, rfl⟩
    go_wp2_with fail
    go_ret
    exact ⟨B2.out, _, rfl, ⟨fun _ => OK.out, fun _ => rfl⟩⟩
  · have NO := Lib.hid hno
    have C2 := Lib.hid (errno_no v a w2 E2.out.sen hfl)
    clear hno hfl
    go_wp2_with fail
    refine C2.out.mono ?_
    rintro e w3 ⟨rfl, hb⟩
    have B3 := Lib.hid (below_chain B2.out hb)
    clear hb
    go_wp2_with fail
    go_ret
    exact ⟨B3.out, _, rfl, ⟨fun h => by simp at h, fun h => absurd h NO.out⟩⟩
end Go.Proofs.YtojhlhpbhoeplaaGreatDoor.Lw
namespace Go.Proofs.YtojhlhpbhoeplaaGreatDoor.Lw
open Go.RowKit Go.Lib Go.Proofs.YtojhlhpbhoeplaaGreatDoor.Sh Go.Proofs.YtojhlhpbhoeplaaGreatDoor.Lb

/-- a row of bytes that may be appended to: one of the call's own, or one that is full -/
def RowB (w : World) (B : Nat) (v : Value) (L : List UInt8) : Prop :=
  Own w B v L ∨ ∃ g cur fr, v = .slice (some ⟨g, 0, none⟩) L.length L.length ∧ B ≤ g ∧ w.heap[g]? = some (.cells cur 5 fr) ∧ L ≠ [] ∧ Byt w (some ⟨g, 0, none⟩) L
theorem RowB.alloc {w : World} {B : Nat} {v : Value} {L : List UInt8} (h : RowB w B v L) (o : Obj) : RowB (w.alloc o) B v L := by
  rcases h with h | ⟨g, cur, fr, h1, h2, h3, h4, h5⟩
  · exact .inl (World.ownsRow.alloc h o)
  · exact .inr ⟨g, cur, fr, h1, h2, (Below.heap_alloc w o g (Array.getElem?_eq_some_iff.1 h3).1).trans h3, h4, h5.below ((Below.refl _ w).alloc (Nat.le_refl _) o)⟩
/-- what its block is -/
theorem RowB.block {w : World} {B : Nat} {v : Value} {L : List UInt8} (h : RowB w B v L) : ∀ k, v.ownBlock = some k → B ≤ k ∧ ∃ cur fr, w.heap[k]? = some (.cells cur 5 fr) := fun k hk => by
  rcases h with ⟨_, ⟨rfl, _⟩ | ⟨g, cap, cur, rfl, hB, hg, _⟩⟩ | ⟨g, cur, fr, rfl, h2, h3, _⟩
  · cases hk
  · injection hk with hk
    subst hk
    exact ⟨hB, cur, _, hg⟩
  · injection hk with hk
    subst hk
    exact ⟨h2, cur, fr, h3⟩
set_option maxRecDepth 100000 in
theorem step_appB {w : World} {ops : Array Oper} {o : Oper} {a : Act} {K : Act → World → Prop} {Q : Exit → Act → World → Prop} {E : Prop} (hgd : o.guard = none) (s x : Operand)
    (ho : o.op = .call { callee := .builtin .append, args := #[s, x], argTypes := #[22, 22] })
    (B : Nat) (v : Value) (L l : List UInt8) (hs : a.eval s = v) (hrow : RowB w B v L)
    (ad : Addr) (n c : Nat) (hx : a.eval x = .slice (some ad) n c) (hr : Byt w (some ad) l) (hn : l.length = n) (h0 : 0 < n)
    (h47 : L.length + n ≤ 140737488355328) (hB : B ≤ w.heap.size)
    (h : ∀ v' w', Own w' B v' (L ++ l) → w.grownBy w' v.ownBlock → K (a.put o.dst v') w') :
    if Region.wanted o (yielded ops a.tmps) = true then Oper.wp Tryz.prog o a w K Q else E := by
  have hw : Region.wanted o (yielded ops a.tmps) = true := by simp [Region.wanted, hgd]
  rw [if_pos hw]
  obtain ⟨i0, hi, hz0, hz1, hz2⟩ := info_parts info5
  have hnews : ∀ j u, (bs l)[j]? = some u → w.cell? (ad.add j) = some u := fun j u hj => by
    have hjl : j < l.length := by
      have := (List.getElem?_eq_some_iff.1 hj).1
      simpa [bs] using this
    obtain ⟨b, o', h0', _, hcell⟩ := hr (by intro h0; rw [h0] at hjl; simp at hjl)
    injection h0' with h0'
    subst h0'
    rw [WideShapes.add_plain, hcell j hjl]
    rw [bs_get l j hjl] at hj
    exact hj
  have main : ∃ v' w', (Builtin.append_ #[22, 22] o.type #[v, .slice (some ad) n c]).run Tryz.prog w = .ok v' w' ∧ Own w' B v' (L ++ l) ∧ w.grownBy w' v.ownBlock := by
    rcases hrow with hown | ⟨g, cur, fr, rfl, hg, hgh, hne, hby⟩
    · obtain ⟨v', w', hr, h2, h3, _⟩ := run_append_own (P := Tryz.prog) w B 22 o.type 5 i0 (.int .u8 0) 1 1 Tryz.underlying22 hi hz0 hz1 hz2 rfl (by decide) v L.length (bs L) hown ad n c (bs l) (by rw [bs_len, hn, Nat.mul_one]) hnews (bs_one l) (by unfold maxLen; omega) (by omega) hB
      exact ⟨v', w', hr, by show World.ownsRow _ _ _ _ _ _ _; rw [List.length_append, bs_app, hn]; exact h2, h3⟩
    · obtain ⟨v', w', hr, h2, h3⟩ := run_append_arg_grows (P := Tryz.prog) w 22 o.type 5 i0 (.int .u8 0) 1 1 Tryz.underlying22 hi hz0 hz1 hz2 rfl (by decide) ⟨g, 0, none⟩ L.length L.length (bs L) (by rw [bs_len, Nat.mul_one]) (fun j u hj => by
          have hjl : j < L.length := by
            have := (List.getElem?_eq_some_iff.1 hj).1
            simpa [bs] using this
          obtain ⟨b, o', h0', _, hcell⟩ := hby hne
          injection h0' with h0'
          injection h0' with e1 e2 _
          subst e1
          subst e2
          rw [WideShapes.add_plain, hcell j hjl]
          rw [bs_get L j hjl] at hj
          exact hj) ad n c (bs l) (by rw [bs_len, hn, Nat.mul_one]) hnews (by omega) (by unfold maxLen; omega) (by omega)
      exact ⟨v', w', hr, by show World.ownsRow _ _ _ _ _ _ _; rw [List.length_append, bs_app, hn]; exact World.ownsRow.mono h2 hB, ⟨h3.os, h3.tape, h3.output, h3.size, fun k hk _ => h3.block k hk (by simp)⟩⟩
  obtain ⟨v', w', hr, h2, h3⟩ := main
  unfold Oper.wp execOp
  simp only [ho, resolve, invoke, builtin, Sem.run_bind, Sem.run_pure, Result.andThen_ok, List.map_toArray, List.map_cons, List.map_nil, hs, hx, hr]
  exact h v' w' h2 h3
/-- what is kept while the image grows: all but its cell and rows of bytes of the call's own -/
structure Kp (B ob : Nat) (w w' : World) : Prop where
  os : w'.os = w.os
  tape : w'.tape = w.tape
  output : w'.output = w.output
  size : w.heap.size ≤ w'.heap.size
  block : ∀ k, k < w.heap.size → (k < B ∨ (k ≠ ob ∧ ∀ cur fr, w.heap[k]? ≠ some (.cells cur 5 fr))) → w'.heap[k]? = w.heap[k]?
theorem Kp.refl (B ob : Nat) (w : World) : Kp B ob w w := ⟨rfl, rfl, rfl, Nat.le_refl _, fun _ _ _ => rfl⟩
theorem Kp.trans {B ob : Nat} {a b c : World} (h : Kp B ob a b) (k : Kp B ob b c) : Kp B ob a c :=
  ⟨k.os.trans h.os, k.tape.trans h.tape, k.output.trans h.output, Nat.le_trans h.size k.size, fun j hj hc => by
    have e := h.block j hj hc
    refine (k.block j (Nat.lt_of_lt_of_le hj h.size) ?_).trans e
    rcases hc with hc | ⟨h1, h2⟩
    · exact .inl hc
    · exact .inr ⟨h1, by rw [e]; exact h2⟩⟩
theorem Kp.of_below {B ob : Nat} {w w' : World} (h : Below w.heap.size w w') : Kp B ob w w' := ⟨h.os, h.tape, h.output, h.size, fun k hk _ => h.block k hk⟩
theorem Kp.of_row {B ob : Nat} {w w' : World} {v : Value} {L : List UInt8} (hr : RowB w B v L) (h : w.grownBy w' v.ownBlock) : Kp B ob w w' :=
  ⟨h.os, h.tape, h.output, h.size, fun k hk hc => h.block k hk (fun e => by
    obtain ⟨h1, cur, fr, h2⟩ := hr.block k e.symm
    rcases hc with hc | ⟨_, hc⟩
    · omega
    · exact hc cur fr h2)⟩
theorem Kp.set {B ob : Nat} {w : World} (hB : B ≤ ob) (v : Value) : Kp B ob w (w.setCell ⟨ob, 0, none⟩ v) := by
  have h := grownBy_setCell w ob 0 v
  exact ⟨h.os, h.tape, h.output, h.size, fun k hk hc => h.block k hk (fun e => by
    injection e with e
    rcases hc with hc | ⟨hc, _⟩
    · omega
    · exact hc e)⟩
theorem RowB.ne {w : World} {B : Nat} {v : Value} {L : List UInt8} (h : RowB w B v L) {g : Nat} {cs : List Value} {t : TypeId} (hb : Sh.Blk w g cs t) (ht : t ≠ 5) : some g ≠ v.ownBlock := fun e => by
  obtain ⟨_, cur, fr, h2⟩ := h.block g e.symm
  have hb' : w.heap[g]? = _ := hb
  rw [hb'] at h2
  injection h2 with h2
  injection h2 with _ h2 _
  exact ht h2
theorem RowB.low {w w' : World} {B : Nat} {v : Value} {L : List UInt8} (h : RowB w B v L) (hb : Below w.heap.size w w') : RowB w' B v L := by
  rcases h with h | ⟨g, cur, fr, h1, h2, h3, h4, h5⟩
  · exact .inl (h.below hb)
  · exact .inr ⟨g, cur, fr, h1, h2, (hb.block g (Array.getElem?_eq_some_iff.1 h3).1).trans h3, h4, h5.below hb⟩
theorem of_drew_below {w w' : World} {B : Nat} (h : Below B w.drew w') : Below B w w' := ⟨h.os, h.tape, h.output, h.size, h.block⟩
theorem own_set {w : World} {B ob : Nat} {v u : Value} {L : List UInt8} (h : Own w B v L) {cs : List Value} {t : TypeId} (hb : Sh.Blk w ob cs t) (ht : t ≠ 5) : Own (w.setCell ⟨ob, 0, none⟩ u) B v L :=
  World.ownsRow.kept h (grownBy_setCell w ob 0 u) (.inr fun e => (RowB.ne (L := L) (B := B) (.inl h) hb ht) e.symm)
theorem gb_of_drew {w w' : World} {k : Option Nat} (h : w.drew.grownBy w' k) : w.grownBy w' k := ⟨h.os, h.tape, h.output, h.size, h.block⟩
theorem Kp.below {B ob : Nat} {w w' : World} (h : Kp B ob w w') (hB : B ≤ w.heap.size) : Below B w w' := ⟨h.os, h.tape, h.output, h.size, fun k hk => h.block k (by omega) (.inl hk)⟩
theorem Kp.blk {B ob : Nat} {w w' : World} (h : Kp B ob w w') {g : Nat} {cs : List Value} {t : TypeId} (hb : Sh.Blk w g cs t) (hg : g ≠ ob) (ht : t ≠ 5) : Sh.Blk w' g cs t :=
  (h.block g hb.lt (.inr ⟨hg, fun cur fr e => by
    have hb' : w.heap[g]? = _ := hb
    rw [hb'] at e
    injection e with e
    injection e with _ e _
    exact ht e⟩)).trans hb
/-- the image on its way -/
structure Out (w : World) (ob B : Nat) (L : List UInt8) : Prop where
  cell : ∃ v, Sh.Blk w ob [v] 22 ∧ RowB w B v L
  low : B ≤ ob
/-- the same, once something was appended -/
structure OutO (w : World) (ob B : Nat) (L : List UInt8) : Prop where
  cell : ∃ v, Sh.Blk w ob [v] 22 ∧ Own w B v L
  low : B ≤ ob
theorem OutO.to {w : World} {ob B : Nat} {L : List UInt8} (h : OutO w ob B L) : Out w ob B L := by
  obtain ⟨⟨v, h1, h2⟩, h3⟩ := h
  exact ⟨⟨v, h1, .inl h2⟩, h3⟩
theorem OutO.kept {w w' : World} {ob B : Nat} {L : List UInt8} (h : OutO w ob B L) (hb : Below w.heap.size w w') : OutO w' ob B L := by
  obtain ⟨⟨v, h1, h2⟩, h3⟩ := h
  exact ⟨⟨v, h1.low hb, h2.below hb⟩, h3⟩
/-- what a closure leaves -/
def OutP (w : World) (ob B : Nat) (L : List UInt8) (e : Ending) (w' : World) : Prop := e = .returned (.tuple #[]) ∧ OutO w' ob B L ∧ Kp B ob w w'
set_option maxHeartbeats 4000000 in
set_option maxRecDepth 100000 in
theorem number_out (x : Int) (ob B : Nat) (L : List UInt8) (w : World) (h : Out w ob B L) (h0 : 0 ≤ x) (h1 : x < 9223372036854775808) (h47 : L.length + 10 ≤ 140737488355328) :
    Calls Tryz.prog 39 #[.int .i64 x, .pointer (some ⟨ob, 0, none⟩)] w (OutP w ob B (L ++ numL x)) := by
  obtain ⟨⟨v, hb, hr⟩, hlow⟩ := h
  obtain ⟨n, rfl⟩ : ∃ n : Nat, x = (n : Int) := ⟨x.toNat, by omega⟩
  have e1 : IntKind.u64.wrap (n : Int) = (n : Int) := by rw [IntKind.wrap]; simp [IntKind.bits, IntKind.signed]; omega
  have hpl := putL_len n
  have hnum : numL (n : Int) = putL n := by rw [numL, Int.toNat_natCast]
  rw [hnum]
  have CP : Hid (∀ W, Calls Tryz.prog 40 #[.int .u64 (n : Int)] W fun e w' => e = .returned (.slice (some ⟨W.heap.size, 0, none⟩) (putL n).length (putL n).length) ∧ W.alloc (.cells (bs (putL n)).toArray 5) = w') := fun W => put_any n (by omega) W
  have BY : Hid (Byt (w.alloc (.cells (bs (putL n)).toArray 5)) (some ⟨w.heap.size, 0, none⟩) (putL n)) := byt_lit w (putL n) _ rfl
  obtain ⟨p, hp⟩ : ∃ p, p = putL n := ⟨_, rfl⟩
  rw [← hp] at CP BY hpl ⊢
  obtain ⟨pn, hpn⟩ : ∃ pn, pn = p.length := ⟨_, rfl⟩
  have PN := Lib.hid hpn.symm
  rw [← hpn] at CP hpl
  have RR := Lib.hid (hr.alloc (.cells (bs p).toArray 5))
  have HB := Lib.hid hb
  have c0 := hb.cell 0
  have f0 := hb.frozen 0
  have c1 := (hb.alloc (.cells (bs p).toArray 5)).cell 0
  have f1 := (hb.alloc (.cells (bs p).toArray 5)).frozen 0
  simp only [List.getElem?_cons_zero] at c0 c1
  have hlt := hb.lt
  have hB : Hid (B ≤ (w.alloc (.cells (bs p).toArray 5)).heap.size) := by show B ≤ _; simp; omega
  have P0 : Hid (0 < pn) := by show 0 < pn; omega
  have P1 : Hid (L.length + pn ≤ 140737488355328) := by show _ ≤ _; omega
  have HLOW := Lib.hid hlow
  clear hb hr hp hpn hnum h0 h1 h47 hpl
  go_enter Tryz.func39, Tryz.ntmps39
  go_wp2_with fail
  go_region_law (first
    | (go_simp; go_at_call 40; (with_reducible refine (CP.out _).mono ?_); rintro e w2 ⟨rfl, rfl⟩)
    | (refine step_appB rfl (.tmp 3) (.tmp 6) rfl B v L p (by simp [Act.eval]) RR.out ⟨w.heap.size, 0, none⟩ pn pn (by simp [Act.eval]) BY.out PN.out P0.out P1.out hB.out ?_
       intro v' w3 hown hgrow0
       have hgrow := gb_of_drew hgrow0
       obtain ⟨a3, q3, hv3⟩ := own_len (show w3.ownsRow B 5 1 v' (L ++ p).length (bs (L ++ p)) from hown)
       obtain ⟨n3, hn3⟩ : ∃ n, n = (L ++ p).length := ⟨_, rfl⟩
       rw [← hn3] at hv3
       clear hn3
       subst hv3
       have K3 := Lib.hid (Kp.of_row (ob := ob) RR.out hgrow)
       have BX := Lib.hid (blk_row (HB.out.alloc _) hgrow (RR.out.ne (HB.out.alloc _) (by decide)))
       have OX := Lib.hid hown
       have d0 := BX.out.cell 0
       have g0 := BX.out.frozen 0
       simp only [List.getElem?_cons_zero] at d0
       clear hown hgrow hgrow0))
  all_goals
    go_wp2_with fail
    exact ⟨rfl, _, results_none rfl _ _ _, rfl, ⟨⟨_, BX.out.set 0 _, own_set OX.out BX.out (by decide)⟩, HLOW.out⟩, ((Kp.of_below ((Below.refl _ w).alloc (Nat.le_refl _) _)).trans K3.out).trans (Kp.set HLOW.out _)⟩
set_option maxHeartbeats 4000000 in
set_option maxRecDepth 100000 in
theorem counted_out (ao : Option Addr) (l : List UInt8) (m c : Nat) (ob B : Nat) (L : List UInt8) (w : World) (h : Out w ob B L) (hl : Byt w ao l) (hn : ao = none → c = 0) (hm : l.length = m) (h47 : L.length + m + 10 ≤ 140737488355318) (hB : B ≤ w.heap.size) :
    Calls Tryz.prog 41 #[.slice ao m c, .pointer (some ⟨ob, 0, none⟩)] w (OutP w ob B (L ++ dataL l)) := by
  obtain ⟨⟨v, hb, hr⟩, hlow⟩ := h
  have hlen := bytL_len l
  have CP : Hid (∀ W, Below w.heap.size w W → Calls Tryz.prog 42 #[.slice ao m c] W fun e w' => Below W.heap.size W w' ∧ ∃ v, e = .returned v ∧ Own w' W.heap.size v (dataL l)) := fun W hW => by
    have h := bytes_any ao l c W (hl.below hW) hn (by omega)
    rw [hm] at h
    exact h
  have hdl : (dataL l).length = (bytL l).length := rfl
  obtain ⟨p, hp⟩ : ∃ p, p = dataL l := ⟨_, rfl⟩
  rw [← hp] at CP hdl ⊢
  have HPL : Hid (0 < p.length ∧ L.length + p.length ≤ 140737488355328) := by constructor <;> omega
  have HB := Lib.hid hb
  have HR := Lib.hid hr
  have BQ := Lib.hid (Below.refl w.heap.size w).drew
  have c0 := hb.cell 0
  have f0 := hb.frozen 0
  simp only [List.getElem?_cons_zero] at c0
  have hlt := hb.lt
  have HBB := Lib.hid hB
  have HLOW := Lib.hid hlow
  clear hb hr hp hl hn hm h47 hlen hdl hlow hB
  go_enter Tryz.func41, Tryz.ntmps41
  go_wp2_with fail
  go_region_law (first
    | (go_simp; go_at_call 42; (with_reducible refine (CP.out _ BQ.out).mono ?_); rintro e w2 ⟨hb2, v2, rfl, ho2⟩
       have b2 := of_drew_below hb2
       obtain ⟨a2, c2, hv2, _, _, by2, _⟩ := own_byt (show w2.ownsRow w.heap.size 5 1 v2 p.length (bs p) from ho2)
       have BY2 := Lib.hid by2
       obtain ⟨ad, had⟩ : ∃ ad, a2 = some ad := by
         obtain ⟨b9, o9, h9, _⟩ := by2 (fun h0 => by have := HPL.out.1; rw [h0] at this; simp at this)
         exact ⟨_, h9⟩
       subst had
       obtain ⟨pn, hpn⟩ : ∃ pn, pn = p.length := ⟨_, rfl⟩
       rw [← hpn] at hv2
       have PN := Lib.hid hpn.symm
       clear hpn
       subst hv2
       have HB2 := Lib.hid (HB.out.low b2)
       have HR2 := Lib.hid (RowB.low HR.out b2)
       have BB2 := Lib.hid b2
       have cx := HB2.out.cell 0
       have fx := HB2.out.frozen 0
       simp only [List.getElem?_cons_zero] at cx
       have SZ := Lib.hid (Nat.le_trans HBB.out b2.size)
       clear hb2 b2 ho2 by2)
    | (refine step_appB rfl (.tmp 3) (.tmp 5) rfl B v L p (by simp [Act.eval]) HR2.out ad pn c2 (by simp [Act.eval]) BY2.out PN.out (by have := HPL.out.1; have := PN.out; omega) (by have := HPL.out.2; have := PN.out; omega) SZ.out ?_
       intro v' w3 hown hgrow
       obtain ⟨a3, q3, hv3⟩ := own_len (show w3.ownsRow B 5 1 v' (L ++ p).length (bs (L ++ p)) from hown)
       obtain ⟨n3, hn3⟩ : ∃ n, n = (L ++ p).length := ⟨_, rfl⟩
       rw [← hn3] at hv3
       clear hn3
       subst hv3
       have K3 := Lib.hid (Kp.of_row (ob := ob) HR2.out hgrow)
       have BX := Lib.hid (blk_row HB2.out hgrow (HR2.out.ne HB2.out (by decide)))
       have OX := Lib.hid hown
       have d0 := BX.out.cell 0
       have g0 := BX.out.frozen 0
       simp only [List.getElem?_cons_zero] at d0
       clear hown hgrow))
  all_goals
    go_wp2_with fail
    exact ⟨rfl, _, results_none rfl _ _ _, rfl, ⟨⟨_, BX.out.set 0 _, own_set OX.out BX.out (by decide)⟩, HLOW.out⟩, ((Kp.of_below BB2.out).trans K3.out).trans (Kp.set HLOW.out _)⟩
end Go.Proofs.YtojhlhpbhoeplaaGreatDoor.Lw
namespace Go.Proofs.YtojhlhpbhoeplaaGreatDoor.Lw
open Go.RowKit Go.Lib Go.Proofs.YtojhlhpbhoeplaaGreatDoor.Sh Go.Proofs.YtojhlhpbhoeplaaGreatDoor.Lb

theorem enters39 (args : Array Value) (w : World) : (callFunc 39 args).run Tryz.prog w = .ok (.enter 39 args) w := by kernel_rfl
theorem enters41 (args : Array Value) (w : World) : (callFunc 41 args).run Tryz.prog w = .ok (.enter 41 args) w := by kernel_rfl
theorem enters43 (args : Array Value) (w : World) : (callFunc 43 args).run Tryz.prog w = .ok (.enter 43 args) w := by kernel_rfl
theorem Out.kept {w w' : World} {ob B : Nat} {L : List UInt8} (h : Out w ob B L) (hb : Below w.heap.size w w') : Out w' ob B L := by
  obtain ⟨⟨v, h1, h2⟩, h3⟩ := h
  exact ⟨⟨v, h1.low hb, RowB.low h2 hb⟩, h3⟩
/-- the captured function, in its cell -/
def Cnt (w : World) (cb ob : Nat) : Prop := Sh.Blk w cb [.func (.func 41) #[] #[.pointer (some ⟨ob, 0, none⟩)]] 79
set_option maxHeartbeats 2000000 in
set_option maxRecDepth 100000 in
theorem text_out (s : ByteArray) (ob cb B : Nat) (L : List UInt8) (w : World) (h : Out w ob B L) (hc : Cnt w cb ob) (h47 : L.length + s.size + 10 ≤ 140737488355318) (hB : B ≤ w.heap.size) :
    Calls Tryz.prog 43 #[.string s, .pointer (some ⟨cb, 0, none⟩)] w (OutP w ob B (L ++ textL s)) := by
  have hE := enters41
  have hcell : w.cell? ⟨cb, 0, none⟩ = some (.func (.func 41) #[] #[.pointer (some ⟨ob, 0, none⟩)]) := by rw [Sh.Blk.cell hc 0]; rfl
  obtain ⟨c, W, hcv, hW, hr⟩ := conv_text s w
  have es : s.data.toList.length = s.size := Array.length_toList
  rw [es] at hcv
  have C := Lib.hid (counted_out _ s.data.toList s.size c ob B L W (h.kept hW) hr (fun h => by cases h) es h47 (Nat.le_trans hB hW.size))
  have HW := Lib.hid hW
  clear h hc hW hr es h47 hB
  go_enter Tryz.func43, Tryz.ntmps43
  go_wp2_with fail
  refine C.out.mono ?_
  clear C hcv
  rintro e w2 ⟨rfl, ho, hk⟩
  have O2 := Lib.hid ho
  have K2 := Lib.hid ((Kp.of_below HW.out).trans hk)
  clear ho hk
  go_wp2_with fail
  exact ⟨rfl, _, results_none rfl _ _ _, rfl, O2.out, K2.out⟩
/-- how long what is written may be -/
theorem numL_len (x : Int) (h : x < 9223372036854775808) : (numL x).length ≤ 10 := numL_le x h
theorem dataL_len (d : List UInt8) : (dataL d).length ≤ d.length + 10 := (bytL_len d).2
set_option maxRecDepth 100000 in
theorem textL_len (s : ByteArray) : (textL s).length ≤ s.size + 10 := by
  have es : s.data.toList.length = s.size := Array.length_toList
  have := dataL_len s.data.toList
  unfold textL
  omega
set_option maxRecDepth 100000 in
theorem attrs_len {l : List (ByteArray × List UInt8)} (h1 : l.length ≤ 8) (h2 : ∀ a ∈ l, a.2.length ≤ 256) (h3 : ∀ a ∈ l, nameOk a.1) : (l.flatMap attrL).length ≤ 8 * 400 := by
  have := flat_len attrL l 400 fun a ha => by
    have e1 := textL_len a.1
    have e2 := dataL_len a.2
    have e3 := h2 a ha
    have e4 := nameOk_len a.1 (h3 a ha)
    have es : a.1.data.toList.length = a.1.size := Array.length_toList
    unfold attrL
    rw [List.length_append]
    omega
  omega
set_option maxRecDepth 100000 in
theorem names_len {l : List ByteArray} (h1 : l.length ≤ 128) (h3 : ∀ s ∈ l, nameOk s) : (l.flatMap textL).length ≤ 128 * 110 := by
  have := flat_len textL l 110 fun a ha => by
    have e1 := textL_len a
    have e4 := nameOk_len a (h3 a ha)
    have es : a.data.toList.length = a.size := Array.length_toList
    omega
  omega
set_option maxRecDepth 100000 in
theorem nums_len {l : List Int} (h1 : l.length ≤ 128) (h : ∀ z ∈ l, z < 9223372036854775808) : (l.flatMap numL).length ≤ 128 * 10 := by
  have := flat_len numL l 10 fun a ha => numL_len a (h a ha)
  clear h
  omega

set_option maxRecDepth 100000 in
theorem ino_len {n : Nat} {x : InoP} (h : OkIno ltB nameOk n x) : (inoL x).length ≤ 60000 := by
  have hk := h.node.kind
  have hm := h.node.mode
  unfold Sh.within at hk hm
  simp only at hk hm
  have a1 := numL_len x.kind (by omega)
  have a2 := numL_len x.mode (by omega)
  have a3 := textL_len x.target
  have ht : x.target.size ≤ 1000 := by
    have ht := h.node.target
    split at ht
    · exact ht.2.1
    · simp only at ht; rw [ht]; decide
  have a4 := attrs_len (l := x.attrs) h.node.most h.node.values h.node.names
  have a5 := numL_len (x.attrs.length : Int) (by have := h.node.most; simp only at this; omega)
  have a6 : (tailL x.kind (x.data, x.names, x.nums)).length ≤ 50000 := by
    unfold tailL
    simp only
    split
    · have := dataL_len x.data
      have := h.data
      omega
    · split
      · have hs := h.list.same
        have hm := h.most
        simp only at hs
        have b1 := names_len hm h.list.names
        have b2 := nums_len (l := x.nums) (by omega) (fun z hz => by have := h.list.nums z hz; unfold Sh.within at this; omega)
        have b3 := numL_len (x.names.length : Int) (by omega)
        unfold manyL
        rw [List.length_append, List.length_append]
        omega
      · simp
  unfold inoL manyL
  simp only [List.length_append]
  omega
set_option maxRecDepth 100000 in
theorem img_len {l : List InoP} {next : Int} (h : OkInos ltB nameOk l next) : (imgL l).length ≤ 40000000 := by
  have h1 := flat_len inoL l 60000 fun x hx => by
    obtain ⟨i, hi⟩ := List.getElem?_of_mem hx
    exact ino_len (h.each i x hi).2
  have h2 := h.most
  have h3 := numL_len (l.length : Int) (by omega)
  unfold imgL manyL markL
  simp only [List.length_append, List.length_cons, List.length_nil]
  omega
end Go.Proofs.YtojhlhpbhoeplaaGreatDoor.Lw
namespace Go.Proofs.YtojhlhpbhoeplaaGreatDoor.Lw
open Go.RowKit Go.Lib Go.Proofs.YtojhlhpbhoeplaaGreatDoor.Sh Go.Proofs.YtojhlhpbhoeplaaGreatDoor.Lb

/-- what is written when i inodes are -/
def curL (l : List InoP) (i : Nat) : List UInt8 := markL ++ numL (l.length : Int) ++ (l.take i).flatMap inoL
theorem curL_all (l : List InoP) : curL l l.length = imgL l := by simp [curL, imgL, manyL]
theorem curL_more {l : List InoP} {i : Nat} {x : InoP} (h : l[i]? = some x) : curL l (i + 1) = curL l i ++ inoL x := by
  unfold curL
  rw [flatMap_take inoL l i x h, List.append_assoc, List.append_assoc, List.append_assoc]
theorem curL_len {l : List InoP} {next : Int} (h : OkInos ltB nameOk l next) (i : Nat) : (curL l i).length ≤ 40000000 := by
  have h1 := img_len h
  have h2 := flatMap_le inoL l i
  rw [← curL_all] at h1
  unfold curL at h1 ⊢
  rw [List.take_of_length_le (Nat.le_refl _)] at h1
  simp only [List.length_append] at h1 ⊢
  omega
set_option maxHeartbeats 16000000 in
set_option maxRecDepth 100000 in
theorem image_any (ao : Option Addr) (l : List InoP) (n c : Nat) (next : Int) (w : World) (h : Irw w ao l) (hl : l.length = n) (hok : OkInos ltB nameOk l next) :
    Calls Tryz.prog 21 #[.agg #[.slice ao n c, .int .i64 next]] w (Bys w (imgL l)) := by
  have hmf : ∀ (fn : Fn) (first cap : Array Value) (w : World), (Instr.makeFunc fn first cap).run Tryz.prog w = .ok (.func fn first cap) w := fun _ _ _ _ => rfl
  have hE39 := enters39
  have hE41 := enters41
  have hE43 := enters43
  have kc := Lib.run_convert_bytes_const (P := Tryz.prog) (w.alloc (.cells #[.slice ao n c, .int .i64 next] 26)) 22 5 #[.int .u8 80, .int .u8 76, .int .u8 76, .int .u8 87] 4 4 Tryz.underlying22 Tryz.underlying5
  have ekc : (w.alloc (.cells #[.slice ao n c, .int .i64 next] 26)).heap.size = w.heap.size + 1 := by simp
  rw [ekc] at kc
  clear ekc
  obtain ⟨w4, hw4⟩ : ∃ w4, w4 = ((((w.alloc (.cells #[.slice ao n c, .int .i64 next] 26)).alloc (.cells #[.int .u8 80, .int .u8 76, .int .u8 76, .int .u8 87] 5 (4, 5))).alloc (.cells #[.slice (some ⟨w.heap.size + 1, 0, none⟩) 4 4] 22)).alloc (.cells #[.func (.func 41) #[] #[.pointer (some ⟨w.heap.size + 1 + 1, 0, none⟩)]] 79)) := ⟨_, rfl⟩
  obtain ⟨O4, BW4, CB4, FB4⟩ : Out w4 (w.heap.size + 1 + 1) w.heap.size markL ∧ Below w.heap.size w w4 ∧ Cnt w4 (w.heap.size + 1 + 1 + 1) (w.heap.size + 1 + 1) ∧ Sh.Blk w4 w.heap.size [.slice ao n c, .int .i64 next] 26 := by
    have b1 : Below w.heap.size w (w.alloc (.cells #[.slice ao n c, .int .i64 next] 26)) := (Below.refl _ w).alloc (Nat.le_refl _) _
    have s1 : (w.alloc (.cells #[.slice ao n c, .int .i64 next] 26)).heap.size = w.heap.size + 1 := by simp
    have F1 : Sh.Blk (w.alloc (.cells #[.slice ao n c, .int .i64 next] 26)) w.heap.size [.slice ao n c, .int .i64 next] 26 := Sh.Blk.new w [.slice ao n c, .int .i64 next] 26 _ rfl
    rw [hw4]
    generalize w.alloc (.cells #[.slice ao n c, .int .i64 next] 26) = w1 at *
    have b2 : Below w.heap.size w (w1.alloc (.cells #[.int .u8 80, .int .u8 76, .int .u8 76, .int .u8 87] 5 (4, 5))) := b1.alloc b1.size _
    have s2 : (w1.alloc (.cells #[.int .u8 80, .int .u8 76, .int .u8 76, .int .u8 87] 5 (4, 5))).heap.size = w.heap.size + 1 + 1 := by simp [s1]
    have M2 : Byt (w1.alloc (.cells #[.int .u8 80, .int .u8 76, .int .u8 76, .int .u8 87] 5 (4, 5))) (some ⟨w1.heap.size, 0, none⟩) markL := mark_byt w1 markL (4, 5)
    have H2 : (w1.alloc (.cells #[.int .u8 80, .int .u8 76, .int .u8 76, .int .u8 87] 5 (4, 5))).heap[w1.heap.size]? = some (.cells #[.int .u8 80, .int .u8 76, .int .u8 76, .int .u8 87] 5 (4, 5)) := heap_alloc_new w1 _
    rw [s1] at M2 H2
    have F2 := F1.alloc (.cells #[.int .u8 80, .int .u8 76, .int .u8 76, .int .u8 87] 5 (4, 5))
    generalize w1.alloc (.cells #[.int .u8 80, .int .u8 76, .int .u8 76, .int .u8 87] 5 (4, 5)) = w2 at *
    have R2 : RowB w2 w.heap.size (.slice (some ⟨w.heap.size + 1, 0, none⟩) 4 4) markL := .inr ⟨w.heap.size + 1, _, _, rfl, by omega, H2, by decide, M2⟩
    have b3 : Below w.heap.size w (w2.alloc (.cells #[.slice (some ⟨w.heap.size + 1, 0, none⟩) 4 4] 22)) := b2.alloc b2.size _
    have s3 : (w2.alloc (.cells #[.slice (some ⟨w.heap.size + 1, 0, none⟩) 4 4] 22)).heap.size = w.heap.size + 1 + 1 + 1 := by simp [s2]
    have X3 : Sh.Blk (w2.alloc (.cells #[.slice (some ⟨w.heap.size + 1, 0, none⟩) 4 4] 22)) (w.heap.size + 1 + 1) [.slice (some ⟨w.heap.size + 1, 0, none⟩) 4 4] 22 := Sh.Blk.new w2 [.slice (some ⟨w.heap.size + 1, 0, none⟩) 4 4] 22 _ s2.symm
    have R3 := R2.alloc (.cells #[.slice (some ⟨w.heap.size + 1, 0, none⟩) 4 4] 22)
    have F3 := F2.alloc (.cells #[.slice (some ⟨w.heap.size + 1, 0, none⟩) 4 4] 22)
    generalize w2.alloc (.cells #[.slice (some ⟨w.heap.size + 1, 0, none⟩) 4 4] 22) = w3 at *
    exact ⟨⟨⟨_, X3.alloc _, R3.alloc _⟩, by omega⟩, b3.alloc b3.size _, Sh.Blk.new w3 [.func (.func 41) #[] #[.pointer (some ⟨w.heap.size + 1 + 1, 0, none⟩)]] 79 _ s3.symm, F3.alloc _⟩
  have HI := Lib.hid h
  have HL := Lib.hid hl
  have HK := Lib.hid hok
  have hn := hok.most
  rw [hl] at hn
  have HW4 := Lib.hid hw4
  have hB4 : w.heap.size ≤ w4.heap.size := BW4.size
  have OH4 := Lib.hid O4
  have BH4 := Lib.hid BW4
  have CH4 := Lib.hid CB4
  have FH4 := Lib.hid FB4
  have C := Lib.hid (number_out (n : Int) (w.heap.size + 1 + 1) w.heap.size markL w4 O4 (by omega) (by omega) (by simp [markL]))
  clear h hl hok hw4 O4 BW4 CB4 FB4 hB4
  go_enter Tryz.func21, Tryz.ntmps21
  go_wp2_with fail
  rw [← HW4.out]
  clear HW4 kc
  refine C.out.mono ?_
  clear C
  rintro e w5 ⟨rfl, ho, hk⟩
  have NL : markL ++ numL (n : Int) = curL l 0 := by simp [curL, HL.out]
  rw [NL] at ho
  have O5 := Lib.hid ho
  have BW5 := Lib.hid (BH4.out.trans (hk.below BH4.out.size))
  have CB5 : Hid (Cnt w5 (w.heap.size + 1 + 1 + 1) (w.heap.size + 1 + 1)) := hk.blk CH4.out (by omega) (by decide)
  have f5 := (hk.blk FH4.out (by omega) (by decide)).cell 0
  simp only [List.getElem?_cons_zero] at f5
  clear ho hk OH4 BH4 CH4 FH4 NL
  go_wp2_with fail
  go_loopw [28] (fun vi wr => ∃ i : Nat, i ≤ n ∧ vi = .int .i64 i ∧ Hid (OutO wr (w.heap.size + 1 + 1) w.heap.size (curL l i)) ∧ Hid (Kp w.heap.size (w.heap.size + 1 + 1) w5 wr)) (fun vi _ => n - (RowKit.intOf vi).toNat)
  case atStart => exact ⟨0, by omega, rfl, O5.out, Kp.refl _ _ _⟩
  case round =>
    clear O5 f5
    obtain ⟨i, hi, rfl, hO, hKr⟩ := hrel
    by_cases hin : i < n
    rotate_left
    · obtain rfl : i = n := by omega
      obtain ⟨v, hb, hown⟩ := hO.out.cell
      have c0 := hb.cell 0
      simp only [List.getElem?_cons_zero] at c0
      have FIN : Hid (Own wr w.heap.size v (imgL l)) := by
        show Own _ _ _ _
        rw [← curL_all, HL.out]
        exact hown
      have BF := Lib.hid (BW5.out.trans (hKr.out.below BW5.out.size))
      clear hb hown
      go_wp2_with fail
      go_ret
      exact ⟨BF.out, v, rfl, FIN.out⟩
    have q1 : (0 : Int) ≤ (i : Int) := by omega
    have q2 : (i : Int) < (n : Int) := by omega
    obtain ⟨x, hx⟩ : ∃ x, l[i]? = some x := ⟨_, List.getElem?_eq_getElem (by have := HL.out; omega)⟩
    obtain ⟨b, o, hbo, hb, da, dn, dc, na, nn, nc, za, zn, zc, aa, an, ac, h9, hv⟩ := irw_at HI.out i x hx
    subst hbo
    have HX := Lib.hid hx
    have hoi := (HK.out.each i x hx).2
    have BWr := Lib.hid (BW5.out.trans (hKr.out.below BW5.out.size))
    have h9' := h9.below BWr.out hb
    have CL := Lib.hid (curL_len HK.out i)
    have CM := Lib.hid (curL_more hx)
    obtain ⟨xn, xk, xm, xl, xd, xt, xs, xz, xa⟩ := x
    have k0 := h9'.k0
    have k1 := h9'.k1
    have k2 := h9'.k2
    have k3 := h9'.k3
    have k4 := h9'.k4
    have k5 := h9'.k5
    have k6 := h9'.k6
    have k7 := h9'.k7
    have k8 := h9'.k8
    simp only at k0 k1 k2 k3 k4 k5 k6 k7 k8
    have hv1 := hv.d1
    have hv2 := hv.n1
    have hv3 := hv.z1
    have hv4 := hv.a1
    simp only at hv1 hv2 hv3 hv4
    have IV := Lib.hid hv
    have o1 := hoi.node.kind
    have o2 := hoi.node.mode
    have o3 := hoi.node.target
    have o4 := hoi.node.most
    have o5 := hoi.node.values
    have o6 := hoi.node.names
    have o7 := hoi.data
    have o8 := hoi.list.same
    have o9 := hoi.most
    have o10 := hoi.list.names
    have o11 := hoi.list.nums
    unfold Sh.within at o1 o2 o11
    simp only at o1 o2 o3 o4 o5 o6 o7 o8 o9 o10 o11
    have p3 : xt.size ≤ 1000 := by
      split at o3
      · exact o3.2.1
      · rw [o3]; decide
    have PB : Hid ((curL l i).length ≤ 40000000 ∧ (numL xk).length ≤ 10 ∧ (numL xm).length ≤ 10 ∧ (textL xt).length ≤ 1010 ∧ (numL (an : Int)).length ≤ 10 ∧ (xa.flatMap attrL).length ≤ 3200 ∧ (numL (nn : Int)).length ≤ 10 ∧ (xs.flatMap textL).length ≤ 14080 ∧ (xz.flatMap numL).length ≤ 1280 ∧ xd.length ≤ 32768) :=
      ⟨CL.out, numL_len _ (by omega), numL_len _ (by omega), by have := textL_len xt; omega, numL_len _ (by omega), attrs_len o4 o5 o6, numL_len _ (by omega), names_len o9 o10, nums_len (by omega) (fun z hz => by have := o11 z hz; omega), o7⟩
    have OI := Lib.hid hoi
    have T3 := Lib.hid p3
    have ban : an ≤ 8 := by omega
    have bnn : nn ≤ 128 := by omega
    have bzn : zn ≤ 128 := by omega
    have han := hv.a2
    have hnn := hv.n2
    have hzn := hv.z2
    have AL := Lib.hid hv4
    have NLn := Lib.hid hv2
    have ZLn := Lib.hid hv3
    have XK1 := Lib.hid o1
    have XM1 := Lib.hid o2
    obtain ⟨wx, hwx⟩ : ∃ wx, wx = wr.alloc (.cells #[.int .i64 xn, .int .i64 xk, .int .i64 xm, .int .i64 xl, .slice da dn dc, .string xt, .slice na nn nc, .slice za zn zc, .slice aa an ac] 46) := ⟨_, rfl⟩
    have bx : Below wr.heap.size wr wx := by rw [hwx]; exact (Below.refl _ wr).alloc (Nat.le_refl _) _
    have XB : Hid (Sh.Blk wx wr.heap.size [.int .i64 xn, .int .i64 xk, .int .i64 xm, .int .i64 xl, .slice da dn dc, .string xt, .slice na nn nc, .slice za zn zc, .slice aa an ac] 46) := by show Sh.Blk _ _ _ _; rw [hwx]; exact Sh.Blk.new wr [.int .i64 xn, .int .i64 xk, .int .i64 xm, .int .i64 xl, .slice da dn dc, .string xt, .slice na nn nc, .slice za zn zc, .slice aa an ac] 46 _ rfl
    have Ox := Lib.hid (hO.out.kept bx)
    have KX := Lib.hid (hKr.out.trans (Kp.of_below bx))
    have BWx := Lib.hid (BWr.out.trans (bx.mono BWr.out.size))
    have CBx : Hid (Cnt wx (w.heap.size + 1 + 1 + 1) (w.heap.size + 1 + 1)) := KX.out.blk CB5.out (by omega) (by decide)
    have hob := hO.out.cell
    have hobl : w.heap.size + 1 + 1 < wr.heap.size := by
      obtain ⟨v, hb9, _⟩ := hob
      exact hb9.lt
    have HWX := Lib.hid hwx
    have K0 := Lib.hid (Kp.refl w.heap.size (w.heap.size + 1 + 1) wx)
    have C := Lib.hid (number_out xk (w.heap.size + 1 + 1) w.heap.size (curL l i) wx Ox.out.to (by omega) (by omega) (by have := PB.out; omega))
    clear h9 h9' hv hx hoi o1 o2 o3 o4 o5 o6 o7 o8 o9 o10 o11 p3 hv1 hv2 hv3 hv4 bx hwx hob hO hKr CL hb
    go_wp2_with fail
    rw [← HWX.out]
    clear HWX k0 k1 k2 k3 k4 k5 k6 k7 k8
    refine C.out.mono ?_
    clear C
    rintro e y1 ⟨rfl, ho, hk⟩
    have O1 := Lib.hid ho
    have K1 := Lib.hid (K0.out.trans hk)
    have x2 := (K1.out.blk XB.out (by omega) (by decide)).cell 2
    simp only [List.getElem?_cons_zero, List.getElem?_cons_succ] at x2
    clear ho hk
    have C := Lib.hid (number_out xm (w.heap.size + 1 + 1) w.heap.size _ y1 O1.out.to (by have := XM1.out; omega) (by have := XM1.out; omega) (by have := PB.out; simp only [List.length_append]; omega))
    go_wp2_with fail
    refine C.out.mono ?_
    clear C
    rintro e y2 ⟨rfl, ho, hk⟩
    have O2 := Lib.hid ho
    have K2 := Lib.hid (K1.out.trans hk)
    have x5 := (K2.out.blk XB.out (by omega) (by decide)).cell 5
    simp only [List.getElem?_cons_zero, List.getElem?_cons_succ] at x5
    clear ho hk
    have CB2 : Hid (Cnt y2 (w.heap.size + 1 + 1 + 1) (w.heap.size + 1 + 1)) := K2.out.blk CBx.out (by omega) (by decide)
    have hb2 : w.heap.size ≤ y2.heap.size := Nat.le_trans BWx.out.size K2.out.size
    clear x2 O1 K1
    have C := Lib.hid (text_out xt (w.heap.size + 1 + 1) (w.heap.size + 1 + 1 + 1) w.heap.size _ y2 O2.out.to CB2.out (by have := PB.out; have := T3.out; simp only [List.length_append]; omega) hb2)
    go_wp2_with fail
    refine C.out.mono ?_
    clear C
    rintro e y3 ⟨rfl, ho, hk⟩
    have O3 := Lib.hid ho
    have K3 := Lib.hid (K2.out.trans hk)
    have x8 := (K3.out.blk XB.out (by omega) (by decide)).cell 8
    simp only [List.getElem?_cons_zero, List.getElem?_cons_succ] at x8
    clear ho hk
    clear x5 O2 K2 CB2 hb2
    have C := Lib.hid (number_out (an : Int) (w.heap.size + 1 + 1) w.heap.size _ y3 O3.out.to (by omega) (by omega) (by have := PB.out; simp only [List.length_append]; omega))
    go_wp2_with fail
    refine C.out.mono ?_
    clear C
    rintro e y4 ⟨rfl, ho, hk⟩
    have O4 := Lib.hid ho
    have K4 := Lib.hid (K3.out.trans hk)
    have x8b := (K4.out.blk XB.out (by omega) (by decide)).cell 8
    simp only [List.getElem?_cons_zero, List.getElem?_cons_succ] at x8b
    clear ho hk
    clear x8 O3 K3
    obtain ⟨L4, hL4⟩ : ∃ L4, L4 = curL l i ++ numL xk ++ numL xm ++ textL xt ++ numL (an : Int) := ⟨_, rfl⟩
    have LE4 := Lib.hid hL4
    have LN4 : Hid (L4.length ≤ 40001040) := by show _ ≤ _; rw [hL4]; have := PB.out; simp only [List.length_append]; omega
    rw [← hL4] at O4
    clear hL4
    go_wp2_with fail
    go_loopw [52] (fun vi wi => ∃ j : Nat, j ≤ an ∧ vi = .int .i64 j ∧ Hid (OutO wi (w.heap.size + 1 + 1) w.heap.size (L4 ++ (xa.take j).flatMap attrL)) ∧ Hid (Kp w.heap.size (w.heap.size + 1 + 1) wx wi)) (fun vi _ => an - (RowKit.intOf vi).toNat)
    case atStart => exact ⟨0, by omega, rfl, (by simpa using O4.out : OutO _ _ _ _), K4.out⟩
    case round =>
      clear O4 K4 x8b
      obtain ⟨j, hj, rfl, hO, hKi⟩ := hrel
      by_cases hja : j < an
      · have r1 : (0 : Int) ≤ (j : Int) := by omega
        have r2 : (j : Int) < (an : Int) := by omega
        have hjl : j < xa.length := by have := AL.out; omega
        obtain ⟨ab, ao2, y, haa, hab, hy, hc1, hys, ad, dm, dcap, hc2, hym, hdm, _, hby, hdn⟩ := arw_cell IV.out.a4 j hjl
        subst haa
        obtain ⟨y1n, y2v⟩ := y
        simp only at hc1 hys hym hby
        have BWi := Lib.hid (BWx.out.trans (hKi.out.below BWx.out.size))
        have hc1' := (BWi.out.cell (p := ⟨ab, ao2 + j * 2, none⟩) hab).trans hc1
        have hc2' := (BWi.out.cell (p := ⟨ab, ao2 + j * 2 + 1, none⟩) hab).trans hc2
        have hmem := List.mem_of_getElem? hy
        have hsz1 : y1n.size ≤ 1000 := by
          have h1 := nameOk_len y1n (OI.out.node.names _ hmem)
          have es : y1n.data.toList.length = y1n.size := Array.length_toList
          omega
        have hsz2 : dm ≤ 256 := by
          have := OI.out.node.values _ hmem
          simp only at this
          omega
        have TK := Lib.hid (flatMap_take attrL xa j _ hy)
        have TL := Lib.hid (flatMap_le attrL xa j)
        obtain ⟨wy, hwy⟩ : ∃ wy, wy = wr.alloc (.cells #[.string y1n, .slice ad dm dcap] 82) := ⟨_, rfl⟩
        have by1 : Below wr.heap.size wr wy := by rw [hwy]; exact (Below.refl _ wr).alloc (Nat.le_refl _) _
        have YB : Hid (Sh.Blk wy wr.heap.size [.string y1n, .slice ad dm dcap] 82) := by show Sh.Blk _ _ _ _; rw [hwy]; exact Sh.Blk.new wr [.string y1n, .slice ad dm dcap] 82 _ rfl
        have Oy := Lib.hid (hO.out.kept by1)
        have Ky := Lib.hid (hKi.out.trans (Kp.of_below by1))
        have CBy : Hid (Cnt wy (w.heap.size + 1 + 1 + 1) (w.heap.size + 1 + 1)) := Ky.out.blk CBx.out (by omega) (by decide)
        have hby2 : w.heap.size ≤ wy.heap.size := Nat.le_trans BWx.out.size Ky.out.size
        have hwi : w.heap.size + 1 + 1 < wr.heap.size := by
          obtain ⟨v, hb9, _⟩ := hO.out.cell
          exact hb9.lt
        have BYT := Lib.hid hby
        have HYM := Lib.hid hym
        have HDN := Lib.hid hdn
        have HWY := Lib.hid hwy
        have KY0 := Lib.hid (Kp.refl w.heap.size (w.heap.size + 1 + 1) wy)
        have C := Lib.hid (text_out y1n (w.heap.size + 1 + 1) (w.heap.size + 1 + 1 + 1) w.heap.size _ wy Oy.out.to CBy.out (by have := PB.out; have := LN4.out; have := TL.out; simp only [List.length_append]; omega) hby2)
        clear hjl hab hy hc1 hys hc2 hym hby hdn hmem by1 hwy hO hKi BWi hby2
        go_wp2_with fail
        rw [← HWY.out]
        clear HWY hc1' hc2'
        refine C.out.mono ?_
        clear C
        rintro e wz ⟨rfl, ho, hk⟩
        have O6 := Lib.hid ho
        have K6 := Lib.hid (Ky.out.trans hk)
        have y1 := (hk.blk YB.out (by omega) (by decide)).cell 1
        have cbz := (hk.blk CBy.out (by omega) (by decide)).cell 0
        simp only [List.getElem?_cons_zero, List.getElem?_cons_succ] at y1 cbz
        have hbz : w.heap.size ≤ wz.heap.size := Nat.le_trans BWx.out.size K6.out.size
        have BZ := Lib.hid (BYT.out.below (BWx.out.trans (K6.out.below BWx.out.size)))
        have C := Lib.hid (counted_out ad y2v dm dcap (w.heap.size + 1 + 1) w.heap.size _ wz O6.out.to BZ.out HDN.out HYM.out (by have := PB.out; have := LN4.out; have := TL.out; have := textL_len y1n; simp only [List.length_append]; omega) hbz)
        clear ho hk hbz
        go_wp2_with fail
        refine C.out.mono ?_
        clear C
        rintro e wq ⟨rfl, ho, hk⟩
        have O7 : Hid (OutO wq (w.heap.size + 1 + 1) w.heap.size (L4 ++ (xa.take (j + 1)).flatMap attrL)) := by
          show OutO _ _ _ _
          rw [TK.out]
          have := ho
          simp only [attrL, List.append_assoc] at this ⊢
          exact this
        have K7 := Lib.hid (K6.out.trans hk)
        clear ho hk y1 cbz
        go_wp2_with fail
        go_roundw
        case rel => exact ⟨j + 1, by omega, by go_num, O7.out, K7.out⟩
        case measure => simp [RowKit.intOf]; omega
      · obtain rfl : j = an := by omega
        have TA : xa.take j = xa := by rw [← AL.out]; exact List.take_length
        rw [TA] at hO
        obtain ⟨L5, hL5⟩ : ∃ L5, L5 = L4 ++ xa.flatMap attrL := ⟨_, rfl⟩
        rw [← hL5] at hO
        have FUL : Hid (∀ t, tailL xk (xd, xs, xz) = t → L5 ++ t = curL l (i + 1)) := fun t ht => by
          rw [CM.out, hL5, LE4.out]
          simp only [inoL, manyL, AL.out, List.append_assoc, ← ht]
        have LN5 : Hid (L5.length ≤ 40004300) := by show _ ≤ _; rw [hL5]; have := PB.out; have := LN4.out; simp only [List.length_append]; omega
        clear hL5
        have BW := Lib.hid (BWx.out.trans (hKi.out.below BWx.out.size))
        have hbw : w.heap.size ≤ wr.heap.size := BW.out.size
        have x1 := (hKi.out.blk XB.out (by omega) (by decide)).cell 1
        by_cases h1 : xk = 1
        · have x4 := (hKi.out.blk XB.out (by omega) (by decide)).cell 4
          have CBw : Hid (Cnt wr (w.heap.size + 1 + 1 + 1) (w.heap.size + 1 + 1)) := hKi.out.blk CBx.out (by omega) (by decide)
          have cbw := Sh.Blk.cell CBw.out 0
          simp only [List.getElem?_cons_zero, List.getElem?_cons_succ] at x1 x4 cbw
          have f1 : (xk == 1) = true := by rw [h1]; rfl
          have OW := hO
          have KW := hKi
          have F1 := Lib.hid (FUL.out (dataL xd) (by unfold tailL; rw [if_pos h1]))
          have C := Lib.hid (counted_out da xd dn dc (w.heap.size + 1 + 1) w.heap.size _ wr hO.out.to (IV.out.d4.below BW.out) IV.out.d5 IV.out.d1 (by have := LN5.out; have := IV.out.d1; have := PB.out; simp only at *; omega) hbw)
          clear hO hKi h1
          go_wp2_with fail
          refine C.out.mono ?_
          clear C
          rintro e wq ⟨rfl, ho, hk⟩
          rw [F1.out] at ho
          have O7 := Lib.hid ho
          have K7 := Lib.hid (KX.out.trans (KW.out.trans hk))
          clear ho hk cbw
          go_wp2_with fail
          go_roundw
          case rel => exact ⟨i + 1, by omega, by go_num, O7.out, K7.out⟩
          case measure => simp [RowKit.intOf]; omega
        · have f1 : (xk == 1) = false := by simp [h1]
          by_cases h2 : xk = 2
          · have x6 := (hKi.out.blk XB.out (by omega) (by decide)).cell 6
            simp only [List.getElem?_cons_zero, List.getElem?_cons_succ] at x1 x6
            have f2 : (xk == 2) = true := by rw [h2]; rfl
            have KW := hKi
            have FUL2 := Lib.hid (FUL.out (numL (nn : Int) ++ (xs.flatMap textL ++ xz.flatMap numL)) (by unfold tailL manyL; rw [if_neg h1, if_pos h2]; have := IV.out.n1; simp only at this; rw [this, List.append_assoc]))
            have C := Lib.hid (number_out (nn : Int) (w.heap.size + 1 + 1) w.heap.size _ wr hO.out.to (by omega) (by omega) (by have := LN5.out; omega))
            clear hO hKi h1 h2
            go_wp2_with fail
            refine C.out.mono ?_
            clear C
            rintro e v1 ⟨rfl, ho, hk⟩
            have O8 := Lib.hid ho
            have K8 := Lib.hid (KW.out.trans hk)
            have x6 := (K8.out.blk XB.out (by omega) (by decide)).cell 6
            simp only [List.getElem?_cons_zero, List.getElem?_cons_succ] at x6
            clear ho hk KW
            obtain ⟨L6, hL6⟩ : ∃ L6, L6 = L5 ++ numL (nn : Int) := ⟨_, rfl⟩
            rw [← hL6] at O8
            have LN6 : Hid (L6.length ≤ 40004310) := by show _ ≤ _; rw [hL6]; have := PB.out; have := LN5.out; simp only [List.length_append]; omega
            have LE6 := Lib.hid hL6
            clear hL6
            go_wp2_with fail
            go_loopw [83] (fun vi wi => ∃ j : Nat, j ≤ nn ∧ vi = .int .i64 j ∧ Hid (OutO wi (w.heap.size + 1 + 1) w.heap.size (L6 ++ (xs.take j).flatMap textL)) ∧ Hid (Kp w.heap.size (w.heap.size + 1 + 1) wx wi)) (fun vi _ => nn - (RowKit.intOf vi).toNat)
            case atStart => exact ⟨0, by omega, rfl, (by simpa using O8.out : OutO _ _ _ _), K8.out⟩
            case round =>
              clear O8 K8 x6
              obtain ⟨j, hj, rfl, hO, hKi⟩ := hrel
              by_cases hja : j < nn
              · have r1 : (0 : Int) ≤ (j : Int) := by omega
                have r2 : (j : Int) < (nn : Int) := by omega
                have hjl : j < xs.length := by have := NLn.out; omega
                obtain ⟨sb, so, s, hsa, hsb, hs, hsc⟩ := srw_cell IV.out.n4 j hjl
                subst hsa
                have BWi := Lib.hid (BWx.out.trans (hKi.out.below BWx.out.size))
                have hsc' := (BWi.out.cell (p := ⟨sb, so + j, none⟩) hsb).trans hsc
                have TK := Lib.hid (flatMap_take textL xs j _ hs)
                have TL := Lib.hid (flatMap_le textL xs j)
                have SL := Lib.hid (flatMap_le textL xs (j + 1))
                have hss : Hid (s.size ≤ 1000) := by
                  have h1 := nameOk_len s (OI.out.list.names _ (List.mem_of_getElem? hs))
                  have es : s.data.toList.length = s.size := Array.length_toList
                  show _ ≤ _
                  omega
                have CBw : Hid (Cnt wr (w.heap.size + 1 + 1 + 1) (w.heap.size + 1 + 1)) := hKi.out.blk CBx.out (by omega) (by decide)
                have hbw : w.heap.size ≤ wr.heap.size := BWi.out.size
                have KW := hKi
                have C := Lib.hid (text_out s (w.heap.size + 1 + 1) (w.heap.size + 1 + 1 + 1) w.heap.size _ wr hO.out.to CBw.out (by have := hss.out; have := PB.out; have := LN6.out; have := TL.out; simp only [List.length_append]; omega) hbw)
                clear hjl hsb hs hsc hO hKi BWi hbw
                go_wp2_with fail
                refine C.out.mono ?_
                clear C
                rintro e wq ⟨rfl, ho, hk⟩
                have O9 : Hid (OutO wq (w.heap.size + 1 + 1) w.heap.size (L6 ++ (xs.take (j + 1)).flatMap textL)) := by
                  show OutO _ _ _ _
                  rw [TK.out, ← List.append_assoc]
                  exact ho
                have K9 := Lib.hid (KW.out.trans hk)
                clear ho hk hsc'
                go_wp2_with fail
                go_roundw
                case rel => exact ⟨j + 1, by omega, by go_num, O9.out, K9.out⟩
                case measure => simp [RowKit.intOf]; omega
              · obtain rfl : j = nn := by omega
                have TA : xs.take j = xs := by rw [← NLn.out]; exact List.take_length
                rw [TA] at hO
                obtain ⟨L7, hL7⟩ : ∃ L7, L7 = L6 ++ xs.flatMap textL := ⟨_, rfl⟩
                rw [← hL7] at hO
                have F3 : Hid (L7 ++ xz.flatMap numL = curL l (i + 1)) := by
                  show _ = _
                  rw [← FUL2.out, hL7, LE6.out]
                  simp only [List.append_assoc]
                have LN7 : Hid (L7.length ≤ 40018400) := by show _ ≤ _; rw [hL7]; have := PB.out; have := LN6.out; simp only [List.length_append]; omega
                clear hL7
                have x7 := (hKi.out.blk XB.out (by omega) (by decide)).cell 7
                simp only [List.getElem?_cons_zero, List.getElem?_cons_succ] at x7
                have O8 := hO
                have K8 := hKi
                clear hO hKi
                go_wp2_with fail
                go_loopw [94] (fun vi wi => ∃ j : Nat, j ≤ zn ∧ vi = .int .i64 j ∧ Hid (OutO wi (w.heap.size + 1 + 1) w.heap.size (L7 ++ (xz.take j).flatMap numL)) ∧ Hid (Kp w.heap.size (w.heap.size + 1 + 1) wx wi)) (fun vi _ => zn - (RowKit.intOf vi).toNat)
                case atStart => exact ⟨0, by omega, rfl, (by simpa using O8.out : OutO _ _ _ _), K8.out⟩
                case round =>
                  clear O8 K8 x7
                  obtain ⟨j, hj, rfl, hO, hKi⟩ := hrel
                  by_cases hja : j < zn
                  · have r1 : (0 : Int) ≤ (j : Int) := by omega
                    have r2 : (j : Int) < (zn : Int) := by omega
                    have hjl : j < xz.length := by have := ZLn.out; omega
                    obtain ⟨zb, zo, hza, hzb, hz⟩ := zrw_cell IV.out.z4 j hjl
                    subst hza
                    obtain ⟨z, hzj⟩ : ∃ z, xz[j]? = some z := ⟨_, List.getElem?_eq_getElem hjl⟩
                    have hzc := hz j z hzj
                    have BWi := Lib.hid (BWx.out.trans (hKi.out.below BWx.out.size))
                    have hzc' := (BWi.out.cell (p := ⟨zb, zo + j, none⟩) hzb).trans hzc
                    have TK := Lib.hid (flatMap_take numL xz j _ hzj)
                    have TL := Lib.hid (flatMap_le numL xz j)
                    have hzz := OI.out.list.nums z (List.mem_of_getElem? hzj)
                    unfold Sh.within at hzz
                    have KW := hKi
                    have C := Lib.hid (number_out z (w.heap.size + 1 + 1) w.heap.size _ wr hO.out.to (by omega) (by omega) (by have := PB.out; have := LN7.out; have := TL.out; simp only [List.length_append]; omega))
                    clear hjl hzb hz hzc hzj hO hKi BWi hzz
                    go_wp2_with fail
                    refine C.out.mono ?_
                    clear C
                    rintro e wq ⟨rfl, ho, hk⟩
                    have O9 : Hid (OutO wq (w.heap.size + 1 + 1) w.heap.size (L7 ++ (xz.take (j + 1)).flatMap numL)) := by
                      show OutO _ _ _ _
                      rw [TK.out, ← List.append_assoc]
                      exact ho
                    have K9 := Lib.hid (KW.out.trans hk)
                    clear ho hk hzc'
                    go_wp2_with fail
                    go_roundw
                    case rel => exact ⟨j + 1, by omega, by go_num, O9.out, K9.out⟩
                    case measure => simp [RowKit.intOf]; omega
                  · obtain rfl : j = zn := by omega
                    have TA : xz.take j = xz := by rw [← ZLn.out]; exact List.take_length
                    rw [TA, F3.out] at hO
                    have K7 := Lib.hid (KX.out.trans hKi.out)
                    have O7 := hO
                    clear hO hKi
                    go_wp2_with fail
                    go_roundw
                    case rel => exact ⟨i + 1, by omega, by go_num, O7.out, K7.out⟩
                    case measure => simp [RowKit.intOf]; omega
          · simp only [List.getElem?_cons_zero, List.getElem?_cons_succ] at x1
            have f2 : (xk == 2) = false := by simp [h2]
            have F4 := FUL.out [] (by unfold tailL; rw [if_neg h1, if_neg h2])
            rw [List.append_nil] at F4
            rw [F4] at hO
            have O7 := hO
            have K7 := Lib.hid (KX.out.trans hKi.out)
            clear hO hKi h1 h2 F4
            go_wp2_with fail
            go_roundw
            case rel => exact ⟨i + 1, by omega, by go_num, O7.out, K7.out⟩
            case measure => simp [RowKit.intOf]; omega
end Go.Proofs.YtojhlhpbhoeplaaGreatDoor.Lw
namespace Go.Proofs.YtojhlhpbhoeplaaGreatDoor.Lw
open Go.RowKit Go.Lib Go.Proofs.YtojhlhpbhoeplaaGreatDoor.Sh Go.Proofs.YtojhlhpbhoeplaaGreatDoor.Lb

/-- what Put answers -/
def PutA (l : List InoP) (next : Int) (w : World) (e : Ending) (w' : World) : Prop :=
  Below w.heap.size w w' ∧ ((OkFs ltB nameOk l next ∧ ∃ v, e = .returned (.tuple #[v, .int .i64 0]) ∧ Own w' w.heap.size v (imgL l)) ∨ (¬ OkFs ltB nameOk l next ∧ e = .returned (.tuple #[.slice none 0 0, .int .i64 160])))
set_option maxHeartbeats 4000000 in
set_option maxRecDepth 100000 in
theorem put_any (a : Addr) (ao : Option Addr) (l : List InoP) (n c : Nat) (next : Int) (w : World) (he : Env w a) (h : Irw w ao l) (hl : l.length = n) (hc : n ≤ c) (hcc : c ≤ 9223372036854775807) :
    Calls Tryz.prog 10 #[.agg #[.slice ao n c, .int .i64 next]] w (PutA l next w) := by
  obtain ⟨w1, hw1⟩ : ∃ w1, w1 = w.alloc (.cells #[.slice ao n c, .int .i64 next] 26) := ⟨_, rfl⟩
  have b1 : Below w.heap.size w w1 := by rw [hw1]; exact (Below.refl _ w).alloc (Nat.le_refl _) _
  have x1 : Sh.Blk w1 w.heap.size [.slice ao n c, .int .i64 next] 26 := by rw [hw1]; exact Sh.Blk.new w [.slice ao n c, .int .i64 next] 26 _ rfl
  have E1 := Lib.hid (he.below b1)
  have I1 := Lib.hid (h.below b1)
  have HL := Lib.hid hl
  have B1 := Lib.hid b1
  have X1 := Lib.hid x1
  have HW1 := Lib.hid hw1
  have C := Lib.hid (check_any a ao l n c next w1 E1.out I1.out hl hc hcc)
  clear he h hl b1 x1 hw1
  go_enter Tryz.func10, Tryz.ntmps10
  go_wp2_with fail
  rw [← HW1.out]
  refine C.out.mono ?_
  clear C HW1
  rintro e w2 ⟨hb, v, rfl, hv⟩
  have E2 := Lib.hid (E1.out.below hb)
  have I2 := Lib.hid (I1.out.below hb)
  have B2 := Lib.hid (below_chain B1.out hb)
  have X2 := Lib.hid (X1.out.low hb)
  clear hb E1 I1 B1 X1
  rcases hv with ⟨hok, hvv⟩ | ⟨hno, hfl⟩
  rotate_left
  · have NO := Lib.hid hno
    have C := Lib.hid (errno_no v a w2 E2.out.sen hfl)
    clear hno hfl
    go_wp2_with fail
    refine C.out.mono ?_
    clear C
    rintro e w3 ⟨rfl, hb⟩
    have B3 := Lib.hid (below_chain B2.out hb)
    clear hb
    go_wp2_with fail
    go_ret2
    exact ⟨B3.out, .inr ⟨NO.out, rfl⟩⟩
  have OK := Lib.hid hok
  have C := Lib.hid (errno_ok v a w2 E2.out.sen hvv)
  have k0 := X2.out.cell 0
  have k1 := X2.out.cell 1
  simp only [List.getElem?_cons_zero, List.getElem?_cons_succ] at k0 k1
  have CI := Lib.hid (image_any ao l n c next w2 I2.out HL.out hok.1)
  clear hok hvv
  go_wp2_with fail
  refine C.out.mono ?_
  clear C
  rintro e w3 ⟨rfl, rfl⟩
  go_wp2_with fail
  refine CI.out.mono ?_
  clear CI
  rintro e w4 ⟨hb, r, rfl, hr⟩
  have B4 := Lib.hid (below_chain B2.out hb)
  have R4 := Lib.hid (hr.low B2.out.size)
  clear hb hr
  go_wp2_with fail
  go_ret2
  exact ⟨B4.out, .inl ⟨OK.out, r, rfl, R4.out⟩⟩
end Go.Proofs.YtojhlhpbhoeplaaGreatDoor.Lw
namespace Go.Proofs.YtojhlhpbhoeplaaGreatDoor.Lw
open Go.RowKit Go.Lib Go.Proofs.YtojhlhpbhoeplaaGreatDoor.Sh Go.Proofs.YtojhlhpbhoeplaaGreatDoor.Lb

theorem below_gb {B : Nat} {w W W' : World} {k : Option Nat} (h : Below B w W) (hg : W.grownBy W' k) (hk : ∀ b, k = some b → B ≤ b) (hB : B ≤ w.heap.size) : Below B w W' :=
  ⟨hg.os.trans h.os, hg.tape.trans h.tape, hg.output.trans h.output, Nat.le_trans h.size hg.size, fun j hj => (hg.block j (Nat.lt_of_lt_of_le hj (Nat.le_trans hB h.size)) (fun e => by have := hk j e.symm; omega)).trans (h.block j hj)⟩
theorem inoC_at : ∀ (l : List InoP) (us : List SubV) (j : Nat) (x : InoP) (u : SubV), l[j]? = some x → us[j]? = some u → ∀ k, k < 9 → (inoC l us)[j * 9 + k]? = (inoV x u)[k]?
  | [], us, j, x, u, h, _, _, _ => by simp at h
  | a :: l, [], j, x, u, _, h, _, _ => by simp at h
  | a :: l, b :: us, 0, x, u, h1, h2, k, hk => by
    simp only [List.getElem?_cons_zero, Option.some.injEq] at h1 h2
    subst h1
    subst h2
    have e : inoC (a :: l) (b :: us) = inoV a b ++ inoC l us := rfl
    rw [e, Nat.zero_mul, Nat.zero_add, List.getElem?_append_left (by show k < 9; exact hk)]
  | a :: l, b :: us, j + 1, x, u, h1, h2, k, hk => by
    have ih := inoC_at l us j x u (by simpa using h1) (by simpa using h2) k hk
    have e : inoC (a :: l) (b :: us) = inoV a b ++ inoC l us := rfl
    rw [e, List.getElem?_append_right (by show 9 ≤ _; omega), show (j + 1) * 9 + k - (inoV a b).length = j * 9 + k by show (j + 1) * 9 + k - 9 = _; omega, ih]
theorem inoC_set : ∀ (l : List InoP) (us : List SubV) (j : Nat) (x x' : InoP) (f : Nat) (v : Value), l[j]? = some x → us.length = l.length → f < 9 → (∀ u, inoV x' u = (inoV x u).set f v) → inoC (l.set j x') us = (inoC l us).set (j * 9 + f) v
  | [], us, j, x, x', f, v, h, _, _, _ => by simp at h
  | a :: l, [], j, x, x', f, v, _, h, _, _ => by simp at h
  | a :: l, b :: us, 0, x, x', f, v, h1, h2, hf, hv => by
    simp only [List.getElem?_cons_zero, Option.some.injEq] at h1
    subst h1
    have e : inoC (a :: l) (b :: us) = inoV a b ++ inoC l us := rfl
    have e' : inoC (x' :: l) (b :: us) = inoV x' b ++ inoC l us := rfl
    rw [e, List.set_cons_zero, e', hv b, Nat.zero_mul, Nat.zero_add, List.set_append_left _ _ (by show f < 9; exact hf)]
  | a :: l, b :: us, j + 1, x, x', f, v, h1, h2, hf, hv => by
    have ih := inoC_set l us j x x' f v (by simpa using h1) (by simpa using h2) hf hv
    have e : inoC (a :: l) (b :: us) = inoV a b ++ inoC l us := rfl
    have e' : inoC (a :: l.set j x') (b :: us) = inoV a b ++ inoC (l.set j x') us := rfl
    rw [e, List.set_cons_succ, e', ih, List.set_append_right _ _ (by show 9 ≤ _; omega), show (j + 1) * 9 + f - (inoV a b).length = j * 9 + f by show (j + 1) * 9 + f - 9 = _; omega]
/-- its rows and cells, as they are taken elsewhere -/
theorem ownI_irw {B : Nat} {w : World} {l : List InoP} {v : Value} (h : OwnI B w l v) (hs : ∀ x ∈ l, Small x) : ∃ ao c, v = .slice ao l.length c ∧ l.length ≤ c ∧ c ≤ 9223372036854775807 ∧ (ao = none → c = 0) ∧ Irw w ao l := by
  obtain ⟨us, hu, hr, ha⟩ := h
  have hh := hr
  obtain ⟨h0, ⟨rfl, hl⟩ | ⟨g, cap, cur, rfl, _, hg, h1, h2, h3, h4⟩⟩ := hr
  · have : l = [] := List.eq_nil_of_length_eq_zero hl
    subst this
    exact ⟨none, 0, rfl, Nat.le_refl _, by omega, fun _ => rfl, fun h => absurd rfl h⟩
  · refine ⟨_, cap, rfl, h1, by unfold maxLen at h2; omega, fun h => (by cases h), fun _ => ⟨g, 0, rfl, (Array.getElem?_eq_some_iff.1 hg).1, fun j x hx => ?_⟩⟩
    obtain ⟨u, hu2⟩ : ∃ u, us[j]? = some u := ⟨_, List.getElem?_eq_getElem (by rw [hu]; exact (List.getElem?_eq_some_iff.1 hx).1)⟩
    have sm := hs x (List.mem_of_getElem? hx)
    obtain ⟨s1, s2, s3, s4⟩ := ha j x u hx hu2
    have hc : ∀ k v, k < 9 → (inoV x u)[k]? = some v → w.cell? ⟨g, 0 + j * 9 + k, none⟩ = some v := fun k v hk hv => by
      have c1 := World.ownsRow.cells hh (g := g) rfl (j * 9 + k) v (by rw [inoC_at l us j x u hx hu2 k hk]; exact hv)
      rw [WideShapes.add_plain] at c1
      rw [show 0 + j * 9 + k = 0 + (j * 9 + k) by omega]
      exact c1
    obtain ⟨da, dc, e1, d1, d2, d3, d4⟩ := own_byt s1
    obtain ⟨na, nc, e2, n1, n2, n3, n4⟩ := ownG_srw s2
    obtain ⟨za, zc, e3, z1, z2, z3, z4⟩ := ownG_zrw s3
    obtain ⟨aa, ac, e4, a1, a2, a3, a4⟩ := ownA_arw s4 (fun y hy => by have := (sm.attrs y hy).1; omega)
    refine ⟨da, _, dc, na, _, nc, za, _, zc, aa, _, ac, ⟨hc 0 _ (by decide) rfl, hc 1 _ (by decide) rfl, hc 2 _ (by decide) rfl, hc 3 _ (by decide) rfl, hc 4 _ (by decide) (by rw [← e1]; rfl), hc 5 _ (by decide) rfl, hc 6 _ (by decide) (by rw [← e2]; rfl), hc 7 _ (by decide) (by rw [← e3]; rfl), hc 8 _ (by decide) (by rw [← e4]; rfl)⟩, ?_⟩
    exact ⟨rfl, d1, d2, d3, d4, rfl, n1, n2, n4, rfl, z1, z2, z4, rfl, a1, a2, a4, by have := sm.target; omega⟩
/-- where it stands -/
theorem ownI_at {B : Nat} {w : World} {l : List InoP} {v : Value} (h : OwnI B w l v) (hne : l ≠ []) : ∃ g c, v = .slice (some ⟨g, 0, none⟩) l.length c ∧ B ≤ g ∧ g < w.heap.size ∧ ∀ j, w.frozen? ⟨g, j, none⟩ = false := by
  obtain ⟨us, hu, hr, ha⟩ := h
  have hh := hr
  obtain ⟨h0, ⟨rfl, hl⟩ | ⟨g, cap, cur, rfl, hB, hg, h1, h2, h3, h4⟩⟩ := hr
  · exact absurd (List.eq_nil_of_length_eq_zero hl) hne
  · exact ⟨g, cap, rfl, hB, (Array.getElem?_eq_some_iff.1 hg).1, fun j => World.ownsRow.frozenAt hh j⟩
theorem ownI_set {B : Nat} {w : World} {l : List InoP} {g n c : Nat} (h : OwnI B w l (.slice (some ⟨g, 0, none⟩) n c)) (j : Nat) (x x' : InoP) (hx : l[j]? = some x) (f : Nat) (val : Value) (hf : f < 9) (hv : ∀ u, inoV x' u = (inoV x u).set f val)
    (e1 : x'.data = x.data) (e2 : x'.names = x.names) (e3 : x'.nums = x.nums) (e4 : x'.attrs = x.attrs) :
    OwnI B (w.setCell ⟨g, j * 9 + f, none⟩ val) (l.set j x') (.slice (some ⟨g, 0, none⟩) n c) := by
  obtain ⟨us, hu, hr, ha⟩ := h
  have hn : n = l.length := by
    obtain ⟨_, ⟨h1, _⟩ | ⟨g', cap, cur, h1, _⟩⟩ := hr
    · cases h1
    · injection h1
  subst hn
  obtain ⟨h1, h2⟩ := World.ownsRow.stored hr (j * 9 + f) val
  refine ⟨us, by rw [List.length_set]; exact hu, ?_, fun i y u hy hu2 => ?_⟩
  · rw [List.length_set, inoC_set l us j x x' f val hx hu hf hv]
    exact h1
  · have key : ∃ y', l[i]? = some y' ∧ y.data = y'.data ∧ y.names = y'.names ∧ y.nums = y'.nums ∧ y.attrs = y'.attrs := by
      rw [List.getElem?_set] at hy
      split at hy
      · rename_i hij
        subst hij
        split at hy
        · injection hy with hy
          subst hy
          exact ⟨x, hx, e1, e2, e3, e4⟩
        · cases hy
      · exact ⟨y, hy, rfl, rfl, rfl, rfl⟩
    obtain ⟨y', hy', k1, k2, k3, k4⟩ := key
    have hs := (ha i y' u hy' hu2).apart hr h2
    unfold SubOk at hs ⊢
    rw [k1, k2, k3, k4]
    exact hs
/-- each of the first i changed -/
def mixTo (f : Nat → InoP → InoP) (i : Nat) (l : List InoP) : List InoP := l.mapIdx fun j x => if j < i then f j x else x
theorem mix_get (f : Nat → InoP → InoP) (i : Nat) (l : List InoP) (j : Nat) : (mixTo f i l)[j]? = (l[j]?).map fun x => if j < i then f j x else x := by simp [mixTo, List.getElem?_mapIdx]
theorem mix_zero (f : Nat → InoP → InoP) (l : List InoP) : mixTo f 0 l = l := by
  apply List.ext_getElem?
  intro j
  rw [mix_get]
  simp
theorem mix_len (f : Nat → InoP → InoP) (i : Nat) (l : List InoP) : (mixTo f i l).length = l.length := by simp [mixTo]
theorem mix_all (f : Nat → InoP → InoP) (l : List InoP) : mixTo f l.length l = l.mapIdx f := by
  apply List.ext_getElem?
  intro j
  rw [mix_get, List.getElem?_mapIdx]
  cases hx : l[j]? with
  | none => rfl
  | some x => rw [Option.map_some, Option.map_some, if_pos (List.getElem?_eq_some_iff.1 hx).1]
theorem mix_here {f : Nat → InoP → InoP} {i : Nat} {l : List InoP} {x : InoP} (h : l[i]? = some x) : (mixTo f i l)[i]? = some x := by
  rw [mix_get, h, Option.map_some, if_neg (by omega)]
theorem mix_more {f : Nat → InoP → InoP} {i : Nat} {l : List InoP} {x : InoP} (h : l[i]? = some x) : mixTo f (i + 1) l = (mixTo f i l).set i (f i x) := by
  apply List.ext_getElem?
  intro j
  rw [List.getElem?_set, mix_get, mix_get, mix_len]
  by_cases hj : i = j
  · subst hj
    rw [if_pos rfl, h, Option.map_some, if_pos (by omega), if_pos (List.getElem?_eq_some_iff.1 h).1]
  · rw [if_neg hj]
    congr 1
    funext x
    by_cases h1 : j < i
    · rw [if_pos h1, if_pos (by omega)]
    · rw [if_neg h1, if_neg (by omega)]
theorem small_mix {f : Nat → InoP → InoP} (hf : ∀ j x, Small x → Small (f j x)) {l : List InoP} (h : ∀ x ∈ l, Small x) (i : Nat) : ∀ x ∈ mixTo f i l, Small x := fun x hx => by
  obtain ⟨j, hj⟩ := List.getElem?_of_mem hx
  rw [mix_get] at hj
  obtain ⟨y, hy, rfl⟩ := Option.map_eq_some_iff.1 hj
  have := h y (List.mem_of_getElem? hy)
  split
  · exact hf j y this
  · exact this
def numF (j : Nat) (x : InoP) : InoP := { x with num := (j : Int) + 1 }
def linkF (m : Int → Nat) (j : Nat) (x : InoP) : InoP := { x with links := (m ((j : Int) + 1) : Int) }
theorem small_num (j : Nat) (x : InoP) (h : Small x) : Small (numF j x) := ⟨h.kind, h.mode, h.data, h.target, h.names, h.nums, h.attrs⟩
theorem small_link (m : Int → Nat) (j : Nat) (x : InoP) (h : Small x) : Small (linkF m j x) := ⟨h.kind, h.mode, h.data, h.target, h.names, h.nums, h.attrs⟩
theorem ownI_num {B : Nat} {w : World} {l : List InoP} {g n c : Nat} (h : OwnI B w l (.slice (some ⟨g, 0, none⟩) n c)) (j : Nat) (x : InoP) (hx : l[j]? = some x) :
    OwnI B (w.setCell ⟨g, j * 9, none⟩ (.int .i64 ((j : Int) + 1))) (l.set j (numF j x)) (.slice (some ⟨g, 0, none⟩) n c) :=
  ownI_set h j x (numF j x) hx 0 _ (by decide) (fun u => rfl) rfl rfl rfl rfl
theorem ownI_link {B : Nat} {w : World} {l : List InoP} {g n c : Nat} (h : OwnI B w l (.slice (some ⟨g, 0, none⟩) n c)) (m : Int → Nat) (j : Nat) (x : InoP) (hx : l[j]? = some x) :
    OwnI B (w.setCell ⟨g, j * 9 + 3, none⟩ (.int .i64 (m ((j : Int) + 1) : Int))) (l.set j (linkF m j x)) (.slice (some ⟨g, 0, none⟩) n c) :=
  ownI_set h j x (linkF m j x) hx 3 _ (by decide) (fun u => rfl) rfl rfl rfl rfl
theorem OwnI.below {B : Nat} {w w' : World} {l : List InoP} {v : Value} (h : OwnI B w l v) (hb : Below w.heap.size w w') : OwnI B w' l v := by
  obtain ⟨us, hu, hr, ha⟩ := h
  have hk : ∀ {e : TypeId} {s : Nat} {u : Value} {n : Nat} {xs : List Value}, w.ownsRow B e s u n xs → w'.ownsRow B e s u n xs := fun {e s u n xs} ho => World.ownsRow.kept ho (grown_below hb none) (by
    cases hk : u.ownBlock with
    | none => exact .inl rfl
    | some k => exact .inr (fun h => by cases h))
  exact ⟨us, hu, hk hr, fun i x u hx hu2 => by
    obtain ⟨s1, s2, s3, s4⟩ := ha i x u hx hu2
    exact ⟨hk s1, hk s2, hk s3, s4.below hb⟩⟩
end Go.Proofs.YtojhlhpbhoeplaaGreatDoor.Lw
namespace Go.Proofs.YtojhlhpbhoeplaaGreatDoor.Lw
open Go.RowKit Go.Lib Go.Proofs.YtojhlhpbhoeplaaGreatDoor.Sh Go.Proofs.YtojhlhpbhoeplaaGreatDoor.Lb Go.Maps

theorem aft_get {α : Type} {p : List UInt8 → Option (α × List UInt8)} {s : Option (List UInt8)} {x : α} {r : List UInt8} (h : Aft p s x (some r)) : ∃ l, s = some l ∧ p l = some (x, r) := by
  cases s with
  | none => exact absurd h (fun h => by cases h)
  | some l =>
    unfold Aft at h
    rw [show (some l).bind p = p l from rfl] at h
    cases hp : p l with
    | none => rw [hp] at h; cases h
    | some u =>
      rw [hp] at h
      obtain ⟨h1, h2⟩ := h
      injection h2 with h2
      exact ⟨l, rfl, by rw [hp, h1, h2]⟩
theorem aft_of {α : Type} {p : List UInt8 → Option (α × List UInt8)} {l r : List UInt8} {x y : α} {s' : Option (List UInt8)} (h : Aft p (some l) x s') (hp : p l = some (y, r)) : x = y ∧ s' = some r := by
  unfold Aft at h
  rw [show (some l).bind p = p l from rfl, hp] at h
  exact h
theorem parse_img (b : List UInt8) : pImg b = (afterMark b).bind fun l => match pNum 32768 l with | none => none | some (n, r) => pRow pIno n.toNat r := by
  unfold pImg afterMark
  by_cases h : b.take 4 = markL
  · rw [if_pos h, if_pos h]
    show pMany 32768 pIno _ = match pNum 32768 _ with | none => none | some (n, r) => pRow pIno n.toNat r
    unfold pMany pMap pSeq
    cases pNum 32768 (b.drop 4) with
    | none => rfl
    | some u =>
      obtain ⟨n, r⟩ := u
      simp only
      cases pRow pIno n.toNat r with
      | none => rfl
      | some v => rfl
  · rw [if_neg h, if_neg h]
    rfl
theorem read_parse {b : List UInt8} {n : Nat} {s1 s2 s3 : Option (List UInt8)} {xs : List InoP} (h1 : Aft (pNum 32768) (afterMark b) (n : Int) s1) (h2 : Aft (pRow pIno n) s1 xs s2) (h3 : AtEnd s2 s3) :
    (∃ z, s3 = some z ∧ pImg b = some (xs, z) ∧ ∀ c ∈ z, c = 0) ∨ (s3 = none ∧ ¬ ∃ l, IsFs ltB nameOk b l) := by
  have key : ∀ z, s2 = some z → pImg b = some (xs, z) := fun z hz => by
    subst hz
    obtain ⟨l1, rfl, e2⟩ := aft_get h2
    obtain ⟨l0, e0, e1⟩ := aft_get h1
    rw [parse_img, e0]
    show (match pNum 32768 l0 with | none => none | some (n, r) => pRow pIno n.toNat r) = _
    rw [e1]
    exact e2
  rcases h3 with ⟨rfl, rfl⟩ | ⟨z, rfl, h4, rfl⟩ | ⟨z, rfl, h4, rfl⟩
  · refine .inr ⟨rfl, fun ⟨l, hl⟩ => ?_⟩
    obtain ⟨k, e1, _⟩ := isFs_back nameOk_len hl
    rw [parse_img] at e1
    cases hm : afterMark b with
    | none => rw [hm] at e1; cases e1
    | some l0 =>
      rw [hm] at h1 e1
      have e2 : (match pNum 32768 l0 with | none => none | some (n, r) => pRow pIno n.toNat r) = some (l.map bare, List.replicate k 0) := e1
      cases hp : pNum 32768 l0 with
      | none => rw [hp] at e2; cases e2
      | some u =>
        obtain ⟨n', r⟩ := u
        rw [hp] at e2
        obtain ⟨e3, rfl⟩ := aft_of h1 hp
        subst e3
        obtain ⟨_, e4⟩ := aft_of h2 e2
        cases e4
  · exact .inl ⟨z, rfl, key z rfl, h4⟩
  · refine .inr ⟨rfl, fun ⟨l, hl⟩ => ?_⟩
    obtain ⟨k, e1, _⟩ := isFs_back nameOk_len hl
    have e2 := key z rfl
    rw [e2] at e1
    injection e1 with e1
    injection e1 with _ e1
    subst e1
    exact h4 (fun c hc => (List.mem_replicate.1 hc).2)
/-- what read answers -/
def ReadA (a : Addr) (b : List UInt8) (w : World) (e : Ending) (w' : World) : Prop :=
  Below w.heap.size w w' ∧ ((∃ l ao c, e = .returned (.tuple #[.agg #[.slice ao l.length c, .int .i64 ((l.length : Int) + 1)], .nilIface]) ∧ IsFs ltB nameOk b l ∧ OwnI w.heap.size w' l (.slice ao l.length c) ∧ ∀ x ∈ l, Small x)
    ∨ ∃ ao n c k ev, e = .returned (.tuple #[.agg #[.slice ao n c, .int .i64 k], ev]) ∧ (¬ ∃ l, IsFs ltB nameOk b l) ∧ Flaw a ev)
/-- a row of inodes, where it stands -/
theorem ownI_at' {B : Nat} {w : World} {l : List InoP} {ao : Option Addr} {n c : Nat} (h : OwnI B w l (.slice ao n c)) (hne : l ≠ []) (hs : ∀ x ∈ l, Small x) : ∃ g o, ao = some ⟨g, o, none⟩ ∧ o = 0 ∧ B ≤ g ∧ g < w.heap.size ∧ (∀ j, w.frozen? ⟨g, j, none⟩ = false) ∧
    ∀ (j : Nat) (x : InoP), l[j]? = some x → ∃ da dn dc na nn nc za zn zc aa an ac, At9 w g (o + j * 9) x da dn dc na nn nc za zn zc aa an ac := by
  obtain ⟨g, c', h1, h2, h3, h4⟩ := ownI_at h hne
  injection h1 with h1 _ _
  subst h1
  obtain ⟨ao2, c2, e1, _, _, _, hi⟩ := ownI_irw h hs
  injection e1 with e1 _ _
  subst e1
  obtain ⟨b, o, e2, _, e3⟩ := hi hne
  injection e2 with e2
  injection e2 with e4 e5 _
  subst e4
  subst e5
  exact ⟨g, 0, rfl, rfl, h2, h3, h4, fun j x hx => by
    obtain ⟨da, dn, dc, na, nn, nc, za, zn, zc, aa, an, ac, h9, _⟩ := e3 j x hx
    exact ⟨da, dn, dc, na, nn, nc, za, zn, zc, aa, an, ac, h9⟩⟩
theorem ownI_num' {B : Nat} {w : World} {l : List InoP} {g o n c : Nat} (h : OwnI B w l (.slice (some ⟨g, o, none⟩) n c)) (ho : o = 0) (j : Nat) (x : InoP) (hx : l[j]? = some x) :
    OwnI B (w.setCell ⟨g, o + j * 9, none⟩ (.int .i64 ((j : Int) + 1))) (l.set j (numF j x)) (.slice (some ⟨g, o, none⟩) n c) := by
  subst ho
  rw [Nat.zero_add]
  exact ownI_num h j x hx
theorem ownI_link' {B : Nat} {w : World} {l : List InoP} {g o n c : Nat} (h : OwnI B w l (.slice (some ⟨g, o, none⟩) n c)) (ho : o = 0) (m : Int → Nat) (j : Nat) (x : InoP) (hx : l[j]? = some x) :
    OwnI B (w.setCell ⟨g, o + j * 9 + 3, none⟩ (.int .i64 (m ((j : Int) + 1) : Int))) (l.set j (linkF m j x)) (.slice (some ⟨g, o, none⟩) n c) := by
  subst ho
  rw [Nat.zero_add]
  exact ownI_link h m j x hx
theorem set_two {w W : World} {g : Nat} {x0 x1 : Value} {t : TypeId} (K : Sh.Blk W g [x0, x1] t) (hb : Below w.heap.size w W) (hg : w.heap.size ≤ g) (v0 v1 : Value) :
    Sh.Blk ((W.setCell ⟨g, 0, none⟩ v0).setCell ⟨g, 1, none⟩ v1) g [v0, v1] t ∧ Below w.heap.size w ((W.setCell ⟨g, 0, none⟩ v0).setCell ⟨g, 1, none⟩ v1) := by
  constructor
  · have h1 := (K.set 0 v0).set 1 v1
    simpa using h1
  · exact below_gb hb (grownBy_trans (grownBy_setCell W g 0 v0) (grownBy_setCell _ g 1 v1)) (fun j hj => by injection hj with hj; omega) (Nat.le_refl _)
theorem set_two_low {W : World} {g h : Nat} {cs : List Value} {t : TypeId} (K : Sh.Blk W g cs t) (hg : g ≠ h) (v0 v1 : Value) : Sh.Blk ((W.setCell ⟨h, 0, none⟩ v0).setCell ⟨h, 1, none⟩ v1) g cs t :=
  blk_grown K (grownBy_trans (grownBy_setCell W h 0 v0) (grownBy_setCell _ h 1 v1)) hg
theorem size26 : (Tryz.prog.info? 26).map (·.size) = some 2 := by kernel_rfl
theorem isFs_nums {b z : List UInt8} {xs : List InoP} {l : List InoP} (hp : pImg b = some (xs, z)) (h : IsFs ltB nameOk b l) : setNums xs = l.map unlinked ∧ OkInos ltB nameOk (setNums xs) ((xs.length : Int) + 1) := by
  obtain ⟨k, e1, e2, e3, _⟩ := isFs_back nameOk_len h
  rw [hp] at e1
  injection e1 with e1
  injection e1 with e1 _
  rw [e1, e2, List.length_map]
  exact ⟨rfl, e3⟩
theorem isFs_links {b z : List UInt8} {xs : List InoP} {l : List InoP} {m : Int → Nat} (hp : pImg b = some (xs, z)) (h : IsFs ltB nameOk b l) (hm : Meets (numsAt (setNums xs)) m) : OkLinks (setLinks m (setNums xs)) m := by
  obtain ⟨k, e1, e2, e3, e4⟩ := isFs_back nameOk_len h
  rw [hp] at e1
  injection e1 with e1
  injection e1 with e1 _
  rw [e1, e2] at hm ⊢
  obtain ⟨h1, h2⟩ := e4 m hm
  rw [h1]
  exact h2
set_option maxHeartbeats 16000000 in
set_option maxRecDepth 100000 in
theorem read_any (a : Addr) (ao : Option Addr) (b : List UInt8) (m c : Nat) (w : World) (he : Env w a) (hb : Byt w ao b) (hn : ao = none → c = 0) (hl : b.length = m) (hc : m ≤ c) (hcm : c ≤ 9223372036854775807) (h47 : m ≤ 140737488355328) (hfar : ∀ x, ao = some x → x.block < w.heap.size) :
    Calls Tryz.prog 18 #[.slice ao m c] w (ReadA a b w) := by
  have hmf : ∀ (fn : Fn) (first cap : Array Value) (w : World), (Instr.makeFunc fn first cap).run Tryz.prog w = .ok (.func fn first cap) w := fun _ _ _ _ => rfl
  obtain ⟨w2, hw2⟩ : ∃ w2, w2 = (w.alloc (.cells #[.slice none 0 0, .int .i64 0] 26)).alloc (.cells #[.slice ao m c, .nilIface] 67) := ⟨_, rfl⟩
  have b2 : Below w.heap.size w w2 := by rw [hw2]; exact ((Below.refl _ w).alloc (Nat.le_refl _) _).alloc (by simp) _
  have k2 : Sh.Blk w2 w.heap.size [.slice none 0 0, .int .i64 0] 26 := by rw [hw2]; exact (Sh.Blk.new w [.slice none 0 0, .int .i64 0] 26 _ rfl).alloc _
  have s2 : w2.heap.size = w.heap.size + 1 + 1 := by rw [hw2]; simp
  have r2 : Rdr w2 (w.heap.size + 1) a (some b) := ⟨ao, m, c, .nilIface, { blk := by rw [hw2]; exact Sh.Blk.new (w.alloc (.cells #[.slice none 0 0, .int .i64 0] 26)) [.slice ao m c, .nilIface] 67 _ (by simp), byt := hb.below b2, hn := hn, len := hl, cap := hc, max := hcm, most := h47, far := fun x hx => by have := hfar x hx; omega, err := he.err.below b2, sen := he.sen.below b2, one := by have := he.two; omega }, .inl ⟨b, rfl, rfl⟩⟩
  have E0 := Lib.hid he
  have B2 := Lib.hid b2
  have K2 := Lib.hid k2
  have HW2 := Lib.hid hw2
  have S2 := Lib.hid s2
  have C := Lib.hid (begin_any (w.heap.size + 1) a b w2 r2)
  clear he hb hn hl hc hcm h47 hfar b2 k2 s2 r2 hw2
  go_enter Tryz.func18, Tryz.ntmps18
  go_wp2_with fail
  rw [← HW2.out]
  refine C.out.mono ?_
  clear C HW2
  rintro e w3 ⟨rfl, hg, hr⟩
  have B3 := Lib.hid (below_gb B2.out hg (fun j hj => by injection hj with hj; omega) (Nat.le_refl _))
  have K3 := Lib.hid (blk_grown K2.out hg (by omega))
  have S3 : Hid (w.heap.size + 1 + 1 ≤ w3.heap.size) := by show _ ≤ _; have := hg.size; have := S2.out; omega
  have C := Lib.hid (number_rd (w.heap.size + 1) a (afterMark b) w3 hr)
  clear hg hr B2 K2 S2
  go_wp2_with fail
  refine C.out.mono ?_
  clear C
  rintro e w4 ⟨hg, x, v, s1, rfl, ⟨rfl, hx0, hx1⟩, hr, ha⟩
  obtain ⟨n, rfl⟩ : ∃ n : Nat, x = (n : Int) := ⟨x.toNat, by omega⟩
  have B4 := Lib.hid (below_gb B3.out hg (fun j hj => by injection hj with hj; omega) (Nat.le_refl _))
  have K4 := Lib.hid (blk_grown K3.out hg (by omega))
  have S4 : Hid (w.heap.size + 1 + 1 ≤ w4.heap.size) := by show _ ≤ _; have := hg.size; have := S3.out; omega
  have A1 := Lib.hid ha
  have C := Lib.hid (several_inode (w.heap.size + 1) a s1 n (by omega) w4 hr)
  have hn32 : n ≤ 32768 := by omega
  clear hg hr ha hx0 hx1 B3 K3 S3
  go_wp2_with fail
  refine C.out.mono ?_
  clear C hmf
  rintro e w5 ⟨hg, xs, v, s2, rfl, ⟨hv, hle⟩, hr, ha⟩
  obtain ⟨ap, cp, rfl⟩ := vinos_len hv
  obtain ⟨q, hq⟩ : ∃ q, q = xs.length := ⟨_, rfl⟩
  rw [← hq]
  rw [← hq] at hv
  have HQ := Lib.hid hq
  have QN : Hid (q ≤ 32768) := by show _ ≤ _; omega
  have B5 := Lib.hid (below_gb B4.out hg (fun j hj => by injection hj with hj; omega) (Nat.le_refl _))
  have K5 := Lib.hid (blk_grown K4.out hg (by omega))
  have V5 := Lib.hid hv
  have A2 := Lib.hid ha
  have C := Lib.hid (end_any (w.heap.size + 1) a s2 w5 hr)
  have S5 : Hid (w4.heap.size ≤ w5.heap.size) := hg.size
  clear hg hr ha hv hq hle hn32 B4 K4
  go_wp2_with fail
  refine C.out.mono ?_
  clear C
  rintro e w6 ⟨rfl, hg, s3, hr, ha⟩
  have B6 := Lib.hid (below_gb B5.out hg (fun j hj => by injection hj with hj; omega) (Nat.le_refl _))
  have K6 := Lib.hid (blk_grown K5.out hg (by omega))
  have V6 := Lib.hid (V5.out.kept hg (by have := S4.out; omega))
  have S6 : Hid (w4.heap.size ≤ w6.heap.size) := Nat.le_trans S5.out hg.size
  have RES := Lib.hid (read_parse A1.out A2.out ha)
  obtain ⟨ra, rm, rc, ev, hrp, hev⟩ := hr
  have e1 := hrp.blk.cell 1
  simp only [List.getElem?_cons_zero, List.getElem?_cons_succ] at e1
  clear hrp hg ha A1 A2 B5 K5 V5 S5
  rcases hev with ⟨z, rfl, rfl⟩ | ⟨rfl, hfl⟩
  rotate_left
  · obtain ⟨x, rfl⟩ := flaw_iface hfl
    have FL := Lib.hid hfl
    have NO : Hid (¬ ∃ l, IsFs ltB nameOk b l) := by
      rcases RES.out with ⟨z, h, _⟩ | ⟨_, h⟩
      · cases h
      · exact h
    have f0 := K6.out.frozen 0
    have f1 := K6.out.frozen 1
    have c0 := K6.out.cell 0
    have c1 := K6.out.cell 1
    simp only [List.getElem?_cons_zero, List.getElem?_cons_succ] at c0 c1
    clear hfl RES
    go_wp2_with fail
    go_region
    all_goals
      go_wp2
      obtain ⟨KZ, BZ⟩ := set_two K6.out B6.out (Nat.le_refl _) (.slice none 0 0) (.int .i64 0)
      exact bodyPost_ret (results_row_tmp rfl _ _ w.heap.size 26 _ _ (.iface 107 x) rfl rfl KZ Tryz.underlying26 rfl size26) rfl ⟨BZ.drew, .inr ⟨none, 0, 0, 0, _, rfl, NO.out, FL.out⟩⟩
  obtain ⟨z', hz', hp, hz⟩ : ∃ z', some z = some z' ∧ pImg b = some (xs, z') ∧ ∀ c ∈ z', c = 0 := by
    rcases RES.out with h | ⟨h, _⟩
    · exact h
    · cases h
  injection hz' with hz'
  subst hz'
  have PI := Lib.hid hp
  have HZ := Lib.hid hz
  have SM := Lib.hid V6.out.2
  have O6 := Lib.hid V6.out.1
  clear hp hz RES V6
  go_wp2_with fail
  go_loopw [37] (fun vi wr => ∃ i : Nat, i ≤ q ∧ vi = .int .i64 i ∧ Hid (OwnI w4.heap.size wr (mixTo numF i xs) (.slice ap q cp)) ∧ Hid (Below w.heap.size w wr) ∧ Hid (Sh.Blk wr w.heap.size [.slice none 0 0, .int .i64 0] 26) ∧ Hid (w6.heap.size ≤ wr.heap.size)) (fun vi _ => q - (RowKit.intOf vi).toNat)
  case atStart => exact ⟨0, by omega, rfl, (by rw [mix_zero]; exact O6.out : OwnI _ _ _ _), B6.out, K6.out, Nat.le_refl _⟩
  case round =>
    clear O6 B6 K6 e1
    obtain ⟨i, hi, rfl, hO, hB, hK, hS⟩ := hrel
    by_cases hin : i < q
    · have q1 : (0 : Int) ≤ (i : Int) := by omega
      have q2 : (i : Int) < (q : Int) := by omega
      obtain ⟨x, hx⟩ : ∃ x, xs[i]? = some x := ⟨_, List.getElem?_eq_getElem (by have := HQ.out; omega)⟩
      obtain ⟨g, o, hao, ho, hBg, hgl, hfr, hat⟩ := ownI_at' hO.out (fun h => by have h2 := congrArg List.length h; rw [mix_len] at h2; have := HQ.out; rw [List.length_nil] at h2; omega) (small_mix small_num SM.out i)
      subst hao
      obtain ⟨da, dn, dc, na, nn, nc, za, zn, zc, aa, an, ac, h9⟩ := hat i x (mix_here hx)
      have k0 := h9.k0
      have f0 := hfr (o + i * 9)
      have hwr : IntKind.i64.wrap ((i : Int) + 1) = (i : Int) + 1 := by have := QN.out; rw [IntKind.wrap]; simp [IntKind.bits, IntKind.signed]; omega
      have O7 : Hid (OwnI w4.heap.size (wr.setCell ⟨g, o + i * 9, none⟩ (.int .i64 ((i : Int) + 1))) (mixTo numF (i + 1) xs) (.slice (some ⟨g, o, none⟩) q cp)) := by
        show OwnI _ _ _ _
        rw [mix_more hx]
        exact ownI_num' hO.out ho i x (mix_here hx)
      have gs := grownBy_setCell wr g (o + i * 9) (.int .i64 ((i : Int) + 1))
      have B7 := Lib.hid (below_gb hB.out gs (fun j hj => by injection hj with hj; have := S4.out; omega) (Nat.le_refl _))
      have K7 := Lib.hid (blk_grown hK.out gs (by have := S4.out; omega))
      have S7 : Hid (w6.heap.size ≤ (wr.setCell ⟨g, o + i * 9, none⟩ (.int .i64 ((i : Int) + 1))).heap.size) := Nat.le_trans hS.out gs.size
      clear hx ho hBg hgl hfr hat h9 gs hO hB hK hS
      go_wp2_with fail
      go_roundw
      case rel => exact ⟨i + 1, by omega, by go_num, O7.out, B7.out, K7.out, S7.out⟩
      case measure => simp [RowKit.intOf]; omega
    · obtain rfl : i = q := by omega
      have NS : mixTo numF i xs = setNums xs := by rw [HQ.out, mix_all]; rfl
      rw [NS] at hO
      obtain ⟨ys, hys⟩ : ∃ ys, ys = setNums xs := ⟨_, rfl⟩
      rw [← hys] at hO
      have YL : ys.length = i := by rw [hys, setNums_len, ← HQ.out]
      have SY : Hid (∀ y ∈ ys, Small y) := by
        show ∀ y ∈ ys, _
        rw [hys, ← NS]
        exact small_mix small_num SM.out i
      have YS := Lib.hid hys
      obtain ⟨ap', cp', e, hqc, hcm, hze, hirw⟩ := ownI_irw hO.out SY.out
      injection e with e3 e5 e4
      clear e5 hze
      subst e3
      subst e4
      rw [YL] at hqc
      obtain ⟨F, hF⟩ : ∃ F, F = wr.heap.size := ⟨_, rfl⟩
      obtain ⟨wF, hwF⟩ : ∃ wF, wF = wr.alloc (.cells #[.slice ap i cp, .int .i64 ((i : Int) + 1)] 26) := ⟨_, rfl⟩
      have bF : Below wr.heap.size wr wF := by rw [hwF]; exact (Below.refl _ wr).alloc (Nat.le_refl _) _
      have kF : Sh.Blk wF F [.slice ap i cp, .int .i64 ((i : Int) + 1)] 26 := by rw [hwF]; exact Sh.Blk.new wr [.slice ap i cp, .int .i64 ((i : Int) + 1)] 26 _ hF
      have hwr : IntKind.i64.wrap ((i : Int) + 1) = (i : Int) + 1 := by have := QN.out; rw [IntKind.wrap]; simp [IntKind.bits, IntKind.signed]; omega
      have FAR : Hid (∀ x, ap = some x → w4.heap.size ≤ x.block ∧ x.block < F) := by
        show ∀ x, _
        intro x hx
        obtain ⟨us, _, hr, _⟩ := hO.out
        rw [hF]
        exact World.ownsRow.lt hr x.block (by rw [hx]; rfl)
      have BF := Lib.hid (below_chain hB.out bF)
      have OF := Lib.hid (hO.out.below bF)
      have KF := Lib.hid (hK.out.low bF)
      have KFF := Lib.hid kF
      have FF : Hid (w6.heap.size ≤ F) := by show _ ≤ _; rw [hF]; exact hS.out
      have HYL := Lib.hid YL
      have HWF := Lib.hid hwF
      have FSZ : Hid (F < wF.heap.size) := kF.lt
      have HCM := Lib.hid hcm
      have HQC := Lib.hid hqc
      have C := Lib.hid (checkinodes_any a ap ys i cp ((i : Int) + 1) wF (E0.out.below BF.out) (hirw.below bF) YL hqc hcm)
      have HFW := Lib.hid hF
      clear hO hB hK hS NS hys YL hirw hqc hcm bF kF hwF hF
      go_wp2_with fail
      rw [← HWF.out, ← HFW.out]
      clear HWF hwr HFW
      refine C.out.mono ?_
      clear C
      rintro e w7 ⟨hb, v, rfl, hv⟩
      have B7 := Lib.hid (below_chain BF.out hb)
      have K7 := Lib.hid (KF.out.low hb)
      have F7 := Lib.hid (KFF.out.low hb)
      have O7 := Lib.hid (OF.out.below hb)
      have S7 : Hid (F < w7.heap.size) := Nat.lt_of_lt_of_le FSZ.out hb.size
      clear hb BF KF KFF OF FSZ
      rcases hv with ⟨hok, rfl⟩ | ⟨hno, hfl⟩
      rotate_left
      · obtain ⟨x, rfl⟩ := flaw_iface hfl
        have FL := Lib.hid hfl
        have NO : Hid (¬ ∃ l, IsFs ltB nameOk b l) := fun ⟨l, hl⟩ => hno (by
          have h2 := (isFs_nums PI.out hl).2
          rw [← HQ.out, ← YS.out] at h2
          exact h2)
        have f0 := K7.out.frozen 0
        have f1 := K7.out.frozen 1
        have c0 := K7.out.cell 0
        have c1 := K7.out.cell 1
        simp only [List.getElem?_cons_zero, List.getElem?_cons_succ] at c0 c1
        clear hno hfl
        go_wp2_with fail
        obtain ⟨KZ, BZ⟩ := set_two K7.out B7.out (Nat.le_refl _) (.slice none 0 0) (.int .i64 0)
        exact bodyPost_ret (results_row_tmp rfl _ _ w.heap.size 26 _ _ (.iface 107 x) rfl rfl KZ Tryz.underlying26 rfl size26) rfl ⟨BZ, .inr ⟨none, 0, 0, 0, _, rfl, NO.out, FL.out⟩⟩
      have OK := Lib.hid hok
      have I7 : Irw w7 ap ys := by
        obtain ⟨ap', cp', e, _, _, _, hirw⟩ := ownI_irw O7.out SY.out
        injection e with e3 e5 e4
        subst e3
        exact hirw
      have C := Lib.hid (meet_any ap ys i cp w7 I7 HYL.out HQC.out HCM.out (meetOk_of hok))
      clear hok I7
      go_wp2_with fail
      refine C.out.mono ?_
      clear C
      rintro e w8 ⟨hb, mb, m', C, cnt, rfl, hm, hM, hown, hmb⟩
      have B8 := Lib.hid (below_chain B7.out hb)
      have K8 := Lib.hid (K7.out.low hb)
      have F8 := Lib.hid (F7.out.low hb)
      have O8 := Lib.hid (O7.out.below hb)
      have HM := Lib.hid hm
      have MM := Lib.hid hM
      have OW := Lib.hid hown
      have FMB : Hid (F < mb) := Nat.lt_of_lt_of_le S7.out hmb
      clear hb hm hM hown hmb B7 K7 F7 O7
      go_wp2_with fail
      go_loopw [62] (fun vi wr => ∃ j : Nat, j ≤ i ∧ vi = .int .i64 j ∧ Hid (OwnI w4.heap.size wr (mixTo (linkF m') j ys) (.slice ap i cp)) ∧ Hid (Below w.heap.size w wr) ∧ Hid (Sh.Blk wr w.heap.size [.slice none 0 0, .int .i64 0] 26) ∧ Hid (Sh.Blk wr F [.slice ap i cp, .int .i64 ((i : Int) + 1)] 26) ∧ Hid (wr.ownsMap Tryz.prog 3 (plainElem Tryz.prog 3) mb cnt C)) (fun vi _ => i - (RowKit.intOf vi).toNat)
      case atStart => exact ⟨0, by omega, rfl, (by rw [mix_zero]; exact O8.out : OwnI _ _ _ _), B8.out, K8.out, F8.out, OW.out⟩
      case round =>
        clear O8 B8 K8 F8 OW
        obtain ⟨j, hj, rfl, hO, hB, hK, hF, hM⟩ := hrel
        by_cases hji : j < i
        · have q1 : (0 : Int) ≤ (j : Int) := by omega
          have q2 : (j : Int) < (i : Int) := by omega
          obtain ⟨x0, hx0⟩ : ∃ x, xs[j]? = some x := ⟨_, List.getElem?_eq_getElem (by have := HQ.out; omega)⟩
          have hx : ys[j]? = some (numF j x0) := by rw [YS.out, setNums_get, hx0]; rfl
          obtain ⟨g, o, hao, ho, hBg, hgl, hfr, hat⟩ := ownI_at' hO.out (fun h => by have h2 := congrArg List.length h; rw [mix_len] at h2; have := HYL.out; rw [List.length_nil] at h2; omega) (small_mix (small_link m') SY.out j)
          subst hao
          have hgF : w4.heap.size ≤ g ∧ g < F := FAR.out ⟨g, o, none⟩ rfl
          obtain ⟨da, dn, dc, na, nn, nc, za, zn, zc, aa, an, ac, h9⟩ := hat j _ (mix_here hx)
          obtain ⟨x0n, xk, xm, xl, xd, xt, xs0, xz, xa⟩ := x0
          have k0 : wr.cell? ⟨g, o + j * 9, none⟩ = some (.int .i64 ((j : Int) + 1)) := h9.k0
          have k1 := h9.k1
          have k2 := h9.k2
          have k3 := h9.k3
          have k4 := h9.k4
          have k5 := h9.k5
          have k6 := h9.k6
          have k7 := h9.k7
          have k8 := h9.k8
          simp only [numF] at k0 k1 k2 k3 k4 k5 k6 k7 k8
          obtain ⟨wb, hwb⟩ : ∃ wb, wb = wr.alloc (.cells #[.int .i64 ((j : Int) + 1), .int .i64 xk, .int .i64 xm, .int .i64 xl, .slice da dn dc, .string xt, .slice na nn nc, .slice za zn zc, .slice aa an ac] 46) := ⟨_, rfl⟩
          have bb : Below wr.heap.size wr wb := by rw [hwb]; exact (Below.refl _ wr).alloc (Nat.le_refl _) _
          have keyA : keyOf Tryz.prog 3 (.int .i64 ((j : Int) + 1)) = some (.int .i64 ((j : Int) + 1)) := keyOf_int_mk Tryz.underlying3 (WalkArith.wf_i64 (by have := QN.out; omega))
          have hMb := hM.out.kept (grown_below bb none) (by simp)
          obtain ⟨cc, hrun, hct, _⟩ := hMb.lookup_int law3 Tryz.underlying71 Tryz.underlying3 (zero3 _) keyA
          have hcc : cc = (m' ((j : Int) + 1) : Int) := by
            rw [MM.out] at hct
            exact (Lit.int.inj (DataW.lit.inj hct)).2.symm
          have l3 : wb.cell? ⟨g, o + j * 9 + 3, none⟩ = some (.int .i64 xl) := (bb.cell (p := ⟨g, _, none⟩) hgl).trans k3
          have f3 : wb.frozen? ⟨g, o + j * 9 + 3, none⟩ = false := (Below.frozen bb (p := ⟨g, _, none⟩) hgl).trans (hfr _)
          have O9 : Hid (OwnI w4.heap.size (wb.setCell ⟨g, o + j * 9 + 3, none⟩ (.int .i64 cc)) (mixTo (linkF m') (j + 1) ys) (.slice (some ⟨g, o, none⟩) i cp)) := by
            show OwnI _ _ _ _
            rw [mix_more hx, hcc]
            exact ownI_link' (hO.out.below bb) ho m' j _ (mix_here hx)
          have gs := grownBy_setCell wb g (o + j * 9 + 3) (.int .i64 cc)
          have B9 := Lib.hid (below_gb (below_chain hB.out bb) gs (fun j hj => by injection hj with hj; have := S4.out; omega) (Nat.le_refl _))
          have K9 := Lib.hid (blk_grown (hK.out.low bb) gs (by have := S4.out; omega))
          have F9 := Lib.hid (blk_grown (hF.out.low bb) gs (by omega))
          have M9 : Hid ((wb.setCell ⟨g, o + j * 9 + 3, none⟩ (.int .i64 cc)).ownsMap Tryz.prog 3 (plainElem Tryz.prog 3) mb cnt C) := hMb.kept gs (fun h => by injection h with h; have := FMB.out; omega)
          have hwj : IntKind.i64.wrap ((j : Int) + 1) = (j : Int) + 1 := by have := QN.out; rw [IntKind.wrap]; simp [IntKind.bits, IntKind.signed]; omega
          rw [hwb] at hrun l3 f3 O9 B9 K9 F9 M9
          clear hx0 hx ho hBg hgl hfr hat h9 gs hO hB hK hF hM hgF hcc hct hMb bb hwb
          go_wp2_with fail
          go_roundw
          case rel => exact ⟨j + 1, by omega, by go_num, O9.out, B9.out, K9.out, F9.out, M9.out⟩
          case measure => simp [RowKit.intOf]; omega
        · obtain rfl : j = i := by omega
          have ML : mixTo (linkF m') j ys = setLinks m' ys := by rw [← HYL.out, mix_all]; rfl
          rw [ML] at hO
          obtain ⟨zs, hzs⟩ : ∃ zs, zs = setLinks m' ys := ⟨_, rfl⟩
          rw [← hzs] at hO
          have ZL : zs.length = j := by rw [hzs, setLinks_len]; exact HYL.out
          have SZ : Hid (∀ y ∈ zs, Small y) := by
            show ∀ y ∈ zs, _
            rw [hzs, ← ML]
            exact small_mix (small_link m') SY.out j
          have hnum : ∀ (i : Nat) (x : InoP), zs[i]? = some x → x.num = (i : Int) + 1 := fun i x hx => by
            rw [hzs, setLinks_get] at hx
            obtain ⟨y, hy, rfl⟩ := Option.map_eq_some_iff.1 hx
            exact (OK.out.each i y hy).1
          have hirw : Irw wr ap zs := by
            obtain ⟨ap', cp', e, _, _, _, hirw⟩ := ownI_irw hO.out SZ.out
            injection e with e3 e5 e4
            subst e3
            exact hirw
          have h512 : j ≤ 512 := by have := OK.out.most; have := HYL.out; omega
          have CL : Hid (∀ W, Below wr.heap.size wr W → Calls Tryz.prog 37 #[.slice ap j cp, .map (some mb)] W (Chk W a (OkLinks zs m'))) := fun W hW =>
            checklinks_any a ap zs j cp mb cnt C m' W ((E0.out.below hB.out).sen.below hW) (hirw.below hW) ZL h512 MM.out (hM.out.kept (grown_below hW none) (by simp)) hnum
          have BQ := Lib.hid (Below.refl wr.heap.size wr).drew
          have fin : ∀ (ok : Prop), True := fun _ => trivial
          have g0 := hF.out.cell 0
          have g1 := hF.out.cell 1
          have f0 := hK.out.frozen 0
          have f1 := hK.out.frozen 1
          have c0 := hK.out.cell 0
          have c1 := hK.out.cell 1
          simp only [List.getElem?_cons_zero, List.getElem?_cons_succ] at g0 g1 c0 c1
          have HO := Lib.hid hO.out
          have HB := Lib.hid hB.out
          have HK := Lib.hid hK.out
          have HF := Lib.hid hF.out
          have HZS := Lib.hid hzs
          have HZL := Lib.hid ZL
          clear hO hB hK hF hM ML hzs ZL hnum hirw h512 fin
          go_wp2_with fail
          go_region_law (first
            | (go_simp; go_at_call 37; (with_reducible refine (CL.out _ BQ.out).mono ?_); rintro e w9 ⟨b9, v, rfl, hv⟩
               have l0 := ((HF.out.drew).low b9).cell 0
               have l1 := ((HF.out.drew).low b9).cell 1
               have m0 := ((HK.out.drew).low b9).cell 0
               have m1 := ((HK.out.drew).low b9).cell 1
               have n0 := ((HK.out.drew).low b9).frozen 0
               have n1 := ((HK.out.drew).low b9).frozen 1
               simp only [List.getElem?_cons_zero, List.getElem?_cons_succ] at l0 l1 m0 m1))
          all_goals
            have bw : Below wr.heap.size wr w9 := below_chain BQ.out b9
            obtain ⟨KZ, BZ⟩ := set_two ((HK.out.drew).low b9) (below_chain HB.out bw) (Nat.le_refl _) (.slice ap j cp) (.int .i64 ((j : Int) + 1))
            have OZ := ((HO.out.below bw).kept (grownBy_trans (grownBy_setCell w9 w.heap.size 0 (.slice ap j cp)) (grownBy_setCell _ w.heap.size 1 (.int .i64 ((j : Int) + 1)))) (by have := S4.out; omega)).low (B' := w.heap.size) (by have := S4.out; omega)
            have KZ' := Lib.hid KZ
            have BZ' := Lib.hid BZ
            have OZ' := Lib.hid OZ
            clear KZ BZ OZ bw b9 l0 l1 m0 m1 n0 n1
            rcases hv with ⟨h1, rfl⟩ | ⟨h1, h2⟩
            · have FS : Hid (IsFs ltB nameOk b zs) := by
                show IsFs _ _ _ _
                rw [HZS.out, YS.out] at h1 ⊢
                have h3 := OK.out
                have h4 := HM.out
                rw [YS.out] at h3 h4
                exact isFs_mk PI.out HZ.out (by rw [← HQ.out]; exact h3) h4 h1
              clear h1
              go_wp2
              refine bodyPost_ret (results_row_tmp rfl _ _ w.heap.size 26 _ _ .nilIface rfl rfl KZ'.out Tryz.underlying26 rfl size26) rfl ⟨BZ'.out, .inl ⟨zs, ap, cp, ?_, FS.out, ?_, SZ.out⟩⟩
              · rw [HZL.out]
              · rw [HZL.out]; exact OZ'.out
            · obtain ⟨x, rfl⟩ := flaw_iface h2
              have NO : Hid (¬ ∃ l, IsFs ltB nameOk b l) := fun ⟨l, hl⟩ => h1 (by
                have h4 := HM.out
                rw [YS.out] at h4
                have h3 := isFs_links PI.out hl h4
                rw [HZS.out, YS.out]
                exact h3)
              have FL := Lib.hid h2
              clear h1 h2
              go_wp2
              exact bodyPost_ret (results_row_tmp rfl _ _ w.heap.size 26 _ _ (.iface 107 x) rfl rfl KZ'.out Tryz.underlying26 rfl size26) rfl ⟨BZ'.out, .inr ⟨ap, j, cp, (j : Int) + 1, _, rfl, NO.out, FL.out⟩⟩
end Go.Proofs.YtojhlhpbhoeplaaGreatDoor.Lw
namespace Go.Proofs.YtojhlhpbhoeplaaGreatDoor.Lw
open Go.RowKit Go.Lib Go.Proofs.YtojhlhpbhoeplaaGreatDoor.Sh Go.Proofs.YtojhlhpbhoeplaaGreatDoor.Lb

/-- what Get answers -/
def GetA (b : List UInt8) (w : World) (e : Ending) (w' : World) : Prop :=
  Below w.heap.size w w' ∧ ((∃ l ao c, e = .returned (.tuple #[.agg #[.slice ao l.length c, .int .i64 ((l.length : Int) + 1)], .int .i64 0]) ∧ IsFs ltB nameOk b l ∧ OwnI w.heap.size w' l (.slice ao l.length c) ∧ ∀ x ∈ l, Small x)
    ∨ (e = .returned (.tuple #[.agg #[.slice none 0 0, .int .i64 0], .int .i64 160]) ∧ ¬ ∃ l, IsFs ltB nameOk b l))
set_option maxHeartbeats 4000000 in
set_option maxRecDepth 100000 in
theorem lget_any (a : Addr) (ao : Option Addr) (b : List UInt8) (m c : Nat) (w : World) (he : Env w a) (hb : Byt w ao b) (hn : ao = none → c = 0) (hl : b.length = m) (hc : m ≤ c) (hcm : c ≤ 9223372036854775807) (h47 : m ≤ 140737488355328) (hfar : ∀ x, ao = some x → x.block < w.heap.size) :
    Calls Tryz.prog 9 #[.slice ao m c] w (GetA b w) := by
  obtain ⟨w1, hw1⟩ : ∃ w1, w1 = w.alloc (.cells #[.slice none 0 0, .int .i64 0] 26) := ⟨_, rfl⟩
  have b1 : Below w.heap.size w w1 := by rw [hw1]; exact (Below.refl _ w).alloc (Nat.le_refl _) _
  have k1 : Sh.Blk w1 w.heap.size [.slice none 0 0, .int .i64 0] 26 := by rw [hw1]; exact Sh.Blk.new w [.slice none 0 0, .int .i64 0] 26 _ rfl
  have s1 : w1.heap.size = w.heap.size + 1 := by rw [hw1]; simp
  have E1 := Lib.hid (he.below b1)
  have B1 := Lib.hid b1
  have K1 := Lib.hid k1
  have S1 := Lib.hid s1
  have HW1 := Lib.hid hw1
  have C := Lib.hid (read_any a ao b m c w1 E1.out (hb.below b1) hn hl hc hcm h47 (fun x hx => by have := hfar x hx; omega))
  clear he hb hn hl hc hcm h47 hfar b1 k1 s1 hw1
  go_enter Tryz.func9, Tryz.ntmps9
  go_wp2_with fail
  rw [← HW1.out]
  refine C.out.mono ?_
  clear C HW1
  rintro e w2 ⟨hb, hv⟩
  have B2 := Lib.hid (below_chain B1.out hb)
  have K2 := Lib.hid (K1.out.low hb)
  have E2 := Lib.hid (E1.out.below hb)
  have S2 : Hid (w.heap.size < w2.heap.size) := by show _ < _; have := hb.size; have := S1.out; omega
  clear hb B1 K1 E1
  rcases hv with ⟨l, ap, cp, rfl, hfs, ho, hs⟩ | ⟨ap, q, cp, k, ev, rfl, hno, hfl⟩
  · obtain ⟨q, hq⟩ : ∃ q, q = l.length := ⟨_, rfl⟩
    rw [← hq] at ho ⊢
    obtain ⟨w3, hw3⟩ : ∃ w3, w3 = w2.alloc (.cells #[.slice ap q cp, .int .i64 ((q : Int) + 1)] 26) := ⟨_, rfl⟩
    have b3 : Below w2.heap.size w2 w3 := by rw [hw3]; exact (Below.refl _ w2).alloc (Nat.le_refl _) _
    have k3 : Sh.Blk w3 w2.heap.size [.slice ap q cp, .int .i64 ((q : Int) + 1)] 26 := by rw [hw3]; exact Sh.Blk.new w2 [.slice ap q cp, .int .i64 ((q : Int) + 1)] 26 _ rfl
    have C := Lib.hid (errno_ok .nilIface a w3 (E2.out.sen.below b3) rfl)
    have B3 := Lib.hid (below_chain B2.out b3)
    have O3 := Lib.hid ((ho.below b3).low (B' := w1.heap.size) (Nat.le_refl _))
    have K3 := Lib.hid (K2.out.low b3)
    have HQ := Lib.hid hq
    have HFS := Lib.hid hfs
    have HS := Lib.hid hs
    have HW3 := Lib.hid hw3
    have g0 := k3.cell 0
    have g1 := k3.cell 1
    have c0 := K3.out.cell 0
    have c1 := K3.out.cell 1
    have f0 := K3.out.frozen 0
    have f1 := K3.out.frozen 1
    simp only [List.getElem?_cons_zero, List.getElem?_cons_succ] at g0 g1 c0 c1
    clear hq hfs ho hs hw3 b3 k3 B2 K2 E2
    go_wp2_with fail
    rw [← HW3.out]
    refine C.out.mono ?_
    clear C HW3
    rintro e w4 ⟨rfl, rfl⟩
    go_wp2_with fail
    obtain ⟨KZ, BZ⟩ := set_two K3.out B3.out (Nat.le_refl _) (.slice ap q cp) (.int .i64 ((q : Int) + 1))
    refine bodyPost_ret (results_row_tmp rfl _ _ w.heap.size 26 _ _ (.int .i64 0) rfl rfl KZ Tryz.underlying26 rfl size26) rfl ⟨BZ, .inl ⟨l, ap, cp, ?_, HFS.out, ?_, HS.out⟩⟩
    · rw [← HQ.out]
    · rw [← HQ.out]
      exact (O3.out.kept (grownBy_trans (grownBy_setCell w3 w.heap.size 0 (.slice ap q cp)) (grownBy_setCell _ w.heap.size 1 (.int .i64 ((q : Int) + 1)))) (by have := S1.out; omega)).low (by have := S1.out; omega)
  · obtain ⟨w3, hw3⟩ : ∃ w3, w3 = w2.alloc (.cells #[.slice ap q cp, .int .i64 k] 26) := ⟨_, rfl⟩
    have b3 : Below w2.heap.size w2 w3 := by rw [hw3]; exact (Below.refl _ w2).alloc (Nat.le_refl _) _
    have C := Lib.hid (errno_no ev a w3 (E2.out.sen.below b3) hfl)
    have B3 := Lib.hid (below_chain B2.out b3)
    have K3 := Lib.hid (K2.out.low b3)
    have NO := Lib.hid hno
    have HW3 := Lib.hid hw3
    obtain ⟨x, rfl⟩ := flaw_iface hfl
    clear hfl hno hw3 b3 B2 K2 E2
    go_wp2_with fail
    rw [← HW3.out]
    refine C.out.mono ?_
    clear C HW3
    rintro e w4 ⟨rfl, hb⟩
    have B4 := Lib.hid (below_chain B3.out hb)
    have K4 := Lib.hid (K3.out.low hb)
    have c0 := K4.out.cell 0
    have c1 := K4.out.cell 1
    have f0 := K4.out.frozen 0
    have f1 := K4.out.frozen 1
    simp only [List.getElem?_cons_zero, List.getElem?_cons_succ] at c0 c1
    clear hb B3 K3
    go_wp2_with fail
    obtain ⟨KZ, BZ⟩ := set_two K4.out B4.out (Nat.le_refl _) (.slice none 0 0) (.int .i64 0)
    exact bodyPost_ret (results_row_tmp rfl _ _ w.heap.size 26 _ _ (.int .i64 160) rfl rfl KZ Tryz.underlying26 rfl size26) rfl ⟨BZ, .inr ⟨rfl, NO.out⟩⟩
end Go.Proofs.YtojhlhpbhoeplaaGreatDoor.Lw
namespace Go.Proofs.YtojhlhpbhoeplaaGreatDoor.Lw
open Go.RowKit Go.Lib Go.Proofs.YtojhlhpbhoeplaaGreatDoor.Sh Go.Proofs.YtojhlhpbhoeplaaGreatDoor.Lb

set_option maxHeartbeats 4000000 in
set_option maxRecDepth 100000 in
theorem attrs_same (ao bo : Option Addr) (l : List (ByteArray × List UInt8)) (n c d : Nat) (w : World) (h1 : Arw w ao l) (h2 : Arw w bo l) (hl : l.length = n) (hc : n ≤ c) (hcc : c ≤ 9223372036854775807) (hd : n ≤ d) :
    Calls Tryz.prog 50 #[.slice ao n c, .slice bo n d] w fun e w' => e = .returned (.bool true) ∧ Below w.heap.size w w' := by
  have H1 := Lib.hid h1
  have H2 := Lib.hid h2
  have HL := Lib.hid hl
  clear h1 h2 hl
  go_enter Tryz.func50, Tryz.ntmps50
  go_wp2_with fail
  go_loopw [5] (fun vi wr => ∃ i : Nat, i ≤ n ∧ vi = .int .i64 i ∧ Hid (Below w.heap.size w wr)) (fun vi _ => n - (RowKit.intOf vi).toNat)
  case atStart => exact ⟨0, by omega, rfl, Below.refl _ w⟩
  case round =>
    obtain ⟨i, hi, rfl, hB⟩ := hrel
    by_cases hin : i < n
    · obtain ⟨b, o, x, rfl, hb, hx, x0, _, ad, m, q, x1, hm, hmq, _, xb, xn⟩ := arw_cell H1.out i (by have := HL.out; omega)
      obtain ⟨b2, o2, y, rfl, hb2, hy, y0, _, bd, m2, q2, y1, hm2, hmq2, _, yb, yn⟩ := arw_cell H2.out i (by have := HL.out; omega)
      obtain rfl : x = y := by rw [hx] at hy; injection hy
      obtain ⟨s, v⟩ := x
      simp only at x0 hm xb y0 hm2 yb
      subst hm
      subst hm2
      have e0 := (hB.out.cell (p := ⟨b, o + i * 2, none⟩) hb).trans x0
      have e1 := (hB.out.cell (p := ⟨b, o + i * 2 + 1, none⟩) hb).trans x1
      have f0 := (hB.out.cell (p := ⟨b2, o2 + i * 2, none⟩) hb2).trans y0
      have f1 := (hB.out.cell (p := ⟨b2, o2 + i * 2 + 1, none⟩) hb2).trans y1
      have k1 : ∀ nn, (convert 22 9 (.slice ad v.length q)).run Tryz.prog (wr.drewN nn) = .ok (.string ⟨v.toArray⟩) (wr.drewN nn) := fun nn => conv_byt (P := Tryz.prog) (t := 22) (e := 5) (d := 9) Tryz.underlying22 Tryz.underlying5 Tryz.underlying9 ad v q (xb.below (below_drewN hB.out nn)) xn
      have k2 : ∀ nn, (convert 22 9 (.slice bd v.length q2)).run Tryz.prog (wr.drewN nn) = .ok (.string ⟨v.toArray⟩) (wr.drewN nn) := fun nn => conv_byt (P := Tryz.prog) (t := 22) (e := 5) (d := 9) Tryz.underlying22 Tryz.underlying5 Tryz.underlying9 bd v q2 (yb.below (below_drewN hB.out nn)) yn
      have q1 : (0 : Int) ≤ (i : Int) := by omega
      have q2' : (i : Int) < (n : Int) := by omega
      generalize v.length = vl at *
      generalize (⟨v.toArray⟩ : ByteArray) = vs at *
      clear x0 x1 y0 y1 hb hb2 hx hy hmq hmq2 xb xn yb yn
      go_wp2_with fail
      go_quiet (fail)
      generalize hwv : wr.drewN nq = wv at *
      have hB2 : Hid (Below w.heap.size w wv) := by show Below _ _ _; rw [← hwv]; exact below_drewN hB.out _
      clear hwv hB k1 k2
      go_wp2_with fail
      go_roundw
      case rel => exact ⟨i + 1, by omega, by go_num, hB2⟩
      case measure => simp [RowKit.intOf]; omega
    · obtain rfl : i = n := by omega
      go_wp2_with fail
      go_ret
      exact ⟨rfl, hB.out⟩
set_option maxHeartbeats 8000000 in
set_option maxRecDepth 100000 in
theorem inode_same (x : InoP) (da : Option Addr) (dn dc : Nat) (na : Option Addr) (nn nc : Nat) (za : Option Addr) (zn zc : Nat) (aa : Option Addr) (an ac : Nat) (da' : Option Addr) (dc' : Nat) (na' : Option Addr) (nc' : Nat) (za' : Option Addr) (zc' : Nat) (aa' : Option Addr) (ac' : Nat) (w : World)
    (h1 : IvP w x da dn dc na nn nc za zn zc aa an ac) (h2 : IvP w x da' dn dc' na' nn nc' za' zn zc' aa' an ac') :
    Calls Tryz.prog 29 #[.agg (ivC x da dn dc na nn nc za zn zc aa an ac).toArray, .agg (ivC x da' dn dc' na' nn nc' za' zn zc' aa' an ac').toArray] w fun e w' => e = .returned (.bool true) ∧ Below w.heap.size w w' := by
  obtain ⟨xn, xk, xm, xl, xd, xt, xs, xz, xa⟩ := x
  show Calls Tryz.prog 29 #[.agg #[.int .i64 xn, .int .i64 xk, .int .i64 xm, .int .i64 xl, .slice da dn dc, .string xt, .slice na nn nc, .slice za zn zc, .slice aa an ac], .agg #[.int .i64 xn, .int .i64 xk, .int .i64 xm, .int .i64 xl, .slice da' dn dc', .string xt, .slice na' nn nc', .slice za' zn zc', .slice aa' an ac']] w _
  obtain ⟨v0, hv0⟩ : ∃ v0, v0 = w.alloc (.cells #[.int .i64 xn, .int .i64 xk, .int .i64 xm, .int .i64 xl, .slice da dn dc, .string xt, .slice na nn nc, .slice za zn zc, .slice aa an ac] 46) := ⟨_, rfl⟩
  obtain ⟨wb, hwb⟩ : ∃ wb, wb = v0.alloc (.cells #[.int .i64 xn, .int .i64 xk, .int .i64 xm, .int .i64 xl, .slice da' dn dc', .string xt, .slice na' nn nc', .slice za' zn zc', .slice aa' an ac'] 46) := ⟨_, rfl⟩
  have sv : v0.heap.size = w.heap.size + 1 := by rw [hv0]; simp
  have b0 : Below w.heap.size w v0 := by rw [hv0]; exact (Below.refl _ w).alloc (Nat.le_refl _) _
  have b1 : Below v0.heap.size v0 wb := by rw [hwb]; exact (Below.refl _ v0).alloc (Nat.le_refl _) _
  have K0 : Sh.Blk v0 w.heap.size [.int .i64 xn, .int .i64 xk, .int .i64 xm, .int .i64 xl, .slice da dn dc, .string xt, .slice na nn nc, .slice za zn zc, .slice aa an ac] 46 := by rw [hv0]; exact Sh.Blk.new w [.int .i64 xn, .int .i64 xk, .int .i64 xm, .int .i64 xl, .slice da dn dc, .string xt, .slice na nn nc, .slice za zn zc, .slice aa an ac] 46 _ rfl
  have K1 : Sh.Blk wb v0.heap.size [.int .i64 xn, .int .i64 xk, .int .i64 xm, .int .i64 xl, .slice da' dn dc', .string xt, .slice na' nn nc', .slice za' zn zc', .slice aa' an ac'] 46 := by rw [hwb]; exact Sh.Blk.new v0 [.int .i64 xn, .int .i64 xk, .int .i64 xm, .int .i64 xl, .slice da' dn dc', .string xt, .slice na' nn nc', .slice za' zn zc', .slice aa' an ac'] 46 _ rfl
  rw [sv] at K1
  have KA := Lib.hid (K0.low b1)
  have KB := Lib.hid K1
  have HB := Lib.hid (below_chain b0 b1)
  have I1 := h1.below HB.out
  have I2 := h2.below HB.out
  have d1 := h1.d1
  simp only at d1
  subst d1
  have k1 := conv_byt (P := Tryz.prog) (w := wb) (t := 22) (e := 5) (d := 9) Tryz.underlying22 Tryz.underlying5 Tryz.underlying9 da xd dc I1.d4 I1.d5
  have k2 := conv_byt (P := Tryz.prog) (w := wb) (t := 22) (e := 5) (d := 9) Tryz.underlying22 Tryz.underlying5 Tryz.underlying9 da' xd dc' I2.d4 I2.d5
  have NL := Lib.hid h1.n1
  have ZL := Lib.hid h1.z1
  have N1 := Lib.hid I1.n4
  have N2 := Lib.hid I2.n4
  have Z1 := Lib.hid I1.z4
  have Z2 := Lib.hid I2.z4
  have C := Lib.hid (attrs_same aa aa' xa an ac ac' wb I1.a4 I2.a4 h1.a1 h1.a2 h1.a3 h2.a2)
  have n2 := h1.n2
  have n3 := h1.n3
  have n2' := h2.n2
  have z2 := h1.z2
  have z3 := h1.z3
  have z2' := h2.z2
  have dd2 := h1.d2
  have dd3 := h1.d3
  have dd2' := h2.d2
  simp only at NL ZL N1 N2 Z1 Z2 C k1 k2 dd2 dd3 dd2'
  generalize xd.length = dn at *
  generalize (⟨xd.toArray⟩ : ByteArray) = vs at *
  rw [hv0] at hwb
  have HW := Lib.hid hwb
  rw [hwb] at k1 k2
  clear K0 K1 h1 h2 sv b0 b1 I1 I2 hwb hv0
  go_enter Tryz.func29, Tryz.ntmps29
  go_wp2_with fail
  rw [← HW.out]
  refine C.out.mono ?_
  clear C k1 k2 HW
  rintro e w2 ⟨rfl, hb⟩
  have B2 := Lib.hid hb
  clear hb
  go_wp2_with fail
  go_loopw [5] (fun vi wr => ∃ i : Nat, i ≤ nn ∧ vi = .int .i64 i ∧ Hid (Below wb.heap.size wb wr)) (fun vi _ => nn - (RowKit.intOf vi).toNat)
  case atStart => exact ⟨0, by omega, rfl, B2.out⟩
  case round =>
    clear B2
    obtain ⟨i, hi, rfl, hB⟩ := hrel
    have g6 := (KA.out.low hB.out).cell 6
    have j6 := (KB.out.low hB.out).cell 6
    simp only [List.getElem?_cons_zero, List.getElem?_cons_succ] at g6 j6
    by_cases hin : i < nn
    · obtain ⟨b, o, s, rfl, hb, hs, x0⟩ := srw_cell N1.out i (by have := NL.out; omega)
      obtain ⟨b2, o2, s2, rfl, hb2, hs2, x2⟩ := srw_cell N2.out i (by have := NL.out; omega)
      obtain rfl : s = s2 := by rw [hs] at hs2; injection hs2
      have e0 := (hB.out.cell (p := ⟨b, o + i, none⟩) hb).trans x0
      have e2 := (hB.out.cell (p := ⟨b2, o2 + i, none⟩) hb2).trans x2
      have q1 : (0 : Int) ≤ (i : Int) := by omega
      have q2 : (i : Int) < (nn : Int) := by omega
      have hB2 := Lib.hid hB.out
      clear x0 x2 hb hb2 hs hs2 hB
      go_wp2_with fail
      go_quiet (fail)
      generalize hwv : wr.drewN nq = wv at *
      have hB2 : Hid (Below wb.heap.size wb wv) := by show Below _ _ _; rw [← hwv]; exact below_drewN hB2.out _
      clear hwv
      go_wp2_with fail
      go_roundw
      case rel => exact ⟨i + 1, by omega, by go_num, hB2⟩
      case measure => simp [RowKit.intOf]; omega
    · obtain rfl : i = nn := by omega
      go_wp2_with fail
      go_loopw [6] (fun vi wr => ∃ i : Nat, i ≤ zn ∧ vi = .int .i64 i ∧ Hid (Below wb.heap.size wb wr)) (fun vi _ => zn - (RowKit.intOf vi).toNat)
      case atStart => exact ⟨0, by omega, rfl, hB.out⟩
      case round =>
        clear hB g6 j6
        obtain ⟨k, hk, rfl, hB⟩ := hrel
        have g7 := (KA.out.low hB.out).cell 7
        have j7 := (KB.out.low hB.out).cell 7
        simp only [List.getElem?_cons_zero, List.getElem?_cons_succ] at g7 j7
        by_cases hkn : k < zn
        · obtain ⟨b, o, rfl, hb, hz⟩ := zrw_cell Z1.out k (by have := ZL.out; omega)
          obtain ⟨b2, o2, rfl, hb2, hz2⟩ := zrw_cell Z2.out k (by have := ZL.out; omega)
          obtain ⟨z, hzk⟩ : ∃ z, xz[k]? = some z := ⟨_, List.getElem?_eq_getElem (by have := ZL.out; omega)⟩
          have e0 := (hB.out.cell (p := ⟨b, o + k, none⟩) hb).trans (hz k z hzk)
          have e2 := (hB.out.cell (p := ⟨b2, o2 + k, none⟩) hb2).trans (hz2 k z hzk)
          have q1 : (0 : Int) ≤ (k : Int) := by omega
          have q2 : (k : Int) < (zn : Int) := by omega
          have hB2 := Lib.hid hB.out
          clear hb hb2 hz hz2 hzk hB
          go_wp2_with fail
          go_quiet (fail)
          generalize hwv : wr.drewN nq = wv at *
          have hB2 : Hid (Below wb.heap.size wb wv) := by show Below _ _ _; rw [← hwv]; exact below_drewN hB2.out _
          clear hwv
          go_wp2_with fail
          go_roundw
          case rel => exact ⟨k + 1, by omega, by go_num, hB2⟩
          case measure => simp [RowKit.intOf]; omega
        · obtain rfl : k = zn := by omega
          go_wp2_with fail
          go_ret
          exact ⟨rfl, below_chain HB.out hB.out⟩
end Go.Proofs.YtojhlhpbhoeplaaGreatDoor.Lw
namespace Go.Proofs.YtojhlhpbhoeplaaGreatDoor.Lw
open Go.RowKit Go.Lib Go.Proofs.YtojhlhpbhoeplaaGreatDoor.Sh Go.Proofs.YtojhlhpbhoeplaaGreatDoor.Lb

set_option maxHeartbeats 8000000 in
set_option maxRecDepth 100000 in
theorem fs_same (ao bo : Option Addr) (l : List InoP) (n c d : Nat) (next : Int) (w : World) (h1 : Irw w ao l) (h2 : Irw w bo l) (hl : l.length = n) (hc : n ≤ c) (hcc : c ≤ 9223372036854775807) (hd : n ≤ d) (_ : d ≤ 9223372036854775807) :
    Calls Tryz.prog 17 #[.agg #[.slice ao n c, .int .i64 next], .agg #[.slice bo n d, .int .i64 next]] w fun e w' => e = .returned (.bool true) ∧ Below w.heap.size w w' := by
  obtain ⟨v0, hv0⟩ : ∃ v0, v0 = w.alloc (.cells #[.slice ao n c, .int .i64 next] 26) := ⟨_, rfl⟩
  obtain ⟨wb, hwb⟩ : ∃ wb, wb = v0.alloc (.cells #[.slice bo n d, .int .i64 next] 26) := ⟨_, rfl⟩
  have sv : v0.heap.size = w.heap.size + 1 := by rw [hv0]; simp
  have b0 : Below w.heap.size w v0 := by rw [hv0]; exact (Below.refl _ w).alloc (Nat.le_refl _) _
  have b1 : Below v0.heap.size v0 wb := by rw [hwb]; exact (Below.refl _ v0).alloc (Nat.le_refl _) _
  have K0 : Sh.Blk v0 w.heap.size [.slice ao n c, .int .i64 next] 26 := by rw [hv0]; exact Sh.Blk.new w [.slice ao n c, .int .i64 next] 26 _ rfl
  have K1 : Sh.Blk wb v0.heap.size [.slice bo n d, .int .i64 next] 26 := by rw [hwb]; exact Sh.Blk.new v0 [.slice bo n d, .int .i64 next] 26 _ rfl
  rw [sv] at K1
  have KA := Lib.hid (K0.low b1)
  have KB := Lib.hid K1
  have HB := Lib.hid (below_chain b0 b1)
  have I1 := Lib.hid (h1.below HB.out)
  have I2 := Lib.hid (h2.below HB.out)
  have HL := Lib.hid hl
  rw [hv0] at hwb
  have HW := Lib.hid hwb
  clear K0 K1 h1 h2 hl sv b0 b1 hwb hv0
  go_enter Tryz.func17, Tryz.ntmps17
  go_wp2_with fail
  rw [← HW.out]
  clear HW
  go_loopw [5] (fun vi wr => ∃ i : Nat, i ≤ n ∧ vi = .int .i64 i ∧ Hid (Below wb.heap.size wb wr)) (fun vi _ => n - (RowKit.intOf vi).toNat)
  case atStart => exact ⟨0, by omega, rfl, Below.refl _ wb⟩
  case round =>
    obtain ⟨i, hi, rfl, hB⟩ := hrel
    have g0 := (KA.out.low hB.out).cell 0
    have j0 := (KB.out.low hB.out).cell 0
    simp only [List.getElem?_cons_zero] at g0 j0
    by_cases hin : i < n
    · obtain ⟨x, hx⟩ : ∃ x, l[i]? = some x := ⟨_, List.getElem?_eq_getElem (by have := HL.out; omega)⟩
      obtain ⟨b, o, rfl, hb, da, dn, dc, na, nn, nc, za, zn, zc, aa, an, ac, h9, hv⟩ := irw_at I1.out i x hx
      obtain ⟨b2, o2, rfl, hb2, da', dn', dc', na', nn', nc', za', zn', zc', aa', an', ac', h9', hv'⟩ := irw_at I2.out i x hx
      obtain rfl : dn = dn' := hv.d1.symm.trans hv'.d1
      obtain rfl : nn = nn' := hv.n1.symm.trans hv'.n1
      obtain rfl : zn = zn' := hv.z1.symm.trans hv'.z1
      obtain rfl : an = an' := hv.a1.symm.trans hv'.a1
      have C := Lib.hid (inode_same x da dn dc na nn nc za zn zc aa an ac da' dc' na' nc' za' zc' aa' ac' wr.drew ((hv.below hB.out).below (Below.refl _ wr).drew) ((hv'.below hB.out).below (Below.refl _ wr).drew))
      obtain ⟨xn, xk, xm, xl, xd, xt, xs, xz, xa⟩ := x
      have h9 := h9.below hB.out hb
      have h9' := h9'.below hB.out hb2
      have k0 := h9.k0
      have k1 := h9.k1
      have k2 := h9.k2
      have k3 := h9.k3
      have k4 := h9.k4
      have k5 := h9.k5
      have k6 := h9.k6
      have k7 := h9.k7
      have k8 := h9.k8
      have m0 := h9'.k0
      have m1 := h9'.k1
      have m2 := h9'.k2
      have m3 := h9'.k3
      have m4 := h9'.k4
      have m5 := h9'.k5
      have m6 := h9'.k6
      have m7 := h9'.k7
      have m8 := h9'.k8
      simp only at k0 k1 k2 k3 k4 k5 k6 k7 k8 m0 m1 m2 m3 m4 m5 m6 m7 m8
      have q1 : (0 : Int) ≤ (i : Int) := by omega
      have q2 : (i : Int) < (n : Int) := by omega
      have hBd := Lib.hid hB.out.drew
      clear hb hb2 h9 h9' hv hv' hx hB
      go_wp2_with fail
      go_still_tail 10, (by kernel_rfl)
      change wpList _ _ _ _ _ wr.drew
      generalize wr.drew = w3 at *
      go_wp2_with fail
      refine C.out.mono ?_
      clear C
      rintro e w4 ⟨rfl, hb⟩
      have hB2 := Lib.hid (below_chain hBd.out hb)
      clear hb
      go_wp2_with fail
      go_roundw
      case rel => exact ⟨i + 1, by omega, by go_num, hB2⟩
      case measure => simp [RowKit.intOf]; omega
    · obtain rfl : i = n := by omega
      go_wp2_with fail
      go_ret
      exact ⟨rfl, below_chain HB.out hB.out⟩
end Go.Proofs.YtojhlhpbhoeplaaGreatDoor.Lw
namespace Go.Proofs.YtojhlhpbhoeplaaGreatDoor.Lw
open Go.RowKit Go.Lib Go.Proofs.YtojhlhpbhoeplaaGreatDoor.Sh Go.Proofs.YtojhlhpbhoeplaaGreatDoor.Lb

def rootP : InoP := ⟨1, 2, 0, 1, [], ⟨#[]⟩, [], [], []⟩
theorem numsAt_root (i : Int) : numsAt [rootP] i = [] := by
  unfold numsAt
  split
  · cases h : ([rootP] : List InoP)[i.toNat - 1]? with
    | none => rfl
    | some x =>
      have := List.mem_of_getElem? h
      simp only [List.mem_singleton] at this
      subst this
      rfl
  · rfl
theorem root_get {i : Nat} {x : InoP} (h : ([rootP] : List InoP)[i]? = some x) : i = 0 ∧ x = rootP := by
  have h1 := (List.getElem?_eq_some_iff.1 h).1
  simp only [List.length_singleton] at h1
  obtain rfl : i = 0 := by omega
  simp only [List.getElem?_cons_zero, Option.some.injEq] at h
  exact ⟨rfl, h.symm⟩
theorem root_ok : OkFs ltB nameOk [rootP] 2 := by
  refine ⟨⟨by decide, by decide, rfl, fun x hx => by rw [(root_get hx).2]; rfl, fun i x hx => ?_⟩, fun x => first x + cntD (numsAt [rootP]) [1] x, ⟨[1], by decide, fun x => ?_, fun x => rfl⟩, fun i x hx => ?_⟩
  · obtain ⟨rfl, rfl⟩ := root_get hx
    refine ⟨rfl, ⟨⟨by decide, by decide, by decide, by decide, rfl, by decide, (fun a ha => by cases ha), (fun a ha => by cases ha), List.Pairwise.nil, by decide, (fun a ha => by cases ha), rfl, (fun h => by cases h)⟩, by decide, (fun h => absurd rfl h), ⟨by decide, (fun a ha => by cases ha), List.Pairwise.nil, rfl, (fun a ha => by cases ha), (fun _ h => by cases h)⟩, by decide, (fun h => absurd rfl h), (fun a ha => by cases ha)⟩⟩
  · constructor
    · intro h
      simp only [List.mem_singleton] at h
      subst h
      exact Reach.one
    · intro h
      cases h with
      | one => simp
      | step _ h2 => rw [numsAt_root] at h2; cases h2
  · obtain ⟨rfl, rfl⟩ := root_get hx
    have e : cntD (numsAt [rootP]) [1] 1 = 0 := by unfold cntD; simp [numsAt_root]
    refine ⟨by decide, by decide, ?_⟩
    show (1 : Int) = ((first ((0 : Nat) + 1 : Int) + cntD (numsAt [rootP]) [1] ((0 : Nat) + 1 : Int) : Nat) : Int)
    rw [show (((0 : Nat) : Int) + 1) = 1 by rfl, e]
    rfl
theorem root_L : imgL [rootP] = [80, 76, 76, 87, 1, 2, 0, 0, 0, 0] := by kernel_rfl
theorem root_is : IsFs ltB nameOk [80, 76, 76, 87, 1, 2, 0, 0, 0, 0, 0, 0] [rootP] := ⟨root_ok, 2, by rw [root_L]; rfl⟩
theorem mark_no : ¬ ∃ l, IsFs ltB nameOk [80, 76, 76, 87] l := fun ⟨l, hl⟩ => by
  obtain ⟨k, h, _⟩ := isFs_back nameOk_len hl
  rw [parse_img] at h
  have e : afterMark [80, 76, 76, 87] = some [] := by kernel_rfl
  rw [e] at h
  have h' : (match pNum 32768 [] with | none => none | some (n, r) => pRow pIno n.toNat r) = some (l.map bare, List.replicate k 0) := h
  rw [num_nil] at h'
  cases h'
theorem none_no (next : Int) : ¬ OkFs ltB nameOk [] next := fun h => by have := h.1.one; simp at this
theorem root_irw (w : World) : Irw (w.alloc (.cells #[.int .i64 1, .int .i64 2, .int .i64 0, .int .i64 1, .slice none 0 0, .string ⟨#[]⟩, .slice none 0 0, .slice none 0 0, .slice none 0 0] 46)) (some ⟨w.heap.size, 0, none⟩) [rootP] := fun _ => by
  have K : Sh.Blk (w.alloc (.cells #[.int .i64 1, .int .i64 2, .int .i64 0, .int .i64 1, .slice none 0 0, .string ⟨#[]⟩, .slice none 0 0, .slice none 0 0, .slice none 0 0] 46)) w.heap.size [.int .i64 1, .int .i64 2, .int .i64 0, .int .i64 1, .slice none 0 0, .string ⟨#[]⟩, .slice none 0 0, .slice none 0 0, .slice none 0 0] 46 := Sh.Blk.new w [.int .i64 1, .int .i64 2, .int .i64 0, .int .i64 1, .slice none 0 0, .string ⟨#[]⟩, .slice none 0 0, .slice none 0 0, .slice none 0 0] 46 _ rfl
  refine ⟨w.heap.size, 0, rfl, K.lt, fun j x hx => ?_⟩
  obtain ⟨rfl, rfl⟩ := root_get hx
  exact ⟨none, 0, 0, none, 0, 0, none, 0, 0, none, 0, 0, ⟨K.cell 0, K.cell 1, K.cell 2, K.cell 3, K.cell 4, K.cell 5, K.cell 6, K.cell 7, K.cell 8⟩, ⟨rfl, by omega, by omega, byt_nil _ _, fun _ => rfl, rfl, by omega, by omega, srw_nil _ _, rfl, by omega, by omega, fun h => absurd rfl h, rfl, by omega, by omega, fun h => absurd rfl h, by decide⟩⟩
set_option maxHeartbeats 8000000 in
set_option maxRecDepth 100000 in
theorem heads_any (a : Addr) (w : World) (he : Env w a) : Calls Tryz.prog 8 #[] w fun e w' => e = .returned (.bool true) ∧ Below w.heap.size w w' := by
  obtain ⟨w1, hw1⟩ : ∃ w1, w1 = w.alloc (.cells #[.int .i64 1, .int .i64 2, .int .i64 0, .int .i64 1, .slice none 0 0, .string ⟨#[]⟩, .slice none 0 0, .slice none 0 0, .slice none 0 0] 46) := ⟨_, rfl⟩
  have b1 : Below w.heap.size w w1 := by rw [hw1]; exact (Below.refl _ w).alloc (Nat.le_refl _) _
  have i1 : Irw w1 (some ⟨w.heap.size, 0, none⟩) [rootP] := by rw [hw1]; exact root_irw w
  have s1 : w1.heap.size = w.heap.size + 1 := by rw [hw1]; simp
  obtain ⟨w2, hw2⟩ : ∃ w2, w2 = w1.alloc (.cells #[.slice (some ⟨w.heap.size, 0, none⟩) 1 1, .int .i64 2] 26) := ⟨_, rfl⟩
  have b2 : Below w1.heap.size w1 w2 := by rw [hw2]; exact (Below.refl _ w1).alloc (Nat.le_refl _) _
  have F2 : Hid (Sh.Blk w2 (w.heap.size + 1) [.slice (some ⟨w.heap.size, 0, none⟩) 1 1, .int .i64 2] 26) := by show Sh.Blk _ _ _ _; rw [hw2]; exact Sh.Blk.new w1 [.slice (some ⟨w.heap.size, 0, none⟩) 1 1, .int .i64 2] 26 _ s1.symm
  have B2 := Lib.hid (below_chain b1 b2)
  have E0 := Lib.hid he
  have I2 := Lib.hid (i1.below b2)
  have C := Lib.hid (put_any a (some ⟨w.heap.size, 0, none⟩) [rootP] 1 1 2 w2 (he.below B2.out) I2.out rfl (Nat.le_refl _) (by omega))
  rw [hw1] at hw2
  have HW := Lib.hid hw2
  have x0 := F2.out.cell 0
  have x1 := F2.out.cell 1
  simp only [List.getElem?_cons_zero, List.getElem?_cons_succ] at x0 x1
  rw [hw2] at x0 x1
  clear he b1 i1 s1 b2 hw2 hw1
  go_enter Tryz.func8, Tryz.ntmps8
  go_wp2_with fail
  rw [← HW.out]
  refine C.out.mono ?_
  clear C HW x0 x1
  rintro e w3 ⟨hb, hv⟩
  have B3 := Lib.hid (below_chain B2.out hb)
  have F3 := Lib.hid (F2.out.low hb)
  have I3 := Lib.hid (I2.out.below hb)
  rcases hv with ⟨_, v, rfl, hown⟩ | ⟨h, _⟩
  rotate_left
  · exact absurd root_ok h
  rw [root_L] at hown
  obtain ⟨va, vc, rfl, v1, v2, v3, v4⟩ := own_byt (show w3.ownsRow w2.heap.size 5 1 v _ (bs _) from hown)
  have V3 := Lib.hid v3
  have V4 := Lib.hid v4
  have OWN0 : Hid ((w3.alloc (.cells #[] 5)).ownsRow w3.heap.size 5 1 (.slice (some ⟨w3.heap.size, 0, none⟩) 0 0) ([] : List UInt8).length (bs [])) := World.ownsRow_made w3 #[] 0 (Nat.le_refl _) (by decide) rfl
  have V3' := Lib.hid (V3.out.below ((Below.refl _ w3).alloc (Nat.le_refl _) (.cells #[] 5)))
  have H10 : Hid (([80, 76, 76, 87, 1, 2, 0, 0, 0, 0] : List UInt8).length = 10) := rfl
  have H2 : Hid (([0, 0] : List UInt8).length = 2) := rfl
  have B3' : Hid (Below w3.heap.size w3 (w3.alloc (.cells #[] 5))) := (Below.refl _ w3).alloc (Nat.le_refl _) _
  have hs3 : w3.heap.size ≤ (w3.alloc (.cells #[] 5)).heap.size := B3'.out.size
  clear hb hown v3 v4 v1 v2 B2 F2 I2
  go_wp2_with (at_builtin; first
    | (refine wpl_app_len (t := 22) (e := 5) rfl (.tmp 19) (.tmp 20) rfl Tryz.underlying22 info5 w3.heap.size _ [] [80, 76, 76, 87, 1, 2, 0, 0, 0, 0] rfl OWN0.out va 10 vc rfl V3'.out V4.out H10 (by decide) hs3 ?_; intro v4 w4 hown4 hgrow4)
    | (refine wpl_app_len (t := 22) (e := 5) rfl (.tmp 21) (.tmp 22) rfl Tryz.underlying22 info5 w3.heap.size _ ([] ++ [80, 76, 76, 87, 1, 2, 0, 0, 0, 0]) [0, 0] rfl (World.ownsRow.alloc hown4 _) (some ⟨w4.heap.size, 0, none⟩) 2 2 rfl (byt_lit w4 [0, 0] _ rfl) (fun h => by cases h) H2 (by decide) (by have := hgrow4.size; simp only [World.size_alloc]; omega) ?_
       intro v5 w5 hown5 hgrow5
       have hown5' : w5.ownsRow w3.heap.size 5 1 v5 ([80, 76, 76, 87, 1, 2, 0, 0, 0, 0, 0, 0] : List UInt8).length (bs [80, 76, 76, 87, 1, 2, 0, 0, 0, 0, 0, 0]) := hown5
       obtain ⟨a5, c5, e5, p1, p2, p3, p4⟩ := own_byt hown5'
       have e5' : v5 = .slice a5 12 c5 := e5
       clear e5
       have B35 : Hid (Below w3.heap.size w3 w5) := below_gb ((below_gb B3'.out hgrow4 (fun j hj => (World.ownsRow.lt OWN0.out j hj).1) (Nat.le_refl _)).alloc (by have := hgrow4.size; omega) _) hgrow5 (fun j hj => (World.ownsRow.lt hown4 j hj).1) (Nat.le_refl _)
       have B5 := Lib.hid (below_chain B3.out B35.out)
       have FAR : Hid (∀ x, a5 = some x → x.block < w5.heap.size) := fun x hx => (World.ownsRow.lt hown5' x.block (by rw [e5', hx]; rfl)).2
       have C := Lib.hid (lget_any a a5 [80, 76, 76, 87, 1, 2, 0, 0, 0, 0, 0, 0] 12 c5 w5 (E0.out.below B5.out) p3 p4 rfl p1 p2 (by decide) FAR.out)
       clear hown5 hown5' p1 p2 p3 p4 hgrow5 hgrow4 hown4 OWN0 V3'
       subst e5'))
  refine C.out.mono ?_
  clear C
  rintro e w6 ⟨hb, hv⟩
  rcases hv with ⟨l, ap, cp, rfl, hfs, ho, hs⟩ | ⟨_, hno⟩
  rotate_left
  · exact absurd ⟨_, root_is⟩ hno
  obtain rfl := isFs_unique nameOk_len hfs root_is
  rw [show (((([rootP] : List InoP).length : Nat) : Int) + 1) = 2 from rfl, show ([rootP] : List InoP).length = 1 from rfl]
  obtain ⟨ap', cp', e, g1, g2, _, hi⟩ := ownI_irw ho hs
  injection e with e1 e2 e3
  subst e1
  subst e3
  have b36 := below_chain B35.out hb
  obtain ⟨w7, hw7⟩ : ∃ w7, w7 = w6.alloc (.cells #[.slice ap 1 cp, .int .i64 2] 26) := ⟨_, rfl⟩
  obtain ⟨w8, hw8⟩ : ∃ w8, w8 = w7.alloc (.cells #[.int .u8 80, .int .u8 76, .int .u8 76, .int .u8 87] 5 (4, 5)) := ⟨_, rfl⟩
  have b7 : Below w6.heap.size w6 w7 := by rw [hw7]; exact (Below.refl _ w6).alloc (Nat.le_refl _) _
  have b8 : Below w7.heap.size w7 w8 := by rw [hw8]; exact (Below.refl _ w7).alloc (Nat.le_refl _) _
  have s7 : w7.heap.size = w6.heap.size + 1 := by rw [hw7]; simp
  have s8 : w8.heap.size = w7.heap.size + 1 := by rw [hw8]; simp
  have G7 : Sh.Blk w7 w6.heap.size [.slice ap 1 cp, .int .i64 2] 26 := by rw [hw7]; exact Sh.Blk.new w6 [.slice ap 1 cp, .int .i64 2] 26 _ rfl
  have M8 : Byt w8 (some ⟨w7.heap.size, 0, none⟩) [80, 76, 76, 87] := by rw [hw8]; exact mark_byt w7 markL (4, 5)
  have b68 := below_chain b7 b8
  have B8 := Lib.hid (below_chain B3.out (below_chain b36 b68))
  have G8 := Lib.hid (G7.low b8)
  have F8 := Lib.hid (F3.out.low (below_chain b36 b68))
  have I8 := Lib.hid (I3.out.below (below_chain b36 b68))
  have V8 := Lib.hid (V3.out.below (below_chain b36 b68))
  have J8 := Lib.hid (hi.below b68)
  have G1 := Lib.hid g1
  have G2 := Lib.hid g2
  have C := Lib.hid (lget_any a (some ⟨w7.heap.size, 0, none⟩) [80, 76, 76, 87] 4 4 w8 (E0.out.below B8.out) M8 (fun h => by cases h) rfl (by omega) (by omega) (by decide) (fun x hx => by injection hx with hx; subst hx; show w7.heap.size < _; omega))
  have kc := Lib.run_convert_bytes_const (P := Tryz.prog) w7 22 5 #[.int .u8 80, .int .u8 76, .int .u8 76, .int .u8 87] 4 4 Tryz.underlying22 Tryz.underlying5
  rw [hw7] at hw8
  rw [s7, hw7] at kc
  rw [s7] at C
  have HW := Lib.hid hw8
  clear hb hfs ho hs g1 g2 hi b36 b7 b8 s7 s8 G7 M8 b68 B3 B3' B35 B5 F3 I3 V3 FAR H2 H10 hs3 hw8 hw7
  go_wp2_with fail
  rw [← HW.out]
  refine C.out.mono ?_
  clear C HW kc
  rintro e w9 ⟨hb, hv⟩
  rcases hv with ⟨l, _, _, _, hfs, _⟩ | ⟨rfl, _⟩
  · exact absurd ⟨l, hfs⟩ mark_no
  obtain ⟨w10, hw10⟩ : ∃ w10, w10 = w9.alloc (.cells #[.slice none 0 0, .int .i64 0] 26) := ⟨_, rfl⟩
  have b10 : Below w9.heap.size w9 w10 := by rw [hw10]; exact (Below.refl _ w9).alloc (Nat.le_refl _) _
  have b810 := below_chain hb b10
  have B10 := Lib.hid (below_chain B8.out b810)
  have G10 := Lib.hid (G8.out.low b810)
  have F10 := Lib.hid (F8.out.low b810)
  have I10 := Lib.hid (I8.out.below b810)
  have V10 := Lib.hid (V8.out.below b810)
  have J10 := Lib.hid (J8.out.below b810)
  have C := Lib.hid (put_any a none [] 0 0 0 w10 (E0.out.below B10.out) (fun h => absurd rfl h) rfl (Nat.le_refl _) (by omega))
  have HW := Lib.hid hw10
  clear hb b10 b810 B8 G8 F8 I8 V8 J8 hw10
  go_wp2_with fail
  rw [← HW.out]
  refine C.out.mono ?_
  clear C HW
  rintro e w11 ⟨hb, hv⟩
  rcases hv with ⟨h, _⟩ | ⟨_, rfl⟩
  · exact absurd h (none_no 0)
  obtain ⟨w12, hw12⟩ : ∃ w12, w12 = w11.alloc (.cells #[.int .u8 80, .int .u8 76, .int .u8 76, .int .u8 87, .int .u8 1, .int .u8 2, .int .u8 0, .int .u8 0, .int .u8 0, .int .u8 0] 5) := ⟨_, rfl⟩
  have b12 : Below w11.heap.size w11 w12 := by rw [hw12]; exact (Below.refl _ w11).alloc (Nat.le_refl _) _
  have M12 : Byt w12 (some ⟨w11.heap.size, 0, none⟩) [80, 76, 76, 87, 1, 2, 0, 0, 0, 0] := by rw [hw12]; exact byt_lit w11 [80, 76, 76, 87, 1, 2, 0, 0, 0, 0] _ rfl
  have b := below_chain hb b12
  have B12 := Lib.hid (below_chain B10.out b)
  have G12 := Lib.hid (G10.out.low b)
  have F12 := Lib.hid (F10.out.low b)
  have I12 := Lib.hid (I10.out.below b)
  have J12 := Lib.hid (J10.out.below b)
  have C := Lib.hid (same_any va (some ⟨w11.heap.size, 0, none⟩) [80, 76, 76, 87, 1, 2, 0, 0, 0, 0] [80, 76, 76, 87, 1, 2, 0, 0, 0, 0] 10 10 vc 10 w12 rfl rfl (V10.out.below b) M12 V4.out (fun h => by cases h))
  have HW := Lib.hid hw12
  clear hb b12 M12 b B10 G10 F10 I10 J10 V10 V4 hw12
  go_wp2_with fail
  rw [← HW.out]
  refine C.out.mono ?_
  clear C HW
  rintro e w13 ⟨rfl, rfl⟩
  have x0 := G12.out.cell 0
  have x1 := G12.out.cell 1
  have y0 := F12.out.cell 0
  have y1 := F12.out.cell 1
  simp only [List.getElem?_cons_zero, List.getElem?_cons_succ] at x0 x1 y0 y1
  have C := Lib.hid (fs_same ap (some ⟨w.heap.size, 0, none⟩) [rootP] 1 cp 1 2 w12 J12.out I12.out rfl G1.out G2.out (Nat.le_refl _) (by omega))
  go_wp2_with fail
  refine C.out.mono ?_
  clear C x0 x1 y0 y1
  rintro e w14 ⟨rfl, hb⟩
  have y0 := (F12.out.low hb).cell 0
  have y1 := (F12.out.low hb).cell 1
  simp only [List.getElem?_cons_zero, List.getElem?_cons_succ] at y0 y1
  have B14 := Lib.hid (below_chain B12.out hb)
  have C := Lib.hid (checkfs_any a (some ⟨w.heap.size, 0, none⟩) [rootP] 1 1 2 w14 (E0.out.below B14.out) (I12.out.below hb) rfl (Nat.le_refl _) (by omega))
  clear hb
  go_wp2_with fail
  refine C.out.mono ?_
  clear C
  rintro e w15 ⟨hb, r, rfl, hr⟩
  obtain rfl : r = true := hr.2 root_ok
  have B15 := Lib.hid (below_chain B14.out hb)
  clear hb hr
  go_wp2_with fail
  go_ret
  exact ⟨rfl, B15.out⟩
end Go.Proofs.YtojhlhpbhoeplaaGreatDoor.Lw
