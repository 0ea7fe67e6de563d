/-
  The contracts of the document's own reader: num, data and key. Conditions: each law's own.
-/
import Derived.Test.YtpjgkboafmebbaaGreatDoorRb
import Derived.Laws.Rows
import Derived.Deep.WholeRow
import Derived.Lib.BufferOwn
import Derived.Lib.BufferWrite
namespace Go.Proofs.YtpjgkboafmebbaaGreatDoor.Sh
open Go.RowKit Go.Lib Lb

/-- block g holds these cells, and none is frozen -/
def Blk (w : World) (g : Nat) (cs : List Value) (t : TypeId) : Prop := w.heap[g]? = some (.cells cs.toArray t (0, 0))
theorem Blk.lt {w : World} {g : Nat} {cs : List Value} {t : TypeId} (h : Blk w g cs t) : g < w.heap.size := (Array.getElem?_eq_some_iff.1 h).1
theorem Blk.cell {w : World} {g : Nat} {cs : List Value} {t : TypeId} (h : Blk w g cs t) (j : Nat) : w.cell? ⟨g, j, none⟩ = cs[j]? := by
  rw [cell_of_row w g j _ t (0, 0) h]
  simp
theorem Blk.frozen {w : World} {g : Nat} {cs : List Value} {t : TypeId} (h : Blk w g cs t) (j : Nat) : w.frozen? ⟨g, j, none⟩ = false := frozen_of_row w g j _ t h
theorem Blk.drew {w : World} {g : Nat} {cs : List Value} {t : TypeId} (h : Blk w g cs t) : Blk w.drew g cs t := h
theorem Blk.below {w w' : World} {B g : Nat} {cs : List Value} {t : TypeId} (h : Blk w g cs t) (hb : Below B w w') (hg : g < B) : Blk w' g cs t := (hb.block g hg).trans h
theorem Blk.low {w w' : World} {g : Nat} {cs : List Value} {t : TypeId} (h : Blk w g cs t) (hb : Below w.heap.size w w') : Blk w' g cs t := h.below hb h.lt
theorem Blk.alloc {w : World} {g : Nat} {cs : List Value} {t : TypeId} (h : Blk w g cs t) (o : Obj) : Blk (w.alloc o) g cs t := (Below.heap_alloc w o g h.lt).trans h
theorem Blk.new (w : World) (cs : List Value) (t : TypeId) (g : Nat) (hg : g = w.heap.size) : Blk (w.alloc (.cells cs.toArray t)) g cs t := by
  subst hg
  exact heap_alloc_new w _
theorem Blk.set {w : World} {g : Nat} {cs : List Value} {t : TypeId} (h : Blk w g cs t) (i : Nat) (v : Value) : Blk (w.setCell ⟨g, i, none⟩ v) g (cs.set i v) t := by
  unfold Blk
  rw [heap_setCell_same w g i _ t v h]
  simp
theorem Blk.other {w : World} {g : Nat} {cs : List Value} {t : TypeId} (h : Blk w g cs t) {a : Addr} (v : Value) (ha : g ≠ a.block) : Blk (w.setCell a v) g cs t := (heap_setCell_other w a g v ha).trans h
theorem Blk.byt {w : World} {g : Nat} {l : List UInt8} {t : TypeId} (h : Blk w g (bs l) t) : Byt w (some ⟨g, 0, none⟩) l := fun _ => ⟨g, 0, rfl, h.lt, fun j hj => by
  rw [Nat.zero_add, h.cell, bs_get l j hj]⟩

/-- a reader, as memory holds it: what is left, and whether it is bad -/
structure Rd (w : World) (g : Nat) (l : List UInt8) (bad : Bool) (ao : Option Addr) (m c : Nat) : Prop where
  blk : Blk w g [.slice ao m c, .bool bad] 99
  byt : Byt w ao l
  hn : ao = none → c = 0
  len : l.length = m
  cap : m ≤ c
  max : c ≤ 9223372036854775807
  most : m ≤ 140737488355328
  far : ∀ a, ao = some a → a.block < g
theorem blk_grown {w w' : World} {g k : Nat} {cs : List Value} {t : TypeId} (h : Blk w g cs t) (hg : w.grownBy w' (some k)) (hne : g ≠ k) : Blk w' g cs t := (hg.block g h.lt (fun e => hne (by injection e))).trans h
theorem byt_grown {w w' : World} {ao : Option Addr} {l : List UInt8} {g : Nat} (h : Byt w ao l) (hg : w.grownBy w' (some g)) (far : ∀ a, ao = some a → a.block < g) : Byt w' ao l := fun hne => by
  obtain ⟨b, o, h1, h2, h3⟩ := h hne
  have hb : b < g := far _ h1
  exact ⟨b, o, h1, Nat.lt_of_lt_of_le h2 hg.size, fun j hj => hg.cell (h3 j hj) (by intro e; injection e with e; simp only at e; omega)⟩
theorem Rd.grown {w w' : World} {g : Nat} {l : List UInt8} {bad : Bool} {ao : Option Addr} {m c : Nat} (h : Rd w g l bad ao m c) (hb : Below w.heap.size w w') : Rd w' g l bad ao m c :=
  { blk := h.blk.low hb, byt := h.byt.below hb, hn := h.hn, len := h.len, cap := h.cap, max := h.max, most := h.most, far := h.far }
theorem grown_below {w w' : World} (h : Below w.heap.size w w') (row : Option Nat) : w.grownBy w' row := ⟨h.os, h.tape, h.output, h.size, fun k hk _ => h.block k hk⟩
/-- set bad -/
theorem Rd.fail {w : World} {g : Nat} {l : List UInt8} {bad : Bool} {ao : Option Addr} {m c : Nat} (h : Rd w g l bad ao m c) : Rd (w.setCell ⟨g, 1, none⟩ (.bool true)) g l true ao m c :=
  { blk := by have := h.blk.set 1 (.bool true); simpa using this, byt := byt_grown h.byt (grownBy_setCell w g 1 _) h.far, hn := h.hn, len := h.len, cap := h.cap, max := h.max, most := h.most, far := h.far }
set_option maxRecDepth 100000 in
/-- the rest of a slice of bytes -/
theorem slice_rest (ao : Option Addr) (len c n : Nat) (l : List UInt8) (h1 : n ≤ len) (h3 : len = l.length) (h4 : ao = none → c = 0) (h5 : len ≤ c) :
    ∃ ao', (∀ W, (Instr.slice 36 (.slice ao len c) (some (.int .i64 (n : Int))) none none).run Tryz.prog W = .ok (.slice ao' (len - n) (c - n)) W) ∧ (∀ w, Byt w ao l → Byt w ao' (l.drop n)) ∧ (ao' = none → c - n = 0) ∧ (∀ g, (∀ a, ao = some a → a.block < g) → ∀ a, ao' = some a → a.block < g) := by
  have hs := fun W => run_slice_l (P := Tryz.prog) W 36 ao len c (by rw [Tryz.underlying36]; rfl) .i64 (n : Int) (by omega) (by omega)
  have e3 : Tryz.prog.elem 36 = 5 := by kernel_rfl
  simp only [e3, Tryz.sizeOf5, sliced, Result.andThen, Int.toNat_natCast, Nat.mul_one] at hs
  by_cases hcn : c = n
  · refine ⟨ao, fun W => by rw [hs W, if_pos hcn], fun w hb hne => ?_, fun _ => by omega, fun g h => h⟩
    exfalso
    apply hne
    apply List.drop_of_length_le
    omega
  · cases ao with
    | none =>
      have := h4 rfl
      omega
    | some a =>
      refine ⟨some (a.add n), fun W => by rw [hs W, if_neg hcn]; rfl, fun w hb => ?_, fun h => (by cases h), fun g h a' ha' => ?_⟩
      · by_cases hl : l = []
        · subst hl
          rw [List.drop_nil]
          exact byt_nil _ _
        · obtain ⟨b, o, h0, _, _⟩ := hb hl
          injection h0 with h0
          subst h0
          rw [WideShapes.add_plain]
          exact hb.drop n
      · injection ha' with ha'
        subst ha'
        have hb : (a.add n).block = a.block := by
          unfold Addr.add
          split <;> rfl
        rw [hb]
        exact h a rfl
/-- what a reader's call leaves: its value, what is left, whether it is bad -/
def AnsR (w : World) (g : Nat) (v : Value) (l : List UInt8) (bad : Bool) (e : Ending) (w' : World) : Prop := e = .returned v ∧ w.grownBy w' (some g) ∧ ∃ ao m c, Rd w' g l bad ao m c
/-- a reader's step, as plain mathematics: of a bad one, or where there is none, nought -/
def stepR {α : Type} (p : List UInt8 → Option (α × List UInt8)) (z : α) (l : List UInt8) (bad : Bool) : α × List UInt8 × Bool :=
  if bad = true then (z, l, true) else match p l with
    | none => (z, l, true)
    | some (x, r) => (x, r, false)
set_option maxHeartbeats 2000000 in
set_option maxRecDepth 100000 in
theorem rnum_any (g : Nat) (l : List UInt8) (bad : Bool) (ao : Option Addr) (m c most : Nat) (w : World) (h : Rd w g l bad ao m c) (hmo : most ≤ 9223372036854775807) :
    Calls Tryz.prog 46 #[.pointer (some ⟨g, 0, none⟩), .int .i64 (most : Int)] w (AnsR w g (.int .i64 (stepR (pNum most) 0 l bad).1) (stepR (pNum most) 0 l bad).2.1 (stepR (pNum most) 0 l bad).2.2) := by
  have RD := Lib.hid h
  have c0 := h.blk.cell 0
  have c1 := h.blk.cell 1
  have f0 := h.blk.frozen 0
  have f1 := h.blk.frozen 1
  simp only [List.getElem?_cons_zero, List.getElem?_cons_succ] at c0 c1
  have CG := Lib.hid (refget_any ao l m c w h.byt h.len h.cap h.max)
  have hw : IntKind.u64.wrap (most : Int) = (most : Int) := by rw [IntKind.wrap]; simp [IntKind.bits, IntKind.signed]; omega
  clear h
  go_enter Tryz.func46, Tryz.ntmps46
  go_wp2_with fail
  refine CG.out.mono ?_
  rintro e w1 ⟨⟨ec, rfl, hec⟩, rfl⟩
  cases bad with
  | true =>
    have FL := Lib.hid RD.out.fail
    have GR := Lib.hid (grownBy_setCell w g 1 (.bool true))
    clear hec
    generalize (getL l).1 = x at *
    generalize (getL l).2.1 = n at *
    go_wp2_with fail
    go_ret
    exact ⟨rfl, GR.out, ao, m, c, FL.out⟩
  | false =>
    by_cases hp : pNum most l = none
    · have FL := Lib.hid RD.out.fail
      have GR := Lib.hid (grownBy_setCell w g 1 (.bool true))
      have HS : Hid (stepR (pNum most) 0 l false = (0, l, true)) := by show _ = _; rw [stepR, if_neg (by decide), hp]
      by_cases he : ec = 0
      · have t0 : (ec != 0) = false := by simpa using he
        have hx : most < (getL l).1 := by
          rcases Nat.lt_or_ge most (getL l).1 with h1 | h1
          · exact h1
          · exfalso
            rw [pNum, if_pos ⟨hec.1 he, h1⟩] at hp
            cases hp
        clear hec hp
        generalize (getL l).1 = x at *
        generalize (getL l).2.1 = n at *
        have t1 : decide (most < x) = true := by simp; omega
        subst he
        clear hx t0
        go_wp2_with fail
        go_ret
        rw [HS.out]
        exact ⟨rfl, GR.out, ao, m, c, FL.out⟩
      · have t0 : (ec != 0) = true := by simpa using he
        clear hec hp he
        generalize (getL l).1 = x at *
        generalize (getL l).2.1 = n at *
        go_wp2_with fail
        go_ret
        rw [HS.out]
        exact ⟨rfl, GR.out, ao, m, c, FL.out⟩
    · have hok : (getL l).2.2 = 0 ∧ (getL l).1 ≤ most := by
        by_cases h0 : (getL l).2.2 = 0 ∧ (getL l).1 ≤ most
        · exact h0
        · exact absurd (by rw [pNum, if_neg h0]) hp
      have he : ec = 0 := hec.2 hok.1
      subst he
      have HS : Hid (stepR (pNum most) 0 l false = (((getL l).1 : Int), l.drop (getL l).2.1, false)) := by show _ = _; rw [stepR, if_neg (by decide), pNum, if_pos hok]
      obtain ⟨x, hx⟩ : ∃ x, x = (getL l).1 := ⟨_, rfl⟩
      obtain ⟨n, hnn⟩ : ∃ n, n = (getL l).2.1 := ⟨_, rfl⟩
      have hg : getL l = (x, n, 0) := by rw [hx, hnn, ← hok.1]
      obtain ⟨g1, g2, g3, _⟩ := getL_again l x n hg
      rw [← hx, ← hnn] at HS ⊢
      rw [← hx] at hok
      have hxm := hok.2
      have t1 : decide (most < x) = false := by simp; omega
      have w4 : IntKind.i64.wrap (x : Int) = (x : Int) := IntWalk.i64_in _ (by omega)
      obtain ⟨af, s1, s2, s3, s4⟩ := slice_rest ao m c n l (by rw [← RD.out.len]; exact g2) RD.out.len.symm RD.out.hn RD.out.cap
      have RN : Hid (Rd (w.setCell ⟨g, 0, none⟩ (.slice af (m - n) (c - n))) g (l.drop n) false af (m - n) (c - n)) := {
        blk := by have := RD.out.blk.set 0 (.slice af (m - n) (c - n)); simpa using this
        byt := byt_grown (s2 w RD.out.byt) (grownBy_setCell w g 0 _) (s4 g RD.out.far)
        hn := s3
        len := by rw [List.length_drop, RD.out.len]
        cap := by have := RD.out.cap; omega
        max := by have := RD.out.max; omega
        most := by have := RD.out.most; omega
        far := s4 g RD.out.far }
      have GR := Lib.hid (grownBy_setCell w g 0 (.slice af (m - n) (c - n)))
      clear hec hp hok hx hnn hg g1 g2 g3 s2 s3 s4 hxm
      go_wp2_with fail
      go_ret
      rw [HS.out]
      exact ⟨rfl, GR.out, af, m - n, c - n, RN.out⟩
set_option maxHeartbeats 2000000 in
set_option maxRecDepth 100000 in
/-- bytes up to a bound: a row of the call's own -/
theorem rdata_any (g : Nat) (l : List UInt8) (bad : Bool) (ao : Option Addr) (m c most : Nat) (w : World) (h : Rd w g l bad ao m c) (hmo : most ≤ 9223372036854775807) :
    Calls Tryz.prog 47 #[.pointer (some ⟨g, 0, none⟩), .int .i64 (most : Int)] w fun e w' => ∃ v, AnsR w g v (stepR (pData most) [] l bad).2.1 (stepR (pData most) [] l bad).2.2 e w' ∧ Own w' w.heap.size v (stepR (pData most) [] l bad).1 := by
  have RD := Lib.hid h
  have c0 := h.blk.cell 0
  have gl := h.blk.lt
  simp only [List.getElem?_cons_zero] at c0
  have CG := Lib.hid (reftake_any ao l m c most w h.byt h.hn h.len h.cap h.max h.most hmo)
  clear h
  go_enter Tryz.func47, Tryz.ntmps47
  go_wp2_with fail
  refine CG.out.mono ?_
  rintro e w1 ⟨hb, ht⟩
  have R1 := Lib.hid (RD.out.grown hb)
  have G1 := Lib.hid (grown_below hb (some g))
  have c1 := R1.out.blk.cell 1
  have f0 := R1.out.blk.frozen 0
  have f1 := R1.out.blk.frozen 1
  have d0 := R1.out.blk.cell 0
  simp only [List.getElem?_cons_zero, List.getElem?_cons_succ] at c1 d0
  have FL := Lib.hid R1.out.fail
  have GR := Lib.hid (grownBy_trans G1.out (grownBy_setCell w1 g 1 (.bool true)))
  clear hb c0
  rcases ht with ⟨d, k, v, hp, hk, rfl, ho⟩ | ⟨hp, ec, hec, rfl⟩
  · cases bad with
    | true =>
      have ON : Hid (Own (w1.setCell ⟨g, 1, none⟩ (.bool true)) w.heap.size (.slice none 0 0) []) := World.ownsRow_nil _ _ _ _
      clear hp hk ho
      go_wp2_with fail
      go_ret
      exact ⟨.slice none 0 0, ⟨rfl, GR.out, ao, m, c, FL.out⟩, ON.out⟩
    | false =>
      have HS : Hid (stepR (pData most) [] l false = (d, l.drop k, false)) := by show _ = _; rw [stepR, if_neg (by decide), hp]
      obtain ⟨af, s1, s2, s3, s4⟩ := slice_rest ao m c k l (by rw [← RD.out.len]; exact hk) RD.out.len.symm RD.out.hn RD.out.cap
      have RN : Hid (Rd (w1.setCell ⟨g, 0, none⟩ (.slice af (m - k) (c - k))) g (l.drop k) false af (m - k) (c - k)) := {
        blk := by have := R1.out.blk.set 0 (.slice af (m - k) (c - k)); simpa using this
        byt := byt_grown (s2 w1 R1.out.byt) (grownBy_setCell w1 g 0 _) (s4 g RD.out.far)
        hn := s3
        len := by rw [List.length_drop, RD.out.len]
        cap := by have := RD.out.cap; omega
        max := by have := RD.out.max; omega
        most := by have := RD.out.most; omega
        far := s4 g RD.out.far }
      have GN := Lib.hid (grownBy_trans G1.out (grownBy_setCell w1 g 0 (.slice af (m - k) (c - k))))
      have ON : Hid (Own (w1.setCell ⟨g, 0, none⟩ (.slice af (m - k) (c - k))) w.heap.size v d) := by
        show Own _ _ _ _
        refine World.ownsRow.kept ho (grownBy_setCell w1 g 0 _) ?_
        cases hv : v.ownBlock with
        | none => exact Or.inl rfl
        | some j => exact Or.inr fun e => by have := (ho.lt j hv).1; injection e with e; omega
      clear hp hk ho s2 s3 s4
      go_wp2_with fail
      go_ret
      rw [HS.out]
      exact ⟨v, ⟨rfl, GN.out, af, m - k, c - k, RN.out⟩, ON.out⟩
  · have ON : Hid (Own (w1.setCell ⟨g, 1, none⟩ (.bool true)) w.heap.size (.slice none 0 0) []) := World.ownsRow_nil _ _ _ _
    have t0 : (ec != 0) = true := by simpa using hec
    have HS : Hid (stepR (pData most) [] l bad = ([], l, true)) := by
      show _ = _
      cases bad with
      | true => rfl
      | false => rw [stepR, if_neg (by decide), hp]
    clear hp hec
    cases bad with
    | true =>
      go_wp2_with fail
      go_ret
      rw [HS.out]
      exact ⟨.slice none 0 0, ⟨rfl, GR.out, ao, m, c, FL.out⟩, ON.out⟩
    | false =>
      go_wp2_with fail
      go_ret
      rw [HS.out]
      exact ⟨.slice none 0 0, ⟨rfl, GR.out, ao, m, c, FL.out⟩, ON.out⟩
end Go.Proofs.YtpjgkboafmebbaaGreatDoor.Sh
