/-
  Blocks of the call's own; a device as memory holds it; the contracts of disk's made, awake, found, lasts, Size, Writes, Arm, Start. Conditions: each law's own.
-/
import Derived.Test.YtohmdcbfffgheaaKc
import Derived.Lib.BufferWrite
import Derived.WalkKit
import Derived.BigCall
import Derived.Outline
import Derived.Lib.Hide
import Derived.Lib.OthersKept
import Derived.BigQuiet
import Derived.Deep.QuietTactic
namespace Go.Proofs.Ytohmdcbfffgheaa.Dk
open Go.RowKit Go.Lib
/-- block g holds these cells, and none is frozen -/
def Blk (w : World) (g : Nat) (cs : List Value) (t : TypeId) : Prop := w.heap[g]? = some (.cells cs.toArray t (0, 0))
theorem Blk.lt {w : World} {g : Nat} {cs : List Value} {t : TypeId} (h : Blk w g cs t) : g < w.heap.size := (Array.getElem?_eq_some_iff.1 h).1
theorem Blk.cell {w : World} {g : Nat} {cs : List Value} {t : TypeId} (h : Blk w g cs t) (j : Nat) : w.cell? ⟨g, j, none⟩ = cs[j]? := by
  rw [cell_of_row w g j _ t (0, 0) h]
  simp
theorem Blk.frozen {w : World} {g : Nat} {cs : List Value} {t : TypeId} (h : Blk w g cs t) (j : Nat) : w.frozen? ⟨g, j, none⟩ = false := frozen_of_row w g j _ t h
theorem Blk.drew {w : World} {g : Nat} {cs : List Value} {t : TypeId} (h : Blk w g cs t) : Blk w.drew g cs t := h
theorem Blk.below {w w' : World} {B g : Nat} {cs : List Value} {t : TypeId} (h : Blk w g cs t) (hb : Below B w w') (hg : g < B) : Blk w' g cs t := (hb.block g hg).trans h
theorem Blk.low {w w' : World} {g : Nat} {cs : List Value} {t : TypeId} (h : Blk w g cs t) (hb : Below w.heap.size w w') : Blk w' g cs t := h.below hb h.lt
theorem Blk.alloc {w : World} {g : Nat} {cs : List Value} {t : TypeId} (h : Blk w g cs t) (o : Obj) : Blk (w.alloc o) g cs t := (Below.heap_alloc w o g h.lt).trans h
theorem Blk.new (w : World) (cs : List Value) (t : TypeId) (g : Nat) (hg : g = w.heap.size) : Blk (w.alloc (.cells cs.toArray t)) g cs t := by
  subst hg
  exact heap_alloc_new w _
theorem Blk.set {w : World} {g : Nat} {cs : List Value} {t : TypeId} (h : Blk w g cs t) (i : Nat) (v : Value) : Blk (w.setCell ⟨g, i, none⟩ v) g (cs.set i v) t := by
  unfold Blk
  rw [heap_setCell_same w g i _ t v h]
  simp
theorem Blk.other {w : World} {g : Nat} {cs : List Value} {t : TypeId} (h : Blk w g cs t) {a : Addr} (v : Value) (ha : g ≠ a.block) : Blk (w.setCell a v) g cs t := (heap_setCell_other w a g v ha).trans h
theorem blk_row {w w' : World} {g : Nat} {k : Option Nat} {cs : List Value} {t : TypeId} (h : Blk w g cs t) (hg : w.grownBy w' k) (hne : some g ≠ k) : Blk w' g cs t := (hg.block g h.lt hne).trans h
theorem below_chain {w W W' : World} (h : Below w.heap.size w W) (hb : Below W.heap.size W W') : Below w.heap.size w W' := h.trans (hb.mono h.size)
/-- a device's cells -/
def dvC (so : Option Addr) (n c : Nat) (low : Int) (mo : Option Nat) (pw : Bool) (left wr : Int) : List Value := [.slice so n c, .int .i64 low, .map mo, .bool pw, .int .i64 left, .int .i64 wr]
def Dv (w : World) (g : Nat) (so : Option Addr) (n c : Nat) (low : Int) (mo : Option Nat) (pw : Bool) (left wr : Int) : Prop := Blk w g (dvC so n c low mo pw left wr) 61
section
variable {w : World} {g n c : Nat} {so : Option Addr} {low left wr : Int} {mo : Option Nat} {pw : Bool}
theorem Dv.cells (h : Dv w g so n c low mo pw left wr) : w.cell? ⟨g, 0, none⟩ = some (.slice so n c) ∧ w.cell? ⟨g, 1, none⟩ = some (.int .i64 low) ∧ w.cell? ⟨g, 2, none⟩ = some (.map mo) ∧ w.cell? ⟨g, 3, none⟩ = some (.bool pw) ∧ w.cell? ⟨g, 4, none⟩ = some (.int .i64 left) ∧ w.cell? ⟨g, 5, none⟩ = some (.int .i64 wr) :=
  ⟨Blk.cell h 0, Blk.cell h 1, Blk.cell h 2, Blk.cell h 3, Blk.cell h 4, Blk.cell h 5⟩
set_option maxRecDepth 100000 in
theorem made_nil (w : World) : Calls Try.prog 35 #[.pointer none] w fun e w' => e = .returned (.bool false) ∧ w' = w := by
  go_enter Try.func35, Try.ntmps35
  go_wp2_with fail
  go_ret
  exact ⟨rfl, rfl⟩
set_option maxRecDepth 100000 in
theorem made_any (h : Dv w g so n c low mo pw left wr) : Calls Try.prog 35 #[.pointer (some ⟨g, 0, none⟩)] w fun e w' => e = .returned (.bool (decide (0 < n))) ∧ w' = w := by
  obtain ⟨c0, _, _, _, _, _⟩ := h.cells
  by_cases hn : 0 < n
  · have t1 : decide (0 < n) = true := by simpa using hn
    have t2 : decide ((0 : Int) < (n : Int)) = true := by simp; omega
    go_enter Try.func35, Try.ntmps35
    go_wp2_with fail
    go_ret
    exact ⟨by rw [t1]; rfl, rfl⟩
  · have t1 : decide (0 < n) = false := by simpa using hn
    have t2 : decide ((0 : Int) < (n : Int)) = false := by simp; omega
    go_enter Try.func35, Try.ntmps35
    go_wp2_with fail
    go_ret
    exact ⟨by rw [t1]; rfl, rfl⟩
/-- why a device does nothing -/
def awakeE (n : Nat) (pw : Bool) : Int := if n = 0 then 1 else if pw = true then 0 else 91
set_option maxRecDepth 100000 in
theorem awake_nil (w : World) : Calls Try.prog 42 #[.pointer none] w fun e w' => e = .returned (.int .i64 1) ∧ w' = w := by
  go_enter Try.func42, Try.ntmps42
  go_wp2_with fail
  refine (made_nil w).mono ?_
  rintro e w1 ⟨rfl, rfl⟩
  go_wp2_with fail
  go_ret
  exact ⟨rfl, rfl⟩
set_option maxRecDepth 100000 in
theorem awake_any (h : Dv w g so n c low mo pw left wr) : Calls Try.prog 42 #[.pointer (some ⟨g, 0, none⟩)] w fun e w' => e = .returned (.int .i64 (awakeE n pw)) ∧ w' = w := by
  have HM := Lib.hid (made_any h)
  obtain ⟨_, _, _, c3, _, _⟩ := h.cells
  by_cases hn : n = 0
  · have e1 : awakeE n pw = 1 := by rw [awakeE, if_pos hn]
    have t1 : decide (0 < n) = false := by simp; omega
    rw [t1] at HM
    rw [e1]
    clear hn e1 t1
    go_enter Try.func42, Try.ntmps42
    go_wp2_with fail
    refine HM.out.mono ?_
    rintro e w1 ⟨rfl, rfl⟩
    go_wp2_with fail
    go_ret
    exact ⟨rfl, rfl⟩
  · have t1 : decide (0 < n) = true := by simp; omega
    rw [t1] at HM
    cases pw with
    | true =>
      have e1 : awakeE n true = 0 := by rw [awakeE, if_neg hn, if_pos rfl]
      rw [e1]
      clear hn e1 t1
      go_enter Try.func42, Try.ntmps42
      go_wp2_with fail
      refine HM.out.mono ?_
      rintro e w1 ⟨rfl, rfl⟩
      go_wp2_with fail
      go_ret
      exact ⟨rfl, rfl⟩
    | false =>
      have e1 : awakeE n false = 91 := by rw [awakeE, if_neg hn, if_neg (by decide)]
      rw [e1]
      clear hn e1 t1
      go_enter Try.func42, Try.ntmps42
      go_wp2_with fail
      refine HM.out.mono ?_
      rintro e w1 ⟨rfl, rfl⟩
      go_wp2_with fail
      go_ret
      exact ⟨rfl, rfl⟩
/-- why a device has no sector to read -/
def foundE (n : Nat) (pw : Bool) (at' : Int) : Int := if awakeE n pw ≠ 0 then awakeE n pw else if at' < 0 ∨ (n : Int) ≤ at' then 90 else 0
set_option maxRecDepth 100000 in
theorem found_nil (i : Int) (w : World) : Calls Try.prog 36 #[.pointer none, .int .i64 i] w fun e w' => e = .returned (.int .i64 1) ∧ w' = w := by
  go_enter Try.func36, Try.ntmps36
  go_wp2_with fail
  refine (awake_nil w).mono ?_
  rintro e w1 ⟨rfl, rfl⟩
  go_wp2_with fail
  go_ret
  exact ⟨rfl, rfl⟩
set_option maxHeartbeats 1000000 in
set_option maxRecDepth 100000 in
theorem found_any (i : Int) (h : Dv w g so n c low mo pw left wr) : Calls Try.prog 36 #[.pointer (some ⟨g, 0, none⟩), .int .i64 i] w fun e w' => e = .returned (.int .i64 (foundE n pw i)) ∧ w' = w := by
  have HM := Lib.hid (awake_any h)
  obtain ⟨c0, _, _, _, _, _⟩ := h.cells
  by_cases ha : awakeE n pw = 0
  · rw [ha] at HM
    by_cases h0 : i < 0
    · have t1 : decide (i < 0) = true := by simpa using h0
      have e1 : foundE n pw i = 90 := by rw [foundE, if_neg (by simp [ha]), if_pos (.inl h0)]
      rw [e1]
      clear e1 h0 ha
      go_enter Try.func36, Try.ntmps36
      go_wp2_with fail
      refine HM.out.mono ?_
      rintro e w1 ⟨rfl, rfl⟩
      go_wp2_with fail
      go_ret
      exact ⟨rfl, rfl⟩
    · have t1 : decide (i < 0) = false := by simpa using h0
      by_cases h1 : (n : Int) ≤ i
      · have t2 : decide ((n : Int) ≤ i) = true := by simpa using h1
        have e1 : foundE n pw i = 90 := by rw [foundE, if_neg (by simp [ha]), if_pos (.inr h1)]
        rw [e1]
        clear e1 h0 h1 ha
        go_enter Try.func36, Try.ntmps36
        go_wp2_with fail
        refine HM.out.mono ?_
        rintro e w1 ⟨rfl, rfl⟩
        go_wp2_with fail
        go_ret
        exact ⟨rfl, rfl⟩
      · have t2 : decide ((n : Int) ≤ i) = false := by simpa using h1
        have e1 : foundE n pw i = 0 := by rw [foundE, if_neg (by simp [ha]), if_neg (by omega)]
        rw [e1]
        clear e1 h0 h1 ha
        go_enter Try.func36, Try.ntmps36
        go_wp2_with fail
        refine HM.out.mono ?_
        rintro e w1 ⟨rfl, rfl⟩
        go_wp2_with fail
        go_ret
        exact ⟨rfl, rfl⟩
  · have e1 : foundE n pw i = awakeE n pw := by rw [foundE, if_pos ha]
    rw [e1]
    obtain ⟨z, hz⟩ : ∃ z, z = awakeE n pw := ⟨_, rfl⟩
    rw [← hz] at HM ha ⊢
    have t3 : (z != 0) = true := by simpa using ha
    clear e1 ha hz
    go_enter Try.func36, Try.ntmps36
    go_wp2_with fail
    refine HM.out.mono ?_
    rintro e w1 ⟨rfl, rfl⟩
    go_wp2_with fail
    go_ret
    exact ⟨rfl, rfl⟩
set_option maxRecDepth 100000 in
theorem writes_nil (w : World) : Calls Try.prog 13 #[.pointer none] w fun e w' => e = .returned (.int .i64 0) ∧ w' = w := by
  go_enter Try.func13, Try.ntmps13
  go_wp2_with fail
  refine (made_nil w).mono ?_
  rintro e w1 ⟨rfl, rfl⟩
  go_wp2_with fail
  go_ret
  exact ⟨rfl, rfl⟩
set_option maxRecDepth 100000 in
theorem writes_any (h : Dv w g so n c low mo pw left wr) : Calls Try.prog 13 #[.pointer (some ⟨g, 0, none⟩)] w fun e w' => e = .returned (.int .i64 (if n = 0 then 0 else wr)) ∧ w' = w := by
  have HM := Lib.hid (made_any h)
  obtain ⟨_, _, _, _, _, c5⟩ := h.cells
  by_cases hn : n = 0
  · have t1 : decide (0 < n) = false := by simp; omega
    rw [t1] at HM
    rw [if_pos hn]
    clear hn t1
    go_enter Try.func13, Try.ntmps13
    go_wp2_with fail
    refine HM.out.mono ?_
    rintro e w1 ⟨rfl, rfl⟩
    go_wp2_with fail
    go_ret
    exact ⟨rfl, rfl⟩
  · have t1 : decide (0 < n) = true := by simp; omega
    rw [t1] at HM
    rw [if_neg hn]
    clear hn t1
    go_enter Try.func13, Try.ntmps13
    go_wp2_with fail
    refine HM.out.mono ?_
    rintro e w1 ⟨rfl, rfl⟩
    go_wp2_with fail
    go_ret
    exact ⟨rfl, rfl⟩
set_option maxRecDepth 100000 in
theorem size_nil (w : World) : Calls Try.prog 34 #[.pointer none] w fun e w' => e = .returned (.tuple #[.int .i64 0, .int .i64 0]) ∧ w' = w := by
  go_enter Try.func34, Try.ntmps34
  go_wp2_with fail
  refine (made_nil w).mono ?_
  rintro e w1 ⟨rfl, rfl⟩
  go_wp2_with fail
  go_ret2
  exact ⟨rfl, rfl⟩
set_option maxHeartbeats 1000000 in
set_option maxRecDepth 100000 in
theorem size_any (h : Dv w g so n c low mo pw left wr) (hn : n ≠ 0) : Calls Try.prog 34 #[.pointer (some ⟨g, 0, none⟩)] w fun e w' => e = .returned (.tuple #[.int .i64 (n : Int), .int .i64 low]) ∧ ∃ q, w' = w.drewN q := by
  have HM := Lib.hid (made_any h)
  obtain ⟨c0, c1, _, _, _, _⟩ := h.cells
  have t1 : decide (0 < n) = true := by simp; omega
  rw [t1] at HM
  clear hn t1
  go_enter Try.func34, Try.ntmps34
  go_wp2_with fail
  refine HM.out.mono ?_
  rintro e w1 ⟨rfl, rfl⟩
  go_wp2_with fail
  go_quiet (fail)
  go_wp2_with fail
  go_ret2
  exact ⟨rfl, ⟨_, rfl⟩⟩
set_option maxRecDepth 100000 in
theorem start_nil (w : World) : Calls Try.prog 26 #[.pointer none] w fun e w' => e = .returned (.tuple #[]) ∧ w' = w := by
  go_enter Try.func26, Try.ntmps26
  go_wp2_with fail
  refine (made_nil w).mono ?_
  rintro e w1 ⟨rfl, rfl⟩
  go_wp2_with fail
  go_end0
  exact ⟨rfl, rfl⟩
theorem dv_two (h : Dv w g so n c low mo pw left wr) (p2 : Bool) (l2 : Int) : Dv ((w.setCell ⟨g, 3, none⟩ (.bool p2)).setCell ⟨g, 4, none⟩ (.int .i64 l2)) g so n c low mo p2 l2 wr := by
  have h2 := (Blk.set h 3 (.bool p2)).set 4 (.int .i64 l2)
  simpa [dvC, Dv] using h2
theorem dv_lft (h : Dv w g so n c low mo pw left wr) (l2 : Int) : Dv (w.setCell ⟨g, 4, none⟩ (.int .i64 l2)) g so n c low mo pw l2 wr := by
  have h2 := Blk.set h 4 (.int .i64 l2)
  simpa [dvC, Dv] using h2
theorem dv_powr (h : Dv w g so n c low mo pw left wr) (p2 : Bool) : Dv (w.setCell ⟨g, 3, none⟩ (.bool p2)) g so n c low mo p2 left wr := by
  have h2 := Blk.set h 3 (.bool p2)
  simpa [dvC, Dv] using h2
theorem dv_writ (h : Dv w g so n c low mo pw left wr) (x : Int) : Dv (w.setCell ⟨g, 5, none⟩ (.int .i64 x)) g so n c low mo pw left x := by
  have h2 := Blk.set h 5 (.int .i64 x)
  simpa [dvC, Dv] using h2
theorem gb_set (w : World) (g i : Nat) (v : Value) : w.grownBy (w.setCell ⟨g, i, none⟩ v) (some g) := grownBy_setCell w g i v
theorem gb_trans {a b c : World} {g : Nat} (h : a.grownBy b (some g)) (k : b.grownBy c (some g)) : a.grownBy c (some g) :=
  ⟨k.os.trans h.os, k.tape.trans h.tape, k.output.trans h.output, Nat.le_trans h.size k.size, fun i hi hne => (k.block i (Nat.lt_of_lt_of_le hi h.size) hne).trans (h.block i hi hne)⟩
set_option maxRecDepth 100000 in
theorem start_any (h : Dv w g so n c low mo pw left wr) (hn : n ≠ 0) : Calls Try.prog 26 #[.pointer (some ⟨g, 0, none⟩)] w fun e w' => e = .returned (.tuple #[]) ∧ w.grownBy w' (some g) ∧ Dv w' g so n c low mo true (-1) wr := by
  have HM := Lib.hid (made_any h)
  have HH := Lib.hid h
  obtain ⟨_, _, _, c3, c4, _⟩ := h.cells
  have f3 := Blk.frozen h 3
  have f4 := Blk.frozen h 4
  have t1 : decide (0 < n) = true := by simp; omega
  rw [t1] at HM
  clear hn t1 h
  go_enter Try.func26, Try.ntmps26
  go_wp2_with fail
  refine HM.out.mono ?_
  rintro e w1 ⟨rfl, rfl⟩
  go_wp2_with fail
  go_end0
  exact ⟨rfl, gb_trans (gb_set _ g 3 _) (gb_set _ g 4 _), dv_two HH.out true (-1)⟩
set_option maxRecDepth 100000 in
theorem arm_nil (x : Int) (w : World) : Calls Try.prog 10 #[.pointer none, .int .i64 x] w fun e w' => e = .returned (.tuple #[]) ∧ w' = w := by
  go_enter Try.func10, Try.ntmps10
  go_wp2_with fail
  refine (made_nil w).mono ?_
  rintro e w1 ⟨rfl, rfl⟩
  go_wp2_with fail
  go_end0
  exact ⟨rfl, rfl⟩
set_option maxRecDepth 100000 in
theorem arm_any (x : Int) (h : Dv w g so n c low mo pw left wr) (hn : n ≠ 0) : Calls Try.prog 10 #[.pointer (some ⟨g, 0, none⟩), .int .i64 x] w fun e w' => e = .returned (.tuple #[]) ∧ w.grownBy w' (some g) ∧ Dv w' g so n c low mo pw (max x (-1)) wr := by
  have HM := Lib.hid (made_any h)
  have HH := Lib.hid h
  obtain ⟨_, _, _, c3, c4, _⟩ := h.cells
  have f4 := Blk.frozen h 4
  have t1 : decide (0 < n) = true := by simp; omega
  rw [t1] at HM
  clear hn t1 h
  by_cases hx : x < -1
  · have e1 : max x (-1) = -1 := by omega
    rw [e1]
    clear e1
    go_enter Try.func10, Try.ntmps10
    go_wp2_with fail
    refine HM.out.mono ?_
    rintro e w1 ⟨rfl, rfl⟩
    go_wp2_with fail
    go_end0
    exact ⟨rfl, gb_set _ g 4 _, (dv_lft HH.out (-1))⟩
  · have e1 : max x (-1) = x := by omega
    rw [e1]
    clear e1
    go_enter Try.func10, Try.ntmps10
    go_wp2_with fail
    refine HM.out.mono ?_
    rintro e w1 ⟨rfl, rfl⟩
    go_wp2_with fail
    go_end0
    exact ⟨rfl, gb_set _ g 4 _, (dv_lft HH.out x)⟩
set_option maxHeartbeats 1000000 in
set_option maxRecDepth 100000 in
/-- does a write find power? -/
theorem lasts_dead (h : Dv w g so n c low mo pw 0 wr) : Calls Try.prog 37 #[.pointer (some ⟨g, 0, none⟩)] w fun e w' => e = .returned (.bool false) ∧ w.grownBy w' (some g) ∧ Dv w' g so n c low mo false 0 wr := by
  have HH := Lib.hid h
  obtain ⟨_, _, _, c3, c4, _⟩ := h.cells
  have f3 := Blk.frozen h 3
  clear h
  go_enter Try.func37, Try.ntmps37
  go_wp2_with fail
  go_ret
  exact ⟨rfl, gb_set _ g 3 _, dv_powr HH.out false⟩
set_option maxHeartbeats 1000000 in
set_option maxRecDepth 100000 in
theorem lasts_any (h : Dv w g so n c low mo pw left wr) (hl : left ≠ 0) (h0 : -1 ≤ left) (h1 : left ≤ 9223372036854775807) (h2 : 0 ≤ wr) (h3 : wr < 9223372036854775807) :
    Calls Try.prog 37 #[.pointer (some ⟨g, 0, none⟩)] w fun e w' => e = .returned (.bool true) ∧ w.grownBy w' (some g) ∧ Dv w' g so n c low mo pw (if 0 < left then left - 1 else left) (wr + 1) := by
  have HH := Lib.hid h
  obtain ⟨_, _, _, c3, c4, c5⟩ := h.cells
  have f4 := Blk.frozen h 4
  have f5 := Blk.frozen h 5
  have t1 : (left == 0) = false := by simpa using hl
  have w1 : IntKind.i64.wrap (wr + 1) = wr + 1 := IntWalk.i64_in _ (by omega)
  by_cases hp : 0 < left
  · have t2 : decide (0 < left) = true := by simpa using hp
    have w2 : IntKind.i64.wrap (left - 1) = left - 1 := IntWalk.i64_in _ (by omega)
    rw [if_pos hp]
    have HZ := Lib.hid (dv_writ (dv_lft HH.out (left - 1)) (wr + 1))
    have g5 := Blk.cell ((dv_lft HH.out (left - 1))) 5
    have k5 := Blk.frozen ((dv_lft HH.out (left - 1))) 5
    simp only [dvC, List.getElem?_cons_zero, List.getElem?_cons_succ] at g5
    clear hl hp h h0 h1 h2 h3
    go_enter Try.func37, Try.ntmps37
    go_wp2_with fail
    go_ret
    exact ⟨rfl, gb_trans (gb_set _ g 4 _) (gb_set _ g 5 _), HZ.out⟩
  · have t2 : decide (0 < left) = false := by simpa using hp
    rw [if_neg hp]
    have HZ := Lib.hid (dv_writ HH.out (wr + 1))
    clear hl hp h h0 h1 h2 h3
    go_enter Try.func37, Try.ntmps37
    go_wp2_with fail
    go_ret
    exact ⟨rfl, gb_set _ g 5 _, HZ.out⟩
end
end Go.Proofs.Ytohmdcbfffgheaa.Dk
