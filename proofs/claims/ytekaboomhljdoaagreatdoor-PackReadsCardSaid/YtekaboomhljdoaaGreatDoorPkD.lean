/-
  What a crash leaves of each sector; the rows of ints that the statement DiskKeeps keeps beside the device. Conditions: each law's own.
-/
import Derived.Test.YtekaboomhljdoaaGreatDoorKc
import Derived.Lib.BufferWrite
import Derived.WalkKit
import Derived.BigCall
import Derived.Outline
import Derived.Lib.Hide
import Derived.Lib.OthersKept
import Derived.BigQuiet
import Derived.Deep.QuietTactic
import Derived.Maps.OwnSet
import Derived.Maps.OwnOps
import Derived.Maps.Ext
import Derived.Deep.MidRow
import Derived.Laws.Tables
import Derived.Laws.ResultCell
import Derived.Deep.WholeRow
import Derived.Maps.RangeWalk
import Derived.RangeFuncNested
import Derived.RangeFuncBound
import Derived.RangeFuncCalls
import Derived.RangeFuncLeaves
import Derived.Shelf.Abstract
import Derived.Shelf.RegionOpen
import Derived.OwnWalkIn
import Derived.TacticsInMore
import Derived.LoopNIn
import Derived.LoopIn
import Derived.Sort.QuietIn
import Derived.RangeFuncBox
import Derived.Maps.OwnIn
import Derived.Great.BuildSlice
import Derived.Laws.CopyOwn
namespace Go.Proofs.YtekaboomhljdoaaGreatDoor.Dk
open Go.Proofs.YtekaboomhljdoaaGreatDoor.Sh Go.RowKit Go.Lib
/-- block g holds these cells, and none is frozen -/
def Blk (w : World) (g : Nat) (cs : List Value) (t : TypeId) : Prop := w.heap[g]? = some (.cells cs.toArray t (0, 0))
theorem Blk.lt {w : World} {g : Nat} {cs : List Value} {t : TypeId} (h : Blk w g cs t) : g < w.heap.size := (Array.getElem?_eq_some_iff.1 h).1
theorem Blk.cell {w : World} {g : Nat} {cs : List Value} {t : TypeId} (h : Blk w g cs t) (j : Nat) : w.cell? ⟨g, j, none⟩ = cs[j]? := by
  rw [cell_of_row w g j _ t (0, 0) h]
  simp
theorem Blk.frozen {w : World} {g : Nat} {cs : List Value} {t : TypeId} (h : Blk w g cs t) (j : Nat) : w.frozen? ⟨g, j, none⟩ = false := frozen_of_row w g j _ t h
theorem Blk.drew {w : World} {g : Nat} {cs : List Value} {t : TypeId} (h : Blk w g cs t) : Blk w.drew g cs t := h
theorem Blk.below {w w' : World} {B g : Nat} {cs : List Value} {t : TypeId} (h : Blk w g cs t) (hb : Below B w w') (hg : g < B) : Blk w' g cs t := (hb.block g hg).trans h
theorem Blk.low {w w' : World} {g : Nat} {cs : List Value} {t : TypeId} (h : Blk w g cs t) (hb : Below w.heap.size w w') : Blk w' g cs t := h.below hb h.lt
theorem Blk.alloc {w : World} {g : Nat} {cs : List Value} {t : TypeId} (h : Blk w g cs t) (o : Obj) : Blk (w.alloc o) g cs t := (Below.heap_alloc w o g h.lt).trans h
theorem Blk.new (w : World) (cs : List Value) (t : TypeId) (g : Nat) (hg : g = w.heap.size) : Blk (w.alloc (.cells cs.toArray t)) g cs t := by
  subst hg
  exact heap_alloc_new w _
theorem Blk.set {w : World} {g : Nat} {cs : List Value} {t : TypeId} (h : Blk w g cs t) (i : Nat) (v : Value) : Blk (w.setCell ⟨g, i, none⟩ v) g (cs.set i v) t := by
  unfold Blk
  rw [heap_setCell_same w g i _ t v h]
  simp
theorem Blk.other {w : World} {g : Nat} {cs : List Value} {t : TypeId} (h : Blk w g cs t) {a : Addr} (v : Value) (ha : g ≠ a.block) : Blk (w.setCell a v) g cs t := (heap_setCell_other w a g v ha).trans h
theorem blk_row {w w' : World} {g : Nat} {k : Option Nat} {cs : List Value} {t : TypeId} (h : Blk w g cs t) (hg : w.grownBy w' k) (hne : some g ≠ k) : Blk w' g cs t := (hg.block g h.lt hne).trans h
theorem below_chain {w W W' : World} (h : Below w.heap.size w W) (hb : Below W.heap.size W W') : Below w.heap.size w W' := h.trans (hb.mono h.size)
/-- a device's cells -/
def dvC (so : Option Addr) (n c : Nat) (low : Int) (mo : Option Nat) (pw : Bool) (left wr : Int) : List Value := [.slice so n c, .int .i64 low, .map mo, .bool pw, .int .i64 left, .int .i64 wr]
def Dv (w : World) (g : Nat) (so : Option Addr) (n c : Nat) (low : Int) (mo : Option Nat) (pw : Bool) (left wr : Int) : Prop := Blk w g (dvC so n c low mo pw left wr) 73
section
variable {w : World} {g n c : Nat} {so : Option Addr} {low left wr : Int} {mo : Option Nat} {pw : Bool}
theorem Dv.cells (h : Dv w g so n c low mo pw left wr) : w.cell? ⟨g, 0, none⟩ = some (.slice so n c) ∧ w.cell? ⟨g, 1, none⟩ = some (.int .i64 low) ∧ w.cell? ⟨g, 2, none⟩ = some (.map mo) ∧ w.cell? ⟨g, 3, none⟩ = some (.bool pw) ∧ w.cell? ⟨g, 4, none⟩ = some (.int .i64 left) ∧ w.cell? ⟨g, 5, none⟩ = some (.int .i64 wr) :=
  ⟨Blk.cell h 0, Blk.cell h 1, Blk.cell h 2, Blk.cell h 3, Blk.cell h 4, Blk.cell h 5⟩
set_option maxRecDepth 100000 in
theorem made_nil (w : World) : Calls Tryz.prog 49 #[.pointer none] w fun e w' => e = .returned (.bool false) ∧ w' = w := by
  go_enter Tryz.func49, Tryz.ntmps49
  go_wp2_with fail
  go_ret
  exact ⟨rfl, rfl⟩
set_option maxRecDepth 100000 in
theorem made_any (h : Dv w g so n c low mo pw left wr) : Calls Tryz.prog 49 #[.pointer (some ⟨g, 0, none⟩)] w fun e w' => e = .returned (.bool (decide (0 < n))) ∧ w' = w := by
  obtain ⟨c0, _, _, _, _, _⟩ := h.cells
  by_cases hn : 0 < n
  · have t1 : decide (0 < n) = true := by simpa using hn
    have t2 : decide ((0 : Int) < (n : Int)) = true := by simp; omega
    go_enter Tryz.func49, Tryz.ntmps49
    go_wp2_with fail
    go_ret
    exact ⟨by rw [t1]; rfl, rfl⟩
  · have t1 : decide (0 < n) = false := by simpa using hn
    have t2 : decide ((0 : Int) < (n : Int)) = false := by simp; omega
    go_enter Tryz.func49, Tryz.ntmps49
    go_wp2_with fail
    go_ret
    exact ⟨by rw [t1]; rfl, rfl⟩
/-- why a device does nothing -/
def awakeE (n : Nat) (pw : Bool) : Int := if n = 0 then 1 else if pw = true then 0 else 91
set_option maxRecDepth 100000 in
theorem awake_nil (w : World) : Calls Tryz.prog 37 #[.pointer none] w fun e w' => e = .returned (.int .i64 1) ∧ w' = w := by
  go_enter Tryz.func37, Tryz.ntmps37
  go_wp2_with fail
  refine (made_nil w).mono ?_
  rintro e w1 ⟨rfl, rfl⟩
  go_wp2_with fail
  go_ret
  exact ⟨rfl, rfl⟩
set_option maxRecDepth 100000 in
theorem awake_any (h : Dv w g so n c low mo pw left wr) : Calls Tryz.prog 37 #[.pointer (some ⟨g, 0, none⟩)] w fun e w' => e = .returned (.int .i64 (awakeE n pw)) ∧ w' = w := by
  have HM := Lib.hid (made_any h)
  obtain ⟨_, _, _, c3, _, _⟩ := h.cells
  by_cases hn : n = 0
  · have e1 : awakeE n pw = 1 := by rw [awakeE, if_pos hn]
    have t1 : decide (0 < n) = false := by simp; omega
    rw [t1] at HM
    rw [e1]
    clear hn e1 t1
    go_enter Tryz.func37, Tryz.ntmps37
    go_wp2_with fail
    refine HM.out.mono ?_
    rintro e w1 ⟨rfl, rfl⟩
    go_wp2_with fail
    go_ret
    exact ⟨rfl, rfl⟩
  · have t1 : decide (0 < n) = true := by simp; omega
    rw [t1] at HM
    cases pw with
    | true =>
      have e1 : awakeE n true = 0 := by rw [awakeE, if_neg hn, if_pos rfl]
      rw [e1]
      clear hn e1 t1
      go_enter Tryz.func37, Tryz.ntmps37
      go_wp2_with fail
      refine HM.out.mono ?_
      rintro e w1 ⟨rfl, rfl⟩
      go_wp2_with fail
      go_ret
      exact ⟨rfl, rfl⟩
    | false =>
      have e1 : awakeE n false = 91 := by rw [awakeE, if_neg hn, if_neg (by decide)]
      rw [e1]
      clear hn e1 t1
      go_enter Tryz.func37, Tryz.ntmps37
      go_wp2_with fail
      refine HM.out.mono ?_
      rintro e w1 ⟨rfl, rfl⟩
      go_wp2_with fail
      go_ret
      exact ⟨rfl, rfl⟩
/-- why a device has no sector to read -/
def foundE (n : Nat) (pw : Bool) (at' : Int) : Int := if awakeE n pw ≠ 0 then awakeE n pw else if at' < 0 ∨ (n : Int) ≤ at' then 90 else 0
set_option maxRecDepth 100000 in
theorem found_nil (i : Int) (w : World) : Calls Tryz.prog 55 #[.pointer none, .int .i64 i] w fun e w' => e = .returned (.int .i64 1) ∧ w' = w := by
  go_enter Tryz.func55, Tryz.ntmps55
  go_wp2_with fail
  refine (awake_nil w).mono ?_
  rintro e w1 ⟨rfl, rfl⟩
  go_wp2_with fail
  go_ret
  exact ⟨rfl, rfl⟩
set_option maxHeartbeats 1000000 in
set_option maxRecDepth 100000 in
theorem found_any (i : Int) (h : Dv w g so n c low mo pw left wr) : Calls Tryz.prog 55 #[.pointer (some ⟨g, 0, none⟩), .int .i64 i] w fun e w' => e = .returned (.int .i64 (foundE n pw i)) ∧ w' = w := by
  have HM := Lib.hid (awake_any h)
  obtain ⟨c0, _, _, _, _, _⟩ := h.cells
  by_cases ha : awakeE n pw = 0
  · rw [ha] at HM
    by_cases h0 : i < 0
    · have t1 : decide (i < 0) = true := by simpa using h0
      have e1 : foundE n pw i = 90 := by rw [foundE, if_neg (by simp [ha]), if_pos (.inl h0)]
      rw [e1]
      clear e1 h0 ha
      go_enter Tryz.func55, Tryz.ntmps55
      go_wp2_with fail
      refine HM.out.mono ?_
      rintro e w1 ⟨rfl, rfl⟩
      go_wp2_with fail
      go_ret
      exact ⟨rfl, rfl⟩
    · have t1 : decide (i < 0) = false := by simpa using h0
      by_cases h1 : (n : Int) ≤ i
      · have t2 : decide ((n : Int) ≤ i) = true := by simpa using h1
        have e1 : foundE n pw i = 90 := by rw [foundE, if_neg (by simp [ha]), if_pos (.inr h1)]
        rw [e1]
        clear e1 h0 h1 ha
        go_enter Tryz.func55, Tryz.ntmps55
        go_wp2_with fail
        refine HM.out.mono ?_
        rintro e w1 ⟨rfl, rfl⟩
        go_wp2_with fail
        go_ret
        exact ⟨rfl, rfl⟩
      · have t2 : decide ((n : Int) ≤ i) = false := by simpa using h1
        have e1 : foundE n pw i = 0 := by rw [foundE, if_neg (by simp [ha]), if_neg (by omega)]
        rw [e1]
        clear e1 h0 h1 ha
        go_enter Tryz.func55, Tryz.ntmps55
        go_wp2_with fail
        refine HM.out.mono ?_
        rintro e w1 ⟨rfl, rfl⟩
        go_wp2_with fail
        go_ret
        exact ⟨rfl, rfl⟩
  · have e1 : foundE n pw i = awakeE n pw := by rw [foundE, if_pos ha]
    rw [e1]
    obtain ⟨z, hz⟩ : ∃ z, z = awakeE n pw := ⟨_, rfl⟩
    rw [← hz] at HM ha ⊢
    have t3 : (z != 0) = true := by simpa using ha
    clear e1 ha hz
    go_enter Tryz.func55, Tryz.ntmps55
    go_wp2_with fail
    refine HM.out.mono ?_
    rintro e w1 ⟨rfl, rfl⟩
    go_wp2_with fail
    go_ret
    exact ⟨rfl, rfl⟩
set_option maxRecDepth 100000 in
theorem size_nil (w : World) : Calls Tryz.prog 31 #[.pointer none] w fun e w' => e = .returned (.tuple #[.int .i64 0, .int .i64 0]) ∧ w' = w := by
  go_enter Tryz.func31, Tryz.ntmps31
  go_wp2_with fail
  refine (made_nil w).mono ?_
  rintro e w1 ⟨rfl, rfl⟩
  go_wp2_with fail
  go_ret2
  exact ⟨rfl, rfl⟩
set_option maxHeartbeats 1000000 in
set_option maxRecDepth 100000 in
theorem size_any (h : Dv w g so n c low mo pw left wr) (hn : n ≠ 0) : Calls Tryz.prog 31 #[.pointer (some ⟨g, 0, none⟩)] w fun e w' => e = .returned (.tuple #[.int .i64 (n : Int), .int .i64 low]) ∧ ∃ q, w' = w.drewN q := by
  have HM := Lib.hid (made_any h)
  obtain ⟨c0, c1, _, _, _, _⟩ := h.cells
  have t1 : decide (0 < n) = true := by simp; omega
  rw [t1] at HM
  clear hn t1
  go_enter Tryz.func31, Tryz.ntmps31
  go_wp2_with fail
  refine HM.out.mono ?_
  rintro e w1 ⟨rfl, rfl⟩
  go_wp2_with fail
  go_quiet (fail)
  go_wp2_with fail
  go_ret2
  exact ⟨rfl, ⟨_, rfl⟩⟩
set_option maxRecDepth 100000 in
theorem start_nil (w : World) : Calls Tryz.prog 23 #[.pointer none] w fun e w' => e = .returned (.tuple #[]) ∧ w' = w := by
  go_enter Tryz.func23, Tryz.ntmps23
  go_wp2_with fail
  refine (made_nil w).mono ?_
  rintro e w1 ⟨rfl, rfl⟩
  go_wp2_with fail
  go_end0
  exact ⟨rfl, rfl⟩
theorem dv_two (h : Dv w g so n c low mo pw left wr) (p2 : Bool) (l2 : Int) : Dv ((w.setCell ⟨g, 3, none⟩ (.bool p2)).setCell ⟨g, 4, none⟩ (.int .i64 l2)) g so n c low mo p2 l2 wr := by
  have h2 := (Blk.set h 3 (.bool p2)).set 4 (.int .i64 l2)
  simpa [dvC, Dv] using h2
theorem dv_lft (h : Dv w g so n c low mo pw left wr) (l2 : Int) : Dv (w.setCell ⟨g, 4, none⟩ (.int .i64 l2)) g so n c low mo pw l2 wr := by
  have h2 := Blk.set h 4 (.int .i64 l2)
  simpa [dvC, Dv] using h2
theorem dv_powr (h : Dv w g so n c low mo pw left wr) (p2 : Bool) : Dv (w.setCell ⟨g, 3, none⟩ (.bool p2)) g so n c low mo p2 left wr := by
  have h2 := Blk.set h 3 (.bool p2)
  simpa [dvC, Dv] using h2
theorem dv_writ (h : Dv w g so n c low mo pw left wr) (x : Int) : Dv (w.setCell ⟨g, 5, none⟩ (.int .i64 x)) g so n c low mo pw left x := by
  have h2 := Blk.set h 5 (.int .i64 x)
  simpa [dvC, Dv] using h2
theorem gb_set (w : World) (g i : Nat) (v : Value) : w.grownBy (w.setCell ⟨g, i, none⟩ v) (some g) := grownBy_setCell w g i v
theorem gb_trans {a b c : World} {g : Nat} (h : a.grownBy b (some g)) (k : b.grownBy c (some g)) : a.grownBy c (some g) :=
  ⟨k.os.trans h.os, k.tape.trans h.tape, k.output.trans h.output, Nat.le_trans h.size k.size, fun i hi hne => (k.block i (Nat.lt_of_lt_of_le hi h.size) hne).trans (h.block i hi hne)⟩
set_option maxRecDepth 100000 in
theorem start_any (h : Dv w g so n c low mo pw left wr) (hn : n ≠ 0) : Calls Tryz.prog 23 #[.pointer (some ⟨g, 0, none⟩)] w fun e w' => e = .returned (.tuple #[]) ∧ w.grownBy w' (some g) ∧ Dv w' g so n c low mo true (-1) wr := by
  have HM := Lib.hid (made_any h)
  have HH := Lib.hid h
  obtain ⟨_, _, _, c3, c4, _⟩ := h.cells
  have f3 := Blk.frozen h 3
  have f4 := Blk.frozen h 4
  have t1 : decide (0 < n) = true := by simp; omega
  rw [t1] at HM
  clear hn t1 h
  go_enter Tryz.func23, Tryz.ntmps23
  go_wp2_with fail
  refine HM.out.mono ?_
  rintro e w1 ⟨rfl, rfl⟩
  go_wp2_with fail
  go_end0
  exact ⟨rfl, gb_trans (gb_set _ g 3 _) (gb_set _ g 4 _), dv_two HH.out true (-1)⟩
set_option maxHeartbeats 1000000 in
set_option maxRecDepth 100000 in
/-- does a write find power? -/
theorem lasts_dead (h : Dv w g so n c low mo pw 0 wr) : Calls Tryz.prog 38 #[.pointer (some ⟨g, 0, none⟩)] w fun e w' => e = .returned (.bool false) ∧ w.grownBy w' (some g) ∧ Dv w' g so n c low mo false 0 wr := by
  have HH := Lib.hid h
  obtain ⟨_, _, _, c3, c4, _⟩ := h.cells
  have f3 := Blk.frozen h 3
  clear h
  go_enter Tryz.func38, Tryz.ntmps38
  go_wp2_with fail
  go_ret
  exact ⟨rfl, gb_set _ g 3 _, dv_powr HH.out false⟩
set_option maxHeartbeats 1000000 in
set_option maxRecDepth 100000 in
theorem lasts_any (h : Dv w g so n c low mo pw left wr) (hl : left ≠ 0) (h0 : -1 ≤ left) (h1 : left ≤ 9223372036854775807) (h2 : 0 ≤ wr) (h3 : wr < 9223372036854775807) :
    Calls Tryz.prog 38 #[.pointer (some ⟨g, 0, none⟩)] w fun e w' => e = .returned (.bool true) ∧ w.grownBy w' (some g) ∧ Dv w' g so n c low mo pw (if 0 < left then left - 1 else left) (wr + 1) := by
  have HH := Lib.hid h
  obtain ⟨_, _, _, c3, c4, c5⟩ := h.cells
  have f4 := Blk.frozen h 4
  have f5 := Blk.frozen h 5
  have t1 : (left == 0) = false := by simpa using hl
  have w1 : IntKind.i64.wrap (wr + 1) = wr + 1 := IntWalk.i64_in _ (by omega)
  by_cases hp : 0 < left
  · have t2 : decide (0 < left) = true := by simpa using hp
    have w2 : IntKind.i64.wrap (left - 1) = left - 1 := IntWalk.i64_in _ (by omega)
    rw [if_pos hp]
    have HZ := Lib.hid (dv_writ (dv_lft HH.out (left - 1)) (wr + 1))
    have g5 := Blk.cell ((dv_lft HH.out (left - 1))) 5
    have k5 := Blk.frozen ((dv_lft HH.out (left - 1))) 5
    simp only [dvC, List.getElem?_cons_zero, List.getElem?_cons_succ] at g5
    clear hl hp h h0 h1 h2 h3
    go_enter Tryz.func38, Tryz.ntmps38
    go_wp2_with fail
    go_ret
    exact ⟨rfl, gb_trans (gb_set _ g 4 _) (gb_set _ g 5 _), HZ.out⟩
  · have t2 : decide (0 < left) = false := by simpa using hp
    rw [if_neg hp]
    have HZ := Lib.hid (dv_writ HH.out (wr + 1))
    clear hl hp h h0 h1 h2 h3
    go_enter Tryz.func38, Tryz.ntmps38
    go_wp2_with fail
    go_ret
    exact ⟨rfl, gb_set _ g 5 _, HZ.out⟩
end
end Go.Proofs.YtekaboomhljdoaaGreatDoor.Dk
namespace Go.Proofs.YtekaboomhljdoaaGreatDoor.Dk
open Go.Proofs.YtekaboomhljdoaaGreatDoor.Sh Go.RowKit Go.Lib
/-- the bytes of a sector, as the law fills it -/
def secTo (f : UInt8) (k : Nat) : List UInt8 := (List.range k).map fun i => f + UInt8.ofNat i
theorem secTo_len (f : UInt8) (k : Nat) : (secTo f k).length = k := by simp [secTo]
theorem secTo_succ (f : UInt8) (k : Nat) : secTo f (k + 1) = secTo f k ++ [f + UInt8.ofNat k] := by simp [secTo, List.range_succ]
def secL (f : UInt8) (n : Int) : List UInt8 := secTo f (min n.toNat 300)
theorem wrap_u8 (n : Nat) : IntKind.u8.wrap (n : Int) = ((n % 256 : Nat) : Int) := by
  simp [IntKind.wrap, IntKind.signed, IntKind.bits]
end Go.Proofs.YtekaboomhljdoaaGreatDoor.Dk
namespace Go.Proofs.YtekaboomhljdoaaGreatDoor.Dk
open Go.Proofs.YtekaboomhljdoaaGreatDoor.Sh Go.RowKit Go.Lib Go.Maps
/-- a sector as a value -/
def secV (l : List UInt8) : Value := .agg (bs l).toArray
theorem secV_inj {l m : List UInt8} (h : secV l = secV m) : l = m := by
  unfold secV at h
  injection h with h
  have h2 := congrArg Array.toList h
  simp only at h2
  exact bs_inj h2
open Classical in
/-- how a sector's value reads -/
noncomputable def secR (v : Value) : Option (DataW Unit × List MemPlace) := if h : ∃ l : List UInt8, v = secV l then some (.lit (.string h.choose), []) else none
theorem secR_of (l : List UInt8) : secR (secV l) = some (.lit (.string l), []) := by
  unfold secR
  have h : ∃ m : List UInt8, secV l = secV m := ⟨l, rfl⟩
  rw [dif_pos h]
  have e := secV_inj h.choose_spec
  rw [← e]
theorem secR_inv {v : Value} {l : List UInt8} {ps : List MemPlace} (h : secR v = some (.lit (.string l), ps)) : v = secV l ∧ ps = [] := by
  unfold secR at h
  by_cases hx : ∃ m : List UInt8, v = secV m
  · rw [dif_pos hx] at h
    injection h with h
    injection h with h1 h2
    injection h1 with h1
    injection h1 with h1
    exact ⟨by rw [← h1]; exact hx.choose_spec, h2.symm⟩
  · rw [dif_neg hx] at h
    cases h
def zeros : List UInt8 := List.replicate 256 0
theorem zeroV : secV zeros = .agg (Array.replicate 256 (.int .u8 0)) := by
  have e : bs zeros = List.replicate 256 (.int .u8 0) := by
    unfold bs zeros
    rw [List.map_replicate]
    rfl
  unfold secV
  rw [e, List.toArray_replicate]
set_option maxRecDepth 100000 in
theorem zero66 (w : World) : (zeroValue 70).run Tryz.prog w = .ok (secV zeros) w := by
  rw [zeroV]
  kernel_rfl
theorem lawI : Keyed Tryz.prog 3 := int_keyed Tryz.underlying3
theorem keyI (i : Int) (h0 : -9223372036854775808 ≤ i) (h1 : i ≤ 9223372036854775807) : keyOf Tryz.prog 3 (.int .i64 i) = some (.int .i64 i) := keyOf_int_mk Tryz.underlying3 (WalkArith.wf_i64 ⟨h0, h1⟩)
/-- what a device's call leaves alone: all but these blocks -/
structure Fr (w w' : World) (N : List Nat) : Prop where
  os : w'.os = w.os
  tape : w'.tape = w.tape
  output : w'.output = w.output
  size : w.heap.size ≤ w'.heap.size
  block : ∀ i, i < w.heap.size → i ∉ N → w'.heap[i]? = w.heap[i]?
theorem Fr.refl (w : World) (N : List Nat) : Fr w w N := ⟨rfl, rfl, rfl, Nat.le_refl _, fun _ _ _ => rfl⟩
theorem Fr.trans {a b c : World} {N : List Nat} (h : Fr a b N) (k : Fr b c N) : Fr a c N :=
  ⟨k.os.trans h.os, k.tape.trans h.tape, k.output.trans h.output, Nat.le_trans h.size k.size, fun i hi hn => (k.block i (Nat.lt_of_lt_of_le hi h.size) hn).trans (h.block i hi hn)⟩
theorem fr_below {w w' : World} (h : Below w.heap.size w w') (N : List Nat) : Fr w w' N := ⟨h.os, h.tape, h.output, h.size, fun i hi _ => h.block i hi⟩
theorem fr_grown {w w' : World} {b : Nat} {N : List Nat} (h : w.grownBy w' (some b)) (hb : b ∈ N) : Fr w w' N := ⟨h.os, h.tape, h.output, h.size, fun i hi hn => h.block i hi (fun e => by injection e with e; exact hn (e ▸ hb))⟩
theorem Fr.below {B : Nat} {w w' : World} {N : List Nat} (h : Fr w w' N) (hB : B ≤ w.heap.size) (hN : ∀ n ∈ N, B ≤ n) : Below B w w' :=
  ⟨h.os, h.tape, h.output, h.size, fun i hi => h.block i (Nat.lt_of_lt_of_le hi hB) (fun hn => by have := hN i hn; omega)⟩
theorem Fr.blk {w w' : World} {N : List Nat} {g : Nat} {cs : List Value} {t : TypeId} (h : Fr w w' N) (hb : Blk w g cs t) (hg : g ∉ N) : Blk w' g cs t := (h.block g hb.lt hg).trans hb
/-- a device with its sectors and its cache -/
structure DevS (w : World) (g sa mb : Nat) (S : List (List UInt8)) (low : Int) (k : Nat) (D : DataW Unit) (pw : Bool) (left wr : Int) : Prop where
  dv : Dv w g (some ⟨sa, 0, none⟩) S.length S.length low (some mb) pw left wr
  sec : Blk w sa (S.flatMap bs) 70
  len : ∀ s ∈ S, s.length = 256
  map : w.ownsMap Tryz.prog 3 secR mb k D
theorem flat_len (S : List (List UInt8)) (h : ∀ s ∈ S, s.length = 256) : (S.flatMap bs).length = S.length * 256 := by
  induction S with
  | nil => rfl
  | cons a S ih =>
    rw [List.flatMap_cons, List.length_append, ih (fun s hs => h s (List.mem_cons_of_mem _ hs)), bs_len, h a List.mem_cons_self, List.length_cons]
    omega
theorem flat_mid : ∀ (S : List (List UInt8)) (_ : ∀ s ∈ S, s.length = 256) (i : Nat) (s : List UInt8) (_ : S[i]? = some s) (j : Nat) (v : Value) (_ : (bs s)[j]? = some v), (S.flatMap bs)[i * 256 + j]? = some v
  | [], _, i, s, hs, _, _, _ => by simp at hs
  | a :: S, h, 0, s, hs, j, v, hv => by
    simp only [List.getElem?_cons_zero, Option.some.injEq] at hs
    subst hs
    rw [List.flatMap_cons, Nat.zero_mul, Nat.zero_add, List.getElem?_append_left (List.getElem?_eq_some_iff.1 hv).1]
    exact hv
  | a :: S, h, i + 1, s, hs, j, v, hv => by
    have ha := h a List.mem_cons_self
    rw [List.flatMap_cons, List.getElem?_append_right (by rw [bs_len, ha]; omega), bs_len, ha, show (i + 1) * 256 + j - 256 = i * 256 + j by omega]
    exact flat_mid S (fun s hs => h s (List.mem_cons_of_mem _ hs)) i s (by simpa using hs) j v hv
theorem DevS.range {w : World} {g sa mb : Nat} {S : List (List UInt8)} {low : Int} {k : Nat} {D : DataW Unit} {pw : Bool} {left wr : Int} (h : DevS w g sa mb S low k D pw left wr) {i : Nat} {s : List UInt8} (hs : S[i]? = some s) : w.rangeAt sa (i * 256) (bs s) := fun j v hj => by
  rw [h.sec.cell]
  exact flat_mid S h.len i s hs j v hj
end Go.Proofs.YtekaboomhljdoaaGreatDoor.Dk
namespace Go.Proofs.YtekaboomhljdoaaGreatDoor.Dk
open Go.Proofs.YtekaboomhljdoaaGreatDoor.Sh Go.RowKit Go.Lib Go.Maps
theorem info70 : (Tryz.prog.info? 70).map (·.size) = some 256 := by kernel_rfl
theorem secV_one (l : List UInt8) : ((bs l).toArray).all (·.oneCell') = true := all_oneCell_toArray (bs_one l)
/-- what the cache has of a sector, or what is in it -/
def secAt (D : DataW Unit) (S : List (List UInt8)) (i : Nat) : Option (List UInt8) := if Maps.has D (.int .i64 (i : Int)) = true then (match D.atKey (.int .i64 (i : Int)) (.lit (.string zeros)) with | .lit (.string l) => some l | _ => none) else S[i]?
set_option maxHeartbeats 4000000 in
set_option maxRecDepth 100000 in
theorem read_no {w : World} {g sa mb : Nat} {S : List (List UInt8)} {low : Int} {k : Nat} {D : DataW Unit} {pw : Bool} {left wr : Int} (h : DevS w g sa mb S low k D pw left wr) (i : Int) (z : Int) (hz : foundE S.length pw i = z) (h0 : z ≠ 0) :
    Calls Tryz.prog 32 #[.pointer (some ⟨g, 0, none⟩), .int .i64 i] w fun e w' => e = .returned (.tuple #[.slice none 0 0, .int .i64 z]) ∧ w' = w := by
  have HF := Lib.hid (found_any i h.dv)
  rw [hz] at HF
  have t1 : (z != 0) = true := by simpa using h0
  clear h hz h0
  go_enter Tryz.func32, Tryz.ntmps32
  go_wp2_with fail
  refine HF.out.mono ?_
  rintro e w1 ⟨rfl, rfl⟩
  go_wp2_with fail
  go_ret2
  exact ⟨rfl, rfl⟩
/-- a sector's bytes, in new memory -/
def GetsSec (w : World) (l : List UInt8) (e : Ending) (w' : World) : Prop := Below w.heap.size w w' ∧ ∃ b, e = .returned (.tuple #[.slice (some ⟨b, 0, none⟩) 256 256, .int .i64 0]) ∧ w.heap.size ≤ b ∧ Blk w' b (bs l) 70
set_option maxHeartbeats 4000000 in
set_option maxRecDepth 100000 in
theorem read_has {w : World} {g sa mb : Nat} {S : List (List UInt8)} {low : Int} {k : Nat} {D : DataW Unit} {pw : Bool} {left wr : Int} (h : DevS w g sa mb S low k D pw left wr) (i : Nat) (hn : S.length ≤ 4096) (hf : foundE S.length pw (i : Int) = 0) (hi : i < S.length)
    (l : List UInt8) (hl : l.length = 256) (hh : Maps.has D (.int .i64 (i : Int)) = true) (ha : D.atKey (.int .i64 (i : Int)) (.lit (.string zeros)) = .lit (.string l)) :
    Calls Tryz.prog 32 #[.pointer (some ⟨g, 0, none⟩), .int .i64 (i : Int)] w fun e w' => GetsSec w l e w' := by
  have HF := Lib.hid (found_any (i : Int) h.dv)
  rw [hf] at HF
  obtain ⟨_, _, c2, _, _, _⟩ := h.dv.cells
  have HM := Lib.hid h.map
  have HKY := Lib.hid (keyI (i : Int) (by omega) (by omega))
  have HL := Lib.hid hl
  have HA := Lib.hid ha
  have B0 := Lib.hid (Below.refl w.heap.size w)
  have K0 := Lib.hid (secV_one l)
  have HIS : Hid ((Tryz.prog.info? 70).map (·.size) = some (bs l).toArray.size) := by show _ = _; rw [info70, List.size_toArray, bs_len, hl]
  have HO : Hid ((Array.replicate 256 (Value.int .u8 0)).size = (bs l).toArray.size) := by show _ = _; rw [Array.size_replicate, List.size_toArray, bs_len, hl]
  clear h hf hi hn hl ha
  go_enter Tryz.func32, Tryz.ntmps32
  go_wp2_with fail
  refine HF.out.mono ?_
  rintro e w1 ⟨rfl, rfl⟩
  clear HF
  go_wp2_with (first
    | (at_lookup; refine wpList_lookup_own_ok _ rfl _ _ 71 rfl 3 70 lawI Tryz.underlying71 secR (zero66 _) (.lit (.string zeros)) [] (secR_of zeros) mb k D rfl HM.out _ _ rfl HKY.out ?_; intro v ps hv; rw [HA.out] at hv; obtain ⟨rfl, _⟩ := secR_inv hv; rw [hh]; clear hv)
    | ((with_reducible refine wpList_store_row rfl 70 (.tmp 7) (.tmp 22) rfl w1.heap.size (bs l).toArray rfl rfl 70 _ (heap_alloc_new w1 _) HIS.out ?ho K0.out ?_); (case ho => exact HO.out)))
  rw [World.setRow_alloc_new]
  go_ret2
  exact ⟨(Below.refl _ w1).alloc (Nat.le_refl _) _, w1.heap.size, rfl, Nat.le_refl _, Blk.new w1 (bs l) 70 _ rfl⟩
set_option maxHeartbeats 4000000 in
set_option maxRecDepth 100000 in
theorem read_raw {w : World} {g sa mb : Nat} {S : List (List UInt8)} {low : Int} {k : Nat} {D : DataW Unit} {pw : Bool} {left wr : Int} (h : DevS w g sa mb S low k D pw left wr) (i : Nat) (hn : S.length ≤ 4096) (hf : foundE S.length pw (i : Int) = 0) (hi : i < S.length)
    (l : List UInt8) (hs : S[i]? = some l) (hh : Maps.has D (.int .i64 (i : Int)) = false) (ha : D.atKey (.int .i64 (i : Int)) (.lit (.string zeros)) = .lit (.string zeros)) :
    Calls Tryz.prog 32 #[.pointer (some ⟨g, 0, none⟩), .int .i64 (i : Int)] w (GetsSec w l) := by
  have hl := h.len l (List.mem_of_getElem? hs)
  have HF := Lib.hid (found_any (i : Int) h.dv)
  rw [hf] at HF
  obtain ⟨c0, _, c2, _, _, _⟩ := h.dv.cells
  have HM := Lib.hid h.map
  have HKY := Lib.hid (keyI (i : Int) (by omega) (by omega))
  have HR := Lib.hid (h.range hs)
  have HA := Lib.hid ha
  have K0 := Lib.hid (secV_one zeros)
  have K1 := Lib.hid (secV_one l)
  have hz : zeros.length = 256 := by simp [zeros]
  have HIZ : Hid ((Tryz.prog.info? 70).map (·.size) = some (bs zeros).toArray.size) := by show _ = _; rw [info70, List.size_toArray, bs_len, hz]
  have HIS : Hid ((Tryz.prog.info? 70).map (·.size) = some (bs l).toArray.size) := by show _ = _; rw [info70, List.size_toArray, bs_len, hl]
  have HIL : Hid ((Tryz.prog.info? 70).map (·.size) = some (bs l).length) := by show _ = _; rw [info70, bs_len, hl]
  have HO : Hid ((Array.replicate 256 (Value.int .u8 0)).size = (bs zeros).toArray.size) := by show _ = _; rw [Array.size_replicate, List.size_toArray, bs_len, hz]
  have HO2 : Hid ((bs zeros).toArray.size = (bs l).toArray.size) := by show _ = _; rw [List.size_toArray, List.size_toArray, bs_len, bs_len, hz, hl]
  have q1 : (0 : Int) ≤ (i : Int) := by omega
  have q2 : (i : Int) < (S.length : Int) := by omega
  have HLM : Hid ((w.alloc (.cells (bs zeros).toArray 70)).rangeAt sa (i * 256) (bs l)) := fun j v hj => by
    have hc := h.range hs j v hj
    exact (((Below.refl w.heap.size w).alloc (Nat.le_refl _) (.cells (bs zeros).toArray 70)).cell (p := ⟨sa, i * 256 + j, none⟩) h.sec.lt).trans hc
  have c0' : (w.alloc (.cells (bs zeros).toArray 70)).cell? ⟨g, 0, none⟩ = some (.slice (some ⟨sa, 0, none⟩) S.length S.length) := (((Below.refl w.heap.size w).alloc (Nat.le_refl _) (.cells (bs zeros).toArray 70)).cell (p := ⟨g, 0, none⟩) (Blk.lt h.dv)).trans c0
  clear h hf hi hl ha hs c0 hz
  go_enter Tryz.func32, Tryz.ntmps32
  go_wp2_with fail
  refine HF.out.mono ?_
  rintro e w1 ⟨rfl, rfl⟩
  clear HF
  go_wp2_with (first
    | (at_lookup; refine wpList_lookup_own_ok _ rfl _ _ 71 rfl 3 70 lawI Tryz.underlying71 secR (zero66 _) (.lit (.string zeros)) [] (secR_of zeros) mb k D rfl HM.out _ _ rfl HKY.out ?_; intro v ps hv; rw [HA.out] at hv; obtain ⟨rfl, _⟩ := secR_inv hv; rw [hh]; clear hv)
    | ((with_reducible refine wpList_store_row rfl 70 (.tmp 7) (.tmp 22) rfl w1.heap.size (bs zeros).toArray rfl rfl 70 _ (heap_alloc_new w1 _) HIZ.out ?ho K0.out ?_); (case ho => exact HO.out); rw [World.setRow_alloc_new])
    | (with_reducible refine wpList_load_mid rfl 70 (.tmp 31) rfl sa (i * 256) rfl (bs l) (.array 256 5) HLM.out Tryz.underlying70 rfl HIL.out ?_)
    | (with_reducible refine wpList_store_row rfl 70 (.tmp 7) (.tmp 32) rfl w1.heap.size (bs l).toArray rfl rfl 70 _ (heap_alloc_new w1 _) HIS.out HO2.out K1.out ?_))
  rw [World.setRow_alloc_new]
  go_ret2
  exact ⟨(Below.refl _ w1).alloc (Nat.le_refl _) _, w1.heap.size, rfl, Nat.le_refl _, Blk.new w1 (bs l) 70 _ rfl⟩
end Go.Proofs.YtekaboomhljdoaaGreatDoor.Dk
namespace Go.Proofs.YtekaboomhljdoaaGreatDoor.Dk
open Go.Proofs.YtekaboomhljdoaaGreatDoor.Sh Go.RowKit Go.Lib Go.Maps
theorem byt_range {w : World} {b o : Nat} {l : List UInt8} (h : Byt w (some ⟨b, o, none⟩) l) : w.rangeAt b o (bs l) := fun j v hj => by
  have hj2 : j < l.length := by have := (List.getElem?_eq_some_iff.1 hj).1; rw [bs_len] at this; exact this
  obtain ⟨b', o', e, _, hc⟩ := h (fun h0 => by rw [h0] at hj2; simp at hj2)
  injection e with e
  injection e with e1 e2
  subst e1
  subst e2
  rw [hc j hj2]
  rw [bs_get l j hj2] at hj
  exact hj
variable {w : World} {g sa mb : Nat} {S : List (List UInt8)} {low : Int} {k : Nat} {D : DataW Unit} {pw : Bool} {left wr : Int}
set_option maxHeartbeats 4000000 in
set_option maxRecDepth 100000 in
theorem write_no (h : DevS w g sa mb S low k D pw left wr) (i : Int) (ao : Option Addr) (n c : Nat) (z : Int) (hz : foundE S.length pw i = z) (h0 : z ≠ 0) :
    Calls Tryz.prog 61 #[.pointer (some ⟨g, 0, none⟩), .int .i64 i, .slice ao n c] w fun e w' => e = .returned (.int .i64 z) ∧ w' = w := by
  have HF := Lib.hid (found_any i h.dv)
  rw [hz] at HF
  have t1 : (z != 0) = true := by simpa using h0
  clear h hz h0
  go_enter Tryz.func61, Tryz.ntmps61
  go_wp2_with fail
  refine HF.out.mono ?_
  rintro e w1 ⟨rfl, rfl⟩
  go_wp2_with fail
  go_ret
  exact ⟨rfl, rfl⟩
set_option maxHeartbeats 4000000 in
set_option maxRecDepth 100000 in
theorem write_low (h : DevS w g sa mb S low k D pw left wr) (i : Int) (ao : Option Addr) (n c : Nat) (hz : foundE S.length pw i = 0) (hl : i < low) :
    Calls Tryz.prog 61 #[.pointer (some ⟨g, 0, none⟩), .int .i64 i, .slice ao n c] w fun e w' => e = .returned (.int .i64 92) ∧ w' = w := by
  have HF := Lib.hid (found_any i h.dv)
  rw [hz] at HF
  obtain ⟨_, c1, _, _, _, _⟩ := h.dv.cells
  have t1 : decide (i < low) = true := by simpa using hl
  clear h hz hl
  go_enter Tryz.func61, Tryz.ntmps61
  go_wp2_with fail
  refine HF.out.mono ?_
  rintro e w1 ⟨rfl, rfl⟩
  go_wp2_with fail
  go_ret
  exact ⟨rfl, rfl⟩
set_option maxHeartbeats 4000000 in
set_option maxRecDepth 100000 in
theorem write_arg (h : DevS w g sa mb S low k D pw left wr) (i : Int) (ao : Option Addr) (n c : Nat) (hz : foundE S.length pw i = 0) (hl : ¬ i < low) (hn : n ≠ 256) :
    Calls Tryz.prog 61 #[.pointer (some ⟨g, 0, none⟩), .int .i64 i, .slice ao n c] w fun e w' => e = .returned (.int .i64 2) ∧ w' = w := by
  have HF := Lib.hid (found_any i h.dv)
  rw [hz] at HF
  obtain ⟨_, c1, _, _, _, _⟩ := h.dv.cells
  have t1 : decide (i < low) = false := by simpa using hl
  have t2 : ((n : Int) != 256) = true := by simp; omega
  have t3 : (n == 256) = false := by simpa using hn
  clear h hz hl hn
  go_enter Tryz.func61, Tryz.ntmps61
  go_wp2_with fail
  refine HF.out.mono ?_
  rintro e w1 ⟨rfl, rfl⟩
  go_wp2_with fail
  go_ret
  exact ⟨rfl, rfl⟩
set_option maxHeartbeats 4000000 in
set_option maxRecDepth 100000 in
theorem write_dead (h : DevS w g sa mb S low k D pw 0 wr) (i : Int) (ao : Option Addr) (c : Nat) (hz : foundE S.length pw i = 0) (hl : ¬ i < low) :
    Calls Tryz.prog 61 #[.pointer (some ⟨g, 0, none⟩), .int .i64 i, .slice ao 256 c] w fun e w' => e = .returned (.int .i64 91) ∧ w.grownBy w' (some g) ∧ Dv w' g (some ⟨sa, 0, none⟩) S.length S.length low (some mb) false 0 wr := by
  have HF := Lib.hid (found_any i h.dv)
  rw [hz] at HF
  have HL := Lib.hid (lasts_dead h.dv)
  obtain ⟨_, c1, _, _, _, _⟩ := h.dv.cells
  have t1 : decide (i < low) = false := by simpa using hl
  clear h hz hl
  go_enter Tryz.func61, Tryz.ntmps61
  go_wp2_with fail
  refine HF.out.mono ?_
  rintro e w1 ⟨rfl, rfl⟩
  go_wp2_with fail
  refine HL.out.mono ?_
  rintro e w2 ⟨rfl, hg, hd⟩
  have HG := Lib.hid hg
  have HD := Lib.hid hd
  clear hg hd
  go_wp2_with fail
  go_ret
  exact ⟨rfl, HG.out, HD.out⟩
set_option maxHeartbeats 4000000 in
set_option maxRecDepth 100000 in
theorem write_ok (h : DevS w g sa mb S low k D pw left wr) (i : Nat) (bb bo c : Nat) (l : List UInt8) (hz : foundE S.length pw (i : Int) = 0) (hi : i < S.length) (hn : S.length ≤ 4096) (hl : ¬ (i : Int) < low) (hb : Byt w (some ⟨bb, bo, none⟩) l) (hlen : l.length = 256)
    (hk : k < 1000000) (hl0 : left ≠ 0) (h0 : -1 ≤ left) (h1 : left ≤ 9223372036854775807) (h2 : 0 ≤ wr) (h3 : wr < 9223372036854775807) (hbg : bb ≠ g) (hbm : bb ≠ mb) :
    Calls Tryz.prog 61 #[.pointer (some ⟨g, 0, none⟩), .int .i64 (i : Int), .slice (some ⟨bb, bo, none⟩) 256 c] w fun e w' => e = .returned (.int .i64 0) ∧ Fr w w' [g, mb] ∧ DevS w' g sa mb S low (k + 1) (D.put (.int .i64 (i : Int)) (.lit (.string l))) pw (if 0 < left then left - 1 else left) (wr + 1) := by
  have HF := Lib.hid (found_any (i : Int) h.dv)
  rw [hz] at HF
  have HL := Lib.hid (lasts_any h.dv hl0 h0 h1 h2 h3)
  generalize (if 0 < left then left - 1 else left) = lf at HL ⊢
  obtain ⟨_, c1, _, _, _, _⟩ := h.dv.cells
  have t1 : decide ((i : Int) < low) = false := by simpa using hl
  have HH := Lib.hid h
  have HKY := Lib.hid (keyI (i : Int) (by omega) (by omega))
  have HR := Lib.hid (byt_range hb)
  have HIL : (Tryz.prog.info? 70).map (·.size) = some (bs l).length := by rw [info70, bs_len, hlen]
  have HLE := Lib.hid hlen
  have HU := Tryz.underlying70
  have hat : ∀ w, (Instr.arrayAt 70 (.slice (some ⟨bb, bo, none⟩) 256 c)).run Tryz.prog w = .ok (.pointer (some ⟨bb, bo, none⟩)) w := fun w => by
    simp [Instr.arrayAt, run_underlying Tryz.underlying70]
  have hgm : g ≠ mb := fun e => by
    have h1 := h.dv
    obtain ⟨es, cl, h2, _⟩ := h.map
    subst e
    unfold Dv Blk at h1
    rw [h1] at h2
    cases h2
  have hsg : sa ≠ g := fun e => by
    have h1 := h.dv
    have h2 := h.sec
    subst e
    unfold Dv Blk at h1
    unfold Blk at h2
    rw [h1] at h2
    injection h2 with h2
    injection h2 with _ h3
    cases h3
  have hsm : sa ≠ mb := fun e => by
    have h1 := h.sec
    obtain ⟨es, cl, h2, _⟩ := h.map
    subst e
    unfold Blk at h1
    rw [h1] at h2
    cases h2
  clear h hz hl hb hl0 h0 h1 h2 h3 hi hn hlen
  go_enter Tryz.func61, Tryz.ntmps61
  go_wp2_with fail
  refine HF.out.mono ?_
  rintro e w1 ⟨rfl, rfl⟩
  go_wp2_with fail
  refine HL.out.mono ?_
  rintro e w2 ⟨rfl, hg, hd⟩
  have HG := Lib.hid hg
  have HD := Lib.hid hd
  have MO0 : w2.ownsMap Tryz.prog 3 secR mb k D := HH.out.map.kept hg (fun e => by injection e with e; exact hgm e.symm)
  have MO : Hid (w2.drew.ownsMap Tryz.prog 3 secR mb k D) := Lib.hid MO0.drew
  clear MO0
  obtain ⟨wz, hrun, hown, hgz⟩ := MO.out.update (t := 71) lawI Tryz.underlying71 (by unfold maxLen; omega) HKY.out (secR_of l)
  have HO := Lib.hid hown
  have HGZ := Lib.hid hgz
  obtain ⟨_, _, d2, _, _, _⟩ := hd.cells
  have hr2 : w2.rangeAt bb bo (bs l) := fun j v hj => hg.cell (HR.out j v hj) (fun e => by injection e with e; exact hbg e)
  have HR2 := Lib.hid hr2
  have HD2 := Lib.hid d2
  have hrun' : (Instr.mapUpdate 71 (.map (some mb)) (.int .i64 (i : Int)) (.agg (bs l).toArray)).run Tryz.prog w2.drew = .ok () wz := hrun
  clear hown hgz hg hd hrun
  go_wp2_with fail
  go_region_held3 (fun w' => w'.cell? ⟨g, 2, none⟩ = some (.map (some mb)) ∧ w'.rangeAt bb bo (bs l))
    (first | go_keep | exact ⟨HD2.out, HR2.out⟩ | exact ⟨HGZ.out.cell HD2.out (fun e => by injection e with e; exact hgm e), fun j v hj => HGZ.out.cell (HR2.out j v hj) (fun e => by injection e with e; exact hbm e)⟩)
    (fail)
  go_wp2_with fail
  go_ret
  have HS := HH.out.sec
  have hgz : w2.grownBy wz (some mb) := ⟨HGZ.out.os, HGZ.out.tape, HGZ.out.output, HGZ.out.size, HGZ.out.block⟩
  refine ⟨rfl, (fr_grown HG.out (by simp)).trans (fr_grown hgz (by simp)), ?_, ?_, HH.out.len, HO.out⟩
  · have h1 := HD.out
    exact (hgz.block g h1.lt (fun e => by injection e with e; exact hgm e)).trans h1
  · have h1 : Blk w2 sa (S.flatMap bs) 70 := (HG.out.block sa HS.lt (fun e => by injection e with e; exact hsg e)).trans HS
    exact (hgz.block sa h1.lt (fun e => by injection e with e; exact hsm e)).trans h1
end Go.Proofs.YtekaboomhljdoaaGreatDoor.Dk
namespace Go.Proofs.YtekaboomhljdoaaGreatDoor.Dk
open Go.Proofs.YtekaboomhljdoaaGreatDoor.Sh Go.RowKit Go.Lib Go.Maps
/-- a row of cells with others put over it -/
def overl : List Value → Nat → List Value → List Value
  | cs, _, [] => cs
  | cs, o, v :: r => overl (cs.set o v) (o + 1) r
theorem overl_mid : ∀ (vs p a r : List Value) (_ : a.length = vs.length), overl (p ++ (a ++ r)) p.length vs = p ++ (vs ++ r)
  | [], p, a, r, h => by
    have : a = [] := List.eq_nil_of_length_eq_zero (by simpa using h)
    rw [this]
    rfl
  | v :: vs, p, [], r, h => by simp at h
  | v :: vs, p, x :: a, r, h => by
    have h2 := overl_mid vs (p ++ [v]) a r (by simpa using h)
    have e : (p ++ (x :: a ++ r)).set p.length v = (p ++ [v]) ++ (a ++ r) := by simp
    show overl ((p ++ (x :: a ++ r)).set p.length v) (p.length + 1) vs = _
    rw [e]
    have e2 : (p ++ [v]).length = p.length + 1 := by simp
    rw [e2] at h2
    rw [h2]
    simp
theorem Blk.sets {g : Nat} {t : TypeId} : ∀ (vs cs : List Value) (o : Nat) (w : World), Blk w g cs t → Blk (w.setCells g o vs) g (overl cs o vs) t
  | [], _, _, _, h => h
  | v :: r, cs, o, _, h => Blk.sets r (cs.set o v) (o + 1) _ (h.set o v)
theorem gb_sets (g : Nat) : ∀ (vs : List Value) (o : Nat) (w : World), w.grownBy (w.setCells g o vs) (some g)
  | [], _, _ => ⟨rfl, rfl, rfl, Nat.le_refl _, fun _ _ _ => rfl⟩
  | v :: r, o, w => gb_trans (gb_set w g o v) (gb_sets g r (o + 1) _)
theorem flat_set {S : List (List UInt8)} (h : ∀ s ∈ S, s.length = 256) {i : Nat} (hi : i < S.length) {l : List UInt8} (hl : l.length = 256) : overl (S.flatMap bs) (i * 256) (bs l) = (S.set i l).flatMap bs := by
  have h1 : S = S.take i ++ (S[i] :: S.drop (i + 1)) := by rw [List.getElem_cons_drop, List.take_append_drop]
  have h2 : S.set i l = S.take i ++ (l :: S.drop (i + 1)) := List.set_eq_take_append_cons_drop ▸ by rw [if_pos hi]
  have h3 : ((S.take i).flatMap bs).length = i * 256 := by
    rw [flat_len _ (fun s hs => h s (List.mem_of_mem_take hs)), List.length_take, Nat.min_eq_left (Nat.le_of_lt hi)]
  rw [h2]
  conv => lhs; rw [h1]
  rw [List.flatMap_append, List.flatMap_append, List.flatMap_cons, List.flatMap_cons, ← h3]
  exact overl_mid (bs l) _ (bs S[i]) _ (by rw [bs_len, bs_len, hl, h _ (List.getElem_mem hi)])
theorem set_len {S : List (List UInt8)} (h : ∀ s ∈ S, s.length = 256) {i : Nat} {l : List UInt8} (hl : l.length = 256) : ∀ s ∈ S.set i l, s.length = 256 := fun s hs => by
  rcases List.mem_or_eq_of_mem_set hs with h1 | h1
  · exact h s h1
  · rw [h1, hl]
variable {w : World} {g sa mb : Nat} {S : List (List UInt8)} {low : Int} {k : Nat} {D : DataW Unit} {pw : Bool} {left wr : Int}
theorem DevS.apart (h : DevS w g sa mb S low k D pw left wr) : g ≠ mb ∧ sa ≠ g ∧ sa ≠ mb := by
  have h1 := h.dv
  have h2 := h.sec
  obtain ⟨es, cl, h3, _⟩ := h.map
  unfold Dv Blk at h1
  unfold Blk at h2
  refine ⟨fun e => ?_, fun e => ?_, fun e => ?_⟩
  · subst e
    rw [h1] at h3
    cases h3
  · subst e
    rw [h1] at h2
    injection h2 with h2
    injection h2 with _ h3
    cases h3
  · subst e
    rw [h2] at h3
    cases h3
theorem DevS.kept (h : DevS w g sa mb S low k D pw left wr) {w' : World} {N : List Nat} (hf : Fr w w' N) (h1 : g ∉ N) (h2 : sa ∉ N) (h3 : mb ∉ N) : DevS w' g sa mb S low k D pw left wr :=
  ⟨Fr.blk hf h.dv h1, hf.blk h.sec h2, h.len, by
    obtain ⟨es, cl, hb, F⟩ := h.map
    exact ⟨es, cl, (hf.block mb (Array.getElem?_eq_some_iff.1 hb).1 h3).trans hb, F⟩⟩
set_option maxHeartbeats 4000000 in
set_option maxRecDepth 100000 in
theorem settle_no (h : DevS w g sa mb S low k D pw left wr) (i : Int) (h0 : -9223372036854775808 ≤ i) (h1 : i ≤ 9223372036854775807) (hh : Maps.has D (.int .i64 i) = false) (ha : D.atKey (.int .i64 i) (.lit (.string zeros)) = .lit (.string zeros)) :
    Calls Tryz.prog 39 #[.pointer (some ⟨g, 0, none⟩), .int .i64 i] w fun e w' => e = .returned (.tuple #[]) ∧ Below w.heap.size w w' := by
  obtain ⟨_, _, c2, _, _, _⟩ := h.dv.cells
  have HM := Lib.hid h.map
  have HKY := Lib.hid (keyI i h0 h1)
  have HA := Lib.hid ha
  have K0 := Lib.hid (secV_one zeros)
  have hz : zeros.length = 256 := by simp [zeros]
  have HIZ : Hid ((Tryz.prog.info? 70).map (·.size) = some (bs zeros).toArray.size) := by show _ = _; rw [info70, List.size_toArray, bs_len, hz]
  have HO : Hid ((Array.replicate 256 (Value.int .u8 0)).size = (bs zeros).toArray.size) := by show _ = _; rw [Array.size_replicate, List.size_toArray, bs_len, hz]
  clear h hz ha h0 h1
  go_enter Tryz.func39, Tryz.ntmps39
  go_wp2_with (first
    | (at_lookup; refine wpList_lookup_own_ok _ rfl _ _ 71 rfl 3 70 lawI Tryz.underlying71 secR (zero66 _) (.lit (.string zeros)) [] (secR_of zeros) mb k D rfl HM.out _ _ rfl HKY.out ?_; intro v ps hv; rw [HA.out] at hv; obtain ⟨rfl, _⟩ := secR_inv hv; rw [hh]; clear hv)
    | ((with_reducible refine wpList_store_row rfl 70 (.tmp 4) (.tmp 13) rfl w.heap.size (bs zeros).toArray rfl rfl 70 _ (heap_alloc_new w _) HIZ.out ?ho K0.out ?_); (case ho => exact HO.out); rw [World.setRow_alloc_new]))
  go_end0
  exact ⟨rfl, (Below.refl _ w).alloc (Nat.le_refl _) _⟩
set_option maxHeartbeats 4000000 in
set_option maxRecDepth 100000 in
theorem settle_has (h : DevS w g sa mb S low k D pw left wr) (i : Nat) (hi : i < S.length) (hn : S.length ≤ 4096) (l : List UInt8) (hl : l.length = 256) (hh : Maps.has D (.int .i64 (i : Int)) = true) (ha : D.atKey (.int .i64 (i : Int)) (.lit (.string zeros)) = .lit (.string l)) :
    Calls Tryz.prog 39 #[.pointer (some ⟨g, 0, none⟩), .int .i64 (i : Int)] w fun e w' => e = .returned (.tuple #[]) ∧ Fr w w' [sa, mb] ∧ DevS w' g sa mb (S.set i l) low k (D.del (.int .i64 (i : Int))) pw left wr := by
  obtain ⟨c0, _, c2, _, _, _⟩ := h.dv.cells
  have HM := Lib.hid h.map
  have HKY := Lib.hid (keyI (i : Int) (by omega) (by omega))
  have HA := Lib.hid ha
  have HH := Lib.hid h
  have HLL := Lib.hid hl
  have HII := Lib.hid hi
  have K1 := Lib.hid (secV_one l)
  have HIS : Hid ((Tryz.prog.info? 70).map (·.size) = some (bs l).toArray.size) := by show _ = _; rw [info70, List.size_toArray, bs_len, hl]
  have HIL : (Tryz.prog.info? 70).map (·.size) = some (bs l).length := by rw [info70, bs_len, hl]
  have HU := Tryz.underlying70
  have HO : Hid ((Array.replicate 256 (Value.int .u8 0)).size = (bs l).toArray.size) := by show _ = _; rw [Array.size_replicate, List.size_toArray, bs_len, hl]
  have q1 : (0 : Int) ≤ (i : Int) := by omega
  have q2 : (i : Int) < (S.length : Int) := by omega
  have B1 : Below w.heap.size w (w.alloc (.cells (bs l).toArray 70)) := (Below.refl w.heap.size w).alloc (Nat.le_refl _) _
  have c0' : (w.alloc (.cells (bs l).toArray 70)).cell? ⟨g, 0, none⟩ = some (.slice (some ⟨sa, 0, none⟩) S.length S.length) := (B1.cell (p := ⟨g, 0, none⟩) (Blk.lt h.dv)).trans c0
  have c2' : (w.alloc (.cells (bs l).toArray 70)).cell? ⟨g, 2, none⟩ = some (.map (some mb)) := (B1.cell (p := ⟨g, 2, none⟩) (Blk.lt h.dv)).trans c2
  have HF0 := Lib.hid (fr_below B1 [sa, mb])
  have NB := Lib.hid (Blk.new w (bs l) 70 w.heap.size rfl)
  have HD2 := Lib.hid (h.kept (fr_below B1 []) (by simp) (by simp) (by simp))
  have hsz := Lib.hid (show sa ≠ w.heap.size from Nat.ne_of_lt h.sec.lt)
  clear h hi hl ha B1
  go_enter Tryz.func39, Tryz.ntmps39
  go_wp2_with (first
    | (at_lookup; refine wpList_lookup_own_ok _ rfl _ _ 71 rfl 3 70 lawI Tryz.underlying71 secR (zero66 _) (.lit (.string zeros)) [] (secR_of zeros) mb k D rfl HM.out _ _ rfl HKY.out ?_; intro v ps hv; rw [HA.out] at hv; obtain ⟨rfl, _⟩ := secR_inv hv; rw [hh]; clear hv)
    | ((with_reducible refine wpList_store_row rfl 70 (.tmp 4) (.tmp 13) rfl w.heap.size (bs l).toArray rfl rfl 70 _ (heap_alloc_new w _) HIS.out ?ho K1.out ?_); (case ho => exact HO.out); rw [World.setRow_alloc_new]))
  clear c0 c2 HM
  generalize w.alloc (.cells (bs l).toArray 70) = W at *
  generalize w.heap.size = nb at *
  have hr1 : W.rangeAt nb 0 (bs l) := fun j v hj => by rw [NB.out.cell, Nat.zero_add]; exact hj
  have HR1 := Lib.hid hr1
  have HC0 := Lib.hid c0'
  have HC2 := Lib.hid c2'
  have hgs : g ≠ sa := fun e => HD2.out.apart.2.1 e.symm
  have ht1 : W.there sa (i * 256) (bs l).toArray.size := fun j hj => by
    have hj2 : j < 256 := by rw [List.size_toArray, bs_len, HLL.out] at hj; exact hj
    refine ⟨?_, HD2.out.sec.frozen _⟩
    rw [HD2.out.sec.cell, List.getElem?_eq_getElem (by rw [flat_len _ HD2.out.len]; have := HII.out; omega)]
    rfl
  have hst : (Instr.storeAt 70 (.pointer (some ⟨sa, i * 256, none⟩)) (.agg (bs l).toArray)).run Tryz.prog W.drew = .ok () (W.drew.setCells sa (i * 256) (bs l)) := run_storeAt_mid W.drew sa (i * 256) 70 _ ht1 HIS.out K1.out
  have HD3 : Hid (DevS (W.drew.setCells sa (i * 256) (bs l)) g sa mb (S.set i l) low k D pw left wr) := by
    have hf : Fr W.drew (W.drew.setCells sa (i * 256) (bs l)) [sa] := fr_grown (gb_sets sa (bs l) (i * 256) W.drew) (by simp)
    have hd := HD2.out
    refine ⟨?_, ?_, set_len hd.len HLL.out, ?_⟩
    · rw [List.length_set]
      exact Fr.blk (w := W.drew) hf hd.dv (by simpa using hgs)
    · have h2 := Blk.sets (bs l) (S.flatMap bs) (i * 256) W.drew hd.sec
      rw [flat_set hd.len HII.out HLL.out] at h2
      exact h2
    · exact hd.map.drew.kept (gb_sets sa (bs l) (i * 256) W.drew) (fun e => by injection e with e; exact hd.apart.2.2 e.symm)
  have hone : ∀ v, v ∈ bs l → v.oneCell' = true := bs_one l
  have hth2 : W.drew.there sa (i * 256) (bs l).length := by rw [List.size_toArray] at ht1; exact ht1
  clear ht1
  go_region_held3 (fun w' => w'.cell? ⟨g, 0, none⟩ = some (.slice (some ⟨sa, 0, none⟩) S.length S.length) ∧ w'.rangeAt nb 0 (bs l))
    (first | go_keep | exact ⟨HC0.out, HR1.out⟩ | exact ⟨(HD3.out.dv.cells.1).trans (by rw [List.length_set]), Go.World.rangeAt_setCells_apart (w := W.drew) HR1.out sa (i * 256) (bs l) (.inl (fun e => hsz.out e.symm))⟩)
    (fail)
  have HG2 := Lib.hid (gb_sets sa (bs l) (i * 256) W.drew)
  clear hth2 hst hone hr1
  clear c0' c2'
  generalize W.drew.setCells sa (i * 256) (bs l) = W2 at *
  obtain ⟨_, _, d2, _, _, _⟩ := HD3.out.dv.cells
  go_wp2_with (at_delete; refine wpList_delete_own _ rfl _ _ 71 3 rfl 70 lawI Tryz.underlying71 secR mb k D rfl HD3.out.map _ _ rfl HKY.out ?_; intro w4 hown hmt)
  go_end0
  have hg4 := hmt.grown
  have hd := HD3.out
  have ap := hd.apart
  refine ⟨rfl, (HF0.out.trans (b := W) ⟨HG2.out.os, HG2.out.tape, HG2.out.output, HG2.out.size, fun n hn hne => HG2.out.block n hn (fun e => by injection e with e; exact hne (by simp [e]))⟩).trans (fr_grown hg4 (by simp)), ?_, ?_, hd.len, hown⟩
  · exact blk_row hd.dv hg4 (fun e => by injection e with e; exact ap.1 e)
  · exact blk_row hd.sec hg4 (fun e => by injection e with e; exact ap.2.2 e)
end Go.Proofs.YtekaboomhljdoaaGreatDoor.Dk
namespace Go.Proofs.YtekaboomhljdoaaGreatDoor.Dk
open Go.Proofs.YtekaboomhljdoaaGreatDoor.Sh Go.RowKit Go.Lib Go.Maps Go.ChangeMaps Go.MapKept
section
variable {P : Program} {k : TypeId} {R : Value → Option (DataW Unit × List MemPlace)} {w : World} {b n : Nat} {D : DataW Unit} {K : Act → World → Prop} {Q : Exit → Act → World → Prop}
/-- clear(m): no entry is left. -/
theorem own_clear {t e : TypeId} (h : w.ownsMap P k R b n D) (ht : P.underlying t = some (.map k e)) (ty : TypeId) : ∃ w', (Builtin.clear_ #[t] ty #[.map (some b)]).run P w = .ok (.tuple #[]) w' ∧ w'.ownsMap P k R b 0 (.map []) ∧ w.mapTurned w' b := by
  obtain ⟨es, clock, hb, F, hs, rfl⟩ := h
  refine ⟨setBlock w b (.map #[] clock), ?_, ⟨#[], clock, heap_setBlock_same hb _, ⟨by simp, stamped_empty clock, by simp⟩, Nat.le_refl _, rfl⟩, ⟨es, clock, #[], clock, hb, rfl⟩⟩
  simp [Builtin.clear_, run_underlying ht, MapKept.run_getObj_map hb, MapKept.run_setObj_map _ hb, Result.andThen, setBlock]
theorem wpList_clear_own {ops : Array Oper} {rest : List Oper} {o : Oper} {a : Act} (w : World) (hg : o.guard = none) (m : Operand) (t : TypeId) (hop : o.op = Op.call { callee := Callee.builtin Builtin.clear, args := #[m], argTypes := #[t] })
    (e : TypeId) (ht : P.underlying t = some (.map k e)) (R : Value → Option (DataW Unit × List MemPlace)) (b n : Nat) (D : DataW Unit)
    (hm : a.eval m = .map (some b)) (hown : w.ownsMap P k R b n D)
    (hK : ∀ w', w'.ownsMap P k R b 0 (.map []) → w.mapTurned w' b → wpList P ops Q rest (a.put o.dst (.tuple #[])) w') :
    wpList P ops Q (o :: rest) a w := by
  refine wpList_plain hg fun K' hK' => ?_
  obtain ⟨w', hrun, r1, r2⟩ := own_clear hown ht o.type
  unfold Oper.wp
  simp [execOp, hop, resolve, invoke, builtin, hm, hrun, Result.andThen]
  exact hK' _ _ (hK w' r1 r2)
end
/-- a cache of n sectors -/
def InD (D : DataW Unit) (n : Nat) : Prop := IsMap D ∧ ∀ i : Int, Maps.has D (.int .i64 i) = true → 0 ≤ i ∧ i < (n : Int) ∧ ∃ l : List UInt8, l.length = 256 ∧ ∀ z, D.atKey (.int .i64 i) z = .lit (.string l)
def settleS (D : DataW Unit) (S : List (List UInt8)) (i : Int) : List (List UInt8) := match D.atKey (.int .i64 i) .nil with
  | .lit (.string l) => S.set i.toNat l
  | _ => S
def settleD (D : DataW Unit) (i : Int) : DataW Unit := D.del (.int .i64 i)
theorem settleS_len (D : DataW Unit) (S : List (List UInt8)) (i : Int) : (settleS D S i).length = S.length := by
  unfold settleS
  split
  · rw [List.length_set]
  · rfl
theorem settleS_no {D : DataW Unit} {i : Int} (h : Maps.has D (.int .i64 i) = false) (S : List (List UInt8)) : settleS D S i = S := by
  unfold settleS
  rw [atKey_of_not_has h]
theorem settleD_no {D : DataW Unit} {i : Int} (h : Maps.has D (.int .i64 i) = false) : settleD D i = D := del_of_not_has h
theorem int_ne {i j : Int} (h : i ≠ j) : Lit.int .i64 i ≠ Lit.int .i64 j := fun e => by
  injection e with _ e
  exact h e
theorem isMap_del {D : DataW Unit} (h : IsMap D) (k : Lit) : IsMap (D.del k) := by
  obtain ⟨es, rfl⟩ := h
  exact ⟨_, rfl⟩
theorem InD.settle {D : DataW Unit} {n : Nat} (h : InD D n) (i : Int) : InD (settleD D i) n := by
  refine ⟨isMap_del h.1 _, fun j hj => ?_⟩
  unfold settleD at hj ⊢
  by_cases e : j = i
  · subst e
    rw [has_del_same] at hj
    cases hj
  · rw [has_del_other (int_ne e)] at hj
    obtain ⟨a1, a2, l, a3, a4⟩ := h.2 j hj
    exact ⟨a1, a2, l, a3, fun z => by rw [atKey_del_other (int_ne e)]; exact a4 z⟩
theorem InD.put {D : DataW Unit} {n : Nat} (h : InD D n) (i : Nat) (hi : i < n) (l : List UInt8) (hl : l.length = 256) : InD (D.put (.int .i64 (i : Int)) (.lit (.string l))) n := by
  have hk : WideAt.IsKeyLit (.int .i64 (i : Int)) := by trivial
  refine ⟨by obtain ⟨es, e⟩ := h.1; rw [e]; exact ⟨_, rfl⟩, fun j hj => ?_⟩
  by_cases e : j = (i : Int)
  · subst e
    exact ⟨by omega, by omega, l, hl, fun z => atKey_put_same h.1 hk _ z⟩
  · rw [has_put_other (int_ne e)] at hj
    obtain ⟨a1, a2, m, a3, a4⟩ := h.2 j hj
    exact ⟨a1, a2, m, a3, fun z => by rw [atKey_put_other (int_ne e)]; exact a4 z⟩
theorem InD.nil (n : Nat) : InD (.map []) n := ⟨⟨[], rfl⟩, fun i h => by simp [Maps.has] at h⟩
variable {w : World} {g sa mb : Nat} {S : List (List UInt8)} {low : Int} {k : Nat} {D : DataW Unit} {pw : Bool} {left wr : Int}
/-- settle, whatever sector it is -/
theorem settle_any (h : DevS w g sa mb S low k D pw left wr) (hI : InD D S.length) (hn : S.length ≤ 4096) (i : Int) (h0 : -9223372036854775808 ≤ i) (h1 : i ≤ 9223372036854775807) :
    Calls Tryz.prog 39 #[.pointer (some ⟨g, 0, none⟩), .int .i64 i] w fun e w' => e = .returned (.tuple #[]) ∧ Fr w w' [sa, mb] ∧ DevS w' g sa mb (settleS D S i) low k (settleD D i) pw left wr := by
  cases hh : Maps.has D (.int .i64 i) with
  | false =>
    rw [settleS_no hh, settleD_no hh]
    refine (settle_no h i h0 h1 hh (atKey_of_not_has hh _)).mono ?_
    rintro e w' ⟨he, hb⟩
    exact ⟨he, fr_below hb _, h.kept (fr_below hb []) (by simp) (by simp) (by simp)⟩
  | true =>
    obtain ⟨a1, a2, l, hl, ha⟩ := hI.2 i hh
    obtain ⟨j, rfl⟩ := Int.eq_ofNat_of_zero_le a1
    have e : settleS D S (j : Int) = S.set j l := by
      unfold settleS
      rw [ha]
      rfl
    rw [e]
    exact settle_has h j (by omega) hn l hl hh (ha _)
end Go.Proofs.YtekaboomhljdoaaGreatDoor.Dk
namespace Go.Proofs.YtekaboomhljdoaaGreatDoor.Dk
open Go.Proofs.YtekaboomhljdoaaGreatDoor.Sh Go.RowKit Go.Lib Go.Maps
/-- sectors and cache once these sectors are settled -/
def settled (S : List (List UInt8)) (D : DataW Unit) (ks : List Int) : List (List UInt8) × DataW Unit := ks.foldl (fun p i => (settleS p.2 p.1 i, settleD p.2 i)) (S, D)
theorem settled_len : ∀ (ks : List Int) (S : List (List UInt8)) (D : DataW Unit), (settled S D ks).1.length = S.length
  | [], _, _ => rfl
  | i :: ks, S, D => (settled_len ks (settleS D S i) (settleD D i)).trans (settleS_len D S i)
theorem settled_in : ∀ (ks : List Int) (S : List (List UInt8)) (D : DataW Unit) {n : Nat} (_ : InD D n), InD (settled S D ks).2 n
  | [], _, _, _, h => h
  | i :: ks, S, D, _, h => settled_in ks (settleS D S i) (settleD D i) (h.settle i)
theorem settled_take (S : List (List UInt8)) (D : DataW Unit) (ks : List Int) (j : Nat) (hj : j < ks.length) :
    settled S D (ks.take (j + 1)) = (settleS (settled S D (ks.take j)).2 (settled S D (ks.take j)).1 ks[j], settleD (settled S D (ks.take j)).2 ks[j]) := by
  rw [List.take_succ_eq_append_getElem hj]
  unfold settled
  rw [List.foldl_append]
  rfl
theorem Fr.cell {w w' : World} {N : List Nat} (h : Fr w w' N) {a : Addr} (hp : a.block < w.heap.size) (hn : a.block ∉ N) : w'.cell? a = w.cell? a := by
  simp only [World.cell?]
  rw [h.block a.block hp hn]
/-- a row of ints, away from a device -/
def Keep (w : World) (ao : Option Addr) (N : List Nat) (ks : List Int) : Prop := ks ≠ [] → ∃ b o, ao = some ⟨b, o, none⟩ ∧ b < w.heap.size ∧ b ∉ N ∧ ∀ j (hj : j < ks.length), w.cell? ⟨b, o + j, none⟩ = some (.int .i64 ks[j])
variable {w : World} {g sa mb : Nat} {S : List (List UInt8)} {low : Int} {k : Nat} {D : DataW Unit} {pw : Bool} {left nw : Int}
set_option maxRecDepth 100000 in
theorem crash_nil (ao : Option Addr) (n c : Nat) (w : World) : Calls Tryz.prog 22 #[.pointer none, .slice ao n c] w fun e w' => e = .returned (.tuple #[]) ∧ w' = w := by
  go_enter Tryz.func22, Tryz.ntmps22
  go_wp2_with fail
  refine (made_nil w).mono ?_
  rintro e w1 ⟨rfl, rfl⟩
  go_wp2_with fail
  exact bodyPost_ret (results_none rfl _ _ _) rfl ⟨rfl, rfl⟩
set_option maxHeartbeats 4000000 in
set_option maxRecDepth 100000 in
theorem crash_any (h : DevS w g sa mb S low k D pw left nw) (hI : InD D S.length) (h0 : S.length ≠ 0) (hn : S.length ≤ 4096) (ao : Option Addr) (ks : List Int) (c : Nat) (hk : Keep w ao [sa, mb] ks) (hr : ∀ x ∈ ks, -9223372036854775808 ≤ x ∧ x ≤ 9223372036854775807) (hm : ks.length ≤ 1000000) :
    Calls Tryz.prog 22 #[.pointer (some ⟨g, 0, none⟩), .slice ao ks.length c] w fun e w' => e = .returned (.tuple #[]) ∧ Fr w w' [g, sa, mb] ∧ DevS w' g sa mb (settled S D ks).1 low 0 (.map []) false (-1) nw := by
  have HM := Lib.hid (made_any h.dv)
  have t1 : decide (0 < S.length) = true := by simp; omega
  rw [t1] at HM
  have HH := Lib.hid h
  have HI := Lib.hid hI
  have HK := Lib.hid hk
  have HR := Lib.hid hr
  have HN := Lib.hid hn
  have F0 := Lib.hid (Fr.refl w [sa, mb])
  clear h hI hk hr hn h0 t1
  go_enter Tryz.func22, Tryz.ntmps22
  go_wp2_with fail
  refine HM.out.mono ?_
  rintro e w1 ⟨rfl, rfl⟩
  clear HM
  go_wp2_with fail
  go_loopw [11] (fun vi wr => ∃ j : Nat, j ≤ ks.length ∧ vi = .int .i64 (j : Nat) ∧ Hid (Fr w1 wr [sa, mb]) ∧ Hid (DevS wr g sa mb (settled S D (ks.take j)).1 low k (settled S D (ks.take j)).2 pw left nw)) (fun vi _ => ks.length - (RowKit.intOf vi).toNat)
  case atStart => exact ⟨0, by omega, rfl, F0, HH⟩
  case round =>
    obtain ⟨j, hj, rfl, hF, hD⟩ := hrel
    by_cases hjn : j < ks.length
    · obtain ⟨kb, ko, rfl, hkb, hkn, hc⟩ := HK.out (by intro h0; rw [h0] at hjn; simp at hjn)
      have c1 : wr.cell? ⟨kb, ko + j, none⟩ = some (.int .i64 ks[j]) := (hF.out.cell hkb hkn).trans (hc j hjn)
      have hx := HR.out ks[j] (List.getElem_mem hjn)
      have C1 := Lib.hid (settle_any hD.out (by rw [settled_len]; exact settled_in _ _ _ HI.out) (by rw [settled_len]; exact HN.out) ks[j] hx.1 hx.2)
      have hst := Lib.hid (settled_take S D ks j hjn)
      generalize ks[j] = x at *
      have q1 : (0 : Int) ≤ (j : Int) := by omega
      clear hc hkb hkn hx
      go_wp2_with fail
      refine C1.out.mono ?_
      rintro e w2 ⟨rfl, hf2, hd2⟩
      have HF2 := Lib.hid (hF.out.trans hf2)
      have HD2 : Hid (DevS w2 g sa mb (settled S D (ks.take (j + 1))).1 low k (settled S D (ks.take (j + 1))).2 pw left nw) := by rw [hst.out]; exact hd2
      clear hf2 hd2
      go_wp2_with fail
      go_roundw
      case rel => exact ⟨j + 1, by omega, by go_num, HF2, HD2⟩
      case measure => simp [RowKit.intOf]; omega
    · obtain rfl : j = ks.length := by omega
      rw [List.take_length] at hD
      obtain ⟨_, _, c2, _, _, _⟩ := hD.out.dv.cells
      have HD := Lib.hid hD.out.dv
      have HS := Lib.hid hD.out.sec
      have HL := Lib.hid hD.out.len
      have HMA := Lib.hid hD.out.map
      have AP := Lib.hid hD.out.apart
      go_wp2_with (refine wpList_clear_own _ rfl _ 71 rfl 70 Tryz.underlying71 secR mb k (settled S D ks).2 rfl HMA.out ?_; intro w4 hown hmt; have hd4 := blk_row HD.out hmt.grown (fun e => by injection e with e; exact AP.out.1 e); have c3 := Blk.cell hd4 3; have c4 := Blk.cell hd4 4; have f3 := Blk.frozen hd4 3; have f4 := Blk.frozen hd4 4; have HD4 := Lib.hid hd4; have HW4 := Lib.hid hown; have HT4 := Lib.hid hmt; clear hd4 hown hmt)
      go_end0
      have hmt := HT4.out.grown
      have gg := gb_trans (gb_set w4 g 3 (.bool false)) (gb_set (w4.setCell ⟨g, 3, none⟩ (.bool false)) g 4 (.int .i64 (-1)))
      have hfr : Fr w1 wr [g, sa, mb] := ⟨hF.out.os, hF.out.tape, hF.out.output, hF.out.size, fun i hi hne => hF.out.block i hi (fun e => hne (by simp at e ⊢; exact .inr e))⟩
      refine ⟨rfl, (hfr.trans (fr_grown hmt (by simp))).trans (fr_grown gg (by simp)), dv_two HD4.out false (-1), ?_, HL.out, HW4.out.kept gg (fun e => by injection e with e; exact AP.out.1 e.symm)⟩
      have h1 := blk_row HS.out hmt (fun e => by injection e with e; exact AP.out.2.2 e)
      exact blk_row h1 gg (fun e => by injection e with e; exact AP.out.2.1 e)
end Go.Proofs.YtekaboomhljdoaaGreatDoor.Dk
namespace Go.Proofs.YtekaboomhljdoaaGreatDoor.Dk
open Go.Proofs.YtekaboomhljdoaaGreatDoor.Sh Go.RowKit Go.Lib Go.Maps
variable {w : World} {g sa mb : Nat} {S : List (List UInt8)} {low : Int} {k : Nat} {D : DataW Unit} {pw : Bool} {left wr : Int}
set_option maxHeartbeats 4000000 in
set_option maxRecDepth 100000 in
theorem settle_rng (h : DevS w g sa mb S low k D pw left wr) {r cnt : Nat} {lf : Lit → Bool} (hrg : w.ranges Tryz.prog 3 secR mb r k D lf cnt) (hrs : r ≠ sa) (i : Nat) (hi : i < S.length) (hn : S.length ≤ 4096) (l : List UInt8) (hl : l.length = 256) (hh : Maps.has D (.int .i64 (i : Int)) = true) (ha : D.atKey (.int .i64 (i : Int)) (.lit (.string zeros)) = .lit (.string l)) :
    Calls Tryz.prog 39 #[.pointer (some ⟨g, 0, none⟩), .int .i64 (i : Int)] w fun e w' => e = .returned (.tuple #[]) ∧ Fr w w' [sa, mb] ∧ DevS w' g sa mb (S.set i l) low k (D.del (.int .i64 (i : Int))) pw left wr ∧ ∃ cnt', w'.ranges Tryz.prog 3 secR mb r k (D.del (.int .i64 (i : Int))) (fun z => lf z && !z.sameKey (.int .i64 (i : Int))) cnt' ∧ cnt' ≤ cnt := by
  obtain ⟨c0, _, c2, _, _, _⟩ := h.dv.cells
  have HM := Lib.hid h.map
  have HKY := Lib.hid (keyI (i : Int) (by omega) (by omega))
  have HA := Lib.hid ha
  have HH := Lib.hid h
  have HLL := Lib.hid hl
  have HII := Lib.hid hi
  have K1 := Lib.hid (secV_one l)
  have HIS : Hid ((Tryz.prog.info? 70).map (·.size) = some (bs l).toArray.size) := by show _ = _; rw [info70, List.size_toArray, bs_len, hl]
  have HIL : (Tryz.prog.info? 70).map (·.size) = some (bs l).length := by rw [info70, bs_len, hl]
  have HU := Tryz.underlying70
  have HO : Hid ((Array.replicate 256 (Value.int .u8 0)).size = (bs l).toArray.size) := by show _ = _; rw [Array.size_replicate, List.size_toArray, bs_len, hl]
  have q1 : (0 : Int) ≤ (i : Int) := by omega
  have q2 : (i : Int) < (S.length : Int) := by omega
  have B1 : Below w.heap.size w (w.alloc (.cells (bs l).toArray 70)) := (Below.refl w.heap.size w).alloc (Nat.le_refl _) _
  have c0' : (w.alloc (.cells (bs l).toArray 70)).cell? ⟨g, 0, none⟩ = some (.slice (some ⟨sa, 0, none⟩) S.length S.length) := (B1.cell (p := ⟨g, 0, none⟩) (Blk.lt h.dv)).trans c0
  have c2' : (w.alloc (.cells (bs l).toArray 70)).cell? ⟨g, 2, none⟩ = some (.map (some mb)) := (B1.cell (p := ⟨g, 2, none⟩) (Blk.lt h.dv)).trans c2
  have HF0 := Lib.hid (fr_below B1 [sa, mb])
  have HRG := Lib.hid (hrg.alloc (.cells (bs l).toArray 70))
  clear hrg
  have NB := Lib.hid (Blk.new w (bs l) 70 w.heap.size rfl)
  have HD2 := Lib.hid (h.kept (fr_below B1 []) (by simp) (by simp) (by simp))
  have hsz := Lib.hid (show sa ≠ w.heap.size from Nat.ne_of_lt h.sec.lt)
  clear h hi hl ha B1
  go_enter Tryz.func39, Tryz.ntmps39
  go_wp2_with (first
    | (at_lookup; refine wpList_lookup_own_ok _ rfl _ _ 71 rfl 3 70 lawI Tryz.underlying71 secR (zero66 _) (.lit (.string zeros)) [] (secR_of zeros) mb k D rfl HM.out _ _ rfl HKY.out ?_; intro v ps hv; rw [HA.out] at hv; obtain ⟨rfl, _⟩ := secR_inv hv; rw [hh]; clear hv)
    | ((with_reducible refine wpList_store_row rfl 70 (.tmp 4) (.tmp 13) rfl w.heap.size (bs l).toArray rfl rfl 70 _ (heap_alloc_new w _) HIS.out ?ho K1.out ?_); (case ho => exact HO.out); rw [World.setRow_alloc_new]))
  clear c0 c2 HM
  generalize w.alloc (.cells (bs l).toArray 70) = W at *
  generalize w.heap.size = nb at *
  have hr1 : W.rangeAt nb 0 (bs l) := fun j v hj => by rw [NB.out.cell, Nat.zero_add]; exact hj
  have HR1 := Lib.hid hr1
  have HC0 := Lib.hid c0'
  have HC2 := Lib.hid c2'
  have hgs : g ≠ sa := fun e => HD2.out.apart.2.1 e.symm
  have ht1 : W.there sa (i * 256) (bs l).toArray.size := fun j hj => by
    have hj2 : j < 256 := by rw [List.size_toArray, bs_len, HLL.out] at hj; exact hj
    refine ⟨?_, HD2.out.sec.frozen _⟩
    rw [HD2.out.sec.cell, List.getElem?_eq_getElem (by rw [flat_len _ HD2.out.len]; have := HII.out; omega)]
    rfl
  have hst : (Instr.storeAt 70 (.pointer (some ⟨sa, i * 256, none⟩)) (.agg (bs l).toArray)).run Tryz.prog W.drew = .ok () (W.drew.setCells sa (i * 256) (bs l)) := run_storeAt_mid W.drew sa (i * 256) 70 _ ht1 HIS.out K1.out
  have HD3 : Hid (DevS (W.drew.setCells sa (i * 256) (bs l)) g sa mb (S.set i l) low k D pw left wr) := by
    have hf : Fr W.drew (W.drew.setCells sa (i * 256) (bs l)) [sa] := fr_grown (gb_sets sa (bs l) (i * 256) W.drew) (by simp)
    have hd := HD2.out
    refine ⟨?_, ?_, set_len hd.len HLL.out, ?_⟩
    · rw [List.length_set]
      exact Fr.blk (w := W.drew) hf hd.dv (by simpa using hgs)
    · have h2 := Blk.sets (bs l) (S.flatMap bs) (i * 256) W.drew hd.sec
      rw [flat_set hd.len HII.out HLL.out] at h2
      exact h2
    · exact hd.map.drew.kept (gb_sets sa (bs l) (i * 256) W.drew) (fun e => by injection e with e; exact hd.apart.2.2 e.symm)
  have hone : ∀ v, v ∈ bs l → v.oneCell' = true := bs_one l
  have hth2 : W.drew.there sa (i * 256) (bs l).length := by rw [List.size_toArray] at ht1; exact ht1
  clear ht1
  go_region_held3 (fun w' => w'.cell? ⟨g, 0, none⟩ = some (.slice (some ⟨sa, 0, none⟩) S.length S.length) ∧ w'.rangeAt nb 0 (bs l))
    (first | go_keep | exact ⟨HC0.out, HR1.out⟩ | exact ⟨(HD3.out.dv.cells.1).trans (by rw [List.length_set]), Go.World.rangeAt_setCells_apart (w := W.drew) HR1.out sa (i * 256) (bs l) (.inl (fun e => hsz.out e.symm))⟩)
    (fail)
  have HG2 := Lib.hid (gb_sets sa (bs l) (i * 256) W.drew)
  have HR0 : W.drew.ranges Tryz.prog 3 secR mb r k D lf cnt := HRG.out
  have HR3 := Lib.hid (HR0.kept HG2.out (fun e => by injection e with e; exact HD2.out.apart.2.2 e.symm) (fun e => by injection e with e; exact hrs e))
  clear HR0 HRG
  clear hth2 hst hone hr1
  clear c0' c2'
  generalize W.drew.setCells sa (i * 256) (bs l) = W2 at *
  obtain ⟨_, _, d2, _, _, _⟩ := HD3.out.dv.cells
  go_wp2_with (at_delete; refine wpList_delete_ranges _ rfl _ _ 71 3 rfl 70 lawI Tryz.underlying71 secR mb r k D lf cnt rfl HR3.out _ _ rfl HKY.out ?_; intro w4 cnt4 hown hle hmt)
  go_end0
  have hg4 := hmt.grown
  have hd := HD3.out
  have ap := hd.apart
  refine ⟨rfl, (HF0.out.trans (b := W) ⟨HG2.out.os, HG2.out.tape, HG2.out.output, HG2.out.size, fun n hn hne => HG2.out.block n hn (fun e => by injection e with e; exact hne (by simp [e]))⟩).trans (fr_grown hg4 (by simp)), ⟨?_, ?_, hd.len, hown.owns⟩, cnt4, hown, hle⟩
  · exact blk_row hd.dv hg4 (fun e => by injection e with e; exact ap.1 e)
  · exact blk_row hd.sec hg4 (fun e => by injection e with e; exact ap.2.2 e)
end Go.Proofs.YtekaboomhljdoaaGreatDoor.Dk
namespace Go.Proofs.YtekaboomhljdoaaGreatDoor.Dk
open Go.Proofs.YtekaboomhljdoaaGreatDoor.Sh Go.RowKit Go.Lib Go.Maps
variable {w : World} {g sa mb : Nat} {S : List (List UInt8)} {low : Int} {k : Nat} {D : DataW Unit} {pw : Bool} {left nw : Int}
theorem secR_shape (v : Value) (y : DataW Unit × List MemPlace) (h : secR v = some y) : ∃ l : List UInt8, v = secV l := by
  unfold secR at h
  by_cases hx : ∃ m : List UInt8, v = secV m
  · exact hx
  · rw [dif_neg hx] at h
    cases h
theorem int_shape (key : Value) (kl : Lit) (h : keyOf Tryz.prog 3 key = some kl) : ∃ x, key = Value.int .i64 x := by
  obtain ⟨x, h1, _⟩ := Maps.keyOf_int_inv Tryz.underlying3 h
  exact ⟨x, h1⟩
theorem has_struck (D : DataW Unit) (x : Int) (lf : Lit → Bool) (h : ∀ z, lf z = Maps.has D z) (z : Lit) : (lf z && !z.sameKey (.int .i64 x)) = Maps.has (D.del (.int .i64 x)) z := by
  by_cases e : z = .int .i64 x
  · subst e
    rw [has_del_same, WideAt.sameKey_self (by trivial)]
    simp
  · rw [has_del_other e, sameKey_ne e, h z]
    simp
/-- what Read answers is not turned by settling -/
theorem secAt_settle {D : DataW Unit} {S : List (List UInt8)} (x : Nat) (l : List UInt8) (hx : x < S.length) (hh : Maps.has D (.int .i64 (x : Int)) = true) (ha : ∀ z, D.atKey (.int .i64 (x : Int)) z = .lit (.string l)) (i : Nat) :
    secAt (D.del (.int .i64 (x : Int))) (S.set x l) i = secAt D S i := by
  unfold secAt
  by_cases e : i = x
  · subst e
    rw [has_del_same, hh, ha]
    simp [hx]
  · have e2 : (i : Int) ≠ (x : Int) := fun h => e (by omega)
    rw [has_del_other (int_ne e2), atKey_del_other (int_ne e2), List.getElem?_set_ne (fun h => e h.symm)]
set_option maxRecDepth 100000 in
theorem flush_no (h : Dv w g (some ⟨sa, 0, none⟩) S.length S.length low (some mb) pw left nw) (z : Int) (hz : awakeE S.length pw = z) (h0 : z ≠ 0) : Calls Tryz.prog 14 #[.pointer (some ⟨g, 0, none⟩)] w fun e w' => e = .returned (.int .i64 z) ∧ w' = w := by
  have HF := Lib.hid (awake_any h)
  rw [hz] at HF
  have t1 : (z != 0) = true := by simpa using h0
  clear h hz h0
  go_enter Tryz.func14, Tryz.ntmps14
  go_wp2_with fail
  refine HF.out.mono ?_
  rintro e w1 ⟨rfl, rfl⟩
  go_wp2_with fail
  go_ret
  exact ⟨rfl, rfl⟩
set_option maxRecDepth 100000 in
theorem flush_dead (h : Dv w g (some ⟨sa, 0, none⟩) S.length S.length low (some mb) pw 0 nw) (hz : awakeE S.length pw = 0) : Calls Tryz.prog 14 #[.pointer (some ⟨g, 0, none⟩)] w fun e w' => e = .returned (.int .i64 91) ∧ w.grownBy w' (some g) ∧ Dv w' g (some ⟨sa, 0, none⟩) S.length S.length low (some mb) false 0 nw := by
  have HF := Lib.hid (awake_any h)
  rw [hz] at HF
  have HL := Lib.hid (lasts_dead h)
  clear h hz
  go_enter Tryz.func14, Tryz.ntmps14
  go_wp2_with fail
  refine HF.out.mono ?_
  rintro e w1 ⟨rfl, rfl⟩
  go_wp2_with fail
  refine HL.out.mono ?_
  rintro e w2 ⟨rfl, hg, hd⟩
  have HG := Lib.hid hg
  have HD := Lib.hid hd
  clear hg hd
  go_wp2_with fail
  go_ret
  exact ⟨rfl, HG.out, HD.out⟩
/-- what a loop over the cache has done -/
def Flushed (S : List (List UInt8)) (D : DataW Unit) (S1 : List (List UInt8)) (D1 : DataW Unit) : Prop := S1.length = S.length ∧ InD D1 S.length ∧ ∀ i : Nat, secAt D1 S1 i = secAt D S i
set_option maxHeartbeats 4000000 in
set_option maxRecDepth 100000 in
theorem flush_ok (h : DevS w g sa mb S low k D pw left nw) (hI : InD D S.length) (hz : awakeE S.length pw = 0) (hn : S.length ≤ 4096) (hl0 : left ≠ 0) (h0 : -1 ≤ left) (h1 : left ≤ 9223372036854775807) (h2 : 0 ≤ nw) (h3 : nw < 9223372036854775807) :
    Calls Tryz.prog 14 #[.pointer (some ⟨g, 0, none⟩)] w fun e w' => e = .returned (.int .i64 0) ∧ Fr w w' [g, sa, mb] ∧ ∃ S1 D1, Flushed S D S1 D1 ∧ (∀ z, Maps.has D1 z = false) ∧ DevS w' g sa mb S1 low k D1 pw (if 0 < left then left - 1 else left) (nw + 1) := by
  have HF := Lib.hid (awake_any h.dv)
  rw [hz] at HF
  have HL := Lib.hid (lasts_any h.dv hl0 h0 h1 h2 h3)
  generalize (if 0 < left then left - 1 else left) = lv at HL ⊢
  have HH := Lib.hid h
  have HI := Lib.hid hI
  have HN := Lib.hid hn
  clear h hI hz hn hl0 h0 h1 h2 h3
  go_enter Tryz.func14, Tryz.ntmps14
  go_wp2_with fail
  refine HF.out.mono ?_
  rintro e w1 ⟨rfl, rfl⟩
  clear HF
  go_wp2_with fail
  refine HL.out.mono ?_
  rintro e w2 ⟨rfl, hg, hd⟩
  clear HL
  have ap := HH.out.apart
  have HS2 : Hid (DevS w2 g sa mb S low k D pw lv (nw + 1)) := ⟨hd, blk_row HH.out.sec hg (fun e => by injection e with e; exact ap.2.1 e), HH.out.len, HH.out.map.kept hg (fun e => by injection e with e; exact ap.1 e.symm)⟩
  have HF2 := Lib.hid (fr_grown hg (N := [g, sa, mb]) (by simp))
  obtain ⟨_, _, c2, _, _, _⟩ := hd.cells
  have HLS : Hid (sa < w2.heap.size ∧ g < w2.heap.size ∧ mb < w2.heap.size) := ⟨HS2.out.sec.lt, Blk.lt HS2.out.dv, HS2.out.map.lt⟩
  have HMP := Lib.hid HS2.out.map
  clear hg hd ap
  go_wp2_with (first | (at_range; refine wpList_range_own _ rfl _ 71 rfl 3 70 lawI Tryz.underlying71 secR mb k D rfl HMP.out ?_; intro w3 hrg0 hg0 hs0))
  go_frame
  have hg3 := hg0
  obtain ⟨rr, hrr⟩ : ∃ rr, rr = w2.heap.size := ⟨_, rfl⟩
  rw [← hrr] at hrg0 ⊢
  have A0 : Hid (rr ≠ g ∧ rr ≠ sa ∧ rr ≠ mb ∧ w1.heap.size ≤ rr) := by
    have h1 := HLS.out
    have h2 := HF2.out.size
    exact ⟨by omega, by omega, by omega, by omega⟩
  have R0 : Hid (∃ S1 D1 lf cnt, Fr w1 w3 [g, sa, mb] ∧ Flushed S D S1 D1 ∧ DevS w3 g sa mb S1 low k D1 pw lv (nw + 1) ∧ w3.ranges Tryz.prog 3 secR mb rr k D1 lf cnt ∧ ∀ z, lf z = Maps.has D1 z) :=
    ⟨S, D, _, _, HF2.out.trans ⟨hg3.os, hg3.tape, hg3.output, hg3.size, fun i hi _ => hg3.block i hi (by simp)⟩, ⟨rfl, HI.out, fun _ => rfl⟩, HS2.out.kept (N := []) ⟨hg3.os, hg3.tape, hg3.output, hg3.size, fun i hi _ => hg3.block i hi (by simp)⟩ (by simp) (by simp) (by simp), hrg0, fun _ => rfl⟩
  clear hrg0 hg0 hg3 hs0 hrr HS2 HLS HMP HF2 HH c2
  go_loopw [4] (fun _ wr => Hid (∃ S1 D1 lf cnt, Fr w1 wr [g, sa, mb] ∧ Flushed S D S1 D1 ∧ DevS wr g sa mb S1 low k D1 pw lv (nw + 1) ∧ wr.ranges Tryz.prog 3 secR mb rr k D1 lf cnt ∧ ∀ z, lf z = Maps.has D1 z)) (fun _ wr => wr.rangeLeft mb rr)
  case atStart => exact R0
  case round =>
    obtain ⟨S1, D1, lf, cnt, hF, hFl, hD, hrg, hlf⟩ := hrel.out
    have HF3 := Lib.hid hF
    have HFL := Lib.hid hFl
    have HD3 := Lib.hid hD
    have HLF := Lib.hid hlf
    clear hF hFl hD hlf hrel
    go_wp2_with (first
      | (at_next; refine wpList_next_ranges _ rfl _ rfl 3 lawI secR (Value.int .i64) secV int_shape secR_shape mb rr k D1 lf cnt rfl hrg ?_ ?_))
    · intro hc0 hl0
      have hz2 : Hid (∀ z, Maps.has D1 z = false) := fun z => by rw [← HLF.out z]; exact hl0 z
      clear hl0
      go_wp2_with fail
      go_ret
      exact ⟨rfl, HF3.out, S1, D1, HFL.out, hz2.out, HD3.out⟩
    · intro x lz kl y ps w4 cnt4 hkey hlk hv hat hrg4 hlt hg4 hs4 hen
      obtain ⟨x', ex, rfl, _⟩ := Maps.keyOf_int_inv Tryz.underlying3 hkey
      injection ex with _ ex
      subst ex
      have hh : Maps.has D1 (.int .i64 x) = true := by rw [← HLF.out]; exact hlk
      obtain ⟨a1, a2, l, hl, ha⟩ := HFL.out.2.1.2 x hh
      obtain ⟨n, rfl⟩ := Int.eq_ofNat_of_zero_le a1
      have hlen := HFL.out.1
      have hn1 : n < S1.length := by rw [hlen]; omega
      have a0 := A0.out
      have hfr4 : Fr wr w4 [rr] := fr_grown hg4 (by simp)
      have hd4 : DevS w4 g sa mb S1 low k D1 pw lv (nw + 1) := HD3.out.kept hfr4 (by simp; exact fun e => a0.1 e.symm) (by simp; exact fun e => a0.2.1 e.symm) (by simp; exact fun e => a0.2.2.1 e.symm)
      have C1 := Lib.hid (settle_rng hd4 hrg4 a0.2.1 n hn1 (by rw [hlen]; exact HN.out) l hl hh (ha _))
      have hf4 : Hid (Fr w1 w4 [g, sa, mb]) := by
        refine ⟨hg4.os.trans HF3.out.os, hg4.tape.trans HF3.out.tape, hg4.output.trans HF3.out.output, Nat.le_trans HF3.out.size hg4.size, fun i hi hne => ?_⟩
        refine (hg4.block i (Nat.lt_of_lt_of_le hi HF3.out.size) (fun e => ?_)).trans (HF3.out.block i hi hne)
        injection e with e
        have := a0.2.2.2
        omega
      have hSA : Hid (∀ i : Nat, secAt (D1.del (.int .i64 (n : Int))) (S1.set n l) i = secAt D S i) := fun i => by rw [secAt_settle n l hn1 hh ha i]; exact HFL.out.2.2 i
      have hIN : Hid (InD (D1.del (.int .i64 (n : Int))) S.length) := HFL.out.2.1.settle (n : Int)
      have hLEN : Hid ((S1.set n l).length = S.length) := by show _ = _; rw [List.length_set, hlen]
      have hLT := Lib.hid hlt
      have HL0 := Lib.hid hrg
      clear hd4 hfr4 hg4 hs4 hkey hlk hv hat hrg4 hl ha hh a1 a2 a0 hn1 hlen hlt hrg
      go_wp2_with fail
      refine C1.out.mono ?_
      rintro e w5 ⟨rfl, hf5, hd5, cnt5, hr5, hle5⟩
      rw [strike_twice] at hr5
      have HREL : Hid (∃ S1 D1 lf cnt, Fr w1 w5 [g, sa, mb] ∧ Flushed S D S1 D1 ∧ DevS w5 g sa mb S1 low k D1 pw lv (nw + 1) ∧ w5.ranges Tryz.prog 3 secR mb rr k D1 lf cnt ∧ ∀ z, lf z = Maps.has D1 z) := by
        refine ⟨_, _, _, _, hf4.out.trans ⟨hf5.os, hf5.tape, hf5.output, hf5.size, fun i hi hne => hf5.block i hi (fun e => hne (by simp at e ⊢; exact .inr e))⟩, ⟨hLEN.out, hIN.out, hSA.out⟩, hd5, hr5, has_struck D1 _ lf HLF.out⟩
      have HM : Hid (w5.rangeLeft mb rr < wr.rangeLeft mb rr) := by
        show _ < _
        rw [hr5.left_eq, HL0.out.left_eq]
        have := hLT.out
        omega
      clear hf5 hd5 hr5 hle5
      go_wp2_with fail
      go_roundw
      case rel => exact HREL
      case measure => exact HM.out
end Go.Proofs.YtekaboomhljdoaaGreatDoor.Dk
namespace Go.Proofs.YtekaboomhljdoaaGreatDoor.Dk
open Go.Proofs.YtekaboomhljdoaaGreatDoor.Sh Go.RowKit Go.Lib Go.Maps
variable {w : World}
set_option maxRecDepth 100000 in
theorem chunk_40 (ao : Option Addr) (n c : Nat) : Calls Tryz.prog 29 #[.slice ao n c, .int .i64 256] w fun e w' => e = .returned (.func (.func 54) #[] #[.pointer (some ⟨w.heap.size, 0, none⟩), .pointer (some ⟨w.heap.size + 1, 0, none⟩)]) ∧ w' = (w.alloc (.cells #[.slice ao n c] 24)).alloc (.cells #[.int .i64 256] 3) := by
  go_enter Tryz.func29, Tryz.ntmps29
  go_wp2_with fail
  go_ret
  simp
set_option maxHeartbeats 4000000 in
set_option maxRecDepth 100000 in
theorem load_bad (ao : Option Addr) (m c : Nat) (low : Int) (h : m % 256 ≠ 0 ∨ m < 256 ∨ m / 256 > 4096 ∨ low < 0 ∨ low > (m / 256 : Nat)) (hm : m ≤ 140737488355328) :
    Calls Tryz.prog 11 #[.slice ao m c, .int .i64 low] w fun e w' => e = .returned (.tuple #[.pointer none, .int .i64 2]) ∧ w' = w := by
  by_cases h1 : m % 256 = 0
  · obtain ⟨q, hq⟩ : ∃ q, q = m / 256 := ⟨_, rfl⟩
    rw [← hq] at h
    have e1 : ((m : Int) % 256 != 0) = false := by simp; omega
    have e2 : (((m : Int).tmod 256) != 0) = false := by rw [Int.tmod_eq_emod_of_nonneg (by omega)]; exact e1
    have e3 : (m : Int) / 256 = (q : Int) := by omega
    have e4 : (m : Int).tdiv 256 = (q : Int) := by rw [Int.tdiv_eq_ediv_of_nonneg (by omega)]; exact e3
    have q0 : (0 : Int) ≤ (q : Int) := by omega
    have q1 : (q : Int) ≤ 140737488355328 := by omega
    have wq : wrap64 (q : Int) = (q : Int) := IntWalk.wrap64_in _ ⟨by omega, by omega⟩
    by_cases h2 : q < 1
    · have t2 : decide ((q : Int) < 1) = true := by simp; omega
      clear h h1 hq hm
      go_enter Tryz.func11, Tryz.ntmps11
      go_wp2_with fail
      go_ret2
      exact ⟨rfl, rfl⟩
    have t2 : decide ((q : Int) < 1) = false := by simp; omega
    have t2' : decide (q < 1) = false := by simp; omega
    by_cases h3 : q > 4096
    · have t3 : decide ((4096 : Int) < (q : Int)) = true := by simp; omega
      clear h h1 hq hm
      go_enter Tryz.func11, Tryz.ntmps11
      go_wp2_with fail
      go_ret2
      exact ⟨rfl, rfl⟩
    have t3 : decide ((4096 : Int) < (q : Int)) = false := by simp; omega
    have t3' : decide (4096 < q) = false := by simp; omega
    by_cases h4 : low < 0
    · have t4 : decide (low < 0) = true := by simpa using h4
      clear h h1 hq hm
      go_enter Tryz.func11, Tryz.ntmps11
      go_wp2_with fail
      go_ret2
      exact ⟨rfl, rfl⟩
    have t4 : decide (low < 0) = false := by simpa using h4
    have h5 : (q : Int) < low := by omega
    · have t5 : decide ((q : Int) < low) = true := by simpa using h5
      clear h h1 hq hm
      go_enter Tryz.func11, Tryz.ntmps11
      go_wp2_with fail
      go_ret2
      exact ⟨rfl, rfl⟩
  · have e1 : ((m : Int) % 256 != 0) = true := by simp; omega
    have e2 : (((m : Int).tmod 256) != 0) = true := by rw [Int.tmod_eq_emod_of_nonneg (by omega)]; exact e1
    clear h h1
    go_enter Tryz.func11, Tryz.ntmps11
    go_wp2_with fail
    go_ret2
    exact ⟨rfl, rfl⟩
/-- how many sectors a row of bytes fills, the last one perhaps not wholly -/
def upTo (m : Nat) : Nat := if m % 256 = 0 then m / 256 else m / 256 + 1
set_option maxHeartbeats 4000000 in
set_option maxRecDepth 100000 in
theorem new_bad (n : Int) (ao : Option Addr) (m c : Nat) (h : n < 0 ∨ n > 4096 - (upTo m : Int)) (hm : m ≤ 140737488355328) (hn : n ≤ 9223372036854775807) :
    Calls Tryz.prog 26 #[.int .i64 n, .slice ao m c] w fun e w' => e = .returned (.tuple #[.pointer none, .int .i64 2]) ∧ w' = w := by
  obtain ⟨q, hq⟩ : ∃ q, q = m / 256 := ⟨_, rfl⟩
  have e3 : (m : Int) / 256 = (q : Int) := by omega
  have e4 : (m : Int).tdiv 256 = (q : Int) := by rw [Int.tdiv_eq_ediv_of_nonneg (by omega)]; exact e3
  have q0 : (0 : Int) ≤ (q : Int) := by omega
  have q1 : (q : Int) ≤ 140737488355328 := by omega
  have wq : wrap64 (q : Int) = (q : Int) := IntWalk.wrap64_in _ ⟨by omega, by omega⟩
  by_cases h1 : m % 256 = 0
  · have eu : upTo m = q := by unfold upTo; rw [if_pos h1, hq]
    rw [eu] at h
    have e1 : ((m : Int) % 256 != 0) = false := by simp; omega
    have e2 : (((m : Int).tmod 256) != 0) = false := by rw [Int.tmod_eq_emod_of_nonneg (by omega)]; exact e1
    by_cases h2 : n < 0
    · have t2 : decide (n < 0) = true := by simpa using h2
      clear h h1 hq hm eu
      go_enter Tryz.func26, Tryz.ntmps26
      go_wp2_with fail
      go_ret2
      exact ⟨rfl, rfl⟩
    · have t2 : decide (n < 0) = false := by simpa using h2
      have t3 : decide (4096 - (q : Int) < n) = true := by simp; omega
      have w3 : wrap64 (4096 - (q : Int)) = 4096 - (q : Int) := IntWalk.wrap64_in _ ⟨by omega, by omega⟩
      clear h h1 hq hm eu
      go_enter Tryz.func26, Tryz.ntmps26
      go_wp2_with fail
      go_ret2
      exact ⟨rfl, rfl⟩
  · have eu : upTo m = q + 1 := by unfold upTo; rw [if_neg h1, hq]
    rw [eu] at h
    have e1 : ((m : Int) % 256 != 0) = true := by simp; omega
    have e2 : (((m : Int).tmod 256) != 0) = true := by rw [Int.tmod_eq_emod_of_nonneg (by omega)]; exact e1
    have w2 : wrap64 ((q : Int) + 1) = (q : Int) + 1 := IntWalk.wrap64_in _ ⟨by omega, by omega⟩
    by_cases h2 : n < 0
    · have t2 : decide (n < 0) = true := by simpa using h2
      clear h h1 hq hm eu
      go_enter Tryz.func26, Tryz.ntmps26
      go_wp2_with fail
      go_ret2
      exact ⟨rfl, rfl⟩
    · have t2 : decide (n < 0) = false := by simpa using h2
      have t3 : decide (4096 - ((q : Int) + 1) < n) = true := by simp; omega
      have w3 : wrap64 (4096 - ((q : Int) + 1)) = 4096 - ((q : Int) + 1) := IntWalk.wrap64_in _ ⟨by omega, by omega⟩
      clear h h1 hq hm eu
      go_enter Tryz.func26, Tryz.ntmps26
      go_wp2_with fail
      go_ret2
      exact ⟨rfl, rfl⟩
end Go.Proofs.YtekaboomhljdoaaGreatDoor.Dk
namespace Go.Proofs.YtekaboomhljdoaaGreatDoor.Dk
open Go.Proofs.YtekaboomhljdoaaGreatDoor.Sh Go.RowKit Go.Lib Go.Maps Go.Shelf
attribute [local go_sem] Oper.semAt_some

/-- the numbers below N, as far as k -/
def up (N k : Nat) : List { j : Nat // j < N } := (List.range k).filterMap fun j => if h : j < N then some ⟨j, h⟩ else none
theorem up_succ (N k : Nat) (h : k < N) : up N (k + 1) = up N k ++ [⟨k, h⟩] := by simp [up, List.range_succ, List.filterMap_append, h]
theorem up_len (N : Nat) : ∀ k, k ≤ N → (up N k).length = k
  | 0, _ => rfl
  | k + 1, h => by rw [up_succ N k h, List.length_append, up_len N k (by omega)]; rfl
theorem up_map (N : Nat) : ∀ k, k ≤ N → (up N k).map (·.1) = List.range k
  | 0, _ => rfl
  | k + 1, h => by rw [up_succ N k h, List.map_append, up_map N k (by omega), List.range_succ]; rfl
set_option maxRecDepth 100000 in
theorem sl_from (b o m c p : Nat) (hp : p < m) (hm : m ≤ c) (W : World) : (Instr.slice 24 (.slice (some ⟨b, o, none⟩) m c) (some (.int .i64 (p : Int))) none none).run Tryz.prog W = .ok (.slice (some ⟨b, o + p, none⟩) (m - p) (c - p)) W := by
  have hs := run_slice_l (P := Tryz.prog) W 24 (some ⟨b, o, none⟩) m c (by rw [Tryz.underlying24]; rfl) .i64 (p : Int) (by omega) (by omega)
  rw [hs]
  have e1 : ((p : Int)).toNat = p := by omega
  have e3 : Tryz.prog.elem 24 = 5 := by kernel_rfl
  rw [e1, e3]
  have h9 : ¬ c = p := by omega
  simp [Tryz.sizeOf5, sliced, Result.andThen, Addr.add, h9]
set_option maxRecDepth 100000 in
theorem sl_three (b o m c p : Nat) (hp : p + 256 ≤ m) (hm : m ≤ c) (W : World) : (Instr.slice 24 (.slice (some ⟨b, o, none⟩) m c) (some (.int .i64 (p : Int))) (some (.int .i64 ((p : Int) + 256))) (some (.int .i64 ((p : Int) + 256)))).run Tryz.prog W = .ok (.slice (some ⟨b, o + p, none⟩) 256 256) W := by
  have hs := run_slice_lhm (P := Tryz.prog) W 24 (some ⟨b, o, none⟩) m c (by rw [Tryz.underlying24]; rfl) .i64 .i64 .i64 (p : Int) ((p : Int) + 256) ((p : Int) + 256) (by omega) (by omega) (by omega) (by omega)
  rw [hs]
  have e1 : ((p : Int)).toNat = p := by omega
  have e2 : ((p : Int) + 256).toNat = p + 256 := by omega
  have e3 : Tryz.prog.elem 24 = 5 := by kernel_rfl
  rw [e1, e2, e3]
  simp [Tryz.sizeOf5, sliced, Result.andThen, Addr.add]
/-- what a round keeps: the two boxes that the iterator reads -/
def KB (B1 B2 : Nat) (W W' : World) : Prop := (∀ v, W.cell? ⟨B1, 0, none⟩ = some v → W'.cell? ⟨B1, 0, none⟩ = some v) ∧ ∀ v, W.cell? ⟨B2, 0, none⟩ = some v → W'.cell? ⟨B2, 0, none⟩ = some v
theorem kb_refl (B1 B2 : Nat) (W : World) : KB B1 B2 W W := ⟨fun _ h => h, fun _ h => h⟩
theorem kb_t {B1 B2 : Nat} {A B C : World} (h : KB B1 B2 A B) (k : KB B1 B2 B C) : KB B1 B2 A C := ⟨fun v hv => k.1 v (h.1 v hv), fun v hv => k.2 v (h.2 v hv)⟩
theorem kb_drew {B1 B2 : Nat} {A B : World} (h : KB B1 B2 A B) (q : Nat) : KB B1 B2 A (B.drewN q) := h
theorem kb_b {B1 B2 : Nat} {w : World} (h1 : B1 < w.heap.size) (h2 : B2 < w.heap.size) (W : World) (l : Nat) (o o' : Obj) (hl : w.heap.size ≤ l) (_ : W.heap[l]? = some o) (_ : o.isCells = false) (_ : o.isWalk = false) : KB B1 B2 W (W.putObj l o') :=
  ⟨fun _ hv => (World.cell?_of_block (a := ⟨B1, 0, none⟩) (World.putObj_heap_other (show B1 ≠ l by omega))).trans hv, fun _ hv => (World.cell?_of_block (a := ⟨B2, 0, none⟩) (World.putObj_heap_other (show B2 ≠ l by omega))).trans hv⟩
set_option maxRecDepth 100000 in
set_option maxHeartbeats 4000000 in
theorem chunk48_in (n : Nat) (hn : 1 ≤ n) (l B1 B2 b off cap N M : Nat) (hM : M = 256 * N) (hN : N ≤ 4096) (hcap : M ≤ cap) (J Jx : List { j : Nat // j < N } → World → Prop) (hJ : ∀ s W q, J s W → J s (W.drewN q))
    (hY : ∀ pre x W, J pre W → pre.length < N → YieldAt Fence.wide (n - 1) Tryz.prog l #[.slice (some ⟨b, off + 256 * x.1, none⟩) 256 256] W fun e W' =>
      (e = .returned (.bool true) ∧ J (pre ++ [x]) W' ∧ KB B1 B2 W W') ∨ (e = .returned (.bool false) ∧ Jx (pre ++ [x]) W'))
    (W : World) (hc1 : W.cell? ⟨B1, 0, none⟩ = some (.slice (some ⟨b, off, none⟩) M cap)) (hc2 : W.cell? ⟨B2, 0, none⟩ = some (.int .i64 256)) (h0 : J [] W) :
    CallsIn Fence.wide n Tryz.prog 54 #[.func (.yield l) #[] #[], .pointer (some ⟨B1, 0, none⟩), .pointer (some ⟨B2, 0, none⟩)] W fun e W' => (∃ v, e = .returned v) ∧
      ((∃ ys, ys = up N N ∧ J ys W') ∨ (∃ pre, (∃ k, k ≤ N ∧ pre = up N k) ∧ Jx pre W')) := by
  have HM := Lib.hid hM
  have hM2 : M ≤ 1048576 := by omega
  clear hM
  refine callsIn_of_wp Tryz.func54 rfl trivial ?_ rfl
  simp only [Tryz.ntmps54, List.size_toArray, List.length_cons, List.length_nil, Nat.reduceAdd, Nat.reduceSub, Array.replicate_succ, Array.replicate_zero, List.push_toArray, List.append_toArray, List.nil_append, List.cons_append]
  gi_wp2
  gi_loopw [4] (fun i wr => ∃ k p : Nat, k ≤ N ∧ Hid (p = 256 * k) ∧ i = .int .i64 (p : Int) ∧ J (up N k) wr ∧ KB B1 B2 W wr)
    (fun i _ => M - (intOf i).toNat)
  case atStart => exact ⟨0, 0, Nat.zero_le _, rfl, rfl, h0, kb_refl _ _ _⟩
  case round =>
    obtain ⟨k, p, hk, hp, rfl, hJs, hnx⟩ := hrel
    have hx1 := hnx.1 _ hc1
    have hx2 := hnx.2 _ hc2
    by_cases hlt : k < N
    · have hpm : p + 256 ≤ M := by have := hp.out; have := HM.out; omega
      have hpm2 : (p : Int) < (M : Int) := by omega
      have hp0 : (0 : Int) ≤ (p : Int) := by omega
      have s1 := sl_from b off M cap p (by omega) hcap
      have s2 := sl_three b off M cap p hpm hcap
      have m1 : min (256 : Int) ((M - p : Nat) : Int) = 256 := by omega
      have w1 : wrap64 ((p : Int) + 256) = (p : Int) + 256 := IntWalk.wrap64_in _ ⟨by omega, by omega⟩
      have hYY := fun q => hY _ ⟨k, hlt⟩ (wr.drewN q) (hJ _ _ q hJs) (by rw [up_len N k hk]; exact hlt)
      dsimp only at hYY
      rw [← hp.out] at hYY
      have HY := Lib.hid hYY
      have HU := Lib.hid (up_succ N k hlt)
      have HB := Lib.hid hnx
      clear hYY hnx hJs
      gi_wp2
      gi_quiet (fail)
      obtain ⟨fn, tmps, assign, body, hy, hR⟩ := HY.out nq
      have HR := Lib.hid hR
      have y1 := hx1
      have y2 := hx2
      change (World.drewN wr nq).cell? _ = _ at y1
      change (World.drewN wr nq).cell? _ = _ at y2
      have HB2 : Hid (KB B1 B2 W (World.drewN wr nq)) := kb_drew HB.out nq
      clear hR hx1 hx2 HY HB
      generalize World.drewN wr nq = wv at *
      clear hY hJ hc1 hc2 h0 hcap hpm
      gi_wp2_with fail
      refine HR.out.mono ?_
      rintro e W3 (⟨rfl, hJ3, hk3⟩ | ⟨rfl, hJx3⟩)
      · have z2 := hk3.2 _ y2
        gi_wp2_with fail
        go_roundw
        case rel => exact ⟨k + 1, p + 256, by omega, by have := hp.out; show _ = _; omega, by go_num, by rw [HU.out]; exact hJ3, kb_t HB2.out hk3⟩
        case measure => simp [intOf]; omega
      · gi_wp2
        refine bodyPost_ret (results_none rfl _ _ _) rfl ?_
        exact ⟨⟨_, rfl⟩, .inr ⟨_, ⟨k + 1, by omega, HU.out.symm⟩, hJx3⟩⟩
    · obtain rfl : k = N := by omega
      obtain rfl : p = M := by rw [hp.out, HM.out]
      gi_wp2
      go_end0
      exact ⟨⟨_, rfl⟩, .inl ⟨_, rfl, hJs⟩⟩
theorem chunk_stops (n : Nat) (hn : 1 ≤ n) (B1 B2 b off cap N M : Nat) (hM : M = 256 * N) (hN : N ≤ 4096) (hcap : M ≤ cap) (w : World) (hB1 : B1 < w.heap.size) (hB2 : B2 < w.heap.size)
    (hc1 : w.cell? ⟨B1, 0, none⟩ = some (.slice (some ⟨b, off, none⟩) M cap)) (hc2 : w.cell? ⟨B2, 0, none⟩ = some (.int .i64 256)) :
    SeqStopsK Fence.wide n Tryz.prog 54 #[.pointer (some ⟨B1, 0, none⟩), .pointer (some ⟨B2, 0, none⟩)] (fun x : { j : Nat // j < N } => #[Value.slice (some ⟨b, off + 256 * x.1, none⟩) 256 256]) (KB B1 B2) (fun ys => ys = up N N) (fun pre => ∃ k, k ≤ N ∧ pre = up N k) N w := fun l J Jx W hW hJ hJx hY h0 =>
  chunk48_in n hn l B1 B2 b off cap N M hM hN hcap J Jx (fun s W' q hs => hJ s W' _ none hs ⟨rfl, rfl, rfl, Nat.le_refl _, fun _ _ _ => rfl⟩ (fun r e => by cases e)) hY W ((hW.cell (p := ⟨B1, 0, none⟩) hB1).trans hc1) ((hW.cell (p := ⟨B2, 0, none⟩) hB2).trans hc2) h0
end Go.Proofs.YtekaboomhljdoaaGreatDoor.Dk
namespace Go.Proofs.YtekaboomhljdoaaGreatDoor.Dk
open Go.Proofs.YtekaboomhljdoaaGreatDoor.Sh Go.RowKit Go.Lib Go.Maps Go.Shelf
attribute [local go_sem] Oper.semAt_some

/-- the j-th sector of a row of bytes -/
def secN (l : List UInt8) (j : Nat) : List UInt8 := (l.drop (256 * j)).take 256
/-- a row of bytes as sectors -/
def secs (l : List UInt8) (n : Nat) : List (List UInt8) := (List.range n).map (secN l)
theorem secN_len {l : List UInt8} {n j : Nat} (hl : l.length = 256 * n) (hj : j < n) : (secN l j).length = 256 := by
  rw [secN, List.length_take, List.length_drop]; omega
theorem secs_len (l : List UInt8) (n : Nat) : (secs l n).length = n := by simp [secs]
set_option maxRecDepth 100000 in
theorem info66a : (Tryz.prog.info? 70).map (fun i => (i.zero, i.size, i.bytes)) = some (some (secV zeros), 256, 256) := by
  rw [zeroV]
  kernel_rfl
set_option maxRecDepth 100000 in
theorem zero_size : (secV zeros).cells.size = 256 := by
  rw [zeroV]
  rfl
theorem make_map59 (w : World) : (Instr.makeMap 71 none).run Tryz.prog w = .ok (.map (some w.heap.size)) (w.alloc (.map #[] 0)) := by
  simp [Instr.makeMap]
theorem opx_val {F : Fence} {n : Nat} {P : Program} {ops : Array Oper} {o : Oper} {a : Act} {w w' : World} {K : Act → World → Prop} {Q : Exit → Act → World → Prop} {v : Value} (hgd : o.guard = none) (hd : ∀ c, o.op ≠ .defer c) (hab : o.about P w a.eval = none)
    (hrun : (execOp a.eval o).run P w = .ok (.value v) w') (hK : K (a.put o.dst v) w') :
    if Region.wanted o (yielded ops a.tmps) = true then Oper.wpIn F n P o a w K Q else (∀ f, o.about P w a.eval = some f → F.fn f) ∧ K (a.put o.dst undef) w := by
  have hw : Region.wanted o (yielded ops a.tmps) = true := by simp [Region.wanted, hgd]
  rw [if_pos hw]
  refine ⟨fun f hf => (by rw [hab] at hf; cases hf), ?_⟩
  rw [Oper.semAt_plain F _ _ hd, hrun]
  exact hK
theorem opx_skip {F : Fence} {n : Nat} {P : Program} {ops : Array Oper} {o : Oper} {a : Act} {w w' : World} {K : Act → World → Prop} {Q : Exit → Act → World → Prop} (hgd : o.guard = none) (hd : ∀ c, o.op ≠ .defer c) (hab : o.about P w a.eval = none)
    (hrun : (execOp a.eval o).run P w = .ok .skip w') (hK : K (a.put o.dst undef) w') :
    if Region.wanted o (yielded ops a.tmps) = true then Oper.wpIn F n P o a w K Q else (∀ f, o.about P w a.eval = some f → F.fn f) ∧ K (a.put o.dst undef) w := by
  have hw : Region.wanted o (yielded ops a.tmps) = true := by simp [Region.wanted, hgd]
  rw [if_pos hw]
  refine ⟨fun f hf => (by rw [hab] at hf; cases hf), ?_⟩
  rw [Oper.semAt_plain F _ _ hd, hrun]
  exact hK
theorem run_val {P : Program} {s : Sem Value} {v : Value} {w w' : World} (h : s.run P w = .ok v w') : (do pure (.value (← s)) : Sem Next).run P w = .ok (.value v) w' := by simp [h]
theorem run_uni {P : Program} {s : Sem Unit} {w w' : World} (h : s.run P w = .ok () w') : (do s; pure .skip : Sem Next).run P w = .ok .skip w' := by simp [h]
theorem r58 {W : World} {bx : Nat} {v : Value} (h : W.cell? ⟨bx, 0, none⟩ = some v) : (Instr.loadAt 65 (.pointer (some ⟨bx, 0, none⟩))).run Tryz.prog W = .ok v W := by
  go_simp
theorem s58 {W : World} {bx : Nat} {v : Value} {a : Option Addr} {n c : Nat} (h : W.cell? ⟨bx, 0, none⟩ = some v) (hf : W.frozen? ⟨bx, 0, none⟩ = false) : (Instr.storeAt 65 (.pointer (some ⟨bx, 0, none⟩)) (.slice a n c)).run Tryz.prog W = .ok () (W.setCell ⟨bx, 0, none⟩ (.slice a n c)) := by
  go_simp
set_option maxRecDepth 100000 in
theorem b58 (W : World) (s : List UInt8) (hs : s.length = 256) : (Instr.buildSlice 65 1 #[(0, .agg (bs s).toArray)]).run Tryz.prog W = .ok (.slice (some ⟨W.heap.size, 0, none⟩) 1 1) (W.alloc (.cells (bs s).toArray 70)) := by
  obtain ⟨i66, j0, j1, j2, j3⟩ := info_parts info66a
  refine run_buildSlice W 65 70 1 _ _ i66 _ Tryz.underlying65 j0 j1 (by rw [j2]; omega) (by rw [j2]; omega) ?_
  rw [j2]
  have h := Great.fill_whole (s := 256) (by omega) [.agg (bs s).toArray] ((Array.range (1 * 256)).map ((secV zeros).cells[· % (secV zeros).cells.size]!)) (by
    intro v hv
    obtain rfl : v = .agg (bs s).toArray := by simpa using hv
    show (bs s).toArray.size = 256
    rw [List.size_toArray, bs_len, hs]) (by simp)
  have e : (([Value.agg (bs s).toArray].flatMap fun v => v.cells.toList).toArray) = (bs s).toArray := by simp [Value.cells]
  rw [e] at h
  exact h
/-- a row that is full: its block -/
theorem full_blk {W : World} {g N : Nat} {base : Nat} {xs : List Value} (h : W.ownsRow base 70 256 (.slice (some ⟨g, 0, none⟩) N N) N xs) : Blk W g xs 70 := by
  obtain ⟨h1, ⟨h2, _⟩ | ⟨g', cap, cur, e1, e2, e3, e4, e5, e6, e7⟩⟩ := h
  · cases h2
  · simp only [Value.slice.injEq, Option.some.injEq, Addr.mk.injEq, and_true, true_and] at e1
    obtain ⟨rfl, rfl⟩ := e1
    rw [List.take_of_length_le (by rw [Array.length_toList, e6]; exact Nat.le_refl _)] at e7
    unfold Blk
    rw [e3, ← e7]
theorem secs_up (l : List UInt8) (N : Nat) : (up N N).map (fun x => secN l x.1) = secs l N := by
  have h := congrArg (List.map (secN l)) (up_map N N (Nat.le_refl _))
  rw [List.map_map] at h
  exact h
theorem blk_put {W : World} {g D : Nat} {cs : List Value} {t : TypeId} (h : Blk W g cs t) (o : Obj) (hne : g ≠ D) : Blk (W.putObj D o) g cs t := (World.putObj_heap_other hne).trans h
set_option maxHeartbeats 1000000 in
set_option maxRecDepth 100000 in
theorem load_ok (b o c N M : Nat) (l : List UInt8) (low : Nat) (w : World) (h : Byt w (some ⟨b, o, none⟩) l) (hl : l.length = M) (hM : M = 256 * N) (h1 : 1 ≤ N) (h2 : N ≤ 4096) (h3 : low ≤ N) (hc : M ≤ c) (_hcc : c ≤ 9223372036854775807) :
    Calls Tryz.prog 11 #[.slice (some ⟨b, o, none⟩) M c, .int .i64 (low : Int)] w fun e w' => Below w.heap.size w w' ∧ ∃ g sa mb, e = .returned (.tuple #[.pointer (some ⟨g, 0, none⟩), .int .i64 0]) ∧ w.heap.size ≤ g ∧ w.heap.size ≤ sa ∧ w.heap.size ≤ mb ∧ DevS w' g sa mb (secs l N) low 0 (.map []) true (-1) 0 := by
  have e1 : ((M : Int) % 256 != 0) = false := by simp; omega
  have e2 : (((M : Int).tmod 256) != 0) = false := by rw [Int.tmod_eq_emod_of_nonneg (by omega)]; exact e1
  have e3 : (M : Int) / 256 = (N : Int) := by omega
  have e4 : (M : Int).tdiv 256 = (N : Int) := by rw [Int.tdiv_eq_ediv_of_nonneg (by omega)]; exact e3
  have q0 : (0 : Int) ≤ (N : Int) := by omega
  have q1 : (N : Int) ≤ 4096 := by omega
  have wq : wrap64 (N : Int) = (N : Int) := IntWalk.wrap64_in _ ⟨by omega, by omega⟩
  have t2 : decide ((N : Int) < 1) = false := by simp; omega
  have t3 : decide ((4096 : Int) < (N : Int)) = false := by simp; omega
  have t4 : decide ((low : Int) < 0) = false := by simp
  have t5 : decide ((N : Int) < (low : Int)) = false := by simp; omega
  obtain ⟨i66, j0, j1, j2, j3⟩ := info_parts info66a
  have HB := Lib.hid h
  have HL := Lib.hid hl
  have HM := Lib.hid hM
  have HC := Lib.hid (fun w => chunk_40 (w := w) (some ⟨b, o, none⟩) M c)
  clear h hl hM
  refine (callsIn_wide (n := 6)).1 ?_
  refine callsIn_of_wp_marks Tryz.func11 rfl trivial ?_ rfl
  simp only [Tryz.ntmps11, List.size_toArray, List.length_cons, List.length_nil, Nat.reduceAdd, Nat.reduceSub, Array.replicate_succ, Array.replicate_zero, List.push_toArray, List.append_toArray, List.nil_append, List.cons_append]
  gi_wp2_with (first
    | (gi_at_make; refine wpListIn_make_own w rfl _ _ 65 rfl w.heap.size 70 i66 (secV zeros) 256 Tryz.underlying65 j0 j1 j2 .i64 .i64 _ N rfl rfl rfl (by rw [j3]; omega) (by unfold maxLen; omega) (Nat.le_refl _) ?_; intro w2 how hg2; have HO2 := Lib.hid how; have HG2 := Lib.hid hg2; clear how hg2)
    | (refine ⟨trivial, ?_⟩; gi_at_call 29; refine (callsIn_wide.2 (HC.out _)).mono ?_; rintro e w' ⟨rfl, rfl⟩))
  have hzB := HG2.out.size
  have B1 : Below w.heap.size w w2 := (Below.refl w.heap.size w).grown HG2.out (Nat.le_refl _) (by simp)
  have hlt2 := (HO2.out.lt w.heap.size rfl).2
  obtain ⟨bx, hbx⟩ : ∃ bx, w2.heap.size = bx := ⟨_, rfl⟩
  have BX := Boxed.new w2 65 (.slice (some ⟨w.heap.size, 0, none⟩) 0 N)
  rw [hbx] at BX
  have sz1 : (w2.alloc (.cells #[.slice (some ⟨w.heap.size, 0, none⟩) 0 N] 65)).heap.size = bx + 1 := by rw [World.size_alloc, hbx]
  have CB1 := (Boxed.new (w2.alloc (.cells #[.slice (some ⟨w.heap.size, 0, none⟩) 0 N] 65)) 24 (.slice (some ⟨b, o, none⟩) M c))
  rw [sz1] at CB1
  have sz2 : ((w2.alloc (.cells #[.slice (some ⟨w.heap.size, 0, none⟩) 0 N] 65)).alloc (.cells #[.slice (some ⟨b, o, none⟩) M c] 24)).heap.size = bx + 1 + 1 := by rw [World.size_alloc, sz1]
  have CB2 := (Boxed.new ((w2.alloc (.cells #[.slice (some ⟨w.heap.size, 0, none⟩) 0 N] 65)).alloc (.cells #[.slice (some ⟨b, o, none⟩) M c] 24)) 3 (.int .i64 256))
  rw [sz2] at CB2
  have sz3 : (((w2.alloc (.cells #[.slice (some ⟨w.heap.size, 0, none⟩) 0 N] 65)).alloc (.cells #[.slice (some ⟨b, o, none⟩) M c] 24)).alloc (.cells #[.int .i64 256] 3)).heap.size = bx + 3 := by rw [World.size_alloc, sz2]
  have BX3 := (BX.alloc (.cells #[.slice (some ⟨b, o, none⟩) M c] 24)).alloc (.cells #[.int .i64 256] 3)
  have CB13 := CB1.alloc (.cells #[.int .i64 256] 3)
  have RW3 := ((HO2.out.alloc (.cells #[.slice (some ⟨w.heap.size, 0, none⟩) 0 N] 65)).alloc (.cells #[.slice (some ⟨b, o, none⟩) M c] 24)).alloc (.cells #[.int .i64 256] 3)
  have BL3 := ((B1.alloc B1.size (.cells #[.slice (some ⟨w.heap.size, 0, none⟩) 0 N] 65)).alloc (by rw [sz1]; omega) (.cells #[.slice (some ⟨b, o, none⟩) M c] 24)).alloc (by rw [sz2]; omega) (.cells #[.int .i64 256] 3)
  rw [hbx]
  generalize (((w2.alloc (.cells #[.slice (some ⟨w.heap.size, 0, none⟩) 0 N] 65)).alloc (.cells #[.slice (some ⟨b, o, none⟩) M c] 24)).alloc (.cells #[.int .i64 256] 3)) = WL at *
  clear BX CB1 sz1 sz2 HG2 HO2 B1
  refine wpIn_rangeFunc_ownF (n := 6) rfl (by omega) (gf := 54) (lb := #[.pointer (some ⟨bx + 1, 0, none⟩), .pointer (some ⟨bx + 1 + 1, 0, none⟩)]) rfl trivial (enters_of Tryz.func54 (by kernel_rfl) rfl)
    (chunk_stops 5 (by omega) (bx + 1) (bx + 1 + 1) b o c N M HM.out h2 hc WL (by omega) (by omega) CB13.cell CB2.cell) kb_t (kb_b (by omega) (by omega)) (Below.refl _ _) (fun _ => rfl)
    (fun (pre : List { j : Nat // j < N }) W => (∃ v, Boxed W bx 65 v ∧ W.ownsRow w.heap.size 70 256 v pre.length ((pre.map fun (x : { j : Nat // j < N }) => secN l x.1).flatMap bs) ∧ v = .slice (some ⟨w.heap.size, 0, none⟩) pre.length N) ∧ Below w.heap.size w W)
    (fun _ _ _ => False)
    (OwnFrom.and (Own.from (holdsRow_own w.heap.size bx 65 70 256 (fun (pre : List { j : Nat // j < N }) => pre.length) (fun pre => (pre.map fun (x : { j : Nat // j < N }) => secN l x.1).flatMap bs) (fun pre v => v = .slice (some ⟨w.heap.size, 0, none⟩) pre.length N)) _) (ownFrom_below (Nat.le_refl _) (by omega)))
    (fun _ _ _ _ _ hs _ _ => hs)
    ⟨⟨_, BX3, by simpa using RW3, rfl⟩, BL3⟩
    (fun (x : { j : Nat // j < N }) => { tmps := #[.slice (some ⟨b, o, none⟩) M c, .int .i64 (low : Int), undef, undef, .pointer none,
          .int .i64 0, .int .i64 N, .pointer (some ⟨bx, 0, none⟩),
          .slice (some ⟨b, o + 256 * x.1, none⟩) 256 256, .slice (some ⟨b, o, none⟩) M c, .int .i64 M, .int .i64 N,
          .slice (some ⟨b, o, none⟩) M c, .int .i64 M, .int .i64 ((M : Int) % 256),
          .bool false, .bool false, .int .i64 N, .bool false, .bool false,
          .bool false, .int .i64 N, .bool false, .bool false, .bool false,
          .int .i64 (low : Int), .bool false, .bool false, .bool false, .int .i64 (low : Int),
          .int .i64 N, .bool false, .bool false, .int .i64 N,
          .slice (some ⟨w.heap.size, 0, none⟩) 0 N, .slice (some ⟨b, o, none⟩) M c,
          .func (.func 54) #[] #[.pointer (some ⟨bx + 1, 0, none⟩), .pointer (some ⟨bx + 1 + 1, 0, none⟩)],
          .slice (some ⟨b, o + 256 * x.1, none⟩) 256 256, undef, undef, undef, undef, undef, undef, undef, undef, undef, undef, undef], defers := [] }) ?assign ?body ?done ?stop
  case assign =>
    intro l x W K hK
    gi_wp2
    exact hK
  case stop =>
    rintro D c pre W _ _ h _
    exact h.elim
  case body =>
    rintro l0 pre x W ⟨⟨v, hv, hrow, rfl⟩, hB⟩ hlt
    have hxN := x.2
    obtain ⟨s, hse⟩ : ∃ s, s = secN l x.1 := ⟨_, rfl⟩
    have hs : s.length = 256 := by rw [hse]; exact secN_len (HL.out.trans HM.out) hxN
    have hb0 : Hid (W.drew.cell? ⟨bx, 0, none⟩ = some (.slice (some ⟨w.heap.size, 0, none⟩) pre.length N)) := hv.cell
    have hvd : Boxed W.drew bx 65 (.slice (some ⟨w.heap.size, 0, none⟩) pre.length N) := hv
    have hb1 : Hid ((W.drew.alloc (.cells (bs s).toArray 70)).cell? ⟨bx, 0, none⟩ = some (.slice (some ⟨w.heap.size, 0, none⟩) pre.length N)) := (hvd.alloc _).cell
    have hat : Hid (∀ w, (Instr.arrayAt 70 (.slice (some ⟨b, o + 256 * x.1, none⟩) 256 256)).run Tryz.prog w = .ok (.pointer (some ⟨b, o + 256 * x.1, none⟩)) w) := fun w => by
      simp [Instr.arrayAt, run_underlying Tryz.underlying70]
    have hBl := HB.out.below hB
    have hrg : W.drew.rangeAt b (o + 256 * x.1) (bs s) := fun j y hj => by
      have hj2 : j < 256 := by have := (List.getElem?_eq_some_iff.1 hj).1; rw [bs_len, hs] at this; exact this
      obtain ⟨b', o', e, _, hcell⟩ := hBl (by intro h0; have := HL.out; have := HM.out; rw [h0] at *; simp at *; omega)
      injection e with e
      injection e with e1 e2
      subst e1
      subst e2
      have hin : 256 * x.1 + j < l.length := by have := HL.out; have := HM.out; omega
      have h1 := hcell (256 * x.1 + j) hin
      rw [← Nat.add_assoc] at h1
      refine h1.trans ?_
      rw [bs_get s j (by omega)] at hj
      injection hj with hj
      rw [← hj]
      have e9 : s[j]'(by omega) = l[256 * x.1 + j] := by
        have : s[j]? = l[256 * x.1 + j]? := by rw [hse, secN, List.getElem?_take_of_lt hj2, List.getElem?_drop]
        rw [List.getElem?_eq_getElem (by omega), List.getElem?_eq_getElem hin] at this
        injection this
      rw [e9]
    have HIL : (Tryz.prog.info? 70).map (·.size) = some (bs s).length := by rw [info70, bs_len, hs]
    have h41 : Hid ((Instr.loadAt 70 (.pointer (some ⟨b, o + 256 * x.1, none⟩))).run Tryz.prog W.drew = .ok (.agg (bs s).toArray) W.drew) := run_loadAt_mid W.drew b (o + 256 * x.1) 70 (bs s) _ hrg Tryz.underlying70 rfl HIL
    have h42 : Hid ((Instr.buildSlice 65 1 #[(0, .agg (bs s).toArray)]).run Tryz.prog W.drew = .ok (.slice (some ⟨W.drew.heap.size, 0, none⟩) 1 1) (W.drew.alloc (.cells (bs s).toArray 70))) := b58 W.drew s hs
    have hrowd : (W.drew.alloc (.cells (bs s).toArray 70)).ownsRow w.heap.size 70 256 (.slice (some ⟨w.heap.size, 0, none⟩) pre.length N) pre.length ((pre.map fun (x : { j : Nat // j < N }) => secN l x.1).flatMap bs) := World.ownsRow.alloc (w := W.drew) hrow _
    obtain ⟨w3, hrun5, hown3, hgrow3⟩ := run_append_fits (W.drew.alloc (.cells (bs s).toArray 70)) w.heap.size 65 65 70 i66 256 Tryz.underlying65 j0 j2 w.heap.size pre.length N _ hrowd ⟨W.drew.heap.size, 0, none⟩ 1 1 (bs s) (by rw [bs_len, hs])
      (fun j u hj => by rw [WideShapes.add_plain, Nat.zero_add, (Blk.new W.drew (bs s) 70 W.drew.heap.size rfl).cell]; exact hj) (bs_one s) (by omega)
    obtain ⟨hv1, hv2, hr2, hk2, hb2⟩ := Boxed.appended hvd (by decide) (show W.drew.ownsRow w.heap.size 70 256 (.slice (some ⟨w.heap.size, 0, none⟩) pre.length N) pre.length _ from hrow) (by have := hB.size; exact this) (by omega) hown3 hgrow3
    have hrun6 := s58 (a := some ⟨w.heap.size, 0, none⟩) (n := pre.length + 1) (c := N) hv1.cell hv1.frozen
    have hkb : KB (bx + 1) (bx + 1 + 1) W (w3.setCell ⟨bx, 0, none⟩ (.slice (some ⟨w.heap.size, 0, none⟩) (pre.length + 1) N)) := by
      have hone : ∀ q v, bx < q → W.cell? ⟨q, 0, none⟩ = some v → (w3.setCell ⟨bx, 0, none⟩ (.slice (some ⟨w.heap.size, 0, none⟩) (pre.length + 1) N)).cell? ⟨q, 0, none⟩ = some v := fun q v hq h1 => by
        obtain ⟨ob, ho, _⟩ := cells_of_cell h1
        have hql : q < W.heap.size := (Array.getElem?_eq_some_iff.1 ho).1
        refine (World.cell?_of_block (a := ⟨q, 0, none⟩) ?_).trans h1
        refine (Below.heap_setCell _ _ _ q (show q ≠ bx by omega)).trans ?_
        refine (hgrow3.block q (by simp; omega) (fun e => by injection e with e; omega)).trans ?_
        exact Below.heap_alloc W.drew _ q hql
      exact ⟨fun v h => hone _ v (by omega) h, fun v h => hone _ v (by omega) h⟩
    have fin : KeepsOthers W (w3.setCell ⟨bx, 0, none⟩ (.slice (some ⟨w.heap.size, 0, none⟩) (pre.length + 1) N)) ∧ KB (bx + 1) (bx + 1 + 1) W (w3.setCell ⟨bx, 0, none⟩ (.slice (some ⟨w.heap.size, 0, none⟩) (pre.length + 1) N)) ∧ (∃ v, Boxed (w3.setCell ⟨bx, 0, none⟩ (.slice (some ⟨w.heap.size, 0, none⟩) (pre.length + 1) N)) bx 65 v ∧ (w3.setCell ⟨bx, 0, none⟩ (.slice (some ⟨w.heap.size, 0, none⟩) (pre.length + 1) N)).ownsRow w.heap.size 70 256 v (pre ++ [x]).length (((pre ++ [x]).map fun (x : { j : Nat // j < N }) => secN l x.1).flatMap bs) ∧ v = .slice (some ⟨w.heap.size, 0, none⟩) (pre ++ [x]).length N) ∧ Below w.heap.size w (w3.setCell ⟨bx, 0, none⟩ (.slice (some ⟨w.heap.size, 0, none⟩) (pre.length + 1) N)) := by
      refine ⟨(KeepsOthers.drew W).trans hk2, hkb, ⟨_, hv2, ?_, by simp⟩, (hB.drew).trans hb2⟩
      rw [List.map_append, List.flatMap_append, List.length_append]
      simpa [hse] using hr2
    have hrun5b : (Builtin.append_ #[65, 65] 65 #[.slice (some ⟨w.heap.size, 0, none⟩) pre.length N, .slice (some ⟨W.heap.size, 0, none⟩) 1 1]).run Tryz.prog (W.drew.alloc (.cells (bs s).toArray 70)) = .ok (.slice (some ⟨w.heap.size, 0, none⟩) (pre.length + 1) N) w3 := hrun5
    clear hkb hv1 hv2 hr2 hk2 hb2 hown3 hgrow3 hrowd hrg hBl hv hvd hrow hB
    gi_wp2
    refine wpIn_region_any (by kernel_rfl) ?_
    change wpAnyIn _ _ _ _ _ _ _ _ _ W.drew
    refine wpAnyIn_ready (rs := [0, 1]) (by kernel_rfl) (by simp) ?_
    refine AllReadyIn.cons (o := { dst := some 38, op := Op.load 65 (Operand.tmp 7), type := 65, pos := "disk.go:50", after := #[], guard := none }) rfl (fun K hK => ?_) ?_
    · skip
      refine opx_val (v := .slice (some ⟨w.heap.size, 0, none⟩) pre.length N) (w' := W.drew) rfl (fun c h => by cases h) rfl (by simp only [execOp]; exact run_val (r58 hb0.out)) (hK _ _ ?_)
      clear hK K
      simp only [Act.put, List.setIfInBounds_toArray, List.set_cons_zero, List.set_cons_succ]
      refine wpAnyIn_ready (rs := [1]) (by kernel_rfl) (by simp) ?_
      refine AllReadyIn.cons (o := { dst := some 39, op := Op.move (Operand.tmp 8), type := 24, pos := "disk.go:50", after := #[], guard := none }) rfl (fun K hK => ?_) AllReadyIn.nil
      refine opx_val (v := .slice (some ⟨b, o + 256 * x.1, none⟩) 256 256) (w' := W.drew) rfl (fun c h => by cases h) rfl (by simp only [execOp]; rfl) (hK _ _ ?_)
      clear hK K
      simp only [Act.put, List.setIfInBounds_toArray, List.set_cons_zero, List.set_cons_succ]
      refine wpAnyIn_ready (rs := [2]) (by kernel_rfl) (by simp) ?_
      refine AllReadyIn.cons (o := { dst := some 40, op := Op.sliceToArrayPointer 70 (Operand.tmp 39), type := 0, pos := "disk.go:50", after := #[{ on := 1, ground := Ground.data }], guard := none }) rfl (fun K hK => ?_) AllReadyIn.nil
      refine opx_val (v := .pointer (some ⟨b, o + 256 * x.1, none⟩)) (w' := W.drew) rfl (fun c h => by cases h) rfl (by simp only [execOp]; exact run_val (hat.out W.drew)) (hK _ _ ?_)
      clear hK K
      simp only [Act.put, List.setIfInBounds_toArray, List.set_cons_zero, List.set_cons_succ]
      refine wpAnyIn_ready (rs := [3]) (by kernel_rfl) (by simp) ?_
      refine AllReadyIn.cons (o := { dst := some 41, op := Op.load 70 (Operand.tmp 40), type := 70, pos := "disk.go:50", after := #[{ on := 2, ground := Ground.data }], guard := none }) rfl (fun K hK => ?_) AllReadyIn.nil
      refine opx_val (v := .agg (bs s).toArray) (w' := W.drew) rfl (fun c h => by cases h) rfl (by simp only [execOp]; exact run_val h41.out) (hK _ _ ?_)
      clear hK K
      simp only [Act.put, List.setIfInBounds_toArray, List.set_cons_zero, List.set_cons_succ]
      refine wpAnyIn_ready (rs := [4]) (by kernel_rfl) (by simp) ?_
      refine AllReadyIn.cons (o := { dst := some 42, op := Op.buildSlice 65 1 #[(0, Operand.tmp 41)], type := 65, pos := "disk.go:50", after := #[{ on := 3, ground := Ground.data }], guard := none }) rfl (fun K hK => ?_) AllReadyIn.nil
      refine opx_val (v := .slice (some ⟨W.drew.heap.size, 0, none⟩) 1 1) (w' := W.drew.alloc (.cells (bs s).toArray 70)) rfl (fun c h => by cases h) rfl (by simp only [execOp, List.map_toArray, List.map_cons, List.map_nil]; exact run_val h42.out) (hK _ _ ?_)
      clear hK K
      simp only [Act.put, List.setIfInBounds_toArray, List.set_cons_zero, List.set_cons_succ]
      refine wpAnyIn_ready (rs := [5]) (by kernel_rfl) (by simp) ?_
      refine AllReadyIn.cons (o := { dst := some 43, op := Op.call { callee := Callee.builtin Builtin.append, args := #[Operand.tmp 38, Operand.tmp 42], argTypes := #[65, 65] }, type := 65, pos := "disk.go:50", after := #[{ on := 0, ground := Ground.data }, { on := 4, ground := Ground.data }], guard := none }) rfl (fun K hK => ?_) AllReadyIn.nil
      refine opx_val (v := .slice (some ⟨w.heap.size, 0, none⟩) (pre.length + 1) N) (w' := w3) rfl (fun c h => by cases h) (by simp [Oper.about, resolve, Target.leads, Sem.run_pure]) (by simp [execOp, resolve, invoke, builtin, Act.eval, hrun5b, Result.andThen]) (hK _ _ ?_)
      clear hK K
      simp only [Act.put, List.setIfInBounds_toArray, List.set_cons_zero, List.set_cons_succ]
      refine wpAnyIn_ready (rs := [6]) (by kernel_rfl) (by simp) ?_
      refine AllReadyIn.cons (o := { dst := none, op := Op.store 65 (Operand.tmp 7) (Operand.tmp 43), type := 0, pos := "disk.go:50", after := #[{ on := 5, ground := Ground.data }, { on := 5, ground := Ground.chain }, { on := 0, ground := Ground.phase }, { on := 1, ground := Ground.phase }, { on := 2, ground := Ground.phase }, { on := 3, ground := Ground.phase }, { on := 4, ground := Ground.phase }, { on := 5, ground := Ground.phase }], guard := none }) rfl (fun K hK => ?_) AllReadyIn.nil
      refine opx_skip (w' := w3.setCell ⟨bx, 0, none⟩ (.slice (some ⟨w.heap.size, 0, none⟩) (pre.length + 1) N)) rfl (fun c h => by cases h) rfl (by simp only [execOp]; exact run_uni hrun6) (hK _ _ ?_)
      clear hK K
      refine wpAnyIn_done (by kernel_rfl) ?_ _
      exact fin
    refine AllReadyIn.cons (o := { dst := some 39, op := Op.move (Operand.tmp 8), type := 24, pos := "disk.go:50", after := #[], guard := none }) rfl (fun K hK => ?_) AllReadyIn.nil
    refine opx_val (v := .slice (some ⟨b, o + 256 * x.1, none⟩) 256 256) (w' := W.drew) rfl (fun c h => by cases h) rfl (by simp only [execOp]; rfl) (hK _ _ ?_)
    clear hK K
    simp only [Act.put, List.setIfInBounds_toArray, List.set_cons_zero, List.set_cons_succ]
    refine wpAnyIn_ready (rs := [0, 2]) (by kernel_rfl) (by simp) ?_
    refine AllReadyIn.cons (o := { dst := some 38, op := Op.load 65 (Operand.tmp 7), type := 65, pos := "disk.go:50", after := #[], guard := none }) rfl (fun K hK => ?_) ?_
    · skip
      refine opx_val (v := .slice (some ⟨w.heap.size, 0, none⟩) pre.length N) (w' := W.drew) rfl (fun c h => by cases h) rfl (by simp only [execOp]; exact run_val (r58 hb0.out)) (hK _ _ ?_)
      clear hK K
      simp only [Act.put, List.setIfInBounds_toArray, List.set_cons_zero, List.set_cons_succ]
      refine wpAnyIn_ready (rs := [2]) (by kernel_rfl) (by simp) ?_
      refine AllReadyIn.cons (o := { dst := some 40, op := Op.sliceToArrayPointer 70 (Operand.tmp 39), type := 0, pos := "disk.go:50", after := #[{ on := 1, ground := Ground.data }], guard := none }) rfl (fun K hK => ?_) AllReadyIn.nil
      refine opx_val (v := .pointer (some ⟨b, o + 256 * x.1, none⟩)) (w' := W.drew) rfl (fun c h => by cases h) rfl (by simp only [execOp]; exact run_val (hat.out W.drew)) (hK _ _ ?_)
      clear hK K
      simp only [Act.put, List.setIfInBounds_toArray, List.set_cons_zero, List.set_cons_succ]
      refine wpAnyIn_ready (rs := [3]) (by kernel_rfl) (by simp) ?_
      refine AllReadyIn.cons (o := { dst := some 41, op := Op.load 70 (Operand.tmp 40), type := 70, pos := "disk.go:50", after := #[{ on := 2, ground := Ground.data }], guard := none }) rfl (fun K hK => ?_) AllReadyIn.nil
      refine opx_val (v := .agg (bs s).toArray) (w' := W.drew) rfl (fun c h => by cases h) rfl (by simp only [execOp]; exact run_val h41.out) (hK _ _ ?_)
      clear hK K
      simp only [Act.put, List.setIfInBounds_toArray, List.set_cons_zero, List.set_cons_succ]
      refine wpAnyIn_ready (rs := [4]) (by kernel_rfl) (by simp) ?_
      refine AllReadyIn.cons (o := { dst := some 42, op := Op.buildSlice 65 1 #[(0, Operand.tmp 41)], type := 65, pos := "disk.go:50", after := #[{ on := 3, ground := Ground.data }], guard := none }) rfl (fun K hK => ?_) AllReadyIn.nil
      refine opx_val (v := .slice (some ⟨W.drew.heap.size, 0, none⟩) 1 1) (w' := W.drew.alloc (.cells (bs s).toArray 70)) rfl (fun c h => by cases h) rfl (by simp only [execOp, List.map_toArray, List.map_cons, List.map_nil]; exact run_val h42.out) (hK _ _ ?_)
      clear hK K
      simp only [Act.put, List.setIfInBounds_toArray, List.set_cons_zero, List.set_cons_succ]
      refine wpAnyIn_ready (rs := [5]) (by kernel_rfl) (by simp) ?_
      refine AllReadyIn.cons (o := { dst := some 43, op := Op.call { callee := Callee.builtin Builtin.append, args := #[Operand.tmp 38, Operand.tmp 42], argTypes := #[65, 65] }, type := 65, pos := "disk.go:50", after := #[{ on := 0, ground := Ground.data }, { on := 4, ground := Ground.data }], guard := none }) rfl (fun K hK => ?_) AllReadyIn.nil
      refine opx_val (v := .slice (some ⟨w.heap.size, 0, none⟩) (pre.length + 1) N) (w' := w3) rfl (fun c h => by cases h) (by simp [Oper.about, resolve, Target.leads, Sem.run_pure]) (by simp [execOp, resolve, invoke, builtin, Act.eval, hrun5b, Result.andThen]) (hK _ _ ?_)
      clear hK K
      simp only [Act.put, List.setIfInBounds_toArray, List.set_cons_zero, List.set_cons_succ]
      refine wpAnyIn_ready (rs := [6]) (by kernel_rfl) (by simp) ?_
      refine AllReadyIn.cons (o := { dst := none, op := Op.store 65 (Operand.tmp 7) (Operand.tmp 43), type := 0, pos := "disk.go:50", after := #[{ on := 5, ground := Ground.data }, { on := 5, ground := Ground.chain }, { on := 0, ground := Ground.phase }, { on := 1, ground := Ground.phase }, { on := 2, ground := Ground.phase }, { on := 3, ground := Ground.phase }, { on := 4, ground := Ground.phase }, { on := 5, ground := Ground.phase }], guard := none }) rfl (fun K hK => ?_) AllReadyIn.nil
      refine opx_skip (w' := w3.setCell ⟨bx, 0, none⟩ (.slice (some ⟨w.heap.size, 0, none⟩) (pre.length + 1) N)) rfl (fun c h => by cases h) rfl (by simp only [execOp]; exact run_uni hrun6) (hK _ _ ?_)
      clear hK K
      refine wpAnyIn_done (by kernel_rfl) ?_ _
      exact fin
    refine AllReadyIn.cons (o := { dst := some 40, op := Op.sliceToArrayPointer 70 (Operand.tmp 39), type := 0, pos := "disk.go:50", after := #[{ on := 1, ground := Ground.data }], guard := none }) rfl (fun K hK => ?_) AllReadyIn.nil
    refine opx_val (v := .pointer (some ⟨b, o + 256 * x.1, none⟩)) (w' := W.drew) rfl (fun c h => by cases h) rfl (by simp only [execOp]; exact run_val (hat.out W.drew)) (hK _ _ ?_)
    clear hK K
    simp only [Act.put, List.setIfInBounds_toArray, List.set_cons_zero, List.set_cons_succ]
    refine wpAnyIn_ready (rs := [0, 3]) (by kernel_rfl) (by simp) ?_
    refine AllReadyIn.cons (o := { dst := some 38, op := Op.load 65 (Operand.tmp 7), type := 65, pos := "disk.go:50", after := #[], guard := none }) rfl (fun K hK => ?_) ?_
    · skip
      refine opx_val (v := .slice (some ⟨w.heap.size, 0, none⟩) pre.length N) (w' := W.drew) rfl (fun c h => by cases h) rfl (by simp only [execOp]; exact run_val (r58 hb0.out)) (hK _ _ ?_)
      clear hK K
      simp only [Act.put, List.setIfInBounds_toArray, List.set_cons_zero, List.set_cons_succ]
      refine wpAnyIn_ready (rs := [3]) (by kernel_rfl) (by simp) ?_
      refine AllReadyIn.cons (o := { dst := some 41, op := Op.load 70 (Operand.tmp 40), type := 70, pos := "disk.go:50", after := #[{ on := 2, ground := Ground.data }], guard := none }) rfl (fun K hK => ?_) AllReadyIn.nil
      refine opx_val (v := .agg (bs s).toArray) (w' := W.drew) rfl (fun c h => by cases h) rfl (by simp only [execOp]; exact run_val h41.out) (hK _ _ ?_)
      clear hK K
      simp only [Act.put, List.setIfInBounds_toArray, List.set_cons_zero, List.set_cons_succ]
      refine wpAnyIn_ready (rs := [4]) (by kernel_rfl) (by simp) ?_
      refine AllReadyIn.cons (o := { dst := some 42, op := Op.buildSlice 65 1 #[(0, Operand.tmp 41)], type := 65, pos := "disk.go:50", after := #[{ on := 3, ground := Ground.data }], guard := none }) rfl (fun K hK => ?_) AllReadyIn.nil
      refine opx_val (v := .slice (some ⟨W.drew.heap.size, 0, none⟩) 1 1) (w' := W.drew.alloc (.cells (bs s).toArray 70)) rfl (fun c h => by cases h) rfl (by simp only [execOp, List.map_toArray, List.map_cons, List.map_nil]; exact run_val h42.out) (hK _ _ ?_)
      clear hK K
      simp only [Act.put, List.setIfInBounds_toArray, List.set_cons_zero, List.set_cons_succ]
      refine wpAnyIn_ready (rs := [5]) (by kernel_rfl) (by simp) ?_
      refine AllReadyIn.cons (o := { dst := some 43, op := Op.call { callee := Callee.builtin Builtin.append, args := #[Operand.tmp 38, Operand.tmp 42], argTypes := #[65, 65] }, type := 65, pos := "disk.go:50", after := #[{ on := 0, ground := Ground.data }, { on := 4, ground := Ground.data }], guard := none }) rfl (fun K hK => ?_) AllReadyIn.nil
      refine opx_val (v := .slice (some ⟨w.heap.size, 0, none⟩) (pre.length + 1) N) (w' := w3) rfl (fun c h => by cases h) (by simp [Oper.about, resolve, Target.leads, Sem.run_pure]) (by simp [execOp, resolve, invoke, builtin, Act.eval, hrun5b, Result.andThen]) (hK _ _ ?_)
      clear hK K
      simp only [Act.put, List.setIfInBounds_toArray, List.set_cons_zero, List.set_cons_succ]
      refine wpAnyIn_ready (rs := [6]) (by kernel_rfl) (by simp) ?_
      refine AllReadyIn.cons (o := { dst := none, op := Op.store 65 (Operand.tmp 7) (Operand.tmp 43), type := 0, pos := "disk.go:50", after := #[{ on := 5, ground := Ground.data }, { on := 5, ground := Ground.chain }, { on := 0, ground := Ground.phase }, { on := 1, ground := Ground.phase }, { on := 2, ground := Ground.phase }, { on := 3, ground := Ground.phase }, { on := 4, ground := Ground.phase }, { on := 5, ground := Ground.phase }], guard := none }) rfl (fun K hK => ?_) AllReadyIn.nil
      refine opx_skip (w' := w3.setCell ⟨bx, 0, none⟩ (.slice (some ⟨w.heap.size, 0, none⟩) (pre.length + 1) N)) rfl (fun c h => by cases h) rfl (by simp only [execOp]; exact run_uni hrun6) (hK _ _ ?_)
      clear hK K
      refine wpAnyIn_done (by kernel_rfl) ?_ _
      exact fin
    refine AllReadyIn.cons (o := { dst := some 41, op := Op.load 70 (Operand.tmp 40), type := 70, pos := "disk.go:50", after := #[{ on := 2, ground := Ground.data }], guard := none }) rfl (fun K hK => ?_) AllReadyIn.nil
    refine opx_val (v := .agg (bs s).toArray) (w' := W.drew) rfl (fun c h => by cases h) rfl (by simp only [execOp]; exact run_val h41.out) (hK _ _ ?_)
    clear hK K
    simp only [Act.put, List.setIfInBounds_toArray, List.set_cons_zero, List.set_cons_succ]
    refine wpAnyIn_ready (rs := [0, 4]) (by kernel_rfl) (by simp) ?_
    refine AllReadyIn.cons (o := { dst := some 38, op := Op.load 65 (Operand.tmp 7), type := 65, pos := "disk.go:50", after := #[], guard := none }) rfl (fun K hK => ?_) ?_
    · skip
      refine opx_val (v := .slice (some ⟨w.heap.size, 0, none⟩) pre.length N) (w' := W.drew) rfl (fun c h => by cases h) rfl (by simp only [execOp]; exact run_val (r58 hb0.out)) (hK _ _ ?_)
      clear hK K
      simp only [Act.put, List.setIfInBounds_toArray, List.set_cons_zero, List.set_cons_succ]
      refine wpAnyIn_ready (rs := [4]) (by kernel_rfl) (by simp) ?_
      refine AllReadyIn.cons (o := { dst := some 42, op := Op.buildSlice 65 1 #[(0, Operand.tmp 41)], type := 65, pos := "disk.go:50", after := #[{ on := 3, ground := Ground.data }], guard := none }) rfl (fun K hK => ?_) AllReadyIn.nil
      refine opx_val (v := .slice (some ⟨W.drew.heap.size, 0, none⟩) 1 1) (w' := W.drew.alloc (.cells (bs s).toArray 70)) rfl (fun c h => by cases h) rfl (by simp only [execOp, List.map_toArray, List.map_cons, List.map_nil]; exact run_val h42.out) (hK _ _ ?_)
      clear hK K
      simp only [Act.put, List.setIfInBounds_toArray, List.set_cons_zero, List.set_cons_succ]
      refine wpAnyIn_ready (rs := [5]) (by kernel_rfl) (by simp) ?_
      refine AllReadyIn.cons (o := { dst := some 43, op := Op.call { callee := Callee.builtin Builtin.append, args := #[Operand.tmp 38, Operand.tmp 42], argTypes := #[65, 65] }, type := 65, pos := "disk.go:50", after := #[{ on := 0, ground := Ground.data }, { on := 4, ground := Ground.data }], guard := none }) rfl (fun K hK => ?_) AllReadyIn.nil
      refine opx_val (v := .slice (some ⟨w.heap.size, 0, none⟩) (pre.length + 1) N) (w' := w3) rfl (fun c h => by cases h) (by simp [Oper.about, resolve, Target.leads, Sem.run_pure]) (by simp [execOp, resolve, invoke, builtin, Act.eval, hrun5b, Result.andThen]) (hK _ _ ?_)
      clear hK K
      simp only [Act.put, List.setIfInBounds_toArray, List.set_cons_zero, List.set_cons_succ]
      refine wpAnyIn_ready (rs := [6]) (by kernel_rfl) (by simp) ?_
      refine AllReadyIn.cons (o := { dst := none, op := Op.store 65 (Operand.tmp 7) (Operand.tmp 43), type := 0, pos := "disk.go:50", after := #[{ on := 5, ground := Ground.data }, { on := 5, ground := Ground.chain }, { on := 0, ground := Ground.phase }, { on := 1, ground := Ground.phase }, { on := 2, ground := Ground.phase }, { on := 3, ground := Ground.phase }, { on := 4, ground := Ground.phase }, { on := 5, ground := Ground.phase }], guard := none }) rfl (fun K hK => ?_) AllReadyIn.nil
      refine opx_skip (w' := w3.setCell ⟨bx, 0, none⟩ (.slice (some ⟨w.heap.size, 0, none⟩) (pre.length + 1) N)) rfl (fun c h => by cases h) rfl (by simp only [execOp]; exact run_uni hrun6) (hK _ _ ?_)
      clear hK K
      refine wpAnyIn_done (by kernel_rfl) ?_ _
      exact fin
    refine AllReadyIn.cons (o := { dst := some 42, op := Op.buildSlice 65 1 #[(0, Operand.tmp 41)], type := 65, pos := "disk.go:50", after := #[{ on := 3, ground := Ground.data }], guard := none }) rfl (fun K hK => ?_) AllReadyIn.nil
    refine opx_val (v := .slice (some ⟨W.drew.heap.size, 0, none⟩) 1 1) (w' := W.drew.alloc (.cells (bs s).toArray 70)) rfl (fun c h => by cases h) rfl (by simp only [execOp, List.map_toArray, List.map_cons, List.map_nil]; exact run_val h42.out) (hK _ _ ?_)
    clear hK K
    simp only [Act.put, List.setIfInBounds_toArray, List.set_cons_zero, List.set_cons_succ]
    refine wpAnyIn_ready (rs := [0]) (by kernel_rfl) (by simp) ?_
    refine AllReadyIn.cons (o := { dst := some 38, op := Op.load 65 (Operand.tmp 7), type := 65, pos := "disk.go:50", after := #[], guard := none }) rfl (fun K hK => ?_) AllReadyIn.nil
    refine opx_val (v := .slice (some ⟨w.heap.size, 0, none⟩) pre.length N) (w' := (W.drew.alloc (.cells (bs s).toArray 70))) rfl (fun c h => by cases h) rfl (by simp only [execOp]; exact run_val (r58 hb1.out)) (hK _ _ ?_)
    clear hK K
    simp only [Act.put, List.setIfInBounds_toArray, List.set_cons_zero, List.set_cons_succ]
    refine wpAnyIn_ready (rs := [5]) (by kernel_rfl) (by simp) ?_
    refine AllReadyIn.cons (o := { dst := some 43, op := Op.call { callee := Callee.builtin Builtin.append, args := #[Operand.tmp 38, Operand.tmp 42], argTypes := #[65, 65] }, type := 65, pos := "disk.go:50", after := #[{ on := 0, ground := Ground.data }, { on := 4, ground := Ground.data }], guard := none }) rfl (fun K hK => ?_) AllReadyIn.nil
    refine opx_val (v := .slice (some ⟨w.heap.size, 0, none⟩) (pre.length + 1) N) (w' := w3) rfl (fun c h => by cases h) (by simp [Oper.about, resolve, Target.leads, Sem.run_pure]) (by simp [execOp, resolve, invoke, builtin, Act.eval, hrun5b, Result.andThen]) (hK _ _ ?_)
    clear hK K
    simp only [Act.put, List.setIfInBounds_toArray, List.set_cons_zero, List.set_cons_succ]
    refine wpAnyIn_ready (rs := [6]) (by kernel_rfl) (by simp) ?_
    refine AllReadyIn.cons (o := { dst := none, op := Op.store 65 (Operand.tmp 7) (Operand.tmp 43), type := 0, pos := "disk.go:50", after := #[{ on := 5, ground := Ground.data }, { on := 5, ground := Ground.chain }, { on := 0, ground := Ground.phase }, { on := 1, ground := Ground.phase }, { on := 2, ground := Ground.phase }, { on := 3, ground := Ground.phase }, { on := 4, ground := Ground.phase }, { on := 5, ground := Ground.phase }], guard := none }) rfl (fun K hK => ?_) AllReadyIn.nil
    refine opx_skip (w' := w3.setCell ⟨bx, 0, none⟩ (.slice (some ⟨w.heap.size, 0, none⟩) (pre.length + 1) N)) rfl (fun c h => by cases h) rfl (by simp only [execOp]; exact run_uni hrun6) (hK _ _ ?_)
    clear hK K
    refine wpAnyIn_done (by kernel_rfl) ?_ _
    exact fin
  case done =>
    rintro D ys W hD rfl ⟨⟨v, hv, hrow, rfl⟩, hB⟩ hK
    have hc := hv.cell
    have hmm := make_map59
    have hzW : D < W.heap.size := (Array.getElem?_eq_some_iff.1 hK).1
    rw [up_len N N (Nat.le_refl _), secs_up] at hrow
    rw [up_len N N (Nat.le_refl _)] at hc hv
    have HROW := Lib.hid hrow
    have HBB := Lib.hid hB
    have HKK := Lib.hid hK
    have HHL := Lib.hid HL.out
    clear hrow hB hK hv
    gi_wp2
    have hK2 : ((W.alloc (.map #[] 0)).alloc (.cells (dvC (some ⟨w.heap.size, 0, none⟩) N N low (some W.heap.size) true (-1) 0).toArray 73)).heap[D]? = some (.deferred (some [])) := (Below.heap_alloc _ _ D (by simp; omega)).trans ((Below.heap_alloc _ _ D hzW).trans HKK.out)
    refine ⟨by simp, .inl ⟨_, _, rfl, run_takeDeferred hK2, ?_⟩⟩
    have hsz := HBB.out.size
    have hs2 := HROW.out.lt w.heap.size rfl
    refine ⟨_, results_tmp2 rfl _ _ _, ?_, W.heap.size + 1, w.heap.size, W.heap.size, rfl, by omega, by omega, by omega, ?_, ?_, ?_, ?_⟩
    · exact ((HBB.out.alloc hsz _).alloc (by simp; omega) _).grown (grownBy_putObj' _ D _) (by simp; omega) (fun k e => by cases e; omega)
    · rw [secs_len]
      refine blk_put ?_ _ (by omega)
      exact Blk.new (W.alloc (.map #[] 0)) _ 73 _ (by simp)
    · exact blk_put (((full_blk HROW.out).alloc _).alloc _) _ (by omega)
    · intro s hs
      obtain ⟨j, hj, rfl⟩ := List.mem_map.1 hs
      exact secN_len (HHL.out.trans HM.out) (List.mem_range.1 hj)
    · exact ((World.ownsMap_made W Tryz.prog 3 secR).alloc _).kept (grownBy_putObj' _ D _) (fun e => by injection e with e; omega)
end Go.Proofs.YtekaboomhljdoaaGreatDoor.Dk
namespace Go.Proofs.YtekaboomhljdoaaGreatDoor.Dk
open Go.Proofs.YtekaboomhljdoaaGreatDoor.Sh Go.RowKit Go.Lib Go.Maps

/-- bytes, filled up with noughts to K -/
def img (l : List UInt8) (K : Nat) : List UInt8 := l ++ List.replicate (K - l.length) 0
theorem img_len (l : List UInt8) (K : Nat) (h : l.length ≤ K) : (img l K).length = K := by simp [img]; omega
theorem img_splice (l : List UInt8) (K : Nat) : splice (bs (List.replicate K 0)) 0 (bs l) = bs (img l K) := by
  simp [splice, img, bs]
theorem bs_rep (n : Nat) : bs (List.replicate n 0) = List.replicate n (.int .u8 0) := by simp [bs]
theorem made_noughts (k : Nat) : (madeCells (Value.int .u8 0).cells (k * 1)).toList = List.replicate k (Value.int .u8 0) := by
  rw [List.eq_replicate_iff]
  constructor
  · simp [madeCells]
  · intro b hb
    have hc : (Value.int .u8 0).cells = #[.int .u8 0] := rfl
    rw [hc] at hb
    simp [madeCells, Nat.mod_one] at hb
    exact hb.2.symm
theorem full_blk5 {W : World} {g N : Nat} {base : Nat} {xs : List Value} (h : W.ownsRow base 5 1 (.slice (some ⟨g, 0, none⟩) N N) N xs) : Blk W g xs 5 := by
  obtain ⟨h1, ⟨h2, _⟩ | ⟨g', cap, cur, e1, e2, e3, e4, e5, e6, e7⟩⟩ := h
  · cases h2
  · simp only [Value.slice.injEq, Option.some.injEq, Addr.mk.injEq, and_true, true_and] at e1
    obtain ⟨rfl, rfl⟩ := e1
    rw [List.take_of_length_le (by rw [Array.length_toList, e6]; exact Nat.le_refl _)] at e7
    unfold Blk
    rw [e3, ← e7]
theorem blk_byt {w : World} {g : Nat} {l : List UInt8} (h : Blk w g (bs l) 5) : Byt w (some ⟨g, 0, none⟩) l := fun _ => by
  refine ⟨g, 0, rfl, h.lt, fun j hj => ?_⟩
  rw [h.cell, Nat.zero_add]
  exact bs_get l j hj
/-- what New answers where it goes well: refused without a sector -/
def NewP (w : World) (l : List UInt8) (q N : Nat) (e : Ending) (w' : World) : Prop :=
  Below w.heap.size w w' ∧ ((N = 0 ∧ e = .returned (.tuple #[.pointer none, .int .i64 2])) ∨ (1 ≤ N ∧ ∃ g sa mb, e = .returned (.tuple #[.pointer (some ⟨g, 0, none⟩), .int .i64 0]) ∧ w.heap.size ≤ g ∧ w.heap.size ≤ sa ∧ w.heap.size ≤ mb ∧ DevS w' g sa mb (secs (img l (256 * N)) N) q 0 (.map []) true (-1) 0))
set_option maxHeartbeats 1000000 in
set_option maxRecDepth 100000 in
/-- Load of what New has filled -/
theorem load_new (w w1 : World) (g : Nat) (l : List UInt8) (q N : Nat) (hb : Below w.heap.size w w1) (_hg : w.heap.size ≤ g) (hG : Blk w1 g (bs (img l (256 * N))) 5) (hl : l.length ≤ 256 * N) (hN : N ≤ 4096) (hq : q ≤ N) :
    Calls Tryz.prog 11 #[.slice (some ⟨g, 0, none⟩) (256 * N) (256 * N), .int .i64 (q : Int)] w1 (NewP w l q N) := by
  by_cases h0 : N = 0
  · subst h0
    refine (load_bad _ 0 0 _ (.inr (.inl (by omega))) (by omega)).mono ?_
    rintro e w2 ⟨rfl, rfl⟩
    exact ⟨hb, .inl ⟨rfl, rfl⟩⟩
  · refine (load_ok g 0 (256 * N) N (256 * N) (img l (256 * N)) q w1 (blk_byt hG) (img_len _ _ hl) rfl (by omega) hN hq (Nat.le_refl _) (by omega)).mono ?_
    rintro e w2 ⟨hb2, g2, sa, mb, rfl, x1, x2, x3, hd⟩
    have := hb.size
    exact ⟨below_chain hb hb2, .inr ⟨by omega, g2, sa, mb, rfl, by omega, by omega, by omega, hd⟩⟩
set_option maxHeartbeats 4000000 in
set_option maxRecDepth 100000 in
theorem new_ok (n : Nat) (ao : Option Addr) (l : List UInt8) (m c : Nat) (w : World) (h : Byt w ao l) (hl : l.length = m) (hn : (n : Int) ≤ 4096 - (upTo m : Int)) :
    Calls Tryz.prog 26 #[.int .i64 (n : Int), .slice ao m c] w (NewP w l (upTo m) (upTo m + n)) := by
  obtain ⟨q, hq⟩ : ∃ q, q = m / 256 := ⟨_, rfl⟩
  have hm : m ≤ 1048576 := by unfold upTo at hn; split at hn <;> omega
  have e3 : (m : Int) / 256 = (q : Int) := by omega
  have e4 : (m : Int).tdiv 256 = (q : Int) := by rw [Int.tdiv_eq_ediv_of_nonneg (by omega)]; exact e3
  have q0 : (0 : Int) ≤ (q : Int) := by omega
  have q1 : (q : Int) ≤ 4096 := by omega
  have wq : wrap64 (q : Int) = (q : Int) := IntWalk.wrap64_in _ ⟨by omega, by omega⟩
  obtain ⟨N, hN⟩ : ∃ N, N = upTo m + n := ⟨_, rfl⟩
  obtain ⟨K, hK⟩ : ∃ K, K = 256 * N := ⟨_, rfl⟩
  have hN2 : N ≤ 4096 := by omega
  have kb : K ≤ 1048576 := by omega
  have k0 : (0 : Int) ≤ (K : Int) := Int.natCast_nonneg _
  have n0 : (0 : Int) ≤ (N : Int) := Int.natCast_nonneg _
  have hlK : m ≤ K := by unfold upTo at hN; split at hN <;> omega
  have hpos : 0 < (bs l).length → (some (⟨w.heap.size, 0, none⟩ : Addr)) = some ⟨w.heap.size, 0, none⟩ ∧ ∃ ad, ao = some ad ∧ ∀ W, Below w.heap.size w W → ∀ j v, (bs l)[j]? = some v → W.cell? (ad.add j) = some v := fun h0 => by
    obtain ⟨b, o, h1, h2, h3⟩ := h (by intro h9; rw [h9] at h0; simp [bs] at h0)
    refine ⟨rfl, ⟨b, o, none⟩, h1, fun W hW j v hj => ?_⟩
    have hj2 : j < l.length := by have := (List.getElem?_eq_some_iff.1 hj).1; rw [bs_len] at this; exact this
    rw [WideShapes.add_plain, (hW.cell (p := ⟨b, o + j, none⟩) h2).trans (h3 j hj2)]
    rw [bs_get l j hj2] at hj
    exact hj
  have HPOS := Lib.hid hpos
  have HLN := Lib.hid hl
  obtain ⟨i5, j0, j1, j2, j3⟩ := info_parts info5
  have J0 := Lib.hid j0
  have J1 := Lib.hid j1
  have J2 := Lib.hid j2
  have J3 := Lib.hid j3
  clear j0 j1 j2 j3
  have sz5 : (Tryz.prog.info? 5).map (·.size) = some 1 := by kernel_rfl
  have HSZ := Lib.hid sz5
  rw [← hN]
  have CL := Lib.hid (fun W (hb : Below w.heap.size w W) (hG : Blk W w.heap.size (bs (img l K)) 5) => by
    have := load_new w W w.heap.size l (upTo m) N hb (Nat.le_refl _) (by rw [← hK]; exact hG) (by omega) hN2 (by omega)
    rw [← hK] at this
    exact this)
  have t2 : decide ((n : Int) < 0) = false := by simp
  have kI : (K : Int) = (N : Int) * 256 := by omega
  have HKI : Hid ((N : Int) * 256 = (K : Int)) := kI.symm
  have nB : (N : Int) ≤ 4096 := by omega
  clear hpos h hl sz5
  by_cases h1 : m % 256 = 0
  · have eu : upTo m = q := by unfold upTo; rw [if_pos h1, hq]
    rw [eu] at hn hN CL
    have e1 : ((m : Int) % 256 != 0) = false := by simp; omega
    have e2 : (((m : Int).tmod 256) != 0) = false := by rw [Int.tmod_eq_emod_of_nonneg (by omega)]; exact e1
    have t3 : decide (4096 - (q : Int) < (n : Int)) = false := by simp; omega
    have wB : wrap64 (4096 - (q : Int)) = 4096 - (q : Int) := IntWalk.wrap64_in _ ⟨by omega, by omega⟩
    have wC : wrap64 ((q : Int) + (n : Int)) = (N : Int) := by rw [IntWalk.wrap64_in _ ⟨by omega, by omega⟩]; omega
    have HKK := Lib.hid hK
    have HMK := Lib.hid hlK
    have EU := Lib.hid eu
    clear h1 hq hm eu hN hK kI hlK hn
    go_enter Tryz.func26, Tryz.ntmps26
    go_wp2_with (first
      | (refine wpList_make_full w rfl _ _ 24 rfl w.heap.size 5 i5 (.int .u8 0) 1 Tryz.underlying24 J0.out J1.out J2.out .i64 .i64 _ _ K rfl rfl HKI.out HKI.out (by rw [J3.out]; omega) (by unfold maxLen; omega) (Nat.le_refl _) ?_; intro w2 how hg2; rw [made_noughts, ← bs_rep] at how; have HG2 := Lib.hid (full_blk5 how); have hb2 := (Below.refl w.heap.size w).grown hg2 (Nat.le_refl _) (by simp); have HB2 := Lib.hid hb2; clear how hg2 hb2)
      | (refine wpList_copy_splice rfl (.tmp 30) (.tmp 31) 24 24 rfl 5 Tryz.underlying24 HSZ.out (some ⟨w.heap.size, 0, none⟩) ao K K m c rfl rfl w.heap.size 0 (bs (List.replicate K 0)) 5 HG2.out (bs l) (by rw [bs_len, HLN.out]; have := HMK.out; exact (Nat.min_eq_left this).symm) (fun h0 => by obtain ⟨x1, ad, x2, x3⟩ := HPOS.out h0; exact ⟨x1, ad, x2, x3 _ HB2.out⟩) (by rw [bs_len, bs_len, HLN.out, List.length_replicate]; have := HMK.out; omega) (bs_one l) w.heap.size w HB2.out (Nat.le_refl _) ?_; intro w3 hg3 hb3; have HG3 : Hid (Blk w3 w.heap.size (bs (img l K)) 5) := (by have h9 := hg3.out; rw [img_splice] at h9; exact h9); have HB3 := Lib.hid hb3; clear hg3 hb3))
    refine (CL.out w3 HB3.out HG3.out).mono ?_
    rintro e w4 hP
    obtain ⟨hb4, ⟨hN0, rfl⟩ | ⟨hN0, g, sa, mb, rfl, x⟩⟩ := hP
    · go_wp2_with fail
      go_ret2
      exact ⟨hb4, .inl ⟨hN0, rfl⟩⟩
    · have HX := Lib.hid x
      clear x
      go_wp2_with fail
      go_ret2
      exact ⟨hb4, .inr ⟨hN0, g, sa, mb, rfl, by rw [EU.out]; exact HX.out⟩⟩
  · have eu : upTo m = q + 1 := by unfold upTo; rw [if_neg h1, hq]
    rw [eu] at hn hN CL
    have e1 : ((m : Int) % 256 != 0) = true := by simp; omega
    have e2 : (((m : Int).tmod 256) != 0) = true := by rw [Int.tmod_eq_emod_of_nonneg (by omega)]; exact e1
    have wA : wrap64 ((q : Int) + 1) = (q : Int) + 1 := IntWalk.wrap64_in _ ⟨by omega, by omega⟩
    have t3 : decide (4096 - ((q : Int) + 1) < (n : Int)) = false := by simp; omega
    have wB : wrap64 (4096 - ((q : Int) + 1)) = 4096 - ((q : Int) + 1) := IntWalk.wrap64_in _ ⟨by omega, by omega⟩
    have wC : wrap64 ((q : Int) + 1 + (n : Int)) = (N : Int) := by rw [IntWalk.wrap64_in _ ⟨by omega, by omega⟩]; omega
    have HKK := Lib.hid hK
    have HMK := Lib.hid hlK
    have EU := Lib.hid eu
    clear h1 hq hm eu hN hK kI hlK hn
    go_enter Tryz.func26, Tryz.ntmps26
    go_wp2_with (first
      | (refine wpList_make_full w rfl _ _ 24 rfl w.heap.size 5 i5 (.int .u8 0) 1 Tryz.underlying24 J0.out J1.out J2.out .i64 .i64 _ _ K rfl rfl HKI.out HKI.out (by rw [J3.out]; omega) (by unfold maxLen; omega) (Nat.le_refl _) ?_; intro w2 how hg2; rw [made_noughts, ← bs_rep] at how; have HG2 := Lib.hid (full_blk5 how); have hb2 := (Below.refl w.heap.size w).grown hg2 (Nat.le_refl _) (by simp); have HB2 := Lib.hid hb2; clear how hg2 hb2)
      | (refine wpList_copy_splice rfl (.tmp 30) (.tmp 31) 24 24 rfl 5 Tryz.underlying24 HSZ.out (some ⟨w.heap.size, 0, none⟩) ao K K m c rfl rfl w.heap.size 0 (bs (List.replicate K 0)) 5 HG2.out (bs l) (by rw [bs_len, HLN.out]; have := HMK.out; exact (Nat.min_eq_left this).symm) (fun h0 => by obtain ⟨x1, ad, x2, x3⟩ := HPOS.out h0; exact ⟨x1, ad, x2, x3 _ HB2.out⟩) (by rw [bs_len, bs_len, HLN.out, List.length_replicate]; have := HMK.out; omega) (bs_one l) w.heap.size w HB2.out (Nat.le_refl _) ?_; intro w3 hg3 hb3; have HG3 : Hid (Blk w3 w.heap.size (bs (img l K)) 5) := (by have h9 := hg3.out; rw [img_splice] at h9; exact h9); have HB3 := Lib.hid hb3; clear hg3 hb3))
    refine (CL.out w3 HB3.out HG3.out).mono ?_
    rintro e w4 hP
    obtain ⟨hb4, ⟨hN0, rfl⟩ | ⟨hN0, g, sa, mb, rfl, x⟩⟩ := hP
    · go_wp2_with fail
      go_ret2
      exact ⟨hb4, .inl ⟨hN0, rfl⟩⟩
    · have HX := Lib.hid x
      clear x
      go_wp2_with fail
      go_ret2
      exact ⟨hb4, .inr ⟨hN0, g, sa, mb, rfl, by rw [EU.out]; exact HX.out⟩⟩
end Go.Proofs.YtekaboomhljdoaaGreatDoor.Dk
namespace Go.Proofs.YtekaboomhljdoaaGreatDoor.Dk
open Go.Proofs.YtekaboomhljdoaaGreatDoor.Sh Go.RowKit Go.Lib Go.Maps
variable {w : World} {g sa mb : Nat} {S : List (List UInt8)} {low : Int} {k : Nat} {D : DataW Unit} {pw : Bool} {left nw : Int}
/-- a device whose own cells alone are turned -/
theorem DevS.turn (h : DevS w g sa mb S low k D pw left nw) {w' : World} {low2 : Int} {pw2 : Bool} {left2 nw2 : Int} (hg : w.grownBy w' (some g)) (hd : Dv w' g (some ⟨sa, 0, none⟩) S.length S.length low2 (some mb) pw2 left2 nw2) : DevS w' g sa mb S low2 k D pw2 left2 nw2 := by
  obtain ⟨a1, a2, a3⟩ := h.apart
  refine ⟨hd, (fr_grown hg (N := [g]) (by simp)).blk h.sec (by simpa using a2), h.len, h.map.kept hg (fun e => by injection e with e; exact a1 e.symm)⟩
theorem DevS.later (h : DevS w g sa mb S low k D pw left nw) {w' : World} (hb : Below w.heap.size w w') : DevS w' g sa mb S low k D pw left nw := h.kept (fr_below hb []) (by simp) (by simp) (by simp)
theorem own_block {w : World} {B : Nat} {v : Value} {l : List UInt8} (h : Sh.Own w B v l) (hl : l ≠ []) : ∃ g c, v = .slice (some ⟨g, 0, none⟩) l.length c ∧ B ≤ g ∧ g < w.heap.size ∧ l.length ≤ c ∧ c ≤ 9223372036854775807 := by
  obtain ⟨h1, ⟨_, h2⟩ | ⟨g, cap, cur, e1, e2, e3, e4, e5, e6⟩⟩ := h
  · exact absurd (List.eq_nil_of_length_eq_zero h2) hl
  · exact ⟨g, cap, e1, e2, (Array.getElem?_eq_some_iff.1 e3).1, e4, by unfold maxLen at e5; omega⟩
theorem Keep.later {w w' : World} {ao : Option Addr} {N : List Nat} {ks : List Int} (h : Keep w ao N ks) (hb : Below w.heap.size w w') : Keep w' ao N ks := fun hne => by
  obtain ⟨b, o, h1, h2, h3, h4⟩ := h hne
  exact ⟨b, o, h1, Nat.lt_of_lt_of_le h2 hb.size, h3, fun j hj => (hb.cell (p := ⟨b, o + j, none⟩) h2).trans (h4 j hj)⟩
theorem Keep.turn {w w' : World} {ao : Option Addr} {N : List Nat} {ks : List Int} (h : Keep w ao N ks) (hf : Fr w w' N) : Keep w' ao N ks := fun hne => by
  obtain ⟨b, o, h1, h2, h3, h4⟩ := h hne
  exact ⟨b, o, h1, Nat.lt_of_lt_of_le h2 hf.size, h3, fun j hj => (hf.cell (a := ⟨b, o + j, none⟩) h2 h3).trans (h4 j hj)⟩
end Go.Proofs.YtekaboomhljdoaaGreatDoor.Dk
namespace Go.Proofs.YtekaboomhljdoaaGreatDoor.Dk
open Go.Proofs.YtekaboomhljdoaaGreatDoor.Sh Go.RowKit Go.Lib Go.Maps
theorem settle_get {D : DataW Unit} {S : List (List UInt8)} {n : Nat} (hI : InD D n) (hn : n ≤ S.length) (x : Int) (j : Nat) :
    (settleS D S x)[j]? = (if x = (j : Int) then secAt D S j else S[j]?) ∧ secAt (settleD D x) (settleS D S x) j = secAt D S j := by
  by_cases hh : Maps.has D (.int .i64 x) = true
  · obtain ⟨h0, h1, l, hl, ha⟩ := hI.2 x hh
    obtain ⟨y, rfl⟩ : ∃ y : Nat, x = (y : Int) := ⟨x.toNat, by omega⟩
    have e : settleS D S (y : Int) = S.set y l := by
      unfold settleS
      rw [ha .nil]
      simp
    rw [e]
    refine ⟨?_, secAt_settle y l (by omega) hh ha j⟩
    by_cases hy : y = j
    · subst hy
      rw [if_pos rfl, List.getElem?_set_self (by omega), secAt, if_pos hh, ha]
    · rw [if_neg (by omega), List.getElem?_set_ne hy]
  · have hh2 : Maps.has D (.int .i64 x) = false := by simpa using hh
    rw [settleS_no hh2, settleD_no hh2]
    refine ⟨?_, rfl⟩
    by_cases hy : x = (j : Int)
    · subst hy
      rw [if_pos rfl, secAt, if_neg hh]
    · rw [if_neg hy]
/-- of each sector a crash leaves what the cache had of it, if it is kept, else what was in it -/
theorem settled_get : ∀ (ks : List Int) {D : DataW Unit} {S : List (List UInt8)} {n : Nat} (_ : InD D n) (_ : n ≤ S.length) (j : Nat), (settled S D ks).1[j]? = if (j : Int) ∈ ks then secAt D S j else S[j]?
  | [], _, _, _, _, _, _ => by simp [settled]
  | x :: ks, D, S, n, hI, hn, j => by
    have e : settled S D (x :: ks) = settled (settleS D S x) (settleD D x) ks := rfl
    obtain ⟨h1, h2⟩ := settle_get hI hn x j
    rw [e, settled_get ks (hI.settle x) (by rw [settleS_len]; exact hn) j, h1, h2]
    by_cases hx : x = (j : Int)
    · subst hx
      simp
    · rw [if_neg hx]
      have : ¬ (j : Int) = x := fun e => hx e.symm
      simp [this]
end Go.Proofs.YtekaboomhljdoaaGreatDoor.Dk
