/-
  The contracts of the document's own Take, and of its reader's num, data and key. Conditions: each law's own.
-/
import Derived.Test.YtcgbaiogbcodcaaGreatDoorRa
import Derived.Lib.SliceRun
namespace Go.Proofs.YtcgbaiogbcodcaaGreatDoor.Sh
open Go.RowKit Go.Lib Lb

set_option maxRecDepth 100000 in
/-- a piece of a slice of bytes -/
theorem slice_piece (ao : Option Addr) (len c n x : Nat) (l : List UInt8) (h1 : n + x ≤ len) (h3 : len = l.length) (h4 : ao = none → c = 0) (h5 : len ≤ c) :
    ∃ ao', (∀ W, (Instr.slice 33 (.slice ao len c) (some (.int .i64 (n : Int))) (some (.int .i64 ((n : Int) + (x : Int)))) none).run Tryz.prog W = .ok (.slice ao' x (c - n)) W) ∧ (∀ w, Byt w ao l → Byt w ao' ((l.drop n).take x)) ∧ (ao' = none → c - n = 0) := by
  have hs := fun W => run_slice_lh (P := Tryz.prog) W 33 ao len c (by rw [Tryz.underlying33]; rfl) .i64 .i64 (n : Int) ((n : Int) + (x : Int)) (by omega) (by omega) (by omega)
  have e3 : Tryz.prog.elem 33 = 5 := by kernel_rfl
  have e4 : ((n : Int) + (x : Int)).toNat = n + x := by omega
  simp only [e3, e4, Tryz.sizeOf5, sliced, Result.andThen, Int.toNat_natCast, Nat.mul_one, Nat.add_sub_cancel_left] at hs
  by_cases hcn : c = n
  · refine ⟨ao, fun W => by rw [hs W, if_pos hcn], fun w hb hne => ?_, fun _ => by omega⟩
    exfalso
    apply hne
    rw [List.drop_of_length_le (by omega), List.take_nil]
  · cases ao with
    | none =>
      have := h4 rfl
      omega
    | some a =>
      refine ⟨some (a.add n), fun W => by rw [hs W, if_neg hcn]; rfl, fun w hb => ?_, fun h => by cases h⟩
      by_cases hl : l = []
      · subst hl
        rw [List.drop_nil, List.take_nil]
        exact byt_nil _ _
      · obtain ⟨b, o, h0, _, _⟩ := hb hl
        injection h0 with h0
        subst h0
        rw [WideShapes.add_plain]
        exact (hb.drop n).take x
/-- what Take answers -/
def AnsT (w : World) (l : List UInt8) (most : Nat) (e : Ending) (w' : World) : Prop := Below w.heap.size w w' ∧
  ((∃ d k v, pData most l = some (d, l.drop k) ∧ k ≤ l.length ∧ e = .returned (.tuple #[v, .int .i64 (k : Int), .int .i64 0]) ∧ Own w' w.heap.size v d) ∨
   (pData most l = none ∧ ∃ ec : Int, ec ≠ 0 ∧ e = .returned (.tuple #[.slice none 0 0, .int .i64 0, .int .i64 ec])))
theorem pData_err (l : List UInt8) (most : Nat) (h : (getL l).2.2 ≠ 0) : pData most l = none := by
  unfold pData pNum
  rw [if_neg (fun h0 => h h0.1)]
theorem pData_much (l : List UInt8) (most x n : Nat) (hg : getL l = (x, n, 0)) (h : most < x) : pData most l = none := by
  unfold pData pNum
  rw [hg, if_neg (fun h0 => by have := h0.2; simp only at this; omega)]
theorem pData_short (l : List UInt8) (most x n : Nat) (hg : getL l = (x, n, 0)) (hn : n ≤ l.length) (h : l.length < n + x) : pData most l = none := by
  unfold pData pNum
  rw [hg]
  by_cases h1 : x ≤ most
  · rw [if_pos ⟨rfl, h1⟩]
    simp only [Int.toNat_natCast, List.length_drop]
    rw [if_neg (by omega)]
  · rw [if_neg (fun h0 => h1 h0.2)]
theorem pData_good (l : List UInt8) (most x n : Nat) (hg : getL l = (x, n, 0)) (h1 : x ≤ most) (h : n + x ≤ l.length) : pData most l = some ((l.drop n).take x, l.drop (n + x)) := by
  unfold pData pNum
  rw [hg, if_pos ⟨rfl, h1⟩]
  simp only [Int.toNat_natCast, List.length_drop]
  rw [if_pos (by omega), List.drop_drop]
end Go.Proofs.YtcgbaiogbcodcaaGreatDoor.Sh
