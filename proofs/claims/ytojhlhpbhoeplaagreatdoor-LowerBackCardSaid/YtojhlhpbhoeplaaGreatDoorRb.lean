/-
  The contracts of the document's own Take, and of its reader's num, data and key. Conditions: each law's own.
-/
import Derived.Test.YtojhlhpbhoeplaaGreatDoorRa
import Derived.Lib.SliceRun
namespace Go.Proofs.YtojhlhpbhoeplaaGreatDoor.Sh
open Go.RowKit Go.Lib Lb

set_option maxRecDepth 100000 in
/-- a piece of a slice of bytes -/
theorem slice_piece (ao : Option Addr) (len c n x : Nat) (l : List UInt8) (h1 : n + x ≤ len) (h3 : len = l.length) (h4 : ao = none → c = 0) (h5 : len ≤ c) :
    ∃ ao', (∀ W, (Instr.slice 22 (.slice ao len c) (some (.int .i64 (n : Int))) (some (.int .i64 ((n : Int) + (x : Int)))) none).run Tryz.prog W = .ok (.slice ao' x (c - n)) W) ∧ (∀ w, Byt w ao l → Byt w ao' ((l.drop n).take x)) ∧ (ao' = none → c - n = 0) := by
  have hs := fun W => run_slice_lh (P := Tryz.prog) W 22 ao len c (by rw [Tryz.underlying22]; rfl) .i64 .i64 (n : Int) ((n : Int) + (x : Int)) (by omega) (by omega) (by omega)
  have e3 : Tryz.prog.elem 22 = 5 := by kernel_rfl
  have e4 : ((n : Int) + (x : Int)).toNat = n + x := by omega
  simp only [e3, e4, Tryz.sizeOf5, sliced, Result.andThen, Int.toNat_natCast, Nat.mul_one, Nat.add_sub_cancel_left] at hs
  by_cases hcn : c = n
  · refine ⟨ao, fun W => by rw [hs W, if_pos hcn], fun w hb hne => ?_, fun _ => by omega⟩
    exfalso
    apply hne
    rw [List.drop_of_length_le (by omega), List.take_nil]
  · cases ao with
    | none =>
      have := h4 rfl
      omega
    | some a =>
      refine ⟨some (a.add n), fun W => by rw [hs W, if_neg hcn]; rfl, fun w hb => ?_, fun h => by cases h⟩
      by_cases hl : l = []
      · subst hl
        rw [List.drop_nil, List.take_nil]
        exact byt_nil _ _
      · obtain ⟨b, o, h0, _, _⟩ := hb hl
        injection h0 with h0
        subst h0
        rw [WideShapes.add_plain]
        exact (hb.drop n).take x
/-- what Take answers -/
def AnsT (w : World) (l : List UInt8) (most : Nat) (e : Ending) (w' : World) : Prop := Below w.heap.size w w' ∧
  ((∃ d k v, pData most l = some (d, l.drop k) ∧ k ≤ l.length ∧ e = .returned (.tuple #[v, .int .i64 (k : Int), .int .i64 0]) ∧ Own w' w.heap.size v d) ∨
   (pData most l = none ∧ ∃ ec : Int, ec ≠ 0 ∧ e = .returned (.tuple #[.slice none 0 0, .int .i64 0, .int .i64 ec])))
theorem pData_err (l : List UInt8) (most : Nat) (h : (getL l).2.2 ≠ 0) : pData most l = none := by
  unfold pData pNum
  rw [if_neg (fun h0 => h h0.1)]
theorem pData_much (l : List UInt8) (most x n : Nat) (hg : getL l = (x, n, 0)) (h : most < x) : pData most l = none := by
  unfold pData pNum
  rw [hg, if_neg (fun h0 => by have := h0.2; simp only at this; omega)]
theorem pData_short (l : List UInt8) (most x n : Nat) (hg : getL l = (x, n, 0)) (hn : n ≤ l.length) (h : l.length < n + x) : pData most l = none := by
  unfold pData pNum
  rw [hg]
  by_cases h1 : x ≤ most
  · rw [if_pos ⟨rfl, h1⟩]
    simp only [Int.toNat_natCast, List.length_drop]
    rw [if_neg (by omega)]
  · rw [if_neg (fun h0 => h1 h0.2)]
theorem pData_good (l : List UInt8) (most x n : Nat) (hg : getL l = (x, n, 0)) (h1 : x ≤ most) (h : n + x ≤ l.length) : pData most l = some ((l.drop n).take x, l.drop (n + x)) := by
  unfold pData pNum
  rw [hg, if_pos ⟨rfl, h1⟩]
  simp only [Int.toNat_natCast, List.length_drop]
  rw [if_pos (by omega), List.drop_drop]
set_option maxHeartbeats 2000000 in
set_option maxRecDepth 100000 in
theorem reftake_any (ao : Option Addr) (l : List UInt8) (m c : Nat) (most : Nat) (w : World) (h : Byt w ao l) (hn : ao = none → c = 0) (hlm : l.length = m) (hc : m ≤ c) (hcc : c ≤ 9223372036854775807) (hm47 : m ≤ 140737488355328) (hmo : most ≤ 9223372036854775807) :
    Calls Tryz.prog 71 #[.slice ao m c, .int .i64 (most : Int)] w (AnsT w l most) := by
  have CG := Lib.hid (refget_any ao l m c w h hlm hc hcc)
  have H := Lib.hid h
  have HL := Lib.hid hlm
  have HN := Lib.hid hn
  clear h hlm hn
  go_enter Tryz.func71, Tryz.ntmps71
  go_wp2_with fail
  refine CG.out.mono ?_
  rintro e w1 ⟨⟨ec, rfl, hec⟩, rfl⟩
  by_cases he : ec = 0
  · obtain ⟨x, hx⟩ : ∃ x, x = (getL l).1 := ⟨_, rfl⟩
    obtain ⟨n, hnn⟩ : ∃ n, n = (getL l).2.1 := ⟨_, rfl⟩
    have hg : getL l = (x, n, 0) := by rw [hx, hnn, ← hec.1 he]
    obtain ⟨g1, g2, g3, _⟩ := getL_again l x n hg
    have HG := Lib.hid hg
    rw [← hx, ← hnn]
    subst he
    rw [HL.out] at g2
    clear hx hnn hec hg
    have t0 : decide ((most : Int) < 0) = false := by simp
    have w1 : IntKind.u64.wrap (most : Int) = (most : Int) := by rw [IntKind.wrap]; simp [IntKind.bits, IntKind.signed]; omega
    by_cases h1 : most < x
    · have t1 : decide (most < x) = true := by simp; omega
      have hp := Lib.hid (pData_much l most x n HG.out h1)
      clear h1
      go_wp2_with fail
      go_ret3
      exact ⟨Below.refl _ _, Or.inr ⟨hp.out, 2, by decide, rfl⟩⟩
    · have t1 : decide (most < x) = false := by simp; omega
      have w2 : IntKind.i64.wrap ((m : Int) - (n : Int)) = (m : Int) - (n : Int) := IntWalk.i64_in _ (by omega)
      have w3 : IntKind.u64.wrap ((m : Int) - (n : Int)) = (m : Int) - (n : Int) := by rw [IntKind.wrap]; simp [IntKind.bits, IntKind.signed]; omega
      by_cases h2 : m < n + x
      · have t2 : decide ((m : Int) - (n : Int) < (x : Int)) = true := by simp; omega
        have hp := Lib.hid (pData_short l most x n HG.out (by rw [HL.out]; exact g2) (by rw [HL.out]; exact h2))
        clear h1 h2
        go_wp2_with fail
        go_ret3
        exact ⟨Below.refl _ _, Or.inr ⟨hp.out, 20, by decide, rfl⟩⟩
      · have t2 : decide ((m : Int) - (n : Int) < (x : Int)) = false := by simp; omega
        have hp := Lib.hid (pData_good l most x n HG.out (by omega) (by rw [HL.out]; omega))
        have w4 : IntKind.i64.wrap (x : Int) = (x : Int) := IntWalk.i64_in _ (by omega)
        have w5 : IntKind.i64.wrap ((n : Int) + (x : Int)) = (n : Int) + (x : Int) := IntWalk.i64_in _ (by omega)
        obtain ⟨af, s1, s2, s3⟩ := slice_piece ao m c n x l (by omega) HL.out.symm HN.out hc
        have LIT : Hid (Own (w.alloc (.cells #[] 5)) w.heap.size (.slice (some ⟨w.heap.size, 0, none⟩) 0 0) []) := own_lit w [] w.heap.size (Nat.le_refl _) (by simp)
        have HY := Lib.hid (s2 _ (H.out.below ((Below.refl _ w).alloc (Nat.le_refl _) (.cells #[] 5))))
        have P2 : Hid (w.heap.size ≤ (w.alloc (.cells #[] 5)).heap.size) := by show _ ≤ _; simp
        have B1 := Lib.hid ((Below.refl _ w).alloc (Nat.le_refl _) (.cells #[] 5))
        have DL : Hid (((l.drop n).take x).length = x) := by show _ = _; rw [List.length_take, List.length_drop]; have := HL.out; omega
        have p1 : ([] : List UInt8).length + x ≤ 140737488355328 := by simp; omega
        have K := Lib.hid (show n + x ≤ m by omega)
        obtain ⟨D, hD⟩ : ∃ D, D = (l.drop n).take x := ⟨_, rfl⟩
        rw [← hD] at HY DL hp
        clear h1 h2 s2 hD
        go_wp2_with (at_builtin; refine wpl_app_len (t := 22) (e := 5) rfl (.tmp 34) (.tmp 41) rfl Tryz.underlying22 info5 w.heap.size _ [] D rfl LIT.out af x (c - n) rfl HY.out s3 DL p1 P2.out ?_; intro v4 w4 hown4 hgrow4)
        have hb4 := B1.out.grown hgrow4 P2.out (fun k hk => (LIT.out.lt k hk).1)
        rw [List.nil_append] at hown4
        have O4 := Lib.hid hown4
        have B4 := Lib.hid hb4
        clear hown4 hgrow4 hb4
        go_wp2_with fail
        go_ret3
        exact ⟨B4.out, Or.inl ⟨D, n + x, v4, hp.out, by rw [HL.out]; exact K.out, by rw [Int.natCast_add]; rfl, O4.out⟩⟩
  · have hp := Lib.hid (pData_err l most (fun h0 => he (hec.2 h0)))
    obtain ⟨e1, e2⟩ := getL_err l (fun h0 => he (hec.2 h0))
    rw [e1, e2]
    have t0 : (ec != 0) = true := by simpa using he
    have HE := Lib.hid he
    clear he hec e1 e2
    go_wp2_with fail
    go_ret3
    exact ⟨Below.refl _ _, Or.inr ⟨hp.out, ec, HE.out, rfl⟩⟩
end Go.Proofs.YtojhlhpbhoeplaaGreatDoor.Sh
