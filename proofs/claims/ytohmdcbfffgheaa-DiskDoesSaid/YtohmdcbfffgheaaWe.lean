/-
  The contract of disk's Write. Conditions: each law's own.
-/
import Derived.Test.YtohmdcbfffgheaaWd
namespace Go.Proofs.Ytohmdcbfffgheaa.Dk
open Go.RowKit Go.Lib Go.Maps
theorem byt_range {w : World} {b o : Nat} {l : List UInt8} (h : Byt w (some ⟨b, o, none⟩) l) : w.rangeAt b o (bs l) := fun j v hj => by
  have hj2 : j < l.length := by have := (List.getElem?_eq_some_iff.1 hj).1; rw [bs_len] at this; exact this
  obtain ⟨b', o', e, _, hc⟩ := h (fun h0 => by rw [h0] at hj2; simp at hj2)
  injection e with e
  injection e with e1 e2
  subst e1
  subst e2
  rw [hc j hj2]
  rw [bs_get l j hj2] at hj
  exact hj
variable {w : World} {g sa mb : Nat} {S : List (List UInt8)} {low : Int} {k : Nat} {D : DataW Unit} {pw : Bool} {left wr : Int}
set_option maxHeartbeats 4000000 in
set_option maxRecDepth 100000 in
theorem write_no (h : DevS w g sa mb S low k D pw left wr) (i : Int) (ao : Option Addr) (n c : Nat) (z : Int) (hz : foundE S.length pw i = z) (h0 : z ≠ 0) :
    Calls Try.prog 11 #[.pointer (some ⟨g, 0, none⟩), .int .i64 i, .slice ao n c] w fun e w' => e = .returned (.int .i64 z) ∧ w' = w := by
  have HF := Lib.hid (found_any i h.dv)
  rw [hz] at HF
  have t1 : (z != 0) = true := by simpa using h0
  clear h hz h0
  go_enter Try.func11, Try.ntmps11
  go_wp2_with fail
  refine HF.out.mono ?_
  rintro e w1 ⟨rfl, rfl⟩
  go_wp2_with fail
  go_ret
  exact ⟨rfl, rfl⟩
set_option maxHeartbeats 4000000 in
set_option maxRecDepth 100000 in
theorem write_low (h : DevS w g sa mb S low k D pw left wr) (i : Int) (ao : Option Addr) (n c : Nat) (hz : foundE S.length pw i = 0) (hl : i < low) :
    Calls Try.prog 11 #[.pointer (some ⟨g, 0, none⟩), .int .i64 i, .slice ao n c] w fun e w' => e = .returned (.int .i64 92) ∧ w' = w := by
  have HF := Lib.hid (found_any i h.dv)
  rw [hz] at HF
  obtain ⟨_, c1, _, _, _, _⟩ := h.dv.cells
  have t1 : decide (i < low) = true := by simpa using hl
  clear h hz hl
  go_enter Try.func11, Try.ntmps11
  go_wp2_with fail
  refine HF.out.mono ?_
  rintro e w1 ⟨rfl, rfl⟩
  go_wp2_with fail
  go_ret
  exact ⟨rfl, rfl⟩
set_option maxHeartbeats 4000000 in
set_option maxRecDepth 100000 in
theorem write_arg (h : DevS w g sa mb S low k D pw left wr) (i : Int) (ao : Option Addr) (n c : Nat) (hz : foundE S.length pw i = 0) (hl : ¬ i < low) (hn : n ≠ 256) :
    Calls Try.prog 11 #[.pointer (some ⟨g, 0, none⟩), .int .i64 i, .slice ao n c] w fun e w' => e = .returned (.int .i64 2) ∧ w' = w := by
  have HF := Lib.hid (found_any i h.dv)
  rw [hz] at HF
  obtain ⟨_, c1, _, _, _, _⟩ := h.dv.cells
  have t1 : decide (i < low) = false := by simpa using hl
  have t2 : ((n : Int) != 256) = true := by simp; omega
  have t3 : (n == 256) = false := by simpa using hn
  clear h hz hl hn
  go_enter Try.func11, Try.ntmps11
  go_wp2_with fail
  refine HF.out.mono ?_
  rintro e w1 ⟨rfl, rfl⟩
  go_wp2_with fail
  go_ret
  exact ⟨rfl, rfl⟩
set_option maxHeartbeats 4000000 in
set_option maxRecDepth 100000 in
theorem write_dead (h : DevS w g sa mb S low k D pw 0 wr) (i : Int) (ao : Option Addr) (c : Nat) (hz : foundE S.length pw i = 0) (hl : ¬ i < low) :
    Calls Try.prog 11 #[.pointer (some ⟨g, 0, none⟩), .int .i64 i, .slice ao 256 c] w fun e w' => e = .returned (.int .i64 91) ∧ w.grownBy w' (some g) ∧ Dv w' g (some ⟨sa, 0, none⟩) S.length S.length low (some mb) false 0 wr := by
  have HF := Lib.hid (found_any i h.dv)
  rw [hz] at HF
  have HL := Lib.hid (lasts_dead h.dv)
  obtain ⟨_, c1, _, _, _, _⟩ := h.dv.cells
  have t1 : decide (i < low) = false := by simpa using hl
  clear h hz hl
  go_enter Try.func11, Try.ntmps11
  go_wp2_with fail
  refine HF.out.mono ?_
  rintro e w1 ⟨rfl, rfl⟩
  go_wp2_with fail
  refine HL.out.mono ?_
  rintro e w2 ⟨rfl, hg, hd⟩
  have HG := Lib.hid hg
  have HD := Lib.hid hd
  clear hg hd
  go_wp2_with fail
  go_ret
  exact ⟨rfl, HG.out, HD.out⟩
set_option maxHeartbeats 4000000 in
set_option maxRecDepth 100000 in
theorem write_ok (h : DevS w g sa mb S low k D pw left wr) (i : Nat) (bb bo c : Nat) (l : List UInt8) (hz : foundE S.length pw (i : Int) = 0) (hi : i < S.length) (hn : S.length ≤ 4096) (hl : ¬ (i : Int) < low) (hb : Byt w (some ⟨bb, bo, none⟩) l) (hlen : l.length = 256)
    (hk : k < 1000000) (hl0 : left ≠ 0) (h0 : -1 ≤ left) (h1 : left ≤ 9223372036854775807) (h2 : 0 ≤ wr) (h3 : wr < 9223372036854775807) (hbg : bb ≠ g) (hbm : bb ≠ mb) :
    Calls Try.prog 11 #[.pointer (some ⟨g, 0, none⟩), .int .i64 (i : Int), .slice (some ⟨bb, bo, none⟩) 256 c] w fun e w' => e = .returned (.int .i64 0) ∧ Fr w w' [g, mb] ∧ DevS w' g sa mb S low (k + 1) (D.put (.int .i64 (i : Int)) (.lit (.string l))) pw (if 0 < left then left - 1 else left) (wr + 1) := by
  have HF := Lib.hid (found_any (i : Int) h.dv)
  rw [hz] at HF
  have HL := Lib.hid (lasts_any h.dv hl0 h0 h1 h2 h3)
  generalize (if 0 < left then left - 1 else left) = lf at HL ⊢
  obtain ⟨_, c1, _, _, _, _⟩ := h.dv.cells
  have t1 : decide ((i : Int) < low) = false := by simpa using hl
  have HH := Lib.hid h
  have HKY := Lib.hid (keyI (i : Int) (by omega) (by omega))
  have HR := Lib.hid (byt_range hb)
  have HIL : (Try.prog.info? 66).map (·.size) = some (bs l).length := by rw [info66, bs_len, hlen]
  have HLE := Lib.hid hlen
  have HU := Try.underlying66
  have hat : ∀ w, (Instr.arrayAt 66 (.slice (some ⟨bb, bo, none⟩) 256 c)).run Try.prog w = .ok (.pointer (some ⟨bb, bo, none⟩)) w := fun w => by
    simp [Instr.arrayAt, run_underlying Try.underlying66]
  have hgm : g ≠ mb := fun e => by
    have h1 := h.dv
    obtain ⟨es, cl, h2, _⟩ := h.map
    subst e
    unfold Dv Blk at h1
    rw [h1] at h2
    cases h2
  have hsg : sa ≠ g := fun e => by
    have h1 := h.dv
    have h2 := h.sec
    subst e
    unfold Dv Blk at h1
    unfold Blk at h2
    rw [h1] at h2
    injection h2 with h2
    injection h2 with _ h3
    cases h3
  have hsm : sa ≠ mb := fun e => by
    have h1 := h.sec
    obtain ⟨es, cl, h2, _⟩ := h.map
    subst e
    unfold Blk at h1
    rw [h1] at h2
    cases h2
  clear h hz hl hb hl0 h0 h1 h2 h3 hi hn hlen
  go_enter Try.func11, Try.ntmps11
  go_wp2_with fail
  refine HF.out.mono ?_
  rintro e w1 ⟨rfl, rfl⟩
  go_wp2_with fail
  refine HL.out.mono ?_
  rintro e w2 ⟨rfl, hg, hd⟩
  have HG := Lib.hid hg
  have HD := Lib.hid hd
  have MO0 : w2.ownsMap Try.prog 3 secR mb k D := HH.out.map.kept hg (fun e => by injection e with e; exact hgm e.symm)
  have MO : Hid (w2.drew.ownsMap Try.prog 3 secR mb k D) := Lib.hid MO0.drew
  clear MO0
  obtain ⟨wz, hrun, hown, hgz⟩ := MO.out.update (t := 59) lawI Try.underlying59 (by unfold maxLen; omega) HKY.out (secR_of l)
  have HO := Lib.hid hown
  have HGZ := Lib.hid hgz
  obtain ⟨_, _, d2, _, _, _⟩ := hd.cells
  have hr2 : w2.rangeAt bb bo (bs l) := fun j v hj => hg.cell (HR.out j v hj) (fun e => by injection e with e; exact hbg e)
  have HR2 := Lib.hid hr2
  have HD2 := Lib.hid d2
  have hrun' : (Instr.mapUpdate 59 (.map (some mb)) (.int .i64 (i : Int)) (.agg (bs l).toArray)).run Try.prog w2.drew = .ok () wz := hrun
  clear hown hgz hg hd hrun
  go_wp2_with fail
  go_region_held3 (fun w' => w'.cell? ⟨g, 2, none⟩ = some (.map (some mb)) ∧ w'.rangeAt bb bo (bs l))
    (first | go_keep | exact ⟨HD2.out, HR2.out⟩ | exact ⟨HGZ.out.cell HD2.out (fun e => by injection e with e; exact hgm e), fun j v hj => HGZ.out.cell (HR2.out j v hj) (fun e => by injection e with e; exact hbm e)⟩)
    (fail)
  go_wp2_with fail
  go_ret
  have HS := HH.out.sec
  have hgz : w2.grownBy wz (some mb) := ⟨HGZ.out.os, HGZ.out.tape, HGZ.out.output, HGZ.out.size, HGZ.out.block⟩
  refine ⟨rfl, (fr_grown HG.out (by simp)).trans (fr_grown hgz (by simp)), ?_, ?_, HH.out.len, HO.out⟩
  · have h1 := HD.out
    exact (hgz.block g h1.lt (fun e => by injection e with e; exact hgm e)).trans h1
  · have h1 : Blk w2 sa (S.flatMap bs) 66 := (HG.out.block sa HS.lt (fun e => by injection e with e; exact hsg e)).trans HS
    exact (hgz.block sa h1.lt (fun e => by injection e with e; exact hsm e)).trans h1
end Go.Proofs.Ytohmdcbfffgheaa.Dk
