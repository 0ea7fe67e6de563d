/-
  Both contracts of Crash, of a list of whatever length. Conditions: each law's own.
-/
import Derived.Test.YtohmdcbfffgheaaXr
import Derived.BigQuiet
namespace Go.Proofs.Ytohmdcbfffgheaa.Dk
open Go.RowKit Go.Lib Go.Maps
section
variable {w : World} {g sa mb : Nat} {S : List (List UInt8)} {low : Int} {k : Nat} {D : DataW Unit} {pw : Bool} {left nw : Int}
set_option maxHeartbeats 4000000 in
set_option maxRecDepth 100000 in
theorem crash_all (h : DevS w g sa mb S low k D pw left nw) (hI : InD D S.length) (h0 : S.length ≠ 0) (hn : S.length ≤ 4096) (ao : Option Addr) (ks : List Int) (c : Nat) (hk : Keep w ao [sa, mb] ks) (hr : ∀ x ∈ ks, -9223372036854775808 ≤ x ∧ x ≤ 9223372036854775807) (hm : ks.length ≤ 9223372036854775807) :
    Calls Try.prog 24 #[.pointer (some ⟨g, 0, none⟩), .slice ao ks.length c] w fun e w' => e = .returned (.tuple #[]) ∧ Fr w w' [g, sa, mb] ∧ DevS w' g sa mb (settled S D ks).1 low 0 (.map []) false (-1) nw := by
  have HM := Lib.hid (made_any h.dv)
  have t1 : decide (0 < S.length) = true := by simp; omega
  rw [t1] at HM
  have HH := Lib.hid h
  have HI := Lib.hid hI
  have HK := Lib.hid hk
  have HR := Lib.hid hr
  have HN := Lib.hid hn
  have F0 := Lib.hid (Fr.refl w [sa, mb])
  clear h hI hk hr hn h0 t1
  go_enter Try.func24, Try.ntmps24
  go_wp2_with fail
  refine HM.out.mono ?_
  rintro e w1 ⟨rfl, rfl⟩
  clear HM
  go_wp2_with fail
  go_loopw [11] (fun vi wr => ∃ j : Nat, j ≤ ks.length ∧ vi = .int .i64 (j : Nat) ∧ Hid (Fr w1 wr [sa, mb]) ∧ Hid (DevS wr g sa mb (settled S D (ks.take j)).1 low k (settled S D (ks.take j)).2 pw left nw)) (fun vi _ => ks.length - (RowKit.intOf vi).toNat)
  case atStart => exact ⟨0, by omega, rfl, F0, HH⟩
  case round =>
    obtain ⟨j, hj, rfl, hF, hD⟩ := hrel
    by_cases hjn : j < ks.length
    · obtain ⟨kb, ko, rfl, hkb, hkn, hc⟩ := HK.out (by intro h0; rw [h0] at hjn; simp at hjn)
      have c1 : wr.cell? ⟨kb, ko + j, none⟩ = some (.int .i64 ks[j]) := (hF.out.cell hkb hkn).trans (hc j hjn)
      have hx := HR.out ks[j] (List.getElem_mem hjn)
      have C1 := Lib.hid (settle_any hD.out (by rw [settled_len]; exact settled_in _ _ _ HI.out) (by rw [settled_len]; exact HN.out) ks[j] hx.1 hx.2)
      have hst := Lib.hid (settled_take S D ks j hjn)
      generalize ks[j] = x at *
      have q1 : (0 : Int) ≤ (j : Int) := by omega
      clear hc hkb hkn hx
      go_wp2_with fail
      refine C1.out.mono ?_
      rintro e w2 ⟨rfl, hf2, hd2⟩
      have HF2 := Lib.hid (hF.out.trans hf2)
      have HD2 : Hid (DevS w2 g sa mb (settled S D (ks.take (j + 1))).1 low k (settled S D (ks.take (j + 1))).2 pw left nw) := by rw [hst.out]; exact hd2
      clear hf2 hd2
      go_wp2_with fail
      go_roundw
      case rel => exact ⟨j + 1, by omega, by go_num, HF2, HD2⟩
      case measure => simp [RowKit.intOf]; omega
    · obtain rfl : j = ks.length := by omega
      rw [List.take_length] at hD
      obtain ⟨_, _, c2, _, _, _⟩ := hD.out.dv.cells
      have HD := Lib.hid hD.out.dv
      have HS := Lib.hid hD.out.sec
      have HL := Lib.hid hD.out.len
      have HMA := Lib.hid hD.out.map
      have AP := Lib.hid hD.out.apart
      go_wp2_with (refine wpList_clear_own _ rfl _ 59 rfl 66 Try.underlying59 secR mb k (settled S D ks).2 rfl HMA.out ?_; intro w4 hown hmt; have hd4 := blk_row HD.out hmt.grown (fun e => by injection e with e; exact AP.out.1 e); have c3 := Blk.cell hd4 3; have c4 := Blk.cell hd4 4; have f3 := Blk.frozen hd4 3; have f4 := Blk.frozen hd4 4; have HD4 := Lib.hid hd4; have HW4 := Lib.hid hown; have HT4 := Lib.hid hmt; clear hd4 hown hmt)
      go_end0
      have hmt := HT4.out.grown
      have gg := gb_trans (gb_set w4 g 3 (.bool false)) (gb_set (w4.setCell ⟨g, 3, none⟩ (.bool false)) g 4 (.int .i64 (-1)))
      have hfr : Fr w1 wr [g, sa, mb] := ⟨hF.out.os, hF.out.tape, hF.out.output, hF.out.size, fun i hi hne => hF.out.block i hi (fun e => hne (by simp at e ⊢; exact .inr e))⟩
      refine ⟨rfl, (hfr.trans (fr_grown hmt (by simp))).trans (fr_grown gg (by simp)), dv_two HD4.out false (-1), ?_, HL.out, HW4.out.kept gg (fun e => by injection e with e; exact AP.out.1 e.symm)⟩
      have h1 := blk_row HS.out hmt (fun e => by injection e with e; exact AP.out.2.2 e)
      exact blk_row h1 gg (fun e => by injection e with e; exact AP.out.2.1 e)
end
section
variable {w : World} {A : List Nat} {g gi bb rb : Nat} {S : List (List UInt8)} {low : Int} {P : Nat → Option (List UInt8)} {dead armed : Bool} {left nw : Int}
set_option maxHeartbeats 4000000 in
set_option maxRecDepth 100000 in
theorem rcrash_all (h : RefS w A g gi bb rb S low P dead armed left nw) (hA : ∀ a ∈ A, a < w.heap.size) (ao : Option Addr) (ks : List Int) (n c : Nat) (hk : Keep w ao [gi] ks) (hn : ks.length = n) (hn9 : n ≤ 9223372036854775807) (hks : ∀ k ∈ ks, -9223372036854775808 ≤ k ∧ k ≤ 9223372036854775807) :
    Calls Try.prog 25 #[.pointer (some ⟨g, 0, none⟩), .slice ao n c] w fun e w' => e = .returned (.tuple #[]) ∧ Fr w w' [g, gi] ∧ ∃ b2, w.heap.size ≤ b2 ∧ RefS w' A g gi b2 rb (crS P S ks) low (fun _ => none) true false left nw := by
  have HH := Lib.hid h
  have HK := Lib.hid hk
  have HN := Lib.hid hn
  have HAL := Lib.hid hA
  have HKS := Lib.hid hks
  clear h hk hn hA hks
  go_enter Try.func25, Try.ntmps25
  go_wp2_with fail
  go_loopw [4] (fun vi wr => ∃ j : Nat, j ≤ n ∧ vi = .int .i64 j ∧ Hid (Fr w wr [gi]) ∧ Hid (RefS wr A g gi bb rb (crS P S (ks.take j)) low P dead armed left nw)) (fun vi _ => n - (RowKit.intOf vi).toNat)
  case atStart => exact ⟨0, by omega, rfl, Fr.refl _ _, HH.out⟩
  case round =>
    obtain ⟨j, hj, rfl, hF, hR⟩ := hrel
    obtain ⟨cp, j1, j2, dd⟩ := hR.out.dv
    rw [crS_len] at dd
    have c2 : wr.cell? ⟨g, 2, none⟩ = some (.slice (some ⟨bb, 0, none⟩) S.length S.length) := Blk.cell dd 2
    by_cases hjn : j < n
    · have hjl : j < ks.length := by have := HN.out; omega
      obtain ⟨b, o, rfl, hb, x0⟩ := zrw_cellW (HK.out.turn hF.out).zrw j hjl
      have HC := Lib.hid (crS_snoc P S ks j hjl)
      have q1 : (0 : Int) ≤ (j : Int) := by omega
      have q2 : (j : Int) < (n : Int) := by omega
      generalize ks.getD j 0 = k at *
      clear dd j1 j2
      by_cases hk0 : 0 ≤ k
      · obtain ⟨y, rfl⟩ : ∃ y : Nat, k = (y : Int) := ⟨k.toNat, by omega⟩
        have t1 : decide ((0 : Int) ≤ (y : Int)) = true := by simp
        by_cases hyn : y < S.length
        · have t2 : decide ((y : Int) < (S.length : Int)) = true := by simp; omega
          have HS : Hid (stepS (crS P S (ks.take j)) P y = crS P S (ks.take (j + 1))) := by
            show _ = _
            rw [HC.out, crStep, if_pos ⟨by omega, by rw [crS_len]; omega⟩]
            simp
          have HX := Lib.hid x0
          have HHB := Lib.hid hb
          go_wp2_with fail
          go_quiet (fail)
          have HR2 := Lib.hid (hR.out.kept (fr_drewN wr nq []) (by simp))
          have HF2 := Lib.hid (hF.out.trans (fr_drewN wr nq [gi]))
          have x2 : (wr.drewN nq).cell? ⟨b, o + j, none⟩ = some (.int .i64 (y : Int)) := ((below_drewN (Below.refl wr.heap.size wr) nq).cell (p := ⟨b, o + j, none⟩) HHB.out).trans HX.out
          clear x0 c2 hb hR hF HX HHB
          generalize wr.drewN nq = wd at *
          have HP := Lib.hid (rput_any HR2.out y (by rw [crS_len]; exact hyn))
          go_wp2_with fail
          refine HP.out.mono ?_
          rintro e w2 ⟨rfl, hf2, hr2⟩
          rw [HS.out] at hr2
          have HR3 := Lib.hid hr2
          have HF3 := Lib.hid (HF2.out.trans hf2)
          clear hf2 hr2
          go_wp2_with fail
          go_roundw
          case rel => exact ⟨j + 1, by omega, by go_num, HF3, HR3⟩
          case measure => simp [RowKit.intOf]; omega
        · have t2 : decide ((y : Int) < (S.length : Int)) = false := by simp; omega
          have HS : Hid (crS P S (ks.take j) = crS P S (ks.take (j + 1))) := by
            show _ = _
            rw [HC.out, crStep, if_neg (by rw [crS_len]; omega)]
          go_wp2_with fail
          go_quiet (fail)
          have HR2 := hR.out.kept (fr_drewN wr nq []) (by simp)
          have HF2 := Lib.hid (hF.out.trans (fr_drewN wr nq [gi]))
          rw [HS.out] at HR2
          have HR3 := Lib.hid HR2
          clear x0 c2 hb hR hF HR2
          generalize wr.drewN nq = wd at *
          go_wp2_with fail
          go_roundw
          case rel => exact ⟨j + 1, by omega, by go_num, HF2, HR3⟩
          case measure => simp [RowKit.intOf]; omega
      · have t1 : decide ((0 : Int) ≤ k) = false := by simpa using hk0
        have HS : Hid (crS P S (ks.take j) = crS P S (ks.take (j + 1))) := by
          show _ = _
          rw [HC.out, crStep, if_neg (fun e => hk0 e.1)]
        go_wp2_with fail
        go_quiet (fail)
        have HR2 := hR.out.kept (fr_drewN wr nq []) (by simp)
        have HF2 := Lib.hid (hF.out.trans (fr_drewN wr nq [gi]))
        rw [HS.out] at HR2
        have HR3 := Lib.hid HR2
        clear x0 c2 hb hR hF HR2
        generalize wr.drewN nq = wd at *
        go_wp2_with fail
        go_roundw
        case rel => exact ⟨j + 1, by omega, by go_num, HF2, HR3⟩
        case measure => simp [RowKit.intOf]; omega
    · obtain rfl : j = n := by omega
      have HR2 : Hid (RefS wr A g gi bb rb (crS P S ks) low P dead armed left nw) := by
        have := hR.out
        rw [List.take_of_length_le (by rw [HN.out]; exact Nat.le_refl _)] at this
        exact this
      have hS2 := HH.out.n2
      have HDD := Lib.hid dd
      obtain ⟨i4, jj0, jj1, jj2, jj3⟩ := info_parts info4d
      clear hR dd j1 j2
      go_wp2_with (refine wpList_make_full wr rfl _ _ 74 rfl wr.heap.size 4 i4 (.bool false) 1 Try.underlying74 jj0 jj1 jj2 .i64 .i64 _ _ S.length rfl rfl rfl rfl (by rw [jj3]; omega) (by unfold maxLen; omega) (Nat.le_refl _) ?_; intro w2 how hg2; rw [made_one _ rfl] at how; have HNB := Lib.hid (full_any how); have HG2 := Lib.hid hg2; have HD2 := Lib.hid (blk_row HDD.out hg2 (by simp)); have s2 := Blk.cell HD2.out 2; have s4 := Blk.cell HD2.out 4; have s5 := Blk.cell HD2.out 5; have f2 := Blk.frozen HD2.out 2; have f4 := Blk.frozen HD2.out 4; have f5 := Blk.frozen HD2.out 5; simp only [rvC, List.getElem?_cons_zero, List.getElem?_cons_succ] at s2 s4 s5; clear how hg2)
      go_end0
      have hlt := HDD.out.lt
      have hgn : g ≠ wr.heap.size := Nat.ne_of_lt hlt
      have hD3 := rv_armed (rv_dead (rv_bo HD2.out (.slice (some ⟨wr.heap.size, 0, none⟩) S.length S.length)) true) false
      have hgb : w2.grownBy (((w2.setCell ⟨g, 2, none⟩ (.slice (some ⟨wr.heap.size, 0, none⟩) S.length S.length)).setCell ⟨g, 4, none⟩ (.bool true)).setCell ⟨g, 5, none⟩ (.bool false)) (some g) := gb_trans (gb_trans (gb_set _ g 2 _) (gb_set _ g 4 _)) (gb_set _ g 5 _)
      have hF1 : Fr wr w2 [g] := ⟨HG2.out.os, HG2.out.tape, HG2.out.output, HG2.out.size, fun n hn _ => HG2.out.block n hn (by simp)⟩
      have hF2 := hF1.trans (fr_grown hgb (by simp))
      refine ⟨rfl, (hF.out.wide (by simp)).trans (hF2.wide (by simp)), wr.heap.size, hF.out.size, HR2.out.crashed hF2 ?_ ?_ (fun im bo ro hd => ?_)⟩
      · rw [crS_len]
        exact blk_row HNB.out hgb (fun e => by injection e with e; exact hgn e.symm)
      · obtain ⟨cs, i1, _⟩ := HR2.out.im
        obtain ⟨rl, r1, _⟩ := HR2.out.ro
        have y1 := i1.lt
        have y2 := r1.lt
        have y3 := hF.out.size
        exact ⟨by omega, by omega, by omega, fun e => by have := HAL.out _ e; omega⟩
      · obtain ⟨rfl, rfl, rfl⟩ := rv_same hd HDD.out
        rw [crS_len]
        exact hD3
end
end Go.Proofs.Ytohmdcbfffgheaa.Dk
