/-
  The document's own page of layer 9: Crash. Conditions: each law's own.
-/
import Derived.Test.YtohmdcbfffgheaaXn
import Derived.Test.YtohmdcbfffgheaaXg
import Derived.BigQuiet
namespace Go.Proofs.Ytohmdcbfffgheaa.Dk
open Go.RowKit Go.Lib Go.Maps
variable {w : World} {A : List Nat} {g gi bb rb : Nat} {S : List (List UInt8)} {low : Int} {P : Nat → Option (List UInt8)} {dead armed : Bool} {left nw : Int}
theorem rv_bo {w : World} {g : Nat} {im bo ro : Value} {low : Int} {dead armed : Bool} {left nw : Int} (h : Rv w g im bo ro low dead armed left nw) (x : Value) : Rv (w.setCell ⟨g, 2, none⟩ x) g im x ro low dead armed left nw := by
  have h2 := Blk.set h 2 x
  simpa [rvC, Rv] using h2
theorem fr_drewN (w : World) (q : Nat) (N : List Nat) : Fr w (w.drewN q) N := fr_below (below_drewN (Below.refl _ w) q) N
/-- what a crash keeps: the sectors that it lists -/
def crStep (P : Nat → Option (List UInt8)) (S : List (List UInt8)) (k : Int) : List (List UInt8) := if 0 ≤ k ∧ k < (S.length : Int) then stepS S P k.toNat else S
def crS (P : Nat → Option (List UInt8)) (S : List (List UInt8)) (ks : List Int) : List (List UInt8) := ks.foldl (crStep P) S
theorem crStep_len (P : Nat → Option (List UInt8)) (S : List (List UInt8)) (k : Int) : (crStep P S k).length = S.length := by
  unfold crStep
  split
  · exact stepS_len _ _ _
  · rfl
theorem crS_len (P : Nat → Option (List UInt8)) : ∀ (ks : List Int) (S : List (List UInt8)), (crS P S ks).length = S.length
  | [], _ => rfl
  | k :: r, S => by
    show (crS P (crStep P S k) r).length = _
    rw [crS_len P r, crStep_len]
theorem crS_snoc (P : Nat → Option (List UInt8)) (S : List (List UInt8)) (ks : List Int) (j : Nat) (hj : j < ks.length) : crS P S (ks.take (j + 1)) = crStep P (crS P S (ks.take j)) (ks.getD j 0) := by
  rw [List.take_succ_eq_append_getElem hj, crS, List.foldl_append, List.getD_eq_getElem?_getD, List.getElem?_eq_getElem hj]
  rfl
/-- nothing is written any more: a new row of bools -/
theorem RefS.crashed (h : RefS w A g gi bb rb S low P dead armed left nw) {w' : World} (hf : Fr w w' [g]) {b2 : Nat} (hb : Blk w' b2 (List.replicate S.length (.bool false)) 4) (hn : b2 ≠ gi ∧ b2 ≠ rb ∧ b2 ≠ g ∧ b2 ∉ A)
    (d : ∀ im bo ro, Rv w g im bo ro low dead armed left nw → Rv w' g im (.slice (some ⟨b2, 0, none⟩) S.length S.length) ro low true false left nw) : RefS w' A g gi b2 rb S low (fun _ => none) true false left nw := by
  obtain ⟨cap, c1, c2, dd⟩ := h.dv
  obtain ⟨cs, i1, i2⟩ := h.im
  obtain ⟨rl, r1, r2, r3, r4⟩ := h.ro
  obtain ⟨n1, n2, n3, n4, n5, n6⟩ := h.ne
  obtain ⟨m1, m2, m3, m4⟩ := hn
  obtain ⟨a1, a2, a3, a4⟩ := h.aw
  have e : boL S.length (fun _ => none) = List.replicate S.length (.bool false) := by
    apply List.ext_getElem?
    intro j
    by_cases hj : j < S.length <;> simp [boL, hj]
  exact ⟨⟨cap, c1, c2, d _ _ _ dd⟩, ⟨cs, hf.blk i1 (by simpa using fun e => n1 e.symm), i2⟩, by rw [e]; exact hb, ⟨rl, hf.blk r1 (by simpa using fun e => n3 e.symm), r2, r3, fun i s hs _ => by cases hs⟩, h.len, h.n1, h.n2, ⟨n1, fun e => m3 e.symm, n3, fun e => m1 e.symm, n5, m2⟩, a1, a2, m4, a4⟩
set_option maxHeartbeats 4000000 in
set_option maxRecDepth 100000 in
theorem rcrash_any (h : RefS w A g gi bb rb S low P dead armed left nw) (hA : ∀ a ∈ A, a < w.heap.size) (ao : Option Addr) (ks : List Int) (n c : Nat) (hk : Keep w ao [gi] ks) (hn : ks.length = n) (hn9 : n ≤ 1000000) (hks : ∀ k ∈ ks, -9223372036854775808 ≤ k ∧ k ≤ 9223372036854775807) :
    Calls Try.prog 25 #[.pointer (some ⟨g, 0, none⟩), .slice ao n c] w fun e w' => e = .returned (.tuple #[]) ∧ Fr w w' [g, gi] ∧ ∃ b2, w.heap.size ≤ b2 ∧ RefS w' A g gi b2 rb (crS P S ks) low (fun _ => none) true false left nw := by
  have HH := Lib.hid h
  have HK := Lib.hid hk
  have HN := Lib.hid hn
  have HAL := Lib.hid hA
  have HKS := Lib.hid hks
  clear h hk hn hA hks
  go_enter Try.func25, Try.ntmps25
  go_wp2_with fail
  go_loopw [4] (fun vi wr => ∃ j : Nat, j ≤ n ∧ vi = .int .i64 j ∧ Hid (Fr w wr [gi]) ∧ Hid (RefS wr A g gi bb rb (crS P S (ks.take j)) low P dead armed left nw)) (fun vi _ => n - (RowKit.intOf vi).toNat)
  case atStart => exact ⟨0, by omega, rfl, Fr.refl _ _, HH.out⟩
  case round =>
    obtain ⟨j, hj, rfl, hF, hR⟩ := hrel
    obtain ⟨cp, j1, j2, dd⟩ := hR.out.dv
    rw [crS_len] at dd
    have c2 : wr.cell? ⟨g, 2, none⟩ = some (.slice (some ⟨bb, 0, none⟩) S.length S.length) := Blk.cell dd 2
    by_cases hjn : j < n
    · have hjl : j < ks.length := by have := HN.out; omega
      obtain ⟨b, o, rfl, hb, x0⟩ := zrw_cellW (HK.out.turn hF.out).zrw j hjl
      have HC := Lib.hid (crS_snoc P S ks j hjl)
      have q1 : (0 : Int) ≤ (j : Int) := by omega
      have q2 : (j : Int) < (n : Int) := by omega
      generalize ks.getD j 0 = k at *
      clear dd j1 j2
      by_cases hk0 : 0 ≤ k
      · obtain ⟨y, rfl⟩ : ∃ y : Nat, k = (y : Int) := ⟨k.toNat, by omega⟩
        have t1 : decide ((0 : Int) ≤ (y : Int)) = true := by simp
        by_cases hyn : y < S.length
        · have t2 : decide ((y : Int) < (S.length : Int)) = true := by simp; omega
          have HS : Hid (stepS (crS P S (ks.take j)) P y = crS P S (ks.take (j + 1))) := by
            show _ = _
            rw [HC.out, crStep, if_pos ⟨by omega, by rw [crS_len]; omega⟩]
            simp
          have HX := Lib.hid x0
          have HHB := Lib.hid hb
          go_wp2_with fail
          go_quiet (fail)
          have HR2 := Lib.hid (hR.out.kept (fr_drewN wr nq []) (by simp))
          have HF2 := Lib.hid (hF.out.trans (fr_drewN wr nq [gi]))
          have x2 : (wr.drewN nq).cell? ⟨b, o + j, none⟩ = some (.int .i64 (y : Int)) := ((below_drewN (Below.refl wr.heap.size wr) nq).cell (p := ⟨b, o + j, none⟩) HHB.out).trans HX.out
          clear x0 c2 hb hR hF HX HHB
          generalize wr.drewN nq = wd at *
          have HP := Lib.hid (rput_any HR2.out y (by rw [crS_len]; exact hyn))
          go_wp2_with fail
          refine HP.out.mono ?_
          rintro e w2 ⟨rfl, hf2, hr2⟩
          rw [HS.out] at hr2
          have HR3 := Lib.hid hr2
          have HF3 := Lib.hid (HF2.out.trans hf2)
          clear hf2 hr2
          go_wp2_with fail
          go_roundw
          case rel => exact ⟨j + 1, by omega, by go_num, HF3, HR3⟩
          case measure => simp [RowKit.intOf]; omega
        · have t2 : decide ((y : Int) < (S.length : Int)) = false := by simp; omega
          have HS : Hid (crS P S (ks.take j) = crS P S (ks.take (j + 1))) := by
            show _ = _
            rw [HC.out, crStep, if_neg (by rw [crS_len]; omega)]
          go_wp2_with fail
          go_quiet (fail)
          have HR2 := hR.out.kept (fr_drewN wr nq []) (by simp)
          have HF2 := Lib.hid (hF.out.trans (fr_drewN wr nq [gi]))
          rw [HS.out] at HR2
          have HR3 := Lib.hid HR2
          clear x0 c2 hb hR hF HR2
          generalize wr.drewN nq = wd at *
          go_wp2_with fail
          go_roundw
          case rel => exact ⟨j + 1, by omega, by go_num, HF2, HR3⟩
          case measure => simp [RowKit.intOf]; omega
      · have t1 : decide ((0 : Int) ≤ k) = false := by simpa using hk0
        have HS : Hid (crS P S (ks.take j) = crS P S (ks.take (j + 1))) := by
          show _ = _
          rw [HC.out, crStep, if_neg (fun e => hk0 e.1)]
        go_wp2_with fail
        go_quiet (fail)
        have HR2 := hR.out.kept (fr_drewN wr nq []) (by simp)
        have HF2 := Lib.hid (hF.out.trans (fr_drewN wr nq [gi]))
        rw [HS.out] at HR2
        have HR3 := Lib.hid HR2
        clear x0 c2 hb hR hF HR2
        generalize wr.drewN nq = wd at *
        go_wp2_with fail
        go_roundw
        case rel => exact ⟨j + 1, by omega, by go_num, HF2, HR3⟩
        case measure => simp [RowKit.intOf]; omega
    · obtain rfl : j = n := by omega
      have HR2 : Hid (RefS wr A g gi bb rb (crS P S ks) low P dead armed left nw) := by
        have := hR.out
        rw [List.take_of_length_le (by rw [HN.out]; exact Nat.le_refl _)] at this
        exact this
      have hS2 := HH.out.n2
      have HDD := Lib.hid dd
      obtain ⟨i4, jj0, jj1, jj2, jj3⟩ := info_parts info4d
      clear hR dd j1 j2
      go_wp2_with (refine wpList_make_full wr rfl _ _ 74 rfl wr.heap.size 4 i4 (.bool false) 1 Try.underlying74 jj0 jj1 jj2 .i64 .i64 _ _ S.length rfl rfl rfl rfl (by rw [jj3]; omega) (by unfold maxLen; omega) (Nat.le_refl _) ?_; intro w2 how hg2; rw [made_one _ rfl] at how; have HNB := Lib.hid (full_any how); have HG2 := Lib.hid hg2; have HD2 := Lib.hid (blk_row HDD.out hg2 (by simp)); have s2 := Blk.cell HD2.out 2; have s4 := Blk.cell HD2.out 4; have s5 := Blk.cell HD2.out 5; have f2 := Blk.frozen HD2.out 2; have f4 := Blk.frozen HD2.out 4; have f5 := Blk.frozen HD2.out 5; simp only [rvC, List.getElem?_cons_zero, List.getElem?_cons_succ] at s2 s4 s5; clear how hg2)
      go_end0
      have hlt := HDD.out.lt
      have hgn : g ≠ wr.heap.size := Nat.ne_of_lt hlt
      have hD3 := rv_armed (rv_dead (rv_bo HD2.out (.slice (some ⟨wr.heap.size, 0, none⟩) S.length S.length)) true) false
      have hgb : w2.grownBy (((w2.setCell ⟨g, 2, none⟩ (.slice (some ⟨wr.heap.size, 0, none⟩) S.length S.length)).setCell ⟨g, 4, none⟩ (.bool true)).setCell ⟨g, 5, none⟩ (.bool false)) (some g) := gb_trans (gb_trans (gb_set _ g 2 _) (gb_set _ g 4 _)) (gb_set _ g 5 _)
      have hF1 : Fr wr w2 [g] := ⟨HG2.out.os, HG2.out.tape, HG2.out.output, HG2.out.size, fun n hn _ => HG2.out.block n hn (by simp)⟩
      have hF2 := hF1.trans (fr_grown hgb (by simp))
      refine ⟨rfl, (hF.out.wide (by simp)).trans (hF2.wide (by simp)), wr.heap.size, hF.out.size, HR2.out.crashed hF2 ?_ ?_ (fun im bo ro hd => ?_)⟩
      · rw [crS_len]
        exact blk_row HNB.out hgb (fun e => by injection e with e; exact hgn e.symm)
      · obtain ⟨cs, i1, _⟩ := HR2.out.im
        obtain ⟨rl, r1, _⟩ := HR2.out.ro
        have y1 := i1.lt
        have y2 := r1.lt
        have y3 := hF.out.size
        exact ⟨by omega, by omega, by omega, fun e => by have := HAL.out _ e; omega⟩
      · obtain ⟨rfl, rfl, rfl⟩ := rv_same hd HDD.out
        rw [crS_len]
        exact hD3
end Go.Proofs.Ytohmdcbfffgheaa.Dk
