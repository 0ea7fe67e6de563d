/-
  The contract of the document's own Write. Conditions: words and bytes are at most 2^47 bytes.
-/
import Derived.Test.YtpcmminokhmkjaaDoorWo
import Derived.Test.YtpcmminokhmkjaaDoorWe
import Derived.Deep.RegionLaw
namespace Go.Proofs.YtpcmminokhmkjaaDoor.Sh
open Go.RowKit Go.Lib

theorem ownw_below {w w' : World} {B : Nat} {v : Value} {l : List UInt32} (h : OwnW w B v l) (hb : Below w.heap.size w w') : OwnW w' B v l := by
  obtain ⟨h1, h2 | ⟨g, cap, cur, e, hB, hg, rest⟩⟩ := h
  · exact ⟨h1, Or.inl h2⟩
  · exact ⟨h1, Or.inr ⟨g, cap, cur, e, hB, (hb.block g (Array.getElem?_eq_some_iff.1 hg).1).trans hg, rest⟩⟩
set_option maxRecDepth 100000 in
theorem slice_mid (b o T c k : Nat) (h : k + 64 ≤ T) (hT : T ≤ c) (W : World) :
    (Instr.slice 59 (.slice (some ⟨b, o, none⟩) T c) (some (.int .i64 (k : Int))) (some (.int .i64 ((k : Int) + 64))) none).run Tryd.prog W = .ok (.slice (some ⟨b, o + k, none⟩) 64 (c - k)) W := by
  have hs := run_slice_lh (P := Tryd.prog) W 59 (some ⟨b, o, none⟩) T c (by rw [Tryd.underlying59]; rfl) .i64 .i64 (k : Int) ((k : Int) + 64) (by omega) (by omega) (by omega)
  rw [hs]
  have e3 : Tryd.prog.elem 59 = 5 := by kernel_rfl
  have e4 : ((k : Int) + 64).toNat = k + 64 := by omega
  rw [e3, e4, Int.toNat_natCast]
  have hne : ¬ c = k := by omega
  simp [Tryd.sizeOf5, sliced, Result.andThen, hne, WideShapes.add_plain]
set_option maxHeartbeats 2000000 in
set_option maxRecDepth 100000 in
theorem refwrite_bad (ha : Option Addr) (n hc : Nat) (ba : Option Addr) (m bc N : Nat) (bo : Option Addr) (p c : Nat) (w : World) (hm2 : m ≤ 9223372036854775807) (hN2 : N < 18446744073709551616)
    (hbad : (decide (n = 8) && decide (m = N % 64)) = false) :
    Calls Tryd.prog 43 #[.agg #[.slice ha n hc, .slice ba m bc, .int .u64 (N : Int)], .slice bo p c] w fun e w' => Below w.heap.size w w' ∧ e = .returned (.agg #[.slice ha n hc, .slice ba m bc, .int .u64 (N : Int)]) := by
  have C7 := fun W => refcheck_num n m N hc bc ha ba W hm2 hN2
  rw [hbad] at C7
  have c7 := Lib.hid C7
  clear C7 hbad
  have bx0 := bx_start w ha n hc ba m bc N
  go_enter Tryd.func43, Tryd.ntmps43
  go_wp2_with fail
  refine (c7.out _).mono ?_
  rintro e w1 ⟨rfl, b1⟩
  have BXN := Lib.hid (bx0.next b1)
  have f0 := BXN.out.c0
  have f1 := BXN.out.c1
  have f2 := BXN.out.c2
  have s0c := BXN.out.out.cell 0
  have s1c := BXN.out.out.cell 1
  have s2c := BXN.out.out.cell 2
  have sfz := fun j => BXN.out.out.frozen j
  simp only [List.getElem?_cons_zero, List.getElem?_cons_succ] at s0c s1c s2c
  have G1 : Hid (Blk (((w1.setCell ⟨w.heap.size + 1, 0, none⟩ (.slice ha n hc)).setCell ⟨w.heap.size + 1, 1, none⟩ (.slice ba m bc)).setCell ⟨w.heap.size + 1, 2, none⟩ (.int .u64 (N : Int))) (w.heap.size + 1) [.slice ha n hc, .slice ba m bc, .int .u64 (N : Int)] 75) := ((BXN.out.out.set 0 _).set 1 _).set 2 _
  have G2 : Hid (Below w.heap.size w (((w1.setCell ⟨w.heap.size + 1, 0, none⟩ (.slice ha n hc)).setCell ⟨w.heap.size + 1, 1, none⟩ (.slice ba m bc)).setCell ⟨w.heap.size + 1, 2, none⟩ (.int .u64 (N : Int)))) := ((BXN.out.low.setCell (Nat.le_succ _) _).setCell (Nat.le_succ _) _).setCell (Nat.le_succ _) _
  clear bx0 b1
  go_wp2_with fail
  exact bodyPost_ret (results_cell_row Tryd.results43 _ _ (w.heap.size + 1) 75 #[.slice ha n hc, .slice ba m bc, .int .u64 (N : Int)] (0, 0) _ rfl G1.out Tryd.underlying75 rfl info75) rfl ⟨G2.out, rfl⟩

set_option maxHeartbeats 8000000 in
set_option maxRecDepth 100000 in
theorem refwrite_good (ha : Option Addr) (hc : Nat) (ba : Option Addr) (m bc N : Nat) (H : List UInt32) (B b : List UInt8) (bo : Option Addr) (p c : Nat) (w : World)
    (hW : Wrd w ha H) (hH : H.length = 8) (hB : Byt w ba B) (hBn : ba = none → bc = 0) (hm : B.length = m) (hN : m = N % 64) (hN2 : N < 18446744073709551616)
    (hb : Byt w bo b) (hbn : bo = none → c = 0) (hp : b.length = p) (hp2 : p ≤ 140737488355200) :
    Calls Tryd.prog 43 #[.agg #[.slice ha 8 hc, .slice ba m bc, .int .u64 (N : Int)], .slice bo p c] w fun e w' => Below w.heap.size w w' ∧
      ∃ v hx cx bx dx, e = .returned v ∧ ShaV w' v ⟨(feed H (B ++ b)).1, (feed H (B ++ b)).2, (N + p) % 18446744073709551616⟩ hx cx bx dx := by
  obtain ⟨hb1, ho1, rfl, hlt1, _⟩ := hW (by intro h0; rw [h0] at hH; simp at hH)
  have C7 := fun W => refcheck_num 8 m N hc bc (some ⟨hb1, ho1, none⟩) ba W (by omega) hN2
  have e7 : (decide (8 = 8) && decide (m = N % 64)) = true := by simp [← hN]
  rw [e7] at C7
  have c7 := Lib.hid C7
  have HW := Lib.hid hW
  have HH := Lib.hid hH
  have HB := Lib.hid hB
  have HBn := Lib.hid hBn
  have HM := Lib.hid hm
  have Hb := Lib.hid hb
  have Hbn := Lib.hid hbn
  have HP := Lib.hid hp
  have hm64 : m < 64 := by omega
  have HN := Lib.hid hN
  clear hN C7 e7 hW hH hB hBn hm hb hbn hp
  have bx0 := bx_start w (some ⟨hb1, ho1, none⟩) 8 hc ba m bc N
  go_enter Tryd.func43, Tryd.ntmps43
  go_wp2_with fail
  refine (c7.out _).mono ?_
  rintro e w1 ⟨rfl, b1⟩
  have BX1 := Lib.hid (bx0.next b1)
  have f0 := fun o => (World.cell?_alloc_lt w1 o ⟨w.heap.size, 0, none⟩ (by have := BX1.out.out.lt; show w.heap.size < _; omega)).trans BX1.out.c0
  have lit := ownw_lit w1 [] w1.heap.size (Nat.le_refl _) (by simp)
  have ba1 := (Below.refl _ w1).alloc (Nat.le_refl _) (.cells #[] 91)
  have H1 := Lib.hid ((HW.out.below BX1.out.low).below ba1)
  have p1 : (([] : List UInt32).length + 8) * 4 ≤ 140737488355328 := by simp
  have p2 : w1.heap.size ≤ (w1.alloc (.cells #[] 91)).heap.size := by simp
  have LIT := Lib.hid lit
  have BA := Lib.hid ba1
  have HH8 : Hid (H.length = 8) := HH.out
  have p12' : ([] : List UInt8).length + m ≤ 140737488355328 := by simp; omega
  have p13' : B.length + p ≤ 140737488355328 := by rw [HM.out]; omega
  clear bx0 b1 lit ba1
  go_wp2_with (first
    | (at_builtin; refine wpl_appw_len (t := 72) (e := 91) rfl (.tmp 12) (.tmp 14) rfl Tryd.underlying72 info91 w1.heap.size (.slice (some ⟨w1.heap.size, 0, none⟩) 0 0) [] H rfl LIT.out (some ⟨hb1, ho1, none⟩) 8 hc rfl H1.out (fun h => by cases h) HH8 p1 p2 ?_; intro v2 w2 hown2 hgrow2
       have b2 : Below w1.heap.size w1 w2 := BA.out.grown hgrow2 p2 (fun k hk => (LIT.out.lt k hk).1)
       rw [List.nil_append] at hown2
       have O2 := Lib.hid (OwnW.low (show OwnW w2 w1.heap.size v2 H from hown2) (show w.heap.size + 2 ≤ w1.heap.size from BX1.out.out.lt))
       have BX2 := Lib.hid (BX1.out.next b2)
       clear hown2 hgrow2 b2 LIT BA H1 p1 p2 f0
       have f1 := fun o => (World.cell?_alloc_lt w2 o ⟨w.heap.size, 1, none⟩ (Nat.lt_of_succ_lt BX2.out.out.lt)).trans BX2.out.c1
       have LIT2 := Lib.hid (own_lit w2 [] w2.heap.size (Nat.le_refl _) (Nat.zero_le _))
       have BA2 := Lib.hid ((Below.refl _ w2).alloc (Nat.le_refl _) (.cells #[] 5))
       have H2 := Lib.hid ((HB.out.below BX2.out.low).below BA2.out)
       have p12 : ([] : List UInt8).length + m ≤ 140737488355328 := p12'
       have p22 : w2.heap.size ≤ (w2.alloc (.cells #[] 5)).heap.size := BA2.out.size)
    | (at_builtin; refine wpl_app_len (t := 59) (e := 5) rfl (.tmp 16) (.tmp 18) rfl Tryd.underlying59 info5 w2.heap.size (.slice (some ⟨w2.heap.size, 0, none⟩) 0 0) [] B rfl LIT2.out ba m bc rfl H2.out HBn.out HM p12 p22 ?_; intro v3 w3 hown3 hgrow3
       have b3 : Below w2.heap.size w2 w3 := BA2.out.grown hgrow3 p22 (fun k hk => (LIT2.out.lt k hk).1)
       rw [List.nil_append] at hown3
       have O3 := Lib.hid hown3
       have BX3 := Lib.hid (BX2.out.next b3)
       have H3 := Lib.hid (Hb.out.below BX3.out.low)
       have p13 : B.length + p ≤ 140737488355328 := p13'
       have p23 : w2.heap.size ≤ w3.heap.size := b3.size
       have B3 := Lib.hid b3
       clear hown3 hgrow3 b3)
    | (at_builtin; refine wpl_app_len (t := 59) (e := 5) rfl (.tmp 19) (.tmp 20) rfl Tryd.underlying59 info5 w2.heap.size v3 B b rfl O3.out bo p c rfl H3.out Hbn.out HP p13 p23 ?_; intro v4 w4 hown4 hgrow4
       have O4 := Lib.hid hown4
       have b4 : Below w2.heap.size w3 w4 := (Below.refl _ w3).grown hgrow4 p23 (fun k hk => (O3.out.lt k hk).1)
       have BX4 := Lib.hid (BX3.out.upto b4 BX2.out.out.lt)
       have B4 := Lib.hid b4
       clear hown4 hgrow4 b4))
  have O5 : Hid (OwnW w4 (w.heap.size + 2) v2 H) := ownw_below O2.out (B3.out.trans B4.out)
  obtain ⟨a4, c4, rfl, hc41, hc42, hr4, hn4⟩ := own_byt O4.out
  obtain ⟨A, hA⟩ : ∃ A, A = B ++ b := ⟨_, rfl⟩
  have HA := Lib.hid hA
  rw [← hA] at hc41 hr4 ⊢
  obtain ⟨T, hT⟩ : ∃ T, T = A.length := ⟨_, rfl⟩
  have HT := Lib.hid hT
  have hTb : T ≤ 140737488355328 := by rw [hT, hA, List.length_append, HP.out]; exact p13'
  rw [← hT] at hc41 ⊢
  have R4 := Lib.hid hr4
  have N4 := Lib.hid hn4
  obtain ⟨x0, x1, x2, x3, x4, x5, x6, x7, hHx⟩ := list8 HH.out
  rw [hHx] at O5
  have HHX := Lib.hid hHx
  have hsz4 : w.heap.size + 2 ≤ w4.heap.size := BX4.out.out.lt
  clear hA hT hr4 hn4 hHx O2 O3 O4 H3 LIT2 BA2 H2 p12 p22 p13 p23 B3 B4 f1
  go_loopw [5, 7] (fun v5 v7 wq => ∃ (k : Nat) (y0 y1 y2 y3 y4 y5 y6 y7 : UInt32), v7 = .int .i64 (k : Int) ∧ k ≤ T ∧ Hid (OwnW wq (w.heap.size + 2) v5 [y0, y1, y2, y3, y4, y5, y6, y7] ∧ Below w4.heap.size w4 wq) ∧ Hid (feed [y0, y1, y2, y3, y4, y5, y6, y7] (A.drop k) = feed H A)) (fun _ v7 _ => T - (RowKit.intOf v7).toNat)
  case atStart => exact ⟨0, x0, x1, x2, x3, x4, x5, x6, x7, rfl, by omega, ⟨O5.out, Below.refl _ _⟩, by rw [HHX.out]; rfl⟩
  case round =>
    obtain ⟨k, y0, y1, y2, y3, y4, y5, y6, y7, rfl, hkT, hwf, hff⟩ := hrel
    obtain ⟨gv, cv, rfl, hv1, hv2, hv3, hv4, hvW, _⟩ := own_wrd8 hwf.out.1 (n := 8) rfl (by decide)
    have VW := Lib.hid hvW
    clear hvW
    by_cases hk64 : k + 64 ≤ T
    · obtain ⟨bb, bo2, rfl, _, _⟩ := R4.out (by intro h0; have := HT.out; rw [h0] at this; simp at this; omega)
      have hms := slice_mid bb bo2 T c4 k hk64 hc41
      have hX : Hid (((A.drop k).take 64).length = 64) := by show _ = _; rw [List.length_take, List.length_drop, ← HT.out]; omega
      have RX : Hid (Byt wr (some ⟨bb, bo2 + k, none⟩) ((A.drop k).take 64)) := ((R4.out.below hwf.out.2).drop k).take 64
      have C25 := Lib.hid (into_any [y0, y1, y2, y3, y4, y5, y6, y7] ((A.drop k).take 64) (some ⟨gv, 0, none⟩) (some ⟨bb, bo2 + k, none⟩) cv (c4 - k) rfl hX.out wr VW.out RX.out)
      obtain ⟨t0, t1, t2, t3, t4, t5, t6, t7, hTT⟩ := list8 (into_len [y0, y1, y2, y3, y4, y5, y6, y7] ((A.drop k).take 64) rfl)
      have hf2 : Hid (feed [t0, t1, t2, t3, t4, t5, t6, t7] (A.drop (k + 64)) = feed H A) := by
        show _ = _
        rw [← hff.out, feed_ge [y0, y1, y2, y3, y4, y5, y6, y7] (A.drop k) (by rw [List.length_drop, ← HT.out]; omega), hTT, List.drop_drop]
      have HTT := Lib.hid hTT
      have BQ := Lib.hid hwf.out.2
      have hd : decide ((64 : Int) ≤ (T : Int) - (k : Int)) = true := by simp; omega
      have q0 : (0 : Int) ≤ (k : Int) := by omega
      have q1 : (k : Int) ≤ (k : Int) + 64 := by omega
      have q2 : (k : Int) + 64 ≤ (c4 : Int) := by omega
      have hne : ¬ c4 = k := by omega
      clear hTT hwf hff RX
      go_wp2_with fail
      refine C25.out.mono ?_
      rintro e w6 ⟨b6, v6, rfl, o6⟩
      rw [HTT.out] at o6
      have hi7 : w.heap.size + 2 ≤ wr.heap.size := Nat.le_trans hsz4 BQ.out.size
      have O6 := Lib.hid (OwnW.low o6 hi7)
      have B6 := Lib.hid (BQ.out.trans (b6.mono BQ.out.size))
      clear o6 b6
      go_wp2_with fail
      go_roundw
      case rel => exact ⟨k + 64, t0, t1, t2, t3, t4, t5, t6, t7, by go_num, by omega, ⟨O6.out, B6.out⟩, hf2.out⟩
      case measure => simp [RowKit.intOf]; omega
    · have hfe : Hid ((feed H A).1 = [y0, y1, y2, y3, y4, y5, y6, y7] ∧ (feed H A).2 = A.drop k) := by
        show _ ∧ _
        rw [← hff.out, feed_lt _ (A.drop k) (by rw [List.length_drop, ← HT.out]; omega)]
        exact ⟨rfl, rfl⟩
      obtain ⟨ar, hrun, hrb, hrn⟩ := slice_from a4 T c4 k A hkT HT.out N4.out hc41
      have LK0 : (A.drop k).length = T - k := by rw [List.length_drop, ← HT.out]
      obtain ⟨D, hD⟩ : ∃ D, D = A.drop k := ⟨_, rfl⟩
      rw [← hD] at hrb hfe LK0
      have LK : Hid (D.length = T - k) := LK0
      have RB : Hid (∀ W, Byt W a4 A → Byt W ar D) := hrb
      have RN := Lib.hid hrn
      have BW := Lib.hid (BX4.out.next hwf.out.2)
      have f2 := BW.out.c2
      have f2' := fun o => (World.cell?_alloc_lt wr o ⟨w.heap.size, 2, none⟩ (Nat.lt_of_succ_lt BW.out.out.lt)).trans BW.out.c2
      have bal := Lib.hid ((Below.refl wr.heap.size wr).alloc (Nat.le_refl _) (.cells #[] 5))
      have OW0 : Hid ((wr.alloc (.cells #[] 5)).drew.ownsRow wr.heap.size 5 1 (.slice (some ⟨wr.heap.size, 0, none⟩) 0 0) ([] : List UInt8).length (bs [])) := own_lit wr [] wr.heap.size (Nat.le_refl _) (Nat.zero_le _)
      have BY0 : Hid (Byt (wr.alloc (.cells #[] 5)).drew ar D) := (RB.out wr (R4.out.below hwf.out.2)).below bal.out.drew
      have BQ0 : Hid (Bx w (wr.alloc (.cells #[] 5)).drew (some ⟨hb1, ho1, none⟩) 8 hc ba m bc N) := (BW.out.next bal.out).drew
      have VW0 : Hid (Wrd (wr.alloc (.cells #[] 5)).drew (some ⟨gv, 0, none⟩) [y0, y1, y2, y3, y4, y5, y6, y7]) := VW.out.below bal.out.drew
      have pz : ([] : List UInt8).length + (T - k) ≤ 140737488355328 := by simp; omega
      have pb : wr.heap.size ≤ (wr.alloc (.cells #[] 5)).drew.heap.size := bal.out.size
      have hnl : Hid (w.heap.size + 1 < wr.heap.size) := BW.out.out.lt
      have OWlt : Hid (∀ j, (Value.slice (some ⟨wr.heap.size, 0, none⟩) 0 0).ownBlock = some j → wr.heap.size ≤ j) := fun j hj => (OW0.out.lt j hj).1
      have e1 : IntKind.u64.wrap (p : Int) = (p : Int) := by rw [u64_wrap]; omega
      have e2 : Hid (IntKind.u64.wrap ((N : Int) + (p : Int)) = (((N + p) % 18446744073709551616 : Nat) : Int)) := by show _ = _; rw [u64_wrap]; omega
      obtain ⟨N2, hN2e⟩ : ∃ N2, N2 = (N + p) % 18446744073709551616 := ⟨_, rfl⟩
      have e3 := e2.out
      rw [← hN2e] at e3
      have HN2 := Lib.hid hN2e
      have hd : decide ((64 : Int) ≤ (T : Int) - (k : Int)) = false := by simp; omega
      have q0 : (0 : Int) ≤ (k : Int) := by omega
      have q1 : (k : Int) ≤ (T : Int) := by omega
      clear hrb hrn hwf hff hN2e e2 VW LK0 hD
      go_wp2_with fail
      go_region_law (first
        | ((refine step_app0 (t := 59) (e := 5) rfl (.tmp 37) (.tmp 40) rfl Tryd.underlying59 info5 wr.heap.size (.slice (some ⟨wr.heap.size, 0, none⟩) 0 0) [] D (by simp [Act.eval, Act.put]) OW0.out ar (T - k) (c4 - k) (by simp [Act.eval, Act.put]) BY0.out RN.out LK pz pb ?_; intro v6 w6 hown6 hgrow6)
           have b6 : Below wr.heap.size (wr.alloc (.cells #[] 5)).drew w6 := (Below.refl _ _).grown hgrow6 pb OWlt.out
           rw [List.nil_append] at hown6
           obtain ⟨a6, c6, rfl, hc61, hc62, hr6, hn6⟩ := own_byt hown6
           have R6 := Lib.hid hr6
           have NE6 := Lib.hid (own_far hown6 hnl.out)
           have N6 := Lib.hid hn6
           have BX6 := Lib.hid (Bx.upto BQ0.out b6 hnl.out)
           have W6 := Lib.hid (wrd_low VW0.out hv2 b6)
           have g2 := BX6.out.c2
           have t0c := BX6.out.out.cell 0
           have t1c := BX6.out.out.cell 1
           have t2c := BX6.out.out.cell 2
           have tfz := fun j => BX6.out.out.frozen j
           simp only [List.getElem?_cons_zero, List.getElem?_cons_succ] at t0c t1c t2c
           clear b6 hown6 hgrow6 hr6 hn6))
      all_goals
        obtain ⟨F1, F2, F3⟩ := copy_fin (N := N2) (n := 8) (m := D.length) BX6.out W6.out (fun h => by cases h) hv3 hv4 (fun b o h => by injection h with h; injection h with h1 h2; omega) R6.out N6.out hc61 hc62 NE6.out (by rw [HN2.out]; omega) rfl rfl
        have G1 := Lib.hid F1
        have G2 := Lib.hid F2
        have G3 := Lib.hid F3
        clear F1 F2 F3
        go_wp2_with fail
        refine bodyPost_ret (results_cell_row Tryd.results43 _ _ (w.heap.size + 1) 75 #[.slice (some ⟨gv, 0, none⟩) 8 cv, .slice a6 D.length c6, .int .u64 (N2 : Int)] (0, 0) _ rfl G1.out Tryd.underlying75 rfl info75) rfl ⟨G2.out, _, some ⟨gv, 0, none⟩, cv, a6, c6, rfl, ?_⟩
        have hfe' := hfe.out
        rw [HA.out] at hfe'
        rw [hfe'.1, hfe'.2, ← HN2.out]
        exact G3.out
end Go.Proofs.YtpcmminokhmkjaaDoor.Sh
