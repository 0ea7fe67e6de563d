/-
  What must come at any rate: the contract of the law's own heads. Conditions: each law's own.
-/
import Derived.Test.YtekaboomhljdoaaGreatDoorPkB
namespace Go.Proofs.YtekaboomhljdoaaGreatDoor.Sh
open Lb Go.Proofs.YtekaboomhljdoaaGreatDoor.Pc Go.RowKit Go.Lib
open Go.Proofs.YtekaboomhljdoaaGreatDoor.Dk hiding Blk made_any size_any below_chain

theorem mark_byt (w : World) (l : List UInt8) (fr : Nat × Nat) : Byt (w.alloc (.cells (bs l).toArray 5 fr)) (some ⟨w.heap.size, 0, none⟩) l := fun _ => ⟨w.heap.size, 0, rfl, by simp, fun j hj => by
  rw [cell_of_row _ _ _ _ _ _ (heap_alloc_new w (.cells (bs l).toArray 5 fr)), Nat.zero_add]
  simpa using bs_get l j hj⟩
theorem put2_len : (putL 2).length = 1 := by decide
theorem recA_len : (recB (1, [97, 98])).length = 9 := by rw [recB_len]; simp [put2_len]
theorem recC_len : (recB (2, [99])).length = 8 := by rw [recB_len]; simp [put1_len]
theorem all_ac : (allR [((1, [97, 98]) : Rcd), (2, [99])]).length = 17 := by rw [allR_cons, allR_one, List.length_append, recA_len, recC_len]
theorem offs_ac : offs 0 [((1, [97, 98]) : Rcd), (2, [99])] = [0, 9] := by simp [offs, recA_len]
theorem new70 (w : World) : Calls Tryz.prog 26 #[.int .i64 70, .slice none 0 0] w fun e w' => Below w.heap.size w w' ∧ ∃ g sa mb V S, e = .returned (.tuple #[.pointer (some ⟨g, 0, none⟩), .int .i64 0]) ∧ w.heap.size ≤ g ∧ w.heap.size ≤ sa ∧ w.heap.size ≤ mb ∧ Dev w' g sa mb 0 70 V S true 0 := by
  have h := new_ok 70 none [] 0 0 w (byt_nil w none) rfl (by decide)
  refine Calls.mono h ?_
  rintro e w' ⟨hb, ⟨h0, _⟩ | ⟨_, g, sa, mb, rfl, h1, h2, h3, hd⟩⟩
  · exact absurd h0 (by decide)
  · exact ⟨hb, g, sa, mb, _, _, rfl, h1, h2, h3, dev_made (low := 0) hd (secs_len _ _) (by decide) (by decide)⟩
set_option maxHeartbeats 8000000 in
set_option maxRecDepth 100000 in
theorem heads_any (a0 a1 : Addr) (w : World) (hE : Env w a0 a1) : Calls Tryz.prog 8 #[] w fun e w' => e = .returned (.bool true) ∧ Below w.heap.size w w' := by
  have E0 := Lib.hid hE
  have C0 := Lib.hid (new70 w)
  clear hE
  go_enter Tryz.func8, Tryz.ntmps8
  go_wp2_with fail
  refine C0.out.mono ?_
  rintro e w1 ⟨b1, g, sa, mb, V, S, rfl, h1, h2, h3, hd⟩
  have B1 := Lib.hid b1
  have D1 := Lib.hid hd
  have BG : Hid (w.heap.size ≤ g ∧ w.heap.size ≤ sa ∧ w.heap.size ≤ mb) := ⟨h1, h2, h3⟩
  have CF := Lib.hid (show Calls Tryz.prog 12 #[.pointer (some ⟨g, 0, none⟩), .int .i64 2] w1 (AnsP w1 g 2 []) from fresh_ok (a := 2) hd (by decide) (by decide))
  clear b1 h1 h2 h3 hd C0
  go_wp2_with fail
  refine CF.out.mono ?_
  rintro e w2 ⟨b2, p, rfl, hp⟩
  have S2 : Hid (Pst w.heap.size w2 g sa mb p 0 70 2 V S true 0 [] false) := ⟨D1.out.later b2, hp.lower B1.out.size, hold_nil _ _, BG.out, by decide⟩
  have B2 := Lib.hid (below_chain B1.out b2)
  have CO := Lib.hid (show Calls Tryz.prog 15 #[.pointer (some ⟨g, 0, none⟩), .int .i64 7] w2 (AnsNo w2 90) from open_out S2.out.dev 7 (by decide))
  clear b2 hp CF D1 B1
  go_wp2_with fail
  refine CO.out.mono ?_
  rintro e w3 ⟨rfl, b3⟩
  have S3 := Lib.hid (S2.out.later b3)
  have B3 := Lib.hid (below_chain B2.out b3)
  have kc := Lib.run_convert_bytes_const (P := Tryz.prog) w3 24 5 #[.int .u8 97, .int .u8 98] 2 2 Tryz.underlying24 Tryz.underlying5
  have L3 : Byt (w3.alloc (.cells #[.int .u8 97, .int .u8 98] 5 (2, 3))) (some ⟨w3.heap.size, 0, none⟩) [97, 98] := mark_byt w3 [97, 98] (2, 3)
  have A3 := al1 w3 (.cells #[.int .u8 97, .int .u8 98] 5 (2, 3))
  have CM := Lib.hid (made_any 1 (some ⟨w3.heap.size, 0, none⟩) [97, 98] 2 2 _ L3 (fun h => by cases h) rfl (by decide))
  have S4 := Lib.hid (S3.out.later A3)
  have B4 := Lib.hid (below_chain B3.out A3)
  have R4 := Lib.hid L3
  clear b3 CO S2 B2 S3 B3 L3 A3
  go_wp2_with fail
  refine CM.out.mono ?_
  rintro e w4 ⟨rfl, b4⟩
  have S5 := Lib.hid (S4.out.later b4)
  have B5 := Lib.hid (below_chain B4.out b4)
  have CA := Lib.hid (append_st S5.out (by decide) (by decide) a0 a1 (E0.out.below B5.out) (k := 1) (ks := keyS 1 [97, 98]) (R4.out.below b4) (n := 2) (c := 2) (fun h => by cases h) rfl (by decide) (put_made 1 [97, 98] rfl (by decide)) (by rw [show kb 1 = 1 from rfl, recA_len]; simp [allR]))
  obtain ⟨K1, hK1⟩ : ∃ K1, K1 = keyS 1 [97, 98] := ⟨_, rfl⟩
  rw [← hK1] at CA ⊢
  clear CM S4 B4 R4 b4 hK1 kc
  go_wp2_with fail
  refine CA.out.mono ?_
  rintro e w6 ⟨rfl, _, hs, _, hb⟩
  have S6 : Hid (Pst w.heap.size w6 g sa mb p 0 70 2 (appV V 2 0 (recB (1, [97, 98]))) S true 65 [(1, [97, 98])] false) := hs
  have B6 := Lib.hid (B5.out.trans hb)
  clear CA S5 B5 hs hb
  have kc := Lib.run_convert_bytes_const (P := Tryz.prog) w6 24 5 #[.int .u8 99] 1 1 Tryz.underlying24 Tryz.underlying5
  have L7 : Byt (w6.alloc (.cells #[.int .u8 99] 5 (1, 2))) (some ⟨w6.heap.size, 0, none⟩) [99] := mark_byt w6 [99] (1, 2)
  have A7 := al1 w6 (.cells #[.int .u8 99] 5 (1, 2))
  have CM := Lib.hid (made_any 2 (some ⟨w6.heap.size, 0, none⟩) [99] 1 1 _ L7 (fun h => by cases h) rfl (by decide))
  have S7 := Lib.hid (S6.out.later A7)
  have B7 := Lib.hid (below_chain B6.out A7)
  have R7 := Lib.hid L7
  have e10 : (([] : List Rcd) ++ [(1, [97, 98])]) = [(1, [97, 98])] := rfl
  have t0 : ((((allR ([] : List Rcd)).length : Nat) : Int)) = 0 := rfl
  rw [t0]
  clear L7 A7 S6 B6
  go_wp2_with fail
  refine CM.out.mono ?_
  rintro e w8 ⟨rfl, b8⟩
  have S8 := Lib.hid (S7.out.later b8)
  have B8 := Lib.hid (below_chain B7.out b8)
  have CA := Lib.hid (append_st S8.out (by decide) (by decide) a0 a1 (E0.out.below B8.out) (k := 2) (ks := keyS 2 [99]) (R7.out.below b8) (n := 1) (c := 1) (fun h => by cases h) rfl (by decide) (put_made 2 [99] rfl (by decide)) (by rw [show kb 2 = 2 from rfl, recC_len, allR_one, recA_len]; decide))
  obtain ⟨K2, hK2⟩ : ∃ K2, K2 = keyS 2 [99] := ⟨_, rfl⟩
  rw [← hK2] at CA ⊢
  clear CM S7 B7 R7 b8 hK2 kc
  go_wp2_with fail
  refine CA.out.mono ?_
  rintro e w9 ⟨rfl, _, hs, _, hb⟩
  have hl9 : (allR [((1, [97, 98]) : Rcd)]).length = 9 := by rw [allR_one, recA_len]
  have hen := hold_end (V := appV V 2 0 (recB (1, [97, 98]))) (a := 2) (rs := [((1, [97, 98]) : Rcd)]) (r := (2, [99])) (fun i hi => S8.out.dev.vl _ (by omega)) (by rw [hl9, recC_len]; decide)
  rw [hl9] at hs hen ⊢
  obtain ⟨V2, hV2⟩ : ∃ V2, V2 = appV (appV V 2 0 (recB (1, [97, 98]))) 2 9 (recB (2, [99])) := ⟨_, rfl⟩
  have hs2 : Pst w.heap.size w9 g sa mb p 0 70 2 V2 S true 130 [(1, [97, 98]), (2, [99])] false := by rw [hV2]; exact hs
  have S9 := Lib.hid hs2
  have B9 := Lib.hid (B8.out.trans hb)
  have SC : Hid (Fr.scanL (flat V2 2 64) = ([(1, [97, 98]), (2, [99])], [0, 9], 17)) := by
    have h1 := scan_just [((1, [97, 98]) : Rcd), (2, [99])] (flat V2 2 64) (S9.out.pac.good) S9.out.hold (by
      rw [← hV2] at hen
      exact next_nought _ (by rw [List.getElem?_drop, Nat.add_zero]; exact hen))
    rw [offs_ac, all_ac] at h1
    exact h1
  clear CA S8 B8 hs hb hs2 hen hV2 hl9
  have CFL := Lib.hid (flush_dev S9.out.dev (by decide))
  go_wp2_with fail
  refine CFL.out.mono ?_
  rintro e w10 ⟨rfl, hF, S1, _, hd⟩
  obtain ⟨hs, hb⟩ := S9.out.dev_turn hF hd S9.out.hold
  have B10 := Lib.hid (B9.out.trans hb)
  have S10 := Lib.hid hs
  have CO := Lib.hid (show Calls Tryz.prog 15 #[.pointer (some ⟨g, 0, none⟩), .int .i64 2] w10 (AnsP w10 g 2 (Fr.scanL (flat V2 2 64)).1) from open_ok S10.out.dev (by decide) a0 a1 (E0.out.below B10.out))
  rw [SC.out] at CO
  clear CFL S9 B9 hF hd hs hb
  go_wp2_with fail
  refine CO.out.mono ?_
  rintro e w11 ⟨b11, qq, rfl, hq⟩
  have B11 := Lib.hid (below_chain B10.out b11)
  have D11 := Lib.hid (S10.out.dev.later b11)
  have Q11 := Lib.hid hq
  have HO : Hid (Hold V2 2 [(1, [97, 98]), (2, [99])]) := S10.out.hold
  have CR := Lib.hid (show Calls Tryz.prog 21 #[.pointer (some ⟨qq, 0, none⟩), .int .i64 9] w11 (AnsY w11 (2, [99])) from pread_some hq D11.out HO.out (by decide) a0 a1 (E0.out.below B11.out) 1 (2, [99]) rfl 9 (by rw [show List.take 1 [((1, [97, 98]) : Rcd), (2, [99])] = [(1, [97, 98])] from rfl, allR_one, recA_len]))
  clear CO b11 hq S10 B10
  go_wp2_with fail
  refine CR.out.mono ?_
  rintro e w12 ⟨b12, v12, rfl, hv12⟩
  obtain ⟨a12, c12, rfl, _, _, hy12, hn12⟩ := own_byt hv12
  have e2 : (((((2, [99]) : Rcd).1.toNat : Nat)) : Int) = 2 := rfl
  have e3 : ((2, [99]) : Rcd).2.length = 1 := rfl
  rw [e2, e3]
  obtain ⟨K3, hK3⟩ : ∃ K3, K3 = keyS 2 ((2, [99]) : Rcd).2 := ⟨_, rfl⟩
  rw [← hK3]
  have hy12 : Byt w12 a12 [99] := hy12
  have b13 := al1 w12 (.cells #[.int .i64 2, .string K3, .slice a12 1 c12] 29)
  have Y13 : Hid (Blk (w12.alloc (.cells #[.int .i64 2, .string K3, .slice a12 1 c12] 29)) w12.heap.size [.int .i64 2, .string K3, .slice a12 1 c12] 29) := Blk.new w12 [.int .i64 2, .string K3, .slice a12 1 c12] 29 w12.heap.size rfl
  have bb := below_chain b12 b13
  have B13 := Lib.hid (below_chain B11.out bb)
  have Q13 := Lib.hid (Q11.out.later bb)
  have H13 := Lib.hid (hy12.below b13)
  have N12 := Lib.hid hn12
  have CN := Lib.hid (pread_none Q13.out 1 (by rw [offs_ac]; decide))
  clear CR b12 hv12 hy12 hn12 b13 bb Q11 B11 D11 hK3
  go_wp2_with fail
  obtain ⟨g13, hg13⟩ : ∃ g13, g13 = w12.heap.size := ⟨_, rfl⟩
  rw [← hg13] at Y13 ⊢
  generalize w12.alloc (.cells #[.int .i64 2, .string K3, .slice a12 1 c12] 29) = w13 at *
  clear hg13
  refine CN.out.mono ?_
  rintro e w14 ⟨rfl, b14⟩
  have b15 := al1 w14 (.cells #[.int .i64 0, .string ⟨#[]⟩, .slice none 0 0] 29)
  have bb := below_chain b14 b15
  have B15 := Lib.hid (below_chain B13.out bb)
  have Q15 := Lib.hid (Q13.out.later bb)
  have H15 := Lib.hid (H13.out.below bb)
  have Y15 := Lib.hid (Y13.out.low bb)
  have CRS := Lib.hid (records_any Q15.out)
  clear b14 b15 bb CN Q13 H13 Y13 B13
  go_wp2_with fail
  generalize w14.alloc (.cells #[.int .i64 0, .string ⟨#[]⟩, .slice none 0 0] 29) = w15 at *
  refine CRS.out.mono ?_
  rintro e w16 ⟨b16, u16, v16, rfl, hu, hz⟩
  obtain ⟨au, cu, rfl, hcu, hdu, _, _⟩ := ownf_read hu
  obtain ⟨az, cz, rfl, hcz, hdz, zr, nz⟩ := own_zrw hz
  rw [offs_ac] at hcz zr ⊢
  have e4 : [((1, [97, 98]) : Rcd), (2, [99])].length = 2 := rfl
  have e5 : [(0 : Int), 9].length = 2 := rfl
  rw [e4, e5]
  have B16 := Lib.hid (below_chain B15.out b16)
  have Q16 := Lib.hid (Q15.out.later b16)
  have Y16 := Lib.hid (Y15.out.low b16)
  obtain ⟨z0, z1, z2⟩ := keep29 Y16.out
  have cv : (convert 24 9 (.slice a12 1 c12)).run Tryz.prog w16 = .ok (.string ⟨#[99]⟩) w16 := conv_byt (t := 24) (e := 5) (d := 9) Tryz.underlying24 Tryz.underlying5 Tryz.underlying9 a12 [99] c12 (H15.out.below b16) N12.out
  have b17 := al1 w16 (.cells #[.int .i64 0, .int .i64 9] 3)
  have ZL : Zrw (w16.alloc (.cells #[.int .i64 0, .int .i64 9] 3)) (some ⟨w16.heap.size, 0, none⟩) [0, 9] := fun _ => ⟨w16.heap.size, 0, rfl, by simp, fun j hj => by
    rw [World.cell?_alloc_new]
    rcases (show j = 0 ∨ j = 1 by simp at hj; omega) with rfl | rfl <;> rfl⟩
  have CI := Lib.hid (ints_same az (some ⟨w16.heap.size, 0, none⟩) [0, 9] 2 cz 2 (w16.alloc (.cells #[.int .i64 0, .int .i64 9] 3)) (zr.below b17) ZL rfl hcz hdz (by decide))
  have B17 := Lib.hid (below_chain B16.out b17)
  have Q17 := Lib.hid (Q16.out.later b17)
  clear hu hz zr nz b16 b17 ZL CRS Q15 H15 Y15 B15 Q16 B16
  go_wp2_with fail
  refine CI.out.mono ?_
  rintro e w18 ⟨rfl, b18⟩
  have B18 := Lib.hid (below_chain B17.out b18)
  obtain ⟨vr, vp, k1, _, _⟩ := (Q17.out.later b18).row
  have CRM := Lib.hid (room_any k1 (by omega) (by rw [all_ac]; decide))
  rw [all_ac] at CRM
  have e6 : roomN ((17 : Nat) : Int) false = 16367 := rfl
  rw [e6] at CRM
  clear CI b18 k1 Q17 B17
  go_wp2_with fail
  refine CRM.out.mono ?_
  rintro e w19 ⟨rfl, rfl⟩
  go_wp2_with fail
  go_ret
  exact ⟨rfl, B18.out⟩
end Go.Proofs.YtekaboomhljdoaaGreatDoor.Sh
