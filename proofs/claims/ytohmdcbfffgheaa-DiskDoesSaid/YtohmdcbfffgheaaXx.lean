/-
  The law of the statement DiskDoes. No other condition.
-/
import Derived.Test.YtohmdcbfffgheaaXv
namespace Go.Proofs.Ytohmdcbfffgheaa.Dk
open Go.RowKit Go.Lib Go.Maps
/-- the loop's state: both devices after j calls -/
def DoneQ (w0 : World) (g sa mb h gi rb N : Nat) (low : Int) (j : Nat) (wr : World) : Prop := Below w0.heap.size w0 wr ∧ Pair wr w0.heap.size g sa mb h gi rb N low j
theorem keep123 {w : World} {g : Nat} {x y z u v : Value} {t : TypeId} (h : Blk w g [x, y, z, u, v] t) : w.cell? ⟨g, 1, none⟩ = some y ∧ w.cell? ⟨g, 2, none⟩ = some z ∧ w.cell? ⟨g, 3, none⟩ = some u := ⟨h.cell 1, h.cell 2, h.cell 3⟩
set_option maxHeartbeats 2000000 in
set_option maxRecDepth 100000 in
theorem does_law (b o c oc : Nat) (oo : Option Addr) (l : List UInt8) (L : List OpR) (n N m lo : Nat) (w : World) (hi : Byt w (some ⟨b, o, none⟩) l) (hl : l.length = n) (hnN : n = 256 * N) (h1 : 1 ≤ N) (h2 : n ≤ 25650) (h3 : lo ≤ N) (hc : n ≤ c) (hcc : c ≤ 9223372036854775807) (hO : Ops w oo L) (hL : L.length = m) (hm : m ≤ 300) :
    Calls Try.prog 4 #[.slice (some ⟨b, o, none⟩) n c, .int .i64 (lo : Int), .slice oo m oc] w fun e w' => e = .returned (.bool true) ∧ Below w.heap.size w w' := by
  have HH := Lib.hid (fun W => heads_any W)
  have C1 := Lib.hid (load_ok b o c N n l lo w hi hl hnN h1 (by omega) h3 hc hcc)
  have C2 := Lib.hid (fun W (hb : Below w.heap.size w W) => refload_ok b o c N n l lo W (hi.below hb) hl hnN h1 (by omega) h3)
  have t1 : decide ((25650 : Int) < (n : Int)) = false := by simp; omega
  have t2 : decide (25650 < n) = false := by simp; omega
  have t3 : decide ((300 : Int) < (m : Int)) = false := by simp; omega
  have t4 : decide (300 < m) = false := by simp; omega
  have HLN := Lib.hid (hl.trans hnN)
  have HO := Lib.hid hO
  have HL := Lib.hid hL
  have HN := Lib.hid (And.intro h1 (show N ≤ 4096 by omega))
  clear hi hl hnN h1 h2 h3 hc hcc hO hL
  go_enter Try.func4, Try.ntmps4
  go_wp2_with fail
  refine C1.out.mono ?_
  rintro e w1 ⟨b1, g, sa, mb, rfl, hg, hsa, hmb, hd⟩
  have B1 := Lib.hid b1
  have D1 := Lib.hid hd
  have CR := Lib.hid (C2.out w1 b1)
  have GG := Lib.hid (And.intro hg (And.intro hsa hmb))
  clear b1 hd hg hsa hmb C1 C2
  go_wp2_with fail
  refine CR.out.mono ?_
  rintro e w2 ⟨b2, h, bb, rb, v, rfl, hh, hr, hbb, hrb, ho, hB, hR⟩
  obtain ⟨gi, hgi, hP⟩ := pair_load HLN.out HN.out.1 HN.out.2 B1.out D1.out b2 hh hbb hrb hr ho hB hR
  have Q0 : Hid (DoneQ w g sa mb h gi rb N lo 0 w2) := ⟨B1.out.trans (b2.mono B1.out.size), hP⟩
  have GH : Hid (w.heap.size ≤ h ∧ w.heap.size ≤ gi ∧ w.heap.size ≤ rb) := by
    have := B1.out.size
    exact ⟨by omega, by omega, by omega⟩
  clear b2 hh hr hbb hrb ho hB hR hP hgi CR D1 B1 HLN
  go_wp2_with fail
  go_loopw [11] (fun vi wr => ∃ j : Nat, j ≤ m ∧ vi = .int .i64 j ∧ Hid (DoneQ w g sa mb h gi rb N lo j wr)) (fun vi _ => m - (RowKit.intOf vi).toNat)
  case atStart => exact ⟨0, by omega, rfl, Q0⟩
  case round =>
    obtain ⟨j, hj, rfl, HQ⟩ := hrel
    by_cases hjm : j < m
    · have q1 : (0 : Int) ≤ (j : Int) := by omega
      have q2 : (j : Int) < (m : Int) := by omega
      obtain ⟨x, hx⟩ : ∃ x, L[j]? = some x := ⟨L[j]'(by have := HL.out; omega), List.getElem?_eq_getElem _⟩
      have hok := HO.out.2 x (List.mem_of_getElem? hx)
      obtain ⟨ob, oo2, rfl, hob, hat⟩ := HO.out.1 (by intro h0; rw [h0] at hx; simp at hx)
      have hat2 := hat j x hx
      rw [Nat.mul_comm 5 j] at hat2
      obtain ⟨p0, p1, p2, p3, p4⟩ := hat2
      have hbl : Below w.heap.size w wr := HQ.out.1
      have c0 := (hbl.cell (p := ⟨ob, oo2 + j * 5, none⟩) hob).trans p0
      have c1 := (hbl.cell (p := ⟨ob, oo2 + j * 5 + 1, none⟩) hob).trans p1
      have c2 := (hbl.cell (p := ⟨ob, oo2 + j * 5 + 2, none⟩) hob).trans p2
      have c3 := (hbl.cell (p := ⟨ob, oo2 + j * 5 + 3, none⟩) hob).trans p3
      have c4 := (hbl.cell (p := ⟨ob, oo2 + j * 5 + 4, none⟩) hob).trans p4
      obtain ⟨kd, at_, fl, sz, ka, kp, kc⟩ := x
      have OK := Lib.hid hok
      dsimp only at c0 c1 c2 c3 c4
      obtain ⟨kn, hkn⟩ : ∃ kn, kn = kp.length := ⟨_, rfl⟩
      rw [← hkn] at c4
      have KN := Lib.hid hkn
      have NOB := Lib.hid (show ob < wr.heap.size from Nat.lt_of_lt_of_le hob hbl.size)
      clear hok hat p0 p1 p2 p3 p4 hx hbl hkn hob
      have GB : Hid (g < wr.heap.size ∧ sa < wr.heap.size ∧ mb < wr.heap.size ∧ h < wr.heap.size) := by
        obtain ⟨_, _, _, _, _, _, _, _, _, _, T, _⟩ := HQ.out.2
        obtain ⟨_, _, _, d⟩ := T.rv.dv
        exact ⟨T.dv.dv.lt, T.dv.sec.lt, T.dv.map.lt, Blk.lt d⟩
      have BX : Hid (Below wr.heap.size wr (wr.alloc (.cells #[.int .i64 kd, .int .i64 at_, .int .u8 (fl.toNat : Int), .int .i64 sz, .slice ka kn kc] 41))) := (Below.refl _ wr).alloc (Nat.le_refl _) _
      have PB : Hid (DoneQ w g sa mb h gi rb N lo j (wr.alloc (.cells #[.int .i64 kd, .int .i64 at_, .int .u8 (fl.toNat : Int), .int .i64 sz, .slice ka kn kc] 41))) := ⟨HQ.out.1.trans ((Below.refl _ wr).alloc (Nat.le_refl _) _ |>.mono HQ.out.1.size), HQ.out.2.below ((Below.refl _ wr).alloc (Nat.le_refl _) _)⟩
      have YB : Hid (Blk (wr.alloc (.cells #[.int .i64 kd, .int .i64 at_, .int .u8 (fl.toNat : Int), .int .i64 sz, .slice ka kn kc] 41)) wr.heap.size [.int .i64 kd, .int .i64 at_, .int .u8 (fl.toNat : Int), .int .i64 sz, .slice ka kn kc] 41) := Blk.new wr [.int .i64 kd, .int .i64 at_, .int .u8 (fl.toNat : Int), .int .i64 sz, .slice ka kn kc] 41 wr.heap.size rfl
      go_wp2_with fail
      ·
        obtain ⟨bB, S1, k1, D1, P1, pw1, ar1, lf1, rl1, nw1, T0, U1, hN1, hB1⟩ := HQ.out.2
        have TT := Lib.hid T0
        have UU := Lib.hid U1
        have HN1 := Lib.hid hN1
        have HB1 := Lib.hid hB1
        have LT : Hid (g < wr.heap.size ∧ mb < wr.heap.size ∧ h < wr.heap.size ∧ bB < wr.heap.size ∧ rb < wr.heap.size) := by
          have hgb := GB.out
          obtain ⟨_, r1, _⟩ := T0.rv.ro
          exact ⟨hgb.1, hgb.2.2.1, hgb.2.2.2, T0.rv.bo.lt, r1.lt⟩
        have CS := Lib.hid (sector_any fl sz)
        clear T0 U1 hN1 hB1
        generalize wr.alloc (.cells #[.int .i64 kd, .int .i64 at_, .int .u8 (fl.toNat : Int), .int .i64 sz, .slice ka kn kc] 41) = W1 at *
        have BQ : Hid (Below wr.heap.size wr W1.drew) := BX.out.drew
        have YQ := Lib.hid YB.out.drew
        have yb := keep123 YB.out
        go_region_held3 (fun w' => w'.cell? ⟨wr.heap.size, 1, none⟩ = some (.int .i64 at_) ∧ w'.cell? ⟨wr.heap.size, 2, none⟩ = some (.int .u8 (fl.toNat : Int)) ∧ w'.cell? ⟨wr.heap.size, 3, none⟩ = some (.int .i64 sz))
          (first | go_keep | exact keep123 YQ.out)
          (first
            | (go_at_call 17; (with_reducible refine CW7.out.mono ?_); rintro e w8 ⟨rfl, f8, hP8⟩; have YQ := Lib.hid (f8.blk YQ.out (by have := LT.out; simp; omega)); have HQ2 : Hid (DoneQ w g sa mb h gi rb N lo (j + 1) w8) := ⟨X7.out.trans (f8.below X7.out.size (by have := GH.out; have := HB1.out; simp; omega)), hP8⟩; clear f8 hP8)
            | (go_at_call 11; (with_reducible refine CW.out.mono ?_); rintro e w6 ⟨rfl, f6, hR6⟩; have YQ := Lib.hid (f6.blk YQ.out (by have := LT.out; simp; omega)); have WR3 := Lib.hid hR6; have SZ6 : Hid (h < w6.heap.size ∧ bB < w6.heap.size) := ⟨by have := LT.out; have := BQ5.out.size; have := f6.size; omega, by have := LT.out; have := BQ5.out.size; have := f6.size; omega⟩; have X6 : Hid (Below w.heap.size w w6) := (HQ.out.1.trans (BQ5.out.mono HQ.out.1.size)).trans (f6.below (HQ.out.1.trans (BQ5.out.mono HQ.out.1.size)).size (by have := GG.out; simp; omega)); have CS2 := Lib.hid (sector_any fl sz w6); clear f6 hR6)
            | (go_at_call 12; (with_reducible refine CS2.out.mono ?_); rintro e w7 ⟨b7, v7, rfl, o7⟩; have YQ := Lib.hid (YQ.out.low b7); have CW7 := Lib.hid (WR3.out w7 _ v7 b7 o7 SZ6.out.1 SZ6.out.2 HB1.out); have X7 : Hid (Below w.heap.size w w7) := X6.out.trans (b7.mono X6.out.size); clear b7 o7 CS2)
            | (go_at_call 12; (with_reducible refine (CS.out _).mono ?_); rintro e w5 ⟨b5, v5, rfl, o5⟩; have BQ5 : Hid (Below wr.heap.size wr w5) := BQ.out.trans (b5.mono BQ.out.size); obtain ⟨z, CWz⟩ := two_write (TT.out.below BQ5.out) UU.out (by omega) at_ w.heap.size _ v5 _ o5 (by have := LT.out; have := YQ.out.lt; omega) (by have := LT.out; have := YQ.out.lt; omega); rw [HN1.out] at CWz; have CW := Lib.hid CWz; have YQ := Lib.hid (YQ.out.low b5); clear b5 o5 CWz))
        all_goals
          obtain ⟨bB, S2, k2, D2, P2, pw2, ar2, lf2, rl2, nw2, T2, U2, hNN, hBB⟩ := HQ2.out.2
          obtain ⟨ks, CA, CB⟩ := two_cached T2 U2 (by omega)
          obtain ⟨xw, CX, CY⟩ := two_writes T2
          obtain ⟨kl, hkl⟩ : ∃ kl, kl = ks.length := ⟨_, rfl⟩
          unfold AnsZ at CA CB
          rw [← hkl] at CA CB
          have CA' := Lib.hid CA
          have CB' := Lib.hid CB
          have CX' := Lib.hid CX
          have CY' := Lib.hid CY
          have HK := Lib.hid hkl
          clear T2 U2 CA CB CX CY hkl hNN hBB
          go_wp2_with fail
          refine CA'.out.mono ?_
          rintro e w5 ⟨b5, ao5, c5, rfl, h51, h52, h53⟩
          have CB5 := Lib.hid (CB'.out w5 b5)
          have B5 := Lib.hid b5
          have Z5 := Lib.hid (And.intro h51 (And.intro h52 h53))
          clear b5 h51 h52 h53
          go_wp2_with fail
          refine CB5.out.mono ?_
          rintro e w6 ⟨b6, ao6, c6, rfl, h61, h62, h63⟩
          have CI := Lib.hid (ints_same ao5 ao6 ks kl c5 c6 w6 (Z5.out.2.2.below b6) h63 HK.out.symm Z5.out.1 Z5.out.2.1 h61)
          have B6 := Lib.hid (below_chain B5.out b6)
          clear b6 h61 h62 h63
          go_wp2_with fail
          refine CI.out.mono ?_
          rintro e w7 ⟨rfl, b7⟩
          have B7 := Lib.hid (below_chain B6.out b7)
          have CX7 := Lib.hid (CX'.out w7 B7.out)
          have CY7 := Lib.hid (CY'.out w7 B7.out)
          have HQ7 : Hid (DoneQ w g sa mb h gi rb N lo (j + 1) w7) := ⟨HQ2.out.1.trans (B7.out.mono HQ2.out.1.size), HQ2.out.2.below B7.out⟩
          clear b7
          go_wp2_with fail
          refine CX7.out.mono ?_
          rintro e w8 ⟨rfl, rfl⟩
          go_wp2_with fail
          refine CY7.out.mono ?_
          rintro e w9 ⟨rfl, rfl⟩
          go_wp2_with fail
          go_roundw
          case rel => exact ⟨j + 1, by omega, by go_num, HQ7⟩
          case measure => simp [RowKit.intOf]; omega
      ·
        have gg := GG.out
        have gh := GH.out
        have okk := OK.out
        dsimp only [OpOk] at okk
        have kn2 := KN.out
        have pb := PB.out
        generalize wr.alloc (.cells #[.int .i64 kd, .int .i64 at_, .int .u8 (fl.toNat : Int), .int .i64 sz, .slice ka kn kc] 41) = W1 at *
        obtain ⟨bB, S1, k1, D1, P1, pw1, ar1, lf1, rl1, nw1, T1, U1, hN1, hB1⟩ := PB.out.2
        obtain ⟨z, CF⟩ := two_flush T1 U1 (by omega) w.heap.size
        rw [hN1] at CF
        have CF' := Lib.hid CF
        have HB1 := Lib.hid hB1
        clear CF T1 U1 hN1 hB1 pb okk kn2 gg gh
        refine CF'.out.mono ?_
        rintro e w3 ⟨rfl, f3, hR3⟩
        have CF3 := Lib.hid (hR3 w3 (Below.refl _ _) HB1.out)
        have B3 : Hid (Below w.heap.size w w3) := PB.out.1.trans (f3.below PB.out.1.size (by have := GG.out; simp; omega))
        have YB3 := Lib.hid (f3.blk YB.out (by have := GB.out; simp; omega))
        have y1 := Blk.cell YB3.out 1
        have y4 := Blk.cell YB3.out 4
        simp only [List.getElem?_cons_zero, List.getElem?_cons_succ] at y1 y4
        clear hR3 f3
        go_wp2_with fail
        refine CF3.out.mono ?_
        rintro e w4 ⟨rfl, f4, hP4⟩
        have HQ2 : Hid (DoneQ w g sa mb h gi rb N lo (j + 1) w4) := ⟨B3.out.trans (f4.below B3.out.size (by have := GH.out; have := HB1.out; simp; omega)), hP4⟩
        clear f4 hP4 y1 y4

        obtain ⟨bB, S2, k2, D2, P2, pw2, ar2, lf2, rl2, nw2, T2, U2, hNN, hBB⟩ := HQ2.out.2
        obtain ⟨ks, CA, CB⟩ := two_cached T2 U2 (by omega)
        obtain ⟨xw, CX, CY⟩ := two_writes T2
        obtain ⟨kl, hkl⟩ : ∃ kl, kl = ks.length := ⟨_, rfl⟩
        unfold AnsZ at CA CB
        rw [← hkl] at CA CB
        have CA' := Lib.hid CA
        have CB' := Lib.hid CB
        have CX' := Lib.hid CX
        have CY' := Lib.hid CY
        have HK := Lib.hid hkl
        clear T2 U2 CA CB CX CY hkl hNN hBB
        go_wp2_with fail
        refine CA'.out.mono ?_
        rintro e w5 ⟨b5, ao5, c5, rfl, h51, h52, h53⟩
        have CB5 := Lib.hid (CB'.out w5 b5)
        have B5 := Lib.hid b5
        have Z5 := Lib.hid (And.intro h51 (And.intro h52 h53))
        clear b5 h51 h52 h53
        go_wp2_with fail
        refine CB5.out.mono ?_
        rintro e w6 ⟨b6, ao6, c6, rfl, h61, h62, h63⟩
        have CI := Lib.hid (ints_same ao5 ao6 ks kl c5 c6 w6 (Z5.out.2.2.below b6) h63 HK.out.symm Z5.out.1 Z5.out.2.1 h61)
        have B6 := Lib.hid (below_chain B5.out b6)
        clear b6 h61 h62 h63
        go_wp2_with fail
        refine CI.out.mono ?_
        rintro e w7 ⟨rfl, b7⟩
        have B7 := Lib.hid (below_chain B6.out b7)
        have CX7 := Lib.hid (CX'.out w7 B7.out)
        have CY7 := Lib.hid (CY'.out w7 B7.out)
        have HQ7 : Hid (DoneQ w g sa mb h gi rb N lo (j + 1) w7) := ⟨HQ2.out.1.trans (B7.out.mono HQ2.out.1.size), HQ2.out.2.below B7.out⟩
        clear b7
        go_wp2_with fail
        refine CX7.out.mono ?_
        rintro e w8 ⟨rfl, rfl⟩
        go_wp2_with fail
        refine CY7.out.mono ?_
        rintro e w9 ⟨rfl, rfl⟩
        go_wp2_with fail
        go_roundw
        case rel => exact ⟨j + 1, by omega, by go_num, HQ7⟩
        case measure => simp [RowKit.intOf]; omega
      ·
        have gg := GG.out
        have gh := GH.out
        have okk := OK.out
        dsimp only [OpOk] at okk
        have kn2 := KN.out
        have pb := PB.out
        generalize wr.alloc (.cells #[.int .i64 kd, .int .i64 at_, .int .u8 (fl.toNat : Int), .int .i64 sz, .slice ka kn kc] 41) = W1 at *
        obtain ⟨bB, S1, k1, D1, P1, pw1, ar1, lf1, rl1, nw1, T1, U1, hN1, hB1⟩ := PB.out.2
        obtain ⟨z, rl, CA, CB⟩ := two_read T1 at_
        unfold AnsR at CA CB
        obtain ⟨ln, hln⟩ : ∃ ln, ln = rl.length := ⟨_, rfl⟩
        rw [← hln] at CA CB
        have PU : Hid (Pair W1 w.heap.size g sa mb h gi rb N lo (j + 1)) := ⟨bB, S1, k1, D1, P1, pw1, ar1, lf1, rl1, nw1, T1, U1.up, hN1, hB1⟩
        have CA' := Lib.hid CA
        have CB' := Lib.hid CB
        have HLN := Lib.hid hln
        clear CA CB T1 U1 hN1 hB1 pb okk kn2 gg gh hln
        have yb1 := Blk.cell YB.out 1
        simp only [List.getElem?_cons_zero, List.getElem?_cons_succ] at yb1
        refine CA'.out.mono ?_
        rintro e w3 ⟨b3, a3, c3, rfl, h3, n3⟩
        have CB3 := Lib.hid (CB'.out w3 b3)
        have y3 : w3.cell? ⟨wr.heap.size, 1, none⟩ = some (.int .i64 at_) := (b3.cell (p := ⟨wr.heap.size, 1, none⟩) YB.out.lt).trans yb1
        have B3 := Lib.hid b3
        have H3 := Lib.hid h3
        have N3 := Lib.hid n3
        clear b3 h3 n3 yb1
        go_wp2_with fail
        refine CB3.out.mono ?_
        rintro e w4 ⟨b4, a4, c4, rfl, h4, n4⟩
        have CE := Lib.hid (bytes_eq a3 a4 rl ln c3 c4 w4 (H3.out.below b4) h4 N3.out n4 HLN.out.symm)
        have B4 := Lib.hid (below_chain B3.out b4)
        have HQ2 : Hid (DoneQ w g sa mb h gi rb N lo (j + 1) w4) := ⟨PB.out.1.trans (B4.out.mono PB.out.1.size), PU.out.below B4.out⟩
        clear b4 h4 n4 y3
        go_wp2_with fail
        refine CE.out.mono ?_
        rintro e w5 ⟨rfl, rfl⟩

        obtain ⟨bB, S2, k2, D2, P2, pw2, ar2, lf2, rl2, nw2, T2, U2, hNN, hBB⟩ := HQ2.out.2
        obtain ⟨ks, CA, CB⟩ := two_cached T2 U2 (by omega)
        obtain ⟨xw, CX, CY⟩ := two_writes T2
        obtain ⟨kl, hkl⟩ : ∃ kl, kl = ks.length := ⟨_, rfl⟩
        unfold AnsZ at CA CB
        rw [← hkl] at CA CB
        have CA' := Lib.hid CA
        have CB' := Lib.hid CB
        have CX' := Lib.hid CX
        have CY' := Lib.hid CY
        have HK := Lib.hid hkl
        clear T2 U2 CA CB CX CY hkl hNN hBB
        go_wp2_with fail
        refine CA'.out.mono ?_
        rintro e w5 ⟨b5, ao5, c5, rfl, h51, h52, h53⟩
        have CB5 := Lib.hid (CB'.out w5 b5)
        have B5 := Lib.hid b5
        have Z5 := Lib.hid (And.intro h51 (And.intro h52 h53))
        clear b5 h51 h52 h53
        go_wp2_with fail
        refine CB5.out.mono ?_
        rintro e w6 ⟨b6, ao6, c6, rfl, h61, h62, h63⟩
        have CI := Lib.hid (ints_same ao5 ao6 ks kl c5 c6 w6 (Z5.out.2.2.below b6) h63 HK.out.symm Z5.out.1 Z5.out.2.1 h61)
        have B6 := Lib.hid (below_chain B5.out b6)
        clear b6 h61 h62 h63
        go_wp2_with fail
        refine CI.out.mono ?_
        rintro e w7 ⟨rfl, b7⟩
        have B7 := Lib.hid (below_chain B6.out b7)
        have CX7 := Lib.hid (CX'.out w7 B7.out)
        have CY7 := Lib.hid (CY'.out w7 B7.out)
        have HQ7 : Hid (DoneQ w g sa mb h gi rb N lo (j + 1) w7) := ⟨HQ2.out.1.trans (B7.out.mono HQ2.out.1.size), HQ2.out.2.below B7.out⟩
        clear b7
        go_wp2_with fail
        refine CX7.out.mono ?_
        rintro e w8 ⟨rfl, rfl⟩
        go_wp2_with fail
        refine CY7.out.mono ?_
        rintro e w9 ⟨rfl, rfl⟩
        go_wp2_with fail
        go_roundw
        case rel => exact ⟨j + 1, by omega, by go_num, HQ7⟩
        case measure => simp [RowKit.intOf]; omega
      ·
        have gg := GG.out
        have gh := GH.out
        have okk := OK.out
        dsimp only [OpOk] at okk
        have kn2 := KN.out
        have pb := PB.out
        generalize wr.alloc (.cells #[.int .i64 kd, .int .i64 at_, .int .u8 (fl.toNat : Int), .int .i64 sz, .slice ka kn kc] 41) = W1 at *
        obtain ⟨bB, S1, k1, D1, P1, pw1, ar1, lf1, rl1, nw1, T1, U1, hN1, hB1⟩ := PB.out.2
        have CF := two_arm T1 U1 w.heap.size at_ okk.2.1
        rw [hN1] at CF
        have CF' := Lib.hid CF
        have HB1 := Lib.hid hB1
        clear CF T1 U1 hN1 hB1 pb okk kn2 gg gh
        refine CF'.out.mono ?_
        rintro e w3 ⟨rfl, f3, hR3⟩
        have CF3 := Lib.hid (hR3 w3 (Below.refl _ _) HB1.out)
        have B3 : Hid (Below w.heap.size w w3) := PB.out.1.trans (f3.below PB.out.1.size (by have := GG.out; simp; omega))
        have YB3 := Lib.hid (f3.blk YB.out (by have := GB.out; simp; omega))
        have y1 := Blk.cell YB3.out 1
        have y4 := Blk.cell YB3.out 4
        simp only [List.getElem?_cons_zero, List.getElem?_cons_succ] at y1 y4
        clear hR3 f3
        go_wp2_with fail
        refine CF3.out.mono ?_
        rintro e w4 ⟨rfl, f4, hP4⟩
        have HQ2 : Hid (DoneQ w g sa mb h gi rb N lo (j + 1) w4) := ⟨B3.out.trans (f4.below B3.out.size (by have := GH.out; have := HB1.out; simp; omega)), hP4⟩
        clear f4 hP4 y1 y4

        obtain ⟨bB, S2, k2, D2, P2, pw2, ar2, lf2, rl2, nw2, T2, U2, hNN, hBB⟩ := HQ2.out.2
        obtain ⟨ks, CA, CB⟩ := two_cached T2 U2 (by omega)
        obtain ⟨xw, CX, CY⟩ := two_writes T2
        obtain ⟨kl, hkl⟩ : ∃ kl, kl = ks.length := ⟨_, rfl⟩
        unfold AnsZ at CA CB
        rw [← hkl] at CA CB
        have CA' := Lib.hid CA
        have CB' := Lib.hid CB
        have CX' := Lib.hid CX
        have CY' := Lib.hid CY
        have HK := Lib.hid hkl
        clear T2 U2 CA CB CX CY hkl hNN hBB
        go_wp2_with fail
        refine CA'.out.mono ?_
        rintro e w5 ⟨b5, ao5, c5, rfl, h51, h52, h53⟩
        have CB5 := Lib.hid (CB'.out w5 b5)
        have B5 := Lib.hid b5
        have Z5 := Lib.hid (And.intro h51 (And.intro h52 h53))
        clear b5 h51 h52 h53
        go_wp2_with fail
        refine CB5.out.mono ?_
        rintro e w6 ⟨b6, ao6, c6, rfl, h61, h62, h63⟩
        have CI := Lib.hid (ints_same ao5 ao6 ks kl c5 c6 w6 (Z5.out.2.2.below b6) h63 HK.out.symm Z5.out.1 Z5.out.2.1 h61)
        have B6 := Lib.hid (below_chain B5.out b6)
        clear b6 h61 h62 h63
        go_wp2_with fail
        refine CI.out.mono ?_
        rintro e w7 ⟨rfl, b7⟩
        have B7 := Lib.hid (below_chain B6.out b7)
        have CX7 := Lib.hid (CX'.out w7 B7.out)
        have CY7 := Lib.hid (CY'.out w7 B7.out)
        have HQ7 : Hid (DoneQ w g sa mb h gi rb N lo (j + 1) w7) := ⟨HQ2.out.1.trans (B7.out.mono HQ2.out.1.size), HQ2.out.2.below B7.out⟩
        clear b7
        go_wp2_with fail
        refine CX7.out.mono ?_
        rintro e w8 ⟨rfl, rfl⟩
        go_wp2_with fail
        refine CY7.out.mono ?_
        rintro e w9 ⟨rfl, rfl⟩
        go_wp2_with fail
        go_roundw
        case rel => exact ⟨j + 1, by omega, by go_num, HQ7⟩
        case measure => simp [RowKit.intOf]; omega
      ·
        have gg := GG.out
        have gh := GH.out
        have okk := OK.out
        dsimp only [OpOk] at okk
        have kn2 := KN.out
        have pb := PB.out
        generalize wr.alloc (.cells #[.int .i64 kd, .int .i64 at_, .int .u8 (fl.toNat : Int), .int .i64 sz, .slice ka kn kc] 41) = W1 at *
        obtain ⟨bB, S1, k1, D1, P1, pw1, ar1, lf1, rl1, nw1, T1, U1, hN1, hB1⟩ := PB.out.2
        have CF := two_crash T1 U1 w ka kp kc okk.2.2.2.2.1 pb.1 gg.1 gg.2.1 gg.2.2 gh.2.1 okk.2.2.2.2.2 (by omega)
        rw [← kn2] at CF
        rw [hN1] at CF
        have CF' := Lib.hid CF
        have HB1 := Lib.hid hB1
        clear CF T1 U1 hN1 hB1 pb okk kn2 gg gh
        refine CF'.out.mono ?_
        rintro e w3 ⟨rfl, f3, hR3⟩
        have CF3 := Lib.hid (hR3 w3 (Below.refl _ _) HB1.out)
        have B3 : Hid (Below w.heap.size w w3) := PB.out.1.trans (f3.below PB.out.1.size (by have := GG.out; simp; omega))
        have YB3 := Lib.hid (f3.blk YB.out (by have := GB.out; simp; omega))
        have y1 := Blk.cell YB3.out 1
        have y4 := Blk.cell YB3.out 4
        simp only [List.getElem?_cons_zero, List.getElem?_cons_succ] at y1 y4
        clear hR3 f3
        go_wp2_with fail
        refine CF3.out.mono ?_
        rintro e w4 ⟨rfl, f4, hP4⟩
        have HQ2 : Hid (DoneQ w g sa mb h gi rb N lo (j + 1) w4) := ⟨B3.out.trans (f4.below B3.out.size (by have := GH.out; have := HB1.out; simp; omega)), hP4⟩
        clear f4 hP4 y1 y4

        obtain ⟨bB, S2, k2, D2, P2, pw2, ar2, lf2, rl2, nw2, T2, U2, hNN, hBB⟩ := HQ2.out.2
        obtain ⟨ks, CA, CB⟩ := two_cached T2 U2 (by omega)
        obtain ⟨xw, CX, CY⟩ := two_writes T2
        obtain ⟨kl, hkl⟩ : ∃ kl, kl = ks.length := ⟨_, rfl⟩
        unfold AnsZ at CA CB
        rw [← hkl] at CA CB
        have CA' := Lib.hid CA
        have CB' := Lib.hid CB
        have CX' := Lib.hid CX
        have CY' := Lib.hid CY
        have HK := Lib.hid hkl
        clear T2 U2 CA CB CX CY hkl hNN hBB
        go_wp2_with fail
        refine CA'.out.mono ?_
        rintro e w5 ⟨b5, ao5, c5, rfl, h51, h52, h53⟩
        have CB5 := Lib.hid (CB'.out w5 b5)
        have B5 := Lib.hid b5
        have Z5 := Lib.hid (And.intro h51 (And.intro h52 h53))
        clear b5 h51 h52 h53
        go_wp2_with fail
        refine CB5.out.mono ?_
        rintro e w6 ⟨b6, ao6, c6, rfl, h61, h62, h63⟩
        have CI := Lib.hid (ints_same ao5 ao6 ks kl c5 c6 w6 (Z5.out.2.2.below b6) h63 HK.out.symm Z5.out.1 Z5.out.2.1 h61)
        have B6 := Lib.hid (below_chain B5.out b6)
        clear b6 h61 h62 h63
        go_wp2_with fail
        refine CI.out.mono ?_
        rintro e w7 ⟨rfl, b7⟩
        have B7 := Lib.hid (below_chain B6.out b7)
        have CX7 := Lib.hid (CX'.out w7 B7.out)
        have CY7 := Lib.hid (CY'.out w7 B7.out)
        have HQ7 : Hid (DoneQ w g sa mb h gi rb N lo (j + 1) w7) := ⟨HQ2.out.1.trans (B7.out.mono HQ2.out.1.size), HQ2.out.2.below B7.out⟩
        clear b7
        go_wp2_with fail
        refine CX7.out.mono ?_
        rintro e w8 ⟨rfl, rfl⟩
        go_wp2_with fail
        refine CY7.out.mono ?_
        rintro e w9 ⟨rfl, rfl⟩
        go_wp2_with fail
        go_roundw
        case rel => exact ⟨j + 1, by omega, by go_num, HQ7⟩
        case measure => simp [RowKit.intOf]; omega
      ·
        have gg := GG.out
        have gh := GH.out
        have okk := OK.out
        dsimp only [OpOk] at okk
        have kn2 := KN.out
        have pb := PB.out
        generalize wr.alloc (.cells #[.int .i64 kd, .int .i64 at_, .int .u8 (fl.toNat : Int), .int .i64 sz, .slice ka kn kc] 41) = W1 at *
        obtain ⟨bB, S1, k1, D1, P1, pw1, ar1, lf1, rl1, nw1, T1, U1, hN1, hB1⟩ := PB.out.2
        have CF := two_start T1 U1 w.heap.size
        rw [hN1] at CF
        have CF' := Lib.hid CF
        have HB1 := Lib.hid hB1
        clear CF T1 U1 hN1 hB1 pb okk kn2 gg gh
        refine CF'.out.mono ?_
        rintro e w3 ⟨rfl, f3, hR3⟩
        have CF3 := Lib.hid (hR3 w3 (Below.refl _ _) HB1.out)
        have B3 : Hid (Below w.heap.size w w3) := PB.out.1.trans (f3.below PB.out.1.size (by have := GG.out; simp; omega))
        have YB3 := Lib.hid (f3.blk YB.out (by have := GB.out; simp; omega))
        have y1 := Blk.cell YB3.out 1
        have y4 := Blk.cell YB3.out 4
        simp only [List.getElem?_cons_zero, List.getElem?_cons_succ] at y1 y4
        clear hR3 f3
        go_wp2_with fail
        refine CF3.out.mono ?_
        rintro e w4 ⟨rfl, f4, hP4⟩
        have HQ2 : Hid (DoneQ w g sa mb h gi rb N lo (j + 1) w4) := ⟨B3.out.trans (f4.below B3.out.size (by have := GH.out; have := HB1.out; simp; omega)), hP4⟩
        clear f4 hP4 y1 y4

        obtain ⟨bB, S2, k2, D2, P2, pw2, ar2, lf2, rl2, nw2, T2, U2, hNN, hBB⟩ := HQ2.out.2
        obtain ⟨ks, CA, CB⟩ := two_cached T2 U2 (by omega)
        obtain ⟨xw, CX, CY⟩ := two_writes T2
        obtain ⟨kl, hkl⟩ : ∃ kl, kl = ks.length := ⟨_, rfl⟩
        unfold AnsZ at CA CB
        rw [← hkl] at CA CB
        have CA' := Lib.hid CA
        have CB' := Lib.hid CB
        have CX' := Lib.hid CX
        have CY' := Lib.hid CY
        have HK := Lib.hid hkl
        clear T2 U2 CA CB CX CY hkl hNN hBB
        go_wp2_with fail
        refine CA'.out.mono ?_
        rintro e w5 ⟨b5, ao5, c5, rfl, h51, h52, h53⟩
        have CB5 := Lib.hid (CB'.out w5 b5)
        have B5 := Lib.hid b5
        have Z5 := Lib.hid (And.intro h51 (And.intro h52 h53))
        clear b5 h51 h52 h53
        go_wp2_with fail
        refine CB5.out.mono ?_
        rintro e w6 ⟨b6, ao6, c6, rfl, h61, h62, h63⟩
        have CI := Lib.hid (ints_same ao5 ao6 ks kl c5 c6 w6 (Z5.out.2.2.below b6) h63 HK.out.symm Z5.out.1 Z5.out.2.1 h61)
        have B6 := Lib.hid (below_chain B5.out b6)
        clear b6 h61 h62 h63
        go_wp2_with fail
        refine CI.out.mono ?_
        rintro e w7 ⟨rfl, b7⟩
        have B7 := Lib.hid (below_chain B6.out b7)
        have CX7 := Lib.hid (CX'.out w7 B7.out)
        have CY7 := Lib.hid (CY'.out w7 B7.out)
        have HQ7 : Hid (DoneQ w g sa mb h gi rb N lo (j + 1) w7) := ⟨HQ2.out.1.trans (B7.out.mono HQ2.out.1.size), HQ2.out.2.below B7.out⟩
        clear b7
        go_wp2_with fail
        refine CX7.out.mono ?_
        rintro e w8 ⟨rfl, rfl⟩
        go_wp2_with fail
        refine CY7.out.mono ?_
        rintro e w9 ⟨rfl, rfl⟩
        go_wp2_with fail
        go_roundw
        case rel => exact ⟨j + 1, by omega, by go_num, HQ7⟩
        case measure => simp [RowKit.intOf]; omega
    · obtain rfl : j = m := by omega
      have q2 : ¬ ((j : Int) < (j : Int)) := by omega
      obtain ⟨bB, S2, k2, D2, P2, pw2, ar2, lf2, rl2, nw2, T2, U2, hNN, hBB⟩ := HQ.out.2
      obtain ⟨fl, CA, CB⟩ := two_image T2
      obtain ⟨ln, hln⟩ : ∃ ln, ln = fl.length := ⟨_, rfl⟩
      have HLN := Lib.hid hln
      have CA' := Lib.hid CA
      have CB' := Lib.hid CB
      clear T2 U2 hNN hBB CA CB hln
      go_wp2_with fail
      refine CA'.out.mono ?_
      rintro e w5 ⟨b5, v5, rfl, o5⟩
      obtain ⟨a5, c5, rfl, _, _, h5, n5⟩ := own_byt o5
      rw [← HLN.out]
      have CB5 := Lib.hid (CB'.out w5 b5)
      have B5 := Lib.hid b5
      have H5 := Lib.hid h5
      have N5 := Lib.hid n5
      clear b5 o5 h5 n5
      go_wp2_with fail
      refine CB5.out.mono ?_
      rintro e w6 ⟨b6, v6, rfl, o6⟩
      obtain ⟨a6, c6, rfl, _, _, h6, n6⟩ := own_byt o6
      rw [← HLN.out]
      have CE := Lib.hid (bytes_eq a5 a6 fl ln c5 c6 w6 (H5.out.below b6) h6 N5.out n6 HLN.out.symm)
      have B6 := Lib.hid (HQ.out.1.trans ((below_chain B5.out b6).mono HQ.out.1.size))
      clear b6 o6 h6 n6
      go_wp2_with fail
      refine CE.out.mono ?_
      rintro e w7 ⟨rfl, rfl⟩
      go_wp2_with fail
      refine (HH.out _).mono ?_
      rintro e w8 ⟨rfl, b8⟩
      have B8 := Lib.hid (B6.out.trans (b8.mono B6.out.size))
      clear b8
      go_wp2_with fail
      go_ret
      exact ⟨rfl, B8.out⟩
end Go.Proofs.Ytohmdcbfffgheaa.Dk
