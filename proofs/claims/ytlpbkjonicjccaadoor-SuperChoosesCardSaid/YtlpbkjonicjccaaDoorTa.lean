/-
  The contract of the document's own Put. No condition.
-/
import Derived.Test.YtlpbkjonicjccaaDoorSf
import Derived.Test.YtlpbkjonicjccaaDoorKx
import Derived.Test.YtlpbkjonicjccaaDoorQd
import Derived.BigRegion
namespace Go.Proofs.YtlpbkjonicjccaaDoor.Sh
open Go.RowKit Go.Lib

theorem bs_set2 (l : List UInt8) (i : Nat) (x : UInt8) : (bs l).set i (.int .u8 (x.toNat : Int)) = bs (l.set i x) := by
  simp [bs, List.map_set]
theorem own_byt_at {w : World} {B g n : Nat} {l : List UInt8} (h : Own w B (.slice (some ⟨g, 0, none⟩) n n) l) : Byt w (some ⟨g, 0, none⟩) l := by
  obtain ⟨ao, c, e, _, _, hb, _⟩ := own_byt h
  injection e with e1 _ _
  rw [e1]
  exact hb
/-- what the document's Put answers: its bytes in a row of its own -/
def AnsQ (w : World) (s : SP) (e : Ending) (w' : World) : Prop := Below w.heap.size w w' ∧ ∃ u, e = .returned (.tuple #[u, .int .i64 (putE s)]) ∧ Own w' w.heap.size u (if okP s then secL s else [])
set_option maxHeartbeats 4000000 in
set_option maxRecDepth 100000 in
theorem refput_no (s : SP) (hok : okP s = false) (v : Value) (w : World) (h : SupV w v s) : Calls Tryd.prog 14 #[v] w (AnsQ w s) := by
  obtain ⟨g, r, p⟩ := s
  obtain ⟨ao, c, rfl, hz, hn, hc, hm, hr⟩ := h
  obtain ⟨n, hpn⟩ : ∃ n, n = p.length := ⟨_, rfl⟩
  simp only at hc hz hr
  simp only [← hpn] at hc ⊢
  have B0 := Lib.hid (below_alloc' (Below.refl w.heap.size w) (Nat.le_refl _) (.cells #[.int .i64 g, .string r, .slice ao n c] 25))
  have X : Hid (Bxs w (w.alloc (.cells #[.int .i64 g, .string r, .slice ao n c] 25)) w.heap.size g r ao n c) := Bxs.new w g r ao n c
  have C := Lib.hid (refokp_any g r ao p n c (w.alloc (.cells #[.int .i64 g, .string r, .slice ao n c] 25)) (hz.below B0.out) hpn.symm (by omega) hr)
  rw [hok] at C
  have HE : Hid (putE ⟨g, r, p⟩ = 110) := by show _ = _; rw [putE, hok]; rfl
  have HO : Hid (okP ⟨g, r, p⟩ = false) := hok
  have x0 := X.out.c0
  have x1 := X.out.c1
  have x2 := X.out.c2
  clear hz hr hok hpn hn
  go_enter Tryd.func14, Tryd.ntmps14
  go_wp2_with fail
  refine C.out.mono ?_
  rintro e w1 ⟨rfl, b1⟩
  have B1 := Lib.hid (below_chain B0.out b1)
  clear b1 C x0 x1 x2 X B0
  go_wp2_with fail
  go_ret2
  exact ⟨B1.out, .slice none 0 0, by rw [HE.out]; rfl, by rw [if_neg (by rw [HO.out]; decide)]; exact own_nil _ _⟩
set_option maxHeartbeats 8000000 in
set_option maxRecDepth 100000 in
theorem refput_ok (s : SP) (hok : okP s = true) (v : Value) (w : World) (h : SupV w v s) : Calls Tryd.prog 14 #[v] w (AnsQ w s) := by
  obtain ⟨m, hm1, hm2, _, hg1, hg2, hp3, hsec⟩ := okP_key hok
  have hq := ((riseL_su _ _).1 hp3).2
  have hsu := ((riseL_su _ _).1 hp3).1
  obtain ⟨gi, r, p⟩ := s
  obtain ⟨G, rfl⟩ : ∃ G : Nat, gi = (G : Int) := ⟨gi.toNat, by have : (1 : Int) ≤ gi := hg1; omega⟩
  obtain ⟨ao, c, rfl, hz, hn, hc, hm, hr⟩ := h
  obtain ⟨n, hpn⟩ : ∃ n, n = p.length := ⟨_, rfl⟩
  simp only at hc hz hr hg1 hg2 hsec hq hsu hm1
  simp only [← hpn] at hc ⊢
  have B0 := Lib.hid (below_alloc' (Below.refl w.heap.size w) (Nat.le_refl _) (.cells #[.int .i64 (G : Int), .string r, .slice ao n c] 25))
  have X : Hid (Bxs w (w.alloc (.cells #[.int .i64 (G : Int), .string r, .slice ao n c] 25)) w.heap.size G r ao n c) := Bxs.new w G r ao n c
  have C := Lib.hid (refokp_any G r ao p n c (w.alloc (.cells #[.int .i64 (G : Int), .string r, .slice ao n c] 25)) (hz.below B0.out) hpn.symm (by omega) hr)
  rw [hok] at C
  have HE : Hid (putE ⟨(G : Int), r, p⟩ = 0) := by show _ = _; rw [putE, hok]; rfl
  have HS : Hid (secL ⟨(G : Int), r, p⟩ = secOf G m (orL p)) := by show _ = _; rw [hsec]; rfl
  have HM := Lib.hid hm2
  have HK := Lib.hid hm1
  have HZ := Lib.hid (hz.below B0.out)
  have HR := Lib.hid hr
  have HP := Lib.hid hpn
  have HQ := Lib.hid hq
  have HSU := Lib.hid hsu
  have HOK := Lib.hid hok
  have x0 := X.out.c0
  have x1 := X.out.c1
  have x2 := X.out.c2
  clear hz hr hm1 hm2 hsec hpn hq hsu hok hp3
  go_enter Tryd.func14, Tryd.ntmps14
  go_wp2_with fail
  refine C.out.mono ?_
  rintro e w1 ⟨rfl, b1⟩
  have X1 := Lib.hid (X.out.low b1)
  have Z1 := Lib.hid (HZ.out.below b1)
  have B1 := Lib.hid (below_chain B0.out b1)
  have C2 := Lib.hid (refbytes_any r w1 HR.out)
  clear b1 C x0 x1 x2 X B0 HZ
  have x0 := X1.out.c0
  have x1 := X1.out.c1
  have x2 := X1.out.c2
  go_wp2_with fail
  refine C2.out.mono ?_
  rintro e w2 ⟨b2, vk, rfl, ok2⟩
  have e1 : bytesE r = 0 := by rw [bytesE, HK.out]; rfl
  have e2 : bytesL r = m := by rw [bytesL, HK.out]; rfl
  rw [e2] at ok2
  obtain ⟨ak, ck, rfl, hk1, hk2, hk3, hk4⟩ := own_byt ok2
  rw [HM.out] at hk1 ⊢
  rw [e1]
  have X2 := Lib.hid (X1.out.low b2)
  have Z2 := Lib.hid (Z1.out.below b2)
  have B2 := Lib.hid (below_chain B1.out b2)
  have HB := Lib.hid hk3
  have HN := Lib.hid hk4
  clear b2 C2 x0 x1 x2 X1 Z1 B1 ok2 e1 e2 hk3 hk4
  go_wp2_with fail
  go_loopw [6, 7] (fun vb vi wr => ∃ (i : Nat), i ≤ 8 ∧ vi = .int .i64 i ∧ Hid (Below w2.heap.size w2 wr) ∧ Hid (Own wr w2.heap.size vb ([80, 76, 77, 80] ++ (le8 G).take i))) (fun _ vi _ => 8 - (RowKit.intOf vi).toNat)
  case atStart => exact ⟨0, by omega, rfl, below_alloc' (Below.refl _ _) (Nat.le_refl _) _, own_lit w2 [80, 76, 77, 80] w2.heap.size (Nat.le_refl _) (by decide)⟩
  case round =>
    obtain ⟨i, hi, rfl, hB, hO⟩ := hrel
    by_cases hin : i < 8
    · have X3 := Lib.hid (X2.out.low hB.out)
      have x0 := X3.out.c0
      have w1a : IntKind.i64.wrap (8 * (i : Int)) = 8 * (i : Int) := IntWalk.i64_in _ (by omega)
      have q0 : (8 * (i : Int)).toNat = 8 * i := by omega
      have q1 : (0 : Int) ≤ 8 * (i : Int) := by omega
      have HV : Hid (((G : Int) / 2 ^ (8 * i) % 256) = ((G / 2 ^ (8 * i) % 256 : Nat) : Int)) := by show _ = _; simp
      obtain ⟨x, hx⟩ : ∃ x, x = (G / 2 ^ (8 * i) % 256).toUInt8 := ⟨_, rfl⟩
      have hxn : ((G / 2 ^ (8 * i) % 256 : Nat) : Int) = ((x.toNat : Nat) : Int) := by rw [hx, u8_mod]
      have hnew := Lib.hid (le8_take G i hin)
      rw [← hx] at hnew
      obtain ⟨acc, hacc⟩ : ∃ acc, acc = [80, 76, 77, 80] ++ (le8 G).take i := ⟨_, rfl⟩
      have hal : acc.length = 4 + i := by rw [hacc]; simp [le8_len]; omega
      have NL : Hid (acc ++ [x] = [80, 76, 77, 80] ++ (le8 G).take (i + 1)) := by show _ = _; rw [hnew.out, hacc, List.append_assoc]
      rw [← hacc] at hO
      have own1 := World.ownsRow.alloc hO.out (.cells #[.int .u8 (x.toNat : Int)] 5)
      have b1 := hB.out.alloc hB.out.size (.cells #[.int .u8 (x.toNat : Int)] 5)
      have O1 : Hid (Own (wr.alloc (.cells #[.int .u8 (x.toNat : Int)] 5)) w2.heap.size u6 acc) := own1
      have BB1 := Lib.hid b1
      have LT := Lib.hid (byt_one wr x x.toNat rfl)
      have HF : Hid (([x] : List UInt8).length = 1) := rfl
      have p1 : acc.length + 1 ≤ 140737488355328 := by omega
      have p2 := b1.size
      have HV2 : Hid (((G : Int) / 2 ^ (8 * i) % 256) = ((x.toNat : Nat) : Int)) := by show _ = _; rw [HV.out, hxn]
      clear own1 b1 hx hxn hacc hal hnew HV hO hB
      have hv2 := HV2.out
      rw [← hv2] at O1 BB1 LT p2
      clear hv2 HV2
      go_wp2_with (at_builtin; refine wpl_app_len (t := 26) (e := 5) rfl (.tmp 24) (.tmp 32) rfl Tryd.underlying26 info5 w2.heap.size _ acc [x] rfl O1.out (some ⟨wr.heap.size, 0, none⟩) 1 1 rfl LT.out (fun h => by cases h) HF p1 p2 ?_; intro v' w' hown' hgrow)
      have hb' := Lib.hid (BB1.out.grown hgrow p2 (fun k hk => (O1.out.lt k hk).1))
      have ho' : Hid (Own w' w2.heap.size v' ([80, 76, 77, 80] ++ (le8 G).take (i + 1))) := by show Own _ _ _ _; rw [← NL.out]; exact hown'
      clear hown' hgrow
      go_wp2_with fail
      go_roundw
      case rel => exact ⟨i + 1, by omega, by go_num, hb'.out, ho'.out⟩
      case measure => simp [RowKit.intOf]; omega
    · obtain rfl : i = 8 := by omega
      have ho := hO.out
      rw [List.take_of_length_le (by rw [le8_len]; omega)] at ho
      obtain ⟨hd, hhd⟩ : ∃ hd, hd = [80, 76, 77, 80] ++ le8 G := ⟨_, rfl⟩
      rw [← hhd] at ho
      have HD := Lib.hid hhd
      have O2 := Lib.hid ho
      have HB3 := Lib.hid (HB.out.below hB.out)
      have p1 : hd.length + 32 ≤ 140737488355328 := by rw [hhd]; simp [le8_len]
      have p2 := hB.out.size
      have mk := mk8
      obtain ⟨Z, hZ⟩ : ∃ Z, Z = (bs (List.replicate 8 0)).toArray := ⟨_, rfl⟩
      rw [← hZ] at mk
      have HZZ := Lib.hid hZ
      clear ho hhd hO hZ
      go_wp2_with (at_builtin; refine wpl_app_len (t := 26) (e := 5) rfl (.tmp 34) (.tmp 35) rfl Tryd.underlying26 info5 w2.heap.size _ hd m rfl O2.out ak 32 ck rfl HB3.out HN.out HM p1 p2 ?_; intro v' w' hown' hgrow)
      have hb' := Lib.hid (hB.out.grown hgrow p2 (fun k hk => (O2.out.lt k hk).1))
      have ho' := Lib.hid hown'
      clear hown' hgrow hB
      obtain ⟨gb, hgb⟩ : ∃ g, g = w'.heap.size := ⟨_, rfl⟩
      have B4 : Hid (Below w2.heap.size w2 (w'.alloc (.cells Z 5))) := hb'.out.alloc hb'.out.size _
      have O4 : Hid (Own (w'.alloc (.cells Z 5)) w2.heap.size v' (hd ++ m)) := World.ownsRow.alloc (by exact ho'.out) _
      have K4 : Hid (Own (w'.alloc (.cells Z 5)) w2.heap.size (.slice (some ⟨gb, 0, none⟩) 8 8) (le8 (orL (p.take 0)))) := by
        have h0 : le8 (orL (p.take 0)) = List.replicate 8 0 := by rw [List.take_zero]; decide
        show Own _ _ _ _
        rw [h0, HZZ.out]
        exact blk_own5 (Blk.new w' _ 5 gb hgb) (by rw [hgb]; exact hb'.out.size) (by simp) (by omega)
      have NE : Hid (v'.ownBlock = none ∨ v'.ownBlock ≠ some gb) := Or.inr (fun h => by have := (ho'.out.lt gb h).2; omega)
      clear hb' ho'
      rw [← hgb]
      generalize w'.alloc (.cells Z 5) = w5 at *
      clear hgb mk
      go_loopw [9] (fun vi wr => ∃ (i : Nat), i ≤ n ∧ vi = .int .i64 i ∧ Hid (Below w2.heap.size w2 wr) ∧ Hid (Own wr w2.heap.size v' (hd ++ m)) ∧ Hid (Own wr w2.heap.size (.slice (some ⟨gb, 0, none⟩) 8 8) (le8 (orL (p.take i))))) (fun vi _ => n - (RowKit.intOf vi).toNat)
      case atStart => exact ⟨0, by omega, rfl, B4.out, O4.out, K4.out⟩
      case round =>
        obtain ⟨i, hi, rfl, hB, hO, hK⟩ := hrel
        have X5 := Lib.hid (X2.out.low hB.out)
        have x2 := X5.out.c2
        by_cases hin : i < n
        · have hil : i < p.length := by rw [← HP.out]; exact hin
          obtain ⟨b, o, rfl, hb, hcell⟩ := (Z2.out.below hB.out) (by intro h0; rw [h0] at hil; simp at hil)
          have d1 := hcell i hil
          have hq0 := HQ.out p[i] (List.getElem_mem hil)
          have hfr := or_fresh p HSU.out HQ.out i hil
          have hnx := orL_take p i hil
          obtain ⟨q, hq⟩ : ∃ q, q = p[i] := ⟨_, rfl⟩
          rw [← hq] at d1 hq0 hfr hnx
          obtain ⟨k, rfl⟩ : ∃ k : Nat, q = (k : Int) := ⟨q.toNat, by omega⟩
          rw [Int.toNat_natCast] at hfr hnx
          have hk : k < 62 := by omega
          obtain ⟨y, hy⟩ : ∃ y, y = orL (p.take i) / 2 ^ (8 * (k / 8)) % 256 := ⟨_, rfl⟩
          obtain ⟨l1, l2, l3, l4⟩ := le8_or (orL (p.take i)) k y (by omega) hy hfr
          have hk8 : k / 8 < 8 := by omega
          have d2 : wr.cell? ⟨gb, k / 8, none⟩ = some (.int .u8 (y : Int)) := by
            have h := hK.out.cellAt (k / 8) (by omega)
            rw [h]
            rw [bs, List.getElem?_map, l3]
            simp
            omega
          have d3 : wr.frozen? ⟨gb, k / 8, none⟩ = false := hK.out.frozenAt (k / 8)
          have q1 : (0 : Int) ≤ (i : Int) := by omega
          have q2 : (i : Int) < (n : Int) := by omega
          have HL1 := Lib.hid l1
          have HL2 := Lib.hid l2
          have HNX := Lib.hid hnx
          have hst := hK.out.stored (k / 8) (.int .u8 ((y + 2 ^ (k % 8)).toUInt8.toNat : Int))
          have hze : (((y + 2 ^ (k % 8)).toUInt8.toNat : Nat) : Int) = ((y : Int) + 2 ^ (k % 8)) % 256 := by simp
          rw [bs_set2, ← l1, ← hnx, hze] at hst
          have hgw := hK.out.lt gb rfl
          have KN : Hid (Own ((wr.setCell ⟨gb, k / 8, none⟩ (.int .u8 (((y : Int) + 2 ^ (k % 8)) % 256))).drew) w2.heap.size (.slice (some ⟨gb, 0, none⟩) 8 8) (le8 (orL (p.take (i + 1))))) := by
            show Own _ _ _ _
            exact hst.1
          have ON : Hid (Own ((wr.setCell ⟨gb, k / 8, none⟩ (.int .u8 (((y : Int) + 2 ^ (k % 8)) % 256))).drew) w2.heap.size v' (hd ++ m)) := World.ownsRow.drew (hO.out.kept hst.2 NE.out)
          have BN : Hid (Below w2.heap.size w2 ((wr.setCell ⟨gb, k / 8, none⟩ (.int .u8 (((y : Int) + 2 ^ (k % 8)) % 256))).drew)) := (hB.out.setCell (p := ⟨gb, k / 8, none⟩) hgw.1 _).drew
          clear hcell hq0 hfr hnx hq hy l1 l2 l3 hst hze hgw hK hO hB HL1 HL2 HNX
          go_wp2_with fail
          go_region
          generalize (wr.setCell ⟨gb, k / 8, none⟩ (.int .u8 (((y : Int) + 2 ^ (k % 8)) % 256))).drew = wd at *
          go_wp2_with fail
          go_roundw
          case rel => exact ⟨i + 1, by omega, by go_num, BN.out, ON.out, KN.out⟩
          case measure => simp [RowKit.intOf]; omega
        · obtain rfl : i = n := by omega
          have hk0 := hK.out
          rw [List.take_of_length_le (by rw [← HP.out]; exact Nat.le_refl _)] at hk0
          obtain ⟨x8, hx8⟩ : ∃ x8, x8 = le8 (orL p) := ⟨_, rfl⟩
          rw [← hx8] at hk0
          have HX8 := Lib.hid hx8
          have BY := Lib.hid (own_byt_at hk0)
          have HF : Hid (x8.length = 8) := by show _ = _; rw [hx8, le8_len]
          have OW := Lib.hid hO.out
          obtain ⟨hm8, hhm⟩ : ∃ hm8, hm8 = hd ++ m := ⟨_, rfl⟩
          rw [← hhm] at OW
          have HHM := Lib.hid hhm
          have p1 : hm8.length + 8 ≤ 140737488355328 := by rw [hhm, List.length_append, HD.out, HM.out]; simp [le8_len]
          have p2 := hB.out.size
          have HL44 : Hid (hm8.length = 44) := by show _ = _; rw [hhm, List.length_append, HD.out, HM.out]; simp [le8_len]
          clear hx8 hk0 hK hO hhm
          have HHD : Hid (hm8 ++ x8 = headL G m (orL p)) := by show _ = _; rw [HHM.out, HD.out, HX8.out, headL]
          have HL52 : Hid ((hm8 ++ x8).length = 52) := by show _ = _; rw [List.length_append, HL44.out, HF.out]
          have HBB := Lib.hid hB.out
          clear hB
          go_wp2_with (at_builtin; refine wpl_app_len (t := 26) (e := 5) rfl (.tmp 71) (.tmp 72) rfl Tryd.underlying26 info5 w2.heap.size _ hm8 x8 rfl OW.out (some ⟨gb, 0, none⟩) 8 8 rfl BY.out (fun h => by cases h) HF p1 p2 ?_; intro v9 w9 hown9 hgrow9; obtain ⟨ao9, c9, rfl, hc9, hm9, hb9, hn9⟩ := own_byt hown9; (have C9 := Lib.hid (Cr.refbytes_any ao9 (hm8 ++ x8) c9 w9 hb9 hn9 hc9 hm9 (by rw [HL52.out]; omega))); (have B9 := Lib.hid (HBB.out.grown hgrow9 p2 (fun k hk => (OW.out.lt k hk).1))); clear hown9 hgrow9 hb9; rw [HL52.out] at C9 ⊢)
          refine C9.out.mono ?_
          rintro e w10 ⟨b10, v10, rfl, ho10⟩
          have B9w := Lib.hid (below_chain B2.out B9.out)
          obtain ⟨l56, hl56⟩ : ∃ l, l = Cr.bytesL (hm8 ++ x8) := ⟨_, rfl⟩
          rw [← hl56] at ho10
          have HL56 : Hid (l56.length = 56) := by show _ = _; rw [hl56, Cr.bytesL_len, HL52.out]
          have HSE : Hid (secL ⟨(G : Int), r, p⟩ = l56 ++ List.replicate 200 0) := by show _ = _; rw [HS.out, secOf, hl56, HHD.out]
          have B10 := Lib.hid b10
          have O10 : Hid (Own w10 w9.heap.size v10 (l56 ++ List.replicate 0 0)) := by show Own _ _ _ _; rw [List.replicate_zero, List.append_nil]; exact ho10
          clear b10 ho10 hl56 C9 HL52 HHD OW BY HHM HL44 HF HX8 p1 p2 x2
          go_wp2_with fail
          go_loopw [6] (fun v wq => ∃ (j : Nat), j ≤ 200 ∧ Hid (Own wq w9.heap.size v (l56 ++ List.replicate j 0)) ∧ Hid (Below w9.heap.size w9 wq)) (fun v _ => 256 - lenOf v)
          case atStart => exact ⟨0, by omega, O10.out, B10.out⟩
          case round =>
            obtain ⟨j, hj, hO, hB⟩ := hrel
            obtain ⟨aj, cj, rfl, hcj, hmj, hbj, hnj⟩ := own_byt hO.out
            obtain ⟨acc, hacc⟩ : ∃ acc, acc = l56 ++ List.replicate j 0 := ⟨_, rfl⟩
            have hnl : acc.length = 56 + j := by rw [hacc, List.length_append, HL56.out, List.length_replicate]
            have NL : Hid (acc ++ [0] = l56 ++ List.replicate (j + 1) 0) := by show _ = _; rw [hacc, List.append_assoc, List.replicate_succ']
            rw [← hacc] at hO hcj hbj ⊢
            obtain ⟨t, ht⟩ : ∃ t, t = acc.length := ⟨_, rfl⟩
            rw [← ht] at hO hcj ⊢
            have HACC := Lib.hid hacc
            by_cases hj2 : j < 200
            · have own1 := World.ownsRow.alloc hO.out (.cells #[.int .u8 0] 5)
              have b1 := hB.out.alloc hB.out.size (.cells #[.int .u8 0] 5)
              have O1 := Lib.hid own1
              have BB1 := Lib.hid b1
              have LT := Lib.hid (byt_one wr 0 0 rfl)
              have HF : Hid (([0] : List UInt8).length = 1) := rfl
              have p1 : acc.length + 1 ≤ 140737488355328 := by omega
              have p2 := b1.size
              have q3 : (t : Int) < 256 := by omega
              have HT : Hid ((acc ++ [0]).length = t + 1) := by show _ = _; rw [List.length_append, ht]; rfl
              have HTJ : Hid (t = 56 + j) := by show _ = _; omega
              clear own1 b1 hO hB hacc hbj ht hnl
              go_wp2_with (at_builtin; refine wpl_app_len (t := 26) (e := 5) rfl (.tmp 78) (.tmp 79) rfl Tryd.underlying26 info5 w9.heap.size _ acc [0] rfl O1.out (some ⟨wr.heap.size, 0, none⟩) 1 1 rfl LT.out (fun h => by cases h) HF p1 p2 ?_; intro v12 w12 hown12 hgrow12; obtain ⟨a12, c12, rfl, _, _, _, _⟩ := own_byt hown12; rw [HT.out]; rw [HT.out] at hown12)
              have b12 := Lib.hid (BB1.out.grown hgrow12 p2 (fun k hk => (O1.out.lt k hk).1))
              have O12 : Hid (Own w12 w9.heap.size (.slice a12 (t + 1) c12) (l56 ++ List.replicate (j + 1) 0)) := by
                show World.ownsRow _ _ _ _ _ _ _
                rw [← NL.out, HT.out]
                exact hown12
              clear hown12 hgrow12
              go_wp2_with fail
              go_roundw
              case rel => exact ⟨j + 1, by omega, O12.out, b12.out⟩
              case measure => simp only [lenOf]; have := HTJ.out; omega
            · obtain rfl : j = 200 := by omega
              have OF : Hid (Own wr w9.heap.size (.slice aj t cj) (secL ⟨(G : Int), r, p⟩)) := by show Own _ _ _ _; rw [HSE.out, ← HACC.out]; exact hO.out
              have BF := Lib.hid (below_chain B9w.out hB.out)
              have SZ := B9w.out.size
              have ht2 : t = 256 := by omega
              clear hO hB hacc hbj ht hnl
              subst ht2
              go_wp2_with fail
              go_ret2
              exact ⟨BF.out, _, by rw [HE.out]; rfl, by rw [if_pos HOK.out]; exact OF.out.low SZ⟩
theorem refput14 (s : SP) (v : Value) (w : World) (h : SupV w v s) : Calls Tryd.prog 14 #[v] w (AnsQ w s) := by
  rcases Bool.eq_false_or_eq_true (okP s) with h1 | h1
  · exact refput_ok s h1 v w h
  · exact refput_no s h1 v w h
end Go.Proofs.YtlpbkjonicjccaaDoor.Sh
