/-
  What is written is read as it was: the contract of the law's function (f8). Condition: the library's variable errors.errorType is as its text lays it.
-/
import Derived.Test.YtpjgkboafmebbaaGreatDoorOt
namespace Go.Proofs.YtpjgkboafmebbaaGreatDoor.Sh
open Go.RowKit Go.Lib Lb
theorem own_far {w : World} {B n c : Nat} {ao : Option Addr} {l : List UInt8} (h : Own w B (.slice ao n c) l) : ∀ a, ao = some a → a.block < w.heap.size := by
  rintro a rfl
  exact (h.lt a.block rfl).2
/-- what is written, in short, with where it lies -/
def PutF (w : World) (l : List UInt8) (e : Ending) (w' : World) : Prop :=
  Below w.heap.size w w' ∧ ∃ a n c, e = .returned (.tuple #[.slice a n c, .int .i64 0]) ∧ l.length = n ∧ n ≤ c ∧ c ≤ 9223372036854775807 ∧ Byt w' a l ∧ (a = none → c = 0) ∧ ∀ x, a = some x → x.block < w'.heap.size
theorem putR_okF {w : World} {ok : Prop} {l : List UInt8} {e : Ending} {w' : World} (h : PutR w ok l e w') (hok : ok) : PutF w l e w' := by
  obtain ⟨hb, ⟨_, v, rfl, ho⟩ | ⟨hn, _⟩⟩ := h
  · obtain ⟨a, c, rfl, h1, h2, h3, h4⟩ := own_byt ho
    exact ⟨hb, a, _, c, rfl, rfl, h1, h2, h3, h4, own_far ho⟩
  · exact absurd hok hn
theorem back_meta {m : MetaP} {B : Nat} {w : World} {v : Value} (ho : OkMeta ltB nameOk m) (hv : VMeta B w m v) :
    ∃ q1 c1 q2 c2, v = .agg #[.int .i64 m.kind, .int .i64 m.mode, .int .i64 m.links, .int .i64 m.size, .string m.target, .slice q1 m.attrs.length c1, .slice q2 m.refs.length c2] ∧ Arw w q1 m.attrs ∧ m.attrs.length ≤ c1 ∧ c1 ≤ 9223372036854775807 ∧ Rrw w q2 m.refs ∧ m.refs.length ≤ c2 ∧ c2 ≤ 9223372036854775807 := by
  obtain ⟨u, t, rfl, hu, ht⟩ := hv
  obtain ⟨ao, c, rfl, h1, h2, _, h3⟩ := ownA_arw hu (fun a ha => by have := nameOk_len _ (ho.names a ha); have e : a.1.size = a.1.data.toList.length := Array.length_toList.symm
                                                                    omega)
  obtain ⟨bo, d, rfl, k1, k2, _, k3⟩ := ownG_rrw ht (fun r hr => okRef_size (ho.refs r hr))
  exact ⟨ao, c, bo, d, rfl, h3, h1, h2, k3, k1, k2⟩
theorem back_list {x : ListP} {B : Nat} {w : World} {v : Value} (hv : VList B w x v) :
    ∃ q1 c1 q2 c2, v = .agg #[.bool x.opq, .slice q1 x.names.length c1, .slice q2 x.nums.length c2] ∧ Srw w q1 x.names ∧ x.names.length ≤ c1 ∧ c1 ≤ 9223372036854775807 ∧ Zrw w q2 x.nums ∧ x.nums.length ≤ c2 ∧ c2 ≤ 9223372036854775807 := by
  obtain ⟨u, t, rfl, hu, ht⟩ := hv
  obtain ⟨ao, c, rfl, h1, h2, _, h3⟩ := ownG_srw hu
  obtain ⟨bo, d, rfl, k1, k2, _, k3⟩ := ownG_zrw ht
  exact ⟨ao, c, bo, d, rfl, h3, h1, h2, k3, k1, k2⟩
set_option maxHeartbeats 16000000 in
set_option maxRecDepth 100000 in
/-- what is written is read as it was -/
theorem back_any (k a b d : Int) (t : ByteArray) (av rv : Option Addr) (an ac rn rc : Nat) (la : List (ByteArray × List UInt8)) (lr : List RefP)
    (o : Bool) (sv zv : Option Addr) (sn sc zn zc : Nat) (ls : List ByteArray) (lz : List Int) (w : World)
    (ht : t.size ≤ 9223372036854775807) (ha : Arw w av la) (hla : la.length = an) (hac : an ≤ ac) (hacc : ac ≤ 9223372036854775807) (hr : Rrw w rv lr) (hlr : lr.length = rn) (hrc : rn ≤ rc) (hrcc : rc ≤ 9223372036854775807)
    (hz : Zrw w zv lz) (hlz : lz.length = zn) (hzc : zn ≤ zc) (hzcc : zc ≤ 9223372036854775807) (hs : Srw w sv ls) (hls : ls.length = sn) (hsc : sn ≤ sc) (hscc : sc ≤ 9223372036854775807) (he : ErrT w) :
    Calls Tryz.prog 8 #[.agg #[.int .i64 k, .int .i64 a, .int .i64 b, .int .i64 d, .string t, .slice av an ac, .slice rv rn rc], .agg #[.bool o, .slice sv sn sc, .slice zv zn zc]] w
      fun e w' => e = .returned (.bool true) ∧ Below w.heap.size w w' := by
  have HD := Lib.hid (fun W (h : Below w.heap.size w W) => heads_any W (he.below h))
  have C1 := Lib.hid (fun W (h : Below w.heap.size w W) => oputmeta_any k a b d t av rv an ac rn rc la lr W ht (ha.below h) hla hac hacc (hr.below h) hlr hrc hrcc)
  have C2 := Lib.hid (fun W (h : Below w.heap.size w W) => oputlisting_any o sv zv sn sc zn zc ls lz W (hz.below h) hlz hzc hzcc (hs.below h) hls hsc hscc)
  have M1 := Lib.hid (fun W (h : Below w.heap.size w W) (x1 : Option Addr) (y1 : Nat) (x2 : Option Addr) (y2 : Nat) (u1 : Arw W x1 la) (u2 : an ≤ y1) (u3 : y1 ≤ 9223372036854775807) (u4 : Rrw W x2 lr) (u5 : rn ≤ y2) (u6 : y2 ≤ 9223372036854775807) => metas_same k a b d t x1 av x2 rv la lr an y1 ac rn y2 rc W u1 (ha.below h) hla u2 u3 hac u4 (hr.below h) hlr u5 u6 hrc)
  have M2 := Lib.hid (fun W (h : Below w.heap.size w W) (x1 : Option Addr) (y1 : Nat) (x2 : Option Addr) (y2 : Nat) (u1 : Srw W x1 ls) (u2 : sn ≤ y1) (u3 : y1 ≤ 9223372036854775807) (u4 : Zrw W x2 lz) (u5 : zn ≤ y2) (u6 : y2 ≤ 9223372036854775807) => listings_same o x1 sv x2 zv ls lz sn y1 sc zn y2 zc W u1 (hs.below h) hls u2 u3 hsc u4 (hz.below h) hlz u5 u6 hzc)
  have G1 := Lib.hid (fun (ao : Option Addr) (n c : Nat) W (h : Below w.heap.size w W) (hb : Byt W ao (metaL ⟨k, a, b, d, t, la, lr⟩)) (hn : ao = none → c = 0) (hl : (metaL ⟨k, a, b, d, t, la, lr⟩).length = n) (hc : n ≤ c) (hm : c ≤ 9223372036854775807) (h47 : n ≤ 140737488355328) (hf : ∀ x, ao = some x → x.block < W.heap.size) => oget_meta ao n c _ W hb hn hl hc hm h47 hf (he.below h))
  have G2 := Lib.hid (fun (ao : Option Addr) (n c : Nat) W (h : Below w.heap.size w W) (hb : Byt W ao (listL ⟨o, ls, lz⟩)) (hn : ao = none → c = 0) (hl : (listL ⟨o, ls, lz⟩).length = n) (hc : n ≤ c) (hm : c ≤ 9223372036854775807) (h47 : n ≤ 140737488355328) (hf : ∀ x, ao = some x → x.block < W.heap.size) => oget_listing ao n c _ W hb hn hl hc hm h47 hf (he.below h))
  have HLA := Lib.hid hla
  have HLR := Lib.hid hlr
  have HLS := Lib.hid hls
  have HLZ := Lib.hid hlz
  clear he ht ha hla hac hacc hr hlr hrc hrcc hz hlz hzc hzcc hs hls hsc hscc
  obtain ⟨v0, hv0⟩ : ∃ x, x = w.alloc (.cells #[.int .i64 k, .int .i64 a, .int .i64 b, .int .i64 d, .string t, .slice av an ac, .slice rv rn rc] 26) := ⟨_, rfl⟩
  have sv0 : v0.heap.size = w.heap.size + 1 := by rw [hv0]; simp
  have bv0 : Below w.heap.size w v0 := by rw [hv0]; exact (Below.refl _ w).alloc (Nat.le_refl _) _
  have KM0 : Blk v0 w.heap.size [.int .i64 k, .int .i64 a, .int .i64 b, .int .i64 d, .string t, .slice av an ac, .slice rv rn rc] 26 := by rw [hv0]; exact Blk.new w [.int .i64 k, .int .i64 a, .int .i64 b, .int .i64 d, .string t, .slice av an ac, .slice rv rn rc] 26 _ rfl
  obtain ⟨v1, hv1⟩ : ∃ x, x = v0.alloc (.cells #[.bool o, .slice sv sn sc, .slice zv zn zc] 30) := ⟨_, rfl⟩
  have sv1 : v1.heap.size = v0.heap.size + 1 := by rw [hv1]; simp
  have bv1 : Below v0.heap.size v0 v1 := by rw [hv1]; exact (Below.refl _ v0).alloc (Nat.le_refl _) _
  have KL1 : Blk v1 v0.heap.size [.bool o, .slice sv sn sc, .slice zv zn zc] 30 := by rw [hv1]; exact Blk.new v0 [.bool o, .slice sv sn sc, .slice zv zn zc] 30 _ rfl
  have KM1 := KM0.low bv1
  rw [sv0] at KL1
  have HB := Lib.hid (below_chain bv0 bv1)
  have KM := Lib.hid KM1
  have KL := Lib.hid KL1
  rw [hv1, hv0] at HB KM KL
  clear hv1
  clear hv0
  clear bv0 bv1 sv0 sv1 KM0 KM1 KL1
  go_enter Tryz.func8, Tryz.ntmps8
  go_wp2_with fail
  refine (C1.out _ HB.out).mono ?_
  intro e w1 h1
  clear C1
  by_cases okM : OkMeta ltB nameOk ⟨k, a, b, d, t, la, lr⟩
  · skip
    obtain ⟨hb, p1, n1, c1, rfl, l1, e1, m1, y1, z1, f1⟩ := putR_okF h1 okM
    have Y1 := Lib.hid y1
    have F1 := Lib.hid f1
    have Z1 := Lib.hid z1
    have L1 := Lib.hid l1
    clear y1 f1 z1 l1
    have HB1 := Lib.hid (below_chain HB.out hb)
    have KM1 := Lib.hid (KM.out.low hb)
    have KL1 := Lib.hid (KL.out.low hb)
    have x0 := KL1.out.cell 0
    have x1 := KL1.out.cell 1
    have x2 := KL1.out.cell 2
    simp only [List.getElem?_cons_zero, List.getElem?_cons_succ] at x0 x1 x2
    clear hb h1 HB KM KL
    go_wp2_with fail
    refine (C2.out _ HB1.out).mono ?_
    intro e w2 h2
    clear C2 x0 x1 x2
    by_cases okL : OkList ltB nameOk ⟨o, ls, lz⟩
    · skip
      obtain ⟨hb, p2, n2, c2, rfl, l2, e2, m2, y2, z2, f2⟩ := putR_okF h2 okL
      have Y2 := Lib.hid y2
      have F2 := Lib.hid f2
      have Z2 := Lib.hid z2
      have L2 := Lib.hid l2
      clear y2 f2 z2 l2
      have HB2 := Lib.hid (below_chain HB1.out hb)
      have KM := Lib.hid (KM1.out.low hb)
      have KL := Lib.hid (KL1.out.low hb)
      have Y1b := Lib.hid (Y1.out.below hb)
      have F1b := Lib.hid (fun x hx => Nat.lt_of_lt_of_le (F1.out x hx) hb.size)
      clear Y1 F1
      have Y1 := Y1b
      have F1 := F1b
      clear Y1b F1b
      clear hb h2 HB1 KM1 KL1
      go_wp2_with fail
      refine (G1.out p1 n1 c1 _ HB2.out Y1.out Z1.out L1.out e1 m1 (by have := meta_len ltB nameOk nameOk_len _ okM; have := L1.out; omega) F1.out).mono ?_
      intro e wg hg
      obtain ⟨hb, v, rfl, hv⟩ := getR_ok hg ((getMeta_iff ltB nameOk nameOk_len _ _).2 ⟨okM, rfl⟩)
      obtain ⟨q1, y1, q2, y2, rfl, a1, a2, a3, b1, b2, b3⟩ := back_meta okM hv
      simp only [HLA.out, HLR.out] at a2 b2 ⊢
      have bg : Below wg.heap.size wg (wg.alloc (.cells #[.int .i64 k, .int .i64 a, .int .i64 b, .int .i64 d, .string t, .slice q1 an y1, .slice q2 rn y2] 26)) := (Below.refl _ wg).alloc (Nat.le_refl _) _
      have HG := Lib.hid (below_chain (below_chain HB2.out hb) bg)
      have KG := Lib.hid ((KM.out.low hb).low bg)
      have x0 := KG.out.cell 0
      have x1 := KG.out.cell 1
      have x2 := KG.out.cell 2
      have x3 := KG.out.cell 3
      have x4 := KG.out.cell 4
      have x5 := KG.out.cell 5
      have x6 := KG.out.cell 6
      simp only [List.getElem?_cons_zero, List.getElem?_cons_succ] at x0 x1 x2 x3 x4 x5 x6
      have CM := Lib.hid (M1.out _ HG.out q1 y1 q2 y2 (a1.below bg) a2 a3 (b1.below bg) b2 b3)
      have KL2 := Lib.hid ((KL.out.low hb).low bg)
      have YY := Lib.hid ((Y2.out.below hb).below bg)
      have FF := Lib.hid (fun x hx => Nat.lt_of_lt_of_le (F2.out x hx) (below_chain hb bg).size)
      clear a1 a2 a3 b1 b2 b3 hg hv KG bg hb
      go_wp2_with fail
      refine CM.out.mono ?_
      rintro e wm ⟨rfl, hb⟩
      have HB3 := Lib.hid (below_chain HG.out hb)
      have KL3 := Lib.hid (KL2.out.low hb)
      have Y3 := Lib.hid (YY.out.below hb)
      have F3 := Lib.hid (fun x hx => Nat.lt_of_lt_of_le (FF.out x hx) hb.size)
      clear x0 x1 x2 x3 x4 x5 x6 CM HG hb
      clear HB2 KL KL2
      have KL := KL3
      clear Y2 F2 YY FF
      have Y2 := Y3
      have F2 := F3
      go_wp2_with fail
      refine (G2.out p2 n2 c2 _ HB3.out Y2.out Z2.out L2.out e2 m2 (by have := list_len ltB nameOk nameOk_len _ okL; have := L2.out; omega) F2.out).mono ?_
      intro e wg hg
      obtain ⟨hb, v, rfl, hv⟩ := getR_ok hg ((getList_iff ltB nameOk nameOk_len _ _).2 ⟨okL, rfl⟩)
      obtain ⟨q1, y1, q2, y2, rfl, a1, a2, a3, b1, b2, b3⟩ := back_list hv
      simp only [HLS.out, HLZ.out] at a2 b2 ⊢
      have bg : Below wg.heap.size wg (wg.alloc (.cells #[.bool o, .slice q1 sn y1, .slice q2 zn y2] 30)) := (Below.refl _ wg).alloc (Nat.le_refl _) _
      have HG := Lib.hid (below_chain (below_chain HB3.out hb) bg)
      have KG := Lib.hid ((KL.out.low hb).low bg)
      have x0 := KG.out.cell 0
      have x1 := KG.out.cell 1
      have x2 := KG.out.cell 2
      simp only [List.getElem?_cons_zero, List.getElem?_cons_succ] at x0 x1 x2
      have CM := Lib.hid (M2.out _ HG.out q1 y1 q2 y2 (a1.below bg) a2 a3 (b1.below bg) b2 b3)
      clear a1 a2 a3 b1 b2 b3 hg hv KG bg hb
      go_wp2_with fail
      refine CM.out.mono ?_
      rintro e wm ⟨rfl, hb⟩
      have HB4 := Lib.hid (below_chain HG.out hb)
      clear x0 x1 x2 CM HG hb
      go_wp2_with fail
      refine (HD.out _ HB4.out).mono ?_
      rintro e wz ⟨rfl, hz⟩
      have hz2 := below_chain HB4.out hz
      go_wp2_with fail
      go_ret
      exact ⟨rfl, hz2⟩
    · skip
      obtain ⟨hb, rfl⟩ := putR_no h2 okL
      have HB2 := Lib.hid (below_chain HB1.out hb)
      have KM := Lib.hid (KM1.out.low hb)
      have KL := Lib.hid (KL1.out.low hb)
      have Y1b := Lib.hid (Y1.out.below hb)
      have F1b := Lib.hid (fun x hx => Nat.lt_of_lt_of_le (F1.out x hx) hb.size)
      clear Y1 F1
      have Y1 := Y1b
      have F1 := F1b
      clear Y1b F1b
      clear hb h2 HB1 KM1 KL1
      go_wp2_with fail
      refine (G1.out p1 n1 c1 _ HB2.out Y1.out Z1.out L1.out e1 m1 (by have := meta_len ltB nameOk nameOk_len _ okM; have := L1.out; omega) F1.out).mono ?_
      intro e wg hg
      obtain ⟨hb, v, rfl, hv⟩ := getR_ok hg ((getMeta_iff ltB nameOk nameOk_len _ _).2 ⟨okM, rfl⟩)
      obtain ⟨q1, y1, q2, y2, rfl, a1, a2, a3, b1, b2, b3⟩ := back_meta okM hv
      simp only [HLA.out, HLR.out] at a2 b2 ⊢
      have bg : Below wg.heap.size wg (wg.alloc (.cells #[.int .i64 k, .int .i64 a, .int .i64 b, .int .i64 d, .string t, .slice q1 an y1, .slice q2 rn y2] 26)) := (Below.refl _ wg).alloc (Nat.le_refl _) _
      have HG := Lib.hid (below_chain (below_chain HB2.out hb) bg)
      have KG := Lib.hid ((KM.out.low hb).low bg)
      have x0 := KG.out.cell 0
      have x1 := KG.out.cell 1
      have x2 := KG.out.cell 2
      have x3 := KG.out.cell 3
      have x4 := KG.out.cell 4
      have x5 := KG.out.cell 5
      have x6 := KG.out.cell 6
      simp only [List.getElem?_cons_zero, List.getElem?_cons_succ] at x0 x1 x2 x3 x4 x5 x6
      have CM := Lib.hid (M1.out _ HG.out q1 y1 q2 y2 (a1.below bg) a2 a3 (b1.below bg) b2 b3)
      have KL2 := Lib.hid ((KL.out.low hb).low bg)
      clear a1 a2 a3 b1 b2 b3 hg hv KG bg hb
      go_wp2_with fail
      refine CM.out.mono ?_
      rintro e wm ⟨rfl, hb⟩
      have HB3 := Lib.hid (below_chain HG.out hb)
      have KL3 := Lib.hid (KL2.out.low hb)
      clear x0 x1 x2 x3 x4 x5 x6 CM HG hb
      clear HB2 KL KL2
      have KL := KL3
      go_wp2_with fail
      refine (HD.out _ HB3.out).mono ?_
      rintro e wz ⟨rfl, hz⟩
      have hz2 := below_chain HB3.out hz
      go_wp2_with fail
      go_ret
      exact ⟨rfl, hz2⟩
  · skip
    obtain ⟨hb, rfl⟩ := putR_no h1 okM
    have HB1 := Lib.hid (below_chain HB.out hb)
    have KM1 := Lib.hid (KM.out.low hb)
    have KL1 := Lib.hid (KL.out.low hb)
    have x0 := KL1.out.cell 0
    have x1 := KL1.out.cell 1
    have x2 := KL1.out.cell 2
    simp only [List.getElem?_cons_zero, List.getElem?_cons_succ] at x0 x1 x2
    clear hb h1 HB KM KL
    go_wp2_with fail
    refine (C2.out _ HB1.out).mono ?_
    intro e w2 h2
    clear C2 x0 x1 x2
    by_cases okL : OkList ltB nameOk ⟨o, ls, lz⟩
    · skip
      obtain ⟨hb, p2, n2, c2, rfl, l2, e2, m2, y2, z2, f2⟩ := putR_okF h2 okL
      have Y2 := Lib.hid y2
      have F2 := Lib.hid f2
      have Z2 := Lib.hid z2
      have L2 := Lib.hid l2
      clear y2 f2 z2 l2
      have HB2 := Lib.hid (below_chain HB1.out hb)
      have KM := Lib.hid (KM1.out.low hb)
      have KL := Lib.hid (KL1.out.low hb)
      clear hb h2 HB1 KM1 KL1
      go_wp2_with fail
      refine (G2.out p2 n2 c2 _ HB2.out Y2.out Z2.out L2.out e2 m2 (by have := list_len ltB nameOk nameOk_len _ okL; have := L2.out; omega) F2.out).mono ?_
      intro e wg hg
      obtain ⟨hb, v, rfl, hv⟩ := getR_ok hg ((getList_iff ltB nameOk nameOk_len _ _).2 ⟨okL, rfl⟩)
      obtain ⟨q1, y1, q2, y2, rfl, a1, a2, a3, b1, b2, b3⟩ := back_list hv
      simp only [HLS.out, HLZ.out] at a2 b2 ⊢
      have bg : Below wg.heap.size wg (wg.alloc (.cells #[.bool o, .slice q1 sn y1, .slice q2 zn y2] 30)) := (Below.refl _ wg).alloc (Nat.le_refl _) _
      have HG := Lib.hid (below_chain (below_chain HB2.out hb) bg)
      have KG := Lib.hid ((KL.out.low hb).low bg)
      have x0 := KG.out.cell 0
      have x1 := KG.out.cell 1
      have x2 := KG.out.cell 2
      simp only [List.getElem?_cons_zero, List.getElem?_cons_succ] at x0 x1 x2
      have CM := Lib.hid (M2.out _ HG.out q1 y1 q2 y2 (a1.below bg) a2 a3 (b1.below bg) b2 b3)
      clear a1 a2 a3 b1 b2 b3 hg hv KG bg hb
      go_wp2_with fail
      refine CM.out.mono ?_
      rintro e wm ⟨rfl, hb⟩
      have HB4 := Lib.hid (below_chain HG.out hb)
      clear x0 x1 x2 CM HG hb
      go_wp2_with fail
      refine (HD.out _ HB4.out).mono ?_
      rintro e wz ⟨rfl, hz⟩
      have hz2 := below_chain HB4.out hz
      go_wp2_with fail
      go_ret
      exact ⟨rfl, hz2⟩
    · skip
      obtain ⟨hb, rfl⟩ := putR_no h2 okL
      have HB2 := Lib.hid (below_chain HB1.out hb)
      have KM := Lib.hid (KM1.out.low hb)
      have KL := Lib.hid (KL1.out.low hb)
      clear hb h2 HB1 KM1 KL1
      go_wp2_with fail
      refine (HD.out _ HB2.out).mono ?_
      rintro e wz ⟨rfl, hz⟩
      have hz2 := below_chain HB2.out hz
      go_wp2_with fail
      go_ret
      exact ⟨rfl, hz2⟩
end Go.Proofs.YtpjgkboafmebbaaGreatDoor.Sh
