/-
  The law of the statement DiskKeeps. No other condition.
-/
import Derived.Test.YtohmdcbfffgheaaLd
import Derived.Test.YtohmdcbfffgheaaLc
namespace Go.Proofs.Ytohmdcbfffgheaa.Dk
open Go.RowKit Go.Lib Go.Maps
theorem KeepS.later {w w' : World} {g sa mb cb : Nat} {S : List (List UInt8)} {lo N : Nat} {C : List Int} {q : Nat} (h : KeepS w g sa mb cb S lo N C q) (hb : Below w.heap.size w w') : KeepS w' g sa mb cb S lo N C q := by
  obtain ⟨k, D, hd, hk, hI, hR, hB⟩ := h
  exact ⟨k, D, hd.later hb, hk, hI, hR, Blk.low hB hb⟩
theorem KeepS.lt {w : World} {g sa mb cb : Nat} {S : List (List UInt8)} {lo N : Nat} {C : List Int} {q : Nat} (h : KeepS w g sa mb cb S lo N C q) : g < w.heap.size ∧ mb < w.heap.size := by
  obtain ⟨k, D, hd, hk, hI, hR, hB⟩ := h
  exact ⟨hd.dv.lt, hd.map.lt⟩
theorem keep_write2 {w : World} {g sa mb cb : Nat} {S : List (List UInt8)} {lo N : Nat} {C : List Int} {q : Nat} (h : KeepS w g sa mb cb S lo N C q) (hS : S.length = N) (hN : 1 ≤ N) (hN2 : N ≤ 50) (hq : q ≤ 1000) (a : Int) (f : UInt8) (bb c : Nat) (hb : Byt w (some ⟨bb, 0, none⟩) (secL f 256)) (hbg : bb ≠ g) (hbm : bb ≠ mb) :
    Calls Try.prog 11 #[.pointer (some ⟨g, 0, none⟩), .int .i64 a, .slice (some ⟨bb, 0, none⟩) 256 c] w fun e w' => ∃ z : Int, e = .returned (.int .i64 z) ∧ Fr w w' [g, mb] ∧
      ((z = 0 ∧ ∃ i : Nat, a = (i : Int) ∧ lo ≤ i ∧ i < N ∧ ∃ (k : Nat) (D : DataW Unit), DevS w' g sa mb S (lo : Int) k D true (-1) ((q + 1 : Nat) : Int) ∧ k ≤ q + 1 ∧ InD D N ∧ RelC D S (C.set i (1 + (f.toNat : Int))) N lo ∧ Blk w' cb (zs C) 3) ∨ (z ≠ 0 ∧ KeepS w' g sa mb cb S lo N C q)) := by
  refine (keep_write h hS hN hN2 hq a f bb c hb hbg hbm).mono ?_
  rintro e w' ⟨h1, ⟨i, h2, h3, h4, rfl, h5⟩ | ⟨z, h2, rfl, h3⟩⟩
  · exact ⟨0, rfl, h1, .inl ⟨rfl, i, h2, h3, h4, h5⟩⟩
  · exact ⟨z, rfl, h1, .inr ⟨h2, h3⟩⟩
theorem KeepS.put {w : World} {g sa mb cb : Nat} {S : List (List UInt8)} {lo N k i : Nat} {C : List Int} {q : Nat} {D : DataW Unit} {v : Int} (hd : DevS w g sa mb S (lo : Int) k D true (-1) (q : Int)) (hk : k ≤ q) (hI : InD D N) (hR : RelC D S (C.set i v) N lo) (hB : Blk w cb (zs C) 3) :
    KeepS (w.setCell ⟨cb, i, none⟩ (.int .i64 v)) g sa mb cb S lo N (C.set i v) q := by
  have hc1 := blk_ne hB hd.dv (by decide)
  have hc2 := blk_ne hB hd.sec (by decide)
  have hc3 : cb ≠ mb := fun e => by
    subst e
    obtain ⟨es, cl, h2, _⟩ := hd.map
    unfold Blk at hB
    rw [hB] at h2
    cases h2
  refine ⟨k, D, hd.kept (fr_grown (gb_set w cb i _) (N := [cb]) (by simp)) (by simp; omega) (by simp; omega) (by simp; omega), hk, hI, hR, ?_⟩
  have h2 := Blk.set hB i (.int .i64 v)
  rw [zs_set] at h2
  exact h2
theorem blk_bytT {w : World} {g : Nat} {l : List UInt8} {t : TypeId} (h : Blk w g (bs l) t) : Byt w (some ⟨g, 0, none⟩) l := fun _ => by
  refine ⟨g, 0, rfl, h.lt, fun j hj => ?_⟩
  rw [h.cell, Nat.zero_add]
  exact bs_get l j hj
theorem three_out {w : World} {g sa mb c : Nat} {S : List (List UInt8)} {low : Int} {k : Nat} {D : DataW Unit} {pw : Bool} {left nw : Int} {cs : List Value} (hd : DevS w g sa mb S low k D pw left nw) (hc : Blk w c cs 3) : c ∉ [g, sa, mb] := by
  have n1 := blk_ne hc hd.dv (by decide)
  have n2 := blk_ne hc hd.sec (by decide)
  have n3 : c ≠ mb := fun e => by
    subst e
    obtain ⟨es, cl, h2, _⟩ := hd.map
    unfold Blk at hc
    rw [hc] at h2
    cases h2
  simp [n1, n2, n3]
/-- the row of what was flushed, as far as keep has been gone through -/
def RM (F C F2 : List Int) (K : List Int) (N : Nat) : Prop := F2.length = N ∧ ∀ j, j < N → ∃ v c, F[j]? = some v ∧ C[j]? = some c ∧ F2[j]? = some (if (j : Int) ∈ K ∧ 0 < c then c else v)
theorem rm_zero {F C : List Int} {N : Nat} (hF : F.length = N) (hC : C.length = N) : RM F C F [] N :=
  ⟨hF, fun j hj => ⟨F[j]'(by omega), C[j]'(by omega), List.getElem?_eq_getElem _, List.getElem?_eq_getElem _, by rw [if_neg (by simp)]; exact List.getElem?_eq_getElem _⟩⟩
theorem rm_skip {F C F2 K : List Int} {N : Nat} {x : Int} (h : RM F C F2 K N) (hx : ∀ j : Nat, j < N → x = (j : Int) → ∀ c, C[j]? = some c → c ≤ 0) : RM F C F2 (K ++ [x]) N := by
  refine ⟨h.1, fun j hj => ?_⟩
  obtain ⟨v, c, h1, h2, h3⟩ := h.2 j hj
  refine ⟨v, c, h1, h2, ?_⟩
  rw [h3]
  by_cases hc : 0 < c
  · have : ¬ (j : Int) = x := fun e => by have := hx j hj e.symm c h2; omega
    simp [this]
  · simp [hc]
theorem rm_put {F C F2 K : List Int} {N i : Nat} {c : Int} (h : RM F C F2 K N) (_hi : i < N) (hc : C[i]? = some c) (h0 : 0 < c) : RM F C (F2.set i c) (K ++ [(i : Int)]) N := by
  refine ⟨by rw [List.length_set]; exact h.1, fun j hj => ?_⟩
  obtain ⟨v, c2, h1, h2, h3⟩ := h.2 j hj
  refine ⟨v, c2, h1, h2, ?_⟩
  by_cases e : i = j
  · subst e
    rw [hc] at h2
    injection h2 with h2
    subst h2
    rw [List.getElem?_set_self (by rw [h.1]; exact hj), if_pos ⟨by simp, h0⟩]
  · have : ¬ (j : Int) = (i : Int) := by omega
    rw [List.getElem?_set_ne e, h3]
    simp [this]
theorem img_zeros (lo N : Nat) (h : lo ≤ N) : img (List.replicate (256 * lo) 0) (256 * N) = List.replicate (256 * N) 0 := by
  simp [img]
  omega
theorem secs_zeros (N j : Nat) (hj : j < N) : (secs (List.replicate (256 * N) 0) N)[j]? = some zeros := by
  rw [secs, List.getElem?_map, List.getElem?_range hj]
  rw [Option.map_some, secN, List.drop_replicate, List.take_replicate, zeros]
  congr 2
  omega
theorem upTo_mul (lo : Nat) : upTo (256 * lo) = lo := by
  unfold upTo
  rw [if_pos (by omega)]
  omega
theorem noughts_row (K : Nat) (hK : K ≤ 1048576) (W : World) : ∃ W', (Instr.makeSlice 29 (.int .i64 (K : Int)) (.int .i64 (K : Int))).run Try.prog W = .ok (.slice (some ⟨W.heap.size, 0, none⟩) K K) W' ∧ Blk W' W.heap.size (bs (List.replicate K 0)) 5 ∧ W.grownBy W' none := by
  obtain ⟨i4, j0, j1, j2, j3⟩ := info_parts info5
  obtain ⟨W', h1, h2, h3⟩ := run_make_full (P := Try.prog) (w := W) W.heap.size 29 5 i4 (.int .u8 0) 1 Try.underlying29 j0 j1 j2 .i64 .i64 K (by rw [j3]; omega) (by unfold maxLen; omega) (Nat.le_refl _)
  rw [made_one _ rfl] at h2
  have e : bs (List.replicate K 0) = List.replicate K (.int .u8 0) := by simp [bs]
  rw [e]
  exact ⟨W', h1, full_any h2, h3⟩
set_option maxHeartbeats 4000000 in
set_option maxRecDepth 100000 in
theorem keeps_law (lo n : Int) (a1 a2 a3 : Option Addr) (L1 L2 : List OpR) (K : List Int) (c1 c2 c3 : Nat) (w : World) (h1 : Ops w a1 L1) (h2 : Ops w a2 L2) (h3 : Zrw w a3 K) (hb3 : ∀ z ∈ K, -9223372036854775808 ≤ z ∧ z ≤ 9223372036854775807)
    (x1 : L1.length ≤ c1) (x2 : L2.length ≤ c2) (x3 : K.length ≤ c3) (_y1 : c1 ≤ 9223372036854775807) (_y2 : c2 ≤ 9223372036854775807) (_y3 : c3 ≤ 9223372036854775807) :
    Calls Try.prog 6 #[.int .i64 lo, .int .i64 n, .slice a1 L1.length c1, .slice a2 L2.length c2, .slice a3 K.length c3] w fun e w' => e = .returned (.bool true) ∧ Below w.heap.size w w' := by
  by_cases hbad : lo < 0 ∨ n < 1 ∨ 20 < lo ∨ 30 < n ∨ 60 < L1.length ∨ 60 < L2.length ∨ 100 < K.length
  · exact keeps_bad lo n a1 a2 a3 _ _ _ c1 c2 c3 w hbad
  obtain ⟨lo, rfl⟩ : ∃ m : Nat, lo = (m : Int) := ⟨lo.toNat, by omega⟩
  obtain ⟨n, rfl⟩ : ∃ m : Nat, n = (m : Int) := ⟨n.toNat, by omega⟩
  obtain ⟨m1, hm1⟩ : ∃ m, m = L1.length := ⟨_, rfl⟩
  obtain ⟨m2, hm2⟩ : ∃ m, m = L2.length := ⟨_, rfl⟩
  obtain ⟨m3, hm3⟩ : ∃ m, m = K.length := ⟨_, rfl⟩
  obtain ⟨N, hN⟩ : ∃ N, N = lo + n := ⟨_, rfl⟩
  obtain ⟨Z, hZ⟩ : ∃ Z, Z = 256 * lo := ⟨_, rfl⟩
  rw [← hm1, ← hm2, ← hm3]
  have x1' : m1 ≤ c1 := by omega
  have x2' : m2 ≤ c2 := by omega
  have x3' : m3 ≤ c3 := by omega
  have b1 : lo ≤ 20 := by omega
  have b2 : 1 ≤ n := by omega
  have b3 : n ≤ 30 := by omega
  have b4 : m1 ≤ 60 := by omega
  have b5 : m2 ≤ 60 := by omega
  have b6 : m3 ≤ 100 := by omega
  have hN1 : 1 ≤ N := by omega
  have hN2 : N ≤ 50 := by omega
  have t0 : decide ((lo : Int) < 0) = false := by simp
  have t1 : decide ((n : Int) < 1) = false := by simp; omega
  have t2 : decide ((20 : Int) < (lo : Int)) = false := by simp; omega
  have t3 : decide ((30 : Int) < (n : Int)) = false := by simp; omega
  have t4 : decide ((60 : Int) < (m1 : Int)) = false := by simp; omega
  have t5 : decide ((60 : Int) < (m2 : Int)) = false := by simp; omega
  have t6 : decide ((100 : Int) < (m3 : Int)) = false := by simp; omega
  have s4 : decide (60 < m1) = false := by simp; omega
  have s5 : decide (60 < m2) = false := by simp; omega
  have s6 : decide (100 < m3) = false := by simp; omega
  have e1 : (lo : Int) * 256 = (Z : Int) := by omega
  have e2 : (lo : Int) + (n : Int) = (N : Int) := by omega
  have H1 := Lib.hid h1
  have H2 := Lib.hid h2
  have H3 := Lib.hid h3
  have HK3 := Lib.hid hb3
  have HL1 : Hid (L1.length = m1) := hm1.symm
  have HL2 : Hid (L2.length = m2) := hm2.symm
  have HL3 : Hid (K.length = m3) := hm3.symm
  obtain ⟨wz, r0, k0, g0⟩ := noughts_row Z (by omega) w
  have BZ := Lib.hid ((Below.refl w.heap.size w).grown g0 (Nat.le_refl _) (by simp))
  have KZ := Lib.hid k0
  have CN : Hid (Calls Try.prog 9 #[.int .i64 (n : Int), .slice (some ⟨w.heap.size, 0, none⟩) Z Z] wz (NewP wz (List.replicate Z 0) lo N)) := by
    have h := new_ok n (some ⟨w.heap.size, 0, none⟩) (List.replicate Z 0) Z Z wz (blk_byt k0) List.length_replicate (by rw [hZ, upTo_mul]; omega)
    rw [show upTo Z = lo by rw [hZ]; exact upTo_mul lo, ← hN] at h
    exact h
  have IZ : Hid (img (List.replicate Z 0) (256 * N) = List.replicate (256 * N) 0) := by show _ = _; rw [hZ]; exact img_zeros lo N (by omega)
  have HM := Lib.hid (mk32 N (by omega))
  have hlo0 : (0 : Int) ≤ (lo : Int) := Int.natCast_nonneg _
  have hlo1 : (lo : Int) ≤ 20 := by omega
  have hn0 : (0 : Int) ≤ (n : Int) := Int.natCast_nonneg _
  have hn1 : (n : Int) ≤ 30 := by omega
  clear x1 x2 x3 hbad hm1 hm2 hm3 hN hZ h1 h2 h3 hb3 k0 g0
  go_enter Try.func6, Try.ntmps6
  go_wp2_with fail
  refine CN.out.mono ?_
  rintro e w1 ⟨hb1, ⟨h9, _⟩ | ⟨_, g, sa, mb, rfl, hg, hsa, hmb, hD⟩⟩
  · omega
  rw [IZ.out] at hD
  have SLN : Hid ((secs (List.replicate (256 * N) 0) N).length = N) := secs_len _ _
  have SZE := Lib.hid (fun j (hj : j < N) => secs_zeros N j hj)
  have D1 := Lib.hid hD
  have B1 := Lib.hid (below_chain BZ.out hb1)
  have GE := Lib.hid (show w.heap.size ≤ g ∧ w.heap.size ≤ sa ∧ w.heap.size ≤ mb by have := BZ.out.size; omega)
  clear hb1 hg hsa hmb hD CN r0 IZ
  generalize secs (List.replicate (256 * N) 0) N = S at *
  obtain ⟨w2, r2, k2, g2⟩ := HM.out w1
  have hb2 := (Below.refl w1.heap.size w1).grown g2 (Nat.le_refl _) (by simp)
  obtain ⟨w3, r3, k3, g3⟩ := HM.out w2
  have hb3 := (Below.refl w2.heap.size w2).grown g3 (Nat.le_refl _) (by simp)
  have D3 := Lib.hid ((D1.out.later hb2).later hb3)
  have B3 := Lib.hid (below_chain (below_chain B1.out hb2) hb3)
  have F3 := Lib.hid (Blk.low k2 hb3)
  have C3 := Lib.hid k3
  obtain ⟨fb, hfb⟩ : ∃ fb, fb = w1.heap.size := ⟨_, rfl⟩
  obtain ⟨cb, hcb⟩ : ∃ cb, cb = w2.heap.size := ⟨_, rfl⟩
  rw [← hfb] at r2 F3
  rw [← hcb] at r3 C3
  have FB := Lib.hid (show w.heap.size ≤ fb ∧ w.heap.size ≤ cb ∧ fb < cb by have := B1.out.size; have := hb2.size; have := k2.lt; omega)
  clear k2 g2 k3 g3 hb2 hb3 D1 B1
  go_wp2_with fail
  clear r2 r3
  subst hfb
  subst hcb
  generalize w1.heap.size = fb at *
  generalize w2.heap.size = cb at *
  have KS0 : Hid (KeepS w3 g sa mb fb S lo N (List.replicate N 0) 0) := ⟨0, .map [], D3.out, by omega, InD.nil N, relC_none S N lo (fun z => by simp [Maps.has]), F3.out⟩
  clear D3 F3
  -- the writes that are flushed
  go_loopw [15] (fun vi wr => ∃ (i q : Nat) (F : List Int), i ≤ m1 ∧ q ≤ i ∧ vi = .int .i64 i ∧ Hid (Below w.heap.size w wr) ∧ Hid (KeepS wr g sa mb fb S lo N F q) ∧ Hid (Blk wr cb (zs (List.replicate N 0)) 3)) (fun vi _ => m1 - (RowKit.intOf vi).toNat)
  case atStart => exact ⟨0, 0, _, by omega, by omega, rfl, B3, KS0, C3⟩
  case round =>
    obtain ⟨i, q, F, hi, hqi, rfl, hB, hK, hC⟩ := hrel
    by_cases hin : i < m1
    · obtain ⟨b, o, rfl, hbw, hops⟩ := H1.out.1 (by intro h0; have := HL1.out; rw [h0] at this; simp at this; omega)
      obtain ⟨x, hx⟩ : ∃ x, L1[i]? = some x := ⟨_, List.getElem?_eq_getElem (by have := HL1.out; omega)⟩
      obtain ⟨_, c1', c2', _, _⟩ := hops i x hx
      have d1 : wr.drew.cell? ⟨b, o + i * 5 + 1, none⟩ = some (.int .i64 x.at_) := (hB.out.cell (p := ⟨b, o + i * 5 + 1, none⟩) hbw).trans (by rw [Nat.mul_comm i 5]; exact c1')
      have d2 : wr.drew.cell? ⟨b, o + i * 5 + 2, none⟩ = some (.int .u8 (x.fill.toNat : Int)) := (hB.out.cell (p := ⟨b, o + i * 5 + 2, none⟩) hbw).trans (by rw [Nat.mul_comm i 5]; exact c2')
      have q0 : (0 : Int) ≤ (i : Int) := by omega
      have q1 : (i : Int) < (m1 : Int) := by omega
      clear c1' c2' hops
      go_wp2_with fail
      have CS : Hid (∀ W, Calls Try.prog 12 #[.int .u8 (x.fill.toNat : Int), .int .i64 256] W fun e w' => Below W.heap.size W w' ∧ ∃ b c, e = .returned (.slice (some ⟨b, 0, none⟩) 256 c) ∧ W.heap.size ≤ b ∧ Byt w' (some ⟨b, 0, none⟩) (secL x.fill 256) ∧ 256 ≤ c ∧ c ≤ 9223372036854775807) := fun W => sector_256 x.fill W
      have KD : Hid (KeepS wr.drew g sa mb fb S lo N F q) := hK.out.later (Below.refl _ wr).drew
      have D1 := Lib.hid d1
      have hB2 : Hid (Below w.heap.size w wr.drew) := hB.out.drew
      have D2 := Lib.hid d2
      have hNG : b ∉ [g, mb] := by have := GE.out; simp; omega
      have hblt : b < wr.drew.heap.size := Nat.lt_of_lt_of_le hbw hB.out.size
      go_region_held3 (fun w' => w'.cell? ⟨b, o + i * 5 + 1, none⟩ = some (.int .i64 x.at_) ∧ w'.cell? ⟨b, o + i * 5 + 2, none⟩ = some (.int .u8 (x.fill.toNat : Int)))
        (first | exact ⟨D1.out, D2.out⟩ | exact ⟨(hb3.cell (p := ⟨b, o + i * 5 + 1, none⟩) hblt).trans D1.out, (hb3.cell (p := ⟨b, o + i * 5 + 2, none⟩) hblt).trans D2.out⟩ | exact ⟨((hf4.below hb3.size hNG).cell (p := ⟨b, o + i * 5 + 1, none⟩) hblt).trans ((hb3.cell (p := ⟨b, o + i * 5 + 1, none⟩) hblt).trans D1.out), ((hf4.below hb3.size hNG).cell (p := ⟨b, o + i * 5 + 2, none⟩) hblt).trans ((hb3.cell (p := ⟨b, o + i * 5 + 2, none⟩) hblt).trans D2.out)⟩ | exact ⟨(hf4.cell (a := ⟨b, o + i * 5 + 1, none⟩) (Nat.lt_of_lt_of_le hblt hb3.size) hNG).trans ((hb3.cell (p := ⟨b, o + i * 5 + 1, none⟩) hblt).trans D1.out), (hf4.cell (a := ⟨b, o + i * 5 + 2, none⟩) (Nat.lt_of_lt_of_le hblt hb3.size) hNG).trans ((hb3.cell (p := ⟨b, o + i * 5 + 2, none⟩) hblt).trans D2.out)⟩ | go_keep)
        (first
          | (go_at_call 12; (with_reducible refine (CS.out _).mono ?_); rintro e w3 ⟨hb3, b3, c3, rfl, hbl3, hr3, _, _⟩)
          | (go_at_call 11; (with_reducible refine (keep_write2 (KD.out.later hb3) SLN.out hN1 hN2 (by omega) x.at_ x.fill b3 c3 hr3 (by have := KD.out.lt; omega) (by have := KD.out.lt; omega)).mono ?_); rintro e w4 ⟨z4, rfl, hf4, hp4⟩))
      have HB4 := Lib.hid (hB2.out.trans ((hb3.mono hB2.out.size).trans (hf4.below (Nat.le_trans hB2.out.size hb3.size) (by intro a ha; have := GE.out; simp at ha; omega))))
      have HC4 : Hid (Blk w4 cb (zs (List.replicate N 0)) 3) := by
        have h9 := (Blk.low (w' := wr.drew) hC.out (Below.refl _ wr).drew).low hb3
        refine hf4.blk h9 ?_
        obtain ⟨k9, D9, hd9, _⟩ := KD.out.later hb3
        have hn1 := blk_ne h9 hd9.dv (by decide)
        have hn2 : cb ≠ mb := fun e => by
          subst e
          obtain ⟨es, cl, h2, _⟩ := hd9.map
          unfold Blk at h9
          rw [h9] at h2
          cases h2
        simp [hn1, hn2]
      have e1 : w4.cell? ⟨b, o + i * 5 + 1, none⟩ = some (.int .i64 x.at_) := (hf4.cell (a := ⟨b, o + i * 5 + 1, none⟩) (Nat.lt_of_lt_of_le hblt hb3.size) hNG).trans ((hb3.cell (p := ⟨b, o + i * 5 + 1, none⟩) hblt).trans D1.out)
      have e2 : w4.cell? ⟨b, o + i * 5 + 2, none⟩ = some (.int .u8 (x.fill.toNat : Int)) := (hf4.cell (a := ⟨b, o + i * 5 + 2, none⟩) (Nat.lt_of_lt_of_le hblt hb3.size) hNG).trans ((hb3.cell (p := ⟨b, o + i * 5 + 2, none⟩) hblt).trans D2.out)
      clear hf4 hb3 hr3 hbl3 D1 D2 d1 d2 hC hB hK KD CS hB2
      rcases hp4 with ⟨rfl, i4, hai, hlo4, hiN4, k4, D4, hd4, hk4, hI4, hR4, hB4⟩ | ⟨hz4, hks4⟩
      · rw [hai] at e1
        obtain ⟨v4, hv4⟩ : ∃ v, F[i4]? = some v := ⟨_, List.getElem?_eq_getElem (by have h8 := hR4.1; rw [List.length_set] at h8; omega)⟩
        have e3 : w4.cell? ⟨fb, i4, none⟩ = some (.int .i64 v4) := (hB4.cell i4).trans (zs_get F i4 v4 hv4)
        have e4 := hB4.frozen i4
        have hbf : b ≠ fb := by have := FB.out; omega
        have HKS : Hid (KeepS (w4.setCell ⟨fb, i4, none⟩ (.int .i64 (1 + (x.fill.toNat : Int)))).drew g sa mb fb S lo N (F.set i4 (1 + (x.fill.toNat : Int))) (q + 1)) := (KeepS.put hd4 hk4 hI4 hR4 hB4).later (Below.refl _ _).drew
        have HC5 : Hid (Blk (w4.setCell ⟨fb, i4, none⟩ (.int .i64 (1 + (x.fill.toNat : Int)))).drew cb (zs (List.replicate N 0)) 3) := Blk.other HC4.out _ (by have := FB.out; show cb ≠ fb; omega)
        have HB5 : Hid (Below w.heap.size w (w4.setCell ⟨fb, i4, none⟩ (.int .i64 (1 + (x.fill.toNat : Int)))).drew) := (HB4.out.setCell (p := ⟨fb, i4, none⟩) (by have := FB.out; show w.heap.size ≤ fb; omega) _).drew
        have E1' : Hid ((w4.setCell ⟨fb, i4, none⟩ (.int .i64 (1 + (x.fill.toNat : Int)))).drew.cell? ⟨b, o + i * 5 + 1, none⟩ = some (.int .i64 (i4 : Int))) := (World.cell?_of_block (a := ⟨b, o + i * 5 + 1, none⟩) (Below.heap_setCell _ _ _ b hbf)).trans e1
        have E2' : Hid ((w4.setCell ⟨fb, i4, none⟩ (.int .i64 (1 + (x.fill.toNat : Int)))).drew.cell? ⟨b, o + i * 5 + 2, none⟩ = some (.int .u8 (x.fill.toNat : Int))) := (World.cell?_of_block (a := ⟨b, o + i * 5 + 2, none⟩) (Below.heap_setCell _ _ _ b hbf)).trans e2
        have wf1 : IntKind.i64.wrap (x.fill.toNat : Int) = (x.fill.toNat : Int) := IntWalk.i64_in _ (by have := x.fill.toNat_lt; omega)
        have wf2 : IntKind.i64.wrap (1 + (x.fill.toNat : Int)) = 1 + (x.fill.toNat : Int) := IntWalk.i64_in _ (by have := x.fill.toNat_lt; omega)
        have i40 : (0 : Int) ≤ (i4 : Int) := by omega
        have i41 : (i4 : Int) < (N : Int) := by omega
        have f0 : (0 : Int) ≤ (x.fill.toNat : Int) := by omega
        have f1 : (x.fill.toNat : Int) < 256 := by have := x.fill.toNat_lt; omega
        have E1 := Lib.hid e1
        have E2 := Lib.hid e2
        clear hd4 hk4 hI4 hR4 hB4 hv4 HC4 HB4 hai hblt hNG
        go_wp2_with fail
        go_region_held3 (fun w' => w'.cell? ⟨b, o + i * 5 + 1, none⟩ = some (.int .i64 (i4 : Int)) ∧ w'.cell? ⟨b, o + i * 5 + 2, none⟩ = some (.int .u8 (x.fill.toNat : Int)))
          (first | exact ⟨E1.out, E2.out⟩ | exact ⟨E1'.out, E2'.out⟩ | go_keep) (fail)
        clear e1 e2 e3 e4
        generalize (w4.setCell ⟨fb, i4, none⟩ (.int .i64 (1 + (x.fill.toNat : Int)))).drew = w5 at *
        go_wp2_with fail
        go_roundw
        case rel => exact ⟨i + 1, q + 1, _, by omega, by omega, by go_num, HB5, HKS, HC5⟩
        case measure => simp [RowKit.intOf]; omega
      · have t7 : (z4 == 0) = false := by simpa using hz4
        have t7' : decide (z4 = 0) = false := by simpa using hz4
        have HKS := Lib.hid hks4
        clear hks4 hz4 e1 e2
        go_wp2_with fail
        go_roundw
        case rel => exact ⟨i + 1, q, F, by omega, by omega, by go_num, HB4, HKS, HC4⟩
        case measure => simp [RowKit.intOf]; omega
    · obtain rfl : i = m1 := by omega
      obtain ⟨k, D, hd, hk, hI, hR, hBF⟩ := hK.out
      have CF := Lib.hid (flush_ok hd (by rw [SLN.out]; exact hI) (by unfold awakeE; rw [SLN.out, if_neg (by omega : ¬ N = 0)]; rfl) (by rw [SLN.out]; omega) (by omega) (by omega) (by omega) (by omega) (by omega))
      have HR := Lib.hid hR
      have HDV := Lib.hid hd
      have HBF := Lib.hid hBF
      have HK9 := Lib.hid hk
      clear hd hk hI hR hBF hK
      go_wp2_with fail
      refine CF.out.mono ?_
      rintro e w5 ⟨rfl, hf5, S1, D1, hfl, hno, hd5⟩
      have SLN1 : Hid (S1.length = N) := by show _ = _; rw [hfl.1]; exact SLN.out
      obtain ⟨Q1, hQ1⟩ : ∃ Q1, Q1 = q + 1 := ⟨_, rfl⟩
      have hd5' : DevS w5 g sa mb S1 (lo : Int) k D1 true (-1) (Q1 : Int) := by
        have e9 : ((q : Int) + 1) = (Q1 : Int) := by omega
        rw [← e9]
        exact hd5
      have hQb : Q1 ≤ 61 := by omega
      have BQ := Lib.hid (hB.out.trans (hf5.below hB.out.size (by intro a ha; have := GE.out; simp at ha; omega)))
      have hne : ∀ {c : Nat} {cs : List Value}, Blk wr c cs 3 → c ∉ [g, sa, mb] := fun {c cs} hc9 => by
        obtain ⟨k9, D9, hd9, _⟩ : ∃ k9 D9, DevS wr g sa mb S (lo : Int) k9 D9 true (-1) (q : Int) ∧ True := ⟨k, D, HDV.out, trivial⟩
        have n1 := blk_ne hc9 hd9.dv (by decide)
        have n2 := blk_ne hc9 hd9.sec (by decide)
        have n3 : c ≠ mb := fun e => by
          subst e
          obtain ⟨es, cl, h2, _⟩ := hd9.map
          unfold Blk at hc9
          rw [hc9] at h2
          cases h2
        simp [n1, n2, n3]
      have FQ := Lib.hid (hf5.blk HBF.out (hne HBF.out))
      have KS1 : Hid (KeepS w5 g sa mb cb S1 lo N (List.replicate N 0) Q1) := ⟨k, D1, hd5', by have := HK9.out; omega, by have h8 := hfl.2.1; rw [SLN.out] at h8; exact h8, relC_none S1 N lo hno, hf5.blk hC.out (hne hC.out)⟩
      have RF : Hid (F.length = N ∧ ∀ j, j < N → ∃ v, F[j]? = some v ∧ 0 ≤ v ∧ v ≤ 256 ∧ (j < lo → v = 0) ∧ S1[j]? = some (want v)) := by
        refine ⟨HR.out.1, fun j hj => ?_⟩
        obtain ⟨v, v1, v2, v3, v4, _⟩ := HR.out.2 j hj
        refine ⟨v, v1, v2, v3, v4, ?_⟩
        have h8 := hfl.2.2 j
        rw [relC_at HR.out hj v1, secAt, if_neg (by rw [hno]; decide)] at h8
        rw [h8]
        by_cases h0 : 0 < v
        · rw [if_pos h0]
        · rw [if_neg h0, SZE.out j hj, want, if_neg h0]
      clear hd5 hd5' hfl hno hf5 hB hC HR HBF HK9 CF hne HDV
      go_wp2_with fail
      -- the writes behind
      go_loopw [16] (fun vi wr => ∃ (i q : Nat) (C : List Int), i ≤ m2 ∧ q ≤ Q1 + i ∧ vi = .int .i64 i ∧ Hid (Below w.heap.size w wr) ∧ Hid (KeepS wr g sa mb cb S1 lo N C q) ∧ Hid (Blk wr fb (zs F) 3)) (fun vi _ => m2 - (RowKit.intOf vi).toNat)
      case atStart => exact ⟨0, Q1, _, by omega, by omega, rfl, BQ, KS1, FQ⟩
      case round =>
        obtain ⟨i, q, C, hi, hqi, rfl, hB, hK, hC⟩ := hrel
        by_cases hin : i < m2
        · obtain ⟨b, o, rfl, hbw, hops⟩ := H2.out.1 (by intro h0; have := HL2.out; rw [h0] at this; simp at this; omega)
          obtain ⟨x, hx⟩ : ∃ x, L2[i]? = some x := ⟨_, List.getElem?_eq_getElem (by have := HL2.out; omega)⟩
          obtain ⟨_, c1', c2', _, _⟩ := hops i x hx
          have d1 : wr.drew.cell? ⟨b, o + i * 5 + 1, none⟩ = some (.int .i64 x.at_) := (hB.out.cell (p := ⟨b, o + i * 5 + 1, none⟩) hbw).trans (by rw [Nat.mul_comm i 5]; exact c1')
          have d2 : wr.drew.cell? ⟨b, o + i * 5 + 2, none⟩ = some (.int .u8 (x.fill.toNat : Int)) := (hB.out.cell (p := ⟨b, o + i * 5 + 2, none⟩) hbw).trans (by rw [Nat.mul_comm i 5]; exact c2')
          have q0 : (0 : Int) ≤ (i : Int) := by omega
          have q1 : (i : Int) < (m2 : Int) := by omega
          clear c1' c2' hops
          go_wp2_with fail
          have CS : Hid (∀ W, Calls Try.prog 12 #[.int .u8 (x.fill.toNat : Int), .int .i64 256] W fun e w' => Below W.heap.size W w' ∧ ∃ b c, e = .returned (.slice (some ⟨b, 0, none⟩) 256 c) ∧ W.heap.size ≤ b ∧ Byt w' (some ⟨b, 0, none⟩) (secL x.fill 256) ∧ 256 ≤ c ∧ c ≤ 9223372036854775807) := fun W => sector_256 x.fill W
          have KD : Hid (KeepS wr.drew g sa mb cb S1 lo N C q) := hK.out.later (Below.refl _ wr).drew
          have D1 := Lib.hid d1
          have hB2 : Hid (Below w.heap.size w wr.drew) := hB.out.drew
          have D2 := Lib.hid d2
          have hNG : b ∉ [g, mb] := by have := GE.out; simp; omega
          have hblt : b < wr.drew.heap.size := Nat.lt_of_lt_of_le hbw hB.out.size
          go_region_held3 (fun w' => w'.cell? ⟨b, o + i * 5 + 1, none⟩ = some (.int .i64 x.at_) ∧ w'.cell? ⟨b, o + i * 5 + 2, none⟩ = some (.int .u8 (x.fill.toNat : Int)))
            (first | exact ⟨D1.out, D2.out⟩ | exact ⟨(hb3.cell (p := ⟨b, o + i * 5 + 1, none⟩) hblt).trans D1.out, (hb3.cell (p := ⟨b, o + i * 5 + 2, none⟩) hblt).trans D2.out⟩ | exact ⟨((hf4.below hb3.size hNG).cell (p := ⟨b, o + i * 5 + 1, none⟩) hblt).trans ((hb3.cell (p := ⟨b, o + i * 5 + 1, none⟩) hblt).trans D1.out), ((hf4.below hb3.size hNG).cell (p := ⟨b, o + i * 5 + 2, none⟩) hblt).trans ((hb3.cell (p := ⟨b, o + i * 5 + 2, none⟩) hblt).trans D2.out)⟩ | exact ⟨(hf4.cell (a := ⟨b, o + i * 5 + 1, none⟩) (Nat.lt_of_lt_of_le hblt hb3.size) hNG).trans ((hb3.cell (p := ⟨b, o + i * 5 + 1, none⟩) hblt).trans D1.out), (hf4.cell (a := ⟨b, o + i * 5 + 2, none⟩) (Nat.lt_of_lt_of_le hblt hb3.size) hNG).trans ((hb3.cell (p := ⟨b, o + i * 5 + 2, none⟩) hblt).trans D2.out)⟩ | go_keep)
            (first
              | (go_at_call 12; (with_reducible refine (CS.out _).mono ?_); rintro e w3 ⟨hb3, b3, c3, rfl, hbl3, hr3, _, _⟩)
              | (go_at_call 11; (with_reducible refine (keep_write2 (KD.out.later hb3) SLN1.out hN1 hN2 (by omega) x.at_ x.fill b3 c3 hr3 (by have := KD.out.lt; omega) (by have := KD.out.lt; omega)).mono ?_); rintro e w4 ⟨z4, rfl, hf4, hp4⟩))
          have HB4 := Lib.hid (hB2.out.trans ((hb3.mono hB2.out.size).trans (hf4.below (Nat.le_trans hB2.out.size hb3.size) (by intro a ha; have := GE.out; simp at ha; omega))))
          have HC4 : Hid (Blk w4 fb (zs F) 3) := by
            have h9 := (Blk.low (w' := wr.drew) hC.out (Below.refl _ wr).drew).low hb3
            refine hf4.blk h9 ?_
            obtain ⟨k9, D9, hd9, _⟩ := KD.out.later hb3
            have hn1 := blk_ne h9 hd9.dv (by decide)
            have hn2 : fb ≠ mb := fun e => by
              subst e
              obtain ⟨es, cl, h2, _⟩ := hd9.map
              unfold Blk at h9
              rw [h9] at h2
              cases h2
            simp [hn1, hn2]
          have e1 : w4.cell? ⟨b, o + i * 5 + 1, none⟩ = some (.int .i64 x.at_) := (hf4.cell (a := ⟨b, o + i * 5 + 1, none⟩) (Nat.lt_of_lt_of_le hblt hb3.size) hNG).trans ((hb3.cell (p := ⟨b, o + i * 5 + 1, none⟩) hblt).trans D1.out)
          have e2 : w4.cell? ⟨b, o + i * 5 + 2, none⟩ = some (.int .u8 (x.fill.toNat : Int)) := (hf4.cell (a := ⟨b, o + i * 5 + 2, none⟩) (Nat.lt_of_lt_of_le hblt hb3.size) hNG).trans ((hb3.cell (p := ⟨b, o + i * 5 + 2, none⟩) hblt).trans D2.out)
          clear hf4 hb3 hr3 hbl3 D1 D2 d1 d2 hC hB hK KD CS hB2
          rcases hp4 with ⟨rfl, i4, hai, hlo4, hiN4, k4, D4, hd4, hk4, hI4, hR4, hB4⟩ | ⟨hz4, hks4⟩
          · rw [hai] at e1
            obtain ⟨v4, hv4⟩ : ∃ v, C[i4]? = some v := ⟨_, List.getElem?_eq_getElem (by have h8 := hR4.1; rw [List.length_set] at h8; omega)⟩
            have e3 : w4.cell? ⟨cb, i4, none⟩ = some (.int .i64 v4) := (hB4.cell i4).trans (zs_get C i4 v4 hv4)
            have e4 := hB4.frozen i4
            have hbf : b ≠ cb := by have := FB.out; omega
            have HKS : Hid (KeepS (w4.setCell ⟨cb, i4, none⟩ (.int .i64 (1 + (x.fill.toNat : Int)))).drew g sa mb cb S1 lo N (C.set i4 (1 + (x.fill.toNat : Int))) (q + 1)) := (KeepS.put hd4 hk4 hI4 hR4 hB4).later (Below.refl _ _).drew
            have HC5 : Hid (Blk (w4.setCell ⟨cb, i4, none⟩ (.int .i64 (1 + (x.fill.toNat : Int)))).drew fb (zs F) 3) := Blk.other HC4.out _ (by have := FB.out; show fb ≠ cb; omega)
            have HB5 : Hid (Below w.heap.size w (w4.setCell ⟨cb, i4, none⟩ (.int .i64 (1 + (x.fill.toNat : Int)))).drew) := (HB4.out.setCell (p := ⟨cb, i4, none⟩) (by have := FB.out; show w.heap.size ≤ cb; omega) _).drew
            have E1' : Hid ((w4.setCell ⟨cb, i4, none⟩ (.int .i64 (1 + (x.fill.toNat : Int)))).drew.cell? ⟨b, o + i * 5 + 1, none⟩ = some (.int .i64 (i4 : Int))) := (World.cell?_of_block (a := ⟨b, o + i * 5 + 1, none⟩) (Below.heap_setCell _ _ _ b hbf)).trans e1
            have E2' : Hid ((w4.setCell ⟨cb, i4, none⟩ (.int .i64 (1 + (x.fill.toNat : Int)))).drew.cell? ⟨b, o + i * 5 + 2, none⟩ = some (.int .u8 (x.fill.toNat : Int))) := (World.cell?_of_block (a := ⟨b, o + i * 5 + 2, none⟩) (Below.heap_setCell _ _ _ b hbf)).trans e2
            have wf1 : IntKind.i64.wrap (x.fill.toNat : Int) = (x.fill.toNat : Int) := IntWalk.i64_in _ (by have := x.fill.toNat_lt; omega)
            have wf2 : IntKind.i64.wrap (1 + (x.fill.toNat : Int)) = 1 + (x.fill.toNat : Int) := IntWalk.i64_in _ (by have := x.fill.toNat_lt; omega)
            have i40 : (0 : Int) ≤ (i4 : Int) := by omega
            have i41 : (i4 : Int) < (N : Int) := by omega
            have f0 : (0 : Int) ≤ (x.fill.toNat : Int) := by omega
            have f1 : (x.fill.toNat : Int) < 256 := by have := x.fill.toNat_lt; omega
            have E1 := Lib.hid e1
            have E2 := Lib.hid e2
            clear hd4 hk4 hI4 hR4 hB4 hv4 HC4 HB4 hai hblt hNG
            go_wp2_with fail
            go_region_held3 (fun w' => w'.cell? ⟨b, o + i * 5 + 1, none⟩ = some (.int .i64 (i4 : Int)) ∧ w'.cell? ⟨b, o + i * 5 + 2, none⟩ = some (.int .u8 (x.fill.toNat : Int)))
              (first | exact ⟨E1.out, E2.out⟩ | exact ⟨E1'.out, E2'.out⟩ | go_keep) (fail)
            clear e1 e2 e3 e4
            generalize (w4.setCell ⟨cb, i4, none⟩ (.int .i64 (1 + (x.fill.toNat : Int)))).drew = w5 at *
            go_wp2_with fail
            go_roundw
            case rel => exact ⟨i + 1, q + 1, _, by omega, by omega, by go_num, HB5, HKS, HC5⟩
            case measure => simp [RowKit.intOf]; omega
          · have t7 : (z4 == 0) = false := by simpa using hz4
            have t7' : decide (z4 = 0) = false := by simpa using hz4
            have HKS := Lib.hid hks4
            clear hks4 hz4 e1 e2
            go_wp2_with fail
            go_roundw
            case rel => exact ⟨i + 1, q, C, by omega, by omega, by go_num, HB4, HKS, HC4⟩
            case measure => simp [RowKit.intOf]; omega
        · obtain rfl : i = m2 := by omega
          go_wp2_with fail
          obtain ⟨k, D, hd, hk, hI, hR, hBC⟩ := hK.out
          have KP : Keep wr a3 [sa, mb] K := fun hne => by
            obtain ⟨b, o, g1, g2, g3⟩ := H3.out hne
            exact ⟨b, o, g1, Nat.lt_of_lt_of_le g2 hB.out.size, by have := GE.out; simp; omega, fun j hj => (hB.out.cell (p := ⟨b, o + j, none⟩) g2).trans (g3 j hj)⟩
          have CC := crash_any hd (by rw [SLN1.out]; exact hI) (by rw [SLN1.out]; omega) (by rw [SLN1.out]; omega) a3 K c3 KP HK3.out (by rw [HL3.out]; omega)
          rw [HL3.out] at CC
          have HCC := Lib.hid CC
          have HR := Lib.hid hR
          have HDV := Lib.hid hd
          have SG := Lib.hid (fun j => settled_get K hI (S := S1) (by rw [SLN1.out]; exact Nat.le_refl _) j)
          have HBC := Lib.hid hBC
          clear hd hk hI hR hBC KP CC hK
          go_wp2_with fail
          refine HCC.out.mono ?_
          rintro e w8 ⟨rfl, hf8, hd8⟩
          have S2N : Hid ((settled S1 D K).1.length = N) := by show _ = _; rw [settled_len]; exact SLN1.out
          have hB8 := hB.out.trans (hf8.below hB.out.size (by intro a ha; have := GE.out; simp at ha; omega))
          have F8 := hf8.blk hC.out (three_out HDV.out hC.out)
          have C8 := hf8.blk HBC.out (three_out HDV.out HBC.out)
          have D8 := Lib.hid hd8
          have B8 := Lib.hid hB8
          have HF8 := Lib.hid F8
          have HC8 := Lib.hid C8
          clear hf8 hd8 hB8 F8 C8 HCC HDV HBC hB hC
          generalize (settled S1 D K).1 = S2 at *
          go_wp2_with fail
          refine (start_any D8.out.dv (by rw [S2N.out]; omega)).mono ?_
          rintro e w9 ⟨rfl, hg9, hd9⟩
          have D9 := Lib.hid (D8.out.turn hg9 hd9)
          have B9 := Lib.hid (B8.out.grown hg9 B8.out.size (fun k e => by injection e with e; have := GE.out; omega))
          have HF9 := Lib.hid (blk_row HF8.out hg9 (fun e => by injection e with e; exact blk_ne HF8.out D8.out.dv (by decide) e))
          have HC9 := Lib.hid (blk_row HC8.out hg9 (fun e => by injection e with e; exact blk_ne HC8.out D8.out.dv (by decide) e))
          have RM0 : Hid (RM F C F (K.take 0) N) := by show RM _ _ _ _ _; rw [List.take_zero]; exact rm_zero RF.out.1 HR.out.1
          clear hg9 hd9 D8 B8 HF8 HC8
          go_wp2_with fail
          go_loopw [17] (fun vi wr => ∃ (i : Nat) (F2 : List Int), i ≤ m3 ∧ vi = .int .i64 i ∧ Hid (Below w.heap.size w wr) ∧ Hid (DevS wr g sa mb S2 (lo : Int) 0 (.map []) true (-1) (q : Int)) ∧ Hid (Blk wr cb (zs C) 3) ∧ Hid (Blk wr fb (zs F2) 3) ∧ Hid (RM F C F2 (K.take i) N)) (fun vi _ => m3 - (RowKit.intOf vi).toNat)
          case atStart => exact ⟨0, F, by omega, rfl, B9, D9, HC9, HF9, RM0⟩
          case round =>
            obtain ⟨i, F2, hi, rfl, hB, hD, hC, hF, hM⟩ := hrel
            by_cases hin : i < m3
            · obtain ⟨b, o, rfl, hbw, hcell⟩ := H3.out (by intro h0; have := HL3.out; rw [h0] at this; simp at this; omega)
              have hiK : i < K.length := by have := HL3.out; omega
              obtain ⟨x, hx⟩ : ∃ x, x = K[i] := ⟨_, rfl⟩
              have hxm : x ∈ K := by rw [hx]; exact List.getElem_mem _
              have d1 : wr.cell? ⟨b, o + i, none⟩ = some (.int .i64 x) := (hB.out.cell (p := ⟨b, o + i, none⟩) hbw).trans (by rw [hx]; exact hcell i hiK)
              have TK : Hid (K.take (i + 1) = K.take i ++ [x]) := by show _ = _; rw [List.take_succ_eq_append_getElem hiK, hx]
              have q0 : (0 : Int) ≤ (i : Int) := by omega
              have q1 : (i : Int) < (m3 : Int) := by omega
              clear hcell hx hxm
              by_cases cin : 0 ≤ x ∧ x < (N : Int)
              · obtain ⟨y, rfl⟩ : ∃ y : Nat, x = (y : Int) := ⟨x.toNat, by omega⟩
                have hyN : y < N := by omega
                obtain ⟨v, cv, hv, hcv, hfv⟩ := hM.out.2 y hyN
                have d2 : wr.cell? ⟨cb, y, none⟩ = some (.int .i64 cv) := (hC.out.cell y).trans (zs_get C y cv hcv)
                have y0 : (0 : Int) ≤ (y : Int) := by omega
                have y1 : (y : Int) < (N : Int) := by omega
                by_cases c2 : 0 < cv
                · have t2 : decide (0 < cv) = true := by simpa using c2
                  have d3 : wr.cell? ⟨fb, y, none⟩ = some (.int .i64 (if (y : Int) ∈ K.take i ∧ 0 < cv then cv else v)) := (hF.out.cell y).trans (zs_get F2 y _ hfv)
                  have d4 := hF.out.frozen y
                  have HM2 : Hid (RM F C (F2.set y cv) (K.take (i + 1)) N) := by show RM _ _ _ _ _; rw [TK.out]; exact rm_put hM.out hyN hcv c2
                  have hne : cb ≠ fb := by have := FB.out; omega
                  have hbf : b ≠ fb := by have := FB.out; omega
                  have hD2 : Hid (DevS (wr.setCell ⟨fb, y, none⟩ (.int .i64 cv)).drew g sa mb S2 (lo : Int) 0 (.map []) true (-1) (q : Int)) := by
                    have h8 := three_out hD.out hF.out
                    simp at h8
                    exact (hD.out.kept (fr_grown (gb_set wr fb y (.int .i64 cv)) (N := [fb]) (by simp)) (by simp; omega) (by simp; omega) (by simp; omega)).later (Below.refl _ _).drew
                  have hC2 : Hid (Blk (wr.setCell ⟨fb, y, none⟩ (.int .i64 cv)).drew cb (zs C) 3) := Blk.other hC.out _ hne
                  have hF2 : Hid (Blk (wr.setCell ⟨fb, y, none⟩ (.int .i64 cv)).drew fb (zs (F2.set y cv)) 3) := by
                    have h8 := Blk.set hF.out y (.int .i64 cv)
                    rw [zs_set] at h8
                    exact h8
                  have hB2 : Hid (Below w.heap.size w (wr.setCell ⟨fb, y, none⟩ (.int .i64 cv)).drew) := (hB.out.setCell (p := ⟨fb, y, none⟩) (by have := FB.out; show w.heap.size ≤ fb; omega) _).drew
                  have E1 := Lib.hid d1
                  have E2 := Lib.hid d2
                  have E1' : Hid ((wr.setCell ⟨fb, y, none⟩ (.int .i64 cv)).drew.cell? ⟨b, o + i, none⟩ = some (.int .i64 (y : Int))) := (World.cell?_of_block (a := ⟨b, o + i, none⟩) (Below.heap_setCell _ _ _ b hbf)).trans d1
                  have E2' : Hid ((wr.setCell ⟨fb, y, none⟩ (.int .i64 cv)).drew.cell? ⟨cb, y, none⟩ = some (.int .i64 cv)) := (World.cell?_of_block (a := ⟨cb, y, none⟩) (Below.heap_setCell _ _ _ cb hne)).trans d2
                  generalize (if (y : Int) ∈ K.take i ∧ 0 < cv then cv else v) = vv at *
                  clear hv hcv hfv hM hB hD hC hF hbw hiK c2
                  go_wp2_with fail
                  go_region_held3 (fun w' => w'.cell? ⟨b, o + i, none⟩ = some (.int .i64 (y : Int)) ∧ w'.cell? ⟨cb, y, none⟩ = some (.int .i64 cv))
                    (first | exact ⟨E1.out, E2.out⟩ | exact ⟨E1'.out, E2'.out⟩ | go_keep) (fail)
                  clear d1 d2 d3 d4
                  generalize (wr.setCell ⟨fb, y, none⟩ (.int .i64 cv)).drew = w5 at *
                  go_wp2_with fail
                  go_roundw
                  case rel => exact ⟨i + 1, _, by omega, by go_num, hB2, hD2, hC2, hF2, HM2⟩
                  case measure => simp [RowKit.intOf]; omega
                · have t2 : decide (0 < cv) = false := by simpa using c2
                  have HM2 : Hid (RM F C F2 (K.take (i + 1)) N) := by
                    show RM _ _ _ _ _
                    rw [TK.out]
                    exact rm_skip hM.out (fun j hj e c hc => by
                      obtain rfl : y = j := by omega
                      rw [hcv] at hc
                      injection hc with hc
                      omega)
                  clear hv hcv hfv hM
                  go_wp2_with fail
                  go_roundw
                  case rel => exact ⟨i + 1, F2, by omega, by go_num, hB, hD, hC, hF, HM2⟩
                  case measure => simp [RowKit.intOf]; omega
              · have HM2 : Hid (RM F C F2 (K.take (i + 1)) N) := by
                  show RM _ _ _ _ _
                  rw [TK.out]
                  exact rm_skip hM.out (fun j hj e c hc => by omega)
                by_cases cl : 0 ≤ x
                · have t2 : decide (0 ≤ x) = true := by simpa using cl
                  have t3 : decide (x < (N : Int)) = false := by simp; omega
                  clear hM
                  go_wp2_with fail
                  go_roundw
                  case rel => exact ⟨i + 1, F2, by omega, by go_num, hB, hD, hC, hF, HM2⟩
                  case measure => simp [RowKit.intOf]; omega
                · have t2 : decide (0 ≤ x) = false := by simpa using cl
                  clear hM
                  go_wp2_with fail
                  go_roundw
                  case rel => exact ⟨i + 1, F2, by omega, by go_num, hB, hD, hC, hF, HM2⟩
                  case measure => simp [RowKit.intOf]; omega
            · obtain rfl : i = m3 := by omega
              have WF : Hid (∀ j, j < N → ∃ u, F2[j]? = some u ∧ 0 ≤ u ∧ u ≤ 256 ∧ (j < lo → u = 0) ∧ S2[j]? = some (want u)) := by
                intro j hj
                obtain ⟨v, c, f1, f2, f3⟩ := hM.out.2 j hj
                rw [List.take_of_length_le (by rw [HL3.out]; exact Nat.le_refl _)] at f3
                obtain ⟨v', p1, p2, p3, p4, p5⟩ := RF.out.2 j hj
                rw [f1] at p1
                injection p1 with p1
                subst p1
                obtain ⟨c', r1, r2, r3, r4, _⟩ := HR.out.2 j hj
                rw [f2] at r1
                injection r1 with r1
                subst r1
                have hs := SG.out j
                rw [relC_at HR.out hj f2] at hs
                refine ⟨_, f3, ?_⟩
                by_cases hin2 : (j : Int) ∈ K
                · by_cases h0 : 0 < c
                  · rw [if_pos ⟨hin2, h0⟩]
                    rw [if_pos hin2, if_pos h0] at hs
                    exact ⟨r2, r3, r4, hs⟩
                  · rw [if_neg (fun h => h0 h.2)]
                    rw [if_pos hin2, if_neg h0, p5] at hs
                    exact ⟨p2, p3, p4, hs⟩
                · rw [if_neg (fun h => hin2 h.1)]
                  rw [if_neg hin2, p5] at hs
                  exact ⟨p2, p3, p4, hs⟩
              clear hM SG HR RF hC
              go_wp2_with fail
              go_loopw [18] (fun vi wr => ∃ j : Nat, j ≤ N ∧ vi = .int .i64 j ∧ Hid (Below w.heap.size w wr) ∧ Hid (DevS wr g sa mb S2 (lo : Int) 0 (.map []) true (-1) (q : Int)) ∧ Hid (Blk wr fb (zs F2) 3)) (fun vi _ => N - (RowKit.intOf vi).toNat)
              case atStart => exact ⟨0, by omega, rfl, hB, hD, hF⟩
              case round =>
                obtain ⟨j, hj, rfl, hB, hD, hF⟩ := hrel
                by_cases hjn : j < N
                · obtain ⟨u, u1, u2, u3, u4, u5⟩ := WF.out j hjn
                  obtain ⟨wm, rm, km, gm⟩ := noughts_row 256 (by omega) wr
                  have rm' : (Instr.makeSlice 29 (.int .i64 256) (.int .i64 256)).run Try.prog wr = .ok (.slice (some ⟨wr.heap.size, 0, none⟩) 256 256) wm := rm
                  have hbm := (Below.refl wr.heap.size wr).grown gm (Nat.le_refl _) (by simp)
                  have HBm := Lib.hid (below_chain hB.out hbm)
                  have HDm := Lib.hid (hD.out.later hbm)
                  have hfm := Blk.low hF.out hbm
                  have HFm := Lib.hid hfm
                  have d1 : wm.cell? ⟨fb, j, none⟩ = some (.int .i64 u) := (hfm.cell j).trans (zs_get F2 j u u1)
                  have q0 : (0 : Int) ≤ (j : Int) := by omega
                  have q1 : (j : Int) < (N : Int) := by omega
                  have U5 := Lib.hid u5
                  have U4 := Lib.hid u4
                  have WL := Lib.hid (want_len u)
                  obtain ⟨z, hz⟩ : ∃ z : List UInt8, z = want u := ⟨_, rfl⟩
                  have hfe : foundE S2.length true (j : Int) = 0 := by
                    unfold foundE awakeE
                    rw [S2N.out, if_neg (by omega : ¬ N = 0)]
                    simp
                    omega
                  have HFE := Lib.hid hfe
                  by_cases hu : 0 < u
                  · have t1 : decide (0 < u) = true := by simpa using hu
                    have hl : ¬ j < lo := fun h => by have := u4 h; omega
                    have t2 : decide (j < lo) = false := by simpa using hl
                    have wu : IntKind.i64.wrap (u - 1) = u - 1 := IntWalk.i64_in _ (by omega)
                    have wu2 : wrap64 (u - 1) = u - 1 := IntWalk.wrap64_in _ ⟨by omega, by omega⟩
                    have wu3 : IntKind.u8.wrap (u - 1) = u - 1 := by
                      have h9 := wrap_u8 (u - 1).toNat
                      have e9 : (((u - 1).toNat : Nat) : Int) = u - 1 := by omega
                      rw [e9] at h9
                      rw [h9]
                      omega
                    have CS := sector_256 (UInt8.ofNat (u - 1).toNat) wm
                    have ef : ((UInt8.ofNat (u - 1).toNat).toNat : Int) = u - 1 := by simp; omega
                    have ew : secL (UInt8.ofNat (u - 1).toNat) 256 = want u := by unfold want; rw [if_pos hu]
                    rw [ef, ew] at CS
                    have HCS := Lib.hid CS
                    clear CS ef ew rm km gm hbm hfm u1 u4 u5 hfe hB hD hF hz
                    go_wp2_with fail
                    refine HCS.out.mono ?_
                    rintro e w5 ⟨hb5, b5, c5, rfl, _, hr5, _, _⟩
                    have HB5 := Lib.hid (below_chain HBm.out hb5)
                    have HD5 := Lib.hid (HDm.out.later hb5)
                    have HF5 := Lib.hid (Blk.low HFm.out hb5)
                    have R5 := Lib.hid hr5
                    clear hb5 hr5 d1 HBm HDm HFm HCS rm'
                    go_wp2_with fail
                    refine (read_raw HD5.out j (by rw [S2N.out]; omega) HFE.out (by rw [S2N.out]; exact hjn) (want u) U5.out rfl rfl).mono ?_
                    rintro e w6 ⟨hb6, b6, rfl, _, hk6⟩
                    have HB6 := Lib.hid (below_chain HB5.out hb6)
                    have HD6 := Lib.hid (HD5.out.later hb6)
                    have HF6 := Lib.hid (Blk.low HF5.out hb6)
                    have R6 := Lib.hid (R5.out.below hb6)
                    have K6 := Lib.hid (blk_bytT hk6)
                    clear hb6 hk6 HB5 HD5 HF5 R5
                    go_wp2_with fail
                    refine (bytes_same (some ⟨b6, 0, none⟩) (some ⟨b5, 0, none⟩) (want u) 256 256 c5 w6 K6.out R6.out (fun h => by cases h) (fun h => by cases h) WL.out).mono ?_
                    rintro e w7 ⟨rfl, rfl⟩
                    go_wp2_with fail
                    go_roundw
                    case rel => exact ⟨j + 1, by omega, by go_num, HB6, HD6, HF6⟩
                    case measure => simp [RowKit.intOf]; omega
                  · have t1 : decide (0 < u) = false := by simpa using hu
                    have hz0 : want u = List.replicate 256 0 := by unfold want; rw [if_neg hu]; rfl
                    have R5 := Lib.hid (show Byt wm (some ⟨wr.heap.size, 0, none⟩) (want u) by rw [hz0]; exact blk_byt km)
                    have D1 := Lib.hid d1
                    clear rm km gm hbm hfm u1 u4 u5 hfe hB hD hF hz hz0
                    go_wp2_with fail
                    refine (read_raw HDm.out j (by rw [S2N.out]; omega) HFE.out (by rw [S2N.out]; exact hjn) (want u) U5.out rfl rfl).mono ?_
                    rintro e w6 ⟨hb6, b6, rfl, _, hk6⟩
                    have HB6 := Lib.hid (below_chain HBm.out hb6)
                    have HD6 := Lib.hid (HDm.out.later hb6)
                    have HF6 := Lib.hid (Blk.low HFm.out hb6)
                    have d6 : w6.cell? ⟨fb, j, none⟩ = some (.int .i64 u) := (hb6.cell (p := ⟨fb, j, none⟩) HFm.out.lt).trans D1.out
                    have R6 := Lib.hid (R5.out.below hb6)
                    have K6 := Lib.hid (blk_bytT hk6)
                    clear hb6 hk6 HBm HDm HFm R5 d1 D1 rm'
                    go_wp2_with fail
                    refine (bytes_same (some ⟨b6, 0, none⟩) (some ⟨wr.heap.size, 0, none⟩) (want u) 256 256 256 w6 K6.out R6.out (fun h => by cases h) (fun h => by cases h) WL.out).mono ?_
                    rintro e w7 ⟨rfl, rfl⟩
                    by_cases hl : j < lo
                    · have t2 : decide (j < lo) = true := by simpa using hl
                      go_wp2_with fail
                      go_roundw
                      case rel => exact ⟨j + 1, by omega, by go_num, HB6, HD6, HF6⟩
                      case measure => simp [RowKit.intOf]; omega
                    · have t2 : decide (j < lo) = false := by simpa using hl
                      go_wp2_with fail
                      go_roundw
                      case rel => exact ⟨j + 1, by omega, by go_num, HB6, HD6, HF6⟩
                      case measure => simp [RowKit.intOf]; omega
                · obtain rfl : j = N := by omega
                  go_wp2_with fail
                  refine (heads_any wr).mono ?_
                  rintro e w10 ⟨rfl, hb10⟩
                  have B10 := Lib.hid (below_chain hB.out hb10)
                  clear hb10
                  go_wp2_with fail
                  go_ret
                  exact ⟨rfl, B10.out⟩
end Go.Proofs.Ytohmdcbfffgheaa.Dk
