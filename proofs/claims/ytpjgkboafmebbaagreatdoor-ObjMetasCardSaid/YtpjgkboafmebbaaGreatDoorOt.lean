/-
  Two rows, two listings, two nodes that are the same: the contracts of the law's functions that compare (f30, f31, f52, f23, f19), where they are. No other condition.
-/
import Derived.Test.YtpjgkboafmebbaaGreatDoorOq
namespace Go.Proofs.YtpjgkboafmebbaaGreatDoor.Sh
open Go.RowKit Go.Lib Lb
theorem srw_cellW {w : World} {ao : Option Addr} {l : List ByteArray} (h : Srw w ao l) (i : Nat) (hi : i < l.length) : ∃ b o, ao = some ⟨b, o, none⟩ ∧ b < w.heap.size ∧ w.cell? ⟨b, o + i, none⟩ = some (.string (l.getD i ⟨#[]⟩)) := by
  obtain ⟨b, o, h1, h2, h3⟩ := h (by intro h0; rw [h0] at hi; simp at hi)
  exact ⟨b, o, h1, h2, by rw [h3 i hi, List.getD_eq_getElem?_getD, List.getElem?_eq_getElem hi]; rfl⟩
theorem zrw_cellW {w : World} {ao : Option Addr} {l : List Int} (h : Zrw w ao l) (i : Nat) (hi : i < l.length) : ∃ b o, ao = some ⟨b, o, none⟩ ∧ b < w.heap.size ∧ w.cell? ⟨b, o + i, none⟩ = some (.int .i64 (l.getD i 0)) := by
  obtain ⟨b, o, h1, h2, h3⟩ := h (by intro h0; rw [h0] at hi; simp at hi)
  exact ⟨b, o, h1, h2, by rw [h3 i hi, List.getD_eq_getElem?_getD, List.getElem?_eq_getElem hi]; rfl⟩
set_option maxHeartbeats 1000000 in
set_option maxRecDepth 100000 in
theorem ints_same (ao bo : Option Addr) (l : List Int) (n c d : Nat) (w : World) (h1 : Zrw w ao l) (h2 : Zrw w bo l) (hl : l.length = n) (hc : n ≤ c) (hcc : c ≤ 9223372036854775807) (hd : n ≤ d) :
    Calls Tryz.prog 30 #[.slice ao n c, .slice bo n d] w fun e w' => e = .returned (.bool true) ∧ Below w.heap.size w w' := by
  have H1 := Lib.hid h1
  have H2 := Lib.hid h2
  have HL := Lib.hid hl
  clear h1 h2 hl
  go_enter Tryz.func30, Tryz.ntmps30
  go_wp2_with fail
  go_loopw [5] (fun vi wr => ∃ i : Nat, i ≤ n ∧ vi = .int .i64 i ∧ Hid (Below w.heap.size w wr)) (fun vi _ => n - (RowKit.intOf vi).toNat)
  case atStart => exact ⟨0, by omega, rfl, Below.refl _ w⟩
  case round =>
    obtain ⟨i, hi, rfl, hB⟩ := hrel
    by_cases hin : i < n
    · obtain ⟨b, o, rfl, hb, x0⟩ := zrw_cellW H1.out i (by have := HL.out; omega)
      obtain ⟨b2, o2, rfl, hb2, x2⟩ := zrw_cellW H2.out i (by have := HL.out; omega)
      have e0 := (hB.out.cell (p := ⟨b, o + i, none⟩) hb).trans x0
      have e2 := (hB.out.cell (p := ⟨b2, o2 + i, none⟩) hb2).trans x2
      have q1 : (0 : Int) ≤ (i : Int) := by omega
      have q2 : (i : Int) < (n : Int) := by omega
      have hB2 := Lib.hid hB.out.drew
      generalize l.getD i 0 = s at *
      clear x0 x2 hb hb2 hB
      go_wp2_with fail
      go_region
      generalize wr.drew = wd at *
      go_wp2_with fail
      go_roundw
      case rel => exact ⟨i + 1, by omega, by go_num, hB2⟩
      case measure => simp [RowKit.intOf]; omega
    · obtain rfl : i = n := by omega
      go_wp2_with fail
      go_ret
      exact ⟨rfl, hB.out⟩
set_option maxHeartbeats 1000000 in
set_option maxRecDepth 100000 in
theorem texts_same (ao bo : Option Addr) (l : List ByteArray) (n c d : Nat) (w : World) (h1 : Srw w ao l) (h2 : Srw w bo l) (hl : l.length = n) (hc : n ≤ c) (hcc : c ≤ 9223372036854775807) (hd : n ≤ d) :
    Calls Tryz.prog 52 #[.slice ao n c, .slice bo n d] w fun e w' => e = .returned (.bool true) ∧ Below w.heap.size w w' := by
  have H1 := Lib.hid h1
  have H2 := Lib.hid h2
  have HL := Lib.hid hl
  clear h1 h2 hl
  go_enter Tryz.func52, Tryz.ntmps52
  go_wp2_with fail
  go_loopw [5] (fun vi wr => ∃ i : Nat, i ≤ n ∧ vi = .int .i64 i ∧ Hid (Below w.heap.size w wr)) (fun vi _ => n - (RowKit.intOf vi).toNat)
  case atStart => exact ⟨0, by omega, rfl, Below.refl _ w⟩
  case round =>
    obtain ⟨i, hi, rfl, hB⟩ := hrel
    by_cases hin : i < n
    · obtain ⟨b, o, rfl, hb, x0⟩ := srw_cellW H1.out i (by have := HL.out; omega)
      obtain ⟨b2, o2, rfl, hb2, x2⟩ := srw_cellW H2.out i (by have := HL.out; omega)
      have e0 := (hB.out.cell (p := ⟨b, o + i, none⟩) hb).trans x0
      have e2 := (hB.out.cell (p := ⟨b2, o2 + i, none⟩) hb2).trans x2
      have q1 : (0 : Int) ≤ (i : Int) := by omega
      have q2 : (i : Int) < (n : Int) := by omega
      have hB2 := Lib.hid hB.out.drew
      generalize l.getD i ⟨#[]⟩ = s at *
      clear x0 x2 hb hb2 hB
      go_wp2_with fail
      go_region
      generalize wr.drew = wd at *
      go_wp2_with fail
      go_roundw
      case rel => exact ⟨i + 1, by omega, by go_num, hB2⟩
      case measure => simp [RowKit.intOf]; omega
    · obtain rfl : i = n := by omega
      go_wp2_with fail
      go_ret
      exact ⟨rfl, hB.out⟩
set_option maxHeartbeats 1000000 in
set_option maxRecDepth 100000 in
theorem keys_same (ao bo : Option Addr) (l : List ByteArray) (n c d : Nat) (w : World) (h1 : Srw w ao l) (h2 : Srw w bo l) (hl : l.length = n) (hc : n ≤ c) (hcc : c ≤ 9223372036854775807) (hd : n ≤ d) :
    Calls Tryz.prog 31 #[.slice ao n c, .slice bo n d] w fun e w' => e = .returned (.bool true) ∧ Below w.heap.size w w' := by
  have H1 := Lib.hid h1
  have H2 := Lib.hid h2
  have HL := Lib.hid hl
  clear h1 h2 hl
  go_enter Tryz.func31, Tryz.ntmps31
  go_wp2_with fail
  go_loopw [5] (fun vi wr => ∃ i : Nat, i ≤ n ∧ vi = .int .i64 i ∧ Hid (Below w.heap.size w wr)) (fun vi _ => n - (RowKit.intOf vi).toNat)
  case atStart => exact ⟨0, by omega, rfl, Below.refl _ w⟩
  case round =>
    obtain ⟨i, hi, rfl, hB⟩ := hrel
    by_cases hin : i < n
    · obtain ⟨b, o, rfl, hb, x0⟩ := srw_cellW H1.out i (by have := HL.out; omega)
      obtain ⟨b2, o2, rfl, hb2, x2⟩ := srw_cellW H2.out i (by have := HL.out; omega)
      have e0 := (hB.out.cell (p := ⟨b, o + i, none⟩) hb).trans x0
      have e2 := (hB.out.cell (p := ⟨b2, o2 + i, none⟩) hb2).trans x2
      have q1 : (0 : Int) ≤ (i : Int) := by omega
      have q2 : (i : Int) < (n : Int) := by omega
      have hB2 := Lib.hid hB.out.drew
      generalize l.getD i ⟨#[]⟩ = s at *
      clear x0 x2 hb hb2 hB
      go_wp2_with fail
      go_region
      generalize wr.drew = wd at *
      go_wp2_with fail
      go_roundw
      case rel => exact ⟨i + 1, by omega, by go_num, hB2⟩
      case measure => simp [RowKit.intOf]; omega
    · obtain rfl : i = n := by omega
      go_wp2_with fail
      go_ret
      exact ⟨rfl, hB.out⟩
set_option maxHeartbeats 1000000 in
set_option maxRecDepth 100000 in
/-- two listings that are the same -/
theorem listings_same (o : Bool) (s1 s2 z1 z2 : Option Addr) (ls : List ByteArray) (lz : List Int) (n c d m e f : Nat) (w : World) (h1 : Srw w s1 ls) (h2 : Srw w s2 ls) (hl : ls.length = n) (hc : n ≤ c) (hcc : c ≤ 9223372036854775807) (hd : n ≤ d)
    (g1 : Zrw w z1 lz) (g2 : Zrw w z2 lz) (gl : lz.length = m) (ge : m ≤ e) (gee : e ≤ 9223372036854775807) (gf : m ≤ f) :
    Calls Tryz.prog 23 #[.agg #[.bool o, .slice s1 n c, .slice z1 m e], .agg #[.bool o, .slice s2 n d, .slice z2 m f]] w fun e w' => e = .returned (.bool true) ∧ Below w.heap.size w w' := by
  have C1 := Lib.hid (fun W (hb : Below w.heap.size w W) => texts_same s1 s2 ls n c d W (h1.below hb) (h2.below hb) hl hc hcc hd)
  have C2 := Lib.hid (fun W (hb : Below w.heap.size w W) => ints_same z1 z2 lz m e f W (g1.below hb) (g2.below hb) gl ge gee gf)
  obtain ⟨v0, hv0⟩ : ∃ x, x = w.alloc (.cells #[.bool o, .slice s1 n c, .slice z1 m e] 30) := ⟨_, rfl⟩
  obtain ⟨v1, hv1⟩ : ∃ x, x = v0.alloc (.cells #[.bool o, .slice s2 n d, .slice z2 m f] 30) := ⟨_, rfl⟩
  have sv0 : v0.heap.size = w.heap.size + 1 := by rw [hv0]; simp
  have bv0 : Below w.heap.size w v0 := by rw [hv0]; exact (Below.refl _ w).alloc (Nat.le_refl _) _
  have bv1 : Below v0.heap.size v0 v1 := by rw [hv1]; exact (Below.refl _ v0).alloc (Nat.le_refl _) _
  have K0 : Blk v0 w.heap.size [.bool o, .slice s1 n c, .slice z1 m e] 30 := by rw [hv0]; exact Blk.new w [.bool o, .slice s1 n c, .slice z1 m e] 30 _ rfl
  have K1 : Blk v1 v0.heap.size [.bool o, .slice s2 n d, .slice z2 m f] 30 := by rw [hv1]; exact Blk.new v0 [.bool o, .slice s2 n d, .slice z2 m f] 30 _ rfl
  have KA := Lib.hid (K0.low bv1)
  rw [sv0] at K1
  have KB := Lib.hid K1
  have HB := Lib.hid (below_chain bv0 bv1)
  rw [hv1, hv0] at KA KB HB
  clear hv1
  clear hv0
  clear sv0 bv0 bv1 K0 K1 h1 h2 hl hc hcc hd g1 g2 gl ge gee gf
  go_enter Tryz.func23, Tryz.ntmps23
  go_wp2_with fail
  refine (C1.out _ HB.out).mono ?_
  rintro e w1 ⟨rfl, hb⟩
  have HB1 := Lib.hid (below_chain HB.out hb)
  have x2 := (KA.out.low hb).cell 2
  have y2 := (KB.out.low hb).cell 2
  simp only [List.getElem?_cons_zero, List.getElem?_cons_succ] at x2 y2
  clear hb HB KA KB C1
  go_wp2_with fail
  refine (C2.out _ HB1.out).mono ?_
  rintro e w2 ⟨rfl, hb⟩
  have HB2 := Lib.hid (below_chain HB1.out hb)
  clear hb HB1 C2 x2 y2
  go_wp2_with fail
  go_ret
  exact ⟨rfl, HB2.out⟩
theorem same_quiet (ao bo : Option Addr) (l : List UInt8) (c d : Nat) (w : World) (h1 : Byt w ao l) (h2 : Byt w bo l) (n1 : ao = none → c = 0) (n2 : bo = none → d = 0) (nn : Nat) :
    Calls Tryz.prog 18 #[.slice ao l.length c, .slice bo l.length d] (w.drewN nn) fun e w' => e = .returned (.bool true) ∧ w' = w.drewN nn := by
  have hb := below_drewN (Below.refl w.heap.size w) nn
  refine (same_any ao bo l l c d (w.drewN nn) (h1.below hb) (h2.below hb) n1 n2).mono ?_
  rintro e w' ⟨rfl, rfl⟩
  simp
theorem arw_cellW {w : World} {ao : Option Addr} {l : List (ByteArray × List UInt8)} (h : Arw w ao l) (i : Nat) (x : ByteArray × List UInt8) (hx : l[i]? = some x) : ∃ b o ad c, ao = some ⟨b, o, none⟩ ∧ b < w.heap.size ∧ w.cell? ⟨b, o + i * 2, none⟩ = some (.string x.1) ∧
    w.cell? ⟨b, o + i * 2 + 1, none⟩ = some (.slice ad x.2.length c) ∧ Byt w ad x.2 ∧ (ad = none → c = 0) := by
  obtain ⟨b, o, h1, h2, h3⟩ := h (by intro h0; rw [h0] at hx; simp at hx)
  obtain ⟨c0, _, ad, m, c, c1, rfl, _, _, h5, h6⟩ := h3 i x hx
  exact ⟨b, o, ad, c, h1, h2, c0, c1, h5, h6⟩
theorem rrw_cellW {w : World} {ao : Option Addr} {l : List RefP} (h : Rrw w ao l) (i : Nat) (x : RefP) (hx : l[i]? = some x) : ∃ b o, ao = some ⟨b, o, none⟩ ∧ b < w.heap.size ∧ w.cell? ⟨b, o + i * 4, none⟩ = some (.string x.key) ∧ w.cell? ⟨b, o + i * 4 + 1, none⟩ = some (.int .i64 x.lower) ∧ w.cell? ⟨b, o + i * 4 + 2, none⟩ = some (.int .i64 x.off) ∧ w.cell? ⟨b, o + i * 4 + 3, none⟩ = some (.int .i64 x.n) := by
  obtain ⟨b, o, h1, h2, h3⟩ := h (by intro h0; rw [h0] at hx; simp at hx)
  obtain ⟨c0, c1, c2, c3, _⟩ := h3 i x hx
  exact ⟨b, o, h1, h2, c0, c1, c2, c3⟩
set_option maxHeartbeats 4000000 in
set_option maxRecDepth 100000 in
/-- two nodes that are the same -/
theorem metas_same (k a b d : Int) (t : ByteArray) (a1 a2 r1 r2 : Option Addr) (la : List (ByteArray × List UInt8)) (lr : List RefP) (n c c' m e e' : Nat) (w : World) (h1 : Arw w a1 la) (h2 : Arw w a2 la) (hl : la.length = n) (hc : n ≤ c) (hcc : c ≤ 9223372036854775807) (hd : n ≤ c')
    (g1 : Rrw w r1 lr) (g2 : Rrw w r2 lr) (gl : lr.length = m) (ge : m ≤ e) (gee : e ≤ 9223372036854775807) (gf : m ≤ e') :
    Calls Tryz.prog 19 #[.agg #[.int .i64 k, .int .i64 a, .int .i64 b, .int .i64 d, .string t, .slice a1 n c, .slice r1 m e], .agg #[.int .i64 k, .int .i64 a, .int .i64 b, .int .i64 d, .string t, .slice a2 n c', .slice r2 m e']] w fun e w' => e = .returned (.bool true) ∧ Below w.heap.size w w' := by
  obtain ⟨v0, hv0⟩ : ∃ x, x = w.alloc (.cells #[.int .i64 k, .int .i64 a, .int .i64 b, .int .i64 d, .string t, .slice a1 n c, .slice r1 m e] 26) := ⟨_, rfl⟩
  obtain ⟨v1, hv1⟩ : ∃ x, x = v0.alloc (.cells #[.int .i64 k, .int .i64 a, .int .i64 b, .int .i64 d, .string t, .slice a2 n c', .slice r2 m e'] 26) := ⟨_, rfl⟩
  have sv0 : v0.heap.size = w.heap.size + 1 := by rw [hv0]; simp
  have bv0 : Below w.heap.size w v0 := by rw [hv0]; exact (Below.refl _ w).alloc (Nat.le_refl _) _
  have bv1 : Below v0.heap.size v0 v1 := by rw [hv1]; exact (Below.refl _ v0).alloc (Nat.le_refl _) _
  have K0 : Blk v0 w.heap.size [.int .i64 k, .int .i64 a, .int .i64 b, .int .i64 d, .string t, .slice a1 n c, .slice r1 m e] 26 := by rw [hv0]; exact Blk.new w [.int .i64 k, .int .i64 a, .int .i64 b, .int .i64 d, .string t, .slice a1 n c, .slice r1 m e] 26 _ rfl
  have K1 : Blk v1 v0.heap.size [.int .i64 k, .int .i64 a, .int .i64 b, .int .i64 d, .string t, .slice a2 n c', .slice r2 m e'] 26 := by rw [hv1]; exact Blk.new v0 [.int .i64 k, .int .i64 a, .int .i64 b, .int .i64 d, .string t, .slice a2 n c', .slice r2 m e'] 26 _ rfl
  have KA := Lib.hid (K0.low bv1)
  rw [sv0] at K1
  have KB := Lib.hid K1
  have HB := Lib.hid (below_chain bv0 bv1)
  have A1 := Lib.hid (h1.below HB.out)
  have A2 := Lib.hid (h2.below HB.out)
  have R1 := Lib.hid (g1.below HB.out)
  have R2 := Lib.hid (g2.below HB.out)
  rw [hv1, hv0] at KA KB HB A1 A2 R1 R2
  have HL := Lib.hid hl
  have GL := Lib.hid gl
  clear hv1
  clear hv0
  clear sv0 bv0 bv1 K0 K1 h1 h2 hl g1 g2 gl
  go_enter Tryz.func19, Tryz.ntmps19
  go_wp2_with fail
  generalize (w.alloc (.cells #[.int .i64 k, .int .i64 a, .int .i64 b, .int .i64 d, .string t, .slice a1 n c, .slice r1 m e] 26)).alloc (.cells #[.int .i64 k, .int .i64 a, .int .i64 b, .int .i64 d, .string t, .slice a2 n c', .slice r2 m e'] 26) = wb at *
  go_loopw [5] (fun vi wr => ∃ i : Nat, i ≤ n ∧ vi = .int .i64 i ∧ Hid (Below wb.heap.size wb wr)) (fun vi _ => n - (RowKit.intOf vi).toNat)
  case atStart => exact ⟨0, by omega, rfl, Below.refl _ wb⟩
  case round =>
    obtain ⟨i, hi, rfl, hB⟩ := hrel
    have k5 := (KA.out.low hB.out).cell 5
    have j5 := (KB.out.low hB.out).cell 5
    simp only [List.getElem?_cons_zero, List.getElem?_cons_succ] at k5 j5
    by_cases hin : i < n
    · obtain ⟨x, hx⟩ : ∃ x, la[i]? = some x := ⟨_, List.getElem?_eq_getElem (by have := HL.out; omega)⟩
      obtain ⟨p, o, ad, q, rfl, hp, x0, x1, x2, x3⟩ := arw_cellW A1.out i x hx
      obtain ⟨p', o', ad', q', rfl, hp', y0, y1, y2, y3⟩ := arw_cellW A2.out i x hx
      have e0 := (hB.out.cell (p := ⟨p, o + i * 2, none⟩) hp).trans x0
      have e1 := (hB.out.cell (p := ⟨p, o + i * 2 + 1, none⟩) hp).trans x1
      have f0 := (hB.out.cell (p := ⟨p', o' + i * 2, none⟩) hp').trans y0
      have f1 := (hB.out.cell (p := ⟨p', o' + i * 2 + 1, none⟩) hp').trans y1
      have CS := Lib.hid (same_quiet ad ad' x.2 q q' wr (x2.below hB.out) (y2.below hB.out) x3 y3)
      have q1 : (0 : Int) ≤ (i : Int) := by omega
      have q2 : (i : Int) < (n : Int) := by omega
      clear x0 x1 x2 x3 y0 y1 y2 y3 hp hp' hx
      go_wp2_with fail
      go_quiet ((go_at_call 18; with_reducible exact Calls.quiet_of_same (CS.out _)))
      generalize hwv : wr.drewN nq = wv at *
      have hB2 : Hid (Below wb.heap.size wb wv) := by show Below _ _ _; rw [← hwv]; exact below_drewN hB.out _
      clear hwv hB
      go_wp2_with fail
      go_roundw
      case rel => exact ⟨i + 1, by omega, by go_num, hB2⟩
      case measure => simp [RowKit.intOf]; omega
    · obtain rfl : i = n := by omega
      go_wp2_with fail
      go_loopw [6] (fun vi wr => ∃ i : Nat, i ≤ m ∧ vi = .int .i64 i ∧ Hid (Below wb.heap.size wb wr)) (fun vi _ => m - (RowKit.intOf vi).toNat)
      case atStart => exact ⟨0, by omega, rfl, hB⟩
      case round =>
        obtain ⟨j, hj, rfl, hC⟩ := hrel
        have k6 := (KA.out.low hC.out).cell 6
        have j6 := (KB.out.low hC.out).cell 6
        simp only [List.getElem?_cons_zero, List.getElem?_cons_succ] at k6 j6
        clear k5 j5
        by_cases hjm : j < m
        · obtain ⟨x, hx⟩ : ∃ x, lr[j]? = some x := ⟨_, List.getElem?_eq_getElem (by have := GL.out; omega)⟩
          obtain ⟨p, o, rfl, hp, x0, x1, x2, x3⟩ := rrw_cellW R1.out j x hx
          obtain ⟨p', o', rfl, hp', y0, y1, y2, y3⟩ := rrw_cellW R2.out j x hx
          have e0 := (hC.out.cell (p := ⟨p, o + j * 4, none⟩) hp).trans x0
          have e1 := (hC.out.cell (p := ⟨p, o + j * 4 + 1, none⟩) hp).trans x1
          have e2 := (hC.out.cell (p := ⟨p, o + j * 4 + 2, none⟩) hp).trans x2
          have e3 := (hC.out.cell (p := ⟨p, o + j * 4 + 3, none⟩) hp).trans x3
          have f0 := (hC.out.cell (p := ⟨p', o' + j * 4, none⟩) hp').trans y0
          have f1 := (hC.out.cell (p := ⟨p', o' + j * 4 + 1, none⟩) hp').trans y1
          have f2 := (hC.out.cell (p := ⟨p', o' + j * 4 + 2, none⟩) hp').trans y2
          have f3 := (hC.out.cell (p := ⟨p', o' + j * 4 + 3, none⟩) hp').trans y3
          have q1 : (0 : Int) ≤ (j : Int) := by omega
          have q2 : (j : Int) < (m : Int) := by omega
          clear x0 x1 x2 x3 y0 y1 y2 y3 hp hp' hx
          go_wp2_with fail
          go_quiet (fail)
          generalize hwv : wr.drewN nq = wv at *
          have hC2 : Hid (Below wb.heap.size wb wv) := by show Below _ _ _; rw [← hwv]; exact below_drewN hC.out _
          clear hwv hC
          go_wp2_with fail
          go_roundw
          case rel => exact ⟨j + 1, by omega, by go_num, hC2⟩
          case measure => simp [RowKit.intOf]; omega
        · obtain rfl : j = m := by omega
          go_wp2_with fail
          go_ret
          exact ⟨rfl, below_chain HB.out hC.out⟩
end Go.Proofs.YtpjgkboafmebbaaGreatDoor.Sh
