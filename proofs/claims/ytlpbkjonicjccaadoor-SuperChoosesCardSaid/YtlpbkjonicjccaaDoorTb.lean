/-
  The contract of the document's own Get. No condition.
-/
import Derived.Test.YtlpbkjonicjccaaDoorTa
import Derived.Test.YtlpbkjonicjccaaDoorCd
namespace Go.Proofs.YtlpbkjonicjccaaDoor.Sh
open Go.RowKit Go.Lib

set_option maxHeartbeats 4000000 in
set_option maxRecDepth 100000 in
theorem refget_short (ao : Option Addr) (l : List UInt8) (n c : Nat) (w : World) (hln : l.length = n) (h : n ≠ 256) : Calls Tryd.prog 15 #[.slice ao n c] w (AnsG w l) := by
  have hg : getL l = none := getL_short (by omega)
  have e1 : ((n : Int) != 256) = true := by simp; omega
  have HG := Lib.hid hg
  have K0 := Lib.hid (Blk.new w [.int .i64 0, .string ⟨#[]⟩, .slice none 0 0] 25 w.heap.size rfl)
  have B0 := Lib.hid (below_alloc' (Below.refl w.heap.size w) (Nat.le_refl _) (.cells #[.int .i64 0, .string ⟨#[]⟩, .slice none 0 0] 25))
  clear hg h hln
  go_enter Tryd.func15, Tryd.ntmps15
  go_wp2_with fail
  exact bodyPost_ret (results_row_tmp rfl _ _ w.heap.size 25 _ _ _ rfl rfl K0.out Tryd.underlying25 rfl (size25 _ _ _)) rfl
    ⟨B0.out, _, by rw [getE, HG.out]; rfl, by rw [HG.out]; exact supF_none _ _⟩
theorem num_step (f : List UInt8) (k : Nat) (h : k < f.length) : numL (f.drop k) = numL (f.drop (k + 1)) * 256 + (f[k]).toNat := by
  rw [List.drop_eq_getElem_cons h, numL]
  omega
theorem num_lt_pow (l : List UInt8) (j : Nat) (h : l.length = j) (hj : j ≤ 8) : numL l < 18446744073709551616 := by
  have h1 := numL_lt l
  rw [h] at h1
  exact Nat.lt_of_lt_of_le h1 (Nat.pow_le_pow_right (n := 256) (by decide) hj)
theorem num_lt_low (l : List UInt8) (j : Nat) (h : l.length = j) (hj : j < 8) : numL l * 256 + 255 < 18446744073709551616 := by
  have h1 := numL_lt l
  rw [h] at h1
  have h2 : 256 ^ j ≤ 256 ^ 7 := Nat.pow_le_pow_right (by decide) (by omega)
  have h3 : (256 : Nat) ^ 7 = 72057594037927936 := by decide
  omega
theorem getL_big {l : List UInt8} (h : 4611686018427387903 < gOf l) (h2 : gOf l < 18446744073709551616) : getL l = none := by
  refine getL_bad rfl ?_
  have e : okP (spOf l) = false := by
    unfold okP
    have : (spOf l).g = IntKind.i64.wrap (gOf l : Int) := rfl
    rw [this]
    have hw : IntKind.i64.wrap (gOf l : Int) = (gOf l : Int) ∨ IntKind.i64.wrap (gOf l : Int) < 0 := by
      by_cases hh : gOf l < 9223372036854775808
      · exact .inl (wrap_low _ hh)
      · refine .inr ?_
        simp [IntKind.wrap, IntKind.bits, IntKind.signed]
        omega
    rcases hw with hw | hw
    · rw [hw, show decide ((gOf l : Int) ≤ 4611686018427387903) = false from decide_eq_false (by omega), Bool.and_false]
      rfl
    · rw [show decide (1 ≤ IntKind.i64.wrap (gOf l : Int)) = false from decide_eq_false (by omega)]
      rfl
  exact e
theorem ownz_set {w : World} {B k i : Nat} {v u : Value} {l : List Int} (h : OwnZ w B v l) (hk : k < B) : OwnZ (w.setCell ⟨k, i, none⟩ u) B v l := by
  obtain ⟨h1, h2 | ⟨g, cap, cur, e1, e2, e3, e4⟩⟩ := h
  · exact ⟨h1, Or.inl h2⟩
  · exact ⟨h1, Or.inr ⟨g, cap, cur, e1, e2, (heap_setCell_other w ⟨k, i, none⟩ g u (by show g ≠ k; omega)).trans e3, e4⟩⟩
theorem bit_int (q i : Nat) : ((q : Int) / 2 ^ i).tmod 2 = ((q / 2 ^ i % 2 : Nat) : Int) := by
  have e : ((q : Int) / 2 ^ i) = ((q / 2 ^ i : Nat) : Int) := by rw [Int.natCast_ediv, Int.natCast_pow]; rfl
  rw [e, Int.tmod_eq_emod_of_nonneg (Int.natCast_nonneg _)]
  rfl
theorem zrw_uno (W : World) (x : Int) : Zrw (W.alloc (.cells #[.int .i64 x] 3)) (some ⟨W.heap.size, 0, none⟩) [x] := fun _ => ⟨W.heap.size, 0, rfl, by simp, fun j hj => by
  obtain rfl : j = 0 := by simpa using hj
  rw [World.cell?_alloc_new]; simp⟩
set_option maxHeartbeats 8000000 in
set_option maxRecDepth 100000 in
theorem refget_full (b o : Nat) (l : List UInt8) (c : Nat) (w : World) (hln : l.length = 256) (h : Byt w (some ⟨b, o, none⟩) l) (hc : 256 ≤ c) (hc2 : c ≤ 9223372036854775807) : Calls Tryd.prog 15 #[.slice (some ⟨b, o, none⟩) 256 c] w (AnsG w l) := by
  have K0 := Lib.hid (Blk.new w [.int .i64 0, .string ⟨#[]⟩, .slice none 0 0] 25 w.heap.size rfl)
  have B0 := Lib.hid (below_alloc' (Below.refl w.heap.size w) (Nat.le_refl _) (.cells #[.int .i64 0, .string ⟨#[]⟩, .slice none 0 0] 25))
  have HY := Lib.hid (h.below B0.out)
  have HL := Lib.hid hln
  obtain ⟨f, hf⟩ : ∃ f, f = (l.drop 4).take 8 := ⟨_, rfl⟩
  have hfl : f.length = 8 := by rw [hf]; simp [hln]
  have HF := Lib.hid hf
  have HFL := Lib.hid hfl
  have HGO : Hid (gOf l = numL f) := by show _ = _; rw [gOf, hf]
  clear h hln hf hfl
  go_enter Tryd.func15, Tryd.ntmps15
  go_wp2_with fail
  generalize hw0 : w.alloc (.cells #[.int .i64 0, .string ⟨#[]⟩, .slice none 0 0] 25) = w0 at *
  clear hw0
  go_loop [4, 5] (fun vg vi => ∃ i : Nat, i ≤ 8 ∧ vi = .int .i64 ((i : Int) - 1) ∧ vg = .int .u64 (numL (f.drop i) : Nat)) (fun _ vi => (RowKit.intOf vi + 1).toNat)
  case atStart => exact ⟨8, by omega, rfl, by rw [List.drop_of_length_le (by rw [HFL.out]; exact Nat.le_refl _)]; rfl⟩
  case round =>
    obtain ⟨i, hi, rfl, rfl⟩ := hrel
    by_cases hin : 0 < i
    · obtain ⟨k, rfl⟩ : ∃ k, i = k + 1 := ⟨i - 1, by omega⟩
      have hk : k < 8 := by omega
      rw [show (((k + 1 : Nat) : Int) - 1) = (k : Int) by omega]
      obtain ⟨b', o', e0, _, hcell⟩ := HY.out (by intro h0; have := HL.out; rw [h0] at this; cases this)
      injection e0 with e0
      injection e0 with e1 e2
      subst e1 e2
      have d1 := hcell (4 + k) (by rw [HL.out]; omega)
      have hst := num_step f k (by rw [HFL.out]; exact hk)
      have hfk : (f[k]'(by rw [HFL.out]; exact hk)) = l[4 + k]'(by rw [HL.out]; omega) := by
        have h1 := HF.out
        subst h1
        rw [List.getElem_take, List.getElem_drop]
      rw [hfk] at hst
      have hlo := num_lt_low (f.drop (k + 1)) (7 - k) (by rw [List.length_drop, HFL.out]; omega) (by omega)
      obtain ⟨y, hy⟩ : ∃ y, y = l[4 + k]'(by rw [HL.out]; omega) := ⟨_, rfl⟩
      rw [← hy] at d1 hst
      have hyl := y.toNat_lt
      obtain ⟨N, hN⟩ : ∃ N, N = numL (f.drop (k + 1)) := ⟨_, rfl⟩
      rw [← hN] at hst hlo ⊢
      have m1 : IntKind.u64.wrap ((N : Int) * 256) = (N : Int) * 256 := by rw [w64]; omega
      have m2 : IntKind.u64.wrap ((N : Int) * 256 + (y.toNat : Int)) = (N : Int) * 256 + (y.toNat : Int) := by rw [w64]; omega
      have m3 : IntKind.i64.wrap (4 + (k : Int)) = 4 + (k : Int) := IntWalk.i64_in _ (by omega)
      have m4 : IntKind.i64.wrap ((k : Int) - 1) = (k : Int) - 1 := IntWalk.i64_in _ (by omega)
      have q0 : (4 + (k : Int)).toNat = 4 + k := by omega
      have q1 : (0 : Int) ≤ 4 + (k : Int) := by omega
      have q2 : 4 + (k : Int) < 256 := by omega
      have HST := Lib.hid hst
      have HW : Hid (IntKind.u64.wrap ((N : Int) * 256 + IntKind.u64.wrap (y.toNat : Int)) = ((N * 256 + y.toNat : Nat) : Int)) := by show _ = _; rw [w64, w64]; omega
      clear hcell hfk hst hlo hy hN hyl
      go_wp2_with fail
      go_round
      case rel => exact ⟨k, by omega, by go_num, val_u64 (by rw [HST.out, HW.out])⟩
      case measure => simp [RowKit.intOf]
    · obtain rfl : i = 0 := by omega
      rw [List.drop_zero, ← HGO.out]
      have hlt : gOf l < 18446744073709551616 := by rw [HGO.out]; exact numL_lt8 f HFL.out
      obtain ⟨G, hG⟩ : ∃ G, G = gOf l := ⟨_, rfl⟩
      rw [← hG] at hlt ⊢
      have HG := Lib.hid hG
      clear hG
      by_cases hbig : 4611686018427387903 < G
      · have hn : getL l = none := getL_big (by rw [← HG.out]; exact hbig) (by rw [← HG.out]; exact hlt)
        have HN := Lib.hid hn
        have t0 := K0.out.cell 0
        have t1 := K0.out.cell 1
        have t2 := K0.out.cell 2
        have tf := fun j => K0.out.frozen j
        simp only [List.getElem?_cons_zero, List.getElem?_cons_succ] at t0 t1 t2
        have hb2 : (4611686018427387903 : Int) < (G : Int) := by omega
        clear hn
        go_wp2_with fail
        exact bodyPost_ret (results_row_tmp rfl _ _ w.heap.size 25 _ _ _ rfl rfl (((K0.out.set 0 (.int .i64 0)).set 1 (.string ⟨#[]⟩)).set 2 (.slice none 0 0)) Tryd.underlying25 rfl (size25 _ _ _)) rfl
          ⟨((B0.out.setCell (p := ⟨w.heap.size, 0, none⟩) (Nat.le_refl _) (.int .i64 0)).setCell (p := ⟨w.heap.size, 1, none⟩) (Nat.le_refl _) (.string ⟨#[]⟩)).setCell (p := ⟨w.heap.size, 2, none⟩) (Nat.le_refl _) (.slice none 0 0), _, by rw [getE, HN.out]; rfl, by rw [HN.out]; exact supF_none _ _⟩
      · have hb2 : ¬ (4611686018427387903 : Int) < (G : Int) := by omega
        have hwl := wrap_low G (by omega)
        have HB2 := Lib.hid hbig
        go_wp2_with fail
        have al1 := below_alloc' (Below.refl w0.heap.size w0) (Nat.le_refl _) (.cells #[.int .i64 (G : Int), .string ⟨#[]⟩, .slice none 0 0] 25)
        have K1 : Hid (Blk (w0.alloc (.cells #[.int .i64 (G : Int), .string ⟨#[]⟩, .slice none 0 0] 25)) w0.heap.size [.int .i64 (G : Int), .string ⟨#[]⟩, .slice none 0 0] 25) := Blk.new _ _ _ _ rfl
        have D1 := Lib.hid al1
        have BM : Hid (Byt (w0.alloc (.cells #[.int .i64 (G : Int), .string ⟨#[]⟩, .slice none 0 0] 25)) (some ⟨b, o + 12, none⟩) (mOf l)) := ((HY.out.below al1).drop 12).take 32
        have HML := Lib.hid (mOf_len l HL.out)
        have SZ0 := Lib.hid (World.size_alloc w0 (.cells #[.int .i64 (G : Int), .string ⟨#[]⟩, .slice none 0 0] 25))
        have hkw := K0.out.lt
        generalize hw1 : w0.alloc (.cells #[.int .i64 (G : Int), .string ⟨#[]⟩, .slice none 0 0] 25) = w1 at *
        clear hw1 al1
        have CF := Lib.hid (reffrom_any (some ⟨b, o + 12, none⟩) (mOf l) 32 (c - 12) w1 BM.out HML.out (by omega))
        refine CF.out.mono ?_
        rintro e w2 ⟨rfl, b2⟩
        have hfs : fromS (mOf l) = ⟨(hexL (mOf l)).toArray⟩ := by rw [fromS, if_pos HML.out]
        obtain ⟨rr, hrr⟩ : ∃ rr, rr = fromS (mOf l) := ⟨_, rfl⟩
        rw [← hrr]
        have HRR : Hid (rr = ⟨(hexL (mOf l)).toArray⟩) := by show _ = _; rw [hrr, hfs]
        have K2 := Lib.hid (K1.out.low b2)
        have D2 := Lib.hid (below_chain D1.out (b2.mono (Nat.le_refl _)))
        have k1 := K2.out.cell 1
        have kf := fun j => K2.out.frozen j
        simp only [List.getElem?_cons_zero, List.getElem?_cons_succ] at k1
        have S2 : Hid (w0.heap.size < w2.heap.size) := by show _ < _; have := b2.size; have := SZ0.out; omega
        have K3 := Lib.hid (K2.out.set 1 (.string rr))
        have D3 : Hid (Below w0.heap.size w0 (w2.setCell ⟨w0.heap.size, 1, none⟩ (.string rr))) := D2.out.setCell (p := ⟨w0.heap.size, 1, none⟩) (Nat.le_refl _) _
        have S3 : Hid (w0.heap.size < (w2.setCell ⟨w0.heap.size, 1, none⟩ (.string rr)).heap.size) := by show _ < _; rw [World.size_setCell]; exact S2.out
        clear hfs hrr b2 CF BM K1 D1 hkw
        go_wp2_with fail
        generalize hw3 : w2.setCell ⟨w0.heap.size, 1, none⟩ (.string rr) = w3 at *
        clear hw3 k1 kf K2 D2 S2
        obtain ⟨x, hx⟩ : ∃ x, x = xOf l := ⟨_, rfl⟩
        have HX := Lib.hid hx
        obtain ⟨f2, hf2⟩ : ∃ f2, f2 = (l.drop 44).take 8 := ⟨_, rfl⟩
        have HF2 := Lib.hid hf2
        have HF2L : Hid (f2.length = 8) := by show _ = _; rw [hf2]; simp [HL.out]
        have HLE : Hid (le8 x = f2) := by show _ = _; rw [hx, xOf, ← hf2]; exact le8_numL f2 HF2L.out
        have own0 : Hid (OwnZ w3 w3.heap.size (.slice none 0 0) []) := World.ownsRow_nil _ _ _ _
        clear hx hf2
        go_loopw [8] (fun vi wr => ∃ (i : Nat) (v : Value), i ≤ 62 ∧ vi = .int .i64 i ∧ Hid (Below w0.heap.size w0 wr) ∧ w3.heap.size ≤ wr.heap.size ∧ Hid (Blk wr w0.heap.size [.int .i64 (G : Int), .string rr, v] 25) ∧ Hid (OwnZ wr w3.heap.size v (packsTo x i))) (fun vi _ => 62 - (RowKit.intOf vi).toNat)
        case atStart => exact ⟨0, .slice none 0 0, by omega, rfl, D3.out, Nat.le_refl _, K3.out, own0.out⟩
        case round =>
          obtain ⟨i, v, hi, rfl, hD, hsz3, hK, hO⟩ := hrel
          by_cases hin : i < 62
          · obtain ⟨b', o', e0, _, hcell⟩ := (HY.out.below hD.out) (by intro h0; have := HL.out; rw [h0] at this; cases this)
            injection e0 with e0
            injection e0 with e1 e2
            subst e1 e2
            have d1 := hcell (44 + i / 8) (by rw [HL.out]; omega)
            obtain ⟨y, hy⟩ : ∃ y, y = l[44 + i / 8]'(by rw [HL.out]; omega) := ⟨_, rfl⟩
            rw [← hy] at d1
            have hy2 : y = (x / 2 ^ (8 * (i / 8)) % 256).toUInt8 := by
              rw [← le8_get x (i / 8) (by omega), hy]
              have h1 := HLE.out
              have h2 := HF2.out
              have h3 : (le8 x)[i / 8]? = ((l.drop 44).take 8)[i / 8]? := by rw [h1, h2]
              rw [List.getElem?_eq_getElem (by rw [le8_len]; omega), List.getElem?_take_of_lt (by omega), List.getElem?_drop, List.getElem?_eq_getElem (by rw [HL.out]; omega)] at h3
              exact (Option.some.inj h3).symm
            have hbt : y.toNat / 2 ^ (i % 8) % 2 = 1 ↔ x.testBit i = true := by
              have h1 : y.toNat = x / 2 ^ (8 * (i / 8)) % 256 := by rw [hy2, u8_mod]
              have h2 := byte_bit x (i / 8) (i % 8)
              rw [← h1, show 8 * (i / 8) + i % 8 = i by omega, show decide (i % 8 < 8) = true from decide_eq_true (by omega), Bool.true_and, Nat.testBit_eq_decide_div_mod_eq] at h2
              rw [← h2]
              simp
            have hs := packsTo_succ x i
            have hlen := packsTo_len x i
            have m1 : IntKind.i64.wrap (44 + ((i / 8 : Nat) : Int)) = 44 + ((i / 8 : Nat) : Int) := IntWalk.i64_in _ (by omega)
            have q0 : (44 + ((i / 8 : Nat) : Int)).toNat = 44 + i / 8 := by omega
            have q1 : (0 : Int) ≤ 44 + ((i / 8 : Nat) : Int) := by omega
            have q2 : 44 + ((i / 8 : Nat) : Int) < 256 := by omega
            clear hcell hy hy2
            have S3L := S3.out
            have HK2 := Lib.hid hK.out
            have t2 := hK.out.cell 2
            simp only [List.getElem?_cons_zero, List.getElem?_cons_succ] at t2
            by_cases hbit : x.testBit i = true
            · have hp : (((y.toNat : Int) / 2 ^ (i % 8)).tmod 2 == 1) = true := by rw [bit_int, hbt.2 hbit]; rfl
              rw [if_pos hbit] at hs
              have HS := Lib.hid hs
              obtain ⟨acc, hacc⟩ : ∃ acc, acc = packsTo x i := ⟨_, rfl⟩
              rw [← hacc] at hO hlen HS
              have w1z : Zrw (wr.alloc (.cells #[.int .i64 (i : Int)] 3)) (some ⟨wr.heap.size, 0, none⟩) [(i : Int)] := zrw_uno wr (i : Int)
              have own1 : OwnZ (wr.alloc (.cells #[.int .i64 (i : Int)] 3)) w3.heap.size v acc := World.ownsRow.alloc (by exact hO.out) _
              have hsz1 : w3.heap.size ≤ (wr.alloc (.cells #[.int .i64 (i : Int)] 3)).heap.size := by rw [World.size_alloc]; omega
              have p1 : (acc.length + ([(i : Int)] : List Int).length) * 8 ≤ 140737488355328 := by simp; omega
              have DA : Hid (Below w0.heap.size w0 (wr.alloc (.cells #[.int .i64 (i : Int)] 3))) := hD.out.alloc hD.out.size _
              have DB : Hid (Below w3.heap.size wr (wr.alloc (.cells #[.int .i64 (i : Int)] 3))) := (Below.refl w3.heap.size wr).alloc hsz3 _
              clear hs hbt hbit hacc hO hD hK hlen
              go_wp2_with (at_builtin; refine wpl_appz (t := 23) (e := 3) rfl (.tmp 63) (.tmp 65) rfl Tryd.underlying23 info3 w3.heap.size _ acc [(i : Int)] rfl own1 (some ⟨wr.heap.size, 0, none⟩) 1 rfl w1z (fun h => by cases h) p1 hsz1 ?_; intro v6 w6 hown6 hgrow6; obtain ⟨a6, c6, hv6, _, _, _, _⟩ := own_zrw hown6; obtain ⟨q6, hq6⟩ : ∃ q, q = (acc ++ [(i : Int)]).length := ⟨_, rfl⟩; rw [← hq6] at hv6; subst hv6; clear hq6; (have DC := Lib.hid (DB.out.grown hgrow6 hsz1 (fun k hk => (own1.lt k hk).1))); (have DD := Lib.hid (DA.out.grown hgrow6 (DA.out.size) (fun k hk => Nat.le_trans (Nat.le_of_lt S3L) (own1.lt k hk).1))); (have KN := Lib.hid (HK2.out.below DC.out S3L)); (have u2 := KN.out.cell 2); (have uf := fun j => KN.out.frozen j); simp only [List.getElem?_cons_zero, List.getElem?_cons_succ] at u2)
              have O7 : Hid (OwnZ (w6.setCell ⟨w0.heap.size, 2, none⟩ (.slice a6 q6 c6)) w3.heap.size (.slice a6 q6 c6) (packsTo x (i + 1))) := by show OwnZ _ _ _ _; rw [HS.out]; exact ownz_set hown6 S3L
              have K7 := Lib.hid (KN.out.set 2 (.slice a6 q6 c6))
              have D7 : Hid (Below w0.heap.size w0 (w6.setCell ⟨w0.heap.size, 2, none⟩ (.slice a6 q6 c6))) := DD.out.setCell (p := ⟨w0.heap.size, 2, none⟩) (Nat.le_refl _) _
              have S7 : Hid (w3.heap.size ≤ (w6.setCell ⟨w0.heap.size, 2, none⟩ (.slice a6 q6 c6)).heap.size) := by show _ ≤ _; rw [World.size_setCell]; exact Nat.le_trans hsz3 DC.out.size
              clear hown6 hgrow6 own1 w1z
              go_wp2_with fail
              go_roundw
              case rel => exact ⟨i + 1, .slice a6 q6 c6, by omega, by go_num, D7.out, S7.out, K7.out, O7.out⟩
              case measure => simp [RowKit.intOf]; omega
            · have hp : (((y.toNat : Int) / 2 ^ (i % 8)).tmod 2 == 1) = false := by
                have h0 : ¬ y.toNat / 2 ^ (i % 8) % 2 = 1 := fun h => hbit (hbt.1 h)
                rw [bit_int, show y.toNat / 2 ^ (i % 8) % 2 = 0 by omega]
                rfl
              rw [if_neg hbit] at hs
              have HS := Lib.hid hs
              clear hs hbt hbit
              go_wp2_with fail
              go_roundw
              case rel => exact ⟨i + 1, v, by omega, by go_num, hD.out, hsz3, HK2.out, by show OwnZ _ _ _ _; rw [HS.out]; exact hO.out⟩
              case measure => simp [RowKit.intOf]; omega
          · obtain rfl : i = 62 := by omega
            obtain ⟨ps, hps⟩ : ∃ ps, ps = packsTo x 62 := ⟨_, rfl⟩
            rw [← hps] at hO
            obtain ⟨ap, cp, rfl, hcp, hmp, hzp, hnp⟩ := own_zrw hO.out
            have hfar : ∀ b o, ap = some ⟨b, o, none⟩ → w3.heap.size ≤ b := fun b o e => (hO.out.lt b (by rw [e]; rfl)).1
            obtain ⟨np, hnp2⟩ : ∃ n, n = ps.length := ⟨_, rfl⟩
            rw [← hnp2] at hcp hK
            obtain ⟨s0, hs0⟩ : ∃ s0 : SP, s0 = ⟨(G : Int), rr, ps⟩ := ⟨_, rfl⟩
            have HSP : Hid (s0 = spOf l) := by
              show _ = _
              rw [hs0, hps, HRR.out, spOf, ← HG.out, hwl, HX.out]
              rfl
            have hrs : rr.size ≤ 9223372036854775807 := by
              rw [HRR.out]
              show (hexL (mOf l)).toArray.size ≤ _
              rw [List.size_toArray, hexL_len, HML.out]
              decide
            have SV : Hid (SupV wr (.agg #[.int .i64 (G : Int), .string rr, .slice ap np cp]) s0) := ⟨ap, cp, by rw [hs0, hnp2], by rw [hs0]; exact hzp, hnp, by rw [hs0, ← hnp2]; exact hcp, hmp, by rw [hs0]; exact hrs⟩
            have CP := Lib.hid (refput14 s0 _ wr SV.out)
            have X4 := Lib.hid hK.out
            have t0 := hK.out.cell 0
            have t1 := hK.out.cell 1
            have t2 := hK.out.cell 2
            simp only [List.getElem?_cons_zero, List.getElem?_cons_succ] at t0 t1 t2
            have HFAR := Lib.hid hfar
            have HRS := Lib.hid hrs
            have HZP := Lib.hid hzp
            have HNP := Lib.hid hnp
            have HDW := Lib.hid hD.out
            have HS0 := Lib.hid hs0
            have HNP2 := Lib.hid hnp2
            have HWS : Hid (w.heap.size < w3.heap.size) := by show _ < _; have := S3.out; have := K0.out.lt; omega
            clear hzp hfar hO hK hD hs0 hps hnp hnp2 hrs own0 HLE HF2 HF2L HF HFL HGO hwl HX HRR HML
            go_wp2_with fail
            refine CP.out.mono ?_
            rintro e w5 ⟨b5, u5, rfl, ho5⟩
            have X5 := Lib.hid (X4.out.low b5)
            have D5 := Lib.hid (below_chain HDW.out b5)
            have Y5 := Lib.hid (HY.out.below D5.out)
            have K5 := Lib.hid (K0.out.low D5.out)
            have B5 := Lib.hid (below_chain B0.out D5.out)
            have Z5 := Lib.hid (HZP.out.below b5)
            have t0 := X5.out.cell 0
            have t1 := X5.out.cell 1
            have t2 := X5.out.cell 2
            have k0 := K5.out.cell 0
            have k1 := K5.out.cell 1
            have k2 := K5.out.cell 2
            have kf := fun j => K5.out.frozen j
            simp only [List.getElem?_cons_zero, List.getElem?_cons_succ] at t0 t1 t2 k0 k1 k2
            have FIN : Hid (∀ (cs : List Value) (r : Option SP) (w' : World) (v : Value) (er : Int), v = .agg cs.toArray → getL l = r → er = (if r.isSome then 0 else 110) → Below w.heap.size w w' → SupF w' w.heap.size v (r.getD noSP) → AnsG w l (.returned (.tuple #[.agg cs.toArray, .int .i64 er])) w') := by
              intro cs r w' v er h1 h2 h3 h4 h5
              subst h1 h2 h3
              exact ⟨h4, _, rfl, h5⟩
            rcases Bool.eq_false_or_eq_true (okP s0) with hok | hok
            · rw [if_pos hok] at ho5
              have hpe : putE s0 = 0 := by rw [putE, hok]; rfl
              rw [hpe]
              obtain ⟨a5, c5, rfl, _, _, hb5, hn5⟩ := own_byt ho5
              have CE := Lib.hid (Cr.same_any a5 (some ⟨b, o, none⟩) (secL s0) l c5 c w5 hb5 Y5.out hn5 (fun h => by cases h))
              have hgl := getL_is HSP.out hok HL.out
              rw [secL_len hok, HL.out] at CE
              rw [secL_len hok]
              by_cases heq : secL s0 = l
              · rw [decide_eq_true heq] at CE
                rw [if_pos (by rw [heq]; exact beq_self_eq_true _)] at hgl
                have HGL := Lib.hid hgl
                clear ho5 hb5 hn5 hpe hgl heq hok
                go_wp2_with fail
                refine CE.out.mono ?_
                rintro e w6 ⟨rfl, rfl⟩
                go_wp2_with fail
                have FA : ∀ b o, ap = some ⟨b, o, none⟩ → w.heap.size < b := fun b o e => Nat.lt_of_lt_of_le HWS.out (HFAR.out b o e)
                exact bodyPost_ret (results_row_tmp rfl _ _ w.heap.size 25 _ _ _ rfl rfl (((K5.out.set 0 (.int .i64 (G : Int))).set 1 (.string rr)).set 2 (.slice ap np cp)) Tryd.underlying25 rfl (size25 _ _ _)) rfl
                  (FIN.out _ (some s0) _ _ 0 rfl HGL.out rfl (((B5.out.setCell (p := ⟨w.heap.size, 0, none⟩) (Nat.le_refl _) (.int .i64 (G : Int))).setCell (p := ⟨w.heap.size, 1, none⟩) (Nat.le_refl _) (.string rr)).setCell (p := ⟨w.heap.size, 2, none⟩) (Nat.le_refl _) (.slice ap np cp))
                    ⟨ap, cp, by rw [Option.getD_some, HS0.out, HNP2.out]; rfl, by rw [Option.getD_some, HS0.out]; exact zrw_set (zrw_set (zrw_set Z5.out _ _ FA) _ _ FA) _ _ FA, HNP.out, by rw [Option.getD_some, HS0.out, ← HNP2.out]; exact hcp, hmp, by rw [Option.getD_some, HS0.out]; exact HRS.out, fun b o e => Nat.le_of_lt (FA b o e)⟩)
              · rw [decide_eq_false heq] at CE
                rw [if_neg (by simpa using heq)] at hgl
                have HGL := Lib.hid hgl
                clear ho5 hb5 hn5 hpe hgl heq hok
                go_wp2_with fail
                refine CE.out.mono ?_
                rintro e w6 ⟨rfl, rfl⟩
                go_wp2_with fail
                exact bodyPost_ret (results_row_tmp rfl _ _ w.heap.size 25 _ _ _ rfl rfl (((K5.out.set 0 (.int .i64 0)).set 1 (.string ⟨#[]⟩)).set 2 (.slice none 0 0)) Tryd.underlying25 rfl (size25 _ _ _)) rfl
                  (by exact FIN.out _ none _ _ 110 rfl HGL.out rfl (((B5.out.setCell (p := ⟨w.heap.size, 0, none⟩) (Nat.le_refl _) (.int .i64 0)).setCell (p := ⟨w.heap.size, 1, none⟩) (Nat.le_refl _) (.string ⟨#[]⟩)).setCell (p := ⟨w.heap.size, 2, none⟩) (Nat.le_refl _) (.slice none 0 0)) (supF_none _ _))
            · have hgl := getL_bad HSP.out hok
              have HGL := Lib.hid hgl
              have hpe : putE s0 = 110 := by rw [putE, hok]; rfl
              rw [hpe]
              clear ho5 hpe hgl hok
              go_wp2_with fail
              exact bodyPost_ret (results_row_tmp rfl _ _ w.heap.size 25 _ _ _ rfl rfl (((K5.out.set 0 (.int .i64 0)).set 1 (.string ⟨#[]⟩)).set 2 (.slice none 0 0)) Tryd.underlying25 rfl (size25 _ _ _)) rfl
                (by exact FIN.out _ none _ _ 110 rfl HGL.out rfl (((B5.out.setCell (p := ⟨w.heap.size, 0, none⟩) (Nat.le_refl _) (.int .i64 0)).setCell (p := ⟨w.heap.size, 1, none⟩) (Nat.le_refl _) (.string ⟨#[]⟩)).setCell (p := ⟨w.heap.size, 2, none⟩) (Nat.le_refl _) (.slice none 0 0)) (supF_none _ _))
theorem refget15 (ao : Option Addr) (l : List UInt8) (n c : Nat) (w : World) (h : Byt w ao l) (hln : l.length = n) (hc : n ≤ c) (hc2 : c ≤ 9223372036854775807) : Calls Tryd.prog 15 #[.slice ao n c] w (AnsG w l) := by
  by_cases hn : n = 256
  · subst hn
    obtain ⟨b, o, rfl, _⟩ := h (by intro h0; rw [h0] at hln; cases hln)
    exact refget_full b o l c w hln h hc hc2
  · exact refget_short ao l n c w hln hn
end Go.Proofs.YtlpbkjonicjccaaDoor.Sh
