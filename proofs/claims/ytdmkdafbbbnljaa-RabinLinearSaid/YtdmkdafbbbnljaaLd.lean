/-
  The walk of the statement RabinLinear. No condition.
-/
import Derived.Test.YtdmkdafbbbnljaaLa
import Derived.Deep.RegionHeld3
namespace Go.Proofs.Ytdmkdafbbbnljaa.Rb
open Go.RowKit Go.Lib

theorem xorL_len (l m : List UInt8) : (xorL l m).length = min l.length m.length := by simp [xorL]
theorem xorL_next (l m : List UInt8) (i : Nat) (h1 : i < l.length) (h2 : i < m.length) : (xorL l m).take (i + 1) = (xorL l m).take i ++ [l[i] ^^^ m[i]] := by
  have hl : i < (xorL l m).length := by rw [xorL_len]; omega
  rw [List.take_succ_eq_append_getElem hl]
  simp [xorL]
theorem xorL_take (l m : List UInt8) (n : Nat) : xorL (l.take n) (m.take n) = (xorL l m).take n := by simp [xorL, List.take_zipWith]
theorem win_len (n : Nat) (ao : Option Addr) (l : List UInt8) (c : Nat) (w : World) (h : Byt w ao l) (hl : l.length = n) (hc : n ≤ c) (hc2 : c ≤ 9223372036854775807) :
    Calls Try.prog 10 #[.slice ao n c] w fun e w' => e = .returned (.int .u64 (window l : Nat)) ∧ Below w.heap.size w w' := by
  subst hl
  exact window_any ao l c w h hc hc2

set_option maxHeartbeats 8000000 in
set_option maxRecDepth 100000 in
theorem linear_p (p q : Nat) (ao bo : Option Addr) (l m : List UInt8) (c d : Nat) (w : World) (hp : l.length = p) (hq : m.length = q) (h1 : Byt w ao l) (h2 : Byt w bo m)
    (hc : p ≤ c) (hc2 : c ≤ 9223372036854775807) (hd : q ≤ d) (hd2 : d ≤ 9223372036854775807) (m1 : p ≤ q) :
    Calls Try.prog 6 #[.slice ao p c, .slice bo q d] w fun e w' => e = .returned (.bool true) ∧ Below w.heap.size w w' := by
  have C8 := Lib.hid heads_any
  have mn : min (p : Int) (q : Int) = (p : Int) := by omega
  by_cases hg : 1000 < p
  · have d1 : ((p : Int) > 1000) := by omega
    clear h1 h2
    go_enter Try.func6, Try.ntmps6
    go_wp2_with fail
    refine (C8.out _).mono ?_
    rintro e w1 ⟨rfl, b1⟩
    go_wp2_with fail
    go_ret
    exact ⟨rfl, b1⟩
  have d1 : ¬ ((p : Int) > 1000) := by omega
  have H1 := Lib.hid h1
  have H2 := Lib.hid h2
  have HP := Lib.hid hp
  have HQ := Lib.hid hq
  obtain ⟨z, hz⟩ : ∃ z, z = xorL l m := ⟨_, rfl⟩
  have hzl : z.length = p := by rw [hz, xorL_len, hp, hq]; omega
  have HZ := Lib.hid hz
  have HL := Lib.hid hzl
  clear h1 h2 hp hq hz hzl
  go_enter Try.func6, Try.ntmps6
  go_wp2_with fail
  go_loopw [6, 7] (fun v vi wr => ∃ (i : Nat), i ≤ p ∧ vi = .int .i64 i ∧ Own wr w.heap.size v (z.take i) ∧ Below w.heap.size w wr) (fun _ vi _ => p - (RowKit.intOf vi).toNat)
  case atStart => exact ⟨0, by omega, rfl, World.ownsRow_nil _ _ _ _, Below.refl _ _⟩
  case round =>
    obtain ⟨i, hi, rfl, hown, hb⟩ := hrel
    have hbz := hb.size
    by_cases hin : i < p
    · have l1 := HP.out
      have l2 := HQ.out
      obtain ⟨b1, o1, rfl, hb1, hcell1⟩ := (H1.out) (by intro h0; rw [h0] at l1; simp at l1; omega)
      obtain ⟨b2, o2, rfl, hb2, hcell2⟩ := (H2.out) (by intro h0; rw [h0] at l2; simp at l2; omega)
      have d1 := (hb.cell (p := ⟨b1, o1 + i, none⟩) hb1).trans (hcell1 i (by omega))
      have d2 := (hb.cell (p := ⟨b2, o2 + i, none⟩) hb2).trans (hcell2 i (by omega))
      have hn := xorL_next l m i (by omega) (by omega)
      rw [← HZ.out] at hn
      obtain ⟨x, hx⟩ : ∃ x, x = l[i]'(by omega) := ⟨_, rfl⟩
      obtain ⟨y, hy⟩ : ∃ y, y = m[i]'(by omega) := ⟨_, rfl⟩
      rw [← hx] at d1 hn
      rw [← hy] at d2 hn
      clear hx hy hcell1 hcell2 l1 l2
      have hlen : (z.take i).length = i := by have := HL.out; simp; omega
      have e1 := u8_xor_nat x.toNat y.toNat x.toNat_lt y.toNat_lt
      have ev : x.toNat ^^^ y.toNat = (x ^^^ y).toNat := by rw [UInt8.toNat_xor]
      obtain ⟨s1, hs1⟩ : ∃ s : Nat, s = x.toNat ^^^ y.toNat := ⟨_, rfl⟩
      rw [← hs1] at e1 ev
      have hlit := (byt_one wr (x ^^^ y) s1 ev).drew
      have own1 : Own (wr.alloc (.cells #[.int .u8 (s1 : Int)] 5)).drew w.heap.size u6 (z.take i) := (World.ownsRow.alloc hown _)
      have hbb : Below w.heap.size w (wr.alloc (.cells #[.int .u8 (s1 : Int)] 5)).drew := (hb.alloc hbz _).drew
      have n1 : some b1 ≠ u6.ownBlock := fun h => by have := (hown.lt b1 h.symm).1; omega
      have n2 : some b2 ≠ u6.ownBlock := fun h => by have := (hown.lt b2 h.symm).1; omega
      have k1 : (z.take i).length + [x ^^^ y].length ≤ 140737488355328 := by rw [hlen]; simp; omega
      have k2 := hbb.size
      have HN := Lib.hid hn
      have OWN := Lib.hid own1
      have BB := Lib.hid hbb
      have LIT := Lib.hid hlit
      have q1 : (0 : Int) ≤ (i : Int) := Int.natCast_nonneg _
      have q2 : (i : Int) < (p : Int) := by omega
      have q3 : (i : Int) < (q : Int) := by omega
      clear hn own1 hbb hlit hs1 ev hown hb hlen
      go_wp2_with fail
      go_region_held3 (fun w' => w'.cell? ⟨b1, o1 + i, none⟩ = some (.int .u8 x.toNat) ∧ w'.cell? ⟨b2, o2 + i, none⟩ = some (.int .u8 y.toNat))
        (first
          | go_keep
          | (go_split_ands
             refine ⟨?_, ?_⟩
             · exact hgrow1.cell (by assumption) n1
             · exact hgrow1.cell (by assumption) n2))
        ((refine step_app (t := 22) (e := 5) rfl (.tmp 21) (.tmp 31) rfl Try.underlying22 info5 w.heap.size _ (z.take i) [x ^^^ y] rfl OWN.out ⟨wr.heap.size, 0, none⟩ 1 rfl LIT.out k1 k2 ?_; intro v1 w1 hown1 hgrow1))
      have hb' : Below w.heap.size w w1 := BB.out.grown hgrow1 k2 (fun k hk => (OWN.out.lt k hk).1)
      go_wp2_with fail
      go_roundw
      case rel => exact ⟨i + 1, by omega, by go_num, by rw [HN.out]; exact hown1, hb'⟩
      case measure => simp [RowKit.intOf]; omega
    · obtain rfl : p = i := by omega
      have hown' : Own wr w.heap.size u6 z := by
        have := hown
        rwa [List.take_of_length_le (by have := HL.out; omega)] at this
      obtain ⟨za, zc, hu, hz1, hz2, hz3, hz4⟩ := own_byt hown'
      have l1 := HP.out
      have l2 := HQ.out
      have zl := HL.out
      have hsum : window z = window (l.take p) ^^^ window (m.take p) := by
        rw [← window_xor _ _ (by simp; omega), xorL_take, ← HZ.out, List.take_of_length_le (by omega)]
      have CZ := Lib.hid (fun W (hB : Below wr.heap.size wr W) => win_len p za z zc W (hz3.below hB) zl (by omega) hz2)
      have CA := Lib.hid (fun W (hB : Below wr.heap.size wr W) => win_len p ao (l.take p) c W (((H1.out.below hb).take _).below hB) (by simp; omega) (by omega) hc2)
      have CB := Lib.hid (fun W (hB : Below wr.heap.size wr W) => win_len p bo (m.take p) d W (((H2.out.below hb).take _).below hB) (by simp; omega) (by omega) hd2)
      have t1 := window_lt (l.take p)
      have t2 := window_lt (m.take p)
      obtain ⟨s0, hs0⟩ : ∃ s, s = window z := ⟨_, rfl⟩
      obtain ⟨s1, hs1⟩ : ∃ s, s = window (l.take p) := ⟨_, rfl⟩
      obtain ⟨s2, hs2⟩ : ∃ s, s = window (m.take p) := ⟨_, rfl⟩
      rw [← hs0] at CZ hsum
      rw [← hs1] at CA hsum t1
      rw [← hs2] at CB hsum t2
      have e1 := u64_xor_nat s1 s2 (by omega) (by omega)
      rw [← hsum] at e1
      rw [zl] at hu
      clear hs0 hs1 hs2 hsum t1 t2
      have P1 := slice_to ao p c p (by omega)
      have P2 := slice_to bo q d p (by omega)
      have BD := Lib.hid hb
      have BQ : Hid (Below wr.heap.size wr wr.drew) := (Below.refl _ wr).drew
      clear l1 l2 zl hz1 hz2 hz3 hz4 hown hown' hb
      subst hu
      go_wp2_with fail
      go_region_held3 (fun _ => True)
        (first | trivial | fail)
        (first
          | (go_at_call 10; (with_reducible refine (CZ.out _ BQ.out).mono ?_); rintro e w1 ⟨rfl, b1⟩
             have BQ := Lib.hid (below_chain BQ.out b1)
             clear b1)
          | (go_at_call 10; (with_reducible refine (CA.out _ BQ.out).mono ?_); rintro e w1 ⟨rfl, b1⟩
             have BQ := Lib.hid (below_chain BQ.out b1)
             clear b1)
          | (go_at_call 10; (with_reducible refine (CB.out _ BQ.out).mono ?_); rintro e w1 ⟨rfl, b1⟩
             have BQ := Lib.hid (below_chain BQ.out b1)
             clear b1)
          | (go_at_call 8; (with_reducible refine (C8.out _).mono ?_); rintro e w1 ⟨rfl, b1⟩
             have BQ := Lib.hid (below_chain BQ.out b1)
             clear b1))
      go_wp2_with fail
      go_ret
      exact ⟨rfl, below_chain BD.out BQ.out⟩

set_option maxHeartbeats 8000000 in
set_option maxRecDepth 100000 in
theorem linear_q (p q : Nat) (ao bo : Option Addr) (l m : List UInt8) (c d : Nat) (w : World) (hp : l.length = p) (hq : m.length = q) (h1 : Byt w ao l) (h2 : Byt w bo m)
    (hc : p ≤ c) (hc2 : c ≤ 9223372036854775807) (hd : q ≤ d) (hd2 : d ≤ 9223372036854775807) (m1 : q < p) :
    Calls Try.prog 6 #[.slice ao p c, .slice bo q d] w fun e w' => e = .returned (.bool true) ∧ Below w.heap.size w w' := by
  have C8 := Lib.hid heads_any
  have mn : min (p : Int) (q : Int) = (q : Int) := by omega
  by_cases hg : 1000 < q
  · have d1 : ((q : Int) > 1000) := by omega
    clear h1 h2
    go_enter Try.func6, Try.ntmps6
    go_wp2_with fail
    refine (C8.out _).mono ?_
    rintro e w1 ⟨rfl, b1⟩
    go_wp2_with fail
    go_ret
    exact ⟨rfl, b1⟩
  have d1 : ¬ ((q : Int) > 1000) := by omega
  have H1 := Lib.hid h1
  have H2 := Lib.hid h2
  have HP := Lib.hid hp
  have HQ := Lib.hid hq
  obtain ⟨z, hz⟩ : ∃ z, z = xorL l m := ⟨_, rfl⟩
  have hzl : z.length = q := by rw [hz, xorL_len, hp, hq]; omega
  have HZ := Lib.hid hz
  have HL := Lib.hid hzl
  clear h1 h2 hp hq hz hzl
  go_enter Try.func6, Try.ntmps6
  go_wp2_with fail
  go_loopw [6, 7] (fun v vi wr => ∃ (i : Nat), i ≤ q ∧ vi = .int .i64 i ∧ Own wr w.heap.size v (z.take i) ∧ Below w.heap.size w wr) (fun _ vi _ => q - (RowKit.intOf vi).toNat)
  case atStart => exact ⟨0, by omega, rfl, World.ownsRow_nil _ _ _ _, Below.refl _ _⟩
  case round =>
    obtain ⟨i, hi, rfl, hown, hb⟩ := hrel
    have hbz := hb.size
    by_cases hin : i < q
    · have l1 := HP.out
      have l2 := HQ.out
      obtain ⟨b1, o1, rfl, hb1, hcell1⟩ := (H1.out) (by intro h0; rw [h0] at l1; simp at l1; omega)
      obtain ⟨b2, o2, rfl, hb2, hcell2⟩ := (H2.out) (by intro h0; rw [h0] at l2; simp at l2; omega)
      have d1 := (hb.cell (p := ⟨b1, o1 + i, none⟩) hb1).trans (hcell1 i (by omega))
      have d2 := (hb.cell (p := ⟨b2, o2 + i, none⟩) hb2).trans (hcell2 i (by omega))
      have hn := xorL_next l m i (by omega) (by omega)
      rw [← HZ.out] at hn
      obtain ⟨x, hx⟩ : ∃ x, x = l[i]'(by omega) := ⟨_, rfl⟩
      obtain ⟨y, hy⟩ : ∃ y, y = m[i]'(by omega) := ⟨_, rfl⟩
      rw [← hx] at d1 hn
      rw [← hy] at d2 hn
      clear hx hy hcell1 hcell2 l1 l2
      have hlen : (z.take i).length = i := by have := HL.out; simp; omega
      have e1 := u8_xor_nat x.toNat y.toNat x.toNat_lt y.toNat_lt
      have ev : x.toNat ^^^ y.toNat = (x ^^^ y).toNat := by rw [UInt8.toNat_xor]
      obtain ⟨s1, hs1⟩ : ∃ s : Nat, s = x.toNat ^^^ y.toNat := ⟨_, rfl⟩
      rw [← hs1] at e1 ev
      have hlit := (byt_one wr (x ^^^ y) s1 ev).drew
      have own1 : Own (wr.alloc (.cells #[.int .u8 (s1 : Int)] 5)).drew w.heap.size u6 (z.take i) := (World.ownsRow.alloc hown _)
      have hbb : Below w.heap.size w (wr.alloc (.cells #[.int .u8 (s1 : Int)] 5)).drew := (hb.alloc hbz _).drew
      have n1 : some b1 ≠ u6.ownBlock := fun h => by have := (hown.lt b1 h.symm).1; omega
      have n2 : some b2 ≠ u6.ownBlock := fun h => by have := (hown.lt b2 h.symm).1; omega
      have k1 : (z.take i).length + [x ^^^ y].length ≤ 140737488355328 := by rw [hlen]; simp; omega
      have k2 := hbb.size
      have HN := Lib.hid hn
      have OWN := Lib.hid own1
      have BB := Lib.hid hbb
      have LIT := Lib.hid hlit
      have q1 : (0 : Int) ≤ (i : Int) := Int.natCast_nonneg _
      have q2 : (i : Int) < (p : Int) := by omega
      have q3 : (i : Int) < (q : Int) := by omega
      clear hn own1 hbb hlit hs1 ev hown hb hlen
      go_wp2_with fail
      go_region_held3 (fun w' => w'.cell? ⟨b1, o1 + i, none⟩ = some (.int .u8 x.toNat) ∧ w'.cell? ⟨b2, o2 + i, none⟩ = some (.int .u8 y.toNat))
        (first
          | go_keep
          | (go_split_ands
             refine ⟨?_, ?_⟩
             · exact hgrow1.cell (by assumption) n1
             · exact hgrow1.cell (by assumption) n2))
        ((refine step_app (t := 22) (e := 5) rfl (.tmp 21) (.tmp 31) rfl Try.underlying22 info5 w.heap.size _ (z.take i) [x ^^^ y] rfl OWN.out ⟨wr.heap.size, 0, none⟩ 1 rfl LIT.out k1 k2 ?_; intro v1 w1 hown1 hgrow1))
      have hb' : Below w.heap.size w w1 := BB.out.grown hgrow1 k2 (fun k hk => (OWN.out.lt k hk).1)
      go_wp2_with fail
      go_roundw
      case rel => exact ⟨i + 1, by omega, by go_num, by rw [HN.out]; exact hown1, hb'⟩
      case measure => simp [RowKit.intOf]; omega
    · obtain rfl : q = i := by omega
      have hown' : Own wr w.heap.size u6 z := by
        have := hown
        rwa [List.take_of_length_le (by have := HL.out; omega)] at this
      obtain ⟨za, zc, hu, hz1, hz2, hz3, hz4⟩ := own_byt hown'
      have l1 := HP.out
      have l2 := HQ.out
      have zl := HL.out
      have hsum : window z = window (l.take q) ^^^ window (m.take q) := by
        rw [← window_xor _ _ (by simp; omega), xorL_take, ← HZ.out, List.take_of_length_le (by omega)]
      have CZ := Lib.hid (fun W (hB : Below wr.heap.size wr W) => win_len q za z zc W (hz3.below hB) zl (by omega) hz2)
      have CA := Lib.hid (fun W (hB : Below wr.heap.size wr W) => win_len q ao (l.take q) c W (((H1.out.below hb).take _).below hB) (by simp; omega) (by omega) hc2)
      have CB := Lib.hid (fun W (hB : Below wr.heap.size wr W) => win_len q bo (m.take q) d W (((H2.out.below hb).take _).below hB) (by simp; omega) (by omega) hd2)
      have t1 := window_lt (l.take q)
      have t2 := window_lt (m.take q)
      obtain ⟨s0, hs0⟩ : ∃ s, s = window z := ⟨_, rfl⟩
      obtain ⟨s1, hs1⟩ : ∃ s, s = window (l.take q) := ⟨_, rfl⟩
      obtain ⟨s2, hs2⟩ : ∃ s, s = window (m.take q) := ⟨_, rfl⟩
      rw [← hs0] at CZ hsum
      rw [← hs1] at CA hsum t1
      rw [← hs2] at CB hsum t2
      have e1 := u64_xor_nat s1 s2 (by omega) (by omega)
      rw [← hsum] at e1
      rw [zl] at hu
      clear hs0 hs1 hs2 hsum t1 t2
      have P1 := slice_to ao p c q (by omega)
      have P2 := slice_to bo q d q (by omega)
      have BD := Lib.hid hb
      have BQ : Hid (Below wr.heap.size wr wr.drew) := (Below.refl _ wr).drew
      clear l1 l2 zl hz1 hz2 hz3 hz4 hown hown' hb
      subst hu
      go_wp2_with fail
      go_region_held3 (fun _ => True)
        (first | trivial | fail)
        (first
          | (go_at_call 10; (with_reducible refine (CZ.out _ BQ.out).mono ?_); rintro e w1 ⟨rfl, b1⟩
             have BQ := Lib.hid (below_chain BQ.out b1)
             clear b1)
          | (go_at_call 10; (with_reducible refine (CA.out _ BQ.out).mono ?_); rintro e w1 ⟨rfl, b1⟩
             have BQ := Lib.hid (below_chain BQ.out b1)
             clear b1)
          | (go_at_call 10; (with_reducible refine (CB.out _ BQ.out).mono ?_); rintro e w1 ⟨rfl, b1⟩
             have BQ := Lib.hid (below_chain BQ.out b1)
             clear b1)
          | (go_at_call 8; (with_reducible refine (C8.out _).mono ?_); rintro e w1 ⟨rfl, b1⟩
             have BQ := Lib.hid (below_chain BQ.out b1)
             clear b1))
      go_wp2_with fail
      go_ret
      exact ⟨rfl, below_chain BD.out BQ.out⟩

theorem linear_law (ao bo : Option Addr) (l m : List UInt8) (c d : Nat) (w : World) (h1 : Byt w ao l) (h2 : Byt w bo m)
    (hc : l.length ≤ c) (hc2 : c ≤ 9223372036854775807) (hd : m.length ≤ d) (hd2 : d ≤ 9223372036854775807) :
    Calls Try.prog 6 #[.slice ao l.length c, .slice bo m.length d] w fun e w' => e = .returned (.bool true) ∧ Below w.heap.size w w' := by
  rcases Nat.lt_or_ge m.length l.length with h | h
  · exact linear_q _ _ ao bo l m c d w rfl rfl h1 h2 hc hc2 hd hd2 h
  · exact linear_p _ _ ao bo l m c d w rfl rfl h1 h2 hc hc2 hd hd2 h
end Go.Proofs.Ytdmkdafbbbnljaa.Rb
