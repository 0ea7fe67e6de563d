/-
  The contracts of the document's own Put and Bytes (numbers, bytes with their length), and of its frame page: kind, write, Put and Size. Conditions: each law's own.
-/
import Derived.Test.YtmojhnekecbbiaaGreatDoorFk
import Derived.Test.YtmojhnekecbbiaaGreatDoorCd
namespace Go.Proofs.YtmojhnekecbbiaaGreatDoor.Sh
open Lb Go.RowKit Go.Lib

theorem byt_new (w : World) (n : Int) (c : UInt8) (h : n = c.toNat) : Byt (w.alloc (.cells #[.int .u8 n] 5)) (some ⟨w.heap.size, 0, none⟩) [c] := fun _ => by
  refine ⟨w.heap.size, 0, rfl, by simp, fun j hj => ?_⟩
  obtain rfl : j = 0 := by simpa using hj
  rw [World.cell?_alloc_new]
  simp [h]
set_option maxHeartbeats 1000000 in
set_option maxRecDepth 100000 in
theorem refput_any (x : Nat) (h : x < 18446744073709551616) (w : World) :
    Calls Tryz.prog 23 #[.int .u64 x] w fun e w' => Below w.heap.size w w' ∧ ∃ v, e = .returned v ∧ Own w' w.heap.size v (putL x) := by
  obtain ⟨z, hz⟩ : ∃ z, z = putL x := ⟨_, rfl⟩
  rw [← hz]
  have HZ := Lib.hid hz
  have hx10 : x < 128 ^ (9 + 1) := Nat.lt_of_lt_of_le h two64
  clear hz
  go_enter Tryz.func23, Tryz.ntmps23
  go_wp2_with fail
  go_loopw [0, 3] (fun vx v wr => ∃ (y f : Nat) (acc : List UInt8), vx = .int .u64 y ∧ Own wr w.heap.size v acc ∧ Below w.heap.size w wr ∧ y < 18446744073709551616 ∧ acc.length + f ≤ 9 ∧ Hid (y < 128 ^ (f + 1) ∧ z = acc ++ putF f y)) (fun vx _ _ => (RowKit.intOf vx).toNat)
  case atStart => exact ⟨x, 9, [], rfl, World.ownsRow_nil _ _ _ _, Below.refl _ _, h, by simp, by show _ ∧ _; exact ⟨hx10, by rw [HZ.out]; rfl⟩⟩
  case round =>
    obtain ⟨y, f, acc, rfl, hown, hb, hy, hf, hh⟩ := hrel
    have hbz := hb.size
    obtain ⟨h1, h2⟩ := hh.out
    by_cases hyb : 128 ≤ y
    · obtain ⟨g, rfl⟩ : ∃ g, f = g + 1 := by
        cases f with
        | zero => simp at h1; omega
        | succ g => exact ⟨g, rfl⟩
      rw [putF, if_neg (by omega)] at h2
      have HN : Hid (y / 128 < 128 ^ (g + 1) ∧ z = (acc ++ [(y % 128 + 128).toUInt8]) ++ putF g (y / 128)) := by
        show _ ∧ _
        exact ⟨by rw [Nat.div_lt_iff_lt_mul (by decide), ← Nat.pow_succ]; exact h1, by rw [h2]; simp⟩
      have hn := byt_new wr ((y : Int) % 128 + 128) (y % 128 + 128).toUInt8 (by rw [Lb.u8_nat _ (by omega)]; omega)
      clear h1 h2 hh
      go_wp2_with (at_builtin; refine wpl_app (t := 23) (e := 5) rfl (.tmp 6) (.tmp 11) rfl Tryz.underlying23 info5 w.heap.size _ acc [(y % 128 + 128).toUInt8] rfl (World.ownsRow.alloc hown _) (some ⟨wr.heap.size, 0, none⟩) 1 rfl hn (fun h => by cases h) (by simp; omega) (by simp; omega) ?_; intro v' w' hown' hgrow)
      have hb' : Below w.heap.size w w' := (hb.alloc hbz _).grown hgrow (by simp; omega) (fun k hk => (World.ownsRow.lt hown k hk).1)
      go_wp2_with fail
      go_roundw
      case rel => exact ⟨y / 128, g, _, by go_num, hown', hb', by omega, by simp; omega, HN⟩
      case measure => simp [RowKit.intOf]; omega
    · have hzz : z = acc ++ [y.toUInt8] := by
        rw [h2]
        cases f with
        | zero => rfl
        | succ g => rw [putF, if_pos (by omega)]
      have HZZ := Lib.hid hzz
      have hn := byt_new wr (y : Int) y.toUInt8 (by rw [Lb.u8_nat _ (by omega)])
      clear h1 h2 hh hzz
      go_wp2_with (at_builtin; refine wpl_app (t := 23) (e := 5) rfl (.tmp 15) (.tmp 18) rfl Tryz.underlying23 info5 w.heap.size _ acc [y.toUInt8] rfl (World.ownsRow.alloc hown _) (some ⟨wr.heap.size, 0, none⟩) 1 rfl hn (fun h => by cases h) (by simp; omega) (by simp; omega) ?_; intro v' w' hown' hgrow)
      have hb' : Below w.heap.size w w' := (hb.alloc hbz _).grown hgrow (by simp; omega) (fun k hk => (World.ownsRow.lt hown k hk).1)
      go_wp2_with fail
      go_ret
      exact ⟨hb', _, rfl, by rw [HZZ.out]; exact hown'⟩
set_option maxHeartbeats 1000000 in
set_option maxRecDepth 100000 in
theorem lebref_any (ao : Option Addr) (l : List UInt8) (c : Nat) (w : World) (h : Byt w ao l) (hn : ao = none → c = 0) (hl : l.length ≤ 140737488355318) :
    Calls Tryz.prog 35 #[.slice ao l.length c] w fun e w' => Below w.heap.size w w' ∧ ∃ v, e = .returned v ∧ Own w' w.heap.size v (bytL l) := by
  have cp := refput_any l.length (by omega) w
  have hp := putL_len l.length
  obtain ⟨p, hpp⟩ : ∃ p, p = putL l.length := ⟨_, rfl⟩
  unfold bytL
  rw [← hpp] at cp hp ⊢
  have CP := Lib.hid cp
  clear cp hpp
  go_enter Tryz.func35, Tryz.ntmps35
  go_wp2_with fail
  refine CP.out.mono ?_
  rintro e w1 ⟨hb1, v1, rfl, hown⟩
  have hr := h.below hb1
  go_wp2_with (at_builtin; refine wpl_app (t := 23) (e := 5) rfl (.tmp 6) (.tmp 7) rfl Tryz.underlying23 info5 w.heap.size _ p l rfl hown ao c rfl hr hn (by omega) hb1.size ?_; intro v' w' hown' hgrow)
  have hb' : Below w.heap.size w w' := hb1.grown hgrow hb1.size (fun k hk => (World.ownsRow.lt hown k hk).1)
  go_wp2_with fail
  go_ret
  exact ⟨hb', _, rfl, hown'⟩
theorem refkind_any (k : Int) (w : World) : Calls Tryz.prog 19 #[.int .i64 k] w fun e w' => e = .returned (.bool (kindB k)) ∧ w' = w := by
  by_cases h1 : 1 ≤ k
  · by_cases h2 : k ≤ 4
    · have e : Hid (kindB k = true) := by show _ = _; simp [kindB, h1, h2]
      have d1 : decide (1 ≤ k) = true := by simp [h1]
      have d2 : decide (k ≤ 4) = true := by simp [h2]
      go_enter Tryz.func19, Tryz.ntmps19
      go_wp2_with fail
      go_ret
      exact ⟨by rw [e.out]; rfl, rfl⟩
    · have e : Hid (kindB k = false) := by show _ = _; simp [kindB, h2]
      have d1 : decide (1 ≤ k) = true := by simp [h1]
      have d2 : decide (k ≤ 4) = false := by simp; omega
      go_enter Tryz.func19, Tryz.ntmps19
      go_wp2_with fail
      go_ret
      exact ⟨by rw [e.out]; rfl, rfl⟩
  · have e : Hid (kindB k = false) := by show _ = _; simp [kindB, h1]
    have d1 : decide (1 ≤ k) = false := by simp; omega
    go_enter Tryz.func19, Tryz.ntmps19
    go_wp2_with fail
    go_ret
    exact ⟨by rw [e.out]; rfl, rfl⟩
set_option maxHeartbeats 1000000 in
theorem refsize_any (n : Int) (h0 : -9223372036854775808 ≤ n) (h1 : n ≤ 9223372036854775807) (w : World) : Calls Tryz.prog 9 #[.int .i64 n] w fun e w' => e = .returned (.int .i64 (sizeN n)) ∧ Below w.heap.size w w' := by
  by_cases hn : n < 0
  · have e : Hid (sizeN n = 0) := by show _ = _; simp [sizeN, hn]
    have d1 : decide (n < 0) = true := by simp [hn]
    go_enter Tryz.func9, Tryz.ntmps9
    go_wp2_with fail
    go_ret
    exact ⟨by rw [e.out]; rfl, Below.refl _ _⟩
  · by_cases h8 : 8192 < n
    · have e : Hid (sizeN n = 0) := by show _ = _; simp [sizeN, h8]
      have d1 : decide (n < 0) = false := by simp; omega
      have d2 : decide (8192 < n) = true := by simp [h8]
      go_enter Tryz.func9, Tryz.ntmps9
      go_wp2_with fail
      go_ret
      exact ⟨by rw [e.out]; rfl, Below.refl _ _⟩
    · obtain ⟨m, rfl⟩ : ∃ m : Nat, n = m := ⟨n.toNat, by omega⟩
      have hl := putL_len m
      have C := Lib.hid (fun W => refput_any m (by omega) W)
      have e : Hid (sizeN (m : Int) = 6 + ((putL m).length : Nat) + m) := by
        show _ = _
        rw [sizeN, if_neg (by omega), Int.toNat_natCast]
      have d1 : decide ((m : Int) < 0) = false := by simp
      have d2 : decide (8192 < (m : Int)) = false := by simp; omega
      clear hn
      go_enter Tryz.func9, Tryz.ntmps9
      go_wp2_with fail
      refine (C.out _).mono ?_
      rintro e w1 ⟨b1, v, rfl, ho⟩
      obtain ⟨a, c, rfl, _, _, _, _⟩ := own_byt ho
      obtain ⟨p, hp⟩ : ∃ p, p = (putL m).length := ⟨_, rfl⟩
      rw [← hp] at hl e ⊢
      have B := Lib.hid b1
      clear ho b1 hp
      go_wp2_with fail
      go_ret
      exact ⟨by rw [e.out]; exact ret_int (by omega), B.out⟩
set_option maxHeartbeats 2000000 in
set_option maxRecDepth 100000 in
theorem refwrite_any12 (k : Int) (ao : Option Addr) (d : List UInt8) (n c : Nat) (w : World) (h : Byt w ao d) (hn : ao = none → c = 0) (hd : d.length = n) (hbig : n ≤ 1000000) :
    Calls Tryz.prog 21 #[.int .i64 k, .slice ao n c] w fun e w' => Below w.heap.size w w' ∧ ∃ v, e = .returned v ∧ Own w' w.heap.size v (Fr.frL (kb k) d) := by
  have kw := kb_wrap k
  obtain ⟨x, hx⟩ : ∃ x, x = kb k := ⟨_, rfl⟩
  have FE : Hid (Fr.frL (kb k) d = Cr.bytesL ([165, x] ++ bytL d)) := by show _ = _; rw [hx]; exact frL_eq k d
  rw [← hx] at kw
  obtain ⟨F, hF⟩ : ∃ F, F = Fr.frL (kb k) d := ⟨_, rfl⟩
  rw [← hF] at FE ⊢
  have bt := al1 w (.cells #[.int .u8 165, .int .u8 (x.toNat : Int)] 5)
  have CB := lebref_any ao d c _ (h.below bt) hn (by omega)
  rw [hd] at CB
  have CB' := Lib.hid CB
  have OL : Hid (Own (w.alloc (.cells #[.int .u8 165, .int .u8 (x.toNat : Int)] 5)) w.heap.size (.slice (some ⟨w.heap.size, 0, none⟩) 2 2) [165, x]) := own_lit w [165, x] w.heap.size (Nat.le_refl _) (by simp)
  have B1 := Lib.hid bt
  have BL := bytL_len d
  rw [hd] at BL
  clear h hn hx hF CB bt
  go_enter Tryz.func21, Tryz.ntmps21
  go_wp2_with fail
  refine CB'.out.mono ?_
  generalize w.alloc (.cells #[.int .u8 165, .int .u8 (x.toNat : Int)] 5) = W1 at *
  rintro e w2 ⟨b2, v2, rfl, o2⟩
  obtain ⟨M, hM⟩ : ∃ M, M = bytL d := ⟨_, rfl⟩
  rw [← hM] at o2 BL FE
  obtain ⟨a2, c2, rfl, hc2, hcm2, hy2, hn2⟩ := own_byt o2
  obtain ⟨m, hm⟩ : ∃ m, m = M.length := ⟨_, rfl⟩
  rw [← hm] at BL hc2 ⊢
  have O1 : Hid (Own w2 w.heap.size (.slice (some ⟨w.heap.size, 0, none⟩) 2 2) [165, x]) := own_below OL.out b2
  have B2 := Lib.hid (below_chain B1.out b2)
  have Y2 := Lib.hid hy2
  have N2 := Lib.hid hn2
  have HM : Hid (M.length = m) := hm.symm
  have P2 : Hid (([165, x] : List UInt8).length + m ≤ 140737488355328) := by show 2 + m ≤ _; omega
  have S2 := Lib.hid B2.out.size
  clear b2 o2 hy2 hn2 hM hm CB' hd
  go_wp2_with (at_builtin; refine wpl_app_len (t := 23) (e := 5) rfl (.tmp 7) (.tmp 9) rfl Tryz.underlying23 info5 w.heap.size _ [165, x] M rfl O1.out a2 m c2 (by rfl) Y2.out N2.out HM.out P2.out S2.out ?_; intro v3 w3 o3 g3)
  have b3 : Below w.heap.size w w3 := B2.out.grown g3 S2.out (fun j hj => (World.ownsRow.lt O1.out j hj).1)
  obtain ⟨L, hL⟩ : ∃ L, L = [165, x] ++ M := ⟨_, rfl⟩
  rw [← hL] at o3 FE
  have LL : L.length = m + 2 := by rw [hL]; simp [HM.out]
  obtain ⟨a3, c3, rfl, hc3, hcm3, hy3, hn3⟩ := own_byt o3
  have C34 := Lib.hid (Cr.refbytes_any a3 L c3 w3 hy3 hn3 hc3 hcm3 (by rw [LL]; omega))
  have B3 := Lib.hid b3
  clear o3 g3 b3 hL hy3 hn3
  go_wp2_with fail
  refine C34.out.mono ?_
  rintro e w4 ⟨b4, v4, rfl, o4⟩
  have B4 := Lib.hid (below_chain B3.out b4)
  have O4 : Hid (Own w4 w.heap.size v4 F) := by show Own _ _ _ _; rw [FE.out]; exact o4.low B3.out.size
  clear b4 o4
  go_wp2_with fail
  go_ret
  exact ⟨B4.out, _, rfl, O4.out⟩
end Go.Proofs.YtmojhnekecbbiaaGreatDoor.Sh
