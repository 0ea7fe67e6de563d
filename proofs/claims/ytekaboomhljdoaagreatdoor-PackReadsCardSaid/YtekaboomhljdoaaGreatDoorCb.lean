/-
  The contracts of crc's shift, More and Sum, and of the document's own step, More and Sum: for every number of 32 bits and all bytes. No other condition.
-/
import Derived.Test.YtekaboomhljdoaaGreatDoorCa
import Derived.Test.YtekaboomhljdoaaGreatDoorKc
import Derived.Outline
import Derived.Laws.BitsAllLaws
import Derived.Deep.QuietTactic
import Derived.BigQuiet
namespace Go.Proofs.YtekaboomhljdoaaGreatDoor.Cr
open Go.RowKit Go.Lib Go.Proofs.YtekaboomhljdoaaGreatDoor.Sh

theorem tb_odd (y : Nat) (h : y % 2 = 1) : tb y = y / 2 ^^^ 3988292384 := by rw [tb, if_pos h]
theorem tb_even (y : Nat) (h : ¬ y % 2 = 1) : tb y = y / 2 := by rw [tb, if_neg h]
theorem and_mask : bits BinOp.and IntKind.u32 3988292384 4294967295 = 3988292384 := by decide +kernel
theorem and_none : bits BinOp.and IntKind.u32 3988292384 0 = 0 := by decide +kernel

set_option maxHeartbeats 1000000 in
theorem shift_any (r : Nat) (h : r < 4294967296) (w : World) :
    Calls Tryz.prog 100 #[.int .u32 r] w fun e w' => e = .returned (.int .u32 (tbs 8 r)) ∧ w = w' := by
  go_enter Tryz.func100, Tryz.ntmps100
  go_wp2_with fail
  go_loop [0, 3] (fun vx vi => ∃ (i y : Nat), i ≤ 8 ∧ vx = .int .u32 y ∧ vi = .int .i64 i ∧ y < 4294967296 ∧ Hid (y = tbs i r)) (fun _ vi => 8 - (RowKit.intOf vi).toNat)
  case atStart => exact ⟨0, r, by omega, rfl, rfl, h, rfl⟩
  case round =>
    obtain ⟨i, y, hi, rfl, rfl, hy, hyr⟩ := hrel
    by_cases hi8 : i < 8
    · have hn : Hid (tb y = tbs (i + 1) r) := by show _ = _; rw [hyr.out, tbs]
      clear hyr
      by_cases hp : y % 2 = 1
      · have k1 : bits BinOp.and IntKind.u32 (y : Int) 1 = 1 := by
          have := u32_and_nat y 1 hy (by decide)
          rw [nat_mask1, hp] at this
          exact this
        have k2 := and_mask
        have k3 : Hid (bits BinOp.xor IntKind.u32 ((y : Int) / 2) 3988292384 = (tb y : Nat)) := by
          show _ = _
          rw [tb_odd y hp]
          exact u32_xor_nat (y / 2) 3988292384 (by omega) (by decide)
        have HT := Lib.hid (tb_lt y hy)
        go_wp2_with fail
        go_round
        case rel => exact ⟨i + 1, tb y, by omega, val_u32 k3.out, by go_num, HT.out, hn⟩
        case measure => simp [RowKit.intOf]; omega
      · have k1 : bits BinOp.and IntKind.u32 (y : Int) 1 = 0 := by
          have := u32_and_nat y 1 hy (by decide)
          rw [nat_mask1, show y % 2 = 0 by omega] at this
          exact this
        have k2 := and_none
        have k3 : Hid (bits BinOp.xor IntKind.u32 ((y : Int) / 2) 0 = (tb y : Nat)) := by
          show _ = _
          rw [tb_even y hp]
          have := u32_xor_nat (y / 2) 0 (by omega) (by decide)
          rw [Nat.xor_zero] at this
          exact this
        have HT := Lib.hid (tb_lt y hy)
        go_wp2_with fail
        go_round
        case rel => exact ⟨i + 1, tb y, by omega, val_u32 k3.out, by go_num, HT.out, hn⟩
        case measure => simp [RowKit.intOf]; omega
    · obtain rfl : i = 8 := by omega
      go_wp2_with fail
      go_ret
      exact ⟨ret_u32 (by rw [hyr.out]), rfl⟩

set_option maxHeartbeats 1000000 in
theorem step_any (c : Nat) (b : UInt8) (h : c < 4294967296) (w : World) :
    Calls Tryz.prog 96 #[.int .u32 c, .int .u8 b.toNat] w fun e w' => e = .returned (.int .u32 (stepB c b)) ∧ w = w' := by
  obtain ⟨x, hx⟩ : ∃ x : Nat, x = b.toNat := ⟨_, rfl⟩
  have hx8 : x < 256 := by rw [hx]; exact b.toNat_lt
  have e0 : Hid (bits BinOp.xor IntKind.u32 (c : Int) x = ((c ^^^ x : Nat) : Int)) := u32_xor_nat c x h (by omega)
  have e1 : c ^^^ x < 4294967296 := Nat.xor_lt_two_pow (n := 32) h (by omega)
  unfold stepB
  rw [← hx]
  clear hx
  have e2 := e0.out
  obtain ⟨r, hr⟩ : ∃ r, r = c ^^^ x := ⟨_, rfl⟩
  rw [← hr] at e1 e2 ⊢
  clear e0 hr
  go_enter Tryz.func96, Tryz.ntmps96
  go_wp2_with fail
  go_loop [5, 6] (fun vx vi => ∃ (i y : Nat), i ≤ 8 ∧ vx = .int .u32 y ∧ vi = .int .i64 i ∧ y < 4294967296 ∧ Hid (y = tbs i r)) (fun _ vi => 8 - (RowKit.intOf vi).toNat)
  case atStart => exact ⟨0, r, by omega, rfl, rfl, e1, rfl⟩
  case round =>
    obtain ⟨i, y, hi, rfl, rfl, hy, hyr⟩ := hrel
    by_cases hi8 : i < 8
    · have hn : Hid (tb y = tbs (i + 1) r) := by show _ = _; rw [hyr.out, tbs]
      have HT := Lib.hid (tb_lt y hy)
      clear hyr
      by_cases hp : y % 2 = 1
      · have k3 : Hid (bits BinOp.xor IntKind.u32 ((y : Int) / 2) 3988292384 = (tb y : Nat)) := by
          show _ = _
          rw [tb_odd y hp]
          exact u32_xor_nat (y / 2) 3988292384 (by omega) (by decide)
        have hp2 : ((y : Int) % 2 == 1) = true := by simp; omega
        go_wp2_with fail
        go_round
        case rel => exact ⟨i + 1, tb y, by omega, val_u32 k3.out, by go_num, HT.out, hn⟩
        case measure => simp [RowKit.intOf]; omega
      · have k3 : Hid ((y : Int) / 2 = (tb y : Nat)) := by
          show _ = _
          rw [tb_even y hp]
          rfl
        have hp2 : ((y : Int) % 2 == 1) = false := by simp; omega
        go_wp2_with fail
        go_round
        case rel => exact ⟨i + 1, tb y, by omega, val_u32 k3.out, by go_num, HT.out, hn⟩
        case measure => simp [RowKit.intOf]; omega
    · obtain rfl : i = 8 := by omega
      go_wp2_with fail
      go_ret
      exact ⟨ret_u32 (by rw [hyr.out]), rfl⟩

theorem regL_take (r : Nat) (l : List UInt8) (i : Nat) (h : i < l.length) : regL r (l.take (i + 1)) = stepB (regL r (l.take i)) l[i] := by
  rw [List.take_succ_eq_append_getElem h, regL_app]
  rfl
theorem sub_int (s : Nat) (h : s < 4294967296) : ((4294967295 - s : Nat) : Int) = 4294967295 - (s : Int) := by omega

theorem not_u32 (s : Nat) (h : s < 4294967296) : bits BinOp.xor IntKind.u32 IntKind.u32.max (s : Int) = ((4294967295 - s : Nat) : Int) := by
  rw [not_xor s h]
  exact u32_xor_nat 4294967295 s (by decide) h

set_option maxHeartbeats 1000000 in
set_option maxRecDepth 100000 in
theorem more_any (s : Nat) (hs : s < 4294967296) (ao : Option Addr) (l : List UInt8) (c : Nat) (w : World) (h : Byt w ao l) (hc : l.length ≤ c) (hl : c ≤ 9223372036854775807) :
    Calls Tryz.prog 91 #[.int .u32 s, .slice ao l.length c] w fun e w' => e = .returned (.int .u32 (moreL s l)) ∧ w = w' := by
  have HC := Lib.hid h
  clear h
  obtain ⟨r, hr⟩ : ∃ r, r = 4294967295 - s := ⟨_, rfl⟩
  have hr32 : r < 4294967296 := by omega
  have e0 : bits BinOp.xor IntKind.u32 IntKind.u32.max (s : Int) = (r : Int) := by rw [hr]; exact not_u32 s hs
  unfold moreL
  rw [← hr]
  clear hr
  go_enter Tryz.func91, Tryz.ntmps91
  go_wp2_with fail
  go_loop [5, 12] (fun vx vi => ∃ (i y : Nat), i ≤ l.length ∧ vx = .int .u32 y ∧ vi = .int .i64 i ∧ y < 4294967296 ∧ Hid (y = regL r (l.take i))) (fun _ vi => l.length - (RowKit.intOf vi).toNat)
  case atStart => exact ⟨0, r, by omega, rfl, rfl, hr32, rfl⟩
  case round =>
    obtain ⟨i, y, hi, rfl, rfl, hy, hyr⟩ := hrel
    by_cases hil : i < l.length
    · obtain ⟨b, o, rfl, hb, hcell⟩ := HC.out (by intro h0; rw [h0] at hil; simp at hil)
      have hn : Hid (tbs 8 (y ^^^ (l[i]).toNat) = regL r (l.take (i + 1))) := by show _ = _; rw [regL_take _ _ _ hil, ← hyr.out]; rfl
      have d1 := hcell i hil
      obtain ⟨x, hx⟩ : ∃ x, x = l[i] := ⟨_, rfl⟩
      rw [← hx] at d1 hn
      clear hx hcell hyr
      obtain ⟨m, hm⟩ : ∃ m : Nat, m = x.toNat := ⟨_, rfl⟩
      have hm8 : m < 256 := by rw [hm]; exact x.toNat_lt
      rw [← hm] at d1 hn
      clear hm x
      have e1 := u32_xor_nat y m hy (by omega)
      obtain ⟨q, hq⟩ : ∃ q, q = y ^^^ m := ⟨_, rfl⟩
      have hq32 : q < 4294967296 := by rw [hq]; exact Nat.xor_lt_two_pow (n := 32) hy (by omega)
      rw [← hq] at e1 hn
      clear hq
      have C1 := Lib.hid (shift_any q hq32 w)
      have HT := Lib.hid (tbs_lt 8 q hq32)
      go_wp2_with fail
      refine C1.out.mono ?_
      rintro e w' ⟨rfl, rfl⟩
      go_wp2_with fail
      go_round
      case rel => exact ⟨i + 1, tbs 8 q, by omega, rfl, by go_num, HT.out, hn⟩
      case measure => simp [RowKit.intOf]; omega
    · obtain rfl : i = l.length := by omega
      have hz : y = regL r l := by rw [hyr.out, List.take_length]
      have e2 : Hid (bits BinOp.xor IntKind.u32 IntKind.u32.max (y : Int) = ((4294967295 - regL r l : Nat) : Int)) := by
        show _ = _
        rw [← hz]
        exact not_u32 y hy
      clear hz hyr
      go_wp2_with fail
      go_ret
      exact ⟨ret_u32 e2.out, rfl⟩

set_option maxHeartbeats 1000000 in
set_option maxRecDepth 100000 in
theorem refmore_any (s : Nat) (hs : s < 4294967296) (ao : Option Addr) (l : List UInt8) (c : Nat) (w : World) (h : Byt w ao l) (hc : l.length ≤ c) (hl : c ≤ 9223372036854775807) :
    Calls Tryz.prog 86 #[.int .u32 s, .slice ao l.length c] w fun e w' => e = .returned (.int .u32 (moreL s l)) ∧ w = w' := by
  have HC := Lib.hid h
  clear h
  obtain ⟨r, hr⟩ : ∃ r, r = 4294967295 - s := ⟨_, rfl⟩
  have hr32 : r < 4294967296 := by omega
  have e0 : Hid (4294967295 - (s : Int) = (r : Int)) := by show _ = _; omega
  unfold moreL
  rw [← hr]
  clear hr
  go_enter Tryz.func86, Tryz.ntmps86
  go_wp2_with fail
  go_loop [5, 6] (fun vx vi => ∃ (i y : Nat), i ≤ l.length ∧ vx = .int .u32 y ∧ vi = .int .i64 i ∧ y < 4294967296 ∧ Hid (y = regL r (l.take i))) (fun _ vi => l.length - (RowKit.intOf vi).toNat)
  case atStart => exact ⟨0, r, by omega, val_u32 (by first | exact e0.out | (have := e0.out; omega)), rfl, hr32, rfl⟩
  case round =>
    obtain ⟨i, y, hi, rfl, rfl, hy, hyr⟩ := hrel
    by_cases hil : i < l.length
    · obtain ⟨b, o, rfl, hb, hcell⟩ := HC.out (by intro h0; rw [h0] at hil; simp at hil)
      have hn : Hid (stepB y l[i] = regL r (l.take (i + 1))) := by show _ = _; rw [regL_take _ _ _ hil, ← hyr.out]
      have d1 := hcell i hil
      obtain ⟨x, hx⟩ : ∃ x, x = l[i] := ⟨_, rfl⟩
      rw [← hx] at d1 hn
      clear hx hcell hyr
      have C1 := Lib.hid (step_any y x hy w)
      have HT := Lib.hid (stepB_lt y x hy)
      go_wp2_with fail
      refine C1.out.mono ?_
      rintro e w' ⟨rfl, rfl⟩
      go_wp2_with fail
      go_round
      case rel => exact ⟨i + 1, stepB y x, by omega, rfl, by go_num, HT.out, hn⟩
      case measure => simp [RowKit.intOf]; omega
    · obtain rfl : i = l.length := by omega
      have hz : y = regL r l := by rw [hyr.out, List.take_length]
      clear hyr
      go_wp2_with fail
      go_ret
      exact ⟨ret_u32 (by rw [← hz]; omega), rfl⟩

theorem sum_any (ao : Option Addr) (l : List UInt8) (c : Nat) (w : World) (h : Byt w ao l) (hc : l.length ≤ c) (hl : c ≤ 9223372036854775807) :
    Calls Tryz.prog 77 #[.slice ao l.length c] w fun e w' => e = .returned (.int .u32 (sumL l)) ∧ w = w' := by
  have C1 := Lib.hid (more_any 0 (by decide) ao l c w h hc hl)
  clear h
  go_enter Tryz.func77, Tryz.ntmps77
  go_wp2_with fail
  refine C1.out.mono ?_
  rintro e w' ⟨rfl, rfl⟩
  go_wp2_with fail
  go_ret
  exact ⟨rfl, rfl⟩
theorem refsum_any (ao : Option Addr) (l : List UInt8) (c : Nat) (w : World) (h : Byt w ao l) (hc : l.length ≤ c) (hl : c ≤ 9223372036854775807) :
    Calls Tryz.prog 71 #[.slice ao l.length c] w fun e w' => e = .returned (.int .u32 (sumL l)) ∧ w = w' := by
  have C1 := Lib.hid (refmore_any 0 (by decide) ao l c w h hc hl)
  clear h
  go_enter Tryz.func71, Tryz.ntmps71
  go_wp2_with fail
  refine C1.out.mono ?_
  rintro e w' ⟨rfl, rfl⟩
  go_wp2_with fail
  go_ret
  exact ⟨rfl, rfl⟩
end Go.Proofs.YtekaboomhljdoaaGreatDoor.Cr
