/-
  The contracts of rabin's gone and Roll, and of the document's own away, Roll and Window: for every number of 64 bits, every byte, all bytes. No other condition.
-/
import Derived.Test.YtdlejcokigmcdaaWa
namespace Go.Proofs.Ytdlejcokigmcdaa.Rb
open Go.RowKit Go.Lib

theorem gone_lt (c : Nat) (h : c < 256) : gone c < 2147483648 := by
  have : ∀ b : Fin 256, gone b.val < 2147483648 := by decide +kernel
  exact this ⟨c, h⟩
theorem gone_int (c : Nat) (h : c < 256) : bits BinOp.xor IntKind.u64 ((c : Int) * 65536) ((c : Int) * 16) = ((gone c : Nat) : Int) := by
  have h := u64_xor_nat (c * 65536) (c * 16) (by omega) (by omega)
  rw [gone, Nat.shiftLeft_eq, Nat.shiftLeft_eq]
  exact h
theorem gone_any (b : UInt8) (w : World) :
    Calls Try.prog 27 #[.int .u8 b.toNat] w fun e w' => e = .returned (.int .u64 (gone b.toNat : Nat)) ∧ w = w' := by
  obtain ⟨c, hc⟩ : ∃ c : Nat, c = b.toNat := ⟨_, rfl⟩
  have hc8 : c < 256 := by rw [hc]; exact b.toNat_lt
  rw [← hc]
  clear hc
  have K := gone_int c hc8
  go_enter Try.func27, Try.ntmps27
  go_wp2_with fail
  go_ret
  exact ⟨rfl, rfl⟩
theorem xor_lt31 {a b : Nat} (ha : a < 2147483648) (hb : b < 2147483648) : a ^^^ b < 2147483648 := Nat.xor_lt_two_pow (n := 31) ha hb
/-- a byte gone out, a byte come in -/
def roll (f o c : Nat) : Nat := push f c ^^^ gone o
theorem roll_any (f : Nat) (o b : UInt8) (h : f < 18446744073709551616) (w : World) :
    Calls Try.prog 22 #[.int .u64 f, .int .u8 o.toNat, .int .u8 b.toNat] w fun e w' => e = .returned (.int .u64 (roll f o.toNat b.toNat : Nat)) ∧ ∃ n, w' = w.drewN n := by
  have C1 := Lib.hid (push_any f b h)
  have C2 := Lib.hid (gone_any o)
  have k1 := u64_xor_nat (push f b.toNat) (gone o.toNat) (by have := push_lt f b.toNat h b.toNat_lt; omega) (by have := gone_lt o.toNat o.toNat_lt; omega)
  unfold roll
  generalize push f b.toNat = p at *
  generalize gone o.toNat = g at *
  go_enter Try.func22, Try.ntmps22
  go_wp2_with fail
  refine (C1.out _).mono ?_
  rintro e w1 ⟨rfl, n1, rfl⟩
  go_wp2_with fail
  refine (C2.out _).mono ?_
  rintro e w2 ⟨rfl, rfl⟩
  go_wp2_with fail
  go_ret
  exact ⟨rfl, _, rfl⟩
theorem win_take (f : Nat) (l : List UInt8) (i : Nat) (h : i < l.length) : win f (l.take (i + 1)) = push (win f (l.take i)) l[i].toNat := by
  rw [List.take_succ_eq_append_getElem h, win_one]
set_option maxHeartbeats 1000000 in
set_option maxRecDepth 100000 in
theorem refwindow_any (ao : Option Addr) (l : List UInt8) (c : Nat) (w : World) (h : Byt w ao l) (hc : l.length ≤ c) (hl : c ≤ 9223372036854775807) :
    Calls Try.prog 23 #[.slice ao l.length c] w fun e w' => e = .returned (.int .u64 (window l : Nat)) ∧ w = w' := by
  have HC := Lib.hid h
  have C13 := Lib.hid refpush_any
  clear h
  go_enter Try.func23, Try.ntmps23
  go_wp2_with fail
  go_loop [3, 4] (fun vx vi => ∃ (i y : Nat), i ≤ l.length ∧ vx = .int .u64 y ∧ vi = .int .i64 i ∧ y < 2147483648 ∧ Hid (y = win 0 (l.take i))) (fun _ vi => l.length - (RowKit.intOf vi).toNat)
  case atStart => exact ⟨0, 0, by omega, rfl, rfl, by decide, rfl⟩
  case round =>
    obtain ⟨i, y, hi, rfl, rfl, hy, hyr⟩ := hrel
    by_cases hil : i < l.length
    · obtain ⟨b, o, rfl, hb, hcell⟩ := HC.out (by intro h0; rw [h0] at hil; simp at hil)
      have hn : Hid (push y (l[i]).toNat = win 0 (l.take (i + 1))) := by show _ = _; rw [win_take _ _ _ hil, ← hyr.out]
      have d1 := hcell i hil
      have HL := Lib.hid (push_lt y (l[i]).toNat (by omega) (l[i]).toNat_lt)
      have C1 := Lib.hid (C13.out y l[i] (by omega) w)
      generalize l[i] = x at *
      generalize push y x.toNat = z at *
      clear hcell hyr
      go_wp2_with fail
      refine C1.out.mono ?_
      rintro e w' ⟨rfl, rfl⟩
      go_wp2_with fail
      go_round
      case rel => exact ⟨i + 1, z, by omega, rfl, by go_num, HL.out, hn⟩
      case measure => simp [RowKit.intOf]; omega
    · obtain rfl : i = l.length := by omega
      have e : Hid (y = window l) := by show _ = _; rw [hyr.out, List.take_length]; rfl
      clear hyr
      go_wp2_with fail
      go_ret
      exact ⟨ret_u64 (by rw [e.out]), rfl⟩
end Go.Proofs.Ytdlejcokigmcdaa.Rb
