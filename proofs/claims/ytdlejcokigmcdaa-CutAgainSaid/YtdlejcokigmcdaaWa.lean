/-
  The contracts of rabin's Mod, Push, Roll and gone, and of the document's own Mod, Push, away and Roll: for every number of 64 bits and every byte. No other condition.
-/
import Derived.Test.YtdlejcokigmcdaaPa
import Derived.Test.YtdlejcokigmcdaaKa
import Derived.Test.YtdlejcokigmcdaaKc
import Derived.Test.YtdlejcokigmcdaaShelf
import Derived.Outline
import Derived.Laws.BitsAllLaws
import Derived.Deep.QuietTactic
import Derived.BigQuiet
namespace Go.Proofs.Ytdlejcokigmcdaa.Rb
open Go.RowKit Go.Lib

theorem ret_u64 {a b : Int} (h : a = b) : Ending.returned (.int .u64 a) = .returned (.int .u64 b) := by rw [h]
theorem val_u64 {a b : Int} (h : a = b) : Value.int .u64 a = .int .u64 b := by rw [h]
theorem u64_wrap (x : Int) : IntKind.u64.wrap x = x % 18446744073709551616 := by simp [IntKind.wrap, IntKind.bits, IntKind.signed]
theorem bla_lt (f x : Nat) (h : x < 2 ^ f) : x < 2 ^ Lib.bitLenAux f x := by
  induction f generalizing x with
  | zero => exact h
  | succ f ih =>
    rw [Lib.bitLenAux]
    split
    · rename_i h0
      rw [h0]
      decide
    · have := ih (x / 2) (by rw [Nat.pow_succ] at h; omega)
      rw [Nat.add_comm 1, Nat.pow_succ]
      omega
theorem bla_le (f x j : Nat) (h : x < 2 ^ j) : Lib.bitLenAux f x ≤ j := by
  induction f generalizing x j with
  | zero => exact Nat.zero_le _
  | succ f ih =>
    rw [Lib.bitLenAux]
    split
    · exact Nat.zero_le _
    · rename_i h0
      cases j with
      | zero => exact absurd (by simpa using h) h0
      | succ j =>
        have := ih (x / 2) j (by rw [Nat.pow_succ] at h; omega)
        omega
theorem bit_tb (y k : Nat) : y.testBit k = decide (y / 2 ^ k % 2 = 1) := Nat.testBit_eq_decide_div_mod_eq
theorem D_lt (k : Nat) (h : k ≤ 32) : D <<< k < 18446744073709551616 := by
  rw [Nat.shiftLeft_eq]
  have : 2 ^ k ≤ 2 ^ 32 := Nat.pow_le_pow_right (by decide) h
  have h2 : D * 2 ^ k ≤ D * 2 ^ 32 := Nat.mul_le_mul_left _ this
  exact Nat.lt_of_le_of_lt h2 (by decide)
theorem and_ones (a : Nat) (h : a < 18446744073709551616) : a &&& 18446744073709551615 = a := by
  rw [show (18446744073709551615 : Nat) = 2 ^ 64 - 1 from rfl, Nat.and_two_pow_sub_one_eq_mod, Nat.mod_eq_of_lt h]
theorem shl_int (k : Nat) (h : k ≤ 32) : IntKind.u64.wrap (2147483657 * 2 ^ k) = ((D <<< k : Nat) : Int) := by
  have h1 := D_lt k h
  have e : (2147483657 * 2 ^ k : Int) = ((D <<< k : Nat) : Int) := by
    rw [Nat.shiftLeft_eq, Int.natCast_mul, Int.natCast_pow]
    rfl
  rw [e, u64_wrap]
  generalize D <<< k = z at h1
  omega
theorem div_int (y k : Nat) : ((y : Int) / 2 ^ k) = ((y / 2 ^ k : Nat) : Int) := by
  rw [Int.natCast_ediv, Int.natCast_pow]
  rfl
theorem tmod_int (y k : Nat) : ((y : Int) / 2 ^ k).tmod 2 = ((y / 2 ^ k % 2 : Nat) : Int) := by
  rw [div_int]
  exact (Int.ofNat_tmod _ 2).symm
/-- one bit taken away, as the program does it -/
theorem step_int (y k : Nat) (hy : y < 18446744073709551616) (hk : k ≤ 32) :
    bits BinOp.xor IntKind.u64 (y : Int) (bits BinOp.and IntKind.u64 (IntKind.u64.wrap (2147483657 * 2 ^ k)) (IntKind.u64.wrap (-bits BinOp.and IntKind.u64 ((y : Int) / 2 ^ (31 + k)) 1))) = ((red k y : Nat) : Int) := by
  have hz : y / 2 ^ (31 + k) < 18446744073709551616 := Nat.lt_of_le_of_lt (Nat.div_le_self _ _) hy
  have e1 : bits BinOp.and IntKind.u64 ((y : Int) / 2 ^ (31 + k)) 1 = ((y / 2 ^ (31 + k) % 2 : Nat) : Int) := by
    rw [div_int]
    have := u64_and_nat (y / 2 ^ (31 + k)) 1 hz (by decide)
    rw [nat_mask1] at this
    exact this
  rw [e1, shl_int k hk, red, bit_tb]
  have hD := D_lt k hk
  rcases Nat.mod_two_eq_zero_or_one (y / 2 ^ (31 + k)) with h0 | h0
  · rw [h0]
    have e2 : IntKind.u64.wrap (-((0 : Nat) : Int)) = ((0 : Nat) : Int) := by rw [u64_wrap]; rfl
    rw [e2, u64_and_nat _ 0 hD (by decide), Nat.and_zero, u64_xor_nat y 0 hy (by decide), Nat.xor_zero]
    rfl
  · rw [h0]
    have e2 : IntKind.u64.wrap (-((1 : Nat) : Int)) = ((18446744073709551615 : Nat) : Int) := by rw [u64_wrap]; rfl
    rw [e2, u64_and_nat _ _ hD (by decide), and_ones _ hD, u64_xor_nat y _ hy hD]
    rfl
theorem red_lt64 (k y : Nat) (hk : k ≤ 32) (hy : y < 18446744073709551616) : red k y < 18446744073709551616 := by
  unfold red
  split
  · exact Nat.xor_lt_two_pow (n := 64) hy (D_lt k hk)
  · exact hy
theorem len_any (y : Nat) (h : y < 18446744073709551616) (w : World) :
    Calls Try.prog 32 #[.int .u64 y] w fun e w' => e = .returned (.int .i64 (Lib.bitLen y : Nat)) ∧ w = w' :=
  (Try.bits_Len64 (y : Int) w (by omega) (by omega)).mono fun e w' ⟨he, hw⟩ => ⟨by rw [he, Int.toNat_natCast], hw.symm⟩

set_option maxHeartbeats 1000000 in
theorem mod_any (x : Nat) (h : x < 18446744073709551616) (w : World) :
    Calls Try.prog 30 #[.int .u64 x] w fun e w' => e = .returned (.int .u64 (modN x : Nat)) ∧ ∃ n, w' = w.drewN n := by
  have CL := Lib.hid (len_any (x / 2147483648) (by omega))
  have hL33 : Lib.bitLen (x / 2147483648) ≤ 33 := bla_le 64 _ 33 (by show _ < 8589934592; omega)
  have hLx : Hid (md (Lib.bitLen (x / 2147483648)) x = modN x) := by
    show _ = _
    have h1 : x / 2147483648 < 2 ^ Lib.bitLen (x / 2147483648) := bla_lt 64 _ (by show _ < 18446744073709551616; omega)
    refine (modN_few _ x hL33 ?_).symm
    rw [Nat.pow_add]
    rw [Nat.mul_comm]
    exact (Nat.div_lt_iff_lt_mul (by decide)).1 h1
  obtain ⟨L, hL⟩ : ∃ L, L = Lib.bitLen (x / 2147483648) := ⟨_, rfl⟩
  rw [← hL] at CL hL33 hLx
  clear hL
  go_enter Try.func30, Try.ntmps30
  go_wp2_with fail
  refine (CL.out _).mono ?_
  rintro e w' ⟨rfl, rfl⟩
  go_wp2_with fail
  go_loopw [0, 10] (fun vx vi wq => ∃ (i y n : Nat), i ≤ L ∧ vx = .int .u64 y ∧ vi = .int .i64 i ∧ y < 18446744073709551616 ∧ Hid (md (L - i) y = modN x) ∧ wq = w.drewN n) (fun _ vi _ => L - (RowKit.intOf vi).toNat)
  case atStart => exact ⟨0, x, 0, by omega, rfl, rfl, h, hLx, rfl⟩
  case round =>
    obtain ⟨i, y, nd, hi, rfl, rfl, hy, hyr, rfl⟩ := hrel
    by_cases hiL : i < L
    · have K1 := Lib.hid (step_int y (L - 1 - i) hy (by omega))
      have K2 := Lib.hid (red_lt64 (L - 1 - i) y (by omega) hy)
      have K3 : Hid (md (L - (i + 1)) (red (L - 1 - i) y) = modN x) := by
        show _ = _
        rw [← hyr.out, show L - i = (L - (i + 1)) + 1 by omega, md, show L - (i + 1) = L - 1 - i by omega]
      clear hyr
      go_wp2_with fail
      go_quiet (fail)
      go_wp2_with fail
      go_roundw
      case rel => exact ⟨i + 1, red (L - 1 - i) y, nd + nq, by omega, val_u64 K1.out, by go_num, K2.out, K3.out, rfl⟩
      case measure => simp [RowKit.intOf]; omega
    · obtain rfl : i = L := by omega
      have e : y = modN x := by
        have := hyr.out
        rwa [Nat.sub_self, md] at this
      clear hyr
      go_wp2_with fail
      go_ret
      exact ⟨ret_u64 (by rw [e]), _, rfl⟩

/-- one bit taken away, as the document's page does it -/
theorem red_if (y k : Nat) (hy : y < 18446744073709551616) (hk : k ≤ 32) (hb : y / 2 ^ (31 + k) % 2 = 1) :
    bits BinOp.xor IntKind.u64 (y : Int) (IntKind.u64.wrap (2147483657 * 2 ^ k)) = ((red k y : Nat) : Int) := by
  rw [shl_int k hk, red, bit_tb, hb]
  exact u64_xor_nat y _ hy (D_lt k hk)
theorem red_else (y k : Nat) (hb : ¬ y / 2 ^ (31 + k) % 2 = 1) : red k y = y := by
  rw [red, bit_tb]
  simp [hb]

set_option maxHeartbeats 1000000 in
theorem refmod_any (x : Nat) (h : x < 18446744073709551616) (w : World) :
    Calls Try.prog 31 #[.int .u64 x] w fun e w' => e = .returned (.int .u64 (modN x : Nat)) ∧ w = w' := by
  go_enter Try.func31, Try.ntmps31
  go_wp2_with fail
  go_loop [3, 4] (fun vy vi => ∃ (k y : Nat), k ≤ 33 ∧ vy = .int .u64 y ∧ vi = .int .i64 (30 + k : Int) ∧ y < 18446744073709551616 ∧ Hid (md k y = modN x)) (fun _ vi => (RowKit.intOf vi).toNat - 30)
  case atStart => exact ⟨33, x, by omega, rfl, rfl, h, rfl⟩
  case round =>
    obtain ⟨k, y, hk, rfl, rfl, hy, hyr⟩ := hrel
    cases k with
    | zero =>
      have e : Hid (y = modN x) := hyr.out
      clear hyr
      go_wp2_with fail
      go_ret
      exact ⟨ret_u64 (by rw [e.out]), rfl⟩
    | succ k =>
      have hn : Hid (md k (red k y) = modN x) := hyr.out
      clear hyr
      have e1 : ((30 : Int) + ((k + 1 : Nat) : Int)) = ((31 + k : Nat) : Int) := by omega
      rw [e1]
      by_cases hb : y / 2 ^ (31 + k) % 2 = 1
      · have K1 := Lib.hid (red_if y k hy (by omega) hb)
        have K2 := Lib.hid (red_lt64 k y (by omega) hy)
        have hb2 : ((y : Int) / 2 ^ (31 + k)).tmod 2 = 1 := by rw [tmod_int, hb]; rfl
        clear hb
        go_wp2_with fail
        go_round
        case rel => exact ⟨k, red k y, by omega, val_u64 K1.out, by go_num, K2.out, hn⟩
        case measure => simp [RowKit.intOf]; omega
      · have K1 : Hid (red k y = y) := red_else y k hb
        have hb2 : ((y : Int) / 2 ^ (31 + k)).tmod 2 = 0 := by rw [tmod_int, show y / 2 ^ (31 + k) % 2 = 0 by omega]; rfl
        clear hb
        go_wp2_with fail
        go_round
        case rel => exact ⟨k, y, by omega, rfl, by go_num, hy, by rw [K1.out] at hn; exact hn⟩
        case measure => simp [RowKit.intOf]; omega

theorem or_int (m b : Nat) (hm : m < 2147483648) (hb : b < 256) : bits BinOp.or IntKind.u64 ((m : Int) * 256) (b : Int) = ((m * 256 + b : Nat) : Int) := by
  have h := u64_or_nat (m * 256) b (by omega) (by omega)
  rw [nat_join 8 (m * 256) b (by omega) hb] at h
  rw [← h]
  simp
set_option maxHeartbeats 1000000 in
theorem push_any (f : Nat) (b : UInt8) (h : f < 18446744073709551616) (w : World) :
    Calls Try.prog 26 #[.int .u64 f, .int .u8 b.toNat] w fun e w' => e = .returned (.int .u64 (push f b.toNat : Nat)) ∧ ∃ n, w' = w.drewN n := by
  have hm := modN_lt f h
  obtain ⟨c, hc⟩ : ∃ c : Nat, c = b.toNat := ⟨_, rfl⟩
  have hc8 : c < 256 := by rw [hc]; exact b.toNat_lt
  rw [← hc]
  clear hc
  have C1 := Lib.hid (mod_any f h)
  have C2 := Lib.hid (mod_any (modN f * 256 + c) (by omega))
  rw [push]
  generalize modN (modN f * 256 + c) = z at C2 ⊢
  obtain ⟨m, hmm⟩ : ∃ m, m = modN f := ⟨_, rfl⟩
  rw [← hmm] at C1 C2 hm
  clear hmm
  have k1 := or_int m c hm hc8
  go_enter Try.func26, Try.ntmps26
  go_wp2_with fail
  refine (C1.out _).mono ?_
  rintro e w1 ⟨rfl, n1, rfl⟩
  go_wp2_with fail
  refine (C2.out _).mono ?_
  rintro e w2 ⟨rfl, n2, rfl⟩
  go_wp2_with fail
  go_ret
  exact ⟨rfl, _, rfl⟩
set_option maxHeartbeats 1000000 in
theorem refpush_any (f : Nat) (b : UInt8) (h : f < 18446744073709551616) (w : World) :
    Calls Try.prog 28 #[.int .u64 f, .int .u8 b.toNat] w fun e w' => e = .returned (.int .u64 (push f b.toNat : Nat)) ∧ w = w' := by
  have hm := modN_lt f h
  obtain ⟨c, hc⟩ : ∃ c : Nat, c = b.toNat := ⟨_, rfl⟩
  have hc8 : c < 256 := by rw [hc]; exact b.toNat_lt
  rw [← hc]
  clear hc
  have C1 := Lib.hid (refmod_any f h)
  have C2 := Lib.hid (refmod_any (modN f * 256 + c) (by omega))
  rw [push]
  generalize modN (modN f * 256 + c) = z at C2 ⊢
  obtain ⟨m, hmm⟩ : ∃ m, m = modN f := ⟨_, rfl⟩
  rw [← hmm] at C1 C2 hm
  clear hmm
  go_enter Try.func28, Try.ntmps28
  go_wp2_with fail
  refine (C1.out _).mono ?_
  rintro e w1 ⟨rfl, rfl⟩
  go_wp2_with fail
  refine (C2.out _).mono ?_
  rintro e w2 ⟨rfl, rfl⟩
  go_wp2_with fail
  go_ret
  exact ⟨rfl, rfl⟩
end Go.Proofs.Ytdlejcokigmcdaa.Rb
