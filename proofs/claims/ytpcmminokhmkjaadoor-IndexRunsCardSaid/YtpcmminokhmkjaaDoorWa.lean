/-
  The contracts of bits.RotateLeft32, of sha's turns and shifts and the functions that they make, and of the document's own right. Conditions: a turn is by 1 to 31.
-/
import Derived.Test.YtpcmminokhmkjaaDoorPa
import Derived.Test.YtpcmminokhmkjaaDoorKd
namespace Go.Proofs.YtpcmminokhmkjaaDoor.Sh
open Go.RowKit Go.Lib

theorem and31 (a : Nat) (h1 : 1 ≤ a) (h2 : a ≤ 31) : bits BinOp.and IntKind.u64 (IntKind.u64.wrap (-(a : Int))) 31 = ((32 - a : Nat) : Int) := by
  have e : IntKind.u64.wrap (-(a : Int)) = ((18446744073709551616 - a : Nat) : Int) := by
    simp [IntKind.wrap, IntKind.bits, IntKind.signed]
    omega
  rw [e]
  have h := u64_and_nat (18446744073709551616 - a) 31 (by omega) (by decide)
  rw [show (31 : Nat) = 2 ^ 5 - 1 by rfl, Nat.and_two_pow_sub_one_eq_mod] at h
  rw [show ((31 : Int)) = ((2 ^ 5 - 1 : Nat) : Int) by rfl, h]
  omega
/-- what a turn is, in numbers -/
theorem rt_nat (a : Nat) (x : UInt32) (h2 : a ≤ 31) : (rt a x).toNat = x.toNat / 2 ^ a + x.toNat % 2 ^ a * 2 ^ (32 - a) ∧ x.toNat / 2 ^ a < 2 ^ (32 - a) := by
  have hx := x.toNat_lt
  have hp : 0 < 2 ^ a := Nat.two_pow_pos a
  have hd : x.toNat / 2 ^ a < 2 ^ (32 - a) := by
    rw [Nat.div_lt_iff_lt_mul hp, ← Nat.pow_add, show 32 - a + a = 32 by omega]
    exact hx
  refine ⟨?_, hd⟩
  unfold rt
  rw [UInt32.toNat_ofNat']
  apply Nat.mod_eq_of_lt
  have h4 : x.toNat % 2 ^ a + 1 ≤ 2 ^ a := Nat.mod_lt _ hp
  have h5 : (x.toNat % 2 ^ a + 1) * 2 ^ (32 - a) ≤ 2 ^ a * 2 ^ (32 - a) := Nat.mul_le_mul_right _ h4
  rw [← Nat.pow_add, show a + (32 - a) = 32 by omega, Nat.add_mul, Nat.one_mul] at h5
  omega
theorem shl_nat (a x : Nat) (h2 : a ≤ 31) : x * 2 ^ (32 - a) % 4294967296 = x % 2 ^ a * 2 ^ (32 - a) := by
  have e : (4294967296 : Nat) = 2 ^ a * 2 ^ (32 - a) := by rw [← Nat.pow_add, show a + (32 - a) = 32 by omega]
  rw [e, Nat.mul_mod_mul_right]
theorem shl_int (a x : Nat) (h2 : a ≤ 31) : (x : Int) * 2 ^ (32 - a) % 4294967296 = ((x % 2 ^ a * 2 ^ (32 - a) : Nat) : Int) := by
  rw [← shl_nat a x h2]
  simp
theorem shr_int (a x : Nat) : (x : Int) / 2 ^ a = ((x / 2 ^ a : Nat) : Int) := by simp
theorem rt_sum (a : Nat) (x : UInt32) (h2 : a ≤ 31) : ((x.toNat : Int) / 2 ^ a + (x.toNat : Int) * 2 ^ (32 - a) % 4294967296) % 4294967296 = ((rt a x).toNat : Int) := by
  have h := (rt_nat a x h2).1
  have hl := (rt a x).toNat_lt
  rw [shl_int a _ h2, shr_int]
  omega
theorem rt_or (a : Nat) (x : UInt32) (h2 : a ≤ 31) : bits BinOp.or IntKind.u32 ((x.toNat : Int) * 2 ^ (32 - a) % 4294967296) ((x.toNat : Int) / 2 ^ a) = ((rt a x).toNat : Int) := by
  obtain ⟨h, hd⟩ := rt_nat a x h2
  have hl := (rt a x).toNat_lt
  rw [shl_int a _ h2, shr_int]
  have b1 : x.toNat % 2 ^ a * 2 ^ (32 - a) < 4294967296 := Nat.lt_of_le_of_lt (by rw [h]; exact Nat.le_add_left _ _) hl
  have b2 : x.toNat / 2 ^ a < 4294967296 := Nat.lt_of_le_of_lt (by rw [h]; exact Nat.le_add_right _ _) hl
  rw [u32_or_nat _ _ b1 b2]
  congr 1
  rw [h, Nat.mul_comm, ← Nat.two_pow_add_eq_or_of_lt hd, Nat.add_comm]
theorem sr_nat (a : Nat) (x : UInt32) : (sr a x).toNat = x.toNat / 2 ^ a := by
  have hx := x.toNat_lt
  have := Nat.div_le_self x.toNat (2 ^ a)
  unfold sr
  rw [UInt32.toNat_ofNat']
  exact Nat.mod_eq_of_lt (by omega)
theorem xor_u32 (x y : UInt32) : bits BinOp.xor IntKind.u32 (x.toNat : Int) (y.toNat : Int) = ((x ^^^ y).toNat : Int) := by
  rw [u32_xor_nat _ _ x.toNat_lt y.toNat_lt, UInt32.toNat_xor]
theorem and_u32 (x y : UInt32) : bits BinOp.and IntKind.u32 (x.toNat : Int) (y.toNat : Int) = ((x &&& y).toNat : Int) := by
  rw [u32_and_nat _ _ x.toNat_lt y.toNat_lt, UInt32.toNat_and]
theorem or_u32 (x y : UInt32) : bits BinOp.or IntKind.u32 (x.toNat : Int) (y.toNat : Int) = ((x ||| y).toNat : Int) := by
  rw [u32_or_nat _ _ x.toNat_lt y.toNat_lt, UInt32.toNat_or]
theorem add_u32 (x y : UInt32) : ((x.toNat : Int) + (y.toNat : Int)) % 4294967296 = ((x + y).toNat : Int) := by
  rw [UInt32.toNat_add]
  omega
theorem wrap_u32 (n : Int) : IntKind.u32.wrap n = n % 4294967296 := by simp [IntKind.wrap, IntKind.bits, IntKind.signed]
theorem addw_u32 (x y : UInt32) : IntKind.u32.wrap ((x.toNat : Int) + (y.toNat : Int)) = ((x + y).toNat : Int) := by
  rw [wrap_u32, add_u32]
theorem not_nat (x : UInt32) : (~~~x).toNat = 4294967295 - x.toNat := by
  rw [UInt32.toNat_not]
  rfl
theorem not_u32 (x : UInt32) : (4294967295 : Int) - (x.toNat : Int) = ((~~~x).toNat : Int) := by
  have hx := x.toNat_lt
  rw [not_nat]
  omega
theorem not_xor (a : Nat) (h : a < 4294967296) : 4294967295 - a = 4294967295 ^^^ a := by
  have h1 : (4294967295 : Nat) = 2 ^ 32 - 1 := by decide
  rw [h1]
  apply Nat.eq_of_testBit_eq
  intro i
  rw [Nat.testBit_xor, Nat.testBit_two_pow_sub_one, show 2 ^ 32 - 1 - a = 2 ^ 32 - (a + 1) by omega, Nat.testBit_two_pow_sub_succ (by omega)]
  by_cases hi : i < 32
  · simp [hi]
  · have : a.testBit i = false := Nat.testBit_lt_two_pow (Nat.lt_of_lt_of_le h (by
      have : 2 ^ 32 ≤ 2 ^ i := Nat.pow_le_pow_right (by omega) (by omega)
      omega))
    simp [hi, this]
theorem notx_u32 (x : UInt32) : bits BinOp.xor IntKind.u32 IntKind.u32.max (x.toNat : Int) = ((~~~x).toNat : Int) := by
  have hx := x.toNat_lt
  have e : IntKind.u32.max = ((4294967295 : Nat) : Int) := by decide
  rw [e, u32_xor_nat _ _ (by decide) hx, ← not_xor _ hx, not_nat]

theorem ret_nat {a b : Int} (h : a = b) : Ending.returned (.int .u32 a) = .returned (.int .u32 b) := by rw [h]

set_option maxHeartbeats 1000000 in
theorem right_any (a : Nat) (x : UInt32) (h1 : 1 ≤ a) (h2 : a ≤ 31) (w : World) :
    Calls Tryd.prog 63 #[.int .u32 (x.toNat : Int), .int .u32 (a : Int)] w fun e w' => e = .returned (.int .u32 ((rt a x).toNat : Int)) ∧ w = w' := by
  have hx := x.toNat_lt
  have k2 := Lib.hid (rt_sum a x h2)
  go_enter Tryd.func63, Tryd.ntmps63
  go_wp2_with fail
  go_ret
  exact ⟨ret_nat k2.out, rfl⟩
end Go.Proofs.YtpcmminokhmkjaaDoor.Sh
