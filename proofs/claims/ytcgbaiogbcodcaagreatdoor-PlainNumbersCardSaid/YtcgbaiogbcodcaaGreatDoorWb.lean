/-
  The contracts of leb's first, value and number: for every slice of bytes. No other condition.
-/
import Derived.Test.YtcgbaiogbcodcaaGreatDoorWa
import Derived.Deep.QuietTactic
import Derived.BigQuiet
namespace Go.Proofs.YtcgbaiogbcodcaaGreatDoor.Sh
open Go.RowKit Go.Lib Lb

theorem getD_at (l : List UInt8) (j : Nat) (h : j < l.length) : l.getD j 0 = l[j] := by simp [List.getD_eq_getElem?_getD, h]
/-- an error of the package -/
def Flt (n : Int) : Value := .iface 8153 (.agg #[.int .i64 n])

theorem andnot_fin : ∀ v : Fin 256, bits BinOp.andNot IntKind.u8 ((v.val : Nat) : Int) 128 = ((v.val % 128 : Nat) : Int) := by decide +kernel
theorem andnot128 (x : UInt8) : bits BinOp.andNot IntKind.u8 (x.toNat : Int) 128 = ((x.toNat % 128 : Nat) : Int) := andnot_fin ⟨x.toNat, x.toNat_lt⟩
theorem or_add (v c m : Nat) (hv : v < 2 ^ m) : v ||| c * 2 ^ m = v + c * 2 ^ m := by
  rw [Nat.mul_comm, Nat.or_comm, ← Nat.two_pow_add_eq_or_of_lt hv]
  omega
theorem or_step (v x k : Nat) (hv : v < 128 ^ k) (hk : k ≤ 9) (h9 : k = 9 → x ≤ 1) :
    bits BinOp.or IntKind.u64 (v : Int) (IntKind.u64.wrap ((x : Int) % 128 * 2 ^ (7 * k))) = ((v + x % 128 * 128 ^ k : Nat) : Int) := by
  have hp : (128 : Nat) ^ k = 2 ^ (7 * k) := pow128 k
  have hb : x % 128 * 2 ^ (7 * k) < 18446744073709551616 := by
    by_cases e : k = 9
    · subst e
      have : x % 128 ≤ 1 := by have := h9 rfl; omega
      exact Nat.lt_of_le_of_lt (Nat.mul_le_mul_right _ this) (by decide)
    · have h1 : x % 128 * 2 ^ (7 * k) < 128 * 2 ^ (7 * k) := Nat.mul_lt_mul_of_pos_right (Nat.mod_lt _ (by decide)) (Nat.pow_pos (by decide))
      have h2 : 2 ^ (7 * k) ≤ 2 ^ 56 := Nat.pow_le_pow_right (by decide) (by omega)
      have h3 : (2 : Nat) ^ 56 = 72057594037927936 := by decide
      omega
  have hv64 : v < 18446744073709551616 := Nat.lt_of_lt_of_le hv (Nat.le_trans (Nat.pow_le_pow_right (by decide) hk) (by decide))
  have e1 : ((x : Int) % 128 * 2 ^ (7 * k)) = ((x % 128 * 2 ^ (7 * k) : Nat) : Int) := by
    rw [Int.natCast_mul, Int.natCast_pow, Int.natCast_emod]
    rfl
  rw [e1, IntKind.wrap_u64, Int.emod_eq_of_lt (by omega) (by omega), u64_or_nat _ _ hv64 hb, or_add v _ _ (by rw [← hp]; exact hv), hp]
end Go.Proofs.YtcgbaiogbcodcaaGreatDoor.Sh
