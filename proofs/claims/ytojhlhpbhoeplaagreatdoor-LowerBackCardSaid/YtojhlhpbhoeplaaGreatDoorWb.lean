/-
  The contracts of leb's first, value and number: for every slice of bytes. No other condition.
-/
import Derived.Test.YtojhlhpbhoeplaaGreatDoorWa
import Derived.Deep.QuietTactic
import Derived.BigQuiet
namespace Go.Proofs.YtojhlhpbhoeplaaGreatDoor.Sh
open Go.RowKit Go.Lib Lb

theorem getD_at (l : List UInt8) (j : Nat) (h : j < l.length) : l.getD j 0 = l[j] := by simp [List.getD_eq_getElem?_getD, h]
/-- an error of the package -/
def Flt (n : Int) : Value := .iface 153 (.agg #[.int .i64 n])

set_option maxHeartbeats 1000000 in
set_option maxRecDepth 100000 in
theorem first_some (ao : Option Addr) (l : List UInt8) (c i : Nat) (w : World) (h : Byt w ao l) (hc : l.length ≤ c) (hl : c ≤ 9223372036854775807) (hf : firstI l = some i) :
    Calls Tryz.prog 86 #[.slice ao l.length c] w fun e w' => e = .returned (.tuple #[.slice ao (i + 1) (i + 1), .nilIface]) ∧ w = w' := by
  obtain ⟨f1, f2, f3⟩ := firstI_some l i hf
  obtain ⟨b, o, rfl, hb, hcell⟩ := h (by intro h0; rw [h0] at f1; simp at f1)
  have F2 := Lib.hid f2
  have HC := Lib.hid hcell
  rw [getD_at l i f1] at f3
  have c3 := hcell i f1
  obtain ⟨y, hy⟩ : ∃ y, y = l[i] := ⟨_, rfl⟩
  rw [← hy] at f3 c3
  have HY := Lib.hid hy
  clear f2 hcell hf h hy
  go_enter Tryz.func86, Tryz.ntmps86
  go_wp2_with fail
  go_loop [8] (fun vk => ∃ k : Nat, vk = .int .i64 k ∧ k ≤ i) (fun vk => l.length - (RowKit.intOf vk).toNat)
  case atStart => exact ⟨0, rfl, Nat.zero_le _⟩
  case round =>
    obtain ⟨k, rfl, hk⟩ := hrel
    by_cases hki : k < i
    · have hge := F2.out k hki
      have d1 := HC.out k (by omega)
      rw [getD_at l k (by omega)] at hge
      obtain ⟨x, hx⟩ : ∃ x, x = l[k] := ⟨_, rfl⟩
      rw [← hx] at hge d1
      clear hx
      go_wp2_with fail
      go_round
      case rel => exact ⟨k + 1, by go_num, by omega⟩
      case measure => simp [RowKit.intOf]; omega
    · obtain rfl : k = i := by omega
      go_wp2_with fail
      go_ret2
      exact ⟨rfl, rfl⟩

set_option maxHeartbeats 1000000 in
set_option maxRecDepth 100000 in
theorem first_none (ao : Option Addr) (l : List UInt8) (c : Nat) (w : World) (h : Byt w ao l) (hc : l.length ≤ c) (hl : c ≤ 9223372036854775807) (hf : firstI l = none) :
    Calls Tryz.prog 86 #[.slice ao l.length c] w fun e w' => e = .returned (.tuple #[.slice none 0 0, Flt 20]) ∧ w = w' := by
  have f2 := firstI_none l hf
  have F2 := Lib.hid f2
  have HC := Lib.hid h
  clear f2 h hf
  go_enter Tryz.func86, Tryz.ntmps86
  go_wp2_with fail
  go_loop [8] (fun vk => ∃ k : Nat, vk = .int .i64 k ∧ k ≤ l.length) (fun vk => l.length - (RowKit.intOf vk).toNat)
  case atStart => exact ⟨0, rfl, Nat.zero_le _⟩
  case round =>
    obtain ⟨k, rfl, hk⟩ := hrel
    by_cases hki : k < l.length
    · obtain ⟨b, o, rfl, hb, hcell⟩ := HC.out (by intro h0; rw [h0] at hki; simp at hki)
      have hge := F2.out k hki
      have d1 := hcell k hki
      rw [getD_at l k (by omega)] at hge
      obtain ⟨x, hx⟩ : ∃ x, x = l[k] := ⟨_, rfl⟩
      rw [← hx] at hge d1
      clear hx hcell
      go_wp2_with fail
      go_round
      case rel => exact ⟨k + 1, by go_num, by omega⟩
      case measure => simp [RowKit.intOf]; omega
    · go_wp2_with fail
      go_ret2
      exact ⟨rfl, rfl⟩

/-- what value leaves -/
theorem value_long (b o c : Nat) (l : List UInt8) (w : World) (hl : l.length ≤ 9223372036854775807) (h : 10 < l.length) :
    Calls Tryz.prog 87 #[.slice (some ⟨b, o, none⟩) l.length c] w fun e w' => e = .returned (.tuple #[.int .u64 0, Flt 21]) ∧ w = w' := by
  go_enter Tryz.func87, Tryz.ntmps87
  go_wp2_with fail
  go_ret2
  exact ⟨rfl, rfl⟩
set_option maxHeartbeats 1000000 in
set_option maxRecDepth 100000 in
theorem value_top (b o c : Nat) (n : Nat) (z : UInt8) (w : World) (h : n = 10) (hz : w.cell? ⟨b, o + (n - 1), none⟩ = some (.int .u8 z.toNat)) (h1 : 1 < z.toNat) :
    Calls Tryz.prog 87 #[.slice (some ⟨b, o, none⟩) n c] w fun e w' => e = .returned (.tuple #[.int .u64 0, Flt 21]) ∧ w = w' := by
  subst h
  go_enter Tryz.func87, Tryz.ntmps87
  go_wp2_with fail
  go_ret2
  exact ⟨rfl, rfl⟩

set_option maxHeartbeats 1000000 in
set_option maxRecDepth 100000 in
theorem value_nought (b o c : Nat) (n : Nat) (w : World) (h : n ≤ 10) (h2 : 1 < n) (hz : w.cell? ⟨b, o + (n - 1), none⟩ = some (.int .u8 0)) :
    Calls Tryz.prog 87 #[.slice (some ⟨b, o, none⟩) n c] w fun e w' => e = .returned (.tuple #[.int .u64 0, Flt 21]) ∧ w = w' := by
  by_cases h10 : n = 10
  · subst h10
    go_enter Tryz.func87, Tryz.ntmps87
    go_wp2_with fail
    go_ret2
    exact ⟨rfl, rfl⟩
  · have hb : ((n : Int) == 10) = false := by simp; omega
    go_enter Tryz.func87, Tryz.ntmps87
    go_wp2_with fail
    go_ret2
    exact ⟨rfl, rfl⟩

theorem andnot_fin : ∀ v : Fin 256, bits BinOp.andNot IntKind.u8 ((v.val : Nat) : Int) 128 = ((v.val % 128 : Nat) : Int) := by decide +kernel
theorem andnot128 (x : UInt8) : bits BinOp.andNot IntKind.u8 (x.toNat : Int) 128 = ((x.toNat % 128 : Nat) : Int) := andnot_fin ⟨x.toNat, x.toNat_lt⟩
theorem or_add (v c m : Nat) (hv : v < 2 ^ m) : v ||| c * 2 ^ m = v + c * 2 ^ m := by
  rw [Nat.mul_comm, Nat.or_comm, ← Nat.two_pow_add_eq_or_of_lt hv]
  omega
theorem or_step (v x k : Nat) (hv : v < 128 ^ k) (hk : k ≤ 9) (h9 : k = 9 → x ≤ 1) :
    bits BinOp.or IntKind.u64 (v : Int) (IntKind.u64.wrap ((x : Int) % 128 * 2 ^ (7 * k))) = ((v + x % 128 * 128 ^ k : Nat) : Int) := by
  have hp : (128 : Nat) ^ k = 2 ^ (7 * k) := pow128 k
  have hb : x % 128 * 2 ^ (7 * k) < 18446744073709551616 := by
    by_cases e : k = 9
    · subst e
      have : x % 128 ≤ 1 := by have := h9 rfl; omega
      exact Nat.lt_of_le_of_lt (Nat.mul_le_mul_right _ this) (by decide)
    · have h1 : x % 128 * 2 ^ (7 * k) < 128 * 2 ^ (7 * k) := Nat.mul_lt_mul_of_pos_right (Nat.mod_lt _ (by decide)) (Nat.pow_pos (by decide))
      have h2 : 2 ^ (7 * k) ≤ 2 ^ 56 := Nat.pow_le_pow_right (by decide) (by omega)
      have h3 : (2 : Nat) ^ 56 = 72057594037927936 := by decide
      omega
  have hv64 : v < 18446744073709551616 := Nat.lt_of_lt_of_le hv (Nat.le_trans (Nat.pow_le_pow_right (by decide) hk) (by decide))
  have e1 : ((x : Int) % 128 * 2 ^ (7 * k)) = ((x % 128 * 2 ^ (7 * k) : Nat) : Int) := by
    rw [Int.natCast_mul, Int.natCast_pow, Int.natCast_emod]
    rfl
  rw [e1, IntKind.wrap_u64, Int.emod_eq_of_lt (by omega) (by omega), u64_or_nat _ _ hv64 hb, or_add v _ _ (by rw [← hp]; exact hv), hp]
set_option maxHeartbeats 1000000 in
set_option maxRecDepth 100000 in
theorem value_ok (b o c : Nat) (l : List UInt8) (w : World) (h : l.length ≤ 10) (h1 : 1 ≤ l.length) (z : UInt8) (hz : w.cell? ⟨b, o + (l.length - 1), none⟩ = some (.int .u8 z.toNat))
    (hc : ∀ j (h : j < l.length), w.cell? ⟨b, o + j, none⟩ = some (.int .u8 (l[j]).toNat)) (ht : l.length = 10 → z.toNat ≤ 1) (hn : 1 < l.length → z.toNat ≠ 0) :
    Calls Tryz.prog 87 #[.slice (some ⟨b, o, none⟩) l.length c] w fun e w' => e = .returned (.tuple #[.int .u64 (valL l), .nilIface]) ∧ w = w' := by
  have HC := Lib.hid hc
  have HT := Lib.hid ht
  have hzb : 1 < l.length → ((z.toNat : Int) == 0) = false := fun h => by simp; have := hn h; omega
  have hcase : (((l.length : Int) == 10) = true ∧ z.toNat ≤ 1 ∧ 1 < l.length ∧ ((z.toNat : Int) == 0) = false) ∨ (((l.length : Int) == 10) = false ∧ 1 < l.length ∧ ((z.toNat : Int) == 0) = false) ∨ (((l.length : Int) == 10) = false ∧ l.length ≤ 1) := by
    by_cases h10 : l.length = 10
    · exact Or.inl ⟨by rw [h10]; rfl, ht h10, by omega, hzb (by omega)⟩
    · by_cases hl1 : 1 < l.length
      · exact Or.inr (Or.inl ⟨by simp; omega, hl1, hzb hl1⟩)
      · exact Or.inr (Or.inr ⟨by simp; omega, by omega⟩)
  clear hc ht hn hzb
  rcases hcase with ⟨k1, k2, k3, k4⟩ | ⟨k1, k3, k4⟩ | ⟨k1, k3⟩
  all_goals
    go_enter Tryz.func87, Tryz.ntmps87
    go_wp2_with fail
    go_loop [5, 44] (fun vx vk => ∃ k : Nat, vk = .int .i64 k ∧ k ≤ l.length ∧ vx = .int .u64 (valL (l.take k) : Nat)) (fun _ vk => l.length - (RowKit.intOf vk).toNat)
    case atStart => exact ⟨0, rfl, Nat.zero_le _, rfl⟩
    case round =>
      obtain ⟨k, rfl, hk, rfl⟩ := hrel
      by_cases hki : k < l.length
      · have d1 := HC.out k hki
        obtain ⟨x, hx⟩ : ∃ x, x = l[k] := ⟨_, rfl⟩
        rw [← hx] at d1
        have HX := Lib.hid hx
        have hx256 := x.toNat_lt
        have hand := andnot128 x
        have hstep : Hid (bits BinOp.or IntKind.u64 ((valL (l.take k) : Nat) : Int) (IntKind.u64.wrap ((x.toNat : Int) % 128 * 2 ^ (7 * k))) = ((valL (l.take (k + 1)) : Nat) : Int)) := by
          show _ = _
          have hv := valL_lt (l.take k)
          have hlk : (l.take k).length = k := by rw [List.length_take]; omega
          rw [List.take_succ_eq_append_getElem hki, valL_snoc, ← hx, hlk]
          rw [hlk] at hv
          refine or_step _ _ _ hv (by omega) (fun h9 => ?_)
          subst h9
          have hl10 : l.length = 10 := by omega
          have e9 : l[9] = z := by
            have h2 := hz
            simp only [hl10] at h2
            rw [hx] at d1
            rw [show o + (10 - 1) = o + 9 by omega, d1] at h2
            simp only [Option.some.injEq, Value.int.injEq, true_and] at h2
            exact u8_eq (by omega)
          rw [hx, e9]
          exact HT.out hl10
        clear hx
        go_wp2_with fail
        go_round
        case rel => exact ⟨k + 1, by go_num, by omega, by rw [hstep.out]⟩
        case measure => simp [RowKit.intOf]; omega
      · rw [List.take_of_length_le (by omega)]
        go_wp2_with fail
        go_ret2
        exact ⟨rfl, rfl⟩
end Go.Proofs.YtojhlhpbhoeplaaGreatDoor.Sh
