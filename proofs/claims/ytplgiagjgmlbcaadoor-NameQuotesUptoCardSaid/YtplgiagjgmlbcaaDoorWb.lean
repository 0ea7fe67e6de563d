/-
  Contracts of strconv.FormatInt at base 16, for numbers from 0 to 16777215, and what it calls: the digits. Condition: the library's table of trailing noughts is as its text lays it.
-/
import Derived.Test.YtplgiagjgmlbcaaDoorWg
import Derived.Test.YtplgiagjgmlbcaaDoorPb
import Derived.WalkKit
import Derived.BigCall
import Derived.Outline
import Derived.Lib.Hide
namespace Go.Proofs.YtplgiagjgmlbcaaDoor.Nm
open Go.RowKit Go.Lib

set_option maxRecDepth 100000 in
theorem tz16 (w : World) (hz : w.cell? ⟨7, 15, none⟩ = some (.int .u8 4)) :
    Calls Tryd.prog 78 #[.int .u64 16] w fun e w' => e = .returned (.int .i64 4) ∧ w = w' := by
  have e1 : IntKind.u64.wrap (bits .and .u64 16 (IntKind.u64.wrap (-16)) * 285870213051353865) / 288230376151711744 = 15 := by decide
  go_enter Tryd.func78, Tryd.ntmps78
  go_wp2
  go_ret
  exact ⟨rfl, rfl⟩
theorem pow16 (w : World) :
    Calls Tryd.prog 77 #[.int .i64 16] w fun e w' => e = .returned (.bool true) ∧ w = w' := by
  go_enter Tryd.func77, Tryd.ntmps77
  go_wp2
  go_ret
  exact ⟨rfl, rfl⟩
theorem dig_key : ∀ v : Fin 16, (({ data := #[48, 49, 50, 51, 52, 53, 54, 55, 56, 57, 97, 98, 99, 100, 101, 102, 103, 104, 105, 106, 107, 108, 109, 110, 111, 112, 113, 114, 115, 116, 117, 118, 119, 120, 121, 122] } : ByteArray)[v.val]'(Nat.lt_trans v.isLt (by decide))) = digs.getD (v.val % 16) 0 := by decide
theorem dig_at (u : Nat) (h : u < 16) (h36 : u < ({ data := #[48, 49, 50, 51, 52, 53, 54, 55, 56, 57, 97, 98, 99, 100, 101, 102, 103, 104, 105, 106, 107, 108, 109, 110, 111, 112, 113, 114, 115, 116, 117, 118, 119, 120, 121, 122] } : ByteArray).size) : (({ data := #[48, 49, 50, 51, 52, 53, 54, 55, 56, 57, 97, 98, 99, 100, 101, 102, 103, 104, 105, 106, 107, 108, 109, 110, 111, 112, 113, 114, 115, 116, 117, 118, 119, 120, 121, 122] } : ByteArray)[u]'h36) = digs.getD (u % 16) 0 := dig_key ⟨u, h⟩
theorem hexF_small (f n : Nat) (h : n < 16) : hexF f n = [digs.getD (n % 16) 0] := by cases f <;> simp [hexF, h]
theorem hexF_big (f n : Nat) (h : 16 ≤ n) : hexF (f + 1) n = hexF f (n / 16) ++ [digs.getD (n % 16) 0] := by rw [hexF, if_neg (by omega)]
theorem pow_two_le {u k : Nat} (h : u < 16 ^ k) (h16 : 16 ≤ u) : 2 ≤ k := by
  match k with
  | 0 => simp at h; omega
  | 1 => simp at h; omega
  | k + 2 => omega
theorem pow_one_le {u k : Nat} (h : u < 16 ^ k) (h1 : 1 ≤ u) : 1 ≤ k := by
  match k with
  | 0 => simp at h; omega
  | k + 1 => omega
theorem pow_div {u k : Nat} (h : u < 16 ^ (k + 1)) : u / 16 < 16 ^ k := by
  rw [Nat.pow_succ] at h
  omega
theorem and15 (u : Nat) (hu : u < 18446744073709551616) : bits BinOp.and IntKind.u64 (u : Int) 15 = ((u % 16 : Nat) : Int) := by
  have h := u64_and_nat u 15 hu (by decide)
  rw [show ((15 : Nat) : Int) = 15 from rfl] at h
  rw [h, show u &&& 15 = u % 16 from by rw [show (15 : Nat) = 2 ^ 4 - 1 from rfl, Nat.and_two_pow_sub_one_eq_mod]]

theorem dig_mod (u : Nat) (h : u % 16 < 16) (h36 : u % 16 < ({ data := #[48, 49, 50, 51, 52, 53, 54, 55, 56, 57, 97, 98, 99, 100, 101, 102, 103, 104, 105, 106, 107, 108, 109, 110, 111, 112, 113, 114, 115, 116, 117, 118, 119, 120, 121, 122] } : ByteArray).size) : (({ data := #[48, 49, 50, 51, 52, 53, 54, 55, 56, 57, 97, 98, 99, 100, 101, 102, 103, 104, 105, 106, 107, 108, 109, 110, 111, 112, 113, 114, 115, 116, 117, 118, 119, 120, 121, 122] } : ByteArray)[u % 16]'h36) = digs.getD (u % 16) 0 := by
  rw [dig_at _ h, Nat.mod_mod]
theorem set_digit (arr : Array Value) (d : List UInt8) (k : Nat) (c : UInt8) (hk1 : 1 ≤ k) (hs : arr.size = 65) (hk : k ≤ 6)
    (hd : ∀ j, j < d.length → arr[59 + k + j]? = some (.int .u8 (d.getD j 0).toNat)) :
    ∀ j, j < (c :: d).length → (arr.setIfInBounds (58 + k) (.int .u8 c.toNat))[59 + (k - 1) + j]? = some (.int .u8 ((c :: d).getD j 0).toNat) := by
  intro j hj
  cases j with
  | zero =>
    rw [show 59 + (k - 1) + 0 = 58 + k by omega]
    rw [Array.getElem?_setIfInBounds_self_of_lt (by omega)]
    rfl
  | succ j =>
    rw [Array.getElem?_setIfInBounds_ne (by omega), show 59 + (k - 1) + (j + 1) = 59 + k + j by omega, hd j (by simpa using hj)]
    rfl

theorem slice16 (w : World) (k : Nat) (hk1 : 1 ≤ k) (hk : k ≤ 6) (W : World) :
    (Instr.sliceAt 100 (.pointer (some ⟨w.heap.size, 0, none⟩)) (some (.int .i64 (59 + (k : Int) - 1))) none none).run Tryd.prog W = .ok (.slice (some ⟨w.heap.size, 58 + k, none⟩) (7 - k) (7 - k)) W := by
  have hal : Tryd.prog.arrayLen 100 = 65 := by kernel_rfl
  rw [run_sliceAt_array_l W 100 ⟨w.heap.size, 0, none⟩ (by kernel_rfl) .i64 (59 + (k : Int) - 1) (by omega) (by rw [hal]; omega), hal]
  have e1 : (59 + (k : Int) - 1).toNat = 58 + k := by omega
  have e2 : 65 - (58 + k) = 7 - k := by omega
  have he : Tryd.prog.elem 100 = 5 := by kernel_rfl
  rw [e1, he, Tryd.sizeOf5 W]
  show Result.ok (slicedAt ⟨w.heap.size, 0, none⟩ (58 + k) 65 65 1) W = _
  unfold slicedAt
  rw [if_neg (by omega), e2, Nat.mul_one]
  simp [Addr.add]
theorem conv16 (w : World) (arr : Array Value) (d : List UInt8) (k u : Nat) (hk1 : 1 ≤ k) (hk : k ≤ 6) (hu16 : u < 16) (hs : arr.size = 65) (hl : d.length + k = 6)
    (hd : ∀ j, j < d.length → arr[59 + k + j]? = some (.int .u8 (d.getD j 0).toNat)) (h36 : u < ({ data := #[48, 49, 50, 51, 52, 53, 54, 55, 56, 57, 97, 98, 99, 100, 101, 102, 103, 104, 105, 106, 107, 108, 109, 110, 111, 112, 113, 114, 115, 116, 117, 118, 119, 120, 121, 122] } : ByteArray).size) :
    (convert 44 9 (.slice (some ⟨w.heap.size, 58 + k, none⟩) (7 - k) (7 - k))).run Tryd.prog (w.alloc (.cells (arr.setIfInBounds (58 + k) (.int .u8 ((({ data := #[48, 49, 50, 51, 52, 53, 54, 55, 56, 57, 97, 98, 99, 100, 101, 102, 103, 104, 105, 106, 107, 108, 109, 110, 111, 112, 113, 114, 115, 116, 117, 118, 119, 120, 121, 122] } : ByteArray)[u]'h36).toNat : Nat))) 100)) = .ok (.string ⟨(digs.getD (u % 16) 0 :: d).toArray⟩) (w.alloc (.cells (arr.setIfInBounds (58 + k) (.int .u8 ((({ data := #[48, 49, 50, 51, 52, 53, 54, 55, 56, 57, 97, 98, 99, 100, 101, 102, 103, 104, 105, 106, 107, 108, 109, 110, 111, 112, 113, 114, 115, 116, 117, 118, 119, 120, 121, 122] } : ByteArray)[u]'h36).toNat : Nat))) 100)) := by
  rw [dig_at u hu16]
  generalize digs.getD (u % 16) 0 = c
  have hD := set_digit arr d k c hk1 hs hk hd
  have h := run_convert_bytes_back (P := Tryd.prog) (w.alloc (.cells (arr.setIfInBounds (58 + k) (.int .u8 (c.toNat : Nat))) 100)) 44 9 5 ⟨w.heap.size, 58 + k, none⟩ (7 - k) (c :: d) Tryd.underlying44 Tryd.underlying5 Tryd.underlying9 (fun j hj => by
    have h1 := hD j hj
    rw [show 59 + (k - 1) + j = 58 + k + j by omega] at h1
    have ha : (⟨w.heap.size, 58 + k, none⟩ : Addr).add j = ⟨w.heap.size, 58 + k + j, none⟩ := by simp [Addr.add]
    rw [ha, World.cell?_alloc_new, h1]
    simp only [List.getD, List.getElem?_eq_getElem hj, Option.getD_some])
  have hl : (c :: d).length = 7 - k := by simp; omega
  rw [hl] at h
  exact h

set_option maxHeartbeats 1000000 in
set_option maxRecDepth 100000 in
/-- internal/strconv.formatBits at base 16 -/
theorem bits16 (n : Nat) (hn : n < 16777216) (w : World) (hg : Glob w) :
    Calls Tryd.prog 62 #[.slice none 0 0, .int .u64 n, .int .i64 16, .bool false, .bool false] w fun e w' => e = .returned (.tuple #[.slice none 0 0, .string ⟨(hexF 5 n).toArray⟩]) ∧ Below w.heap.size w w' := by
  have hz0 : Tryd.zeroCells100.size = 65 := by kernel_rfl
  have HZ := Lib.hid hz0
  have HN := Lib.hid hn
  clear hz0 hn
  go_enter Tryd.func62, Tryd.ntmps62
  go_wp2_with (first | (go_at_call 77; refine (pow16 _).mono ?_; rintro e w' ⟨rfl, rfl⟩) | (go_at_call 78; refine (tz16 _ (hg.alloc _).tz).mono ?_; rintro e w' ⟨rfl, rfl⟩))
  go_loopw [1, 13] (fun vu vi wr => ∃ (u k : Nat) (d : List UInt8) (arr : Array Value), vu = .int .u64 u ∧ vi = .int .i64 (59 + k : Nat) ∧ wr = w.alloc (.cells arr 100) ∧ Hid (u < 16 ^ k ∧ arr.size = 65 ∧ d.length + k = 6 ∧ hexF 5 n = hexF (k - 1) u ++ d) ∧ 1 ≤ k ∧ u < 16777216 ∧ k ≤ 6 ∧ Hid (∀ j, j < d.length → arr[59 + k + j]? = some (.int .u8 (d.getD j 0).toNat))) (fun _ vi _ => (RowKit.intOf vi).toNat)
  case atStart => exact ⟨n, 6, [], _, rfl, rfl, rfl, ⟨by simpa using HN.out, HZ.out, rfl, by simp⟩, by omega, HN.out, by omega, fun j hj => by simp at hj⟩
  case round =>
    obtain ⟨u, k, d, arr, rfl, rfl, rfl, hh, hk1, hu, hk, hd⟩ := hrel
    by_cases hge : 16 ≤ u
    · have hand := and15 u (by omega)
      have hk2 : 2 ≤ k := pow_two_le hh.out.1 hge
      obtain ⟨v0, hv0⟩ : ∃ v0, arr[58 + k]? = some v0 := ⟨_, Array.getElem?_eq_getElem (by have := hh.out.2.1; omega)⟩
      have hu16 : u % 16 < 16 := by omega
      have hup : u / 16 < 16 ^ (k - 1) := pow_div (by rw [show k - 1 + 1 = k by omega]; exact hh.out.1)
      have hex : hexF (k - 1) u ++ d = hexF (k - 1 - 1) (u / 16) ++ (digs.getD (u % 16) 0 :: d) := by
        obtain ⟨q, rfl⟩ : ∃ q, k = q + 2 := ⟨k - 2, by omega⟩
        rw [show q + 2 - 1 = q + 1 from rfl, hexF_big q u hge]
        simp
      have HR : Hid (u / 16 < 16 ^ (k - 1) ∧ (arr.setIfInBounds (58 + k) (.int .u8 (digs.getD (u % 16) 0).toNat)).size = 65 ∧ (digs.getD (u % 16) 0 :: d).length + (k - 1) = 6 ∧ hexF 5 n = hexF (k - 1 - 1) (u / 16) ++ (digs.getD (u % 16) 0 :: d)) := by
        obtain ⟨_, h2, h3, h4⟩ := hh.out
        exact ⟨hup, by simpa using h2, by simp; omega, h4.trans hex⟩
      have HD : Hid (∀ j, j < (digs.getD (u % 16) 0 :: d).length → (arr.setIfInBounds (58 + k) (.int .u8 (digs.getD (u % 16) 0).toNat))[59 + (k - 1) + j]? = some (.int .u8 ((digs.getD (u % 16) 0 :: d).getD j 0).toNat)) := set_digit arr d k _ hk1 hh.out.2.1 hk hd.out
      clear hup hex hd hh
      go_wp2_with fail
      rw [show (59 + (k : Int) - 1) = ((59 + (k - 1) : Nat) : Int) by omega, show ((u : Int) / 16) = ((u / 16 : Nat) : Int) by omega]
      go_roundw
      case rel => exact ⟨u / 16, k - 1, digs.getD (u % 16) 0 :: d, _, rfl, rfl, by rw [dig_mod u hu16], HR, by omega, by omega, by omega, HD⟩
      case measure => simp [RowKit.intOf]; omega
    · obtain ⟨v0, hv0⟩ : ∃ v0, arr[58 + k]? = some v0 := ⟨_, Array.getElem?_eq_getElem (by have := hh.out.2.1; omega)⟩
      have hu16 : u < 16 := by omega
      have hsl := slice16 w k hk1 hk
      have hcv := conv16 w arr d k u hk1 hk hu16 hh.out.2.1 hh.out.2.2.1 hd.out (Nat.lt_trans hu16 (by decide))
      have HF : Hid (hexF 5 n = digs.getD (u % 16) 0 :: d) := by rw [hh.out.2.2.2, hexF_small _ _ hu16]; rfl
      go_wp2_with fail
      go_ret2
      rw [HF.out]
      exact ⟨rfl, (Below.refl _ w).alloc (Nat.le_refl _) _⟩

set_option maxRecDepth 100000 in
theorem format16_in (n : Nat) (hn : n < 16777216) (w : World) (hg : Glob w) :
    Calls Tryd.prog 45 #[.int .i64 n, .int .i64 16] w fun e w' => e = .returned (.string ⟨(hexF 5 n).toArray⟩) ∧ Below w.heap.size w w' := by
  have h0 : decide ((n : Int) < 0) = false := by simp
  go_enter Tryd.func45, Tryd.ntmps45
  go_wp2_with (go_at_call 62; refine (bits16 n hn _ hg).mono ?_; rintro e w' ⟨rfl, hb⟩)
  go_ret
  exact ⟨rfl, hb⟩
/-- strconv.FormatInt at base 16 -/
theorem format16 (n : Nat) (hn : n < 16777216) (w : World) (hg : Glob w) :
    Calls Tryd.prog 31 #[.int .i64 n, .int .i64 16] w fun e w' => e = .returned (.string ⟨(hexF 5 n).toArray⟩) ∧ Below w.heap.size w w' := by
  go_enter Tryd.func31, Tryd.ntmps31
  go_wp2_with (go_at_call 45; refine (format16_in n hn _ hg).mono ?_; rintro e w' ⟨rfl, hb⟩)
  go_ret
  exact ⟨rfl, hb⟩
end Go.Proofs.YtplgiagjgmlbcaaDoor.Nm
