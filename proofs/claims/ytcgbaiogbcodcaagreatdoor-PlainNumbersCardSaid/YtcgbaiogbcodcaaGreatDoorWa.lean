/-
  The contracts of leb.Size and leb.Put: for every number of 64 bits. No other condition.
-/
import Derived.Test.YtcgbaiogbcodcaaGreatDoorShb
import Derived.Test.YtcgbaiogbcodcaaGreatDoorPb
import Derived.Test.YtcgbaiogbcodcaaGreatDoorRh
import Derived.WalkKit
import Derived.Outline
import Derived.Lib.Hide
import Derived.Below
import Derived.Laws.MakeOwn
import Derived.Laws.BitsAllLaws
namespace Go.Proofs.YtcgbaiogbcodcaaGreatDoor.Sh
open Go.RowKit Go.Lib Lb

theorem ret_int {k : IntKind} {a b : Int} (h : a = b) : Ending.returned (.int k a) = .returned (.int k b) := by rw [h]
theorem len_any (y : Nat) (h : y < 18446744073709551616) (w : World) :
    Calls Tryz.prog 138 #[.int .u64 y] w fun e w' => e = .returned (.int .i64 (Lib.bitLen y : Nat)) ∧ w = w' :=
  (Tryz.bits_Len64 (y : Int) w (by omega) (by omega)).mono fun e w' ⟨he, hw⟩ => ⟨by rw [he, Int.toNat_natCast], hw.symm⟩
theorem or_lt (x : Nat) (h : x < 18446744073709551616) : x ||| 1 < 18446744073709551616 := by rw [or_one]; omega

theorem size_any (x : Nat) (h : x < 18446744073709551616) (w : World) :
    Calls Tryz.prog 122 #[.int .u64 x] w fun e w' => e = .returned (.int .i64 ((putL x).length : Nat)) ∧ w = w' := by
  have hor : bits BinOp.or IntKind.u64 (x : Int) 1 = ((x ||| 1 : Nat) : Int) := u64_or_nat x 1 h (by decide)
  obtain ⟨s1, s2, s3⟩ := size_eq x h
  have cl := len_any (x ||| 1) (or_lt x h)
  obtain ⟨L, hL⟩ : ∃ L, L = Lib.bitLen (x ||| 1) := ⟨_, rfl⟩
  rw [← hL] at s1 s2 s3 cl
  have S1 := Lib.hid s1
  have CL := Lib.hid cl
  clear s1 cl hL
  go_enter Tryz.func122, Tryz.ntmps122
  go_wp2_with fail
  refine (CL.out _).mono ?_
  rintro e w' ⟨rfl, rfl⟩
  go_wp2_with fail
  go_ret
  have hs := S1.out
  exact ⟨ret_int (by omega), rfl⟩

theorem made0 (n : Nat) : madeCells (Value.int .u8 0).cells n = Array.replicate n (.int .u8 0) := by
  unfold madeCells
  apply Array.ext
  · simp
  · intro i h1 h2
    simp [Value.cells, Nat.mod_one]
theorem make_u8 (n : Nat) (hn : n ≤ 281474976710656) (W : World) :
    (Instr.makeSlice 33 (.int .i64 (n : Int)) (.int .i64 (n : Int))).run Tryz.prog W = .ok (.slice (some ⟨W.heap.size, 0, none⟩) n n) (W.alloc (.cells (Array.replicate n (.int .u8 0)) 5)) := by
  obtain ⟨i0, hi, hz0, hz1, hz2⟩ := info_parts info5
  have h := run_make (P := Tryz.prog) W 33 5 i0 (.int .u8 0) Tryz.underlying33 hi hz0 .i64 .i64 n n (by omega) (by omega) (by rw [hz2]; omega) (by omega)
  rw [Int.toNat_natCast, hz1, Nat.mul_one, made0] at h
  exact h
theorem or128_fin : ∀ v : Fin 256, v.val ||| 128 = v.val % 128 + 128 := by decide +kernel
theorem or128 (y : Nat) : bits BinOp.or IntKind.u8 ((y : Int) % 256) 128 = ((y % 128 + 128 : Nat) : Int) := by
  have h := u8_or_nat (y % 256) 128 (by omega) (by decide)
  have e := or128_fin ⟨y % 256, by omega⟩
  simp only at e
  rw [e, show y % 256 % 128 = y % 128 by omega] at h
  exact h
set_option maxHeartbeats 1000000 in
theorem put_any (x : Nat) (h : x < 18446744073709551616) (w : World) :
    Calls Tryz.prog 110 #[.int .u64 x] w fun e w' => e = .returned (.slice (some ⟨w.heap.size, 0, none⟩) (putL x).length (putL x).length) ∧ w.alloc (.cells (bs (putL x)).toArray 5) = w' := by
  have cs := size_any x h
  have hl := putL_len x
  obtain ⟨n, hn⟩ : ∃ n, n = (putL x).length := ⟨_, rfl⟩
  rw [← hn] at cs hl ⊢
  have CS := Lib.hid cs
  have HN := Lib.hid hn
  have hmk := make_u8 n (by omega)
  clear cs hn
  go_enter Tryz.func110, Tryz.ntmps110
  go_wp2_with fail
  refine (CS.out _).mono ?_
  rintro e w' ⟨rfl, rfl⟩
  go_wp2_with fail
  go_loopw [0, 13] (fun vx vi wr => ∃ (i y : Nat) (arr : Array Value), i + 1 ≤ n ∧ vx = .int .u64 y ∧ vi = .int .i64 i ∧ wr = w.alloc (.cells arr 5) ∧ arr.size = n ∧ y < 18446744073709551616 ∧ Hid (y = x / 128 ^ i) ∧ Hid (∀ j, j < i → arr[j]? = some (.int .u8 ((putL x).getD j 0).toNat))) (fun _ vi _ => n - (RowKit.intOf vi).toNat)
  case atStart => exact ⟨0, x, Array.replicate n (.int .u8 0), by omega, rfl, rfl, rfl, by simp, h, by simp [Hid], by simp [Hid]⟩
  case round =>
    obtain ⟨i, y, arr, hi, rfl, rfl, rfl, hsz, hy, hyx, ha⟩ := hrel
    have hcell : (w.alloc (.cells arr 5)).cell? ⟨w.heap.size, i, none⟩ = arr[i]? := World.cell?_alloc_new ..
    obtain ⟨old, hai⟩ : ∃ old, arr[i]? = some old := ⟨_, Array.getElem?_eq_getElem (by omega)⟩
    have hl' : n = (putL x).length := HN.out
    by_cases hin : i + 1 < n
    · have hor : bits BinOp.or IntKind.u8 ((y : Int) % 256) 128 = ((y % 128 + 128 : Nat) : Int) := or128 y
      have h1 : Hid (y / 128 = x / 128 ^ (i + 1)) := by
        show _ = _
        rw [hyx.out, Nat.pow_succ, Nat.div_div_eq_div_mul]
      have h2 : Hid (∀ j, j < i + 1 → (arr.setIfInBounds i (.int .u8 ((y % 128 + 128 : Nat) : Int)))[j]? = some (.int .u8 ((putL x).getD j 0).toNat)) := fun j hj => by
        by_cases hji : j = i
        · subst hji
          rw [Array.getElem?_setIfInBounds_self_of_lt (by omega), putL_at x j (by omega), hyx.out, u8_nat _ (by omega)]
        · rw [Array.getElem?_setIfInBounds_ne (by omega)]
          exact ha.out j (by omega)
      clear hyx ha hl'
      go_wp2_with fail
      go_roundw
      case rel => exact ⟨i + 1, y / 128, _, by omega, by go_num, by go_num, rfl, by simp [hsz], by omega, h1, h2⟩
      case measure => simp [RowKit.intOf]; omega
    · have h2 : Hid (w.alloc (.cells (arr.setIfInBounds (n - 1) (.int .u8 ((y : Int) % 256))) 5) = w.alloc (.cells (bs (putL x)).toArray 5)) := by
        show _ = _
        rw [show n - 1 = i by omega, show ((y : Int) % 256) = ((y % 256 : Nat) : Int) by omega]
        congr 2
        have hv := lastF_put 9 x (Nat.lt_of_lt_of_le h two64)
        rw [show putF 9 x = putL x from rfl, ← hl', show n - 1 = i by omega, ← hyx.out] at hv
        apply Array.ext
        · simp [bs, hsz, hl']
        · intro j h1 h2
          have hjn : j < n := by simpa [hsz] using h1
          apply Option.some.inj
          rw [← Array.getElem?_eq_getElem h1, ← Array.getElem?_eq_getElem h2]
          have hb : (bs (putL x)).toArray[j]? = some (.int .u8 ((putL x).getD j 0).toNat) := by
            simp [bs, List.getD_eq_getElem?_getD, List.getElem?_eq_getElem (show j < (putL x).length by omega)]
          rw [hb]
          by_cases hji : j = i
          · subst hji
            rw [Array.getElem?_setIfInBounds_self_of_lt (by omega), hv]
            have := ((putL x).getD j 0).toNat_lt
            rw [hv] at this
            rw [Nat.mod_eq_of_lt this]
          · rw [Array.getElem?_setIfInBounds_ne (by omega)]
            exact ha.out j (by omega)
      have hcell' : (w.alloc (.cells arr 5)).cell? ⟨w.heap.size, n - 1, none⟩ = some old := by
        rw [show n - 1 = i by omega, hcell, hai]
      clear hyx ha hl' hcell hai
      go_wp2_with fail
      go_ret
      exact ⟨rfl, h2.out.symm⟩
end Go.Proofs.YtcgbaiogbcodcaaGreatDoor.Sh
