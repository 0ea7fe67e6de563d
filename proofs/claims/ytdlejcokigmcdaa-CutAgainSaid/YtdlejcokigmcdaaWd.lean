/-
  The contract of rabin's Window: for all bytes. No other condition.
-/
import Derived.Test.YtdlejcokigmcdaaWc
namespace Go.Proofs.Ytdlejcokigmcdaa.Rb
open Go.ChangeShapes Go.WideShapes Go.ChangeAt Go.RowKit Go.Lib Go.ChangeMaps

theorem and_int (q : Nat) (h : q < 18446744073709551616) : bits BinOp.and IntKind.u64 (q : Int) 2147483647 = ((q % 2147483648 : Nat) : Int) := by
  have := u64_and_nat q 2147483647 h (by decide)
  rw [show (2147483647 : Nat) = 2 ^ 31 - 1 from rfl, Nat.and_two_pow_sub_one_eq_mod] at this
  exact this
set_option maxHeartbeats 2000000 in
set_option maxRecDepth 100000 in
theorem window_any (ao : Option Addr) (l : List UInt8) (c : Nat) (w : World) (h : Byt w ao l) (hc : l.length ≤ c) (hl : c ≤ 9223372036854775807) :
    Calls Try.prog 21 #[.slice ao l.length c] w fun e w' => e = .returned (.int .u64 (window l : Nat)) ∧ Below w.heap.size w w' := by
  have C17 := Lib.hid (carried_any w)
  have HB := Lib.hid (fun W (hb : Below w.heap.size w W) => h.below hb)
  clear h
  have zv := zv43
  have hsz : (ns (tab 256)).toArray.size = 256 := by rw [List.size_toArray, ns_len, tab_len]
  have hsz2 : (ns (List.replicate 256 0)).toArray.size = 256 := by rw [List.size_toArray, ns_len, List.length_replicate]
  have h1c : (ns (tab 256)).toArray.all (·.oneCell') = true := by
    rw [List.all_toArray, List.all_eq_true]
    exact ns_one _
  obtain ⟨R, hR⟩ : ∃ R, R = (ns (tab 256)).toArray := ⟨_, rfl⟩
  rw [← hR] at hsz h1c C17
  have HRE := Lib.hid hR
  clear hR
  generalize (ns (List.replicate 256 0)).toArray = Z at *
  have HIR : Hid ((Try.prog.info? 43).map (·.size) = some R.size) := by show _ = _; rw [info43, hsz]
  have HO : Hid (Z.size = R.size) := by show _ = _; rw [hsz, hsz2]
  have H1 := Lib.hid h1c
  clear hsz hsz2 h1c
  go_enter Try.func21, Try.ntmps21
  go_wp2_with fail
  refine C17.out.mono ?_
  rintro e w1 ⟨rfl, b1⟩
  have B1 := Lib.hid b1
  clear b1
  go_wp2_with ((with_reducible refine wpList_store_row rfl 43 (.tmp 3) (.tmp 7) rfl w1.heap.size R rfl rfl 43 Z (heap_alloc_new w1 _) HIR.out HO.out H1.out ?_))
  have K1 : Hid (Blk ((w1.alloc (.cells Z 43)).setRow w1.heap.size R) w1.heap.size (ns (tab 256)) 43) := by
    show _ = _
    rw [← HRE.out]
    exact setRow_heap (w1.alloc (.cells Z 43)) w1.heap.size Z R 43 (0, 0) (heap_alloc_new w1 _)
  have B2 : Hid (Below w.heap.size w ((w1.alloc (.cells Z 43)).setRow w1.heap.size R)) := (B1.out.alloc B1.out.size _).setRow B1.out.size R
  generalize (w1.alloc (.cells Z 43)).setRow w1.heap.size R = w2 at *
  generalize w1.heap.size = g at *
  clear B1 zv
  have HC := Lib.hid (HB.out w2 B2.out)
  go_loop [4, 10] (fun vx vi => ∃ (i y : Nat), i ≤ l.length ∧ vx = .int .u64 y ∧ vi = .int .i64 i ∧ y < 2147483648 ∧ Hid (y = win 0 (l.take i))) (fun _ vi => l.length - (RowKit.intOf vi).toNat)
  case atStart => exact ⟨0, 0, by omega, rfl, rfl, by decide, rfl⟩
  case round =>
    obtain ⟨i, y, hi, rfl, rfl, hy, hyr⟩ := hrel
    by_cases hil : i < l.length
    · obtain ⟨b, o, rfl, hb, hcell⟩ := HC.out (by intro h0; rw [h0] at hil; simp at hil)
      have hn : Hid (push y (l[i]).toNat = win 0 (l.take (i + 1))) := by show _ = _; rw [win_take _ _ _ hil, ← hyr.out]
      have d1 := hcell i hil
      have HL := Lib.hid (push_lt y (l[i]).toNat (by omega) (l[i]).toNat_lt)
      clear hcell hyr
      obtain ⟨x, hx⟩ : ∃ x : Nat, x = (l[i]).toNat := ⟨_, rfl⟩
      have hx8 : x < 256 := by rw [hx]; exact (l[i]).toNat_lt
      rw [← hx] at d1 hn HL
      clear hx
      have se := step_eq y x hy hx8
      have k1 := or_int y x hy hx8
      have k2 := and_int (y * 256 + x) (by omega)
      obtain ⟨t, ht⟩ : ∃ t, t = y / 8388608 := ⟨_, rfl⟩
      have ht8 : t < 256 := by omega
      have e1 : ((y : Int) / 8388608) = (t : Int) := by omega
      have d2 := (K1.out.cell t).trans (tab_get 256 t ht8 ht8)
      have tl := T_lt t ht8
      rw [← ht] at se
      have k3 := u64_xor_nat ((y * 256 + x) % 2147483648) (T t) (by omega) (by omega)
      rw [se] at k3
      clear ht se
      generalize (y * 256 + x) % 2147483648 = r at *
      generalize y * 256 + x = q at *
      generalize T t = a at *
      generalize push y x = z at *
      have q1 : (0 : Int) ≤ (t : Int) := by omega
      have q2 : (t : Int) < 256 := by omega
      go_wp2_with fail
      go_round
      case rel => exact ⟨i + 1, z, by omega, rfl, by go_num, HL.out, hn⟩
      case measure => simp [RowKit.intOf]; omega
    · obtain rfl : i = l.length := by omega
      have e : Hid (y = window l) := by show _ = _; rw [hyr.out, List.take_length]; rfl
      clear hyr
      go_wp2_with fail
      go_ret
      exact ⟨ret_u64 (by rw [e.out]), B2.out⟩
end Go.Proofs.Ytdlejcokigmcdaa.Rb
