/-
  The contract of the law's own heads; the walks of the statements RabinReckons and RabinMod. No condition.
-/
import Derived.Test.YtdmkdafbbbnljaaWd
namespace Go.Proofs.Ytdmkdafbbbnljaa.Rb
open Go.RowKit Go.Lib

theorem below_chain {w W W' : World} (h : Below w.heap.size w W) (hb : Below W.heap.size W W') : Below w.heap.size w W' := h.trans (hb.mono h.size)
theorem below_alloc {w W : World} (h : Below w.heap.size w W) (o : Obj) : Below w.heap.size w (W.alloc o) := h.alloc h.size o
theorem Blk.byt {w : World} {g : Nat} {l : List UInt8} {t : TypeId} (h : Blk w g (bs l) t) : Byt w (some ⟨g, 0, none⟩) l := fun _ => ⟨g, 0, rfl, h.lt, fun j hj => by
  rw [Nat.zero_add, h.cell, bs_get l j hj]⟩
theorem heads_any (w : World) : Calls Try.prog 8 #[] w fun e w' => e = .returned (.bool true) ∧ Below w.heap.size w w' := by
  have v1 : window [1, 0] = 256 := by decide +kernel
  have v2 : modN 2147483648 = 9 := by decide +kernel
  have v3 : push 0 7 = 7 := by decide +kernel
  have v4 : roll 0 0 5 = 5 := by decide +kernel
  have v5 : modN 2147483657 = 0 := by decide +kernel
  have C10 : Hid (∀ W g, Byt W (some ⟨g, 0, none⟩) [1, 0] → Calls Try.prog 10 #[.slice (some ⟨g, 0, none⟩) 2 2] W fun e w' => e = .returned (.int .u64 256) ∧ Below W.heap.size W w') := fun W g hb => by
    have := window_any _ [1, 0] 2 W hb (by decide) (by decide)
    rw [v1] at this
    exact this
  have M1 : Hid (∀ W, Calls Try.prog 11 #[.int .u64 2147483648] W fun e w' => e = .returned (.int .u64 9) ∧ ∃ n, w' = W.drewN n) := fun W => by
    have := mod_any 2147483648 (by decide) W
    rw [v2] at this
    exact this
  have M2 : Hid (∀ W, Calls Try.prog 11 #[.int .u64 2147483657] W fun e w' => e = .returned (.int .u64 0) ∧ ∃ n, w' = W.drewN n) := fun W => by
    have := mod_any 2147483657 (by decide) W
    rw [v5] at this
    exact this
  have P1 : Hid (∀ W, Calls Try.prog 9 #[.int .u64 0, .int .u8 7] W fun e w' => e = .returned (.int .u64 7) ∧ ∃ n, w' = W.drewN n) := fun W => by
    have := push_any 0 7 (by decide) W
    rw [show (7 : UInt8).toNat = 7 from rfl, v3] at this
    exact this
  have R1 : Hid (∀ W, Calls Try.prog 14 #[.int .u64 0, .int .u8 0, .int .u8 5] W fun e w' => e = .returned (.int .u64 5) ∧ ∃ n, w' = W.drewN n) := fun W => by
    have := roll_any 0 0 5 (by decide) W
    rw [show (0 : UInt8).toNat = 0 from rfl, show (5 : UInt8).toNat = 5 from rfl, v4] at this
    exact this
  have BY : Hid (Byt (w.alloc (.cells #[.int .u8 1, .int .u8 0] 5)) (some ⟨w.heap.size, 0, none⟩) [1, 0]) := (Blk.byt (Blk.new w (bs [1, 0]) 5 _ rfl))
  have BL := Lib.hid ((Below.refl w.heap.size w).alloc (Nat.le_refl _) (.cells #[.int .u8 1, .int .u8 0] 5))
  clear v1 v2 v3 v4 v5
  go_enter Try.func8, Try.ntmps8
  go_wp2_with fail
  refine (C10.out _ _ BY.out).mono ?_
  rintro e w1 ⟨rfl, b1⟩
  have B1 := Lib.hid (below_chain BL.out b1)
  clear b1
  go_wp2_with fail
  refine (M1.out _).mono ?_
  rintro e w2 ⟨rfl, n2, rfl⟩
  go_wp2_with fail
  refine (P1.out _).mono ?_
  rintro e w2 ⟨rfl, n3, rfl⟩
  go_wp2_with fail
  refine (R1.out _).mono ?_
  rintro e w2 ⟨rfl, n4, rfl⟩
  go_wp2_with fail
  refine (M2.out _).mono ?_
  rintro e w2 ⟨rfl, n5, rfl⟩
  go_wp2_with fail
  go_ret
  exact ⟨rfl, below_drewN B1.out _⟩

set_option maxHeartbeats 1000000 in
set_option maxRecDepth 100000 in
theorem reckons_law (x : Nat) (hx : x < 18446744073709551616) (a : Nat) (ha : a < 256) (b : Nat) (hb : b < 256) (ao : Option Addr) (l : List UInt8) (c : Nat) (w : World) (h : Byt w ao l) (hc : l.length ≤ c) (hc2 : c ≤ 9223372036854775807) :
    Calls Try.prog 4 #[.int .u64 x, .int .u8 a, .int .u8 b, .slice ao l.length c] w fun e w' => e = .returned (.bool true) ∧ Below w.heap.size w w' := by
  obtain ⟨A, rfl⟩ : ∃ A : UInt8, a = A.toNat := ⟨UInt8.ofNat a, by simp; omega⟩
  obtain ⟨B, rfl⟩ : ∃ B : UInt8, b = B.toNat := ⟨UInt8.ofNat b, by simp; omega⟩
  have C8 := Lib.hid heads_any
  by_cases hg : 3000 < l.length
  · have d1 : ((l.length : Int) > 3000) := by omega
    clear h
    go_enter Try.func4, Try.ntmps4
    go_wp2_with fail
    refine (C8.out _).mono ?_
    rintro e w1 ⟨rfl, b1⟩
    go_wp2_with fail
    go_ret
    exact ⟨rfl, b1⟩
  · have d1 : ¬ ((l.length : Int) > 3000) := by omega
    have C11 := Lib.hid (mod_any x hx)
    have C12 := Lib.hid (refmod_any x hx)
    have C9 := Lib.hid (push_any x A hx)
    have C13 := Lib.hid (refpush_any x A hx)
    have C14 := Lib.hid (roll_any x A B hx)
    have C15 := Lib.hid (refroll_any x A B hx)
    have C10 := Lib.hid (fun W (hB : Below w.heap.size w W) => window_any ao l c W (h.below hB) hc hc2)
    have C16 := Lib.hid (fun W (hB : Below w.heap.size w W) => refwindow_any ao l c W (h.below hB) hc hc2)
    have B0 := Lib.hid (Below.refl w.heap.size w)
    generalize modN x = m at *
    generalize push x A.toNat = p at *
    generalize roll x A.toNat B.toNat = r at *
    generalize window l = v at *
    generalize A.toNat = a at *
    generalize B.toNat = b at *
    clear h
    go_enter Try.func4, Try.ntmps4
    go_wp2_with fail
    refine (C11.out _).mono ?_
    rintro e w1 ⟨rfl, n1, rfl⟩
    go_wp2_with fail
    refine (C12.out _).mono ?_
    rintro e w1 ⟨rfl, rfl⟩
    go_wp2_with fail
    refine (C9.out _).mono ?_
    rintro e w1 ⟨rfl, n2, rfl⟩
    go_wp2_with fail
    refine (C13.out _).mono ?_
    rintro e w1 ⟨rfl, rfl⟩
    go_wp2_with fail
    refine (C14.out _).mono ?_
    rintro e w1 ⟨rfl, n3, rfl⟩
    go_wp2_with fail
    refine (C15.out _).mono ?_
    rintro e w1 ⟨rfl, rfl⟩
    go_wp2_with fail
    refine (C10.out _ (below_drewN B0.out _)).mono ?_
    rintro e w1 ⟨rfl, b1⟩
    have B1 := Lib.hid (below_chain (below_drewN B0.out _) b1)
    clear b1
    go_wp2_with fail
    refine (C16.out _ B1.out).mono ?_
    rintro e w2 ⟨rfl, rfl⟩
    go_wp2_with fail
    refine (C8.out _).mono ?_
    rintro e w2 ⟨rfl, b2⟩
    have B2 := Lib.hid (below_chain B1.out b2)
    clear b2
    go_wp2_with fail
    go_ret
    exact ⟨rfl, B2.out⟩

set_option maxHeartbeats 1000000 in
set_option maxRecDepth 100000 in
theorem modk_law (x : Nat) (hx : x < 18446744073709551616) (y : Nat) (hy : y < 18446744073709551616) (n : Int) (k : Nat) (hk : (IntKind.u64.wrap n).tmod 33 = (k : Int)) (hk33 : k < 33) (w : World) :
    Calls Try.prog 7 #[.int .u64 x, .int .u64 y, .int .i64 n] w fun e w' => e = .returned (.bool true) ∧ Below w.heap.size w w' := by
  have C8 := Lib.hid heads_any
  have B0 := Lib.hid (Below.refl w.heap.size w)
  have C1 := Lib.hid (mod_any x hx)
  have C2 : Hid (∀ W, Calls Try.prog 11 #[.int .u64 (modN x : Nat)] W fun e w' => e = .returned (.int .u64 (modN x : Nat)) ∧ ∃ n, w' = W.drewN n) := fun W => by
    have := mod_any (modN x) (by have := modN_lt x hx; omega) W
    rwa [modN_small _ (modN_lt x hx)] at this
  have X1 := u64_xor_nat x y hx hy
  have C3 := Lib.hid (mod_any (x ^^^ y) (Nat.xor_lt_two_pow (n := 64) hx hy))
  have C4 := Lib.hid (mod_any y hy)
  have X2 := u64_xor_nat (modN x) (modN y) (by have := modN_lt x hx; omega) (by have := modN_lt y hy; omega)
  rw [modN_xor] at C3
  have X3 := u64_xor_nat x (D <<< k) hx (D_lt k (by omega))
  rw [← shl_int k (by omega)] at X3
  have C5 : Hid (∀ W, Calls Try.prog 11 #[.int .u64 ((x ^^^ D <<< k : Nat) : Int)] W fun e w' => e = .returned (.int .u64 (modN x : Nat)) ∧ ∃ n, w' = W.drewN n) := fun W => by
    have := mod_any (x ^^^ D <<< k) (Nat.xor_lt_two_pow (n := 64) hx (D_lt k (by omega))) W
    rwa [modN_xor, modN_div k hk33, Nat.xor_zero] at this
  have hm := modN_lt x hx
  generalize modN x = m at *
  generalize modN y = q at *
  generalize x ^^^ y = xy at *
  generalize x ^^^ D <<< k = xd at *
  generalize m ^^^ q = mq at *
  have hmI : (m : Int) < 2147483648 := by omega
  clear hm
  go_enter Try.func7, Try.ntmps7
  go_wp2_with fail
  refine (C1.out _).mono ?_
  rintro e w1 ⟨rfl, n1, rfl⟩
  go_wp2_with fail
  refine (C2.out _).mono ?_
  rintro e w1 ⟨rfl, n2, rfl⟩
  go_wp2_with fail
  refine (C3.out _).mono ?_
  rintro e w1 ⟨rfl, n3, rfl⟩
  go_wp2_with fail
  refine (C4.out _).mono ?_
  rintro e w1 ⟨rfl, n4, rfl⟩
  go_wp2_with fail
  refine (C5.out _).mono ?_
  rintro e w1 ⟨rfl, n5, rfl⟩
  go_wp2_with fail
  refine (C8.out _).mono ?_
  rintro e w1 ⟨rfl, b1⟩
  have B1 := Lib.hid (below_chain (below_drewN B0.out _) b1)
  clear b1
  go_wp2_with fail
  go_ret
  exact ⟨rfl, B1.out⟩
theorem mod_law (x : Nat) (hx : x < 18446744073709551616) (y : Nat) (hy : y < 18446744073709551616) (n : Int) (w : World) :
    Calls Try.prog 7 #[.int .u64 x, .int .u64 y, .int .i64 n] w fun e w' => e = .returned (.bool true) ∧ Below w.heap.size w w' := by
  have h0 : 0 ≤ IntKind.u64.wrap n := by rw [u64_wrap]; omega
  refine modk_law x hx y hy n (IntKind.u64.wrap n % 33).toNat ?_ (by omega) w
  rw [Int.tmod_eq_emod_of_nonneg h0]
  omega
end Go.Proofs.Ytdmkdafbbbnljaa.Rb
