/-
  The walk of the statement RabinRolls. No condition.
-/
import Derived.Test.YtdmkdafbbbnljaaLa
namespace Go.Proofs.Ytdmkdafbbbnljaa.Rb
open Go.RowKit Go.Lib

/-- 16 bytes, from a on -/
def seg (l : List UInt8) (a : Nat) : List UInt8 := (l.drop a).take 16
theorem seg_len (l : List UInt8) (a : Nat) (h : a + 16 ≤ l.length) : (seg l a).length = 16 := by simp [seg]; omega
theorem seg_roll (l : List UInt8) (a : Nat) (h : a + 16 < l.length) : roll (window (seg l a)) (l[a]'(by omega)).toNat (l[a + 16]).toNat = window (seg l (a + 1)) := by
  have e1 : seg l a = l[a]'(by omega) :: ((l.drop (a + 1)).take 15) := by
    rw [seg, List.drop_eq_getElem_cons (by omega), List.take_succ_cons]
  have e2 : seg l (a + 1) = (l.drop (a + 1)).take 15 ++ [l[a + 16]] := by
    rw [seg, List.take_succ_eq_append_getElem (by simp; omega)]
    congr 2
    rw [List.getElem_drop]
  rw [roll, e1, e2, roll_eq _ _ _ (by simp; omega)]
theorem seg_roll' (l : List UInt8) (a p i y : Nat) (x1 x2 : UInt8) (ha : a < l.length) (hi : i < l.length) (h1 : x1 = l[a]) (h2 : x2 = l[i]) (hai : i = a + 16) (hp : p = a + 1) (hy : y = window (seg l a)) : roll y x1.toNat x2.toNat = window (seg l p) := by
  subst hai
  subst hp
  subst hy
  subst h1
  subst h2
  exact seg_roll l a hi
theorem slice_two (b o T c p q : Nat) (h : p + 16 = q) (hq : q ≤ T) (hT : T ≤ c) (W : World) :
    (Instr.slice 22 (.slice (some ⟨b, o, none⟩) T c) (some (.int .i64 (p : Int))) (some (.int .i64 (q : Int))) none).run Try.prog W = .ok (.slice (some ⟨b, o + p, none⟩) 16 (c - p)) W := by
  have hs := run_slice_lh (P := Try.prog) W 22 (some ⟨b, o, none⟩) T c (by rw [Try.underlying22]; rfl) .i64 .i64 (p : Int) (q : Int) (by omega) (by omega) (by omega)
  rw [hs]
  have e1 : ((p : Int)).toNat = p := by omega
  have e2 : ((q : Int)).toNat = q := by omega
  have e3 : Try.prog.elem 22 = 5 := by kernel_rfl
  rw [e1, e2, e3]
  simp [Try.sizeOf5, sliced, Result.andThen, Addr.add, show ¬ c = p by omega, show q - p = 16 by omega]

set_option maxHeartbeats 2000000 in
set_option maxRecDepth 100000 in
theorem rolls_law (ao : Option Addr) (l : List UInt8) (c : Nat) (w : World) (h : Byt w ao l) (hc : l.length ≤ c) (hc2 : c ≤ 9223372036854775807) :
    Calls Try.prog 5 #[.slice ao l.length c] w fun e w' => e = .returned (.bool true) ∧ Below w.heap.size w w' := by
  have C8 := Lib.hid heads_any
  by_cases hs : l.length < 16
  · have d1 : ((l.length : Int) < 16) := by omega
    clear h
    go_enter Try.func5, Try.ntmps5
    go_wp2_with fail
    refine (C8.out _).mono ?_
    rintro e w1 ⟨rfl, b1⟩
    go_wp2_with fail
    go_ret
    exact ⟨rfl, b1⟩
  · have d1 : ¬ ((l.length : Int) < 16) := by omega
    by_cases hg : 1000 < l.length
    · have d2 : ((l.length : Int) > 1000) := by omega
      clear h
      go_enter Try.func5, Try.ntmps5
      go_wp2_with fail
      refine (C8.out _).mono ?_
      rintro e w1 ⟨rfl, b1⟩
      go_wp2_with fail
      go_ret
      exact ⟨rfl, b1⟩
    · have d2 : ¬ ((l.length : Int) > 1000) := by omega
      obtain ⟨b, o, rfl, hb, hcell⟩ := h (by intro h0; rw [h0] at hs; simp at hs)
      have HY := Lib.hid (fun W (hB : Below w.heap.size w W) => h.below hB)
      have CEL : Hid (∀ W, Below w.heap.size w W → ∀ j (hj : j < l.length), W.cell? ⟨b, o + j, none⟩ = some (.int .u8 (l[j]).toNat)) := fun W hB j hj => (hB.cell (p := ⟨b, o + j, none⟩) hb).trans (hcell j hj)
      have CW : Hid (∀ W a, Below w.heap.size w W → a + 16 ≤ l.length → Calls Try.prog 10 #[.slice (some ⟨b, o + a, none⟩) 16 (c - a)] W fun e w' => e = .returned (.int .u64 (window (seg l a) : Nat)) ∧ Below W.heap.size W w') := fun W a hB ha => by
        have := window_any (some ⟨b, o + a, none⟩) (seg l a) (c - a) W (((HY.out W hB).drop a).take 16) (by rw [seg_len l a ha]; omega) (by omega)
        rw [seg_len l a ha] at this
        exact this
      have C14 := Lib.hid roll_any
      have B0 := Lib.hid (Below.refl w.heap.size w)
      have sl0 := fun W => slice_to (some ⟨b, o, none⟩) l.length c 16 (by omega) W
      clear h hcell
      go_enter Try.func5, Try.ntmps5
      go_wp2_with fail
      refine (CW.out w 0 B0.out (by omega)).mono ?_
      rintro e w1 ⟨rfl, b1⟩
      have B1 := Lib.hid b1
      have W1 := Lib.hid (window_lt (seg l 0))
      clear b1
      go_wp2_with fail
      go_loopw [3, 4] (fun vf vi wq => ∃ (i y : Nat), 16 ≤ i ∧ i ≤ l.length ∧ vf = .int .u64 y ∧ vi = .int .i64 i ∧ Hid (y < 2147483648) ∧ Hid (y = window (seg l (i - 16))) ∧ Hid (Below w.heap.size w wq)) (fun _ vi _ => l.length - (RowKit.intOf vi).toNat)
      case atStart => exact ⟨16, window (seg l 0), by omega, by omega, rfl, rfl, W1.out, rfl, B1.out⟩
      case round =>
        obtain ⟨i, y, hi0, hi, rfl, rfl, hy, hyr, hB⟩ := hrel
        by_cases hil : i < l.length
        · obtain ⟨a, ha⟩ : ∃ a, a = i - 16 := ⟨_, rfl⟩
          obtain ⟨p, hp⟩ : ∃ p, p = a + 1 := ⟨_, rfl⟩
          obtain ⟨q, hq⟩ : ∃ q, q = i + 1 := ⟨_, rfl⟩
          have E1 : (i : Int) - 16 = (a : Int) := by omega
          have E2 : (i : Int) - 15 = (p : Int) := by omega
          have c1 := CEL.out wr hB.out a (by omega)
          have c2 := CEL.out wr hB.out i hil
          have sl : ∀ W, (Instr.slice 22 (.slice (some ⟨b, o, none⟩) l.length c) (some (.int .i64 (p : Int))) (some (.int .i64 ((i : Int) + 1))) none).run Try.prog W = .ok (.slice (some ⟨b, o + p, none⟩) 16 (c - p)) W := fun W => by
            have := slice_two b o l.length c p q (by omega) (by omega) hc W
            rwa [hq, Int.natCast_add] at this
          obtain ⟨u1, hu1⟩ : ∃ u, u = l[a]'(by omega) := ⟨_, rfl⟩
          obtain ⟨u2, hu2⟩ : ∃ u, u = l[i] := ⟨_, rfl⟩
          have hn : roll y u1.toNat u2.toNat = window (seg l p) := seg_roll' l a p i y u1 u2 (by omega) hil hu1 hu2 (by omega) hp (by rw [hyr.out, ha])
          rw [← hu1] at c1
          rw [← hu2] at c2
          have R1 : Hid (∀ W, Calls Try.prog 14 #[.int .u64 y, .int .u8 u1.toNat, .int .u8 u2.toNat] W fun e w' => e = .returned (.int .u64 (window (seg l p) : Nat)) ∧ ∃ n, w' = W.drewN n) := fun W => by
            have := C14.out y u1 u2 (by have := hy.out; omega) W
            rw [hn] at this
            exact this
          clear hu1 hu2
          have CP := Lib.hid (fun W hB => CW.out W p hB (by omega))
          have HZ := Lib.hid (window_lt (seg l p))
          have HP : Hid (p = (i + 1) - 16) := by show _ = _; omega
          have q1 : (a : Int) < (l.length : Int) := by omega
          have q2 : (0 : Int) ≤ (a : Int) := by omega
          generalize u1.toNat = x1 at *
          generalize u2.toNat = x2 at *
          clear hn hyr ha hp hq
          obtain ⟨z, hz⟩ : ∃ z, z = window (seg l p) := ⟨_, rfl⟩
          rw [← hz] at R1 CP HZ
          have HZR := Lib.hid hz
          have q3 : decide ((2147483648 : Int) ≤ (z : Int)) = false := by have := HZ.out; simp; omega
          clear hz
          go_wp2_with fail
          go_quiet ((go_at_call 14; refine Calls.quiet_of (R1.out _)))
          go_wp2_with fail
          refine (CP.out _ (below_drewN hB.out _)).mono ?_
          rintro e w2 ⟨rfl, b2⟩
          have B2 := Lib.hid (below_chain (below_drewN hB.out _) b2)
          clear b2
          go_wp2_with fail
          go_roundw
          case rel => exact ⟨i + 1, z, by omega, by omega, rfl, by go_num, HZ.out, by rw [← HP.out]; exact HZR.out, B2.out⟩
          case measure => simp [RowKit.intOf]; omega
        · obtain rfl : i = l.length := by omega
          clear hyr hy
          go_wp2_with fail
          refine (C8.out _).mono ?_
          rintro e w2 ⟨rfl, b2⟩
          have B2 := Lib.hid (below_chain hB.out b2)
          clear b2
          go_wp2_with fail
          go_ret
          exact ⟨rfl, B2.out⟩
end Go.Proofs.Ytdmkdafbbbnljaa.Rb
