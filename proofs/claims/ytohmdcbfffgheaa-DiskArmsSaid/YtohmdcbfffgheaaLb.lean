/-
  The law of the statement DiskArms. No other condition.
-/
import Derived.Test.YtohmdcbfffgheaaXe
namespace Go.Proofs.Ytohmdcbfffgheaa.Dk
open Go.RowKit Go.Lib Go.Maps
/-- the device behind i writes, armed at x -/
def ArmS (w : World) (g sa mb : Nat) (S : List (List UInt8)) (n x i : Nat) : Prop :=
  ∃ (k : Nat) (D : DataW Unit) (pw : Bool) (left nw : Int), DevS w g sa mb S 0 k D pw left nw ∧ k ≤ i ∧ Tidy D ∧ (∀ z : Int, Maps.has D (.int .i64 z) = true ↔ 0 ≤ z ∧ z < ((min (min i x) n : Nat) : Int)) ∧ size D = min (min i x) n ∧ nw = ((min i x : Nat) : Int) ∧
    ((i ≤ x ∧ pw = true ∧ left = (x : Int) - i) ∨ (x < i ∧ pw = false))
theorem ArmS.later {w w' : World} {g sa mb : Nat} {S : List (List UInt8)} {n x i : Nat} (h : ArmS w g sa mb S n x i) (hb : Below w.heap.size w w') : ArmS w' g sa mb S n x i := by
  obtain ⟨k, D, pw, left, nw, hd, hr⟩ := h
  exact ⟨k, D, pw, left, nw, hd.later hb, hr⟩
theorem ArmS.lt {w : World} {g sa mb : Nat} {S : List (List UInt8)} {n x i : Nat} (h : ArmS w g sa mb S n x i) : g < w.heap.size ∧ mb < w.heap.size := by
  obtain ⟨k, D, pw, left, nw, hd, hr⟩ := h
  exact ⟨hd.dv.lt, hd.map.lt⟩
theorem arm_write {w : World} {g sa mb : Nat} {S : List (List UInt8)} {n x i : Nat} (h : ArmS w g sa mb S n x i) (hS : S.length = n) (hn : 1 ≤ n) (hn2 : n ≤ 50) (hx : x ≤ 100) (hi : i ≤ 100) (bb c : Nat) (l : List UInt8) (hb : Byt w (some ⟨bb, 0, none⟩) l) (hl : l.length = 256) (hbg : bb ≠ g) (hbm : bb ≠ mb) :
    Calls Try.prog 11 #[.pointer (some ⟨g, 0, none⟩), .int .i64 ((i % n : Nat) : Int), .slice (some ⟨bb, 0, none⟩) 256 c] w fun e w' => e = .returned (.int .i64 (if i < x then 0 else 91)) ∧ Fr w w' [g, mb] ∧ ArmS w' g sa mb S n x (i + 1) := by
  obtain ⟨k, D, pw, left, nw, hd, hk, hT, hH, hz, hnw, hc⟩ := h
  have him : i % n < n := Nat.mod_lt _ (by omega)
  rcases hc with ⟨h1, rfl, h2⟩ | ⟨h1, rfl⟩
  · have hf : foundE S.length true ((i % n : Nat) : Int) = 0 := by
      unfold foundE awakeE
      rw [hS, if_neg (by omega : ¬ n = 0)]
      simp
      omega
    by_cases h3 : i < x
    · refine (write_ok hd (i % n) bb 0 c l hf (by omega) (by omega) (by omega) hb hl (by omega) (by omega) (by omega) (by omega) (by omega) (by omega) hbg hbm).mono ?_
      rintro e w' ⟨rfl, hfr, hd'⟩
      refine ⟨by rw [if_pos h3], hfr, k + 1, _, true, _, _, hd', by omega, hT.put (by trivial) _, fun z => ?_, ?_, by omega, .inl ⟨by omega, rfl, by rw [if_pos (by omega)]; omega⟩⟩
      · by_cases e : z = ((i % n : Nat) : Int)
        · subst e
          rw [has_put_same hT.isMap (by trivial)]
          simp only [true_iff]
          refine ⟨by omega, ?_⟩
          by_cases h9 : i < n
          · rw [Nat.mod_eq_of_lt h9]; omega
          · omega
        · rw [has_put_other (int_ne e), hH z]
          by_cases h9 : i < n
          · rw [Nat.mod_eq_of_lt h9] at e; omega
          · omega
      · rw [size_put hT, hz]
        by_cases h9 : i < n
        · rw [if_neg (by rw [hH, Nat.mod_eq_of_lt h9]; omega)]; omega
        · rw [if_pos (by rw [hH]; omega)]; omega
    · have hl0 : left = 0 := by omega
      subst hl0
      refine (write_dead hd ((i % n : Nat) : Int) (some ⟨bb, 0, none⟩) c hf (by omega)).mono ?_
      rintro e w' ⟨rfl, hg, hd'⟩
      exact ⟨by rw [if_neg h3], fr_grown hg (by simp), k, D, false, 0, nw, hd.turn hg hd', by omega, hT, fun z => by rw [hH z]; omega, by rw [hz]; omega, by omega, .inr ⟨by omega, rfl⟩⟩
  · have hf : foundE S.length false ((i % n : Nat) : Int) = 91 := by
      unfold foundE awakeE
      rw [hS, if_neg (by omega : ¬ n = 0)]
      simp
    refine (write_no hd ((i % n : Nat) : Int) (some ⟨bb, 0, none⟩) 256 c 91 hf (by omega)).mono ?_
    rintro e w' ⟨rfl, rfl⟩
    exact ⟨by rw [if_neg (by omega)], Fr.refl _ _, k, D, false, left, nw, hd, by omega, hT, fun z => by rw [hH z]; omega, by rw [hz]; omega, by omega, .inr ⟨by omega, rfl⟩⟩
theorem arm_write2 {w : World} {g sa mb : Nat} {S : List (List UInt8)} {n x i : Nat} (h : ArmS w g sa mb S n x i) (hS : S.length = n) (hn : 1 ≤ n) (hn2 : n ≤ 50) (hx : x ≤ 100) (hi : i ≤ 100) (bb c : Nat) (l : List UInt8) (hb : Byt w (some ⟨bb, 0, none⟩) l) (hl : l.length = 256) (hbg : bb ≠ g) (hbm : bb ≠ mb) (z : Int) (hz : z = if i < x then 0 else 91) :
    Calls Try.prog 11 #[.pointer (some ⟨g, 0, none⟩), .int .i64 ((i : Int) % (n : Int)), .slice (some ⟨bb, 0, none⟩) 256 c] w fun e w' => e = .returned (.int .i64 z) ∧ Fr w w' [g, mb] ∧ ArmS w' g sa mb S n x (i + 1) := by
  have h1 := arm_write h hS hn hn2 hx hi bb c l hb hl hbg hbm
  have e : ((i % n : Nat) : Int) = (i : Int) % (n : Int) := by simp
  rw [e, ← hz] at h1
  exact h1
theorem armS_start {w : World} {g sa mb : Nat} {S : List (List UInt8)} {n : Nat} (x : Nat) (h : DevS w g sa mb S 0 0 (.map []) true (x : Int) 0) : ArmS w g sa mb S n x 0 :=
  ⟨0, .map [], true, x, 0, h, by omega, tidy_empty, fun z => by simp [Maps.has], by simp [size], by simp, .inl ⟨by omega, rfl, by omega⟩⟩
set_option maxHeartbeats 4000000 in
set_option maxRecDepth 100000 in
theorem arms_bad (n x q : Int) (w : World) (h : n < 1 ∨ 50 < n ∨ x < 0 ∨ 100 < x ∨ q < 0 ∨ 100 < q) : Calls Try.prog 3 #[.int .i64 n, .int .i64 x, .int .i64 q] w fun e w' => e = .returned (.bool true) ∧ Below w.heap.size w w' := by
  by_cases c1 : n < 1
  · have t1 : decide (n < 1) = true := by simpa using c1
    clear h
    go_enter Try.func3, Try.ntmps3
    go_wp2_with fail
    refine (heads_any w).mono ?_
    rintro e w1 ⟨rfl, hb⟩
    go_wp2_with fail
    go_ret
    exact ⟨rfl, hb⟩
  have t1 : decide (n < 1) = false := by simpa using c1
  by_cases c2 : 50 < n
  · have t2 : decide (50 < n) = true := by simpa using c2
    clear h c1
    go_enter Try.func3, Try.ntmps3
    go_wp2_with fail
    refine (heads_any w).mono ?_
    rintro e w1 ⟨rfl, hb⟩
    go_wp2_with fail
    go_ret
    exact ⟨rfl, hb⟩
  have t2 : decide (50 < n) = false := by simpa using c2
  by_cases c3 : x < 0
  · have t3 : decide (x < 0) = true := by simpa using c3
    clear h c1 c2
    go_enter Try.func3, Try.ntmps3
    go_wp2_with fail
    refine (heads_any w).mono ?_
    rintro e w1 ⟨rfl, hb⟩
    go_wp2_with fail
    go_ret
    exact ⟨rfl, hb⟩
  have t3 : decide (x < 0) = false := by simpa using c3
  by_cases c4 : 100 < x
  · have t4 : decide (100 < x) = true := by simpa using c4
    clear h c1 c2 c3
    go_enter Try.func3, Try.ntmps3
    go_wp2_with fail
    refine (heads_any w).mono ?_
    rintro e w1 ⟨rfl, hb⟩
    go_wp2_with fail
    go_ret
    exact ⟨rfl, hb⟩
  have t4 : decide (100 < x) = false := by simpa using c4
  by_cases c5 : q < 0
  · have t5 : decide (q < 0) = true := by simpa using c5
    clear h c1 c2 c3 c4
    go_enter Try.func3, Try.ntmps3
    go_wp2_with fail
    refine (heads_any w).mono ?_
    rintro e w1 ⟨rfl, hb⟩
    go_wp2_with fail
    go_ret
    exact ⟨rfl, hb⟩
  have t5 : decide (q < 0) = false := by simpa using c5
  have t6 : decide (100 < q) = true := by simp; omega
  clear h c1 c2 c3 c4 c5
  go_enter Try.func3, Try.ntmps3
  go_wp2_with fail
  refine (heads_any w).mono ?_
  rintro e w1 ⟨rfl, hb⟩
  go_wp2_with fail
  go_ret
  exact ⟨rfl, hb⟩
set_option maxHeartbeats 4000000 in
set_option maxRecDepth 100000 in
theorem arms_law (n x q : Int) (w : World) : Calls Try.prog 3 #[.int .i64 n, .int .i64 x, .int .i64 q] w fun e w' => e = .returned (.bool true) ∧ Below w.heap.size w w' := by
  by_cases hbad : n < 1 ∨ 50 < n ∨ x < 0 ∨ 100 < x ∨ q < 0 ∨ 100 < q
  · exact arms_bad n x q w hbad
  obtain ⟨n, rfl⟩ : ∃ m : Nat, n = (m : Int) := ⟨n.toNat, by omega⟩
  obtain ⟨x, rfl⟩ : ∃ m : Nat, x = (m : Int) := ⟨x.toNat, by omega⟩
  obtain ⟨q, rfl⟩ : ∃ m : Nat, q = (m : Int) := ⟨q.toNat, by omega⟩
  have t1 : decide ((n : Int) < 1) = false := by simp; omega
  have t2 : decide ((50 : Int) < (n : Int)) = false := by simp; omega
  have t3 : decide ((x : Int) < 0) = false := by simp
  have t5 : decide ((q : Int) < 0) = false := by simp
  have t4 : decide ((100 : Int) < (x : Int)) = false := by simp; omega
  have t6 : decide ((100 : Int) < (q : Int)) = false := by simp; omega
  have n1 : 1 ≤ n := by omega
  have n2 : n ≤ 50 := by omega
  have n3 : x ≤ 100 := by omega
  have n4 : q ≤ 100 := by omega
  have CN : Hid (Calls Try.prog 9 #[.int .i64 (n : Int), .slice none 0 0] w (NewP w [] 0 n)) := by
    have h := new_ok n none [] 0 0 w (byt_nil _ _) rfl (by have : upTo 0 = 0 := rfl; rw [this]; omega)
    rw [show upTo 0 = 0 from rfl, Nat.zero_add] at h
    exact h
  clear hbad
  go_enter Try.func3, Try.ntmps3
  go_wp2_with fail
  refine CN.out.mono ?_
  rintro e w1 ⟨hb1, ⟨h9, _⟩ | ⟨_, g, sa, mb, rfl, hg, hsa, hmb, hD⟩⟩
  · omega
  have SL : Hid ((secs (img [] (256 * n)) n).length = n) := secs_len _ _
  have hD1 : Hid (DevS w1 g sa mb (secs (img [] (256 * n)) n) 0 0 (.map []) true (-1) 0) := hD
  have B1 := Lib.hid hb1
  have GE := Lib.hid (show w.heap.size ≤ g ∧ w.heap.size ≤ mb from ⟨hg, hmb⟩)
  clear hb1 hg hsa hmb hD CN
  generalize secs (img [] (256 * n)) n = S at *
  go_wp2_with fail
  refine (arm_any (x : Int) hD1.out.dv (by rw [SL.out]; omega)).mono ?_
  rintro e w2 ⟨rfl, hg2, hd2⟩
  rw [show max (x : Int) (-1) = (x : Int) by omega] at hd2
  have A2 := Lib.hid (armS_start (n := n) x (hD1.out.turn hg2 hd2))
  have B2 := Lib.hid (B1.out.grown hg2 B1.out.size (fun k e => by injection e with e; have := GE.out; omega))
  clear hg2 hd2 hD1 B1
  go_wp2_with fail
  go_loopw [9] (fun vi wr => ∃ i : Nat, i ≤ q ∧ vi = .int .i64 i ∧ Hid (Below w.heap.size w wr) ∧ Hid (ArmS wr g sa mb S n x i)) (fun vi _ => q - (RowKit.intOf vi).toNat)
  case atStart => exact ⟨0, by omega, rfl, B2, A2⟩
  case round =>
    obtain ⟨i, hi, rfl, hB, hA⟩ := hrel
    by_cases hin : i < q
    · have q0 : (i : Int) < (q : Int) := by omega
      have CS : Hid (∀ W, Calls Try.prog 12 #[.int .u8 (i : Int), .int .i64 256] W fun e w' => Below W.heap.size W w' ∧ ∃ b c, e = .returned (.slice (some ⟨b, 0, none⟩) 256 c) ∧ W.heap.size ≤ b ∧ Byt w' (some ⟨b, 0, none⟩) (secL (UInt8.ofNat i) 256) ∧ 256 ≤ c ∧ c ≤ 9223372036854775807) := fun W => by
        have h := sector_256 (UInt8.ofNat i) W
        have e : ((UInt8.ofNat i).toNat : Int) = (i : Int) := by simp; omega
        rw [e] at h
        exact h
      have m2 : ((n : Int) == 0) = false := by simp; omega
      have m3 : (n : Int) ≠ 0 := by omega
      have i0 : (0 : Int) ≤ (i : Int) := by omega
      have i1 : (i : Int) ≤ 100 := by omega
      have hA2 : Hid (ArmS wr.drew g sa mb S n x i) := hA.out.later (Below.refl _ wr).drew
      have hB2 : Hid (Below w.heap.size w wr.drew) := hB.out.drew
      obtain ⟨z, hz⟩ : ∃ z : Int, z = if i < x then 0 else 91 := ⟨_, rfl⟩
      have HZ := Lib.hid hz
      have wu : IntKind.u8.wrap (i : Int) = (i : Int) := by rw [wrap_u8]; omega
      clear hz
      go_wp2_with fail
      go_region_with (first
        | (go_at_call 12; (with_reducible refine (CS.out _).mono ?_); rintro e w3 ⟨hb3, b3, c3, rfl, hbl3, hr3, _, _⟩)
        | (go_at_call 11; (with_reducible refine (arm_write2 (hA2.out.later hb3) SL.out n1 n2 n3 (by omega) b3 c3 _ hr3 (secL_len _) (by have := hA2.out.lt; omega) (by have := hA2.out.lt; omega) z HZ.out).mono ?_); rintro e w4 ⟨rfl, hf4, ha4⟩))
      all_goals
        (have HB3 := below_chain hB2.out hb3
         have HB4 := Lib.hid (HB3.trans (hf4.below HB3.size (by intro a ha; have := GE.out; simp at ha; omega)))
         have HA4 := Lib.hid ha4
         clear hb3 hf4 ha4 HB3 hr3
         generalize hw4 : w4 = W4 at *
         clear hw4
         by_cases hix : i < x
         · have hz0 : z = 0 := by have := HZ.out; rw [if_pos hix] at this; exact this
           subst hz0
           have t7 : decide (i < x) = true := by simp; omega
           have t8 : decide (x ≤ i) = false := by simp; omega
           clear HZ hix hA hB hA2 hB2
           go_wp2_with fail
           go_roundw
           case rel => exact ⟨i + 1, by omega, by go_num, HB4, HA4⟩
           case measure => simp [RowKit.intOf]; omega
         · have hz0 : z = 91 := by have := HZ.out; rw [if_neg hix] at this; exact this
           subst hz0
           have t7 : decide (i < x) = false := by simp; omega
           have t8 : decide (x ≤ i) = true := by simp; omega
           clear HZ hix hA hB hA2 hB2
           go_wp2_with fail
           go_roundw
           case rel => exact ⟨i + 1, by omega, by go_num, HB4, HA4⟩
           case measure => simp [RowKit.intOf]; omega)
    · obtain rfl : i = q := by omega
      obtain ⟨k, D, pw, left, nw, hd, hk, hT, hH, hz, hnw, _⟩ := hA.out
      obtain ⟨L, hL⟩ : ∃ L, L = (intKeys D).mergeSort (fun a b => decide (a ≤ b)) := ⟨_, rfl⟩
      have HLL : Hid (L.length = min (min i x) n) := by
        show _ = _
        rw [hL, List.length_mergeSort, ← hz]
        obtain ⟨es, rfl⟩ := hT.isMap
        simp [intKeys, size]
      have CC := Lib.hid (cached_is hd (by rw [SL.out]; omega) (by omega) L (fun ss hp => by rw [hL]; exact mergeSort_of_perm_i hp))
      have CW := Lib.hid (writes_any hd.dv)
      rw [if_neg (by rw [SL.out]; omega)] at CW
      obtain ⟨m, hm⟩ : ∃ m, m = L.length := ⟨_, rfl⟩
      rw [← hm] at CC HLL
      obtain ⟨y, hy⟩ : ∃ y : Nat, y = min x i := ⟨_, rfl⟩
      have e1 : min (x : Int) (i : Int) = (y : Int) := by omega
      have e2 : min (y : Int) (n : Int) = (m : Int) := by have := HLL.out; omega
      obtain rfl : nw = (y : Int) := by omega
      clear hd hk hT hH hz hnw hL hm hA hy n1 n2 n3 n4
      go_wp2_with fail
      refine CW.out.mono ?_
      rintro e w5 ⟨rfl, rfl⟩
      go_wp2_with fail
      refine CC.out.mono ?_
      rintro e w6 ⟨hb6, a6, c6, rfl, _⟩
      have B6 := Lib.hid (below_chain hB.out hb6)
      clear hb6 CC
      go_wp2_with fail
      all_goals first
        | (refine (heads_any w6).mono ?_
           rintro e w7 ⟨rfl, hb7⟩
           have B7 := Lib.hid (below_chain B6.out hb7)
           clear hb7 B6
           go_wp2_with fail
           go_ret
           exact ⟨rfl, B7.out⟩)
        | (exfalso
           have := HLL.out
           omega)
end Go.Proofs.Ytohmdcbfffgheaa.Dk
