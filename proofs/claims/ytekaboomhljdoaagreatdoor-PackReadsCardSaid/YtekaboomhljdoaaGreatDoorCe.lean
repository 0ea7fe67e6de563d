/-
  The contract of crc's Right. Conditions: bytes are at most 2^47 - 4.
-/
import Derived.Test.YtekaboomhljdoaaGreatDoorCd
namespace Go.Proofs.YtekaboomhljdoaaGreatDoor.Cr
open Go.RowKit Go.Lib Go.Proofs.YtekaboomhljdoaaGreatDoor.Sh

set_option maxHeartbeats 1000000 in
set_option maxRecDepth 100000 in
theorem equal_same (n : Nat) (ao bo : Option Addr) (l m : List UInt8) (c d : Nat) (w : World) (h1 : Byt w ao l) (h2 : Byt w bo m) (hl : l.length = n) (hm : m.length = n) (hc : n ≤ c) (hd : n ≤ d) (hn : n ≤ 9223372036854775807) :
    Calls Tryz.prog 93 #[.slice ao n c, .slice bo n d] w fun e w' => e = .returned (.bool (decide (l = m))) ∧ Below w.heap.size w w' := by
  have H1 := Lib.hid h1
  have H2 := Lib.hid h2
  have HL := Lib.hid hl
  have HM := Lib.hid hm
  clear h1 h2 hl hm
  go_enter Tryz.func93, Tryz.ntmps93
  go_wp2_with fail
  go_loopw [13] (fun vi wr => ∃ (i : Nat), i ≤ n ∧ vi = .int .i64 i ∧ Below w.heap.size w wr ∧ Hid (l.take i = m.take i)) (fun vi _ => n - (RowKit.intOf vi).toNat)
  case atStart => exact ⟨0, by omega, rfl, Below.refl _ _, by show _ = _; simp⟩
  case round =>
    obtain ⟨i, hi, rfl, hb, hh⟩ := hrel
    by_cases hin : i < n
    · have l1 := HL.out
      have l2 := HM.out
      obtain ⟨b1, o1, rfl, hb1, hcell1⟩ := (H1.out.below hb) (by intro h0; rw [h0] at l1; simp at l1; omega)
      obtain ⟨b2, o2, rfl, hb2, hcell2⟩ := (H2.out.below hb) (by intro h0; rw [h0] at l2; simp at l2; omega)
      have d1 := hcell1 i (by omega)
      have d2 := hcell2 i (by omega)
      have hn1 : Hid (l[i]'(by omega) = m[i]'(by omega) → l.take (i + 1) = m.take (i + 1)) := fun he => by
        rw [List.take_succ_eq_append_getElem (by omega), List.take_succ_eq_append_getElem (by omega), hh.out, he]
      have hn2 : Hid (¬ l[i]'(by omega) = m[i]'(by omega) → decide (l = m) = false) := fun he => by
        simp only [decide_eq_false_iff_not]
        intro h0
        subst h0
        exact he rfl
      obtain ⟨x, hx⟩ : ∃ x, x = l[i]'(by omega) := ⟨_, rfl⟩
      obtain ⟨y, hy⟩ : ∃ y, y = m[i]'(by omega) := ⟨_, rfl⟩
      rw [← hx] at d1 hn1 hn2
      rw [← hy] at d2 hn1 hn2
      clear hx hy hcell1 hcell2 l1 l2 hh
      by_cases hxy : x = y
      · have hne : ((x.toNat : Int) == (y.toNat : Int)) = true := by rw [hxy]; simp
        have hn3 := Lib.hid (hn1.out hxy)
        clear hn1 hn2 hxy
        go_wp2_with fail
        go_quiet (fail)
        go_wp2_with fail
        go_roundw
        case rel => exact ⟨i + 1, by omega, by go_num, below_drewN hb _, hn3⟩
        case measure => simp [RowKit.intOf]; omega
      · have hne : ((x.toNat : Int) == (y.toNat : Int)) = false := by
          simp only [beq_eq_false_iff_ne, ne_eq]
          intro h0
          exact hxy (u8_eq (by omega))
        have hn3 := Lib.hid (hn2.out hxy)
        clear hn1 hn2 hxy
        go_wp2_with fail
        go_quiet (fail)
        go_wp2_with fail
        go_ret
        exact ⟨ret_bool hn3.out.symm, below_drewN hb _⟩
    · obtain rfl : i = n := by omega
      have hz : Hid (decide (l = m) = true) := by
        have := hh.out
        rw [List.take_of_length_le (by have := HL.out; omega), List.take_of_length_le (by have := HM.out; omega)] at this
        show _ = _
        simp [this]
      clear hh
      go_wp2_with fail
      go_ret
      exact ⟨ret_bool hz.out.symm, hb⟩

theorem written_row (s : Nat) (hs : s < 4294967296) (W : World) :
    Calls Tryz.prog 76 #[.int .u32 s] W fun e W' => Below W.heap.size W W' ∧ ∃ k, e = .returned (.slice (some ⟨k, 0, none⟩) 4 4) ∧ Byt W' (some ⟨k, 0, none⟩) (leL s) :=
  (written_any s hs W).mono fun e W' ⟨he, hw⟩ => ⟨by rw [← hw]; exact (Below.refl _ W).alloc (Nat.le_refl _) _, W.heap.size, he, fun _ => ⟨W.heap.size, 0, rfl, by rw [← hw]; simp, fun j hj => by
    rw [← hw, Nat.zero_add, World.cell?_alloc_new]
    simp [bs, hj]⟩⟩
theorem sum_len (n : Nat) (ao : Option Addr) (l : List UInt8) (c : Nat) (w : World) (h : Byt w ao l) (hn : l.length = n) (hc : n ≤ c) (hl : c ≤ 9223372036854775807) :
    Calls Tryz.prog 77 #[.slice ao n c] w fun e w' => e = .returned (.int .u32 (sumL l)) ∧ w = w' := by
  subst hn
  exact sum_any ao l c w h hc hl

set_option maxHeartbeats 8000000 in
set_option maxRecDepth 100000 in
theorem right_big (b o t : Nat) (l : List UInt8) (c : Nat) (w : World) (h : Byt w (some ⟨b, o, none⟩) l) (hl : l.length = t + 4) (hc : t + 4 ≤ c) (hc2 : c ≤ 9223372036854775807) :
    Calls Tryz.prog 81 #[.slice (some ⟨b, o, none⟩) (t + 4 : Nat) c] w fun e w' => e = .returned (.bool (rightL l)) ∧ Below w.heap.size w w' := by
  have hd : decide ((0 : Int) ≤ (t : Int)) = true := by simp
  have c1 := sum_len t (some ⟨b, o, none⟩) (l.take t) c w.drew (h.take t).drew (by simp; omega) (by omega) hc2
  have hr : rightL l = decide (l.drop t = leL (sumL (l.take t))) := by
    unfold rightL
    rw [hl, show t + 4 - 4 = t by omega, show decide (4 ≤ t + 4) = true by simp, Bool.true_and, ← beq_dec]
  rw [hr]
  obtain ⟨s, hs⟩ : ∃ s, s = sumL (l.take t) := ⟨_, rfl⟩
  have hs32 : s < 4294967296 := by rw [hs]; exact moreL_lt 0 _
  rw [← hs] at c1 ⊢
  have h1 : Byt w.drew (some ⟨b, o + t, none⟩) (l.drop t) := (h.drop t).drew
  have hd4 : (l.drop t).length = 4 := by simp; omega
  obtain ⟨d, hdd⟩ : ∃ d, d = l.drop t := ⟨_, rfl⟩
  rw [← hdd] at h1 hd4 ⊢
  have C1 := Lib.hid c1
  have C2 := Lib.hid (written_row s hs32)
  have H1 := Lib.hid h1
  have HD := Lib.hid hd4
  have hct : 4 ≤ c - t := by omega
  have Q0 := Lib.hid (Below.refl w.heap.size w).drew
  clear c1 h1 hd4 hs hdd hr h hl
  go_enter Tryz.func81, Tryz.ntmps81
  go_wp2_with fail
  go_region_with (first
    | (go_at_call 77; (with_reducible refine C1.out.mono ?_); rintro e w1 ⟨rfl, rfl⟩)
    | (go_at_call 76; (with_reducible refine (C2.out _).mono ?_); rintro e w2 ⟨b2, k, rfl, r2⟩
       have CE := Lib.hid (equal_same 4 (some ⟨b, o + t, none⟩) (some ⟨k, 0, none⟩) d (leL s) (c - t) 4 w2 (H1.out.below b2) r2 HD.out rfl hct (by decide) (by decide))
       have Q2 := Lib.hid (Q0.out.trans (b2.mono Q0.out.size))
       clear b2 r2)
    | (go_at_call 93; (with_reducible refine CE.out.mono ?_); rintro e w3 ⟨rfl, b3⟩))
  all_goals (go_wp2_with fail; go_ret)
  all_goals exact ⟨rfl, Q2.out.trans (b3.mono Q2.out.size)⟩
set_option maxHeartbeats 1000000 in
set_option maxRecDepth 100000 in
theorem right_small (ao : Option Addr) (n c : Nat) (w : World) (hl : n < 4) :
    Calls Tryz.prog 81 #[.slice ao n c] w fun e w' => e = .returned (.bool false) ∧ Below w.heap.size w w' := by
  have hd : decide ((4 : Int) ≤ (n : Int)) = false := by simp; omega
  have Q0 := Lib.hid (Below.refl w.heap.size w)
  go_enter Tryz.func81, Tryz.ntmps81
  go_wp2_with fail
  go_quiet (fail)
  go_wp2_with fail
  go_ret
  exact ⟨rfl, below_drewN Q0.out _⟩
theorem right_any (ao : Option Addr) (l : List UInt8) (c : Nat) (w : World) (h : Byt w ao l) (hc : l.length ≤ c) (hc2 : c ≤ 9223372036854775807) :
    Calls Tryz.prog 81 #[.slice ao l.length c] w fun e w' => e = .returned (.bool (rightL l)) ∧ Below w.heap.size w w' := by
  by_cases h4 : l.length < 4
  · have hr : rightL l = false := by unfold rightL; rw [show decide (4 ≤ l.length) = false by simp; omega]; rfl
    rw [hr]
    exact right_small ao l.length c w h4
  · obtain ⟨b, o, rfl, _⟩ := h (by intro h0; rw [h0] at h4; simp at h4)
    have := right_big b o (l.length - 4) l c w h (by omega) (by omega) hc2
    rwa [show l.length - 4 + 4 = l.length by omega] at this
end Go.Proofs.YtekaboomhljdoaaGreatDoor.Cr
