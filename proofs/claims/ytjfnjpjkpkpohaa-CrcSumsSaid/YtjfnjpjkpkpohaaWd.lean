/-
  The contracts of crc's Right and of the document's own Right. Conditions: bytes are at most 2^47 - 4.
-/
import Derived.Test.YtjfnjpjkpkpohaaWc
namespace Go.Proofs.Ytjfnjpjkpkpohaa.Cr
open Go.RowKit Go.Lib

theorem Byt.drop {w : World} {b o : Nat} {l : List UInt8} (h : Byt w (some ⟨b, o, none⟩) l) (n : Nat) : Byt w (some ⟨b, o + n, none⟩) (l.drop n) := fun hne => by
  obtain ⟨b', o', h1, h2, h3⟩ := h (fun h0 => hne (by rw [h0]; simp))
  injection h1 with h1
  injection h1 with h1 h4
  subst h1
  subst h4
  refine ⟨b, o + n, rfl, h2, fun j hj => ?_⟩
  rw [List.length_drop] at hj
  rw [Nat.add_assoc, h3 (n + j) (by omega), List.getElem_drop]
theorem written_row (s : Nat) (hs : s < 4294967296) (W : World) :
    Calls Try.prog 20 #[.int .u32 s] W fun e W' => Below W.heap.size W W' ∧ ∃ k, e = .returned (.slice (some ⟨k, 0, none⟩) 4 4) ∧ Byt W' (some ⟨k, 0, none⟩) (leL s) :=
  (written_any s hs W).mono fun e W' ⟨he, hw⟩ => ⟨by rw [← hw]; exact (Below.refl _ W).alloc (Nat.le_refl _) _, W.heap.size, he, fun _ => ⟨W.heap.size, 0, rfl, by rw [← hw]; simp, fun j hj => by
    rw [← hw, Nat.zero_add, World.cell?_alloc_new]
    simp [bs, hj]⟩⟩
theorem sum_len (n : Nat) (ao : Option Addr) (l : List UInt8) (c : Nat) (w : World) (h : Byt w ao l) (hn : l.length = n) (hc : n ≤ c) (hl : c ≤ 9223372036854775807) :
    Calls Try.prog 7 #[.slice ao n c] w fun e w' => e = .returned (.int .u32 (sumL l)) ∧ w = w' := by
  subst hn
  exact sum_any ao l c w h hc hl

set_option maxHeartbeats 8000000 in
set_option maxRecDepth 100000 in
theorem right_big (b o t : Nat) (l : List UInt8) (c : Nat) (w : World) (h : Byt w (some ⟨b, o, none⟩) l) (hl : l.length = t + 4) (hc : t + 4 ≤ c) (hc2 : c ≤ 9223372036854775807) :
    Calls Try.prog 15 #[.slice (some ⟨b, o, none⟩) (t + 4 : Nat) c] w fun e w' => e = .returned (.bool (rightL l)) ∧ Below w.heap.size w w' := by
  have hd : decide ((0 : Int) ≤ (t : Int)) = true := by simp
  have c1 := sum_len t (some ⟨b, o, none⟩) (l.take t) c w.drew (h.take t).drew (by simp; omega) (by omega) hc2
  have hr : rightL l = decide (l.drop t = leL (sumL (l.take t))) := by
    unfold rightL
    rw [hl, show t + 4 - 4 = t by omega, show decide (4 ≤ t + 4) = true by simp, Bool.true_and, ← beq_dec]
  rw [hr]
  obtain ⟨s, hs⟩ : ∃ s, s = sumL (l.take t) := ⟨_, rfl⟩
  have hs32 : s < 4294967296 := by rw [hs]; exact moreL_lt 0 _
  rw [← hs] at c1 ⊢
  have h1 : Byt w.drew (some ⟨b, o + t, none⟩) (l.drop t) := (h.drop t).drew
  have hd4 : (l.drop t).length = 4 := by simp; omega
  obtain ⟨d, hdd⟩ : ∃ d, d = l.drop t := ⟨_, rfl⟩
  rw [← hdd] at h1 hd4 ⊢
  have C1 := Lib.hid c1
  have C2 := Lib.hid (written_row s hs32)
  have H1 := Lib.hid h1
  have HD := Lib.hid hd4
  have hct : 4 ≤ c - t := by omega
  have Q0 := Lib.hid (Below.refl w.heap.size w).drew
  clear c1 h1 hd4 hs hdd hr h hl
  go_enter Try.func15, Try.ntmps15
  go_wp2_with fail
  go_region_with (first
    | (go_at_call 7; (with_reducible refine C1.out.mono ?_); rintro e w1 ⟨rfl, rfl⟩)
    | (go_at_call 20; (with_reducible refine (C2.out _).mono ?_); rintro e w2 ⟨b2, k, rfl, r2⟩
       have CE := Lib.hid (equal_same 4 (some ⟨b, o + t, none⟩) (some ⟨k, 0, none⟩) d (leL s) (c - t) 4 w2 (H1.out.below b2) r2 HD.out rfl hct (by decide) (by decide))
       have Q2 := Lib.hid (Q0.out.trans (b2.mono Q0.out.size))
       clear b2 r2)
    | (go_at_call 21; (with_reducible refine CE.out.mono ?_); rintro e w3 ⟨rfl, b3⟩))
  all_goals (go_wp2_with fail; go_ret)
  all_goals exact ⟨rfl, Q2.out.trans (b3.mono Q2.out.size)⟩
set_option maxHeartbeats 1000000 in
set_option maxRecDepth 100000 in
theorem right_small (ao : Option Addr) (n c : Nat) (w : World) (hl : n < 4) :
    Calls Try.prog 15 #[.slice ao n c] w fun e w' => e = .returned (.bool false) ∧ Below w.heap.size w w' := by
  have hd : decide ((4 : Int) ≤ (n : Int)) = false := by simp; omega
  have Q0 := Lib.hid (Below.refl w.heap.size w)
  go_enter Try.func15, Try.ntmps15
  go_wp2_with fail
  go_quiet (fail)
  go_wp2_with fail
  go_ret
  exact ⟨rfl, below_drewN Q0.out _⟩
theorem right_any (ao : Option Addr) (l : List UInt8) (c : Nat) (w : World) (h : Byt w ao l) (hc : l.length ≤ c) (hc2 : c ≤ 9223372036854775807) :
    Calls Try.prog 15 #[.slice ao l.length c] w fun e w' => e = .returned (.bool (rightL l)) ∧ Below w.heap.size w w' := by
  by_cases h4 : l.length < 4
  · have hr : rightL l = false := by unfold rightL; rw [show decide (4 ≤ l.length) = false by simp; omega]; rfl
    rw [hr]
    exact right_small ao l.length c w h4
  · obtain ⟨b, o, rfl, _⟩ := h (by intro h0; rw [h0] at h4; simp at h4)
    have := right_big b o (l.length - 4) l c w h (by omega) (by omega) hc2
    rwa [show l.length - 4 + 4 = l.length by omega] at this
end Go.Proofs.Ytjfnjpjkpkpohaa.Cr
