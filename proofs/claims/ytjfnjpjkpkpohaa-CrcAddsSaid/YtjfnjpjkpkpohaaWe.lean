/-
  The contract of the document's own Right, and of the statements' heads. Conditions: bytes are at most 2^47 - 4.
-/
import Derived.Test.YtjfnjpjkpkpohaaWd
namespace Go.Proofs.Ytjfnjpjkpkpohaa.Cr
open Go.RowKit Go.Lib

theorem refbytes_len (n : Nat) (ao : Option Addr) (l : List UInt8) (c : Nat) (w : World) (h : Byt w ao l) (hn : ao = none → c = 0) (hl : l.length = n) (hc : n ≤ c) (hc2 : c ≤ 9223372036854775807) (hl2 : n ≤ 140737488355324) :
    Calls Try.prog 14 #[.slice ao n c] w fun e w' => Below w.heap.size w w' ∧ ∃ v, e = .returned v ∧ Own w' w.heap.size v (bytesL l) := by
  subst hl
  exact refbytes_any ao l c w h hn hc hc2 hl2

set_option maxHeartbeats 8000000 in
set_option maxRecDepth 100000 in
theorem refright_big (b o t : Nat) (l : List UInt8) (c : Nat) (w : World) (h : Byt w (some ⟨b, o, none⟩) l) (hl : l.length = t + 4) (hc : t + 4 ≤ c) (hc2 : c ≤ 9223372036854775807) (ht : t ≤ 140737488355324) :
    Calls Try.prog 16 #[.slice (some ⟨b, o, none⟩) (t + 4 : Nat) c] w fun e w' => e = .returned (.bool (rightL l)) ∧ Below w.heap.size w w' := by
  have hd : decide ((0 : Int) ≤ (t : Int)) = true := by simp
  have c1 := refbytes_len t (some ⟨b, o, none⟩) (l.take t) c w.drew (h.take t).drew (fun h => by cases h) (by simp; omega) (by omega) hc2 ht
  have hr : rightL l = (bytesL (l.take t) == l) := by
    rw [right_ref l (by omega), hl, show t + 4 - 4 = t by omega]
  have hl' : (bytesL (l.take t)).length = t + 4 := by rw [bytesL_len]; simp; omega
  rw [hr]
  obtain ⟨x, hx⟩ : ∃ x, x = bytesL (l.take t) := ⟨_, rfl⟩
  rw [← hx] at c1 hl' ⊢
  have kA : (convert 22 9 (.slice (some ⟨b, o, none⟩) (t + 4) c)).run Try.prog w.drew = .ok (.string ⟨l.toArray⟩) w.drew := by
    have := conv_byt (P := Try.prog) Try.underlying22 Try.underlying5 Try.underlying9 (some ⟨b, o, none⟩) l c h.drew (fun h => by cases h)
    rwa [hl] at this
  have C1 := Lib.hid c1
  have HX := Lib.hid hl'
  have HL := Lib.hid hl
  have H := Lib.hid h
  have Q0 := Lib.hid (Below.refl w.heap.size w).drew
  clear c1 hx hr h hl hl'
  go_enter Try.func16, Try.ntmps16
  go_wp2_with fail
  go_region_with (first
    | (go_at_call 14; (with_reducible refine C1.out.mono ?_); rintro e w2 ⟨b2, v, rfl, r2⟩
       obtain ⟨a2, c2, rfl, hc3, hc4, hr2, hn2⟩ := own_byt r2
       have kB := conv_byt (P := Try.prog) Try.underlying22 Try.underlying5 Try.underlying9 a2 x c2 hr2 hn2
       have kC := conv_byt (P := Try.prog) Try.underlying22 Try.underlying5 Try.underlying9 (some ⟨b, o, none⟩) l c (H.out.drew.below b2) (fun h => by cases h)
       rw [HL.out] at kC
       have Q2 := Lib.hid (Q0.out.trans (b2.mono Q0.out.size))
       clear b2 r2 hr2))
  all_goals (go_wp2_with fail; go_ret)
  all_goals exact ⟨rfl, Q2.out⟩
set_option maxHeartbeats 1000000 in
set_option maxRecDepth 100000 in
theorem refright_small (ao : Option Addr) (n c : Nat) (w : World) (hl : n < 4) :
    Calls Try.prog 16 #[.slice ao n c] w fun e w' => e = .returned (.bool false) ∧ Below w.heap.size w w' := by
  have hd : decide ((4 : Int) ≤ (n : Int)) = false := by simp; omega
  have Q0 := Lib.hid (Below.refl w.heap.size w)
  go_enter Try.func16, Try.ntmps16
  go_wp2_with fail
  go_quiet (fail)
  go_wp2_with fail
  go_ret
  exact ⟨rfl, below_drewN Q0.out _⟩
theorem refright_any (ao : Option Addr) (l : List UInt8) (c : Nat) (w : World) (h : Byt w ao l) (hc : l.length ≤ c) (hc2 : c ≤ 9223372036854775807) (ht : l.length ≤ 140737488355328) :
    Calls Try.prog 16 #[.slice ao l.length c] w fun e w' => e = .returned (.bool (rightL l)) ∧ Below w.heap.size w w' := by
  by_cases h4 : l.length < 4
  · have hr : rightL l = false := by unfold rightL; rw [show decide (4 ≤ l.length) = false by simp; omega]; rfl
    rw [hr]
    exact refright_small ao l.length c w h4
  · obtain ⟨b, o, rfl, _⟩ := h (by intro h0; rw [h0] at h4; simp at h4)
    have := refright_big b o (l.length - 4) l c w h (by omega) (by omega) hc2 (by omega)
    rwa [show l.length - 4 + 4 = l.length by omega] at this
end Go.Proofs.Ytjfnjpjkpkpohaa.Cr
