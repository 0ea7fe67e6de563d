/-
  The contract of the statements' heads. No condition.
-/
import Derived.Test.YtjfnjpjkpkpohaaWe
import Derived.Lib.SlBytesConst
namespace Go.Proofs.Ytjfnjpjkpkpohaa.Cr
open Go.RowKit Go.Lib

theorem cell_mark (W : World) (cs : Array Value) (t : TypeId) (f : Nat × Nat) (j : Nat) : (W.alloc (.cells cs t f)).cell? ⟨W.heap.size, j, none⟩ = cs[j]? := by
  show (match (W.heap.push _)[W.heap.size]? with | some (.cells cs ..) => _ | _ => _) = _
  simp
def H9 : List UInt8 := [49, 50, 51, 52, 53, 54, 55, 56, 57]
/-- what lay below, and the nine bytes, are as they were -/
def HB (w W : World) : Prop := Below (w.heap.size + 1) (w.alloc (.cells #[.int .u8 49, .int .u8 50, .int .u8 51, .int .u8 52, .int .u8 53, .int .u8 54, .int .u8 55, .int .u8 56, .int .u8 57] 5 (9, 10))) W
/-- a row of bytes -/
def Hd (W : World) (a : Option Addr) (c : Nat) (l : List UInt8) : Prop := l.length ≤ c ∧ c ≤ 9223372036854775807 ∧ Byt W a l
theorem HB.byt {w W : World} (h : HB w W) : Byt W (some ⟨w.heap.size, 0, none⟩) H9 := by
  have h0 : Byt (w.alloc (.cells #[.int .u8 49, .int .u8 50, .int .u8 51, .int .u8 52, .int .u8 53, .int .u8 54, .int .u8 55, .int .u8 56, .int .u8 57] 5 (9, 10))) (some ⟨w.heap.size, 0, none⟩) H9 := fun _ => by
    refine ⟨w.heap.size, 0, rfl, by simp, fun j hj => ?_⟩
    rw [Nat.zero_add, cell_mark]
    have hj' : j = 0 ∨ j = 1 ∨ j = 2 ∨ j = 3 ∨ j = 4 ∨ j = 5 ∨ j = 6 ∨ j = 7 ∨ j = 8 := by simp [H9] at hj; omega
    rcases hj' with rfl | rfl | rfl | rfl | rfl | rfl | rfl | rfl | rfl <;> rfl
  exact h0.below (by simpa [HB] using h)
theorem HB.low {w W : World} (h : HB w W) : Below w.heap.size w W := ((Below.refl _ w).alloc (Nat.le_refl _) _).trans (Below.mono h (by simp))
theorem HB.next {w W W' : World} (h : HB w W) (b : Below W.heap.size W W') : HB w W' := Below.trans h (b.mono (by simpa using Below.size h))
theorem v_sum : sumL H9 = 3421780262 := by decide +kernel
theorem v_sum4 : sumL (H9.take 4) = 2615402659 := by decide +kernel
theorem v_more : moreL 2615402659 (H9.drop 4) = 3421780262 := by decide +kernel
theorem v_bytes : (bytesL H9).length = 13 := by decide +kernel
theorem v_right : rightL (bytesL H9) = true := right_bytes H9
theorem v_wrong : rightL (H9.take 3) = false := by decide +kernel
theorem more_len (n s : Nat) (hs : s < 4294967296) (ao : Option Addr) (l : List UInt8) (c : Nat) (w : World) (h : Byt w ao l) (hn : l.length = n) (hc : n ≤ c) (hl : c ≤ 9223372036854775807) :
    Calls Try.prog 10 #[.int .u32 s, .slice ao n c] w fun e w' => e = .returned (.int .u32 (moreL s l)) ∧ w = w' := by
  subst hn
  exact more_any s hs ao l c w h hc hl
theorem right_len (n : Nat) (ao : Option Addr) (l : List UInt8) (c : Nat) (w : World) (h : Byt w ao l) (hn : l.length = n) (hc : n ≤ c) (hl : c ≤ 9223372036854775807) :
    Calls Try.prog 15 #[.slice ao n c] w fun e w' => e = .returned (.bool (rightL l)) ∧ Below w.heap.size w w' := by
  subst hn
  exact right_any ao l c w h hc hl

set_option maxHeartbeats 8000000 in
set_option maxRecDepth 100000 in
theorem heads_any (w : World) :
    Calls Try.prog 8 #[] w fun e w' => e = .returned (.bool true) ∧ Below w.heap.size w w' := by
  have C7a := Lib.hid (fun W (h : HB w W) => (sum_len 9 (some ⟨w.heap.size, 0, none⟩) H9 9 W h.byt rfl (by decide) (by decide)).mono (R' := fun e w' => e = .returned (.int .u32 3421780262) ∧ W = w') fun e w' ⟨he, hw⟩ => ⟨by rw [he, v_sum]; rfl, hw⟩)
  have C7b := Lib.hid (fun W (h : HB w W) => (sum_len 4 (some ⟨w.heap.size, 0, none⟩) (H9.take 4) 9 W (h.byt.take 4) rfl (by decide) (by decide)).mono (R' := fun e w' => e = .returned (.int .u32 2615402659) ∧ W = w') fun e w' ⟨he, hw⟩ => ⟨by rw [he, v_sum4]; rfl, hw⟩)
  have C10 := Lib.hid (fun W (h : HB w W) => (show Calls Try.prog 10 #[.int .u32 2615402659, .slice (some ⟨w.heap.size, 4, none⟩) 5 5] W fun e w' => e = .returned (.int .u32 3421780262) ∧ W = w' from
    ((more_len 5 2615402659 (by decide) (some ⟨w.heap.size, 0 + 4, none⟩) (H9.drop 4) 5 W (h.byt.drop 4) rfl (by decide) (by decide)).mono fun e w' ⟨he, hw⟩ => ⟨by rw [he, v_more]; rfl, hw⟩)))
  have C13 := Lib.hid (fun W (h : HB w W) => (show Calls Try.prog 13 #[.slice (some ⟨w.heap.size, 0, none⟩) 9 9] W fun e w' => HB w w' ∧ ∃ a c, e = .returned (.slice a 13 c) ∧ Hd w' a c (bytesL H9) from
    ((bytes_any (some ⟨w.heap.size, 0, none⟩) H9 9 W h.byt (fun h => by cases h) (by decide) (by decide) (by decide)).mono fun e w' ⟨hb, v, he, ho⟩ => by
      obtain ⟨a, c, rfl, h1, h2, h3, _⟩ := own_byt ho
      exact ⟨h.next hb, a, c, by rw [he, v_bytes], h1, h2, h3⟩)))
  have C15a := Lib.hid (fun W a c (h : HB w W) (hd : Hd W a c (bytesL H9)) => (show Calls Try.prog 15 #[.slice a 13 c] W fun e w' => e = .returned (.bool true) ∧ HB w w' from
    ((right_len 13 a (bytesL H9) c W hd.2.2 v_bytes (by have := hd.1; rw [v_bytes] at this; exact this) hd.2.1).mono fun e w' ⟨he, hb⟩ => ⟨by rw [he, v_right], h.next hb⟩)))
  have C15b := Lib.hid (fun W (h : HB w W) => (show Calls Try.prog 15 #[.slice (some ⟨w.heap.size, 0, none⟩) 3 9] W fun e w' => e = .returned (.bool false) ∧ HB w w' from
    ((right_len 3 (some ⟨w.heap.size, 0, none⟩) (H9.take 3) 9 W (h.byt.take 3) rfl (by decide) (by decide)).mono fun e w' ⟨he, hb⟩ => ⟨by rw [he, v_wrong], h.next hb⟩)))
  have q0 : HB w (w.alloc (.cells #[.int .u8 49, .int .u8 50, .int .u8 51, .int .u8 52, .int .u8 53, .int .u8 54, .int .u8 55, .int .u8 56, .int .u8 57] 5 (9, 10))).drew := (Below.refl _ _).drew
  have kc := fun (w : World) (C : Array Value) (n c : Nat) => Lib.run_convert_bytes_const (P := Try.prog) w 22 5 C n c Try.underlying22 Try.underlying5
  go_enter Try.func8, Try.ntmps8
  go_wp2_with fail
  go_region_with (first
    | (go_at_call 7; (with_reducible refine (C7a.out _ ?_).mono ?_); assumption; rintro e w1 ⟨rfl, rfl⟩)
    | (go_at_call 7; (with_reducible refine (C7b.out _ ?_).mono ?_); assumption; rintro e w1 ⟨rfl, rfl⟩)
    | (go_at_call 10; (with_reducible refine (C10.out _ ?_).mono ?_); assumption; rintro e w1 ⟨rfl, rfl⟩)
    | (go_at_call 13; (with_reducible refine (C13.out _ ?_).mono ?_); assumption; rintro e w2 ⟨b2, a2, c2, rfl, h2⟩)
    | (go_at_call 15; (with_reducible refine (C15b.out _ ?_).mono ?_); assumption; rintro e w3 ⟨rfl, b3⟩)
    | (go_at_call 15; (with_reducible refine (C15a.out _ _ _ ?_ ?_).mono ?_); assumption; assumption; rintro e w4 ⟨rfl, b4⟩))
  all_goals (go_wp2_with fail; go_ret)
  all_goals exact ⟨rfl, b3.low⟩
end Go.Proofs.Ytjfnjpjkpkpohaa.Cr
