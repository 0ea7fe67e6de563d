/-
  The walk of the statement CrcCuts. No condition.
-/
import Derived.Test.YtjfnjpjkpkpohaaWf
namespace Go.Proofs.Ytjfnjpjkpkpohaa.Cr
open Go.RowKit Go.Lib

set_option maxHeartbeats 8000000 in
set_option maxRecDepth 100000 in
theorem cuts_in (b o : Nat) (l : List UInt8) (c t : Nat) (w : World) (h : Byt w (some ⟨b, o, none⟩) l) (hc : l.length ≤ c) (hc2 : c ≤ 9223372036854775807) (ht : t ≤ l.length) (htc : t < c) :
    Calls Try.prog 5 #[.slice (some ⟨b, o, none⟩) l.length c, .int .i64 t] w fun e w' => e = .returned (.bool true) ∧ Below w.heap.size w w' := by
  obtain ⟨n, hn⟩ : ∃ n, n = l.length := ⟨_, rfl⟩
  rw [← hn] at hc ht ⊢
  have c1 := sum_len t (some ⟨b, o, none⟩) (l.take t) c w.drew (h.take t).drew (by simp; omega) (by omega) hc2
  have c2 := more_len (n - t) (sumL (l.take t)) (moreL_lt 0 _) (some ⟨b, o + t, none⟩) (l.drop t) (c - t) w.drew (h.drop t).drew (by simp; omega) (by omega) (by omega)
  have c3 := sum_len n (some ⟨b, o, none⟩) l c w.drew h.drew hn.symm hc hc2
  rw [more_sum, List.take_append_drop] at c2
  obtain ⟨p, hp⟩ : ∃ p, p = sumL (l.take t) := ⟨_, rfl⟩
  obtain ⟨q, hq⟩ : ∃ q, q = sumL l := ⟨_, rfl⟩
  rw [← hp] at c1 c2
  rw [← hq] at c2 c3
  have C1 := Lib.hid c1
  have C2 := Lib.hid c2
  have C3 := Lib.hid c3
  have C8 := Lib.hid (heads_any w.drew)
  have Q0 := Lib.hid (Below.refl w.heap.size w).drew
  clear c1 c2 c3 hp hq h hn
  go_enter Try.func5, Try.ntmps5
  go_wp2_with fail
  go_region_with (first
    | (go_at_call 10; (with_reducible refine C2.out.mono ?_); rintro e w1 ⟨rfl, rfl⟩)
    | (go_at_call 7; (with_reducible refine C1.out.mono ?_); rintro e w1 ⟨rfl, rfl⟩)
    | (go_at_call 7; (with_reducible refine C3.out.mono ?_); rintro e w1 ⟨rfl, rfl⟩)
    | (go_at_call 8; (with_reducible refine C8.out.mono ?_); rintro e w1 ⟨rfl, b1⟩))
  all_goals (go_wp2_with fail; go_ret)
  all_goals exact ⟨rfl, Q0.out.trans (b1.mono Q0.out.size)⟩

set_option maxHeartbeats 8000000 in
set_option maxRecDepth 100000 in
theorem cuts_edge (ao : Option Addr) (l : List UInt8) (c : Nat) (w : World) (h : Byt w ao l) (hn : ao = none → c = 0) (hc : l.length = c) (hc2 : c ≤ 9223372036854775807) :
    Calls Try.prog 5 #[.slice ao c c, .int .i64 c] w fun e w' => e = .returned (.bool true) ∧ Below w.heap.size w w' := by
  have C1 := Lib.hid (sum_len c ao l c w.drew h.drew hc (by omega) hc2)
  have c2 := fun (a : Option Addr) (d : Nat) (hd : d ≤ 9223372036854775807) => more_len 0 (sumL l) (moreL_lt 0 _) a [] d w.drew (byt_nil _ _) rfl (by omega) hd
  have C8 := Lib.hid (heads_any w.drew)
  have Q0 := Lib.hid (Below.refl w.heap.size w).drew
  simp only [more_sum, List.append_nil] at c2
  obtain ⟨q, hq⟩ : ∃ q, q = sumL l := ⟨_, rfl⟩
  rw [← hq] at C1 
  simp only [← hq] at c2
  have C2 := Lib.hid c2
  have z0 : 0 ≤ 9223372036854775807 := by decide
  clear c2 hq h hc
  have hd : decide ((c : Int) < 0) = false := by simp
  cases ao with
  | none =>
    obtain rfl : c = 0 := hn rfl
    go_enter Try.func5, Try.ntmps5
    go_wp2_with fail
    go_region_with (first
      | (go_at_call 10; (with_reducible refine (C2.out _ _ ?_).mono ?_); (first | exact hc2 | exact z0); rintro e w1 ⟨rfl, rfl⟩)
      | (go_at_call 7; (with_reducible refine C1.out.mono ?_); rintro e w1 ⟨rfl, rfl⟩)
      | (go_at_call 8; (with_reducible refine C8.out.mono ?_); rintro e w1 ⟨rfl, b1⟩))
    all_goals (go_wp2_with fail; go_ret)
    all_goals exact ⟨rfl, Q0.out.trans (b1.mono Q0.out.size)⟩

  | some a =>
    obtain ⟨b, o, sp⟩ := a
    go_enter Try.func5, Try.ntmps5
    go_wp2_with fail
    go_region_with (first
      | (go_at_call 10; (with_reducible refine (C2.out _ _ ?_).mono ?_); (first | exact hc2 | exact z0); rintro e w1 ⟨rfl, rfl⟩)
      | (go_at_call 7; (with_reducible refine C1.out.mono ?_); rintro e w1 ⟨rfl, rfl⟩)
      | (go_at_call 8; (with_reducible refine C8.out.mono ?_); rintro e w1 ⟨rfl, b1⟩))
    all_goals (go_wp2_with fail; go_ret)
    all_goals exact ⟨rfl, Q0.out.trans (b1.mono Q0.out.size)⟩

set_option maxHeartbeats 8000000 in
set_option maxRecDepth 100000 in
theorem cuts_empty (a : Addr) (c : Nat) (w : World) (hc : 0 < c) (hc2 : c ≤ 9223372036854775807) :
    Calls Try.prog 5 #[.slice (some a) 0 c, .int .i64 0] w fun e w' => e = .returned (.bool true) ∧ Below w.heap.size w w' := by
  have c1 := fun (a : Option Addr) => sum_len 0 a [] c w.drew (byt_nil _ _) rfl (by omega) hc2
  have c2 := fun (a : Option Addr) => more_len 0 (sumL []) (moreL_lt 0 _) a [] c w.drew (byt_nil _ _) rfl (by omega) hc2
  have C8 := Lib.hid (heads_any w.drew)
  have Q0 := Lib.hid (Below.refl w.heap.size w).drew
  simp only [more_sum, List.append_nil] at c2
  obtain ⟨q, hq⟩ : ∃ q, q = sumL [] := ⟨_, rfl⟩
  simp only [← hq] at c1 c2
  have C1 := Lib.hid c1
  have C2 := Lib.hid c2
  clear c1 c2 hq
  obtain ⟨b, o, sp⟩ := a
  go_enter Try.func5, Try.ntmps5
  go_wp2_with fail
  go_region_with (first
    | (go_at_call 10; (with_reducible refine (C2.out _).mono ?_); rintro e w1 ⟨rfl, rfl⟩)
    | (go_at_call 7; (with_reducible refine (C1.out _).mono ?_); rintro e w1 ⟨rfl, rfl⟩)
    | (go_at_call 8; (with_reducible refine C8.out.mono ?_); rintro e w1 ⟨rfl, b1⟩))
  all_goals (go_wp2_with fail; go_ret)
  all_goals exact ⟨rfl, Q0.out.trans (b1.mono Q0.out.size)⟩
set_option maxHeartbeats 1000000 in
set_option maxRecDepth 100000 in
theorem cuts_out (ao : Option Addr) (n c : Nat) (t : Int) (w : World) (ht : t < 0 ∨ (n : Int) < t) :
    Calls Try.prog 5 #[.slice ao n c, .int .i64 t] w fun e w' => e = .returned (.bool true) ∧ Below w.heap.size w w' := by
  have C8 := Lib.hid (heads_any w)
  by_cases h0 : t < 0
  · clear ht
    go_enter Try.func5, Try.ntmps5
    go_wp2_with (go_at_call 8; refine C8.out.mono ?_; rintro e w1 ⟨rfl, b1⟩)
    go_ret
    exact ⟨rfl, b1⟩
  · have h1 : (n : Int) < t := by omega
    clear ht
    go_enter Try.func5, Try.ntmps5
    go_wp2_with (go_at_call 8; refine C8.out.mono ?_; rintro e w1 ⟨rfl, b1⟩)
    go_ret
    exact ⟨rfl, b1⟩
theorem cuts_law (ao : Option Addr) (l : List UInt8) (c : Nat) (t : Int) (w : World) (h : Byt w ao l) (hn : ao = none → c = 0) (hc : l.length ≤ c) (hc2 : c ≤ 9223372036854775807) :
    Calls Try.prog 5 #[.slice ao l.length c, .int .i64 t] w fun e w' => e = .returned (.bool true) ∧ Below w.heap.size w w' := by
  by_cases ht : t < 0 ∨ (l.length : Int) < t
  · exact cuts_out ao l.length c t w ht
  · obtain ⟨k, rfl⟩ : ∃ k : Nat, t = (k : Int) := ⟨t.toNat, by omega⟩
    have hk : k ≤ l.length := by omega
    by_cases hkc : k = c
    · have hlc : l.length = c := by omega
      have := cuts_edge ao l c w h hn hlc hc2
      rwa [← hkc, show k = l.length by omega] at this ⊢
    · cases ao with
      | none => exact absurd (hn rfl) (by omega)
      | some a =>
        by_cases hl : l = []
        · subst hl
          obtain rfl : k = 0 := by simpa using hk
          exact cuts_empty a c w (by omega) hc2
        · obtain ⟨b, o, e, _⟩ := h hl
          injection e with e
          subst e
          exact cuts_in b o l c k w h hc hc2 hk (by omega)
end Go.Proofs.Ytjfnjpjkpkpohaa.Cr
