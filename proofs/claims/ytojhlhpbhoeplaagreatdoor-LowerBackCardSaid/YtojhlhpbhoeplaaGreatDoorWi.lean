/-
  The contracts of leb's counted and Take: for every slice of bytes and bound. Condition: the library's variable errors.errorType is as its text lays it.
-/
import Derived.Test.YtojhlhpbhoeplaaGreatDoorWh
namespace Go.Proofs.YtojhlhpbhoeplaaGreatDoor.Sh
open Go.RowKit Go.Lib Lb

/-- what Take answers -/
def takeR (l : List UInt8) (most : Int) : List UInt8 × Nat × Nat :=
  if (getL l).2.2 ≠ 0 then ([], 0, (getL l).2.2)
  else if most < 0 ∨ most < ((getL l).1 : Nat) then ([], 0, 2)
  else if l.length < (getL l).2.1 + (getL l).1 then ([], 0, 20)
  else ((l.drop (getL l).2.1).take (getL l).1, (getL l).2.1 + (getL l).1, 0)
/-- what counted leaves -/
def CPost (r : List UInt8 × Nat × Nat) (w : World) (e : Ending) (w' : World) : Prop :=
  Below w.heap.size w w' ∧ ∃ v, e = .returned (.tuple #[v, .int .i64 (r.2.1 : Nat), errV r.2.2]) ∧ Own w' w.heap.size v r.1

set_option maxRecDepth 100000 in
theorem slice3 (b o len c n x : Nat) (hx : x ≠ 0) (h : n + x ≤ c) (W : World) :
    (Instr.slice 22 (.slice (some ⟨b, o, none⟩) len c) (some (.int .i64 (n : Int))) (some (.int .i64 ((n : Int) + x))) (some (.int .i64 ((n : Int) + x)))).run Tryz.prog W = .ok (.slice (some ⟨b, o + n, none⟩) x x) W := by
  have hs := run_slice_lhm (P := Tryz.prog) W 22 (some ⟨b, o, none⟩) len c (by rw [Tryz.underlying22]; rfl) .i64 .i64 .i64 (n : Int) ((n : Int) + x) ((n : Int) + x) (by omega) (by omega) (by omega) (by omega)
  rw [hs]
  have e1 : ((n : Int) + x).toNat = n + x := by omega
  have e2 : ((n : Int)).toNat = n := by omega
  have e3 : Tryz.prog.elem 22 = 5 := by kernel_rfl
  rw [e1, e2, e3]
  simp [Tryz.sizeOf5, sliced, Result.andThen, WideShapes.add_plain, hx]
set_option maxHeartbeats 1000000 in
set_option maxRecDepth 100000 in
theorem counted_any (ao : Option Addr) (l : List UInt8) (c : Nat) (most : Int) (w : World) (h : Byt w ao l) (hc : l.length ≤ c) (hl : c ≤ 9223372036854775807) (hl47 : l.length ≤ 140737488355328)
    (hm0 : -9223372036854775808 ≤ most) (hm1 : most ≤ 9223372036854775807) :
    Calls Tryz.prog 89 #[.slice ao l.length c, .int .i64 most] w (CPost (takeR l most) w) := by
  have cn := number_any ao l c w h hc hl
  have hag := fun x n => getL_again l x n
  obtain ⟨x, n, q, hg⟩ : ∃ x n q, getL l = (x, n, q) := ⟨_, _, _, rfl⟩
  unfold takeR
  rw [hg] at cn hag ⊢
  simp only at cn ⊢
  by_cases hq : q = 0
  · subst hq
    obtain ⟨g1, g2, g3, _⟩ := hag x n rfl
    rw [if_neg (by simp)]
    rw [errV_zero] at cn
    have CN := Lib.hid cn
    clear cn hag hg
    by_cases hm : most < 0
    · rw [if_pos (Or.inl hm)]
      go_enter Tryz.func89, Tryz.ntmps89
      go_wp2_with fail
      refine CN.out.mono ?_
      rintro e w' ⟨rfl, rfl⟩
      go_wp2_with fail
      go_ret3
      exact ⟨Below.refl _ _, _, rfl, own_nil _ _⟩
    by_cases hx : most < (x : Int)
    · rw [if_pos (Or.inr hx)]
      go_enter Tryz.func89, Tryz.ntmps89
      go_wp2_with fail
      refine CN.out.mono ?_
      rintro e w' ⟨rfl, rfl⟩
      go_wp2_with fail
      go_ret3
      exact ⟨Below.refl _ _, _, rfl, own_nil _ _⟩
    rw [if_neg (by omega)]
    by_cases hs : l.length < n + x
    · rw [if_pos hs]
      go_enter Tryz.func89, Tryz.ntmps89
      go_wp2_with fail
      refine CN.out.mono ?_
      rintro e w' ⟨rfl, rfl⟩
      go_wp2_with fail
      go_ret3
      exact ⟨Below.refl _ _, _, rfl, own_nil _ _⟩
    rw [if_neg hs]
    obtain ⟨b, o, rfl, _⟩ := h (by intro h0; rw [h0] at g2; simp at g2; omega)
    have hr := (h.drop n).take x
    have hrl : ((l.drop n).take x).length = x := by rw [List.length_take, List.length_drop]; omega
    obtain ⟨r, hrr⟩ : ∃ r, r = (l.drop n).take x := ⟨_, rfl⟩
    rw [← hrr] at hr hrl ⊢
    have HRL := Lib.hid hrl
    clear hrr h hrl
    by_cases hx0 : x = 0
    · subst hx0
      obtain rfl : r = [] := List.eq_nil_of_length_eq_zero HRL.out
      go_enter Tryz.func89, Tryz.ntmps89
      go_wp2_with fail
      refine CN.out.mono ?_
      rintro e w' ⟨rfl, rfl⟩
      go_wp2_with fail
      go_ret3
      exact ⟨Below.refl _ _, _, rfl, own_nil _ _⟩
    · have hsl := slice3 b o l.length c n x hx0 (by omega)
      go_enter Tryz.func89, Tryz.ntmps89
      go_wp2_with fail
      refine CN.out.mono ?_
      rintro e w' ⟨rfl, rfl⟩
      go_wp2_with (at_builtin; refine wpl_app_len (t := 22) (e := 5) rfl (.const (.slice none 0 0)) (.tmp 47) rfl Tryz.underlying22 info5 w.heap.size _ [] r rfl (own_nil _ _) _ _ _ rfl hr (fun h => by cases h) HRL (by simp; omega) (Nat.le_refl _) ?_; intro v' w' hown' hgrow)
      have hb' : Below w.heap.size w w' := (Below.refl _ w).grown hgrow (Nat.le_refl _) (fun k hk => by cases hk)
      go_wp2_with fail
      go_ret3
      exact ⟨hb', _, rfl, hown'⟩
  · rw [if_pos hq]
    rw [errV_pos hq] at cn
    have CN := Lib.hid cn
    clear cn hag hg
    have he := errV_pos hq
    have HE := Lib.hid he
    clear he
    go_enter Tryz.func89, Tryz.ntmps89
    go_wp2_with fail
    refine CN.out.mono ?_
    rintro e w' ⟨rfl, rfl⟩
    go_wp2_with fail
    go_ret3
    exact ⟨Below.refl _ _, _, by rw [HE.out]; rfl, own_nil _ _⟩
end Go.Proofs.YtojhlhpbhoeplaaGreatDoor.Sh
