/-
  The contracts of slices' SortStableFunc at entries, and of the equality that Merge hands CompactFunc. Conditions: each law's own.
-/
import Derived.Test.YtpcmminokhmkjaaDoorSe
namespace Go.Proofs.YtpcmminokhmkjaaDoor.St
open Go.Shelf Go.RowKit Go.Lib Go.Sort
set_option maxRecDepth 100000 in
theorem ins_none (p : Option Addr) (cap : Nat) (fv : Value) (w : World) :
    Calls Tryd.prog 45 #[.slice p 0 cap, .int .i64 0, .int .i64 0, fv] w fun e w' => e = .returned (.tuple #[]) ∧ w' = w := by
  go_enter Tryd.func45, Tryd.ntmps45
  go_wp2
  refine wp_loop_rounds 1 ?_
  rw [rounds_succ]
  go_wp2
  exact ⟨rfl, _, results_none rfl _ _ _, rfl, rfl⟩
set_option maxRecDepth 100000 in
theorem stable_none (p : Option Addr) (cap : Nat) (fv : Value) (w : World) :
    Calls Tryd.prog 35 #[.slice p 0 cap, .int .i64 0, fv] w fun e w' => e = .returned (.tuple #[]) ∧ w' = w := by
  have hi := fun W => ins_none p cap fv W
  go_enter Tryd.func35, Tryd.ntmps35
  go_wp2
  refine wp_loop_rounds 1 ?_
  rw [rounds_succ]
  go_wp2_with (go_at_call 45; refine (hi _).mono ?_; rintro e w' ⟨rfl, rfl⟩)
  refine wp_loop_rounds 1 ?_
  rw [rounds_succ]
  go_wp2
  exact ⟨rfl, _, results_none rfl _ _ _, rfl, rfl⟩
set_option maxRecDepth 100000 in
theorem sort_none (p : Option Addr) (cap : Nat) (fv : Value) (w : World) :
    Calls Tryd.prog 19 #[.slice p 0 cap, fv] w fun e w' => e = .returned (.tuple #[]) ∧ w' = w := by
  have hi := fun W => stable_none p cap fv W
  go_enter Tryd.func19, Tryd.ntmps19
  go_wp2_with (go_at_call 35; refine (hi _).mono ?_; rintro e w' ⟨rfl, rfl⟩)
  exact ⟨rfl, _, results_none rfl _ _ _, rfl, rfl⟩
set_option maxRecDepth 100000 in
theorem sort_any (blk off cap N : Nat) (d0 : Array TE) (w : World) (R : RW w blk off d0) (hN0 : d0.size = N) (hsz : N < 2305843009213693952) (htag : ∀ k, k < N → tgT d0[k]! = k) :
    Calls Tryd.prog 19 #[.slice (some ⟨blk, off, none⟩) N cap, .func (.func 20) #[] #[]] w fun e w' => e = .returned (.tuple #[]) ∧ ∃ d', SW w blk off d' w' ∧ PermIn 0 N d0 d' ∧ So ltT tgT 0 N d' := by
  have hi := stable_any 20 #[] (enters_of Tryd.func20 (by decide) rfl) blk off cap N d0 w (cmpLays20 blk off _ w) R hN0 hsz htag w (SWK.start R.hH)
  clear R
  go_enter Tryd.func19, Tryd.ntmps19
  go_wp2_with (go_at_call 35; refine hi.mono ?_; rintro e w' ⟨rfl, hw⟩)
  exact ⟨rfl, _, results_none rfl _ _ _, rfl, hw⟩
set_option maxRecDepth 100000 in
theorem closure23 (x y : Ent) (W : World) : Calls Tryd.prog 23 #[.agg (encE x).toArray, .agg (encE y).toArray] W fun e w' => e = .returned (.bool (x.key.toList == y.key.toList)) ∧ ∃ q os', w' = grow (W.drewN q) os' := by
  obtain ⟨k, a, b, c, d⟩ := x
  obtain ⟨k2, a2, b2, c2, d2⟩ := y
  simp only [encE]
  go_enter Tryd.func23, Tryd.ntmps23
  go_wp2
  go_ret
  exact ⟨rfl, 0, _, by rw [alloc_eq_grow, alloc_eq_grow, grow_grow]; rfl⟩
end Go.Proofs.YtpcmminokhmkjaaDoor.St
