/-
  The walk of the statement LebAgain. Condition: the library's variable errors.errorType is as its text lays it.
-/
import Derived.Test.YtahhoomiipgpcaaDoorLb
import Derived.Deep.RegionWith
namespace Go.Proofs.YtahhoomiipgpcaaDoor.Lb
open Go.RowKit Go.Lib

set_option maxHeartbeats 1000000 in
set_option maxRecDepth 100000 in
theorem again_law (ao : Option Addr) (l : List UInt8) (c : Nat) (w : World) (hg : ErrT w) (hr : Byt w ao l) (hc : l.length ≤ c) (hm : c ≤ 9223372036854775807) :
    Calls Tryd.prog 7 #[.slice ao l.length c] w fun e w' => e = .returned (.bool true) ∧ Below w.heap.size w w' := by
  have cg := get_any ao l c w hg hr hc hm
  have h1 := getL_again l
  have h2 := getL_err l
  obtain ⟨x, n, q, hq⟩ : ∃ x n q, getL l = (x, n, q) := ⟨_, _, _, rfl⟩
  rw [hq] at cg h1 h2
  simp only at cg h2
  by_cases h0 : q = 0
  · subst h0
    obtain ⟨g1, g2, g3, g4⟩ := h1 x n rfl
    have hrt := hr.take n
    have hlen : (l.take n).length = n := by rw [List.length_take]; omega
    rw [← g4] at hrt hlen
    have px := fun W => put_any x g3 W
    obtain ⟨p, hp⟩ : ∃ p, p = putL x := ⟨_, rfl⟩
    rw [← hp] at px hrt hlen
    have CG := Lib.hid cg
    have PX := Lib.hid px
    have HR := Lib.hid hrt
    have HL := Lib.hid hlen
    clear cg h1 h2 hq g4 px hp hlen hrt hr
    have hc0 : c ≠ 0 := by omega
    go_enter Tryd.func7, Tryd.ntmps7
    go_wp2_with fail
    refine CG.out.mono ?_
    rintro e w1 ⟨rfl, b1⟩
    go_wp2_with fail
    have z1 := byt_lit w1 p _ rfl
    have z2 := (HR.out.below b1).below (al w1 (.cells (bs p).toArray 5))
    have ct := same_any _ _ p p p.length c _ z1.drew z2.drew (fun h => by cases h) (fun h => by
      exfalso
      obtain ⟨b, o, e, _⟩ := HR.out (by intro h0; have := HL.out; rw [h0] at this; simp at this; omega)
      rw [e] at h
      cases h)
    rw [decide_eq_true rfl] at ct
    have q1 : Below w.heap.size w (w1.alloc (.cells (bs p).toArray 5)).drew := (b1.alloc b1.size (.cells (bs p).toArray 5)).drew
    have ch := heads_any _ (hg.below q1)
    rw [HL.out] at ct
    have px := PX.out w1.drew
    rw [HL.out] at px
    have CT := Lib.hid ct
    have CH := Lib.hid ch
    have PW := Lib.hid px
    have Q1 := Lib.hid q1
    clear ct z1 z2 ch q1 px
    go_region_with (first
      | (go_at_call 9; refine PW.out.mono ?_; rintro e w2 ⟨rfl, rfl⟩)
      | (go_at_call 12; refine CT.out.mono ?_; rintro e w2 ⟨rfl, rfl⟩)
      | (go_at_call 10; refine CH.out.mono ?_; rintro e w2 ⟨rfl, b2⟩))
    all_goals (go_wp2_with fail; go_ret)
    all_goals exact ⟨rfl, Q1.out.trans (b2.mono Q1.out.size)⟩
  · obtain ⟨rfl, rfl⟩ := h2 h0
    have hb : ((q : Int) != 0) = true := by simp; omega
    have CG := Lib.hid cg
    clear cg h1 h2 hq h0 hr
    go_enter Tryd.func7, Tryd.ntmps7
    go_wp2_with fail
    refine CG.out.mono ?_
    rintro e w1 ⟨rfl, b1⟩
    go_wp2_with fail
    refine (heads_any _ (hg.below b1)).mono ?_
    rintro e w7 ⟨rfl, b7⟩
    go_wp2_with fail
    go_ret
    exact ⟨rfl, b1.trans (b7.mono b1.size)⟩
end Go.Proofs.YtahhoomiipgpcaaDoor.Lb
