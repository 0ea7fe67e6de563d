/-
  The walk of the statement ShaSums. Condition: the tables of sha stand in memory.
-/
import Derived.Test.YtekmmafgknnmlaaDoorWv
namespace Go.Proofs.YtekmmafgknnmlaaDoor.Sh
open Go.RowKit Go.Lib

set_option maxHeartbeats 1000000 in
set_option maxRecDepth 100000 in
theorem sums_law (ao : Option Addr) (l : List UInt8) (c : Nat) (w : World) (hl : Lay w) (h : Byt w ao l) (hn : ao = none → c = 0) (hc : l.length ≤ c) (hc2 : c ≤ 9223372036854775807) :
    Calls Tryd.prog 5 #[.slice ao l.length c] w fun e w' => e = .returned (.bool true) ∧ Below w.heap.size w w' := by
  have C8 : Hid (∀ W, Below w.heap.size w W → Calls Tryd.prog 8 #[] W fun e w' => e = .returned (.bool true) ∧ Below W.heap.size W w') := fun W hb => heads_any W (hl.below hb)
  have B0 := Lib.hid (Below.refl w.heap.size w)
  by_cases hk : 2000 < l.length
  · have d1 : ((l.length : Int) > 2000) := by omega
    go_enter Tryd.func5, Tryd.ntmps5
    go_wp2_with fail
    refine (C8.out _ B0.out).mono ?_
    rintro e w1 ⟨rfl, b1⟩
    go_wp2_with fail
    go_ret
    exact ⟨rfl, b1⟩
  · have d1 : ¬ ((l.length : Int) > 2000) := by omega
    have C18 := Lib.hid (sum_any l ao l.length c w hl h hn rfl hc hc2 (by omega))
    have C19 : Hid (∀ W, Below w.heap.size w W → Calls Tryd.prog 19 #[.slice ao l.length c] W (Row W (sumS l))) := fun W hb => refsum_any l ao l.length c W (h.below hb) hn rfl (by omega)
    clear hl h
    generalize sumS l = q at *
    go_enter Tryd.func5, Tryd.ntmps5
    go_wp2_with fail
    refine C18.out.mono ?_
    rintro e w1 ⟨b1, v1, rfl, o1⟩
    obtain ⟨a1, c1, rfl, x1, x2, r1, n1⟩ := own_byt o1
    have B1 := Lib.hid b1
    clear b1 o1
    go_wp2_with fail
    refine (C19.out _ B1.out).mono ?_
    rintro e w2 ⟨b2, v2, rfl, o2⟩
    obtain ⟨a2, c2, rfl, y1, y2, r2, n2⟩ := own_byt o2
    have CS := Lib.hid (same_bytes a1 a2 q c1 c2 w2 (r1.below b2) r2 n1 n2)
    have B2 := Lib.hid (below_chain B1.out b2)
    clear b2 o2 r1 r2
    go_wp2_with fail
    refine CS.out.mono ?_
    rintro e w3 ⟨rfl, rfl⟩
    go_wp2_with fail
    refine (C8.out _ B2.out).mono ?_
    rintro e w4 ⟨rfl, b4⟩
    have B4 := Lib.hid (below_chain B2.out b4)
    clear b4
    go_wp2_with fail
    go_ret
    exact ⟨rfl, B4.out⟩
end Go.Proofs.YtekmmafgknnmlaaDoor.Sh
