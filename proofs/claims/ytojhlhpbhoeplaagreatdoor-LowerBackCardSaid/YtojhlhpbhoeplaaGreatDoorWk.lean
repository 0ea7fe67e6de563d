/-
  The contracts of leb.Take and of the statements' own heads (it returns true). Condition: the library's variable errors.errorType is as its text lays it.
-/
import Derived.Test.YtojhlhpbhoeplaaGreatDoorWi
namespace Go.Proofs.YtojhlhpbhoeplaaGreatDoor.Sh
open Go.RowKit Go.Lib Lb

theorem Own.below {w w' : World} {B : Nat} {v : Value} {l : List UInt8} (h : Own w B v l) (hb : Below w.heap.size w w') : Own w' B v l :=
  World.ownsRow.kept (row := none) h ⟨hb.os, hb.tape, hb.output, hb.size, fun i hi _ => hb.block i hi⟩ (Classical.em _)
/-- what Take leaves -/
def TPost (r : List UInt8 × Nat × Nat) (w : World) (e : Ending) (w' : World) : Prop :=
  Below w.heap.size w w' ∧ ∃ v, e = .returned (.tuple #[v, .int .i64 (r.2.1 : Nat), .int .i64 (r.2.2 : Nat)]) ∧ Own w' w.heap.size v r.1
theorem take_any (ao : Option Addr) (l : List UInt8) (c : Nat) (most : Int) (w : World) (hg : ErrT w) (h : Byt w ao l) (hc : l.length ≤ c) (hl : c ≤ 9223372036854775807) (hl47 : l.length ≤ 140737488355328)
    (hm0 : -9223372036854775808 ≤ most) (hm1 : most ≤ 9223372036854775807) :
    Calls Tryz.prog 75 #[.slice ao l.length c, .int .i64 most] w (TPost (takeR l most) w) := by
  have cn := counted_any ao l c most w h hc hl hl47 hm0 hm1
  obtain ⟨r, n, q, hr⟩ : ∃ r n q, takeR l most = (r, n, q) := ⟨_, _, _, rfl⟩
  rw [hr] at cn ⊢
  have CN := Lib.hid cn
  have CE := fun W (h : ErrT W) => errno_any q W h
  clear cn hr h
  go_enter Tryz.func75, Tryz.ntmps75
  go_wp2_with fail
  refine CN.out.mono ?_
  rintro e w1 ⟨hb1, v, rfl, hown⟩
  go_wp2_with fail
  refine (CE _ (hg.below hb1)).mono ?_
  rintro e w2 ⟨rfl, hb2⟩
  go_wp2_with fail
  go_ret3
  exact ⟨hb1.trans (hb2.mono hb1.size), v, rfl, Own.below hown hb2⟩

theorem byt_lit (w : World) (l : List UInt8) (vs : Array Value) (h : vs = (bs l).toArray) : Byt (w.alloc (.cells vs 5)) (some ⟨w.heap.size, 0, none⟩) l := fun _ => by
  refine ⟨w.heap.size, 0, rfl, by simp, fun j hj => ?_⟩
  rw [World.cell?_alloc_new, h]
  simp [bs, hj]

end Go.Proofs.YtojhlhpbhoeplaaGreatDoor.Sh
