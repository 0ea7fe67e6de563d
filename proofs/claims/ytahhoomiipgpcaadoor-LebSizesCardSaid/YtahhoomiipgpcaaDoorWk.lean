/-
  The contracts of leb.Take and of the statements' own heads (it returns true). Condition: the library's variable errors.errorType is as its text lays it.
-/
import Derived.Test.YtahhoomiipgpcaaDoorWi
namespace Go.Proofs.YtahhoomiipgpcaaDoor.Lb
open Go.RowKit Go.Lib

theorem Own.below {w w' : World} {B : Nat} {v : Value} {l : List UInt8} (h : Own w B v l) (hb : Below w.heap.size w w') : Own w' B v l :=
  World.ownsRow.kept (row := none) h ⟨hb.os, hb.tape, hb.output, hb.size, fun i hi _ => hb.block i hi⟩ (Classical.em _)
/-- what Take leaves -/
def TPost (r : List UInt8 × Nat × Nat) (w : World) (e : Ending) (w' : World) : Prop :=
  Below w.heap.size w w' ∧ ∃ v, e = .returned (.tuple #[v, .int .i64 (r.2.1 : Nat), .int .i64 (r.2.2 : Nat)]) ∧ Own w' w.heap.size v r.1
theorem take_any (ao : Option Addr) (l : List UInt8) (c : Nat) (most : Int) (w : World) (hg : ErrT w) (h : Byt w ao l) (hc : l.length ≤ c) (hl : c ≤ 9223372036854775807) (hl47 : l.length ≤ 140737488355328)
    (hm0 : -9223372036854775808 ≤ most) (hm1 : most ≤ 9223372036854775807) :
    Calls Tryd.prog 16 #[.slice ao l.length c, .int .i64 most] w (TPost (takeR l most) w) := by
  have cn := counted_any ao l c most w h hc hl hl47 hm0 hm1
  obtain ⟨r, n, q, hr⟩ : ∃ r n q, takeR l most = (r, n, q) := ⟨_, _, _, rfl⟩
  rw [hr] at cn ⊢
  have CN := Lib.hid cn
  have CE := fun W (h : ErrT W) => errno_any q W h
  clear cn hr h
  go_enter Tryd.func16, Tryd.ntmps16
  go_wp2_with fail
  refine CN.out.mono ?_
  rintro e w1 ⟨hb1, v, rfl, hown⟩
  go_wp2_with fail
  refine (CE _ (hg.below hb1)).mono ?_
  rintro e w2 ⟨rfl, hb2⟩
  go_wp2_with fail
  go_ret3
  exact ⟨hb1.trans (hb2.mono hb1.size), v, rfl, Own.below hown hb2⟩

theorem byt_lit (w : World) (l : List UInt8) (vs : Array Value) (h : vs = (bs l).toArray) : Byt (w.alloc (.cells vs 5)) (some ⟨w.heap.size, 0, none⟩) l := fun _ => by
  refine ⟨w.heap.size, 0, rfl, by simp, fun j hj => ?_⟩
  rw [World.cell?_alloc_new, h]
  simp [bs, hj]
theorem v_get1 : getL [172, 2, 9] = (300, 2, 0) := by decide
theorem v_get2 : getL [128, 0] = (0, 0, 21) := by decide
theorem v_get3 : getL [128] = (0, 0, 20) := by decide
theorem v_take : takeR [2, 7, 8, 9] 5 = ([7, 8], 3, 0) := by decide
theorem v_put : putL 300 = [172, 2] := by decide
theorem v_size : (putL 127).length = 1 := by decide

set_option maxHeartbeats 1000000 in
set_option maxRecDepth 100000 in
theorem heads_any (w : World) (hg : ErrT w) :
    Calls Tryd.prog 10 #[] w fun e w' => e = .returned (.bool true) ∧ Below w.heap.size w w' := by
  have c1 := fun W (h : ErrT W) => get_any (some ⟨W.heap.size, 0, none⟩) [172, 2, 9] 3 (W.alloc (.cells #[.int .u8 172, .int .u8 2, .int .u8 9] 5)) (h.alloc _) (byt_lit W _ _ rfl) (by decide) (by decide)
  have c2 := fun W (h : ErrT W) => get_any (some ⟨W.heap.size, 0, none⟩) [128, 0] 2 (W.alloc (.cells #[.int .u8 128, .int .u8 0] 5)) (h.alloc _) (byt_lit W _ _ rfl) (by decide) (by decide)
  have c3 := fun W (h : ErrT W) => get_any (some ⟨W.heap.size, 0, none⟩) [128] 1 (W.alloc (.cells #[.int .u8 128] 5)) (h.alloc _) (byt_lit W _ _ rfl) (by decide) (by decide)
  have c4 := fun W (h : ErrT W) => take_any (some ⟨W.heap.size, 0, none⟩) [2, 7, 8, 9] 4 5 (W.alloc (.cells #[.int .u8 2, .int .u8 7, .int .u8 8, .int .u8 9] 5)) (h.alloc _) (byt_lit W _ _ rfl) (by decide) (by decide) (by decide) (by decide) (by decide)
  simp only [v_get1] at c1
  simp only [v_get2] at c2
  simp only [v_get3] at c3
  simp only [v_take] at c4
  have c5 := fun W => put_any 300 (by decide) W
  rw [v_put] at c5
  have c6 := fun W => size_any 127 (by decide) W
  rw [v_size] at c6
  have C1 := Lib.hid c1
  have C2 := Lib.hid c2
  have C3 := Lib.hid c3
  have C4 := Lib.hid c4
  have C5 := Lib.hid c5
  have C6 := Lib.hid c6
  clear c1 c2 c3 c4 c5 c6
  have al : ∀ (W : World) (o : Obj), Below W.heap.size W (W.alloc o) := fun W o => (Below.refl _ W).alloc (Nat.le_refl _) o
  go_enter Tryd.func10, Tryd.ntmps10
  go_wp2_with fail
  refine (C1.out _ hg).mono ?_
  rintro e w1 ⟨rfl, b1⟩
  have q1 := (al w _).trans (b1.mono (by simp))
  have g1 := hg.below q1
  go_wp2_with fail
  refine (C2.out _ g1).mono ?_
  rintro e w2 ⟨rfl, b2⟩
  have q2 := (al w1 _).trans (b2.mono (by simp))
  have g2 := g1.below q2
  go_wp2_with fail
  refine (C3.out _ g2).mono ?_
  rintro e w3 ⟨rfl, b3⟩
  have q3 := (al w2 _).trans (b3.mono (by simp))
  have g3 := g2.below q3
  go_wp2_with fail
  refine (C4.out _ g3).mono ?_
  rintro e w4 ⟨b4, v4, rfl, own4⟩
  have q4 := (al w3 _).trans (b4.mono (by simp))
  have g4 := g3.below q4
  obtain ⟨a4, d4, rfl, _⟩ := own_byt own4
  go_wp2_with fail
  refine (C5.out _).mono ?_
  rintro e w5 ⟨rfl, rfl⟩
  have h1 : Byt ((w4.alloc (.cells (bs [172, 2]).toArray 5)).alloc (.cells #[.int .u8 172, .int .u8 2] 5)) (some ⟨w4.heap.size, 0, none⟩) [172, 2] := (byt_lit w4 [172, 2] _ rfl).below (al _ _)
  have h2 : Byt ((w4.alloc (.cells (bs [172, 2]).toArray 5)).alloc (.cells #[.int .u8 172, .int .u8 2] 5)) (some ⟨w4.heap.size + 1, 0, none⟩) [172, 2] := by
    have h := byt_lit (w4.alloc (.cells (bs [172, 2]).toArray 5)) [172, 2] #[.int .u8 172, .int .u8 2] rfl
    rw [World.size_alloc] at h
    exact h
  have cs := same_any _ _ [172, 2] [172, 2] 2 2 _ h1 h2 (fun h => by cases h) (fun h => by cases h)
  rw [decide_eq_true rfl] at cs
  have CS := Lib.hid cs
  clear cs h1 h2
  go_wp2_with fail
  refine CS.out.mono ?_
  rintro e w6 ⟨rfl, rfl⟩
  go_wp2_with (go_at_call 8; refine (C6.out _).mono ?_; rintro e w7 ⟨rfl, rfl⟩)
  go_ret
  refine ⟨rfl, ?_⟩
  have t4 : Below w.heap.size w w4 := ((q1.trans (q2.mono q1.size)).trans (q3.mono (Nat.le_trans q1.size q2.size))).trans (q4.mono (Nat.le_trans (Nat.le_trans q1.size q2.size) q3.size))
  exact (t4.alloc t4.size _).alloc (Nat.le_trans t4.size (by simp)) _
end Go.Proofs.YtahhoomiipgpcaaDoor.Lb
