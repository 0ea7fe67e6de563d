/-
  The walks of the statements LebCut and LebWrites. Conditions: the library's variable errors.errorType is as its text lays it; bytes are at most 2^47 - 10.
-/
import Derived.Test.YtahhoomiipgpcaaDoorWk
namespace Go.Proofs.YtahhoomiipgpcaaDoor.Lb
open Go.RowKit Go.Lib

theorem al (W : World) (o : Obj) : Below W.heap.size W (W.alloc o) := (Below.refl _ W).alloc (Nat.le_refl _) o
set_option maxHeartbeats 1000000 in
set_option maxRecDepth 100000 in
theorem cut_law (x : Nat) (cut : Int) (hx : x < 18446744073709551616) (w : World) (hg : ErrT w) :
    Calls Tryd.prog 4 #[.int .u64 x, .int .i64 cut] w fun e w' => e = .returned (.bool true) ∧ Below w.heap.size w w' := by
  have px := put_any x hx w
  have hl := putL_len x
  by_cases hc : 0 ≤ cut ∧ cut < ((putL x).length : Nat)
  · obtain ⟨hc0, hc1⟩ := hc
    obtain ⟨k, rfl⟩ : ∃ k : Nat, cut = k := ⟨cut.toNat, by omega⟩
    have hlen : ((putL x).take k).length = k := by rw [List.length_take]; omega
    have cg := get_any (some ⟨w.heap.size, 0, none⟩) ((putL x).take k) (putL x).length (w.alloc (.cells (bs (putL x)).toArray 5)) (hg.alloc _) ((byt_lit w (putL x) _ rfl).take k) (by omega) (by omega)
    rw [getL_cut x k (by omega), hlen] at cg
    obtain ⟨n, hn⟩ : ∃ n, n = (putL x).length := ⟨_, rfl⟩
    rw [← hn] at px hl cg hc1
    have PX := Lib.hid px
    have CG := Lib.hid cg
    clear px cg hlen hn
    go_enter Tryd.func4, Tryd.ntmps4
    go_wp2_with fail
    refine PX.out.mono ?_
    rintro e w1 ⟨rfl, rfl⟩
    go_wp2_with fail
    refine CG.out.mono ?_
    rintro e w2 ⟨rfl, b2⟩
    have q2 := (al w _).trans (b2.mono (by simp))
    go_wp2_with fail
    refine (heads_any _ (hg.below q2)).mono ?_
    rintro e w3 ⟨rfl, b3⟩
    go_wp2_with fail
    go_ret
    exact ⟨rfl, q2.trans (b3.mono q2.size)⟩
  · obtain ⟨n, hn⟩ : ∃ n, n = (putL x).length := ⟨_, rfl⟩
    rw [← hn] at px hl hc
    have PX := Lib.hid px
    clear px hn
    have hk : cut < 0 ∨ (0 ≤ cut ∧ (n : Int) ≤ cut) := by omega
    clear hc
    rcases hk with hk | ⟨hk0, hk⟩
    all_goals
      go_enter Tryd.func4, Tryd.ntmps4
      go_wp2_with fail
      refine PX.out.mono ?_
      rintro e w1 ⟨rfl, rfl⟩
      go_wp2_with fail
      refine (heads_any _ (hg.alloc _)).mono ?_
      rintro e w3 ⟨rfl, b3⟩
      go_wp2_with fail
      go_ret
      exact ⟨rfl, (al w _).trans (b3.mono (by simp))⟩

set_option maxHeartbeats 1000000 in
set_option maxRecDepth 100000 in
theorem writes_law (x : Nat) (ao : Option Addr) (l : List UInt8) (c : Nat) (hx : x < 18446744073709551616) (w : World) (hg : ErrT w) (hr : Byt w ao l) (hn : ao = none → c = 0) (hl : l.length ≤ 140737488355318) :
    Calls Tryd.prog 5 #[.int .u64 x, .slice ao l.length c] w fun e w' => e = .returned (.bool true) ∧ Below w.heap.size w w' := by
  have p1 := put_any x hx w
  have p2 := fun W => refput_any x hx W
  have p3 := fun W => size_any x hx W
  have hpl := putL_len x
  have o1 := own_put w (putL x) w.heap.size (Nat.le_refl _) (by omega)
  obtain ⟨p, hp⟩ : ∃ p, p = putL x := ⟨_, rfl⟩
  rw [← hp] at p1 p2 p3 hpl o1
  have P1 := Lib.hid p1
  have P2 := Lib.hid p2
  have P3 := Lib.hid p3
  have HR := Lib.hid hr
  clear p1 p2 p3 hp
  obtain ⟨a1, c1, hv1, _, _, y1, n1⟩ := own_byt o1
  go_enter Tryd.func5, Tryd.ntmps5
  go_wp2_with fail
  refine P1.out.mono ?_
  rintro e w1 ⟨rfl, rfl⟩
  go_wp2_with fail
  refine (P2.out _).mono ?_
  rintro e w2 ⟨b2, v2, rfl, o2⟩
  obtain ⟨a2, c2, rfl, _, _, y2, n2⟩ := own_byt o2
  have q2 := (al w _).trans (b2.mono (by simp))
  have z1 := y1.below b2
  have cs := same_any _ _ p p p.length c2 _ z1 y2 (fun h => by cases h) n2
  rw [decide_eq_true rfl] at cs
  have CS := Lib.hid cs
  clear cs z1 y2 y1
  go_wp2_with fail
  refine CS.out.mono ?_
  rintro e w3 ⟨rfl, rfl⟩
  go_wp2_with fail
  refine (bytes_any ao l c _ (HR.out.below q2) hn hl).mono ?_
  rintro e w3 ⟨b3, v3, rfl, o3⟩
  obtain ⟨a3, c3, rfl, _, _, y3, n3⟩ := own_byt o3
  have q3 := q2.trans (b3.mono q2.size)
  go_wp2_with fail
  refine (refbytes_any ao l c _ (HR.out.below q3) hn hl).mono ?_
  rintro e w4 ⟨b4, v4, rfl, o4⟩
  obtain ⟨a4, c4, rfl, _, _, y4, n4⟩ := own_byt o4
  have q4 := q3.trans (b4.mono q3.size)
  have ct := same_any _ _ (bytL l) (bytL l) c3 c4 _ (y3.below b4) y4 n3 n4
  rw [decide_eq_true rfl] at ct
  have CT := Lib.hid ct
  clear ct y3 y4
  go_wp2_with fail
  refine CT.out.mono ?_
  rintro e w5 ⟨rfl, rfl⟩
  go_wp2_with fail
  refine (P3.out _).mono ?_
  rintro e w5 ⟨rfl, rfl⟩
  go_wp2_with fail
  refine (P2.out _).mono ?_
  rintro e w6 ⟨b6, v6, rfl, o6⟩
  obtain ⟨a6, c6, rfl, _⟩ := own_byt o6
  have q6 := q4.trans (b6.mono q4.size)
  go_wp2_with fail
  refine (heads_any _ (hg.below q6)).mono ?_
  rintro e w7 ⟨rfl, b7⟩
  go_wp2_with fail
  go_ret
  exact ⟨rfl, q6.trans (b7.mono q6.size)⟩
end Go.Proofs.YtahhoomiipgpcaaDoor.Lb
