/-
  The walk of the statement LebBack. Conditions: the library's variable errors.errorType is as its text lays it; the bytes are at most 2^20 each.
-/
import Derived.Test.YtahhoomiipgpcaaDoorLb
namespace Go.Proofs.YtahhoomiipgpcaaDoor.Lb
open Go.RowKit Go.Lib

theorem take_back (l m : List UInt8) (h : l.length < 18446744073709551616) : takeR (bytL l ++ m) (l.length : Int) = (l, (bytL l).length, 0) := by
  have hg : getL (bytL l ++ m) = (l.length, (putL l.length).length, 0) := by
    unfold bytL
    rw [List.append_assoc]
    exact getL_put l.length h (l ++ m)
  unfold takeR
  rw [hg]
  simp only
  rw [if_neg (by simp), if_neg (by omega), if_neg (by simp [bytL])]
  have e : ((bytL l ++ m).drop (putL l.length).length).take l.length = l := by
    unfold bytL
    rw [List.append_assoc, List.drop_left, List.take_left]
  rw [e]
  simp [bytL]

theorem ob_le {g B k n c : Nat} (h : (Value.slice (some ⟨g, 0, none⟩) n c).ownBlock = some k) (hB : B ≤ g) : B ≤ k := by
  obtain rfl : g = k := Option.some.inj h
  exact hB
theorem own_empty (W : World) (B : Nat) (hB : B ≤ W.heap.size) : Own (W.alloc (.cells #[] 5)) B (.slice (some ⟨W.heap.size, 0, none⟩) 0 0) [] := by
  have h := World.ownsRow_lit (e := 5) (size := 1) W #[] 0 hB (by decide) rfl
  exact h
set_option maxHeartbeats 1000000 in
set_option maxRecDepth 100000 in
theorem back_law (x : Nat) (ao bo : Option Addr) (l m : List UInt8) (c d : Nat) (hx : x < 18446744073709551616) (w : World) (hg : ErrT w) (hr : Byt w ao l) (hs : Byt w bo m) (hn : ao = none → c = 0) (hk : bo = none → d = 0)
    (hl : l.length ≤ 1048576) (hm : m.length ≤ 1048576) :
    Calls Tryd.prog 6 #[.int .u64 x, .slice ao l.length c, .slice bo m.length d] w fun e w' => e = .returned (.bool true) ∧ Below w.heap.size w w' := by
  have p1 := put_any x hx w
  have hpl := putL_len x
  have o1 := own_put w (putL x) w.heap.size (Nat.le_refl _) (by omega)
  have gp := getL_put x hx m
  have tb := take_back l m (by omega)
  have hbl := bytL_len l
  obtain ⟨p, hp⟩ : ∃ p, p = putL x := ⟨_, rfl⟩
  rw [← hp] at p1 hpl o1 gp
  obtain ⟨q, hq⟩ : ∃ q, q = bytL l := ⟨_, rfl⟩
  rw [← hq] at tb hbl
  have P1 := Lib.hid p1
  have HR := Lib.hid hr
  have HS := Lib.hid hs
  have GP := Lib.hid gp
  have TB := Lib.hid tb
  have HQ := Lib.hid hq
  have HG := Lib.hid hg
  obtain ⟨_, _, hv1, _, _, y1, n1⟩ := own_byt o1
  have Y1 := Lib.hid y1
  clear p1 hp gp tb hq hr hs hg n1
  go_enter Tryd.func6, Tryd.ntmps6
  go_wp2_with fail
  refine P1.out.mono ?_
  rintro e w1 ⟨rfl, rfl⟩
  have e1 := own_empty (w.alloc (.cells (bs p).toArray 5)) w.heap.size (by simp)
  rw [World.size_alloc] at e1
  have E1 := Lib.hid e1
  have R1 : Hid (Byt ((w.alloc (.cells (bs p).toArray 5)).alloc (.cells #[] 5)) (some ⟨w.heap.size, 0, none⟩) p) := Y1.out.below (al _ _)
  clear e1
  go_wp2_with (first
    | (at_builtin; refine wpl_app (t := 24) (e := 5) rfl (.tmp 18) (.tmp 19) rfl Tryd.underlying24 info5 w.heap.size (.slice (some ⟨w.heap.size + 1, 0, none⟩) 0 0) [] p rfl E1.out (some ⟨w.heap.size, 0, none⟩) p.length rfl R1.out (fun h => by cases h) (by simp; omega) (by simp; omega) ?_
       intro v1 w1 own1 grow1
       have b1 : Below w.heap.size w w1 := (((Below.refl _ w).alloc (Nat.le_refl _) _).alloc (by simp) _).grown grow1 (by simp; omega) (fun k hk => ob_le hk (by omega))
       rw [List.nil_append] at own1
       have S1 := Lib.hid (HS.out.below b1)
       have B1 := Lib.hid b1
       have hz1 := b1.size
       clear b1)
    | (at_builtin; refine wpl_app (t := 24) (e := 5) rfl (.tmp 20) (.tmp 21) rfl Tryd.underlying24 info5 w.heap.size v1 p m rfl own1 bo d rfl S1.out hk (by omega) hz1 ?_; intro v2 w2 own2 grow2))
  have b2 : Below w.heap.size w w2 := B1.out.grown grow2 hz1 (fun k hk => (own1.lt k hk).1)
  obtain ⟨a2, c2, rfl, l2, m2, y2, n2⟩ := own_byt own2
  have B2 := Lib.hid b2
  have hz2 := b2.size
  have cg := get_any a2 (p ++ m) c2 w2 (HG.out.below b2) y2 l2 m2
  rw [GP.out, List.length_append] at cg
  have CG := Lib.hid cg
  clear b2 cg y2 l2 m2 own1 own2 grow1 grow2
  go_wp2_with fail
  refine CG.out.mono ?_
  rintro e w3 ⟨rfl, b3⟩
  have B3 := Lib.hid (B2.out.trans (b3.mono hz2))
  have hz3 := B3.out.size
  clear b3
  go_wp2_with fail
  refine (bytes_any ao l c _ (HR.out.below B3.out) hn (by omega)).mono ?_
  rintro e w4 ⟨b4, v4, rfl, o4⟩
  rw [show bytL l = q from HQ.out.symm] at o4
  obtain ⟨a4, c4, rfl, l4, m4, y4, n4⟩ := own_byt o4
  have B4 := Lib.hid (B3.out.trans (b4.mono hz3))
  have hz4 := B4.out.size
  have e5 := own_empty w4 w.heap.size hz4
  have E5 := Lib.hid e5
  have Y5 := Lib.hid (y4.below (al w4 (.cells #[] 5)))
  have N4 := Lib.hid n4
  clear b4 e5 y4 n4 o4
  go_wp2_with (first
    | (at_builtin; refine wpl_app (t := 24) (e := 5) rfl (.tmp 30) (.tmp 31) rfl Tryd.underlying24 info5 w.heap.size (.slice (some ⟨w4.heap.size, 0, none⟩) 0 0) [] q rfl E5.out a4 c4 rfl Y5.out N4.out (by simp; omega) (by simp; omega) ?_
       intro v5 w5 own5 grow5
       have b5 : Below w.heap.size w w5 := (B4.out.alloc hz4 _).grown grow5 (by simp; omega) (fun k hk => ob_le hk (by omega))
       rw [List.nil_append] at own5
       have S5 := Lib.hid (HS.out.below b5)
       have B5 := Lib.hid b5
       have hz5 := b5.size
       clear b5)
    | (at_builtin; refine wpl_app (t := 24) (e := 5) rfl (.tmp 32) (.tmp 33) rfl Tryd.underlying24 info5 w.heap.size v5 q m rfl own5 bo d rfl S5.out hk (by omega) hz5 ?_; intro v6 w6 own6 grow6))
  have b6 : Below w.heap.size w w6 := B5.out.grown grow6 hz5 (fun k hk => (own5.lt k hk).1)
  obtain ⟨a6, c6, rfl, l6, m6, y6, n6⟩ := own_byt own6
  have hz6 := b6.size
  have cg := take_any a6 (q ++ m) c6 l.length w6 (HG.out.below b6) y6 l6 m6 (by rw [List.length_append]; omega) (by omega) (by omega)
  rw [TB.out] at cg
  have CT := Lib.hid cg
  have B6 := Lib.hid b6
  clear b6 cg y6 l6 m6 own5 own6 grow5 grow6
  go_wp2_with fail
  refine CT.out.mono ?_
  rintro e w7 ⟨b7, v7, rfl, o7⟩
  obtain ⟨a7, c7, rfl, l7, m7, y7, n7⟩ := own_byt o7
  have B7 := Lib.hid (B6.out.trans (b7.mono hz6))
  have cs := same_any ao a7 l l c c7 w7 (HR.out.below B7.out) y7 hn n7
  rw [decide_eq_true rfl] at cs
  have CS := Lib.hid cs
  clear b7 o7 y7 cs
  go_wp2_with fail
  refine CS.out.mono ?_
  rintro e w8 ⟨rfl, rfl⟩
  go_wp2_with fail
  refine (heads_any _ (HG.out.below B7.out)).mono ?_
  rintro e w9 ⟨rfl, b9⟩
  go_wp2_with fail
  go_ret
  exact ⟨rfl, B7.out.trans (b9.mono B7.out.size)⟩
end Go.Proofs.YtahhoomiipgpcaaDoor.Lb
