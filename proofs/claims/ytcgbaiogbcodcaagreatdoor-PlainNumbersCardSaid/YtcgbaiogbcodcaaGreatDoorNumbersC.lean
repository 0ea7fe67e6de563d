/-
  THE STATEMENT PlainNumbers (P17.3): of every file system of at most 60 inodes, a new inode has the least number from Next on that none has, and nothing in it; taken away it leaves the file system as it was; what came in reads behind the call as before.
  Conditions: none but what the row lists.
-/
import Derived.Test.YtcgbaiogbcodcaaGreatDoorPlA
import Derived.BigRegion
import Derived.Test.YtcgbaiogbcodcaaGreatDoorPlD
import Derived.Deep.QuietTactic
import Derived.BigQuiet
import Derived.StillTailTactics
import Derived.Test.YtcgbaiogbcodcaaGreatDoorTie
import Derived.Test.YtcgbaiogbcodcaaGreatDoorCards
import Derived.Test.YtcgbaiogbcodcaaGreatDoorJe
import Derived.ProofKit
import Derived.OpenShut
import Derived.LaidMore
import Derived.LaidHandle
import Derived.Lay
import Derived.Stop.Joined
import Derived.Stop.LaidErr
import Derived.Deep.DeepHandedRow
import Derived.Lib.LaidTab
import Derived.Lib.LaidU8
import Derived.MakeChecks
import Derived.Test.YtcgbaiogbcodcaaGreatDoorOc
import Derived.Test.YtcgbaiogbcodcaaGreatDoorPlB
import Derived.SizedLaws
import Derived.Lib.SmallJoins
import Derived.SliceStrings
import Derived.Deep.Slices
namespace Go.Proofs.YtcgbaiogbcodcaaGreatDoor.Lw
open Go.RowKit Go.Lib Go.Proofs.YtcgbaiogbcodcaaGreatDoor.Sh Go.Proofs.YtcgbaiogbcodcaaGreatDoor.Lb

/-- some yes or no -/
def SomeB (n : Nat) (w : World) (e : Ending) (w' : World) : Prop := (∃ b : Bool, e = .returned (.bool b) ∧ (b = true → n ≤ 60)) ∧ Below w.heap.size w w'
set_option maxHeartbeats 4000000 in
set_option maxRecDepth 100000 in
theorem small_any (ao : Option Addr) (l : List InoP) (n c : Nat) (next : Int) (w : World) (h : Irw w ao l) (hl : l.length = n) (hn : n ≤ 9223372036854775807) :
    Calls Tryz.prog 5 #[.agg #[.slice ao n c, .int .i64 next]] w (SomeB n w) := by
  obtain ⟨w1, hw1⟩ : ∃ w1, w1 = w.alloc (.cells #[.slice ao n c, .int .i64 next] 24) := ⟨_, rfl⟩
  have b1 : Below w.heap.size w w1 := by rw [hw1]; exact (Below.refl _ w).alloc (Nat.le_refl _) _
  have x1 : Sh.Blk w1 w.heap.size [.slice ao n c, .int .i64 next] 24 := by rw [hw1]; exact Sh.Blk.new w [.slice ao n c, .int .i64 next] 24 _ rfl
  have I1 := Lib.hid (h.below b1)
  have HL := Lib.hid hl
  have B1 := Lib.hid b1
  have X1 := Lib.hid x1
  have HW1 := Lib.hid hw1
  have c0 := x1.cell 0
  simp only [List.getElem?_cons_zero] at c0
  rw [hw1] at c0
  clear h hl x1 b1 hw1
  by_cases hbig : 60 < n
  · have t0 : decide ((60 : Int) < (n : Int)) = true := by simp; omega
    go_enter Tryz.func5, Tryz.ntmps5
    go_wp2_with fail
    rw [← HW1.out]
    go_ret
    exact ⟨⟨false, rfl, fun h => by cases h⟩, B1.out⟩
  have t0 : decide ((60 : Int) < (n : Int)) = false := by simp; omega
  have N60 : Hid (n ≤ 60) := by show n ≤ 60; omega
  go_enter Tryz.func5, Tryz.ntmps5
  go_wp2_with fail
  rw [← HW1.out]
  clear HW1 c0 t0
  go_loopw [3, 4] (fun vs vi wr => ∃ (i : Nat) (z : Int), i ≤ n ∧ vi = .int .i64 i ∧ vs = .int .i64 z ∧ Hid (Below w1.heap.size w1 wr)) (fun _ vi _ => n - (RowKit.intOf vi).toNat)
  case atStart => exact ⟨0, 0, Nat.zero_le _, rfl, rfl, Below.refl _ _⟩
  case round =>
    obtain ⟨i, z, hi, rfl, rfl, hB⟩ := hrel
    have c0 := (X1.out.low hB.out).cell 0
    simp only [List.getElem?_cons_zero] at c0
    have BB := Lib.hid (below_chain B1.out hB.out)
    by_cases hin : i < n
    rotate_left
    · have u1 : decide ((i : Int) < (n : Int)) = false := by simp; omega
      have u2 : decide (i < n) = false := by simp; omega
      go_wp2_with fail
      all_goals first
        | (go_quiet (fail); go_wp2_with fail; go_ret; exact ⟨⟨_, rfl, fun _ => by have := N60.out; omega⟩, BB.out⟩)
        | (go_ret; exact ⟨⟨_, rfl, fun _ => by have := N60.out; omega⟩, BB.out⟩)
    have u1 : decide ((i : Int) < (n : Int)) = true := by simp; omega
    have u2 : decide (i < n) = true := by simp; omega
    obtain ⟨x, hx⟩ : ∃ x, l[i]? = some x := ⟨_, List.getElem?_eq_getElem (by have := HL.out; omega)⟩
    obtain ⟨fb, fo, e, hfbl, da, dn, dc, na, nn, nc, za, zn, zc, aa, an, ac, h9, _⟩ := irw_at I1.out i x hx
    subst e
    have k4 := (h9.below hB.out hfbl).k4
    have q2 : (0 : Int) ≤ (i : Int) := by omega
    have q3 : (i : Int) < (n : Int) := by omega
    have hwi : IntKind.i64.wrap ((i : Int) + 1) = (i : Int) + 1 := by rw [IntKind.wrap]; simp [IntKind.bits, IntKind.signed]; omega
    clear hx h9 hfbl
    by_cases hz : z ≤ 50000
    · have v1 : decide (z ≤ 50000) = true := by simpa using hz
      go_wp2_with fail
      go_roundw
      case rel => exact ⟨i + 1, _, by omega, by go_num, rfl, hB⟩
      case measure => simp [RowKit.intOf]; omega
    · have v1 : decide (z ≤ 50000) = false := by simpa using hz
      go_wp2_with fail
      go_ret
      exact ⟨⟨_, rfl, fun _ => by have := N60.out; omega⟩, BB.out⟩
end Go.Proofs.YtcgbaiogbcodcaaGreatDoor.Lw
namespace Go.Proofs.YtcgbaiogbcodcaaGreatDoor.Lw
open Go.RowKit Go.Lib Go.Proofs.YtcgbaiogbcodcaaGreatDoor.Sh Go.Proofs.YtcgbaiogbcodcaaGreatDoor.Lb Go.Proofs.YtcgbaiogbcodcaaGreatDoor.Pf
open Go.Maps

theorem OkP.one_le {l : List InoP} {nx : Int} (h : OkP l nx) {x : InoP} (hx : x ∈ l) : 1 ≤ x.num := by
  obtain ⟨i, hi⟩ := List.getElem?_of_mem hx
  exact h.nums.pos hi
theorem OkP.only {l : List InoP} {nx : Int} (h : OkP l nx) {x y : InoP} (hx : x ∈ l) (hy : y ∈ l) (he : x.num = y.num) : x = y := by
  obtain ⟨i, hi⟩ := List.getElem?_of_mem hx
  obtain ⟨j, hj⟩ := List.getElem?_of_mem hy
  have := h.nums.unique hi hj he
  subst this
  rw [hi] at hj
  injection hj
set_option maxHeartbeats 8000000 in
set_option maxRecDepth 100000 in
theorem up_law (ao : Option Addr) (l : List InoP) (n c : Nat) (nx k : Int) (s : ByteArray) (w : World) (hE : ErrT w) (h : Irw w ao l) (hl : l.length = n) (hc : n ≤ c) (hcc : c ≤ 9223372036854775807) :
    Calls Tryz.prog 4 #[.agg #[.slice ao n c, .int .i64 nx], .int .i64 k, .string s] w fun e w' => e = .returned (.bool true) ∧ Below w.heap.size w w' := by
  obtain ⟨w1, hw1⟩ : ∃ w1, w1 = w.alloc (.cells #[.slice ao n c, .int .i64 nx] 24) := ⟨_, rfl⟩
  have b1 : Below w.heap.size w w1 := by rw [hw1]; exact below_alloc (Below.refl _ w) _
  have x1 : Sh.Blk w1 w.heap.size [.slice ao n c, .int .i64 nx] 24 := by rw [hw1]; exact Sh.Blk.new w [.slice ao n c, .int .i64 nx] 24 _ rfl
  have ET := Lib.hid hE
  have HI := Lib.hid h
  have HL := Lib.hid hl
  have B1 := Lib.hid b1
  have X1 := Lib.hid x1
  have C := Lib.hid (small_any ao l n c nx w1 (h.below b1) hl (by omega))
  have HW1 : Hid (w.alloc (.cells #[.slice ao n c, .int .i64 nx] 24) = w1) := hw1.symm
  have c0 := x1.cell 0
  have c1 := x1.cell 1
  simp only [List.getElem?_cons_zero, List.getElem?_cons_succ] at c0 c1
  rw [hw1] at c0 c1
  clear hE h hl b1 x1 hw1
  go_enter Tryz.func4, Tryz.ntmps4
  go_wp2_with fail
  rw [HW1.out]
  refine C.out.mono ?_
  clear C c0 c1 HW1
  rintro e w2 ⟨⟨b, rfl, _⟩, hb⟩
  have B2 := Lib.hid (below_chain B1.out hb)
  cases b with
  | false =>
    have CH := Lib.hid (heads_any w2 (ET.out.below B2.out))
    clear hb
    go_wp2_with fail
    refine CH.out.mono ?_
    rintro e w3 ⟨rfl, hb⟩
    have B3 := Lib.hid (below_chain B2.out hb)
    clear hb
    go_wp2_with fail
    go_ret
    exact ⟨rfl, B3.out⟩
  | true =>
    have X2 := Lib.hid (X1.out.low hb)
    have c0 := X2.out.cell 0
    have c1 := X2.out.cell 1
    simp only [List.getElem?_cons_zero, List.getElem?_cons_succ] at c0 c1
    have C := Lib.hid (lookup_any ao l n c nx k s w2 (ET.out.below B2.out) (HI.out.below B2.out) HL.out)
    clear hb X1 B1
    go_wp2_with fail
    refine C.out.mono ?_
    clear C c0 c1
    rintro e w3 ⟨hb, ⟨hno, rfl⟩ | ⟨hok, d, i, z, hd, hdk, hd2, _, hz, rfl⟩ | ⟨hok, m, hm, rfl⟩⟩
    · have B3 := Lib.hid (below_chain B2.out hb)
      have CH := Lib.hid (heads_any w3 (ET.out.below B3.out))
      clear hb hno
      go_wp2_with fail
      refine CH.out.mono ?_
      rintro e w4 ⟨rfl, hb⟩
      have B4 := Lib.hid (below_chain B3.out hb)
      clear hb
      go_wp2_with fail
      go_ret
      exact ⟨rfl, B4.out⟩
    rotate_left
    · have B3 := Lib.hid (below_chain B2.out hb)
      have CH := Lib.hid (heads_any w3 (ET.out.below B3.out))
      have hm1 : (m != 0) = true := by rcases hm with h1 | h1 | h1 <;> rw [h1.1] <;> rfl
      clear hb hok hm
      go_wp2_with fail
      refine CH.out.mono ?_
      rintro e w4 ⟨rfl, hb⟩
      have B4 := Lib.hid (below_chain B3.out hb)
      clear hb
      go_wp2_with fail
      go_ret
      exact ⟨rfl, B4.out⟩
    have B3 := Lib.hid (below_chain B2.out hb)
    have X3 := Lib.hid (X2.out.low hb)
    have OK := Lib.hid hok
    obtain ⟨q, x, hx, hxz⟩ := hok.stands hd (List.mem_of_getElem? hz)
    have HX := Lib.hid hx
    have HXZ := Lib.hid hxz
    have DD : Hid (d ∈ l ∧ d.num = k ∧ z ∈ d.nums) := ⟨hd, hdk, List.mem_of_getElem? hz⟩
    have c0 := X3.out.cell 0
    have c1 := X3.out.cell 1
    simp only [List.getElem?_cons_zero, List.getElem?_cons_succ] at c0 c1
    have C := Lib.hid (find_any ao l n c nx z w3 (HI.out.below B3.out) HL.out)
    clear hb hok hd hdk hd2 hz hx hxz X2 B2
    go_wp2_with fail
    refine C.out.mono ?_
    clear C c0 c1
    rintro e w4 ⟨hb, ⟨hno, _⟩ | ⟨_, i', y, hy, hyz, rfl⟩ | ⟨_, hno, _⟩⟩
    · exact absurd OK.out hno
    rotate_left
    · exact absurd HXZ.out (hno x (List.mem_of_getElem? HX.out))
    obtain rfl : i' = q := OK.out.nums.unique hy HX.out (hyz.trans HXZ.out.symm)
    have hin : i' < n := by have := (List.getElem?_eq_some_iff.1 hy).1; have := HL.out; omega
    have B4 := Lib.hid (below_chain B3.out hb)
    have X4 := Lib.hid (X3.out.low hb)
    have c0 := X4.out.cell 0
    have c1 := X4.out.cell 1
    simp only [List.getElem?_cons_zero, List.getElem?_cons_succ] at c0 c1
    have C := Lib.hid (parent_any ao l n c nx z w4 (HI.out.below B4.out) HL.out)
    have t0 : ¬ (i' : Int) < 0 := by omega
    have q2 : (0 : Int) ≤ (i' : Int) := by omega
    have q3 : (i' : Int) < (n : Int) := by omega
    clear hb hy hyz hin X3 B3
    go_wp2_with fail
    refine C.out.mono ?_
    clear C c0 c1
    rintro e w5 ⟨hb, hans⟩
    have B5 := Lib.hid (below_chain B4.out hb)
    have X5 := Lib.hid (X4.out.low hb)
    obtain ⟨fb, fo, e0, hfbl, da, dn, dc, na, nn, nc, za, zn, zc, aa, an, ac, h9, _⟩ := irw_at HI.out i' x HX.out
    subst e0
    have k1 := (h9.below B5.out hfbl).k1
    have c0 := X5.out.cell 0
    simp only [List.getElem?_cons_zero] at c0
    have CH := Lib.hid (heads_any w5 (ET.out.below B5.out))
    have XM : Hid (x ∈ l) := List.mem_of_getElem? HX.out
    have HD : Hid (x.kind = 2 → dirOf (enL l) z = k) := fun h2 => by
      have := OK.out.up DD.out.1 XM.out (by rw [HXZ.out]; exact DD.out.2.2) h2
      rw [HXZ.out, DD.out.2.1] at this
      exact this
    have K0 : Hid (k ≠ 0) := by
      have := OK.out.one_le DD.out.1
      rw [DD.out.2.1] at this
      show k ≠ 0
      omega
    have HK : Hid ((x.kind = 2 ∧ e = .returned (.int .i64 k)) ∨ (x.kind ≠ 2 ∧ e = .returned (.int .i64 0))) := by
      rcases hans with ⟨hno, _⟩ | ⟨_, ⟨y, hy, hyz, hy2⟩, rfl⟩ | ⟨_, h1 | ⟨y, hy, hyz, hy2⟩, rfl⟩
      · exact absurd OK.out hno
      · have := OK.out.only hy XM.out (hyz.trans HXZ.out.symm)
        subst this
        rw [HD.out hy2]
        exact .inl ⟨hy2, rfl⟩
      · exact absurd HXZ.out (h1 x XM.out)
      · have := OK.out.only hy XM.out (hyz.trans HXZ.out.symm)
        subst this
        exact .inr ⟨hy2, rfl⟩
    clear hb hans hfbl h9 X4 B4 t0
    rcases HK.out with ⟨h2, rfl⟩ | ⟨h2, rfl⟩
    · rw [h2] at k1
      have k0 : (k != 0) = true := by simpa using K0.out
      have k00 : (k == 0) = false := by simpa using K0.out
      clear HK h2
      go_wp2_with fail
      refine CH.out.mono ?_
      rintro e w6 ⟨rfl, hb⟩
      have B6 := Lib.hid (below_chain B5.out hb)
      clear hb
      go_wp2_with fail
      go_ret
      exact ⟨rfl, B6.out⟩
    · have k2 : (x.kind == 2) = false := by simpa using h2
      clear HK h2
      go_wp2_with fail
      refine CH.out.mono ?_
      rintro e w6 ⟨rfl, hb⟩
      have B6 := Lib.hid (below_chain B5.out hb)
      clear hb
      go_wp2_with fail
      go_ret
      exact ⟨rfl, B6.out⟩
end Go.Proofs.YtcgbaiogbcodcaaGreatDoor.Lw
namespace Go.Proofs.YtcgbaiogbcodcaaGreatDoor.Lw
open Go.RowKit Go.Lib Go.Proofs.YtcgbaiogbcodcaaGreatDoor.Sh Go.Proofs.YtcgbaiogbcodcaaGreatDoor.Lb Go.Proofs.YtcgbaiogbcodcaaGreatDoor.Pf
open Go.Maps

theorem newNum_app (l : List InoP) (a : InoP) (nx : Int) : newNum (l ++ [a]) nx = if a.num = newNum l nx then newNum l nx + 1 else newNum l nx := by
  unfold newNum
  rw [List.foldl_append]
  rfl
theorem newNum_has (nx : Int) (l : List InoP) : ∀ k, nx ≤ k → k < newNum l nx → ∃ x ∈ l, x.num = k := by
  refine snoc_ind (P := fun l => ∀ k, nx ≤ k → k < newNum l nx → ∃ x ∈ l, x.num = k) ?_ ?_ l
  · intro k h1 h2
    have : newNum [] nx = nx := rfl
    omega
  · intro l a ih k h1 h2
    rw [newNum_app] at h2
    split at h2
    · rename_i he
      rcases Int.lt_or_eq_of_le (show k ≤ newNum l nx by omega) with h3 | h3
      · obtain ⟨x, hx, hk⟩ := ih k h1 h3
        exact ⟨x, List.mem_append_left _ hx, hk⟩
      · exact ⟨a, by simp, by rw [he, h3]⟩
    · obtain ⟨x, hx, hk⟩ := ih k h1 h2
      exact ⟨x, List.mem_append_left _ hx, hk⟩
theorem newNum_free (nx : Int) (l : List InoP) : l.Pairwise (fun a b => a.num < b.num) → ∀ x ∈ l, x.num ≠ newNum l nx := by
  refine snoc_ind (P := fun l => l.Pairwise (fun a b => a.num < b.num) → ∀ x ∈ l, x.num ≠ newNum l nx) ?_ ?_ l
  · intro _ x hx
    cases hx
  · intro l a ih hp x hx
    rw [List.pairwise_append] at hp
    obtain ⟨h1, _, h3⟩ := hp
    rw [newNum_app]
    rcases List.mem_append.1 hx with hx | hx
    · have h4 := h3 x hx a (by simp)
      have h5 := ih h1 x hx
      split
      · omega
      · exact h5
    · obtain rfl := List.mem_singleton.1 hx
      split
      · omega
      · assumption
theorem Rise.pair {l : List InoP} (h : Rise l) : l.Pairwise (fun a b => a.num < b.num) := by
  rw [List.pairwise_iff_getElem]
  intro i j hi hj hij
  exact h i j _ _ hij (List.getElem?_eq_getElem hi) (List.getElem?_eq_getElem hj)
/-- what a row with a new inode is -/
structure MadeN (l : List InoP) (nx xk xm : Int) (xt : ByteArray) (L : List InoP) (i : Nat) : Prop where
  le : i ≤ l.length
  eq : L = l.take i ++ newP l nx xk xm xt :: l.drop i
  free : ∀ x ∈ l, x.num ≠ newNum l nx
  rise : Rise L
theorem made_n {l L : List InoP} {nx xk xm r : Int} {xt : ByteArray} (hr : Rise l) (h : MadeG l nx xk xm xt L r) : r = newNum l nx ∧ ∃ i, MadeN l nx xk xm xt L i := by
  obtain ⟨_, rfl, i, b, hs, hp⟩ := h
  have hf := newNum_free nx l hr.pair
  refine ⟨rfl, i, ?_⟩
  cases b with
  | true =>
    obtain ⟨x, hx, hk⟩ := hs.has.1 rfl
    exact absurd hk (hf x (List.mem_of_getElem? hx))
  | false =>
    have hp : L = putAt l i false (newP l nx xk xm xt) := hp
    refine ⟨hs.le, by rw [hp, putAt_ins], hf, by rw [hp]; exact hr.put hs⟩
theorem MadeN.get {l L : List InoP} {nx xk xm : Int} {xt : ByteArray} {i : Nat} (h : MadeN l nx xk xm xt L i) : L[i]? = some (newP l nx xk xm xt) := by
  rw [h.eq, List.getElem?_append_right (by rw [List.length_take]; have := h.le; omega), List.length_take, Nat.min_eq_left h.le, Nat.sub_self]
  rfl
theorem MadeN.len {l L : List InoP} {nx xk xm : Int} {xt : ByteArray} {i : Nat} (h : MadeN l nx xk xm xt L i) : L.length = l.length + 1 := by
  rw [h.eq]
  have := h.le
  simp
  omega
theorem MadeN.cut {l L : List InoP} {nx xk xm : Int} {xt : ByteArray} {i : Nat} (h : MadeN l nx xk xm xt L i) : cutAt L i = l := by
  have hi := h.le
  rw [h.eq]
  unfold cutAt
  rw [List.take_append_of_le_length (by rw [List.length_take]; omega), List.take_take, Nat.min_self, List.drop_append, List.length_take, Nat.min_eq_left hi, show i + 1 - i = 1 by omega, List.drop_of_length_le (by rw [List.length_take]; omega)]
  simp
theorem MadeN.mem {l L : List InoP} {nx xk xm : Int} {xt : ByteArray} {i : Nat} (h : MadeN l nx xk xm xt L i) {y : InoP} (hy : y ∈ L) : y = newP l nx xk xm xt ∨ y ∈ l := by
  rw [h.eq] at hy
  rcases List.mem_append.1 hy with h1 | h1
  · exact .inr (List.mem_of_mem_take h1)
  · rcases List.mem_cons.1 h1 with h1 | h1
    · exact .inl h1
    · exact .inr (List.mem_of_mem_drop h1)
theorem MadeN.at_new {l L : List InoP} {nx xk xm : Int} {xt : ByteArray} {i j : Nat} {y : InoP} (h : MadeN l nx xk xm xt L i) (hy : L[j]? = some y) (hk : y.num = newNum l nx) : j = i ∧ y = newP l nx xk xm xt := by
  have h1 := h.get
  have : j = i := by
    rcases Nat.lt_trichotomy j i with h2 | h2 | h2
    · have := h.rise j i _ _ h2 hy h1
      have e : (newP l nx xk xm xt).num = newNum l nx := rfl
      omega
    · exact h2
    · have := h.rise i j _ _ h2 h1 hy
      have e : (newP l nx xk xm xt).num = newNum l nx := rfl
      omega
  subst this
  rw [h1] at hy
  injection hy with hy
  exact ⟨rfl, hy.symm⟩
theorem MadeN.times {l L : List InoP} {nx xk xm : Int} {xt : ByteArray} {i : Nat} (h : MadeN l nx xk xm xt L i) (hok : OkP l nx) : times (enL L) (newNum l nx) = 0 := by
  rcases Nat.eq_zero_or_pos (Pf.times (enL L) (newNum l nx)) with h0 | h0
  · exact h0
  · exfalso
    obtain ⟨d, hd⟩ := times_mem.1 (show Pf.times (enL L) (newNum l nx) ≠ 0 by omega)
    obtain ⟨g, hg, _, hm⟩ := ents_mem.1 hd
    obtain ⟨y, hy, rfl⟩ := List.mem_map.1 hg
    rcases h.mem hy with rfl | hy
    · cases hm
    · obtain ⟨q, x, hx, hxk⟩ := hok.stands hy hm
      exact h.free x (List.mem_of_getElem? hx) hxk
theorem MadeN.drop {l L : List InoP} {nx xk xm : Int} {xt : ByteArray} {i : Nat} (h : MadeN l nx xk xm xt L i) (hok : OkP l nx) : (∀ m, ¬ DropM L (newNum l nx) m) ∧ ∀ L' r, DropG L (newNum l nx) L' r → L' = l := by
  have h1 : 1 < newNum l nx := by
    have := (newNum_le l nx).1
    have := hok.nums.lo
    omega
  refine ⟨fun m hm => ?_, fun L' r hg => ?_⟩
  · rcases hm with ⟨_, h2⟩ | ⟨_, x, hx, hk, h2⟩
    · exact h2 _ (List.mem_of_getElem? h.get) rfl
    · obtain ⟨j, hj⟩ := List.getElem?_of_mem hx
      obtain ⟨_, rfl⟩ := h.at_new hj hk
      rcases h2 with h2 | h2 | h2
      · omega
      · exact h2 rfl
      · have := h.times hok
        omega
  · obtain ⟨_, j, x, hj, hk, _, _, _, rfl⟩ := hg
    obtain ⟨rfl, _⟩ := h.at_new hj hk
    exact h.cut
end Go.Proofs.YtcgbaiogbcodcaaGreatDoor.Lw
namespace Go.Proofs.YtcgbaiogbcodcaaGreatDoor.Lw
open Go.RowKit Go.Lib Go.Proofs.YtcgbaiogbcodcaaGreatDoor.Sh Go.Proofs.YtcgbaiogbcodcaaGreatDoor.Lb

set_option maxHeartbeats 4000000 in
set_option maxRecDepth 100000 in
theorem attrs_same (ao bo : Option Addr) (l : List (ByteArray × List UInt8)) (n c d : Nat) (w : World) (h1 : Arw w ao l) (h2 : Arw w bo l) (hl : l.length = n) (hc : n ≤ c) (hcc : c ≤ 9223372036854775807) (hd : n ≤ d) :
    Calls Tryz.prog 39 #[.slice ao n c, .slice bo n d] w fun e w' => e = .returned (.bool true) ∧ Below w.heap.size w w' := by
  have H1 := Lib.hid h1
  have H2 := Lib.hid h2
  have HL := Lib.hid hl
  clear h1 h2 hl
  go_enter Tryz.func39, Tryz.ntmps39
  go_wp2_with fail
  go_loopw [5] (fun vi wr => ∃ i : Nat, i ≤ n ∧ vi = .int .i64 i ∧ Hid (Below w.heap.size w wr)) (fun vi _ => n - (RowKit.intOf vi).toNat)
  case atStart => exact ⟨0, by omega, rfl, Below.refl _ w⟩
  case round =>
    obtain ⟨i, hi, rfl, hB⟩ := hrel
    by_cases hin : i < n
    · obtain ⟨b, o, x, rfl, hb, hx, x0, _, ad, m, q, x1, hm, hmq, _, xb, xn⟩ := arw_cell H1.out i (by have := HL.out; omega)
      obtain ⟨b2, o2, y, rfl, hb2, hy, y0, _, bd, m2, q2, y1, hm2, hmq2, _, yb, yn⟩ := arw_cell H2.out i (by have := HL.out; omega)
      obtain rfl : x = y := by rw [hx] at hy; injection hy
      obtain ⟨s, v⟩ := x
      simp only at x0 hm xb y0 hm2 yb
      subst hm
      subst hm2
      have e0 := (hB.out.cell (p := ⟨b, o + i * 2, none⟩) hb).trans x0
      have e1 := (hB.out.cell (p := ⟨b, o + i * 2 + 1, none⟩) hb).trans x1
      have f0 := (hB.out.cell (p := ⟨b2, o2 + i * 2, none⟩) hb2).trans y0
      have f1 := (hB.out.cell (p := ⟨b2, o2 + i * 2 + 1, none⟩) hb2).trans y1
      have k1 : ∀ nn, (convert 33 9 (.slice ad v.length q)).run Tryz.prog (wr.drewN nn) = .ok (.string ⟨v.toArray⟩) (wr.drewN nn) := fun nn => conv_byt (P := Tryz.prog) (t := 33) (e := 5) (d := 9) Tryz.underlying33 Tryz.underlying5 Tryz.underlying9 ad v q (xb.below (Sh.below_drewN hB.out nn)) xn
      have k2 : ∀ nn, (convert 33 9 (.slice bd v.length q2)).run Tryz.prog (wr.drewN nn) = .ok (.string ⟨v.toArray⟩) (wr.drewN nn) := fun nn => conv_byt (P := Tryz.prog) (t := 33) (e := 5) (d := 9) Tryz.underlying33 Tryz.underlying5 Tryz.underlying9 bd v q2 (yb.below (Sh.below_drewN hB.out nn)) yn
      have q1 : (0 : Int) ≤ (i : Int) := by omega
      have q2' : (i : Int) < (n : Int) := by omega
      generalize v.length = vl at *
      generalize (⟨v.toArray⟩ : ByteArray) = vs at *
      clear x0 x1 y0 y1 hb hb2 hx hy hmq hmq2 xb xn yb yn
      go_wp2_with fail
      go_quiet (fail)
      generalize hwv : wr.drewN nq = wv at *
      have hB2 : Hid (Below w.heap.size w wv) := by show Below _ _ _; rw [← hwv]; exact Sh.below_drewN hB.out _
      clear hwv hB k1 k2
      go_wp2_with fail
      go_roundw
      case rel => exact ⟨i + 1, by omega, by go_num, hB2⟩
      case measure => simp [RowKit.intOf]; omega
    · obtain rfl : i = n := by omega
      go_wp2_with fail
      go_ret
      exact ⟨rfl, hB.out⟩
set_option maxHeartbeats 8000000 in
set_option maxRecDepth 100000 in
theorem inode_same (x : InoP) (da : Option Addr) (dn dc : Nat) (na : Option Addr) (nn nc : Nat) (za : Option Addr) (zn zc : Nat) (aa : Option Addr) (an ac : Nat) (da' : Option Addr) (dc' : Nat) (na' : Option Addr) (nc' : Nat) (za' : Option Addr) (zc' : Nat) (aa' : Option Addr) (ac' : Nat) (w : World)
    (h1 : IvP w x da dn dc na nn nc za zn zc aa an ac) (h2 : IvP w x da' dn dc' na' nn nc' za' zn zc' aa' an ac') :
    Calls Tryz.prog 20 #[.agg (ivC x da dn dc na nn nc za zn zc aa an ac).toArray, .agg (ivC x da' dn dc' na' nn nc' za' zn zc' aa' an ac').toArray] w fun e w' => e = .returned (.bool true) ∧ Below w.heap.size w w' := by
  obtain ⟨xn, xk, xm, xl, xd, xt, xs, xz, xa⟩ := x
  show Calls Tryz.prog 20 #[.agg #[.int .i64 xn, .int .i64 xk, .int .i64 xm, .int .i64 xl, .slice da dn dc, .string xt, .slice na nn nc, .slice za zn zc, .slice aa an ac], .agg #[.int .i64 xn, .int .i64 xk, .int .i64 xm, .int .i64 xl, .slice da' dn dc', .string xt, .slice na' nn nc', .slice za' zn zc', .slice aa' an ac']] w _
  obtain ⟨v0, hv0⟩ : ∃ v0, v0 = w.alloc (.cells #[.int .i64 xn, .int .i64 xk, .int .i64 xm, .int .i64 xl, .slice da dn dc, .string xt, .slice na nn nc, .slice za zn zc, .slice aa an ac] 38) := ⟨_, rfl⟩
  obtain ⟨wb, hwb⟩ : ∃ wb, wb = v0.alloc (.cells #[.int .i64 xn, .int .i64 xk, .int .i64 xm, .int .i64 xl, .slice da' dn dc', .string xt, .slice na' nn nc', .slice za' zn zc', .slice aa' an ac'] 38) := ⟨_, rfl⟩
  have sv : v0.heap.size = w.heap.size + 1 := by rw [hv0]; simp
  have b0 : Below w.heap.size w v0 := by rw [hv0]; exact (Below.refl _ w).alloc (Nat.le_refl _) _
  have b1 : Below v0.heap.size v0 wb := by rw [hwb]; exact (Below.refl _ v0).alloc (Nat.le_refl _) _
  have K0 : Sh.Blk v0 w.heap.size [.int .i64 xn, .int .i64 xk, .int .i64 xm, .int .i64 xl, .slice da dn dc, .string xt, .slice na nn nc, .slice za zn zc, .slice aa an ac] 38 := by rw [hv0]; exact Sh.Blk.new w [.int .i64 xn, .int .i64 xk, .int .i64 xm, .int .i64 xl, .slice da dn dc, .string xt, .slice na nn nc, .slice za zn zc, .slice aa an ac] 38 _ rfl
  have K1 : Sh.Blk wb v0.heap.size [.int .i64 xn, .int .i64 xk, .int .i64 xm, .int .i64 xl, .slice da' dn dc', .string xt, .slice na' nn nc', .slice za' zn zc', .slice aa' an ac'] 38 := by rw [hwb]; exact Sh.Blk.new v0 [.int .i64 xn, .int .i64 xk, .int .i64 xm, .int .i64 xl, .slice da' dn dc', .string xt, .slice na' nn nc', .slice za' zn zc', .slice aa' an ac'] 38 _ rfl
  rw [sv] at K1
  have KA := Lib.hid (K0.low b1)
  have KB := Lib.hid K1
  have HB := Lib.hid (below_chain b0 b1)
  have I1 := h1.below HB.out
  have I2 := h2.below HB.out
  have d1 := h1.d1
  simp only at d1
  subst d1
  have k1 := conv_byt (P := Tryz.prog) (w := wb) (t := 33) (e := 5) (d := 9) Tryz.underlying33 Tryz.underlying5 Tryz.underlying9 da xd dc I1.d4 I1.d5
  have k2 := conv_byt (P := Tryz.prog) (w := wb) (t := 33) (e := 5) (d := 9) Tryz.underlying33 Tryz.underlying5 Tryz.underlying9 da' xd dc' I2.d4 I2.d5
  have NL := Lib.hid h1.n1
  have ZL := Lib.hid h1.z1
  have N1 := Lib.hid I1.n4
  have N2 := Lib.hid I2.n4
  have Z1 := Lib.hid I1.z4
  have Z2 := Lib.hid I2.z4
  have C := Lib.hid (attrs_same aa aa' xa an ac ac' wb I1.a4 I2.a4 h1.a1 h1.a2 h1.a3 h2.a2)
  have n2 := h1.n2
  have n3 := h1.n3
  have n2' := h2.n2
  have z2 := h1.z2
  have z3 := h1.z3
  have z2' := h2.z2
  have dd2 := h1.d2
  have dd3 := h1.d3
  have dd2' := h2.d2
  simp only at NL ZL N1 N2 Z1 Z2 C k1 k2 dd2 dd3 dd2'
  generalize xd.length = dn at *
  generalize (⟨xd.toArray⟩ : ByteArray) = vs at *
  rw [hv0] at hwb
  have HW := Lib.hid hwb
  rw [hwb] at k1 k2
  clear K0 K1 h1 h2 sv b0 b1 I1 I2 hwb hv0
  go_enter Tryz.func20, Tryz.ntmps20
  go_wp2_with fail
  rw [← HW.out]
  refine C.out.mono ?_
  clear C k1 k2 HW
  rintro e w2 ⟨rfl, hb⟩
  have B2 := Lib.hid hb
  clear hb
  go_wp2_with fail
  go_loopw [5] (fun vi wr => ∃ i : Nat, i ≤ nn ∧ vi = .int .i64 i ∧ Hid (Below wb.heap.size wb wr)) (fun vi _ => nn - (RowKit.intOf vi).toNat)
  case atStart => exact ⟨0, by omega, rfl, B2.out⟩
  case round =>
    clear B2
    obtain ⟨i, hi, rfl, hB⟩ := hrel
    have g6 := (KA.out.low hB.out).cell 6
    have j6 := (KB.out.low hB.out).cell 6
    simp only [List.getElem?_cons_zero, List.getElem?_cons_succ] at g6 j6
    by_cases hin : i < nn
    · obtain ⟨b, o, s, rfl, hb, hs, x0⟩ := srw_cell N1.out i (by have := NL.out; omega)
      obtain ⟨b2, o2, s2, rfl, hb2, hs2, x2⟩ := srw_cell N2.out i (by have := NL.out; omega)
      obtain rfl : s = s2 := by rw [hs] at hs2; injection hs2
      have e0 := (hB.out.cell (p := ⟨b, o + i, none⟩) hb).trans x0
      have e2 := (hB.out.cell (p := ⟨b2, o2 + i, none⟩) hb2).trans x2
      have q1 : (0 : Int) ≤ (i : Int) := by omega
      have q2 : (i : Int) < (nn : Int) := by omega
      have hB2 := Lib.hid hB.out
      clear x0 x2 hb hb2 hs hs2 hB
      go_wp2_with fail
      go_quiet (fail)
      generalize hwv : wr.drewN nq = wv at *
      have hB2 : Hid (Below wb.heap.size wb wv) := by show Below _ _ _; rw [← hwv]; exact Sh.below_drewN hB2.out _
      clear hwv
      go_wp2_with fail
      go_roundw
      case rel => exact ⟨i + 1, by omega, by go_num, hB2⟩
      case measure => simp [RowKit.intOf]; omega
    · obtain rfl : i = nn := by omega
      go_wp2_with fail
      go_loopw [6] (fun vi wr => ∃ i : Nat, i ≤ zn ∧ vi = .int .i64 i ∧ Hid (Below wb.heap.size wb wr)) (fun vi _ => zn - (RowKit.intOf vi).toNat)
      case atStart => exact ⟨0, by omega, rfl, hB.out⟩
      case round =>
        clear hB g6 j6
        obtain ⟨k, hk, rfl, hB⟩ := hrel
        have g7 := (KA.out.low hB.out).cell 7
        have j7 := (KB.out.low hB.out).cell 7
        simp only [List.getElem?_cons_zero, List.getElem?_cons_succ] at g7 j7
        by_cases hkn : k < zn
        · obtain ⟨b, o, rfl, hb, hz⟩ := zrw_cell Z1.out k (by have := ZL.out; omega)
          obtain ⟨b2, o2, rfl, hb2, hz2⟩ := zrw_cell Z2.out k (by have := ZL.out; omega)
          obtain ⟨z, hzk⟩ : ∃ z, xz[k]? = some z := ⟨_, List.getElem?_eq_getElem (by have := ZL.out; omega)⟩
          have e0 := (hB.out.cell (p := ⟨b, o + k, none⟩) hb).trans (hz k z hzk)
          have e2 := (hB.out.cell (p := ⟨b2, o2 + k, none⟩) hb2).trans (hz2 k z hzk)
          have q1 : (0 : Int) ≤ (k : Int) := by omega
          have q2 : (k : Int) < (zn : Int) := by omega
          have hB2 := Lib.hid hB.out
          clear hb hb2 hz hz2 hzk hB
          go_wp2_with fail
          go_quiet (fail)
          generalize hwv : wr.drewN nq = wv at *
          have hB2 : Hid (Below wb.heap.size wb wv) := by show Below _ _ _; rw [← hwv]; exact Sh.below_drewN hB2.out _
          clear hwv
          go_wp2_with fail
          go_roundw
          case rel => exact ⟨k + 1, by omega, by go_num, hB2⟩
          case measure => simp [RowKit.intOf]; omega
        · obtain rfl : k = zn := by omega
          go_wp2_with fail
          go_ret
          exact ⟨rfl, below_chain HB.out hB.out⟩
end Go.Proofs.YtcgbaiogbcodcaaGreatDoor.Lw
namespace Go.Proofs.YtcgbaiogbcodcaaGreatDoor.Lw
open Go.RowKit Go.Lib Go.Proofs.YtcgbaiogbcodcaaGreatDoor.Sh Go.Proofs.YtcgbaiogbcodcaaGreatDoor.Lb

set_option maxHeartbeats 8000000 in
set_option maxRecDepth 100000 in
theorem fs_same (ao bo : Option Addr) (l : List InoP) (n c d : Nat) (next : Int) (w : World) (h1 : Irw w ao l) (h2 : Irw w bo l) (hl : l.length = n) (hc : n ≤ c) (hcc : c ≤ 9223372036854775807) (hd : n ≤ d) (_ : d ≤ 9223372036854775807) :
    Calls Tryz.prog 8 #[.agg #[.slice ao n c, .int .i64 next], .agg #[.slice bo n d, .int .i64 next]] w fun e w' => e = .returned (.bool true) ∧ Below w.heap.size w w' := by
  obtain ⟨v0, hv0⟩ : ∃ v0, v0 = w.alloc (.cells #[.slice ao n c, .int .i64 next] 24) := ⟨_, rfl⟩
  obtain ⟨wb, hwb⟩ : ∃ wb, wb = v0.alloc (.cells #[.slice bo n d, .int .i64 next] 24) := ⟨_, rfl⟩
  have sv : v0.heap.size = w.heap.size + 1 := by rw [hv0]; simp
  have b0 : Below w.heap.size w v0 := by rw [hv0]; exact (Below.refl _ w).alloc (Nat.le_refl _) _
  have b1 : Below v0.heap.size v0 wb := by rw [hwb]; exact (Below.refl _ v0).alloc (Nat.le_refl _) _
  have K0 : Sh.Blk v0 w.heap.size [.slice ao n c, .int .i64 next] 24 := by rw [hv0]; exact Sh.Blk.new w [.slice ao n c, .int .i64 next] 24 _ rfl
  have K1 : Sh.Blk wb v0.heap.size [.slice bo n d, .int .i64 next] 24 := by rw [hwb]; exact Sh.Blk.new v0 [.slice bo n d, .int .i64 next] 24 _ rfl
  rw [sv] at K1
  have KA := Lib.hid (K0.low b1)
  have KB := Lib.hid K1
  have HB := Lib.hid (below_chain b0 b1)
  have I1 := Lib.hid (h1.below HB.out)
  have I2 := Lib.hid (h2.below HB.out)
  have HL := Lib.hid hl
  rw [hv0] at hwb
  have HW := Lib.hid hwb
  clear K0 K1 h1 h2 hl sv b0 b1 hwb hv0
  go_enter Tryz.func8, Tryz.ntmps8
  go_wp2_with fail
  rw [← HW.out]
  clear HW
  go_loopw [5] (fun vi wr => ∃ i : Nat, i ≤ n ∧ vi = .int .i64 i ∧ Hid (Below wb.heap.size wb wr)) (fun vi _ => n - (RowKit.intOf vi).toNat)
  case atStart => exact ⟨0, by omega, rfl, Below.refl _ wb⟩
  case round =>
    obtain ⟨i, hi, rfl, hB⟩ := hrel
    have g0 := (KA.out.low hB.out).cell 0
    have j0 := (KB.out.low hB.out).cell 0
    simp only [List.getElem?_cons_zero] at g0 j0
    by_cases hin : i < n
    · obtain ⟨x, hx⟩ : ∃ x, l[i]? = some x := ⟨_, List.getElem?_eq_getElem (by have := HL.out; omega)⟩
      obtain ⟨b, o, rfl, hb, da, dn, dc, na, nn, nc, za, zn, zc, aa, an, ac, h9, hv⟩ := irw_at I1.out i x hx
      obtain ⟨b2, o2, rfl, hb2, da', dn', dc', na', nn', nc', za', zn', zc', aa', an', ac', h9', hv'⟩ := irw_at I2.out i x hx
      obtain rfl : dn = dn' := hv.d1.symm.trans hv'.d1
      obtain rfl : nn = nn' := hv.n1.symm.trans hv'.n1
      obtain rfl : zn = zn' := hv.z1.symm.trans hv'.z1
      obtain rfl : an = an' := hv.a1.symm.trans hv'.a1
      have C := Lib.hid (inode_same x da dn dc na nn nc za zn zc aa an ac da' dc' na' nc' za' zc' aa' ac' wr.drew ((hv.below hB.out).below (Below.refl _ wr).drew) ((hv'.below hB.out).below (Below.refl _ wr).drew))
      obtain ⟨xn, xk, xm, xl, xd, xt, xs, xz, xa⟩ := x
      have h9 := h9.below hB.out hb
      have h9' := h9'.below hB.out hb2
      have k0 := h9.k0
      have k1 := h9.k1
      have k2 := h9.k2
      have k3 := h9.k3
      have k4 := h9.k4
      have k5 := h9.k5
      have k6 := h9.k6
      have k7 := h9.k7
      have k8 := h9.k8
      have m0 := h9'.k0
      have m1 := h9'.k1
      have m2 := h9'.k2
      have m3 := h9'.k3
      have m4 := h9'.k4
      have m5 := h9'.k5
      have m6 := h9'.k6
      have m7 := h9'.k7
      have m8 := h9'.k8
      simp only at k0 k1 k2 k3 k4 k5 k6 k7 k8 m0 m1 m2 m3 m4 m5 m6 m7 m8
      have q1 : (0 : Int) ≤ (i : Int) := by omega
      have q2 : (i : Int) < (n : Int) := by omega
      have hBd := Lib.hid hB.out.drew
      clear hb hb2 h9 h9' hv hv' hx hB
      go_wp2_with fail
      go_still_tail 10, (by kernel_rfl)
      change wpList _ _ _ _ _ wr.drew
      generalize wr.drew = w3 at *
      go_wp2_with fail
      refine C.out.mono ?_
      clear C
      rintro e w4 ⟨rfl, hb⟩
      have hB2 := Lib.hid (below_chain hBd.out hb)
      clear hb
      go_wp2_with fail
      go_roundw
      case rel => exact ⟨i + 1, by omega, by go_num, hB2⟩
      case measure => simp [RowKit.intOf]; omega
    · obtain rfl : i = n := by omega
      go_wp2_with fail
      go_ret
      exact ⟨rfl, below_chain HB.out hB.out⟩
end Go.Proofs.YtcgbaiogbcodcaaGreatDoor.Lw
namespace Go.Proofs.YtcgbaiogbcodcaaGreatDoor.Lw
open Go.RowKit Go.Lib Go.Proofs.YtcgbaiogbcodcaaGreatDoor.Sh Go.Proofs.YtcgbaiogbcodcaaGreatDoor.Lb Go.Proofs.YtcgbaiogbcodcaaGreatDoor.Pf
open Go.Maps

theorem own_slice {B : Nat} {w : World} {l : List InoP} {v : Value} (h : OwnI B w l v) (hb : l.length ≤ 9223372036854775807) : ∃ ao c, v = .slice ao l.length c ∧ l.length ≤ c ∧ c ≤ 9223372036854775807 ∧ (ao = none → c = 0) ∧ Irw w ao l := by
  obtain ⟨ao, c, rfl, h1, h2, h3, h4⟩ := h
  refine ⟨ao, c, rfl, h1, h2, h3, fun hne => ?_⟩
  obtain ⟨g, P, rfl, hr⟩ := h4 hne
  exact (hr.irw hb) hne
theorem far_made {l L : List InoP} {nx xk xm : Int} {xt : ByteArray} {i : Nat} (h : MadeN l nx xk xm xt L i) (hF : FarL l) (hn : l.length ≤ 60) : FarL L :=
  ⟨by rw [h.len]; omega, fun x hx => by
    rcases h.mem hx with rfl | hx
    · exact far_new _ _ _ _ _
    · exact hF.each x hx⟩
set_option maxHeartbeats 16000000 in
set_option maxRecDepth 100000 in
theorem numbers_law (ao : Option Addr) (l : List InoP) (n c : Nat) (nx xk : Int) (w : World) (hE : ErrT w) (h : Irw w ao l) (hl : l.length = n) (hn : ao = none → c = 0) (hc : n ≤ c) (hcc : c ≤ 9223372036854775807) (hF : FarL l) :
    Calls Tryz.prog 3 #[.agg #[.slice ao n c, .int .i64 nx], .int .i64 xk] w fun e w' => e = .returned (.bool true) ∧ Below w.heap.size w w' := by
  obtain ⟨w1, hw1⟩ : ∃ w1, w1 = w.alloc (.cells #[.slice ao n c, .int .i64 nx] 24) := ⟨_, rfl⟩
  have b1 : Below w.heap.size w w1 := by rw [hw1]; exact below_alloc (Below.refl _ w) _
  have x1 : Sh.Blk w1 w.heap.size [.slice ao n c, .int .i64 nx] 24 := by rw [hw1]; exact Sh.Blk.new w [.slice ao n c, .int .i64 nx] 24 _ rfl
  have ET := Lib.hid hE
  have HI := Lib.hid h
  have HL := Lib.hid hl
  have HF := Lib.hid hF
  have HN : Hid ((ao = none → c = 0) ∧ n ≤ c ∧ c ≤ 9223372036854775807) := ⟨hn, hc, hcc⟩
  have B1 := Lib.hid b1
  have X1 := Lib.hid x1
  have C := Lib.hid (small_any ao l n c nx w1 (h.below b1) hl (by omega))
  have HW1 : Hid (w.alloc (.cells #[.slice ao n c, .int .i64 nx] 24) = w1) := hw1.symm
  have c0 := x1.cell 0
  have c1 := x1.cell 1
  simp only [List.getElem?_cons_zero, List.getElem?_cons_succ] at c0 c1
  rw [hw1] at c0 c1
  clear hE h hl hn hc hcc hF b1 x1 hw1
  go_enter Tryz.func3, Tryz.ntmps3
  go_wp2_with fail
  rw [HW1.out]
  refine C.out.mono ?_
  clear C c0 c1 HW1
  rintro e w2 ⟨⟨b, rfl, hsm⟩, hb⟩
  have B2 := Lib.hid (below_chain B1.out hb)
  cases b with
  | false =>
    have CH := Lib.hid (heads_any w2 (ET.out.below B2.out))
    clear hb hsm
    go_wp2_with fail
    refine CH.out.mono ?_
    rintro e w3 ⟨rfl, hb⟩
    have B3 := Lib.hid (below_chain B2.out hb)
    clear hb
    go_wp2_with fail
    go_ret
    exact ⟨rfl, B3.out⟩
  | true =>
    have N60 : Hid (n ≤ 60) := hsm rfl
    have X2 := Lib.hid (X1.out.low hb)
    have c0 := X2.out.cell 0
    have c1 := X2.out.cell 1
    simp only [List.getElem?_cons_zero, List.getElem?_cons_succ] at c0 c1
    have C := Lib.hid (make_any ao l n c nx xk 420 ⟨#[]⟩ w2 (ET.out.below B2.out) (HI.out.below B2.out) HL.out HN.out.1 HN.out.2.1 HF.out (by decide))
    clear hb hsm X1 B1
    go_wp2_with fail
    refine C.out.mono ?_
    clear C c0 c1
    rintro e w3 ⟨hb, ⟨v, hwhy, rfl, hown⟩ | ⟨_, m, ⟨_, hm⟩, _⟩ | ⟨hok, L, r, v, hg, hok2, rfl, hown⟩⟩
    · -- refused: what is answered is as it was
      obtain ⟨ao3, c3, rfl, g1, g2, _, g3⟩ := own_slice hown (by have := HL.out; have := N60.out; omega)
      rw [HL.out] at g1 ⊢
      obtain ⟨w4, hw4⟩ : ∃ w4, w4 = w3.alloc (.cells #[.slice ao3 n c3, .int .i64 nx] 24) := ⟨_, rfl⟩
      have b4 : Below w3.heap.size w3 w4 := by rw [hw4]; exact below_alloc (Below.refl _ w3) _
      have B4 := Lib.hid (below_chain (below_chain B2.out hb) b4)
      have X4 := (X2.out.low hb).low b4
      have Y4 : Sh.Blk w4 w3.heap.size [.slice ao3 n c3, .int .i64 nx] 24 := by rw [hw4]; exact Sh.Blk.new w3 [.slice ao3 n c3, .int .i64 nx] 24 _ rfl
      have c0 := X4.cell 0
      have c1 := X4.cell 1
      have d0 := Y4.cell 0
      have d1 := Y4.cell 1
      simp only [List.getElem?_cons_zero, List.getElem?_cons_succ] at c0 c1 d0 d1
      have CS := Lib.hid (fs_same ao3 ao l n c3 c nx w4 (g3.below b4) (HI.out.below B4.out) HL.out g1 g2 HN.out.2.1 HN.out.2.2)
      have HW4 : Hid (w3.alloc (.cells #[.slice ao3 n c3, .int .i64 nx] 24) = w4) := hw4.symm
      rw [hw4] at c0 c1 d0 d1
      clear hb hwhy hown g1 g2 g3 hw4 b4 X4 Y4
      go_wp2_with fail
      rw [HW4.out]
      refine CS.out.mono ?_
      clear CS c0 c1 d0 d1
      rintro e w5 ⟨rfl, hb⟩
      have B5 := Lib.hid (below_chain B4.out hb)
      have CH := Lib.hid (heads_any w5 (ET.out.below B5.out))
      clear hb
      go_wp2_with fail
      refine CH.out.mono ?_
      rintro e w6 ⟨rfl, hb⟩
      have B6 := Lib.hid (below_chain B5.out hb)
      clear hb
      go_wp2_with fail
      go_ret
      exact ⟨rfl, B6.out⟩
    · exfalso
      have := N60.out
      have := HL.out
      omega
    obtain ⟨rfl, i, hM⟩ := made_n hok.nums.risen hg
    have M := Lib.hid hM
    have OK := Lib.hid hok
    have OK2 := Lib.hid hok2
    obtain ⟨k, hk⟩ : ∃ k, k = newNum l nx := ⟨_, rfl⟩
    have HK := Lib.hid hk
    obtain ⟨ao3, c3, rfl, g1, g2, g4, g3⟩ := own_slice hown (by have := hM.len; have := HL.out; have := N60.out; omega)
    obtain ⟨N, hN⟩ : ∃ N, N = L.length := ⟨_, rfl⟩
    have LN : Hid (N = n + 1) := by show N = n + 1; rw [hN, hM.len, HL.out]
    have LL : Hid (L.length = N) := hN.symm
    rw [← hN] at g1 ⊢
    rw [← hk]
    have RR : Hid (N ≤ c3 ∧ c3 ≤ 9223372036854775807 ∧ (ao3 = none → c3 = 0)) := ⟨g1, g2, g4⟩
    obtain ⟨w4, hw4⟩ : ∃ w4, w4 = w3.alloc (.cells #[.slice ao3 N c3, .int .i64 nx] 24) := ⟨_, rfl⟩
    have b4 : Below w3.heap.size w3 w4 := by rw [hw4]; exact below_alloc (Below.refl _ w3) _
    have B4 := Lib.hid (below_chain (below_chain B2.out hb) b4)
    have X4 := Lib.hid ((X2.out.low hb).low b4)
    have Y4 : Hid (Sh.Blk w4 w3.heap.size [.slice ao3 N c3, .int .i64 nx] 24) := by show Sh.Blk _ _ _ _; rw [hw4]; exact Sh.Blk.new w3 [.slice ao3 N c3, .int .i64 nx] 24 _ rfl
    have I4 := Lib.hid (g3.below b4)
    have c1 := X4.out.cell 1
    simp only [List.getElem?_cons_zero, List.getElem?_cons_succ] at c1
    have HW4 : Hid (w3.alloc (.cells #[.slice ao3 N c3, .int .i64 nx] 24) = w4) := hw4.symm
    obtain ⟨h3, hh3⟩ : ∃ h3, h3 = w3.heap.size := ⟨_, rfl⟩
    have HH3 : Hid (w3.heap.size = h3) := hh3.symm
    rw [← hh3] at Y4
    rw [hw4] at c1
    have hnk : nx ≤ k := by rw [hk]; exact (newNum_le l nx).1
    have hkb : k ≤ 600 := by rw [hk]; have := (newNum_le l nx).2; have := hok.nums.hi; have := HL.out; have := N60.out; omega
    have hnx0 : 2 ≤ nx := hok.nums.lo
    have NK : Hid (nx ≤ k ∧ k ≤ 600 ∧ 2 ≤ nx) := ⟨hnk, hkb, hnx0⟩
    clear hb hg hok hok2 hM hk hown g1 g2 g3 g4 hN hw4 b4 hh3 X2 B2 hnk hkb hnx0
    go_wp2_with fail
    rw [HH3.out, HW4.out]
    clear c1 HW4 HH3
    go_loopw [8] (fun s8 wr => ∃ j : Int, s8 = .int .i64 j ∧ Hid (nx ≤ j ∧ j ≤ k) ∧ Hid (Below w4.heap.size w4 wr)) (fun s8 _ => (k - RowKit.intOf s8).toNat)
    case atStart => exact ⟨nx, rfl, ⟨Int.le_refl _, NK.out.1⟩, Below.refl _ w4⟩
    case round =>
      obtain ⟨j, rfl, hj, hB⟩ := hrel
      have BB := Lib.hid (below_chain B4.out hB.out)
      have XB := Lib.hid (X4.out.low hB.out)
      have YB := Lib.hid (Y4.out.low hB.out)
      by_cases hjk : j < k
      · have t0 : decide (j < k) = true := by simpa using hjk
        have c0 := XB.out.cell 0
        have c1 := XB.out.cell 1
        simp only [List.getElem?_cons_zero, List.getElem?_cons_succ] at c0 c1
        have C := Lib.hid (find_any ao l n c nx j wr (HI.out.below BB.out) HL.out)
        have HS : Hid (∃ x ∈ l, x.num = j) := newNum_has nx l j hj.out.1 (by rw [← HK.out]; exact hjk)
        have hwj : IntKind.i64.wrap (j + 1) = j + 1 := by have := NK.out; have := hj.out; rw [IntKind.wrap]; simp [IntKind.bits, IntKind.signed]; omega
        have HJ := Lib.hid hjk
        clear hjk
        go_wp2_with fail
        refine C.out.mono ?_
        clear C c0 c1
        rintro e w5 ⟨hb, ⟨hno, _⟩ | ⟨_, q, y, hy, hyz, rfl⟩ | ⟨_, hno, _⟩⟩
        · exact absurd OK.out hno
        rotate_left
        · obtain ⟨x, hx, hxj⟩ := HS.out
          exact absurd hxj (hno x hx)
        have t1 : decide ((q : Int) < 0) = false := by simp
        have B5 := Lib.hid (below_chain hB.out hb)
        clear hb hy hyz
        go_wp2_with fail
        go_roundw
        case rel => exact ⟨j + 1, by go_num, ⟨by have := hj.out; omega, by have := HJ.out; omega⟩, B5.out⟩
        case measure => have := HJ.out; simp [RowKit.intOf]; omega
      · have t0 : decide (j < k) = false := by simpa using hjk
        have hjk' : j = k := by have := hj.out; omega
        subst hjk'
        have d0 := YB.out.cell 0
        have d1 := YB.out.cell 1
        simp only [List.getElem?_cons_zero, List.getElem?_cons_succ] at d0 d1
        have C := Lib.hid (find_any ao3 L N c3 nx j wr (I4.out.below hB.out) LL.out)
        clear hj X4 Y4
        go_wp2_with fail
        refine C.out.mono ?_
        clear C d0 d1 t0
        rintro e w5 ⟨hb, ⟨hno, _⟩ | ⟨_, q, y, hy, hyz, rfl⟩ | ⟨_, hno, _⟩⟩
        · exact absurd OK2.out hno
        rotate_left
        · exact absurd HK.out.symm (hno _ (List.mem_of_getElem? M.out.get))
        obtain ⟨rfl, rfl⟩ := M.out.at_new hy (by rw [hyz, HK.out])
        have hqN : q < N := by have := (List.getElem?_eq_some_iff.1 hy).1; have := LL.out; omega
        have B5 := Lib.hid (below_chain BB.out hb)
        have X5 := Lib.hid (XB.out.low hb)
        have Y5 := Lib.hid (YB.out.low hb)
        have I5 := Lib.hid ((I4.out.below hB.out).below hb)
        have c0 := X5.out.cell 0
        have c1 := X5.out.cell 1
        simp only [List.getElem?_cons_zero, List.getElem?_cons_succ] at c0 c1
        have C := Lib.hid (find_any ao l n c nx j w5 (HI.out.below B5.out) HL.out)
        have t1 : decide ((q : Int) < 0) = false := by simp
        have t2 : decide (j < nx) = false := by have := NK.out; simp; omega
        have HQ := Lib.hid hqN
        clear hb hy hyz hB BB XB YB hqN
        go_wp2_with fail
        refine C.out.mono ?_
        clear C c0 c1
        rintro e w6 ⟨hb, ⟨hno, _⟩ | ⟨_, q2, y, hy, hyz, rfl⟩ | ⟨_, _, rfl⟩⟩
        · exact absurd OK.out hno
        · exact absurd (hyz.trans HK.out) (M.out.free y (List.mem_of_getElem? hy))
        have B6 := Lib.hid (below_chain B5.out hb)
        have X6 := Lib.hid (X5.out.low hb)
        have Y6 := Lib.hid (Y5.out.low hb)
        have I6 := I5.out.below hb
        have c0 := X6.out.cell 0
        have d0 := Y6.out.cell 0
        have d1 := Y6.out.cell 1
        simp only [List.getElem?_cons_zero, List.getElem?_cons_succ] at c0 d0 d1
        obtain ⟨fb, fo, e0, hfbl, da, dn, dc, na, nn, nc, za, zn, zc, aa, an, ac, h9, hv⟩ := irw_at I6 q _ M.out.get
        subst e0
        have hdn := hv.d1
        have hnn := hv.n1
        have han := hv.a1
        obtain rfl : dn = 0 := hdn.symm
        obtain rfl : nn = 0 := hnn.symm
        obtain rfl : an = 0 := han.symm
        obtain ⟨lk, hlk⟩ : ∃ lk, lk = (newP l nx xk 420 ⟨#[]⟩).links := ⟨_, rfl⟩
        have k0 : w6.cell? ⟨fb, fo + q * 9, none⟩ = some (.int .i64 j) := by rw [HK.out]; exact h9.k0
        have k1 : w6.cell? ⟨fb, fo + q * 9 + 1, none⟩ = some (.int .i64 xk) := h9.k1
        have k2 : w6.cell? ⟨fb, fo + q * 9 + 2, none⟩ = some (.int .i64 420) := h9.k2
        have k3 : w6.cell? ⟨fb, fo + q * 9 + 3, none⟩ = some (.int .i64 lk) := by rw [hlk]; exact h9.k3
        have k4 := h9.k4
        have k5 : w6.cell? ⟨fb, fo + q * 9 + 5, none⟩ = some (.string ⟨#[]⟩) := h9.k5
        have k6 := h9.k6
        have k7 := h9.k7
        have k8 := h9.k8
        have p2 : (0 : Int) ≤ (q : Int) := by omega
        have p3 : (q : Int) < (N : Int) := by have := HQ.out; omega
        have hwn : IntKind.i64.wrap ((n : Int) + 1) = (N : Int) := by have := LN.out; have := N60.out; rw [IntKind.wrap]; simp [IntKind.bits, IntKind.signed]; omega
        obtain ⟨w7, hw7⟩ : ∃ w7, w7 = w6.alloc (.cells #[.int .i64 j, .int .i64 xk, .int .i64 420, .int .i64 lk, .slice da 0 dc, .string ⟨#[]⟩, .slice na 0 nc, .slice za zn zc, .slice aa 0 ac] 38) := ⟨_, rfl⟩
        have b7 : Below w6.heap.size w6 w7 := by rw [hw7]; exact below_alloc (Below.refl _ w6) _
        have B7 := Lib.hid (below_chain B6.out b7)
        have X7 := Lib.hid (X6.out.low b7)
        have Y7 := Lib.hid (Y6.out.low b7)
        have Z7 : Hid (Sh.Blk w7 w6.heap.size [.int .i64 j, .int .i64 xk, .int .i64 420, .int .i64 lk, .slice da 0 dc, .string ⟨#[]⟩, .slice na 0 nc, .slice za zn zc, .slice aa 0 ac] 38) := by show Sh.Blk _ _ _ _; rw [hw7]; exact Sh.Blk.new w6 [.int .i64 j, .int .i64 xk, .int .i64 420, .int .i64 lk, .slice da 0 dc, .string ⟨#[]⟩, .slice na 0 nc, .slice za zn zc, .slice aa 0 ac] 38 _ rfl
        have I7 := I6.below b7
        have C := Lib.hid (drop_any (some ⟨fb, fo, none⟩) L N c3 nx j w7 (ET.out.below B7.out) I7 LL.out RR.out.2.2 RR.out.1 (far_made M.out HF.out (by rw [HL.out]; exact N60.out)))
        have e0 := Y7.out.cell 0
        have e1 := Y7.out.cell 1
        simp only [List.getElem?_cons_zero, List.getElem?_cons_succ] at e0 e1
        have HW7 : Hid (w6.alloc (.cells #[.int .i64 j, .int .i64 xk, .int .i64 420, .int .i64 lk, .slice da 0 dc, .string ⟨#[]⟩, .slice na 0 nc, .slice za zn zc, .slice aa 0 ac] 38) = w7) := hw7.symm
        rw [hw7] at e0 e1
        obtain ⟨h6, hh6⟩ : ∃ h6, h6 = w6.heap.size := ⟨_, rfl⟩
        have HH6 : Hid (w6.heap.size = h6) := hh6.symm
        rw [← hh6] at Z7
        clear hb hfbl h9 hv hdn hnn han hlk hw7 b7 hh6 I6 I7 X5 Y5 I5 X6 Y6 B5 t1 t2
        go_wp2_with fail
        rw [HH6.out, HW7.out]
        refine C.out.mono ?_
        clear C c0 d0 d1 e0 e1 k0 k1 k2 k3 k4 k5 k6 k7 k8 hwn HW7 HH6
        have HD := M.out.drop OK.out
        rw [← HK.out] at HD
        rintro e w8 ⟨hb, ⟨v, h1 | ⟨_, L', r, hg, h1⟩, _⟩ | ⟨_, m, hm, _⟩ | ⟨_, L', r, v, hg, _, rfl, hown⟩⟩
        · exact absurd OK2.out h1
        · rw [HD.2 L' r hg] at h1
          exact absurd OK.out h1
        · exact absurd hm (HD.1 m)
        obtain rfl := HD.2 L' r hg
        obtain ⟨ao8, c8, rfl, g1, g2, _, g3⟩ := own_slice hown (by have := HL.out; have := N60.out; omega)
        rw [HL.out] at g1 ⊢
        obtain ⟨w9, hw9⟩ : ∃ w9, w9 = w8.alloc (.cells #[.slice ao8 n c8, .int .i64 nx] 24) := ⟨_, rfl⟩
        have b9 : Below w8.heap.size w8 w9 := by rw [hw9]; exact below_alloc (Below.refl _ w8) _
        have B9 := Lib.hid (below_chain (below_chain B7.out hb) b9)
        have X9 := (X7.out.low hb).low b9
        have Z9 := (Z7.out.low hb).low b9
        have Y9 : Sh.Blk w9 w8.heap.size [.slice ao8 n c8, .int .i64 nx] 24 := by rw [hw9]; exact Sh.Blk.new w8 [.slice ao8 n c8, .int .i64 nx] 24 _ rfl
        have c0 := X9.cell 0
        have c1 := X9.cell 1
        have d0 := Y9.cell 0
        have d1 := Y9.cell 1
        have k1 := Z9.cell 1
        have k2 := Z9.cell 2
        have k4 := Z9.cell 4
        have k6 := Z9.cell 6
        have k8 := Z9.cell 8
        simp only [List.getElem?_cons_zero, List.getElem?_cons_succ] at c0 c1 d0 d1 k1 k2 k4 k6 k8
        have CS := Lib.hid (fs_same ao8 ao _ n c8 c nx w9 (g3.below b9) (HI.out.below B9.out) HL.out g1 g2 HN.out.2.1 HN.out.2.2)
        have HW9 : Hid (w8.alloc (.cells #[.slice ao8 n c8, .int .i64 nx] 24) = w9) := hw9.symm
        rw [hw9] at c0 c1 d0 d1 k1 k2 k4 k6 k8
        clear hb hown g1 g2 g3 hw9 b9 X9 Y9 Z9 HD hg p2 p3
        go_wp2_with fail
        rw [HW9.out]
        refine CS.out.mono ?_
        clear CS c0 c1 d0 d1 k1 k2 k4 k6 k8
        rintro e w10 ⟨rfl, hb⟩
        have B10 := Lib.hid (below_chain B9.out hb)
        have CH := Lib.hid (heads_any w10 (ET.out.below B10.out))
        clear hb
        go_wp2_with fail
        refine CH.out.mono ?_
        rintro e w11 ⟨rfl, hb⟩
        have B11 := Lib.hid (below_chain B10.out hb)
        clear hb
        go_wp2_with fail
        go_ret
        exact ⟨rfl, B11.out⟩
end Go.Proofs.YtcgbaiogbcodcaaGreatDoor.Lw
namespace Go.Proofs.YtcgbaiogbcodcaaGreatDoor.Sh
open Go.ChangeShapes Go.WideShapes Go.ChangeAt Go.RowKit Go.Lib

theorem own : ownKnob Tryz.prog.godebug = none := by kernel_rfl
/-- what each row lists -/
def laidAll : List (String × DataW Unit) := Rows.plainUpRow.laid
theorem kGlobal : Tryz.prog.globalNamed "errors.errorType" = some 0 := by kernel_rfl
theorem kRtype : (Tryz.prog.cutTypes.find? (·.1 == "internal/reflectlite.rtype")).map (·.2) = some 140 := by kernel_rfl
theorem kTypes : Tryz.prog.types.size = 241 := by kernel_rfl
theorem kOneRow : ((List.range 241).filter fun t => Tryz.prog.rowNamed t [101, 114, 114, 111, 114]) = [52] := by kernel_rfl
theorem filtOf : (laidAll.filter fun x => x.2.handleName?.isSome) = [("errors.errorType", Rows.laid_errors_errorType)] := by kernel_rfl
theorem errT_of {W : World} (h : laidMetH Tryz.prog laidAll W) : Lw.ErrT W := by
  have h' : laidMet Tryz.prog (laidAll.filter fun x => x.2.handleName?.isNone) W ∧ handlesMet Tryz.prog [("errors.errorType", Rows.laid_errors_errorType)] W := h
  obtain ⟨name, u, ty, e1, e2, e3, e4, e5⟩ := h'.2 _ (List.mem_singleton.2 rfl)
  have en : name = [101, 114, 114, 111, 114] := (Option.some.inj e1).symm
  subst en
  obtain rfl := Option.some.inj (kRtype.symm.trans e2)
  have hm : ty ∈ (List.range 241).filter fun t => Tryz.prog.rowNamed t [101, 114, 114, 111, 114] := List.mem_filter.2 ⟨List.mem_range.2 (by rw [← kTypes]; exact e3), e4⟩
  rw [kOneRow] at hm
  obtain rfl := List.mem_singleton.1 hm
  have hh : typeHandle Tryz.prog 52 = .pointer (some ⟨4, 52, none⟩) := by kernel_rfl
  rw [hh] at e5
  simpa [Lw.ErrT] using World.var?_cell kGlobal e5 0
/-- the tables -/
def two : List (String × DataW Unit) := [("unicode/utf8.acceptRanges", Rows.laid_unicode_utf8_acceptRanges), ("unicode/utf8.first", Rows.laid_unicode_utf8_first)]
theorem twoIs : (laidAll.filter fun x => x.2.handleName?.isNone) = two := by kernel_rfl
/-- the settled state, with the handle's cell laid -/
noncomputable def baseWorld (os : Os) : World :=
  { World.holding Tryz.prog os ⟨#[], #[], []⟩ with heap := (World.holding Tryz.prog os ⟨#[], #[], []⟩).heap.modify 0 fun
      | .cells _ t frozen => .cells #[.iface 140 (.agg #[.pointer (some ⟨4, 52, none⟩)])] t frozen
      | o => o }
/-- a state that meets the rows -/
noncomputable def laidWorld (os : Os) : World := (baseWorld os).layVars Tryz.prog two
theorem laidWorld_os (os : Os) : (laidWorld os).os = os := World.layVars_os _ _ _
theorem two_met (os : Os) (args : Array Value) : laidMet Tryz.prog two ((laidWorld os).forCall (fun _ _ => 0) ⟨#[], args, []⟩).memory := by
  have e1 : (two.filter fun x => (two.map (·.1)).contains x.1) = two := List.filter_eq_self.2 fun x hx => List.contains_iff_mem.2 (List.mem_map.2 ⟨x, hx, rfl⟩)
  have e2 : (two.filter fun x => !(two.map (·.1)).contains x.1) = [] := List.filter_eq_nil_iff.2 fun x hx => by rw [List.contains_iff_mem.2 (List.mem_map.2 ⟨x, hx, rfl⟩)]; simp
  have h : laidMet Tryz.prog two (laidWorld os) := laidMet_layVars (w0 := baseWorld os) (two.map (·.1)) [] (by rw [e1]; rfl) (by rw [e1]; kernel_rfl) (by rw [e1]; kernel_rfl) (by rw [e2]; exact LaidIn.none)
  exact h.of_heap (by simp [World.memory, World.forCall, Input.heap])
theorem laidWorld_met (os : Os) (args : Array Value) : laidMetH Tryz.prog laidAll ((laidWorld os).forCall (fun _ _ => 0) ⟨#[], args, []⟩).memory :=
  laidMetH_of_parts (by rw [twoIs]; exact two_met os args) (by rw [filtOf]; kernel_rfl)
theorem laidWorld_shaped (os : Os) (args : Array Value) : ((laidWorld os).forCall (fun _ _ => 0) ⟨#[], args, []⟩).Shaped Tryz.prog :=
  World.shaped_of_ZipB (by kernel_rfl) (by kernel_rfl)
theorem laidOut : laidOutB Tryz.prog = true := by kernel_rfl
theorem cells5 : Tryz.prog.cellsOf 5 = 1 := by kernel_rfl
theorem bytes5 : Tryz.prog.bytesOf 5 = 1 := by kernel_rfl
/-- a row of bytes within the reach -/
theorem reach_byt {H : Type} {ts : List TypeId} {ds : List (DataW H)} (hsz : (DataW.weightsEach Tryz.prog ts ds).all (· ≤ reachBytes) = true) {j : Nat} {d : DataW H} {l : List UInt8} (ht : ts[j]? = some 33) (hd : ds[j]? = some d)
    (h : (d = .nil ∧ l = []) ∨ ∃ es sp, d = .slice es sp ∧ es.length = l.length) : l.length ≤ 140737488351232 := by
  rcases h with ⟨_, rfl⟩ | ⟨es, sp, rfl, hl⟩
  · simp
  · have := sized_slice hsz ht hd Tryz.underlying33
    rw [bytes5] at this
    simp only [reachBytes] at this
    omega
theorem okWide_far {P : Program} {w : World} {base : Nat} {t e : TypeId} {ao : Option Addr} {n c : Nat} (ht : P.underlying t = some (.slice e)) (h : Value.okWide P w .any base t (.slice ao n c)) : ∀ a, ao = some a → a.block < w.heap.size := by
  rintro a rfl
  simp only [Value.okWide, ht, Cell.okWide, Cell.ok] at h
  obtain ⟨_, _, _, _, row, cells, hs, _⟩ := h
  rcases Nat.lt_or_ge a.block w.heap.size with h1 | h0
  · exact h1
  · exfalso
    unfold World.shape? at hs
    rw [Array.getElem?_eq_none h0] at hs
    simp at hs
end Go.Proofs.YtcgbaiogbcodcaaGreatDoor.Sh
namespace Go.Proofs.YtcgbaiogbcodcaaGreatDoor.Lw
open Go.ChangeShapes Go.WideShapes Go.ChangeAt Go.RowKit Go.Lib Go.Proofs.YtcgbaiogbcodcaaGreatDoor.Sh Go.Proofs.YtcgbaiogbcodcaaGreatDoor.Lb

instance : Inhabited InoP := ⟨⟨0, 0, 0, 0, [], ⟨#[]⟩, [], [], []⟩⟩
theorem weightsAll_mem {H : Type} {P : Program} {e : TypeId} : ∀ {l : List (DataW H)} {d : DataW H} {n : Nat}, d ∈ l → n ∈ d.weights P e → n ∈ DataW.weightsAll P e l
  | x :: r, d, n, hd, hn => by
    simp only [DataW.weightsAll, List.mem_append]
    rcases List.mem_cons.1 hd with rfl | hd
    · exact Or.inl hn
    · exact Or.inr (weightsAll_mem hd hn)
theorem weights_len {H : Type} {P : Program} {t e : TypeId} {xs ys : List (DataW H)} (ht : P.underlying t = some (.slice e)) (hw : ∀ n ∈ (DataW.slice xs ys).weights P t, n ≤ reachBytes) : xs.length * P.bytesOf e ≤ reachBytes := by
  have := hw ((xs.length + ys.length) * P.bytesOf e) (by simp only [DataW.weights, ht]; exact List.mem_cons_self)
  exact Nat.le_trans (Nat.mul_le_mul_right _ (Nat.le_add_right _ _)) this
theorem weights_in {H : Type} {P : Program} {t e : TypeId} {xs ys : List (DataW H)} (ht : P.underlying t = some (.slice e)) (hw : ∀ n ∈ (DataW.slice xs ys).weights P t, n ≤ reachBytes) {d : DataW H} (hd : d ∈ xs) : ∀ n ∈ d.weights P e, n ≤ reachBytes := fun n hn =>
  hw n (by simp only [DataW.weights, ht]; exact List.mem_cons_of_mem _ (List.mem_append_left _ (weightsAll_mem hd hn)))
theorem weights_field {H : Type} {P : Program} {t u : TypeId} {fs : Array Field} {ds : List (DataW H)} {j : Nat} {d : DataW H} (ht : P.underlying t = some (.struct fs)) (hu : (fs.toList.map (·.type))[j]? = some u) (hd : ds[j]? = some d) (hw : ∀ n ∈ (DataW.agg ds).weights P t, n ≤ reachBytes) : ∀ n ∈ d.weights P u, n ≤ reachBytes := fun n hn =>
  hw n (by simp only [DataW.weights, ht]; exact DataW.weights_mem_each hu hd n hn)
theorem gbytes5 : Tryz.prog.bytesOf 5 = 1 := by kernel_rfl
theorem gbytes9 : Tryz.prog.bytesOf 9 = 16 := by kernel_rfl
theorem gbytes3 : Tryz.prog.bytesOf 3 = 8 := by kernel_rfl
theorem gbytes105 : Tryz.prog.bytesOf 105 = 40 := by kernel_rfl
theorem gbytes38 : Tryz.prog.bytesOf 38 = 144 := by kernel_rfl
theorem gcells5 : Tryz.prog.cellsOf 5 = 1 := by kernel_rfl
theorem gcells9 : Tryz.prog.cellsOf 9 = 1 := by kernel_rfl
theorem gcells3 : Tryz.prog.cellsOf 3 = 1 := by kernel_rfl
theorem gcells33 : Tryz.prog.cellsOf 33 = 1 := by kernel_rfl
theorem gcells34 : Tryz.prog.cellsOf 34 = 1 := by kernel_rfl
theorem gcells35 : Tryz.prog.cellsOf 35 = 1 := by kernel_rfl
theorem gcells36 : Tryz.prog.cellsOf 36 = 1 := by kernel_rfl
theorem gcells25 : Tryz.prog.cellsOf 25 = 1 := by kernel_rfl
theorem gcells22 : Tryz.prog.cellsOf 22 = 1 := by kernel_rfl
theorem gcells105 : Tryz.prog.cellsOf 105 = 2 := by kernel_rfl
theorem gcells38 : Tryz.prog.cellsOf 38 = 9 := by kernel_rfl
theorem gcells24 : Tryz.prog.cellsOf 24 = 2 := by kernel_rfl
section
variable {H : Type} {enc : TypeId × Value → H} {P : Program}
theorem open_byt_f {t e : TypeId} {W : World} {v : Value} {y : DataW H × List MemPlace} {n : Nat} (ht : P.underlying t = some (.slice e)) (he : P.underlying e = some (.int .u8)) (hc : P.cellsOf e = 1)
    (hf : DataW.trod enc P W 0 (fun _ => true) true n t [v] = some y) (hlt : ∀ x ∈ y.2, x.block < W.heap.size) :
    ∃ ao l c, v = .slice ao l.length c ∧ l.length ≤ c ∧ c ≤ 9223372036854775807 ∧ Byt W ao l ∧ (ao = none → c = 0) ∧ ((∀ n ∈ y.1.weights P t, n ≤ reachBytes) → l.length * P.bytesOf e ≤ reachBytes) := by
  obtain ⟨d, p⟩ := y
  rcases open_ints ht he hc hf with ⟨hcs, hx⟩ | ⟨a, len', cap', zs, hcs, _, hl, hm, hz, hx, hcell, hws⟩
  · simp only [List.cons.injEq, and_true] at hcs
    subst hcs
    exact ⟨none, [], 0, rfl, Nat.le_refl _, by omega, byt_nil _ _, fun _ => rfl, fun _ => by simp⟩
  · simp only [List.cons.injEq, and_true] at hcs
    subst hcs
    simp only [Prod.mk.injEq] at hx
    obtain ⟨rfl, rfl⟩ := hx
    simp only [if_true] at hz
    have hll : ((zs.take len').map fun n => UInt8.ofNat n.toNat).length = len' := by rw [List.length_map, List.length_take]; omega
    refine ⟨some a, (zs.take len').map fun n => UInt8.ofNat n.toNat, cap', by rw [hll], by rw [hll]; exact hl, by unfold maxLen at hm; omega, fun hne => ?_, fun h => (by cases h), fun hw => by have := weights_len ht hw; rw [hll]; simpa [lits, strs, hz, Nat.min_eq_left hl] using this⟩
    have hl0 : len' ≠ 0 := by
      intro h0
      apply hne
      rw [h0]
      rfl
    obtain ⟨b, off, spot⟩ := a
    have hspot : spot = none := by simpa [Addr.add] using World.cell?_spot (hcell 0 (by omega))
    subst hspot
    refine ⟨b, off, rfl, hlt (.cell b off) (MemPlace.mem_row.2 ⟨0, by omega, by simp⟩), fun j hj => ?_⟩
    rw [hll] at hj
    have hcj := hcell j (by omega)
    rw [WideShapes.add_plain] at hcj
    have hjs : j < zs.length := by omega
    have hb := range_u8 hws j
    have e : zs.getD j 0 = zs[j] := by simp [List.getD, List.getElem?_eq_getElem hjs]
    rw [List.getD_eq_getElem?_getD] at e
    rw [e] at hb
    rw [hcj, List.getD_eq_getElem?_getD, e]
    simp only [List.getElem_map, List.getElem_take, UInt8.toNat_ofNat']
    congr 2
    omega
/-- a row of numbers that came in -/
theorem open_zrw_f {t e : TypeId} {W : World} {v : Value} {y : DataW H × List MemPlace} {n : Nat} (ht : P.underlying t = some (.slice e)) (he : P.underlying e = some (.int .i64)) (hc : P.cellsOf e = 1)
    (hf : DataW.trod enc P W 0 (fun _ => true) true n t [v] = some y) (hlt : ∀ x ∈ y.2, x.block < W.heap.size) :
    ∃ ao l c, v = .slice ao (l : List Int).length c ∧ l.length ≤ c ∧ c ≤ 9223372036854775807 ∧ Zrw W ao l ∧ (ao = none → c = 0) ∧ ((∀ n ∈ y.1.weights P t, n ≤ reachBytes) → l.length * P.bytesOf e ≤ reachBytes) := by
  obtain ⟨d, p⟩ := y
  rcases open_ints ht he hc hf with ⟨hcs, hx⟩ | ⟨a, len', cap', zs, hcs, _, hl, hm, hz, hx, hcell, hws⟩
  · simp only [List.cons.injEq, and_true] at hcs
    subst hcs
    exact ⟨none, [], 0, rfl, Nat.le_refl _, by omega, fun h => absurd rfl h, fun _ => rfl, fun _ => by simp⟩
  · simp only [List.cons.injEq, and_true] at hcs
    subst hcs
    simp only [Prod.mk.injEq] at hx
    obtain ⟨rfl, rfl⟩ := hx
    simp only [if_true] at hz
    have hll : (zs.take len').length = len' := by rw [List.length_take]; omega
    refine ⟨some a, zs.take len', cap', by rw [hll], by rw [hll]; exact hl, by unfold maxLen at hm; omega, fun hne => ?_, fun h => (by cases h), fun hw => by have := weights_len ht hw; rw [hll]; simpa [lits, strs, hz, Nat.min_eq_left hl] using this⟩
    have hl0 : len' ≠ 0 := by
      intro h0
      apply hne
      rw [h0]
      rfl
    obtain ⟨b, off, spot⟩ := a
    have hspot : spot = none := by simpa [Addr.add] using World.cell?_spot (hcell 0 (by omega))
    subst hspot
    refine ⟨b, off, rfl, hlt (.cell b off) (MemPlace.mem_row.2 ⟨0, by omega, by simp⟩), fun j hj => ?_⟩
    rw [hll] at hj
    have hcj := hcell j (by omega)
    rw [WideShapes.add_plain] at hcj
    have hjs : j < zs.length := by omega
    rw [hcj, List.getElem_take, List.getD_eq_getElem?_getD, List.getElem?_eq_getElem hjs]
    rfl
/-- a row of texts that came in -/
theorem open_srw_f {t e : TypeId} {W : World} {v : Value} {y : DataW H × List MemPlace} {n : Nat} (ht : P.underlying t = some (.slice e)) (he : P.underlying e = some .string) (hc : P.cellsOf e = 1)
    (hf : DataW.trod enc P W 0 (fun _ => true) true n t [v] = some y) (hlt : ∀ x ∈ y.2, x.block < W.heap.size) :
    ∃ ao l c, v = .slice ao (l : List ByteArray).length c ∧ l.length ≤ c ∧ c ≤ 9223372036854775807 ∧ Srw W ao l ∧ (ao = none → c = 0) ∧ (∀ s ∈ l, s.size ≤ 9223372036854775807) ∧ ((∀ n ∈ y.1.weights P t, n ≤ reachBytes) → l.length * P.bytesOf e ≤ reachBytes) := by
  obtain ⟨d, p⟩ := y
  rcases open_strings ht he hc hf with ⟨hcs, hx⟩ | ⟨a, len', cap', zs, hcs, _, hl, hm, hz, hx, hcell, hws⟩
  · simp only [List.cons.injEq, and_true] at hcs
    subst hcs
    exact ⟨none, [], 0, rfl, Nat.le_refl _, by omega, srw_nil _ _, fun _ => rfl, (fun s hs => by cases hs), fun _ => by simp⟩
  · simp only [List.cons.injEq, and_true] at hcs
    subst hcs
    simp only [Prod.mk.injEq] at hx
    obtain ⟨rfl, rfl⟩ := hx
    simp only [if_true] at hz
    have hll : (zs.take len').length = len' := by rw [List.length_take]; omega
    refine ⟨some a, zs.take len', cap', by rw [hll], by rw [hll]; exact hl, by unfold maxLen at hm; omega, fun hne => ?_, fun h => by (cases h), (fun s hs => by have := hws s (List.mem_of_mem_take hs); unfold maxLen at this; omega), fun hw => by have := weights_len ht hw; rw [hll]; simpa [lits, strs, hz, Nat.min_eq_left hl] using this⟩
    have hl0 : len' ≠ 0 := by
      intro h0
      apply hne
      rw [h0]
      rfl
    obtain ⟨b, off, spot⟩ := a
    have hspot : spot = none := by simpa [Addr.add] using World.cell?_spot (hcell 0 (by omega))
    subst hspot
    refine ⟨b, off, rfl, hlt (.cell b off) (MemPlace.mem_row.2 ⟨0, by omega, by simp⟩), fun j hj => ?_⟩
    rw [hll] at hj
    have hcj := hcell j (by omega)
    rw [WideShapes.add_plain] at hcj
    have hjs : j < zs.length := by omega
    rw [hcj, List.getElem_take, List.getD_eq_getElem?_getD, List.getElem?_eq_getElem hjs]
    rfl
end
theorem spot_none {W : World} {a : Addr} {k : Nat} {v : Value} (h : W.cell? ((a.add (0 * k)).add 0) = some v) : a.spot = none := by
  rw [Nat.zero_mul] at h
  simpa [Addr.add] using World.cell?_spot h
theorem add_two (b o i j : Nat) : ((⟨b, o, none⟩ : Addr).add i).add j = ⟨b, o + i + j, none⟩ := by rw [WideShapes.add_plain, WideShapes.add_plain]
section
variable {H : Type} {enc : TypeId × Value → H}
set_option maxRecDepth 100000 in
/-- a row of attributes that came in -/
theorem open_arw_f {W : World} {v : Value} {y : DataW H × List MemPlace} {n : Nat} (hf : DataW.trod enc Tryz.prog W 0 (fun _ => true) true n 36 [v] = some y) (hlt : ∀ x ∈ y.2, x.block < W.heap.size) :
    ∃ ao l c, v = .slice ao (l : List (ByteArray × List UInt8)).length c ∧ l.length ≤ c ∧ c ≤ 9223372036854775807 ∧ Arw W ao l ∧ (ao = none → c = 0) ∧ ((∀ n ∈ y.1.weights Tryz.prog 36, n ≤ reachBytes) → FarA l) := by
  obtain ⟨d, p⟩ := y
  rcases Go.Deep.open_slice Tryz.underlying36 hf with ⟨hcs, hx⟩ | ⟨a, len, cap, m, n', D, Pl, hcs, _, hl, hm, hmm, hx, each⟩
  · simp only [List.cons.injEq, and_true] at hcs
    subst hcs
    exact ⟨none, [], 0, rfl, Nat.le_refl _, by omega, fun h => absurd rfl h, fun _ => rfl, fun _ => ⟨by simp, fun x hx => by cases hx⟩⟩
  · simp only [List.cons.injEq, and_true] at hcs
    subst hcs
    simp only [if_true] at hmm
    subst hmm
    simp only [Prod.mk.injEq] at hx
    obtain ⟨rfl, rfl⟩ := hx
    rw [gcells105] at each hlt
    obtain ⟨Y, hY⟩ := Go.Deep.choose_lt (α := ByteArray × List UInt8) (n := m) (p := fun i x => W.cell? ((a.add (i * 2)).add 0) = some (.string x.1) ∧ x.1.size ≤ 9223372036854775807 ∧
        ∃ ad q c, W.cell? ((a.add (i * 2)).add 1) = some (.slice ad q c) ∧ x.2.length = q ∧ q ≤ c ∧ c ≤ 9223372036854775807 ∧ Byt W ad x.2 ∧ (ad = none → c = 0) ∧ ((∀ n ∈ (D i).weights Tryz.prog 105, n ≤ reachBytes) → x.2.length ≤ reachBytes)) (fun i hi => by
      obtain ⟨cs', h1, h2⟩ := each i hi
      obtain ⟨_, hlen, hc⟩ := World.cells?_some h1
      match cs', hlen with
      | [c0, c1], _ =>
        obtain ⟨y0, y1, k, hxx, _, t0, t1⟩ := trod_struct2 Tryz.underlying105 h2
        simp only [gcells9, gcells33, List.drop_succ_cons, List.drop_zero, List.take_succ_cons, List.take_zero] at t0 t1
        obtain ⟨s, e0, _, hs⟩ := DataW.trod_string Tryz.underlying9 t0
        obtain ⟨ad, l, c, e1, q1, q2, q3, q4, q5⟩ := open_byt_f Tryz.underlying33 Tryz.underlying5 gcells5 t1 (fun x hx => hlt x (List.mem_append_right _ (List.mem_flatMap.2 ⟨i, List.mem_range.2 hi, by
          simp only [Prod.mk.injEq] at hxx
          rw [hxx.2]
          exact List.mem_append_right _ hx⟩)))
        simp only [List.cons.injEq, and_true] at e0
        subst e0 e1
        exact ⟨(s, l), hc 0 (by omega), by unfold maxLen at hs; show s.size ≤ _; omega, ad, _, c, hc 1 (by omega), rfl, q1, q2, q3, q4, fun hw => by have := q5 (weights_field (j := 1) Tryz.underlying105 rfl rfl (by rw [(show D i = _ from congrArg Prod.fst hxx)] at hw; exact hw)); rwa [gbytes5, Nat.mul_one] at this⟩)
    have hll : ((List.range len).map Y).length = len := by simp
    refine ⟨some a, (List.range len).map Y, m, by rw [hll], by rw [hll]; exact hl, by unfold maxLen at hm; omega, fun hne => ?_, (fun h => by cases h), fun hw => ⟨by have := weights_len Tryz.underlying36 hw; rw [gbytes105] at this; simp only [List.length_map, List.length_range] at this ⊢; unfold reachBytes at this; omega, fun x hx => by
      obtain ⟨i, hi, rfl⟩ := List.mem_map.1 hx
      have hi := List.mem_range.1 hi
      obtain ⟨_, h1, _, _, _, _, _, _, _, _, _, h2⟩ := hY i (by omega)
      exact ⟨by have := h2 (weights_in Tryz.underlying36 hw (List.mem_map.2 ⟨i, List.mem_range.2 hi, rfl⟩)); unfold reachBytes at this; omega, h1⟩⟩⟩
    have hl0 : len ≠ 0 := by
      intro h0
      apply hne
      rw [h0]
      rfl
    obtain ⟨b, off, spot⟩ := a
    have hspot : spot = none := spot_none (hY 0 (by omega)).1
    subst hspot
    refine ⟨b, off, rfl, hlt (.cell b off) (List.mem_append_left _ (MemPlace.mem_row.2 ⟨0, by omega, by simp⟩)), fun j x hx => ?_⟩
    have hj : j < len := by
      have := (List.getElem?_eq_some_iff.1 hx).1
      rw [hll] at this
      exact this
    have e : Y j = x := by
      rw [List.getElem?_map, List.getElem?_range hj] at hx
      exact Option.some.inj hx
    have h := hY j (by omega)
    simp only [add_two] at h
    rw [e] at h
    obtain ⟨a1, a2, ad, q, c, a3, a4, a5, a6, a7, a8, _⟩ := h
    exact ⟨a1, a2, ad, q, c, a3, a4, a5, a6, a7, a8⟩
set_option maxRecDepth 100000 in
/-- an inode's cells that came in -/
theorem open_ino_f {W : World} {y : DataW H × List MemPlace} {n0 : Nat} {c0 c1 c2 c3 c4 c5 c6 c7 c8 : Value} (hf : DataW.trod enc Tryz.prog W 0 (fun _ => true) true n0 38 [c0, c1, c2, c3, c4, c5, c6, c7, c8] = some y) (hlt : ∀ x ∈ y.2, x.block < W.heap.size) :
    ∃ (x : InoP) (da : Option Addr) (dn dc : Nat) (na : Option Addr) (nn nc : Nat) (za : Option Addr) (zn zc : Nat) (aa : Option Addr) (an ac : Nat), [c0, c1, c2, c3, c4, c5, c6, c7, c8] = ivC x da dn dc na nn nc za zn zc aa an ac ∧ IvP W x da dn dc na nn nc za zn zc aa an ac ∧ ((∀ n ∈ y.1.weights Tryz.prog 38, n ≤ reachBytes) → FarI x) := by
  obtain ⟨d, p⟩ := y
  obtain ⟨xs, n, _, hx, _, hlen, hfs⟩ := DataW.trod_struct Tryz.underlying38 hf
  match xs, hlen with
  | [y0, y1, y2, y3, y4, y5, y6, y7, y8], _ =>
    have f0 : DataW.trod enc Tryz.prog W 0 (fun _ => true) true n 3 [c0] = some y0 := by
      have h := hfs 0 _ rfl
      change DataW.trod enc Tryz.prog W 0 (fun _ => true) true n 3 (List.take (Tryz.prog.cellsOf 3) (List.drop 0 [c0, c1, c2, c3, c4, c5, c6, c7, c8])) = some y0 at h
      rw [gcells3] at h
      exact h
    have f1 : DataW.trod enc Tryz.prog W 0 (fun _ => true) true n 25 [c1] = some y1 := by
      have h := hfs 1 _ rfl
      change DataW.trod enc Tryz.prog W 0 (fun _ => true) true n 25 (List.take (Tryz.prog.cellsOf 25) (List.drop 1 [c0, c1, c2, c3, c4, c5, c6, c7, c8])) = some y1 at h
      rw [gcells25] at h
      exact h
    have f2 : DataW.trod enc Tryz.prog W 0 (fun _ => true) true n 3 [c2] = some y2 := by
      have h := hfs 2 _ rfl
      change DataW.trod enc Tryz.prog W 0 (fun _ => true) true n 3 (List.take (Tryz.prog.cellsOf 3) (List.drop 2 [c0, c1, c2, c3, c4, c5, c6, c7, c8])) = some y2 at h
      rw [gcells3] at h
      exact h
    have f3 : DataW.trod enc Tryz.prog W 0 (fun _ => true) true n 3 [c3] = some y3 := by
      have h := hfs 3 _ rfl
      change DataW.trod enc Tryz.prog W 0 (fun _ => true) true n 3 (List.take (Tryz.prog.cellsOf 3) (List.drop 3 [c0, c1, c2, c3, c4, c5, c6, c7, c8])) = some y3 at h
      rw [gcells3] at h
      exact h
    have f4 : DataW.trod enc Tryz.prog W 0 (fun _ => true) true n 33 [c4] = some y4 := by
      have h := hfs 4 _ rfl
      change DataW.trod enc Tryz.prog W 0 (fun _ => true) true n 33 (List.take (Tryz.prog.cellsOf 33) (List.drop 4 [c0, c1, c2, c3, c4, c5, c6, c7, c8])) = some y4 at h
      rw [gcells33] at h
      exact h
    have f5 : DataW.trod enc Tryz.prog W 0 (fun _ => true) true n 9 [c5] = some y5 := by
      have h := hfs 5 _ rfl
      change DataW.trod enc Tryz.prog W 0 (fun _ => true) true n 9 (List.take (Tryz.prog.cellsOf 9) (List.drop 5 [c0, c1, c2, c3, c4, c5, c6, c7, c8])) = some y5 at h
      rw [gcells9] at h
      exact h
    have f6 : DataW.trod enc Tryz.prog W 0 (fun _ => true) true n 34 [c6] = some y6 := by
      have h := hfs 6 _ rfl
      change DataW.trod enc Tryz.prog W 0 (fun _ => true) true n 34 (List.take (Tryz.prog.cellsOf 34) (List.drop 6 [c0, c1, c2, c3, c4, c5, c6, c7, c8])) = some y6 at h
      rw [gcells34] at h
      exact h
    have f7 : DataW.trod enc Tryz.prog W 0 (fun _ => true) true n 35 [c7] = some y7 := by
      have h := hfs 7 _ rfl
      change DataW.trod enc Tryz.prog W 0 (fun _ => true) true n 35 (List.take (Tryz.prog.cellsOf 35) (List.drop 7 [c0, c1, c2, c3, c4, c5, c6, c7, c8])) = some y7 at h
      rw [gcells35] at h
      exact h
    have f8 : DataW.trod enc Tryz.prog W 0 (fun _ => true) true n 36 [c8] = some y8 := by
      have h := hfs 8 _ rfl
      change DataW.trod enc Tryz.prog W 0 (fun _ => true) true n 36 (List.take (Tryz.prog.cellsOf 36) (List.drop 8 [c0, c1, c2, c3, c4, c5, c6, c7, c8])) = some y8 at h
      rw [gcells36] at h
      exact h
    simp only [Prod.mk.injEq] at hx
    obtain ⟨x0, e0, _, _⟩ := DataW.trod_int Tryz.underlying3 f0
    obtain ⟨x1, e1, _, _⟩ := DataW.trod_int Tryz.underlying25 f1
    obtain ⟨x2, e2, _, _⟩ := DataW.trod_int Tryz.underlying3 f2
    obtain ⟨x3, e3, _, _⟩ := DataW.trod_int Tryz.underlying3 f3
    obtain ⟨da, ld, dc, e4, d1, d2, d3, d4, d5⟩ := open_byt_f Tryz.underlying33 Tryz.underlying5 gcells5 f4 (fun x hx2 => hlt x (by rw [hx.2]; simp [hx2]))
    obtain ⟨t, e5, _, ht⟩ := DataW.trod_string Tryz.underlying9 f5
    obtain ⟨na, ln, nc, e6, n1, n2, n3, n4, _, n6⟩ := open_srw_f Tryz.underlying34 Tryz.underlying9 gcells9 f6 (fun x hx2 => hlt x (by rw [hx.2]; simp [hx2]))
    obtain ⟨za, lz, zc, e7, z1, z2, z3, z4, z5⟩ := open_zrw_f Tryz.underlying35 Tryz.underlying3 gcells3 f7 (fun x hx2 => hlt x (by rw [hx.2]; simp [hx2]))
    obtain ⟨aa, la, ac, e8, a1, a2, a3, a4, a5⟩ := open_arw_f f8 (fun x hx2 => hlt x (by rw [hx.2]; simp [hx2]))
    simp only [List.cons.injEq, and_true] at e0 e1 e2 e3 e5
    subst e0 e1 e2 e3 e4 e5 e6 e7 e8
    exact ⟨⟨x0, x1, x2, x3, ld, t, ln, lz, la⟩, da, _, dc, na, _, nc, za, _, zc, aa, _, ac, rfl, ⟨rfl, d1, d2, d3, d4, rfl, n1, n2, n3, n4, rfl, z1, z2, z3, z4, rfl, a1, a2, a3, a4, by unfold maxLen at ht; show t.size ≤ _; omega⟩, fun hw => by
      rw [show ((d, p) : DataW H × List MemPlace).1 = _ from hx.1] at hw
      refine ⟨?_, ?_, ?_, a5 (weights_field (j := 8) Tryz.underlying38 rfl rfl hw)⟩
      · have := d5 (weights_field (j := 4) Tryz.underlying38 rfl rfl hw)
        rw [gbytes5, Nat.mul_one] at this
        unfold reachBytes at this
        show ld.length ≤ _
        omega
      · have := n6 (weights_field (j := 6) Tryz.underlying38 rfl rfl hw)
        rw [gbytes9] at this
        unfold reachBytes at this
        show ln.length * 16 ≤ _
        omega
      · have := z5 (weights_field (j := 7) Tryz.underlying38 rfl rfl hw)
        rw [gbytes3] at this
        unfold reachBytes at this
        show lz.length * 8 ≤ _
        omega⟩
theorem add_at9 (b o i : Nat) (k : Nat) : ((⟨b, o, none⟩ : Addr).add (i * 9)).add k = ⟨b, o + i * 9 + k, none⟩ := by rw [WideShapes.add_plain, WideShapes.add_plain]
set_option maxRecDepth 100000 in
/-- a row of inodes that came in -/
theorem open_irw_f {W : World} {v : Value} {y : DataW H × List MemPlace} {n : Nat} (hf : DataW.trod enc Tryz.prog W 0 (fun _ => true) true n 22 [v] = some y) (hlt : ∀ x ∈ y.2, x.block < W.heap.size) :
    ∃ ao l c, v = .slice ao (l : List InoP).length c ∧ l.length ≤ c ∧ c ≤ 9223372036854775807 ∧ Irw W ao l ∧ (ao = none → c = 0) ∧ ((∀ n ∈ y.1.weights Tryz.prog 22, n ≤ reachBytes) → FarL l) := by
  obtain ⟨d, p⟩ := y
  rcases Go.Deep.open_slice Tryz.underlying22 hf with ⟨hcs, hx⟩ | ⟨a, len, cap, m, n', D, Pl, hcs, _, hl, hm, hmm, hx, each⟩
  · simp only [List.cons.injEq, and_true] at hcs
    subst hcs
    exact ⟨none, [], 0, rfl, Nat.le_refl _, by omega, fun h => absurd rfl h, (fun _ => rfl), fun _ => ⟨by simp, fun x hx => by cases hx⟩⟩
  · simp only [List.cons.injEq, and_true] at hcs
    subst hcs
    simp only [if_true] at hmm
    subst hmm
    simp only [Prod.mk.injEq] at hx
    obtain ⟨rfl, rfl⟩ := hx
    rw [gcells38] at each hlt
    obtain ⟨Y, hY⟩ := Go.Deep.choose_lt (α := InoP) (n := m) (p := fun i x => ∃ (da : Option Addr) (dn dc : Nat) (na : Option Addr) (nn nc : Nat) (za : Option Addr) (zn zc : Nat) (aa : Option Addr) (an ac : Nat), (∀ k, k < 9 → W.cell? ((a.add (i * 9)).add k) = (ivC x da dn dc na nn nc za zn zc aa an ac)[k]?) ∧ IvP W x da dn dc na nn nc za zn zc aa an ac ∧ ((∀ n ∈ (D i).weights Tryz.prog 38, n ≤ reachBytes) → FarI x)) (fun i hi => by
      obtain ⟨cs', h1, h2⟩ := each i hi
      obtain ⟨_, hlen, hc⟩ := World.cells?_some h1
      match cs', hlen with
      | [c0, c1, c2, c3, c4, c5, c6, c7, c8], _ =>
        obtain ⟨x, da, dn, dc, na, nn, nc, za, zn, zc, aa, an, ac, e, hv, hf38⟩ := open_ino_f h2 (fun x hx => hlt x (List.mem_append_right _ (List.mem_flatMap.2 ⟨i, List.mem_range.2 hi, hx⟩)))
        refine ⟨x, da, dn, dc, na, nn, nc, za, zn, zc, aa, an, ac, fun k hk => ?_, hv, hf38⟩
        rw [← e, hc k hk])
    have hll : ((List.range len).map Y).length = len := by simp
    refine ⟨some a, (List.range len).map Y, m, by rw [hll], by rw [hll]; exact hl, by unfold maxLen at hm; omega, fun hne => ?_, (fun h => by cases h), fun hw => ⟨by have := weights_len Tryz.underlying22 hw; rw [gbytes38] at this; simp only [List.length_map, List.length_range] at this ⊢; unfold reachBytes at this; omega, fun x hx => by
      obtain ⟨i, hi, rfl⟩ := List.mem_map.1 hx
      have hi := List.mem_range.1 hi
      obtain ⟨_, _, _, _, _, _, _, _, _, _, _, _, _, _, h2⟩ := hY i (by omega)
      exact h2 (weights_in Tryz.underlying22 hw (List.mem_map.2 ⟨i, List.mem_range.2 hi, rfl⟩))⟩⟩
    have hl0 : len ≠ 0 := by
      intro h0
      apply hne
      rw [h0]
      rfl
    obtain ⟨b, off, spot⟩ := a
    have hspot : spot = none := by
      obtain ⟨da, dn, dc, na, nn, nc, za, zn, zc, aa, an, ac, h, _⟩ := hY 0 (by omega)
      exact spot_none (h 0 (by decide))
    subst hspot
    refine ⟨b, off, rfl, hlt (.cell b off) (List.mem_append_left _ (MemPlace.mem_row.2 ⟨0, by omega, by simp⟩)), fun j x hx => ?_⟩
    have hj : j < len := by
      have := (List.getElem?_eq_some_iff.1 hx).1
      rw [hll] at this
      exact this
    have e : Y j = x := by
      rw [List.getElem?_map, List.getElem?_range hj] at hx
      exact Option.some.inj hx
    obtain ⟨da, dn, dc, na, nn, nc, za, zn, zc, aa, an, ac, h, hv, _⟩ := hY j (by omega)
    simp only [add_at9] at h
    rw [e] at h hv
    exact ⟨da, dn, dc, na, nn, nc, za, zn, zc, aa, an, ac, ⟨h 0 (by decide), h 1 (by decide), h 2 (by decide), h 3 (by decide), h 4 (by decide), h 5 (by decide), h 6 (by decide), h 7 (by decide), h 8 (by decide)⟩, hv⟩
set_option maxRecDepth 100000 in
/-- a file system that came in -/
theorem open_fs {W : World} {base : Nat} {v : Value} {d : DataW H} {p : List MemPlace} (hval : Value.okWide Tryz.prog W .any base 24 v) (h : DataW.Trod enc Tryz.prog W 0 (fun _ => true) true 24 v d p) (hlt : ∀ x ∈ p, x.block < W.heap.size) :
    ∃ (ao : Option Addr) (l : List InoP) (c : Nat) (next : Int), v = .agg #[.slice ao l.length c, .int .i64 next] ∧ -9223372036854775808 ≤ next ∧ next ≤ 9223372036854775807 ∧ l.length ≤ c ∧ c ≤ 9223372036854775807 ∧ Irw W ao l ∧ (ao = none → c = 0) ∧ ((∀ n ∈ d.weights Tryz.prog 24, n ≤ reachBytes) → FarL l) := by
  obtain ⟨cs, rfl, hsz⟩ := okWide_struct Tryz.underlying24 hval
  rw [gcells24] at hsz
  obtain ⟨l⟩ := cs
  obtain ⟨fuel, hf⟩ := h
  match l, hsz with
  | [c0, c1], _ =>
    obtain ⟨xs, n, _, hx, _, hlen, hfs⟩ := DataW.trod_struct Tryz.underlying24 hf
    match xs, hlen with
    | [y0, y1], _ =>
      have f0 : DataW.trod enc Tryz.prog W 0 (fun _ => true) true n 22 [c0] = some y0 := by
        have h := hfs 0 _ rfl
        change DataW.trod enc Tryz.prog W 0 (fun _ => true) true n 22 (List.take (Tryz.prog.cellsOf 22) (List.drop 0 [c0, c1])) = some y0 at h
        rw [gcells22] at h
        exact h
      have f1 : DataW.trod enc Tryz.prog W 0 (fun _ => true) true n 3 [c1] = some y1 := by
        have h := hfs 1 _ rfl
        change DataW.trod enc Tryz.prog W 0 (fun _ => true) true n 3 (List.take (Tryz.prog.cellsOf 3) (List.drop 1 [c0, c1])) = some y1 at h
        rw [gcells3] at h
        exact h
      simp only [Prod.mk.injEq] at hx
      obtain ⟨ao, l, c, e0, h1, h2, h3, h4, h5⟩ := open_irw_f f0 (fun x hx2 => hlt x (by rw [hx.2]; simp [hx2]))
      obtain ⟨next, e1, _, hw⟩ := DataW.trod_int Tryz.underlying3 f1
      have hb := bounds_i64 hw
      simp only [List.cons.injEq, and_true] at e1
      subst e0 e1
      exact ⟨ao, l, c, next, rfl, hb.1, hb.2, h1, h2, h3, h4, fun hw => h5 (weights_field (j := 0) Tryz.underlying24 rfl rfl (by rw [hx.1] at hw; exact hw))⟩
end
end Go.Proofs.YtcgbaiogbcodcaaGreatDoor.Lw
namespace Go.Proofs.YtcgbaiogbcodcaaGreatDoor
namespace Sh
open Go.ChangeShapes Go.WideShapes Go.ChangeAt Go.RowKit Go.Lib Go.ChangeMaps

theorem numbers_env (ao : Option Addr) (l : List Lw.InoP) (c : Nat) (next k : Int) (w : World) (hL : laidMetH Tryz.prog laidAll w) (h : Lw.Irw w ao l) (hc : l.length ≤ c) (hc2 : c ≤ 9223372036854775807) (hn : ao = none → c = 0) (hF : Lw.FarL l) :
    Calls Tryz.prog 3 #[.agg #[.slice ao l.length c, .int .i64 next], .int .i64 k] w fun e w' => e = .returned (.bool true) ∧ Below w.heap.size w w' :=
  Lw.numbers_law ao l l.length c next k w (errT_of hL) h rfl hn hc hc2 hF
set_option maxRecDepth 100000 in
/-- WHAT THE WALK GIVES, for every argument and every memory that meets the row. -/
theorem plainNumbers_contract (H : Type) (enc : TypeId × Value → H) (W : World) (base : Nat) (args : Array Value) (ds gs : List (DataW H)) (before : List MemPlace)
    (hval : ∀ (j : Nat) t v, Tryz.f3.params[j]? = some t → args[j]? = some v → Value.okWide Tryz.prog W .any base t v)
    (hW : DataW.Whole enc Tryz.prog Tryz.f3.params.toList Rows.plainNumbersSpec.vars false W args.toList ds gs before) 
    (hsz0 : (DataW.weightsEach Tryz.prog (Tryz.f3.params.toList ++ (OpenSpec.ofChange Rows.plainNumbersSpec).bare.plain.varTypes Tryz.prog) (ds ++ gs)).all (· ≤ reachBytes) = true) (hL : laidMetH Tryz.prog Rows.plainNumbersRow.laid W) :
    Calls Tryz.prog 3 args W fun e W' => ∃ v, e = .returned v ∧ Rows.plainNumbersSpec.post enc Tryz.prog Tryz.f3 false true false false W args v W' := by
  have hsz := hsz0
  clear hsz0
  have hW' := hW
  obtain ⟨p, q, hA0, hV, rfl, hfz, hnd⟩ := hW
  have hA : DataW.TrodAll enc Tryz.prog W 0 (fun _ => true) true Tryz.f3.params.toList args.toList ds p := hA0
  have hAk := hA
  clear hA0
  rw [Tryz.params3] at hA hval hsz
  obtain ⟨rfl, rfl⟩ := trodVars_none hV
  simp only [List.append_nil] at hW' hsz
  have hlt : ∀ x ∈ p, x.block < W.heap.size := fun x hx => by simpa using hW'.lt x hx
  obtain ⟨v0, vs0, d0, ds0, p0, q0, hargs, rfl, hp0, h0, r0⟩ := trodAll_cons hA
  obtain ⟨v1, vs1, d1, ds1, p1, q1, rfl, rfl, hp1, h1, r1⟩ := trodAll_cons r0
  obtain ⟨rfl, rfl, hpn⟩ := trodAll_nil r1
  obtain rfl : args = #[v0, v1] := by cases args; simp_all
  have hlt0 : ∀ x ∈ p0, x.block < W.heap.size := fun x hx => hlt x (by rw [hp0]; exact List.mem_append_left _ hx)
  have hltq0 : ∀ x ∈ q0, x.block < W.heap.size := fun x hx => hlt x (by rw [hp0]; exact List.mem_append_right _ hx)
  have hlt1 : ∀ x ∈ p1, x.block < W.heap.size := fun x hx => hltq0 x (by rw [hp1]; exact List.mem_append_left _ hx)
  have hltq1 : ∀ x ∈ q1, x.block < W.heap.size := fun x hx => hltq0 x (by rw [hp1]; exact List.mem_append_right _ hx)
  obtain ⟨af, f, cf, xf, rfl, hfl, hfh, hfc, hfm, hfr, hfn, hfF0⟩ := Lw.open_fs (hval 0 24 v0 rfl rfl) h0 hlt0
  have hfF := hfF0 (fun n hn => by simpa using List.all_eq_true.1 hsz n (DataW.weights_mem_each (j := 0) rfl rfl n hn))
  obtain ⟨k, rfl, rfl, rfl, ws1⟩ := open_int Tryz.underlying25 (hval 1 25 v1 rfl rfl) h1
  obtain ⟨hk0, hk1⟩ := bounds_i64 ws1
  refine (numbers_env af f cf xf k W hL hfr hfc hfm hfn hfF).mono fun e W' ⟨he, hb⟩ => ?_
  subst he
  exact ⟨_, rfl, _, _, _, [], p, [], hW', trodAll_mk1 (shut_bool Tryz.underlying4 _), below_trodAll laidOut hb _ _ _ _ (by kernel_rfl) hAk hlt, rfl, hb.frame _, fun h => by cases h⟩

theorem plainNumbers_reads (os : Os) {H : Type} (enc : TypeId × Value → H) : ∃ places, DataW.whole enc Tryz.prog ((laidWorld os).forCall (fun _ _ => 0) ⟨#[], #[.agg #[.slice none 0 0, .int .i64 0], .int .i64 0], []⟩).memory Tryz.f3.params.toList Rows.plainNumbersSpec.vars false (#[Value.agg #[.slice none 0 0, .int .i64 0], Value.int .i64 0] : Array Value).toList 8 = some ([.agg [.nil, .lit (.int .i64 0)], .lit (.int .i64 0)], [], places) :=
  ⟨[], by kernel_rfl⟩

set_option maxRecDepth 100000 in
theorem plainNumbers_lifted (os : Os) (started : os.Started) (H : Type) (enc : TypeId × Value → H) (F : Stop.Interp) :
    ReturnsInHanded {} Tryz.checked os 3 .any ((OpenSpec.ofChange Rows.plainNumbersSpec).preRow enc Tryz.prog Tryz.f3 Rows.plainNumbersRow.domain false Rows.plainNumbersRow.laid) (((OpenSpec.ofChange Rows.plainNumbersSpec).at F).post enc Tryz.prog Tryz.f3 false true false false) := by
  obtain ⟨places, hx⟩ := plainNumbers_reads os enc
  refine returnsInHanded_of_row (C := Tryz.checked) (s := OpenSpec.ofChange Rows.plainNumbersSpec) own started (by kernel_rfl) Tryz.func3 ?_ ?_
  · refine ⟨laidWorld os, fun _ _ => 0, ⟨#[], #[.agg #[.slice none 0 0, .int .i64 0], .int .i64 0], []⟩, laidWorld_os os, laidWorld_shaped os _, rfl, (Input.okWide_of_okWideB (by kernel_rfl)).2, ?_, ?_⟩
    · exact OpenSpec.preRow_of_cond 8 hx (by kernel_rfl) (fun k hk => by cases hk) (by kernel_rfl) (laidWorld_met os _)
    · simp only [Assume.holds]
      exact ⟨by simp, by simp, fun _ => Modest.zero, by simp, by simp⟩
  intro W base args ds gs before hval hW _ _ hsz hL hsh _
  exact plainNumbers_contract H enc W base args ds gs before hval hW hsz hL

theorem plainNumbers_said : Rows.PlainNumbersSaid :=
  OpenClaim.holds_of_cond 3 Tryz.f3 rfl rfl rfl rfl rfl rfl rfl ⟨rfl, rfl, rfl, rfl, rfl⟩ rfl rfl rfl rfl rfl (by kernel_rfl) Tryz.func3 (by kernel_rfl)
    (of_decide_eq_true (by kernel_rfl)) (by unfold Func.isWrapper; first | (rw [if_pos (by decide +kernel)]; kernel_rfl) | (rw [if_neg (by decide +kernel)]; exact ⟨rfl, rfl⟩))
    (fun os started H enc _ F => by rw [OpenClaim.pre_eq_preRow]; exact plainNumbers_lifted os started H enc F)
end Sh
theorem plainNumbers_plain (f : FuncId) (fn : Func) (hf : Tryz.pinned.checked.prog.funcNamed Rows.plainNumbersRow.func = some f) (hfn : Tryz.pinned.checked.prog.funcs[f]? = some fn) :
    true = Tryz.pinned.checked.prog.looks [] ∧ ∀ (j : Nat) t, fn.params[j]? = some t → Tryz.pinned.checked.prog.wantsStandIn t = false := by
  obtain rfl : f = 3 := Option.some.inj ((show Tryz.prog.funcNamed Rows.plainNumbersRow.func = some 3 by kernel_rfl).symm.trans hf) |>.symm
  obtain rfl : fn = Tryz.f3 := (Option.some.inj (Tryz.func3.symm.trans hfn)).symm
  refine ⟨by kernel_rfl, fun j t ht => ?_⟩
  rw [Tryz.params3] at ht
  have hm : t ∈ [24, 25] := by simpa using Array.mem_of_getElem? ht
  have hall : ([24, 25].all fun u => !Tryz.prog.wantsStandIn u) = true := by kernel_rfl
  exact (show Tryz.prog.wantsStandIn t = false by simpa using List.all_eq_true.1 hall t hm)
/-- THE STATEMENT. -/
theorem plainNumbers_card : Rows.PlainNumbersCardSaid :=
  Claim7.holds_tied_plain_at .later [] _ _ _ _ Sh.plainNumbers_said (fun _ h => by cases h) (by kernel_rfl) (fun _ h => by cases h) plainNumbers_row_tie rfl ⟨rfl, rfl⟩ (by kernel_rfl) rfl plainNumbers_plain (by kernel_rfl)
end Go.Proofs.YtcgbaiogbcodcaaGreatDoor
