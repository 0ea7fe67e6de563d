/-
  The contract of super's sorted, by slices.Values, Sorted and Compact of the library: a row's ints, each once, rising. Conditions: a row of at most a million ints.
-/
import Derived.Test.YtlpbkjonicjccaaDoorSa
import Derived.Test.YtlpbkjonicjccaaDoorShelf
import Derived.Test.YtlpbkjonicjccaaDoorQb
import Derived.Sort.OwnSortedInts
import Derived.RangeFuncGives
import Derived.RangeFuncBox
import Derived.Maps.OwnIn
import Derived.Great.BuildSlice
import Derived.RangeFuncNested
import Derived.RangeFuncBound
import Derived.RangeFuncCalls
import Derived.RangeFuncLeaves
import Derived.Shelf.Abstract
import Derived.Shelf.RegionOpen
import Derived.WalkKit
import Derived.OwnWalkIn
import Derived.TacticsInMore
import Derived.LoopNIn
import Derived.LoopIn
import Derived.Sort.QuietIn
namespace Go.Proofs.YtlpbkjonicjccaaDoor.Sh
open Go.RowKit Go.Lib Go.Maps Go.Sort Go.Shelf
attribute [local go_sem] Oper.semAt_some

set_option maxRecDepth 100000 in
theorem values_45 (ao : Option Addr) (m cap : Nat) (W : World) : CallsIn Fence.wide 5 Tryd.prog 45 #[.slice ao m cap] W fun e w' => e = .returned (.func (.func 58) #[] #[.pointer (some ⟨W.heap.size, 0, none⟩)]) ∧ w' = W.alloc (.cells #[.slice ao m cap] 23) := by
  refine callsIn_of_wp Tryd.func45 rfl trivial ?_ rfl
  simp only [Tryd.ntmps45, List.size_toArray, List.length_cons, List.length_nil, Nat.reduceAdd, Nat.reduceSub, Array.replicate_succ, Array.replicate_zero, List.push_toArray, List.append_toArray, List.nil_append, List.cons_append]
  gi_wp2
  go_ret
  exact ⟨rfl, rfl⟩
/-- what a round keeps: the row that the iterator reads -/
def KC (ao : Option Addr) (p : List Int) (W W' : World) : Prop := Zrw W ao p → Zrw W' ao p
theorem kc_t {ao : Option Addr} {p : List Int} {A B C : World} (h : KC ao p A B) (k : KC ao p B C) : KC ao p A C := fun x => k (h x)
theorem kc_b {ao : Option Addr} {p : List Int} (W : World) (l : Nat) (o o' : Obj) (hl : W.heap[l]? = some o) (hc : o.isCells = false) : KC ao p W (W.putObj l o') := fun hz hne => by
  obtain ⟨b, off, e, hb, hcell⟩ := hz hne
  have h0 := hcell 0 (by cases p with | nil => exact absurd rfl hne | cons _ _ => simp)
  have hbl : b ≠ l := by
    rintro rfl
    obtain ⟨ob, ho, h1⟩ := cells_of_cell h0
    rw [hl] at ho
    cases ho
    rw [hc] at h1
    cases h1
  exact ⟨b, off, e, by simpa using hb, fun j hj => (World.cell?_of_block (a := ⟨b, off + j, none⟩) (World.putObj_heap_other (show b ≠ l from hbl))).trans (hcell j hj)⟩
set_option maxRecDepth 100000 in
set_option maxHeartbeats 4000000 in
theorem values58_in (n : Nat) (hn : 1 ≤ n) (l B m cap : Nat) (ao : Option Addr) (p : List Int) (hm : p.length = m) (hm2 : m ≤ 1000000) (J Jx : List Int → World → Prop)
    (hY : ∀ pre x W, J pre W → pre.length < p.length → YieldAt Fence.wide (n - 1) Tryd.prog l #[.int .i64 x] W fun e W' => (e = .returned (.bool true) ∧ J (pre ++ [x]) W' ∧ KC ao p W W') ∨ (e = .returned (.bool false) ∧ Jx (pre ++ [x]) W'))
    (W : World) (hz : Zrw W ao p) (hb : W.cell? ⟨B, 0, none⟩ = some (.slice ao m cap)) (h0 : J [] W) :
    CallsIn Fence.wide n Tryd.prog 58 #[.func (.yield l) #[] #[], .pointer (some ⟨B, 0, none⟩)] W fun e W' => (∃ v, e = .returned v) ∧ ((∃ xs, xs = p ∧ J xs W') ∨ (∃ pre, True ∧ Jx pre W')) := by
  have HZ := Lib.hid hz
  have HP := Lib.hid hm
  clear hz hm
  refine callsIn_of_wp Tryd.func58 rfl trivial ?_ rfl
  simp only [Tryd.ntmps58, List.size_toArray, List.length_cons, List.length_nil, Nat.reduceAdd, Nat.reduceSub, Array.replicate_succ, Array.replicate_zero, List.push_toArray, List.append_toArray, List.nil_append, List.cons_append]
  gi_wp2
  clear hb
  gi_loopw [7] (fun vi wr => ∃ i : Nat, i ≤ m ∧ vi = .int .i64 i ∧ J (p.take i) wr ∧ Hid (Zrw wr ao p)) (fun vi _ => m - (RowKit.intOf vi).toNat)
  case atStart => exact ⟨0, by omega, rfl, h0, HZ⟩
  case round =>
    obtain ⟨i, hi, rfl, hJs, hZs⟩ := hrel
    by_cases hin : i < m
    · have hil : i < p.length := by rw [HP.out]; exact hin
      obtain ⟨b, o, rfl, hb, hcell⟩ := hZs.out (by intro h0; rw [h0] at hil; simp at hil)
      have d1 := hcell i hil
      have hYY := hY (p.take i) p[i] wr hJs (by rw [List.length_take]; omega)
      rw [← List.take_succ_eq_append_getElem hil] at hYY
      obtain ⟨fn, tmps, assign, body, hy, hR⟩ := hYY
      have HR := Lib.hid hR
      obtain ⟨q, hq⟩ : ∃ q, q = p[i] := ⟨_, rfl⟩
      rw [← hq] at d1 hy
      clear hR hcell hY h0 hJs hq
      gi_wp2_with fail
      refine HR.out.mono ?_
      rintro e W3 (⟨rfl, hJ3, hk3⟩ | ⟨rfl, hJx3⟩)
      · have hZ3 := Lib.hid (hk3 hZs.out)
        clear hk3
        gi_wp2_with fail
        go_roundw
        case rel => exact ⟨i + 1, by omega, by go_num, hJ3, hZ3⟩
        case measure => simp [RowKit.intOf]; omega
      · gi_wp2
        refine bodyPost_ret (results_none rfl _ _ _) rfl ?_
        exact ⟨⟨_, rfl⟩, .inr ⟨_, trivial, hJx3⟩⟩
    · obtain rfl : i = m := by omega
      rw [List.take_of_length_le (by rw [HP.out]; exact Nat.le_refl _)] at hJs
      clear hY
      gi_wp2
      go_end0
      exact ⟨⟨_, rfl⟩, .inl ⟨_, rfl, hJs⟩⟩
theorem values_stops (n : Nat) (hn : 1 ≤ n) (B m cap : Nat) (ao : Option Addr) (p : List Int) (hm : p.length = m) (hm2 : m ≤ 1000000) (w : World) (hB : B < w.heap.size) (hz : Zrw w ao p) (hb : w.cell? ⟨B, 0, none⟩ = some (.slice ao m cap)) :
    SeqStopsK Fence.wide n Tryd.prog 58 #[.pointer (some ⟨B, 0, none⟩)] (fun x : Int => #[Value.int .i64 x]) (KC ao p) (fun xs => xs = p) (fun _ => True) p.length w := fun l J Jx W hW _ _ hY h0 =>
  values58_in n hn l B m cap ao p hm hm2 J Jx hY W (hz.below hW) ((hW.cell (p := ⟨B, 0, none⟩) hB).trans hb) h0
theorem r23 {W : World} {bx : Nat} {v : Value} (h : W.cell? ⟨bx, 0, none⟩ = some v) : (Instr.loadAt 23 (.pointer (some ⟨bx, 0, none⟩))).run Tryd.prog W = .ok v W := by
  go_simp
theorem zrw_one (W : World) (x : Int) : Zrw (W.alloc (.cells #[.int .i64 x] 3)) (some ⟨W.heap.size, 0, none⟩) [x] := fun _ => ⟨W.heap.size, 0, rfl, by simp, fun j hj => by
  obtain rfl : j = 0 := by simpa using hj
  rw [World.cell?_alloc_new]; simp⟩
/-- a row of ints of the call's own, the nil one just where it is empty -/
def AnsS (w : World) (p : List Int) (e : Ending) (w' : World) : Prop := Below w.heap.size w w' ∧ ∃ v, e = .returned v ∧ OwnZ w' w.heap.size v p
set_option maxRecDepth 100000 in
set_option maxHeartbeats 4000000 in
theorem append71 (B m cap : Nat) (ao : Option Addr) (p : List Int) (hm : p.length = m) (hm2 : m ≤ 1000000) (w : World) (hB : B < w.heap.size) (hz : Zrw w ao p) (hb : w.cell? ⟨B, 0, none⟩ = some (.slice ao m cap)) :
    CallsIn Fence.wide 6 Tryd.prog 71 #[.slice none 0 0, .func (.func 58) #[] #[.pointer (some ⟨B, 0, none⟩)]] w (AnsS w p) := by
  obtain ⟨i3, j0, j1, j2, j3⟩ := info_parts info3
  have HP := Lib.hid hm
  obtain ⟨bx, hbx⟩ : ∃ bx, w.heap.size = bx := ⟨_, rfl⟩
  have BX := Boxed.new w 23 (.slice none 0 0)
  have B1 : Below bx w (w.alloc (.cells #[.slice none 0 0] 23)) := by rw [← hbx]; exact (Below.refl _ w).alloc (Nat.le_refl _) _
  have hs1 : (w.alloc (.cells #[.slice none 0 0] 23)).heap.size = bx + 1 := by rw [World.size_alloc, hbx]
  have ST := values_stops 5 (by omega) B m cap ao p hm hm2 w hB hz hb
  have RW : OwnZ (w.alloc (.cells #[.slice none 0 0] 23)) bx (.slice none 0 0) [] := World.ownsRow_nil _ _ _ _
  have hB2 := hB
  rw [hbx] at BX hB2
  have ZW := Lib.hid (hz.below (by rw [hbx]; exact B1))
  clear hm
  unfold AnsS
  refine callsIn_of_wp_marks Tryd.func71 rfl trivial ?_ rfl
  simp only [Tryd.ntmps71, List.size_toArray, List.length_cons, List.length_nil, Nat.reduceAdd, Nat.reduceSub, Array.replicate_succ, Array.replicate_zero, List.push_toArray, List.append_toArray, List.nil_append, List.cons_append]
  gi_wp2_with fail
  refine wpIn_rangeFunc_ownF (n := 6) rfl (by omega) (gf := 58) (lb := #[.pointer (some ⟨B, 0, none⟩)]) rfl trivial (enters_of Tryd.func58 (by kernel_rfl) rfl)
    ST kc_t (fun W l o o' _ h1 h2 _ => kc_b W l o o' h1 h2) (by rw [hbx]; exact B1) (fun _ => rfl)
    (fun (pre : List Int) W => (∃ v, Boxed W bx 23 v ∧ W.ownsRow bx 3 1 v pre.length (rz pre) ∧ True) ∧ Below bx w W)
    (fun _ _ _ => False)
    (OwnFrom.and (Go.Own.from (holdsRow_own bx bx 23 3 1 (fun (pre : List Int) => pre.length) (fun pre => rz pre) (fun _ _ => True)) _) (ownFrom_below (by omega) (by omega)))
    (fun _ _ _ _ _ hs _ _ => hs)
    ⟨⟨_, BX, by simpa [OwnZ, rz] using RW, trivial⟩, B1⟩
    (fun (x : Int) => { tmps := #[.slice none 0 0, .func (.func 58) #[] #[.pointer (some ⟨B, 0, none⟩)], .pointer (some ⟨bx, 0, none⟩), undef, .slice none 0 0, .int .i64 x, .func (.func 58) #[] #[.pointer (some ⟨B, 0, none⟩)], .int .i64 x, undef, undef, undef, undef, undef], defers := [] }) ?assign ?body ?done ?stop
  case assign =>
    intro l x W K hK
    gi_wp2
    exact hK
  case stop =>
    rintro D c pre W _ _ h _
    exact h.elim
  case body =>
    rintro l0 pre x W ⟨⟨v, hv, hrow, _⟩, hBl⟩ hlt
    have hbz := hBl.size
    have hvc := hv.cell
    have hlen : pre.length < 1000000 := by have := HP.out; omega
    have f1 : ∀ (j : Nat) (u : Value), [Value.int .i64 x][j]? = some u → (W.alloc (.cells #[.int .i64 x] 3)).cell? ((⟨W.heap.size, 0, none⟩ : Addr).add j) = some u := fun j u hj => by
      obtain rfl : j = 0 := by have := (List.getElem?_eq_some_iff.1 hj).1; simpa using this
      rw [WideShapes.add_plain, World.cell?_alloc_new]; simpa using hj
    have f2 : ∀ u ∈ [Value.int .i64 x], u.oneCell' = true := by simp [Value.oneCell']
    have f3 : pre.length + 1 ≤ maxLen := by unfold maxLen; omega
    have f4 : (pre.length + 1) * 8 ≤ 140737488355328 := by omega
    have f5 : bx ≤ (W.alloc (.cells #[.int .i64 x] 3)).heap.size := by rw [World.size_alloc]; omega
    have hrow1 := World.ownsRow.alloc hrow (.cells #[.int .i64 x] 3)
    have kz : ∀ W', Below bx w W' → Zrw W' ao p := fun W' hb => hz.below (by rw [hbx]; exact hb)
    have KZ := Lib.hid kz
    clear kz hz ZW hb
    gi_wp2_with (first
      | (gi_at_builtin; refine wpListIn_append_own _ rfl _ _ 23 rfl bx 3 i3 (.int .i64 0) 1 8 Tryd.underlying23 j0 j1 j2 j3 rfl (by decide) _ _ _ rfl hrow1 ⟨W.heap.size, 0, none⟩ 1 1 [.int .i64 x] rfl rfl f1 f2 f3 f4 f5 ?_; intro v' w3 hown' hg3 hnil3
         obtain ⟨g', cap', rfl⟩ := ownsRow_succ hown'
         obtain ⟨hv1, hv2, hr2, hk2, hb2⟩ := Boxed.appended hv (by decide) hrow (by omega) (Nat.le_refl _) hown' hg3
         have hc3 := hv1.cell
         have hf3 := hv1.frozen)
      | gi_in)
    have hr3 : (w3.setCell ⟨bx, 0, none⟩ (.slice (some ⟨g', 0, none⟩) (pre.length + 1) cap')).ownsRow bx 3 1 (.slice (some ⟨g', 0, none⟩) (pre.length + 1) cap') (pre ++ [x]).length (rz (pre ++ [x])) := by
      rw [List.length_append, rz_app]; exact hr2
    exact ⟨hk2, fun _ => KZ.out _ (hBl.trans hb2), ⟨_, hv2, hr3, trivial⟩, hBl.trans hb2⟩
  case done =>
    rintro D ys W hD rfl ⟨⟨v, hv, hrow, _⟩, hBl⟩ hK
    have hc := hv.cell
    have hzW : D < W.heap.size := (Array.getElem?_eq_some_iff.1 hK).1
    have HROW := Lib.hid hrow
    have HBB := Lib.hid hBl
    have HKK := Lib.hid hK
    clear hrow hBl hK hv hz ZW RW ST BX B1
    gi_wp2
    refine ⟨by simp, .inl ⟨_, _, rfl, run_takeDeferred HKK.out, ?_⟩⟩
    exact ⟨_, results_tmp rfl _ _ _, by rw [hbx]; exact HBB.out.grown (grownBy_putObj' _ D _) (by omega) (fun k e => by cases e; omega), v, rfl, by rw [hbx]; exact ownsRow_putObj HROW.out _ HKK.out rfl⟩
set_option maxRecDepth 100000 in
theorem collect56 (B m cap : Nat) (ao : Option Addr) (p : List Int) (hm : p.length = m) (hm2 : m ≤ 1000000) (w : World) (hB : B < w.heap.size) (hz : Zrw w ao p) (hb : w.cell? ⟨B, 0, none⟩ = some (.slice ao m cap)) :
    Calls Tryd.prog 56 #[.func (.func 58) #[] #[.pointer (some ⟨B, 0, none⟩)]] w (AnsS w p) := by
  have C := Lib.hid ((callsIn_wide (n := 6)).1 (append71 B m cap ao p hm hm2 w hB hz hb))
  clear hz hb
  go_enter Tryd.func56, Tryd.ntmps56
  go_wp2_with fail
  refine C.out.mono ?_
  rintro e w' ⟨hb, v, rfl, ho⟩
  go_wp2_with fail
  go_ret
  exact ⟨hb, v, rfl, ho⟩
set_option maxRecDepth 100000 in
theorem sorted44 (B m cap : Nat) (ao : Option Addr) (p : List Int) (hm : p.length = m) (hm2 : m ≤ 1000000) (w : World) (hB : B < w.heap.size) (hz : Zrw w ao p) (hb : w.cell? ⟨B, 0, none⟩ = some (.slice ao m cap)) :
    Calls Tryd.prog 44 #[.func (.func 58) #[] #[.pointer (some ⟨B, 0, none⟩)]] w (AnsS w (mergeI p)) := by
  have C := Lib.hid (collect56 B m cap ao p hm hm2 w hB hz hb)
  clear hz hb
  go_enter Tryd.func44, Tryd.ntmps44
  go_wp2_with fail
  refine C.out.mono ?_
  rintro e W ⟨hb, v, rfl, hrow⟩
  have hrow0 := hrow
  rcases hrow.2 with ⟨rfl, h0⟩ | ⟨gb, c, cur, rfl, hbase, hgb, r1, r2, r3, r4⟩
  · obtain rfl : p = [] := List.eq_nil_of_length_eq_zero h0
    have CS := Lib.hid ((Tryd.slices_Sort_int_none none 0 W).mono (R' := fun e w' => e = .returned (.tuple #[]) ∧ Below w.heap.size w w') fun e w' h => ⟨h.1, by rw [h.2]; exact hb⟩)
    have N0 : ∀ X : World, OwnZ X w.heap.size (.slice none 0 0) (mergeI []) := fun X => by rw [show mergeI [] = [] by simp [mergeI]]; exact World.ownsRow_nil _ _ _ _
    clear hrow
    go_wp2_with fail
    refine CS.out.mono ?_
    rintro e w' ⟨rfl, hw⟩
    go_wp2_with fail
    go_ret
    exact ⟨hw, _, rfl, N0 _⟩
  · have hH : Holds (Value.int .i64) W gb 0 p.toArray := holds_of_blockI hgb (by simpa [rz] using r4)
    have hgl : gb < W.heap.size := (Array.getElem?_eq_some_iff.1 hgb).1
    have CS := Lib.hid ((Tryd.slices_Sort_int gb 0 c p W hH hgl (by omega)).mono (R' := fun e w' => e = .returned (.tuple #[]) ∧ Below w.heap.size w w' ∧ OwnZ w' w.heap.size (.slice (some ⟨gb, 0, none⟩) p.length c) (mergeI p)) fun e w' h => by
      obtain ⟨h1, n, os, rfl⟩ := h
      refine ⟨h1, hb.grown (grownBy_sortedI _) hb.size (fun j hj => by cases hj; exact hbase), ?_⟩
      have := ownsRow_sortedI (n := n) (os := os) (base := w.heap.size) (mergeI_len p) hbase hgb r1 r2 r3
      unfold OwnZ
      rw [mergeI_len]
      exact this)
    clear hrow hrow0 r4 hgb r3 hH hb
    obtain ⟨m2, hm2⟩ : ∃ m2, m2 = p.length := ⟨_, rfl⟩
    rw [← hm2] at CS ⊢
    have HM2 := Lib.hid hm2
    clear hm2
    go_wp2_with fail
    refine CS.out.mono ?_
    rintro e w' ⟨rfl, hb, ho⟩
    go_wp2_with fail
    go_ret
    exact ⟨hb, _, rfl, ho⟩
/-- a row of ints in memory, anew -/
def AnsZ (w : World) (p : List Int) (e : Ending) (w' : World) : Prop := Below w.heap.size w w' ∧ ∃ bo c, e = .returned (.slice bo p.length c) ∧ Zrw w' bo p ∧ (bo = none → c = 0) ∧ p.length ≤ c ∧ c ≤ 9223372036854775807 ∧ ∀ b o, bo = some ⟨b, o, none⟩ → w.heap.size ≤ b
theorem sort_none : sortU ltI [] = [] := rfl
set_option maxRecDepth 100000 in
theorem sorted27 (ao : Option Addr) (p : List Int) (m cap : Nat) (hm : p.length = m) (hm2 : m ≤ 1000000) (w : World) (hz : Zrw w ao p) :
    Calls Tryd.prog 27 #[.slice ao m cap] w (AnsZ w (sortU ltI p)) := by
  have b1 : Below w.heap.size w (w.alloc (.cells #[.slice ao m cap] 23)) := (Below.refl _ w).alloc (Nat.le_refl _) _
  have C45 := Lib.hid ((callsIn_wide (n := 5)).1 (values_45 ao m cap w))
  have C44 := Lib.hid (sorted44 w.heap.size m cap ao p hm hm2 (w.alloc (.cells #[.slice ao m cap] 23)) (by simp) (hz.below b1) (by rw [World.cell?_alloc_new]; simp))
  have HM := Lib.hid hm
  have B1 := Lib.hid b1
  clear hz hm b1
  go_enter Tryd.func27, Tryd.ntmps27
  go_wp2_with fail
  refine C45.out.mono ?_
  rintro e w' ⟨rfl, rfl⟩
  go_wp2_with fail
  refine C44.out.mono ?_
  rintro e W ⟨hb, v, rfl, hrow⟩
  have BW := Lib.hid (below_chain B1.out hb)
  have hws : w.heap.size ≤ (w.alloc (.cells #[.slice ao m cap] 23)).heap.size := by simp
  rcases hrow.2 with ⟨rfl, h0⟩ | ⟨gb, c, cur, rfl, hbase, hgb, r1, r2, r3, r4⟩
  · obtain rfl : p = [] := List.eq_nil_of_length_eq_zero (by rw [← mergeI_len]; exact h0)
    have CC := Lib.hid ((Tryd.slices_Compact_int_empty none 0 W).mono (R' := fun e w' => e = .returned (.slice none 0 0) ∧ AnsZ w (sortU ltI []) (.returned (.slice none 0 0)) w') fun e w' h => ⟨h.1, by rw [h.2]; exact ⟨BW.out, none, 0, rfl, zrw_nil _ _, fun _ => rfl, Nat.le_refl _, by omega, fun b o h => by cases h⟩⟩)
    clear hrow hb
    go_wp2_with fail
    refine CC.out.mono ?_
    rintro e w' ⟨rfl, hA⟩
    go_wp2_with fail
    go_ret
    exact hA
  · have hl := mergeI_len p
    have hbw := BW.out
    have hH : Holds (Value.int .i64) W gb 0 (mergeI p).toArray := holds_of_blockI hgb (by simpa [rz] using r4)
    have CC := Lib.hid ((Tryd.slices_Compact_int gb 0 c (mergeI p) W hH (by unfold maxLen at r2; omega) r1).mono (R' := fun e w' => ∃ v, e = .returned v ∧ AnsZ w (sortU ltI p) (.returned v) w') fun e w' h => by
      obtain ⟨rfl, q, rfl⟩ := h
      refine ⟨_, rfl, ?_⟩
      rw [compact_merge]
      have hcl := compact_len (mergeI p)
      rw [compact_merge] at hcl
      have hg := grownBy_sortedI (w := W) (g := gb) (n := q) (os := #[]) (sortU ltI p ++ List.replicate ((mergeI p).length - (sortU ltI p).length) 0).toArray
      have hh := heap_sortedI (w := W) (n := q) (os := #[]) (sortU ltI p ++ List.replicate ((mergeI p).length - (sortU ltI p).length) 0).toArray hgb
      rw [grow_empty] at hg hh
      refine ⟨hbw.grown hg hbw.size (fun j hj => by cases hj; omega), some ⟨gb, 0, none⟩, c, rfl, fun _ => ⟨gb, 0, rfl, (Array.getElem?_eq_some_iff.1 hh).1, fun j hj => ?_⟩, (fun h => by cases h), by omega, by unfold maxLen at r2; omega, fun b o h => by injection h with h; injection h with h; omega⟩
      have hjc : j < cur.size := by omega
      have ht := take_putCellsI cur (sortU ltI p ++ List.replicate ((mergeI p).length - (sortU ltI p).length) 0) (by simp; omega)
      have ht2 := congrArg (fun x => x[j]?) ht
      rw [List.getElem?_take_of_lt (by simp; omega), Array.getElem?_toList] at ht2
      refine (cell_of_row _ gb _ _ _ _ hh).trans ?_
      rw [Nat.zero_add, ht2, List.getElem?_map, List.getElem?_append_left hj, List.getElem?_eq_getElem hj]
      rfl)
    clear hrow hb hH hgb r3 r4 hl hbw
    obtain ⟨m2, hm3⟩ : ∃ m2, m2 = (mergeI p).length := ⟨_, rfl⟩
    rw [← hm3] at CC ⊢
    have HM3 := Lib.hid hm3
    clear hm3
    go_wp2_with fail
    refine CC.out.mono ?_
    rintro e w' ⟨v, rfl, hA⟩
    go_wp2_with fail
    go_ret
    exact hA
end Go.Proofs.YtlpbkjonicjccaaDoor.Sh
