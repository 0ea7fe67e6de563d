/-
  The contract of the document's own Choose. No condition.
-/
import Derived.Test.YtlpbkjonicjccaaDoorTb
import Derived.Test.YtlpbkjonicjccaaDoorSg
namespace Go.Proofs.YtlpbkjonicjccaaDoor.Sh
open Go.RowKit Go.Lib

theorem g_pos {l : List UInt8} {s : SP} (h : getL l = some s) : (0 : Int) < s.g := by
  obtain ⟨_, _, _, _, h1, _⟩ := okP_key (getL_some h).1
  omega
set_option maxHeartbeats 4000000 in
set_option maxRecDepth 100000 in
theorem refchoose16 (ao bo : Option Addr) (la lb : List UInt8) (n m c d : Nat) (w : World) (ha : Byt w ao la) (hb : Byt w bo lb) (hn : la.length = n) (hm : lb.length = m) (hnc : n ≤ c) (hmd : m ≤ d) (hc0 : c ≤ 9223372036854775807) (hd0 : d ≤ 9223372036854775807) : Calls Tryd.prog 16 #[.slice ao n c, .slice bo m d] w (AnsC w (getL la) (getL lb)) := by
  have K0 := Lib.hid (Blk.new w [.int .i64 0, .string ⟨#[]⟩, .slice none 0 0] 25 w.heap.size rfl)
  have B0 := Lib.hid (below_alloc' (Below.refl w.heap.size w) (Nat.le_refl _) (.cells #[.int .i64 0, .string ⟨#[]⟩, .slice none 0 0] 25))
  have K0s := Lib.hid K0.out.lt
  have CA := Lib.hid (refget15 ao la n c _ (ha.below B0.out) hn hnc hc0)
  have CB := Lib.hid (fun (W : World) (hw : Below w.heap.size w W) => refget15 bo lb m d W (hb.below hw) hm hmd hd0)
  clear ha hb hn hm hnc hmd hc0 hd0
  obtain ⟨s1, hs1⟩ : ∃ s1, s1 = (getL la).getD noSP := ⟨_, rfl⟩
  obtain ⟨s2, hs2⟩ : ∃ s2, s2 = (getL lb).getD noSP := ⟨_, rfl⟩
  obtain ⟨e1, he1⟩ : ∃ e1, e1 = getE la := ⟨_, rfl⟩
  obtain ⟨e2, he2⟩ : ∃ e2, e2 = getE lb := ⟨_, rfl⟩
  unfold AnsG at CA CB
  rw [← hs1, ← he1] at CA
  rw [← hs2, ← he2] at CB
  have HS1 := Lib.hid hs1
  have HS2 := Lib.hid hs2
  have HE1 := Lib.hid he1
  have HE2 := Lib.hid he2
  clear hs1 hs2 he1 he2
  go_enter Tryd.func16, Tryd.ntmps16
  go_wp2_with fail
  refine CA.out.mono ?_
  rintro e w1 ⟨b1, v1, rfl, a1, c1, rfl, hz1, hn1, hc1, hm1, hr1, hf1⟩
  have B1 := Lib.hid (below_chain B0.out b1)
  have K1 := Lib.hid (K0.out.low b1)
  obtain ⟨n1, hp1⟩ : ∃ n1, n1 = s1.p.length := ⟨_, rfl⟩
  rw [← hp1] at hc1 ⊢
  have B2 := Lib.hid (below_alloc' (Below.refl w1.heap.size w1) (Nat.le_refl _) (.cells #[.int .i64 s1.g, .string s1.r, .slice a1 n1 c1] 25))
  have X1 : Hid (Bxs w1 _ w1.heap.size s1.g s1.r a1 n1 c1) := Bxs.blk (w := w1) w1 s1.g s1.r a1 n1 c1
  have CB2 := Lib.hid (CB.out _ (below_chain B1.out B2.out))
  have Z1 := Lib.hid hz1
  have P1 := Lib.hid hp1
  clear b1 hz1 hp1 CA CB K0 B0
  go_wp2_with fail
  refine CB2.out.mono ?_
  rintro e w3 ⟨b3, v3, rfl, a2, c2, rfl, hz2, hn2, hc2, hm2, hr2, hf2⟩
  have B3 := Lib.hid (below_chain B2.out b3)
  have X3 := Lib.hid (X1.out.low b3)
  obtain ⟨n2, hp2⟩ : ∃ n2, n2 = s2.p.length := ⟨_, rfl⟩
  rw [← hp2] at hc2 ⊢
  have B4 := Lib.hid (below_alloc' (Below.refl w3.heap.size w3) (Nat.le_refl _) (.cells #[.int .i64 s2.g, .string s2.r, .slice a2 n2 c2] 25))
  have X4 := Lib.hid (X3.out.low B4.out)
  have Y4 : Hid (Bxs w3 _ w3.heap.size s2.g s2.r a2 n2 c2) := Bxs.blk (w := w3) w3 s2.g s2.r a2 n2 c2
  have K4 := Lib.hid (K1.out.low (below_chain B3.out B4.out))
  have B5 := Lib.hid (below_chain B1.out (below_chain B3.out B4.out))
  have F1 : Hid (∀ b o, a1 = some ⟨b, o, none⟩ → w.heap.size < b) := fun b o e => Nat.lt_of_lt_of_le K0s.out (hf1 b o e)
  have F2 : Hid (∀ b o, a2 = some ⟨b, o, none⟩ → w.heap.size < b) := fun b o e => Nat.lt_of_lt_of_le K1.out.lt (Nat.le_trans B2.out.size (hf2 b o e))
  have Z4 := Lib.hid (Z1.out.below (below_chain B3.out B4.out))
  have Z5 := Lib.hid (hz2.below B4.out)
  have P2 := Lib.hid hp2
  have x0 := X4.out.c0
  have x1 := X4.out.c1
  have x2 := X4.out.c2
  have y0 := Y4.out.c0
  have y1 := Y4.out.c1
  have y2 := Y4.out.c2
  have t0 := K4.out.cell 0
  have t1 := K4.out.cell 1
  have t2 := K4.out.cell 2
  have tf := fun j => K4.out.frozen j
  simp only [List.getElem?_cons_zero, List.getElem?_cons_succ] at t0 t1 t2
  clear b3 hz2 hp2 CB2 X1 X3 Z1 B2 B3 B4
  have R0 : ∀ (w' : World) (cs : List Value) (s : SP) (i er : Int), chooseL (getL la) (getL lb) = (s, i, er) → Below w.heap.size w w' → SupV w' (.agg cs.toArray) s → AnsC w (getL la) (getL lb) (.returned (.tuple #[.agg cs.toArray, .int .i64 i, .int .i64 er])) w' := fun w' cs s i er h1 h2 h3 => ⟨h2, _, by rw [h1], by rw [h1]; exact h3⟩
  have HR0 := Lib.hid R0
  clear R0
  rcases opt_or (getL la) with hx | ⟨t1', hx⟩ <;> rcases opt_or (getL lb) with hy | ⟨t2', hy⟩
  · have hE1 : e1 = 110 := by rw [HE1.out, getE_none hx]
    have hE2 : e2 = 110 := by rw [HE2.out, getE_none hy]
    have HCH := Lib.hid (choose_none hx hy)
    subst hE1 hE2
    clear hx hy HE1 HE2 HS1 HS2
    go_wp2_with fail
    exact bodyPost_ret (results_row_tmp2 rfl _ _ w.heap.size 25 _ _ _ _ rfl rfl rfl (((K4.out.set 0 (.int .i64 0)).set 1 (.string ⟨#[]⟩)).set 2 (.slice none 0 0)) Tryd.underlying25 rfl (size25 _ _ _)) rfl
      (HR0.out _ _ noSP (-1) 110 HCH.out (((B5.out.setCell (p := ⟨w.heap.size, 0, none⟩) (Nat.le_refl _) (.int .i64 0)).setCell (p := ⟨w.heap.size, 1, none⟩) (Nat.le_refl _) (.string ⟨#[]⟩)).setCell (p := ⟨w.heap.size, 2, none⟩) (Nat.le_refl _) (.slice none 0 0)) (sup_none _))
  · have hE1 : e1 = 110 := by rw [HE1.out, getE_none hx]
    have hE2 : e2 = 0 := by rw [HE2.out, getE_some hy]
    have hbn : ((getL la).isNone && (getL lb).isNone) = false := by rw [hx, hy]; rfl
    subst hE1 hE2
    have HCH : Hid (chooseL (getL la) (getL lb) = (s2, 1, 0)) := by
      show _ = _
      rw [HS2.out]
      exact choose_second hbn (by rw [hx, hy]; exact g_pos hy)
    clear hx hy HE1 HE2 HS1 HS2 hbn
    go_wp2_with fail
    exact bodyPost_ret (results_row_tmp2 rfl _ _ w.heap.size 25 _ _ _ _ rfl rfl rfl (((K4.out.set 0 (.int .i64 s2.g)).set 1 (.string s2.r)).set 2 (.slice a2 n2 c2)) Tryd.underlying25 rfl (size25 _ _ _)) rfl
      (HR0.out _ _ s2 1 0 HCH.out (((B5.out.setCell (p := ⟨w.heap.size, 0, none⟩) (Nat.le_refl _) (.int .i64 s2.g)).setCell (p := ⟨w.heap.size, 1, none⟩) (Nat.le_refl _) (.string s2.r)).setCell (p := ⟨w.heap.size, 2, none⟩) (Nat.le_refl _) (.slice a2 n2 c2))
        ⟨a2, c2, by rw [← P2.out]; rfl, zrw_set (zrw_set (zrw_set Z5.out _ _ F2.out) _ _ F2.out) _ _ F2.out, hn2, by rw [← P2.out]; exact hc2, hm2, hr2⟩)
  · have hE1 : e1 = 0 := by rw [HE1.out, getE_some hx]
    have hE2 : e2 = 110 := by rw [HE2.out, getE_none hy]
    have hbn : ((getL la).isNone && (getL lb).isNone) = false := by rw [hx, hy]; rfl
    subst hE1 hE2
    have HCH : Hid (chooseL (getL la) (getL lb) = (s1, 0, 0)) := by
      show _ = _
      rw [HS1.out]
      exact choose_first hbn (by rw [hx, hy]; exact fun h => Int.lt_irrefl _ (Int.lt_trans (g_pos hx) h))
    clear hx hy HE1 HE2 HS1 HS2 hbn
    go_wp2_with fail
    exact bodyPost_ret (results_row_tmp2 rfl _ _ w.heap.size 25 _ _ _ _ rfl rfl rfl (((K4.out.set 0 (.int .i64 s1.g)).set 1 (.string s1.r)).set 2 (.slice a1 n1 c1)) Tryd.underlying25 rfl (size25 _ _ _)) rfl
      (HR0.out _ _ s1 0 0 HCH.out (((B5.out.setCell (p := ⟨w.heap.size, 0, none⟩) (Nat.le_refl _) (.int .i64 s1.g)).setCell (p := ⟨w.heap.size, 1, none⟩) (Nat.le_refl _) (.string s1.r)).setCell (p := ⟨w.heap.size, 2, none⟩) (Nat.le_refl _) (.slice a1 n1 c1))
        ⟨a1, c1, by rw [← P1.out]; rfl, zrw_set (zrw_set (zrw_set Z4.out _ _ F1.out) _ _ F1.out) _ _ F1.out, hn1, by rw [← P1.out]; exact hc1, hm1, hr1⟩)
  · have hE1 : e1 = 0 := by rw [HE1.out, getE_some hx]
    have hE2 : e2 = 0 := by rw [HE2.out, getE_some hy]
    have hbn : ((getL la).isNone && (getL lb).isNone) = false := by rw [hx, hy]; rfl
    subst hE1 hE2
    by_cases hlt : s1.g < s2.g
    · have e4 : decide (s2.g ≤ s1.g) = false := by simp; exact hlt
      have HCH : Hid (chooseL (getL la) (getL lb) = (s2, 1, 0)) := by
        show _ = _
        rw [HS2.out]
        exact choose_second hbn (by rw [← HS1.out, ← HS2.out]; exact hlt)
      clear hx hy HE1 HE2 HS1 HS2 hlt hbn
      go_wp2_with fail
      exact bodyPost_ret (results_row_tmp2 rfl _ _ w.heap.size 25 _ _ _ _ rfl rfl rfl (((K4.out.set 0 (.int .i64 s2.g)).set 1 (.string s2.r)).set 2 (.slice a2 n2 c2)) Tryd.underlying25 rfl (size25 _ _ _)) rfl
        (HR0.out _ _ s2 1 0 HCH.out (((B5.out.setCell (p := ⟨w.heap.size, 0, none⟩) (Nat.le_refl _) (.int .i64 s2.g)).setCell (p := ⟨w.heap.size, 1, none⟩) (Nat.le_refl _) (.string s2.r)).setCell (p := ⟨w.heap.size, 2, none⟩) (Nat.le_refl _) (.slice a2 n2 c2))
          ⟨a2, c2, by rw [← P2.out]; rfl, zrw_set (zrw_set (zrw_set Z5.out _ _ F2.out) _ _ F2.out) _ _ F2.out, hn2, by rw [← P2.out]; exact hc2, hm2, hr2⟩)
    · have e4 : decide (s2.g ≤ s1.g) = true := by simp; omega
      have HCH : Hid (chooseL (getL la) (getL lb) = (s1, 0, 0)) := by
        show _ = _
        rw [HS1.out]
        exact choose_first hbn (by rw [← HS1.out, ← HS2.out]; exact hlt)
      clear hx hy HE1 HE2 HS1 HS2 hlt hbn
      go_wp2_with fail
      exact bodyPost_ret (results_row_tmp2 rfl _ _ w.heap.size 25 _ _ _ _ rfl rfl rfl (((K4.out.set 0 (.int .i64 s1.g)).set 1 (.string s1.r)).set 2 (.slice a1 n1 c1)) Tryd.underlying25 rfl (size25 _ _ _)) rfl
        (HR0.out _ _ s1 0 0 HCH.out (((B5.out.setCell (p := ⟨w.heap.size, 0, none⟩) (Nat.le_refl _) (.int .i64 s1.g)).setCell (p := ⟨w.heap.size, 1, none⟩) (Nat.le_refl _) (.string s1.r)).setCell (p := ⟨w.heap.size, 2, none⟩) (Nat.le_refl _) (.slice a1 n1 c1))
          ⟨a1, c1, by rw [← P1.out]; rfl, zrw_set (zrw_set (zrw_set Z4.out _ _ F1.out) _ _ F1.out) _ _ F1.out, hn1, by rw [← P1.out]; exact hc1, hm1, hr1⟩)
end Go.Proofs.YtlpbkjonicjccaaDoor.Sh
