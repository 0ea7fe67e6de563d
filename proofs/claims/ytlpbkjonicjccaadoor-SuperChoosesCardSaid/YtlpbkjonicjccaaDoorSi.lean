/-
  The contract of the document's own Same of superblocks. Conditions: each law's own.
-/
import Derived.Test.YtlpbkjonicjccaaDoorSg
namespace Go.Proofs.YtlpbkjonicjccaaDoor.Sh
open Go.RowKit Go.Lib

def sameL (s t : SP) : Bool := (s.p == t.p) && (decide (s.g = t.g) && (s.r.toList == t.r.toList))
theorem same_self (s : SP) : sameL s s = true := by simp [sameL]
theorem take_eq_next {l m : List Int} {i : Nat} (h : l.take i = m.take i) (hl : i < l.length) (hm : i < m.length) (he : l[i] = m[i]) : l.take (i + 1) = m.take (i + 1) := by
  rw [List.take_succ_eq_append_getElem hl, List.take_succ_eq_append_getElem hm, h, he]
set_option maxHeartbeats 4000000 in
set_option maxRecDepth 100000 in
theorem same_raw (s t : SP) (ao bo : Option Addr) (n m c d : Nat) (w : World) (ha : Zrw w ao s.p) (hb : Zrw w bo t.p) (hn : s.p.length = n) (hm : t.p.length = m) (hc : n ≤ 9223372036854775807) (hd : m ≤ 9223372036854775807) :
    Calls Tryd.prog 10 #[.agg #[.int .i64 s.g, .string s.r, .slice ao n c], .agg #[.int .i64 t.g, .string t.r, .slice bo m d]] w fun e w' => e = .returned (.bool (sameL s t)) ∧ Below w.heap.size w w' := by
  have B1 := below_alloc' (Below.refl w.heap.size w) (Nat.le_refl _) (.cells #[.int .i64 s.g, .string s.r, .slice ao n c] 25)
  have B2 := Lib.hid (below_alloc' B1 (Nat.le_refl _) (.cells #[.int .i64 t.g, .string t.r, .slice bo m d] 25))
  have X2 := Lib.hid ((Bxs.blk (w := w) w s.g s.r ao n c).low (below_alloc' (Below.refl _ _) (Nat.le_refl _) (.cells #[.int .i64 t.g, .string t.r, .slice bo m d] 25)))
  have Y2 : Hid (Bxs w ((w.alloc (.cells #[.int .i64 s.g, .string s.r, .slice ao n c] 25)).alloc (.cells #[.int .i64 t.g, .string t.r, .slice bo m d] 25)) (w.heap.size + 1) t.g t.r bo m d) := by
    have := Bxs.blk (w := w) (w.alloc (.cells #[.int .i64 s.g, .string s.r, .slice ao n c] 25)) t.g t.r bo m d
    rw [World.size_alloc] at this
    exact this
  have HA := Lib.hid (fun (W : World) (h : Below w.heap.size w W) => ha.below h)
  have HB := Lib.hid (fun (W : World) (h : Below w.heap.size w W) => hb.below h)
  have HN := Lib.hid hn
  have HM := Lib.hid hm
  clear ha hb B1
  by_cases hnm : n = m
  · subst hnm
    have HNM := Lib.hid (hn.trans hm.symm)
    have e0 : ((n : Int) != (n : Int)) = false := by simp
    clear hn hm
    have x2 := X2.out.c2
    have y2 := Y2.out.c2
    go_enter Tryd.func10, Tryd.ntmps10
    go_wp2_with fail
    generalize hw2 : ((w.alloc (.cells #[.int .i64 s.g, .string s.r, .slice ao n c] 25)).alloc (.cells #[.int .i64 t.g, .string t.r, .slice bo n d] 25)) = w2 at *
    clear hw2 x2 y2
    go_loopw [5] (fun vi wr => ∃ i : Nat, i ≤ n ∧ vi = .int .i64 i ∧ Hid (Below w2.heap.size w2 wr) ∧ Hid (s.p.take i = t.p.take i)) (fun vi _ => n - (RowKit.intOf vi).toNat)
    case atStart => exact ⟨0, by omega, rfl, Below.refl _ _, by show _ = _; simp⟩
    case round =>
      obtain ⟨i, hi, rfl, hBW, hT⟩ := hrel
      have x2 := (X2.out.low hBW.out).c2
      have y2 := (Y2.out.low hBW.out).c2
      by_cases hin : i < n
      · have h1 : i < s.p.length := by rw [HN.out]; exact hin
        have h2 : i < t.p.length := by rw [HM.out]; exact hin
        obtain ⟨b1, o1, rfl, _, hc1⟩ := HA.out wr (below_chain B2.out hBW.out) (by intro h0; rw [h0] at h1; simp at h1)
        obtain ⟨b2, o2, rfl, _, hc2⟩ := HB.out wr (below_chain B2.out hBW.out) (by intro h0; rw [h0] at h2; simp at h2)
        have d1 := hc1 i h1
        have d2 := hc2 i h2
        have HE1 : Hid (s.p[i] = t.p[i] → s.p.take (i + 1) = t.p.take (i + 1)) := fun he => take_eq_next hT.out h1 h2 he
        have HE2 : Hid (¬ s.p[i] = t.p[i] → sameL s t = false) := fun he => by
          have : ¬ s.p = t.p := fun h0 => he (by simp [h0])
          simp [sameL, this]
        obtain ⟨x, hx⟩ : ∃ x, x = s.p[i] := ⟨_, rfl⟩
        obtain ⟨y, hy⟩ : ∃ y, y = t.p[i] := ⟨_, rfl⟩
        rw [← hx] at d1 HE1 HE2
        rw [← hy] at d2 HE1 HE2
        clear hc1 hc2 h1 h2 hx hy hT
        by_cases hxy : x = y
        · have e1 : (x != y) = false := by simp [hxy]
          have HR := Lib.hid (HE1.out hxy)
          clear HE1 HE2 hxy
          go_wp2_with fail
          go_quiet (fail)
          go_wp2_with fail
          go_roundw
          case rel => exact ⟨i + 1, by omega, by go_num, below_drewN hBW.out _, HR⟩
          case measure => simp [RowKit.intOf]; omega
        · have e1 : (x != y) = true := by simp [hxy]
          have HR := Lib.hid (HE2.out hxy)
          clear HE1 HE2 hxy
          go_wp2_with fail
          go_quiet (fail)
          go_wp2_with fail
          go_ret
          exact ⟨ret_bool HR.out.symm, below_chain B2.out (below_drewN hBW.out _)⟩
      · obtain rfl : i = n := by omega
        have hpp : s.p = t.p := by
          have := hT.out
          rw [List.take_of_length_le (by rw [HN.out]; exact Nat.le_refl _), List.take_of_length_le (by rw [HM.out]; exact Nat.le_refl _)] at this
          exact this
        have HS : Hid (sameL s t = (decide (s.g = t.g) && (s.r.toList == t.r.toList))) := by show _ = _; simp [sameL, hpp]
        have x0 := (X2.out.low hBW.out).c0
        have y0 := (Y2.out.low hBW.out).c0
        have x1 := (X2.out.low hBW.out).c1
        have y1 := (Y2.out.low hBW.out).c1
        clear hpp hT
        by_cases hg : s.g = t.g
        · have e1 : (s.g == t.g) = true := by simp [hg]
          have HS2 : Hid (sameL s t = (s.r.toList == t.r.toList)) := by show _ = _; rw [HS.out]; simp [hg]
          clear hg HS
          go_wp2_with fail
          go_ret
          exact ⟨ret_bool HS2.out.symm, below_chain B2.out hBW.out⟩
        · have e1 : (s.g == t.g) = false := by simp [hg]
          have HS2 : Hid (sameL s t = false) := by show _ = _; rw [HS.out]; simp [hg]
          clear hg HS
          go_wp2_with fail
          go_ret
          exact ⟨ret_bool HS2.out.symm, below_chain B2.out hBW.out⟩
  · have e0 : ((n : Int) != (m : Int)) = true := by simp; omega
    have HR : Hid (sameL s t = false) := by
      have : ¬ s.p = t.p := fun h0 => hnm (by rw [← hn, ← hm, h0])
      show _ = _
      simp [sameL, this]
    have x2 := X2.out.c2
    have y2 := Y2.out.c2
    clear hn hm hnm
    go_enter Tryd.func10, Tryd.ntmps10
    go_wp2_with fail
    go_ret
    exact ⟨ret_bool HR.out.symm, B2.out⟩
theorem same10 (s t : SP) (u v : Value) (w : World) (hu : SupV w u s) (hv : SupV w v t) : Calls Tryd.prog 10 #[u, v] w fun e w' => e = .returned (.bool (sameL s t)) ∧ Below w.heap.size w w' := by
  obtain ⟨ao, c, rfl, h1, _, h2, h3, _⟩ := hu
  obtain ⟨bo, d, rfl, g1, _, g2, g3, _⟩ := hv
  exact same_raw s t ao bo _ _ c d w h1 g1 rfl rfl (by omega) (by omega)
end Go.Proofs.YtlpbkjonicjccaaDoor.Sh
