/-
  The walk of the statement CutPrefix. No condition.
-/
import Derived.Test.YtdlejcokigmcdaaLa
namespace Go.Proofs.Ytdlejcokigmcdaa.Rb
open Go.ChangeShapes Go.WideShapes Go.ChangeAt Go.RowKit Go.Lib Go.ChangeMaps

/-- the cuts of a content, but the last, are those of a longer one -/
theorem ends_prefix (l m : List UInt8) (i e : Nat) (h : (ends hit 0 l)[i]? = some e) (hi : i + 1 < (ends hit 0 l).length) : (ends hit 0 (l ++ m))[i]? = some e := by
  have h1 := ends_lt hit 0 l i e h hi
  rw [Nat.zero_add] at h1
  exact ends_alike hit 0 l (l ++ m) e h1 (by rw [List.length_append]; omega) (by rw [List.take_append_of_le_length (by omega)]) i e h (by omega)

set_option maxHeartbeats 2000000 in
set_option maxRecDepth 100000 in
theorem prefix_law (ao : Option Addr) (l : List UInt8) (c : Nat) (bo : Option Addr) (m : List UInt8) (d : Nat) (w : World) (h : Byt w ao l) (hn : ao = none → c = 0) (hc : l.length ≤ c) (hc2 : c ≤ 9223372036854775807)
    (h' : Byt w bo m) (hn' : bo = none → d = 0) (_hd : m.length ≤ d) (_hd2 : d ≤ 9223372036854775807) :
    Calls Try.prog 8 #[.slice ao l.length c, .slice bo m.length d] w fun e w' => e = .returned (.bool true) ∧ Below w.heap.size w w' := by
  have C9 := Lib.hid heads_any
  by_cases hg : 8000 < l.length
  · have d1 : decide ((l.length : Int) > 8000) = true := by simp; omega
    clear h h'
    go_enter Try.func8, Try.ntmps8
    go_wp2_with fail
    refine (C9.out _).mono ?_
    rintro e w1 ⟨rfl, b1⟩
    go_wp2_with fail
    go_ret
    exact ⟨rfl, b1⟩
  · have d1 : decide ((l.length : Int) > 8000) = false := by simp; omega
    by_cases hg2 : 4000 < m.length
    · have d2 : decide ((m.length : Int) > 4000) = true := by simp; omega
      clear h h'
      go_enter Try.func8, Try.ntmps8
      go_wp2_with fail
      refine (C9.out _).mono ?_
      rintro e w1 ⟨rfl, b1⟩
      go_wp2_with fail
      go_ret
      exact ⟨rfl, b1⟩
    · have d2 : decide ((m.length : Int) > 4000) = false := by simp; omega
      have HY := Lib.hid (fun W (hB : Below w.heap.size w W) => h.below hB)
      have HZ := Lib.hid (fun W (hB : Below w.heap.size w W) => h'.below hB)
      have C10 := Lib.hid (cuts_any ao l c w h hc hc2 (by omega))
      have CC := Lib.hid cuts_any
      have CI := Lib.hid ends_prefix
      have hmore := ends_more hit l m
      have hs := ends_size 0 (l ++ m)
      rw [List.length_append] at hs
      have hP := fun i e => ends_prefix l m i e
      obtain ⟨T, hT⟩ : ∃ T, T = l ++ m := ⟨_, rfl⟩
      have HTl : Hid (T.length ≤ 12000) := by show _ ≤ _; rw [hT, List.length_append]; omega
      have HT := Lib.hid hT
      rw [← hT] at hP hmore hs
      clear hT
      obtain ⟨X, hX⟩ : ∃ X, X = ends hit 0 l := ⟨_, rfl⟩
      obtain ⟨Y, hYY⟩ : ∃ Y, Y = ends hit 0 T := ⟨_, rfl⟩
      rw [← hX, ← hYY] at hmore hP
      rw [← hX] at C10
      rw [← hYY] at hs
      have HYY := Lib.hid hYY
      obtain ⟨x, hx⟩ : ∃ x, x = X.length := ⟨_, rfl⟩
      obtain ⟨y, hy⟩ : ∃ y, y = Y.length := ⟨_, rfl⟩
      rw [← hx, ← hy] at hmore
      rw [← hy] at hs
      rw [← hx] at hP
      have HX : Hid (X.length = x) := hx.symm
      have HV : Hid (Y.length = y) := hy.symm
      have HP := Lib.hid hP
      have HN := Lib.hid hn
      have HN2 := Lib.hid hn'
      clear h h' hn hn' hX hYY hx hy hP
      go_enter Try.func8, Try.ntmps8
      go_wp2_with fail
      refine C10.out.mono ?_
      rintro e w1 ⟨b1, v, rfl, ho⟩
      obtain ⟨a1, c1, rfl, _, _, hir, _⟩ := own_irw ho
      rw [HX.out]
      have I1 := Lib.hid (fun W (hB : Below w1.heap.size w1 W) => hir.below hB)
      have Ba := Lib.hid (below_alloc b1 (.cells #[] 5))
      have Ta := Lib.hid (below_alloc (Below.refl w1.heap.size w1) (.cells #[] 5))
      have hB1 := b1.size
      have LIT : Hid (Own (w1.alloc (.cells #[] 5)) w1.heap.size (.slice (some ⟨w1.heap.size, 0, none⟩) 0 0) []) := own_lit w1 [] w1.heap.size (Nat.le_refl _) (by simp)
      have p1 : ([] : List UInt8).length + l.length ≤ 140737488355328 := by simp; omega
      have p2 : w1.heap.size ≤ (w1.alloc (.cells #[] 5)).heap.size := by simp
      have p3 : l.length + m.length ≤ 140737488355328 := by omega
      have H1 := Lib.hid (HY.out _ Ba.out)
      clear b1 ho hir
      go_wp2_with (first
        | (at_builtin; refine wpl_app (t := 25) (e := 5) rfl (.tmp 19) (.tmp 20) rfl Try.underlying25 info5 w1.heap.size (.slice (some ⟨w1.heap.size, 0, none⟩) 0 0) [] l rfl LIT.out ao c rfl H1.out HN.out p1 p2 ?_; intro v1 w2 own1 grow1; rw [List.nil_append] at own1; have B2 := Lib.hid (Ba.out.grown grow1 (Nat.le_trans hB1 p2) (fun k hk => Nat.le_trans hB1 (LIT.out.lt k hk).1)); have T2 := Lib.hid (Ta.out.grown grow1 p2 (fun k hk => (LIT.out.lt k hk).1)); have O2 := Lib.hid own1; have p4 := T2.out.size; have H2 := Lib.hid (HZ.out _ B2.out); clear own1 grow1)
        | (at_builtin; refine wpl_app (t := 25) (e := 5) rfl (.tmp 21) (.tmp 22) rfl Try.underlying25 info5 w1.heap.size _ l m rfl O2.out bo d rfl H2.out HN2.out p3 p4 ?_; intro v3 w3 own3 grow3; rw [← HT.out] at own3; have B3 := Lib.hid (B2.out.grown grow3 (Nat.le_trans hB1 p4) (fun k hk => Nat.le_trans hB1 (O2.out.lt k hk).1)); have T3 := Lib.hid (T2.out.grown grow3 p4 (fun k hk => (O2.out.lt k hk).1)); obtain ⟨a3, c3, rfl, k1, k2, hb3, _⟩ := own_byt own3; have C3 := Lib.hid (CC.out a3 T c3 w3 hb3 k1 k2 (Nat.le_trans HTl.out (by decide))); clear own3 grow3 k1 k2 hb3))
      refine C3.out.mono ?_
      rw [← HYY.out]
      rintro e w4 ⟨b4, v, rfl, ho⟩
      obtain ⟨a4, c4, rfl, _, _, hir, _⟩ := own_irw ho
      rw [HV.out]
      have B4 := Lib.hid (below_chain B3.out b4)
      have I4 := Lib.hid (fun W (hB : Below w4.heap.size w4 W) => hir.below hB)
      have T4 := Lib.hid (below_chain T3.out b4)
      have R4 := Lib.hid (Below.refl w4.heap.size w4)
      clear ho hir b4
      go_wp2_with fail
      go_loopw [7] (fun vi wr => ∃ (i : Nat), i ≤ x ∧ vi = .int .i64 i ∧ Hid (Below w4.heap.size w4 wr)) (fun vi _ => x - (RowKit.intOf vi).toNat)
      case atStart => exact ⟨0, by omega, rfl, R4.out⟩
      case round =>
        obtain ⟨i, hi, rfl, hB⟩ := hrel
        by_cases hin : i + 1 < x
        · have hiX : i < X.length := by rw [HX.out]; omega
          have hxy := HP.out i X[i] (List.getElem?_eq_getElem hiX) hin
          obtain ⟨hiY, hxy⟩ := List.getElem?_eq_some_iff.1 hxy
          obtain ⟨b2, o2, rfl, _, hcell⟩ := I1.out wr (T4.out.trans (hB.out.mono T4.out.size)) (fun h0 => by rw [h0] at hiX; simp at hiX)
          obtain ⟨b5, o5, rfl, _, hcell5⟩ := I4.out wr hB.out (fun h0 => by rw [h0] at hiY; simp at hiY)
          have e1 := hcell i hiX
          have e2 := hcell5 i hiY
          rw [hxy] at e2
          generalize X[i] = z at *
          have q1 : (0 : Int) ≤ (i : Int) := by omega
          have q2 : (i : Int) < (x : Int) := by omega
          have q3 : (i : Int) < (y : Int) := by omega
          have q4 : (x : Int) ≤ 1000000 := by omega
          have q5 : decide ((i : Int) < (x : Int) - 1) = true := by simp; omega
          clear hcell hcell5 hiX hxy hiY
          go_wp2_with fail
          go_quiet (fail)
          go_wp2_with fail
          go_roundw
          case rel => exact ⟨i + 1, by omega, by go_num, below_drewN hB.out _⟩
          case measure => simp [RowKit.intOf]; omega
        · have q5 : decide ((i : Int) < (x : Int) - 1) = false := by simp; omega
          go_wp2_with fail
          refine (C9.out _).mono ?_
          rintro e w9 ⟨rfl, b9⟩
          have B9 := Lib.hid (below_chain (below_chain B4.out hB.out) b9)
          clear b9
          go_wp2_with fail
          go_ret
          exact ⟨rfl, B9.out⟩
end Go.Proofs.Ytdlejcokigmcdaa.Rb
