/-
  The walk of the statement CutLocal. No condition.
-/
import Derived.Test.YtdlejcokigmcdaaLa
namespace Go.Proofs.Ytdlejcokigmcdaa.Rb
open Go.ChangeShapes Go.WideShapes Go.ChangeAt Go.RowKit Go.Lib Go.ChangeMaps

/-- a byte that is changed changes no cut up to its place -/
theorem ends_local (l : List UInt8) (p : Nat) (u : UInt8) (i e : Nat) (hp : p < l.length) (h : (ends hit 0 l)[i]? = some e) (he : e ≤ p) : (ends hit 0 (l.set p u))[i]? = some e :=
  ends_alike hit 0 l (l.set p u) p hp (by rw [List.length_set]; omega) (by rw [List.take_set_of_le (Nat.le_refl _)]) i e h (by omega)
theorem bs_set (l : List UInt8) (p : Nat) (u : UInt8) : (bs l).set p (.int .u8 u.toNat) = bs (l.set p u) := by
  rw [bs, bs, List.map_set]
/-- a byte stored in a row of the call's own -/
theorem own_set {w : World} {B g c p : Nat} {l : List UInt8} {n : Nat} (h : Own w B (.slice (some ⟨g, 0, none⟩) n c) l) (hn : l.length = n) (hp : p < n) (u : UInt8) :
    (∃ y, w.cell? ⟨g, p, none⟩ = some y) ∧ w.frozen? ⟨g, p, none⟩ = false ∧ B ≤ g ∧ Own (w.setCell ⟨g, p, none⟩ (.int .u8 u.toNat)) B (.slice (some ⟨g, 0, none⟩) n c) (l.set p u) := by
  subst hn
  have h0 : w.ownsRow B 5 1 (.slice (some ⟨g, 0, none⟩) l.length c) l.length (bs l) := h
  refine ⟨⟨.int .u8 (l[p]).toNat, ?_⟩, h0.frozenAt p, (h0.lt g rfl).1, ?_⟩
  · rw [h0.cellAt p (by omega), bs_get l p hp]
  · have := (h0.stored p (.int .u8 u.toNat)).1
    rw [bs_set] at this
    unfold Own
    rw [List.length_set]
    exact this

theorem own_some {w : World} {B : Nat} {v : Value} {l : List UInt8} (h : Own w B v l) {p : Nat} (hp : p < l.length) : ∃ g c, v = .slice (some ⟨g, 0, none⟩) l.length c := by
  obtain ⟨_, ⟨_, h0⟩ | ⟨g, cap, cur, rfl, _⟩⟩ := h
  · omega
  · exact ⟨g, cap, rfl⟩

set_option maxHeartbeats 2000000 in
set_option maxRecDepth 100000 in
theorem local_law (ao : Option Addr) (l : List UInt8) (c : Nat) (n : Int) (x : Nat) (hx : x < 256) (w : World) (h : Byt w ao l) (hn : ao = none → c = 0) (hc : l.length ≤ c) (hc2 : c ≤ 9223372036854775807) :
    Calls Try.prog 4 #[.slice ao l.length c, .int .i64 n, .int .u8 x] w fun e w' => e = .returned (.bool true) ∧ Below w.heap.size w w' := by
  have C9 := Lib.hid heads_any
  by_cases hg : 8000 < l.length
  · have d1 : decide ((l.length : Int) > 8000) = true := by simp; omega
    clear h
    go_enter Try.func4, Try.ntmps4
    go_wp2_with fail
    refine (C9.out _).mono ?_
    rintro e w1 ⟨rfl, b1⟩
    go_wp2_with fail
    go_ret
    exact ⟨rfl, b1⟩
  · have d1 : decide ((l.length : Int) > 8000) = false := by simp; omega
    by_cases hn0 : n < 0
    · have d2 : decide (n < 0) = true := by simp; omega
      clear h
      go_enter Try.func4, Try.ntmps4
      go_wp2_with fail
      refine (C9.out _).mono ?_
      rintro e w1 ⟨rfl, b1⟩
      go_wp2_with fail
      go_ret
      exact ⟨rfl, b1⟩
    · have d2 : decide (n < 0) = false := by simp; omega
      by_cases hn1 : n ≥ (l.length : Int)
      · have d3 : decide (n ≥ (l.length : Int)) = true := by simp; omega
        clear h
        go_enter Try.func4, Try.ntmps4
        go_wp2_with fail
        refine (C9.out _).mono ?_
        rintro e w1 ⟨rfl, b1⟩
        go_wp2_with fail
        go_ret
        exact ⟨rfl, b1⟩
      · have d3 : decide (n ≥ (l.length : Int)) = false := by simp; omega
        obtain ⟨p, rfl⟩ : ∃ p : Nat, n = (p : Int) := ⟨n.toNat, by omega⟩
        have hp : p < l.length := by omega
        obtain ⟨u, hu⟩ : ∃ u : UInt8, x = u.toNat := ⟨UInt8.ofNat x, by simp; omega⟩
        have HU := Lib.hid hu
        have HY := Lib.hid (fun W (hB : Below w.heap.size w W) => h.below hB)
        have C10 := Lib.hid (fun W (hB : Below w.heap.size w W) => cuts_any ao l c W (h.below hB) hc hc2 (by omega))
        have CC := Lib.hid cuts_any
        have hP := fun i e => ends_local l p u i e hp
        obtain ⟨T, hT⟩ : ∃ T, T = l.set p u := ⟨_, rfl⟩
        have HTl : Hid (T.length = l.length) := by show _ = _; rw [hT, List.length_set]
        have HT := Lib.hid hT
        rw [← hT] at hP
        obtain ⟨X, hX⟩ : ∃ X, X = ends hit 0 l := ⟨_, rfl⟩
        obtain ⟨Y, hYY⟩ : ∃ Y, Y = ends hit 0 T := ⟨_, rfl⟩
        rw [← hX, ← hYY] at hP
        rw [← hX] at C10
        have HYY := Lib.hid hYY
        obtain ⟨xl, hxl⟩ : ∃ xl, xl = X.length := ⟨_, rfl⟩
        obtain ⟨yl, hyl⟩ : ∃ yl, yl = Y.length := ⟨_, rfl⟩
        have hxs : xl ≤ 8000 := by have := ends_size 0 l; rw [← hX] at this; omega
        have HX : Hid (X.length = xl) := hxl.symm
        have HV : Hid (Y.length = yl) := hyl.symm
        have HP := Lib.hid hP
        have HN := Lib.hid hn
        have B0 := Lib.hid (Below.refl w.heap.size w)
        have Ba := Lib.hid (below_alloc (Below.refl w.heap.size w) (.cells #[] 5))
        have LIT : Hid (Own (w.alloc (.cells #[] 5)) w.heap.size (.slice (some ⟨w.heap.size, 0, none⟩) 0 0) []) := own_lit w [] w.heap.size (Nat.le_refl _) (by simp)
        have p1 : ([] : List UInt8).length + l.length ≤ 140737488355328 := by simp; omega
        have p2 : w.heap.size ≤ (w.alloc (.cells #[] 5)).heap.size := by simp
        have H1 := Lib.hid (HY.out _ Ba.out)
        obtain ⟨k, hk⟩ : ∃ k, k = l.length := ⟨_, rfl⟩
        have HK := Lib.hid hk
        have q0 : (p : Int) < (l.length : Int) := by omega
        have q00 : (0 : Int) ≤ (p : Int) := by omega
        clear h hn hX hYY hxl hyl hP hT hu hk
        go_enter Try.func4, Try.ntmps4
        go_wp2_with (at_builtin; refine wpl_app (t := 25) (e := 5) rfl (.tmp 25) (.tmp 26) rfl Try.underlying25 info5 w.heap.size (.slice (some ⟨w.heap.size, 0, none⟩) 0 0) [] l rfl LIT.out ao c rfl H1.out HN.out p1 p2 ?_; intro v1 w2 own1 grow1; rw [List.nil_append] at own1; have B2 := Lib.hid (Ba.out.grown grow1 p2 (fun k hk => (LIT.out.lt k hk).1)); obtain ⟨g, c1, rfl⟩ : ∃ g c1, v1 = .slice (some ⟨g, 0, none⟩) l.length c1 := own_some own1 hp; obtain ⟨⟨y0, e0⟩, f0, hg0, o2⟩ := own_set own1 rfl hp u; rw [← HT.out] at o2; rw [← HU.out] at o2; have O2 := Lib.hid o2; have B3 := Lib.hid (B2.out.setCell (show w.heap.size ≤ (⟨g, p, none⟩ : Addr).block from hg0) (.int .u8 (x : Int))); clear own1 grow1 o2)
        refine (C10.out _ B3.out).mono ?_
        rintro e w4 ⟨b4, v, rfl, ho⟩
        obtain ⟨a4, c4, rfl, _, _, hir, _⟩ := own_irw ho
        rw [HX.out]
        have B4 := Lib.hid (below_chain B3.out b4)
        have I4 := Lib.hid (fun W (hB : Below w4.heap.size w4 W) => hir.below hB)
        obtain ⟨a5, c5, hv5, k1, k2, hb5, _⟩ := own_byt (own_below O2.out b4)
        rw [HTl.out] at hv5
        cases hv5
        have C5 := Lib.hid (CC.out _ T c1 w4 hb5 k1 k2 (by rw [HTl.out]; omega))
        rw [HTl.out, ← HYY.out] at C5
        clear ho hir b4 hb5 k1 k2 e0 f0
        go_wp2_with fail
        refine C5.out.mono ?_
        rintro e w5 ⟨b5, v, rfl, ho⟩
        obtain ⟨a6, c6, rfl, _, _, hir, _⟩ := own_irw ho
        rw [HV.out]
        have B5 := Lib.hid (below_chain B4.out b5)
        have T5 := Lib.hid b5
        have I5 := Lib.hid (fun W (hB : Below w5.heap.size w5 W) => hir.below hB)
        have R5 := Lib.hid (Below.refl w5.heap.size w5)
        clear ho hir b5
        go_wp2_with fail
        go_loopw [10] (fun vi wr => ∃ (i : Nat), i ≤ xl ∧ vi = .int .i64 i ∧ Hid (Below w5.heap.size w5 wr)) (fun vi _ => xl - (RowKit.intOf vi).toNat)
        case atStart => exact ⟨0, by omega, rfl, R5.out⟩
        case round =>
          obtain ⟨i, hi, rfl, hB⟩ := hrel
          by_cases hin : i < xl
          · have hiX : i < X.length := by rw [HX.out]; omega
            have hxy := HP.out i X[i] (List.getElem?_eq_getElem hiX)
            obtain ⟨b2, o2, rfl, _, hcell⟩ := I4.out wr (T5.out.trans (hB.out.mono T5.out.size)) (fun h0 => by rw [h0] at hiX; simp at hiX)
            have e1 := hcell i hiX
            generalize X[i] = z at *
            have q1 : (0 : Int) ≤ (i : Int) := by omega
            have q2 : decide ((i : Int) < (xl : Int)) = true := by simp; omega
            have q2' : (i : Int) < (xl : Int) := by omega
            by_cases hzp : z ≤ p
            · obtain ⟨hiY, hxy⟩ := List.getElem?_eq_some_iff.1 (hxy hzp)
              obtain ⟨b5, o5, rfl, _, hcell5⟩ := I5.out wr hB.out (fun h0 => by rw [h0] at hiY; simp at hiY)
              have e2 := hcell5 i hiY
              rw [hxy] at e2
              have hiV : i < yl := by rw [← HV.out]; exact hiY
              have q3 : (i : Int) < (yl : Int) := by omega
              have q4 : (xl : Int) ≤ 8000 := by omega
              have q5 : decide ((z : Int) ≤ (p : Int)) = true := by simp; omega
              have q6 : decide ((i : Int) ≥ (yl : Int)) = false := by simp; omega
              clear hcell hcell5 hiX hxy hiY
              go_wp2_with fail
              go_quiet (fail)
              go_wp2_with fail
              go_roundw
              case rel => exact ⟨i + 1, by omega, by go_num, below_drewN hB.out _⟩
              case measure => simp [RowKit.intOf]; omega
            · have q5 : decide ((z : Int) ≤ (p : Int)) = false := by simp; omega
              clear hcell hiX hxy
              go_wp2_with fail
              refine (C9.out _).mono ?_
              rintro e w9 ⟨rfl, b9⟩
              have B9 := Lib.hid (below_chain (below_chain B5.out hB.out) b9)
              clear b9
              go_wp2_with fail
              go_ret
              exact ⟨rfl, B9.out⟩
          · have q2 : decide ((i : Int) < (xl : Int)) = false := by simp; omega
            go_wp2_with fail
            refine (C9.out _).mono ?_
            rintro e w9 ⟨rfl, b9⟩
            have B9 := Lib.hid (below_chain (below_chain B5.out hB.out) b9)
            clear b9
            go_wp2_with fail
            go_ret
            exact ⟨rfl, B9.out⟩
end Go.Proofs.Ytdlejcokigmcdaa.Rb
