/-
  The walk of the statement CutAgain. No condition.
-/
import Derived.Test.YtdlejcokigmcdaaLa
namespace Go.Proofs.Ytdlejcokigmcdaa.Rb
open Go.ChangeShapes Go.WideShapes Go.ChangeAt Go.RowKit Go.Lib Go.ChangeMaps

/-- the places behind k, counted from k on -/
def past (k : Nat) (X : List Nat) : List Nat := (X.filter (fun x => decide (k < x))).map (· - k)
theorem past_app (k : Nat) (X : List Nat) (x : Nat) : past k (X ++ [x]) = if k < x then past k X ++ [x - k] else past k X := by
  unfold past
  rw [List.filter_append, List.map_append]
  by_cases h : k < x
  · rw [if_pos h, List.filter_cons_of_pos (by simpa using h)]
    rfl
  · rw [if_neg h, List.filter_cons_of_neg (by simpa using h)]
    simp
theorem past_len (k : Nat) (X : List Nat) : (past k X).length ≤ X.length := by
  unfold past
  rw [List.length_map]
  exact List.length_filter_le _ _
/-- BEHIND A CUT at the place where t begins, what is cut is t's own -/
theorem past_ends (a t : List UInt8) (h : a.length = 0 ∨ a.length ∈ ends hit 0 (a ++ t)) : past a.length (ends hit 0 (a ++ t)) = ends hit 0 t := by
  rcases h with h | h
  · have : a = [] := List.eq_nil_of_length_eq_zero h
    subst this
    unfold past
    rw [List.nil_append, List.length_nil, List.filter_eq_self.2 (fun x hx => by have := (ends_bounds hit 0 t x hx).1; simpa using this)]
    simp
  · have hb := ends_behind hit 0 (a ++ t) a.length (by rw [Nat.zero_add]; exact h)
    simp only [Nat.zero_add, List.drop_left] at hb
    unfold past
    rw [hb, ends_shift, List.map_map]
    have : ((fun x => x - a.length) ∘ fun x => a.length + x) = id := by
      funext x
      simp
    rw [this, List.map_id]
/-- whether k is met among these -/
def met (k : Nat) (X : List Nat) : Bool := decide (k = 0) || X.any (fun x => decide (x = k))
theorem met_nil (k : Nat) : met k [] = decide (k = 0) := by simp [met]
theorem met_app (k : Nat) (X : List Nat) (x : Nat) : met k (X ++ [x]) = (met k X || decide (x = k)) := by simp [met, Bool.or_assoc]
theorem met_iff (k : Nat) (X : List Nat) (h : met k X = true) : k = 0 ∨ k ∈ X := by
  simp only [met, Bool.or_eq_true, decide_eq_true_eq, List.any_eq_true] at h
  rcases h with h | ⟨x, h1, h2⟩
  · exact Or.inl h
  · exact Or.inr (by rw [← h2]; exact h1)
theorem past_same (a b t : List UInt8) (h1 : met a.length (ends hit 0 (a ++ t)) = true) (h2 : met b.length (ends hit 0 (b ++ t)) = true) : past a.length (ends hit 0 (a ++ t)) = past b.length (ends hit 0 (b ++ t)) := by
  rw [past_ends a t (met_iff _ _ h1), past_ends b t (met_iff _ _ h2)]

set_option maxHeartbeats 4000000 in
set_option maxRecDepth 100000 in
theorem again_law (ao : Option Addr) (a : List UInt8) (ca : Nat) (bo : Option Addr) (b : List UInt8) (cb : Nat) (to : Option Addr) (t : List UInt8) (ct : Nat) (w : World)
    (ha : Byt w ao a) (hna : ao = none → ca = 0) (_hca : a.length ≤ ca) (_hca2 : ca ≤ 9223372036854775807)
    (hb : Byt w bo b) (hnb : bo = none → cb = 0) (_hcb : b.length ≤ cb) (_hcb2 : cb ≤ 9223372036854775807)
    (ht : Byt w to t) (hnt : to = none → ct = 0) (_hct : t.length ≤ ct) (_hct2 : ct ≤ 9223372036854775807) :
    Calls Try.prog 7 #[.slice ao a.length ca, .slice bo b.length cb, .slice to t.length ct] w fun e w' => e = .returned (.bool true) ∧ Below w.heap.size w w' := by
  have C9 := Lib.hid heads_any
  by_cases hga : 10000 < a.length
  · have d1 : decide ((a.length : Int) > 10000) = true := by simp; omega
    clear ha hb ht
    go_enter Try.func7, Try.ntmps7
    go_wp2_with fail
    refine (C9.out _).mono ?_
    rintro e w1 ⟨rfl, b1⟩
    go_wp2_with fail
    go_ret
    exact ⟨rfl, b1⟩
  have d1 : decide ((a.length : Int) > 10000) = false := by simp; omega
  by_cases hgb : 10000 < b.length
  · have d2 : decide ((b.length : Int) > 10000) = true := by simp; omega
    clear ha hb ht
    go_enter Try.func7, Try.ntmps7
    go_wp2_with fail
    refine (C9.out _).mono ?_
    rintro e w1 ⟨rfl, b1⟩
    go_wp2_with fail
    go_ret
    exact ⟨rfl, b1⟩
  have d2 : decide ((b.length : Int) > 10000) = false := by simp; omega
  by_cases hgt : 10000 < t.length
  · have d3 : decide ((t.length : Int) > 10000) = true := by simp; omega
    clear ha hb ht
    go_enter Try.func7, Try.ntmps7
    go_wp2_with fail
    refine (C9.out _).mono ?_
    rintro e w1 ⟨rfl, b1⟩
    go_wp2_with fail
    go_ret
    exact ⟨rfl, b1⟩
  · have d3 : decide ((t.length : Int) > 10000) = false := by simp; omega
    · have HYa := Lib.hid (fun W (hB : Below w.heap.size w W) => ha.below hB)
      have HYb := Lib.hid (fun W (hB : Below w.heap.size w W) => hb.below hB)
      have HYt := Lib.hid (fun W (hB : Below w.heap.size w W) => ht.below hB)
      have CC := Lib.hid cuts_any
      have CI := Lib.hid ints_same
      have hPS := past_same a b t
      have hs1 := ends_size 0 (a ++ t)
      have hs2 := ends_size 0 (b ++ t)
      rw [List.length_append] at hs1 hs2
      obtain ⟨T1, hT1⟩ : ∃ T, T = a ++ t := ⟨_, rfl⟩
      obtain ⟨T2, hT2⟩ : ∃ T, T = b ++ t := ⟨_, rfl⟩
      have HT1l : Hid (T1.length ≤ 20000) := by show _ ≤ _; rw [hT1, List.length_append]; omega
      have HT2l : Hid (T2.length ≤ 20000) := by show _ ≤ _; rw [hT2, List.length_append]; omega
      have HT1 := Lib.hid hT1
      have HT2 := Lib.hid hT2
      rw [← hT1, ← hT2] at hPS
      rw [← hT1] at hs1
      rw [← hT2] at hs2
      obtain ⟨X, hX⟩ : ∃ X, X = ends hit 0 T1 := ⟨_, rfl⟩
      obtain ⟨Y, hY⟩ : ∃ Y, Y = ends hit 0 T2 := ⟨_, rfl⟩
      rw [← hX, ← hY] at hPS
      rw [← hX] at hs1
      rw [← hY] at hs2
      have HXE := Lib.hid hX
      have HYE := Lib.hid hY
      have BX : Hid (∀ x ∈ X, x ≤ 20000) := fun x hx => by
        rw [hX] at hx
        have := (ends_bounds hit 0 T1 x hx).2
        have := HT1l.out
        omega
      have BY : Hid (∀ x ∈ Y, x ≤ 20000) := fun x hx => by
        rw [hY] at hx
        have := (ends_bounds hit 0 T2 x hx).2
        have := HT2l.out
        omega
      obtain ⟨xl, hxl⟩ : ∃ x, x = X.length := ⟨_, rfl⟩
      obtain ⟨yl, hyl⟩ : ∃ y, y = Y.length := ⟨_, rfl⟩
      have hxs : xl ≤ 20000 := by omega
      have hys : yl ≤ 20000 := by omega
      have HXL : Hid (X.length = xl) := hxl.symm
      have HYL : Hid (Y.length = yl) := hyl.symm
      have HPS := Lib.hid hPS
      have HNa := Lib.hid hna
      have HNb := Lib.hid hnb
      have HNt := Lib.hid hnt
      have Bw := Lib.hid (Below.refl w.heap.size w)
      obtain ⟨on0, hon0⟩ : ∃ o : Bool, o = ((a.length : Int) == 0) := ⟨_, rfl⟩
      obtain ⟨at0, hat0⟩ : ∃ o : Bool, o = ((b.length : Int) == 0) := ⟨_, rfl⟩
      have HON : Hid (on0 = met a.length (X.take 0)) := by show _ = _; rw [hon0, List.take_zero, met_nil, Bool.eq_iff_iff]; simp
      have HAT : Hid (at0 = met b.length (Y.take 0)) := by show _ = _; rw [hat0, List.take_zero, met_nil, Bool.eq_iff_iff]; simp
      have e01 := hon0.symm
      have e02 := hat0.symm
      clear ha hb ht hna hnb hnt hPS hs1 hs2 hT1 hT2 hX hY hxl hyl hon0 hat0
      go_enter Try.func7, Try.ntmps7

      have Bax := Lib.hid (below_alloc Bw.out (.cells #[] 5))
      have Tax := Lib.hid (below_alloc (Below.refl w.heap.size w) (.cells #[] 5))
      have hBsx := Bw.out.size
      have LITx : Hid (Own (w.alloc (.cells #[] 5)) w.heap.size (.slice (some ⟨w.heap.size, 0, none⟩) 0 0) []) := own_lit w [] w.heap.size (Nat.le_refl _) (by simp)
      have p1x : ([] : List UInt8).length + a.length ≤ 140737488355328 := by simp; omega
      have p2x : w.heap.size ≤ (w.alloc (.cells #[] 5)).heap.size := by simp
      have p3x : a.length + t.length ≤ 140737488355328 := by omega
      have H1x := Lib.hid (HYa.out _ Bax.out)
      go_wp2_with (first
        | (at_builtin; refine wpl_app (t := 25) (e := 5) rfl (.tmp 29) (.tmp 30) rfl Try.underlying25 info5 w.heap.size (.slice (some ⟨w.heap.size, 0, none⟩) 0 0) [] a rfl LITx.out ao ca rfl H1x.out HNa.out p1x p2x ?_; intro v1 w2x own1 grow1; rw [List.nil_append] at own1; have B2x := Lib.hid (Bax.out.grown grow1 (Nat.le_trans hBsx p2x) (fun k hk => Nat.le_trans hBsx (LITx.out.lt k hk).1)); have T2x := Lib.hid (Tax.out.grown grow1 p2x (fun k hk => (LITx.out.lt k hk).1)); have O2x := Lib.hid own1; have p4x := T2x.out.size; have H2x := Lib.hid (HYt.out _ B2x.out); clear own1 grow1)
        | (at_builtin; refine wpl_app (t := 25) (e := 5) rfl (.tmp 31) (.tmp 32) rfl Try.underlying25 info5 w.heap.size _ a t rfl O2x.out to ct rfl H2x.out HNt.out p3x p4x ?_; intro v3 w3x own3 grow3; rw [← HT1.out] at own3; have B3x := Lib.hid (B2x.out.grown grow3 (Nat.le_trans hBsx p4x) (fun k hk => Nat.le_trans hBsx (O2x.out.lt k hk).1)); have T3x := Lib.hid (T2x.out.grown grow3 p4x (fun k hk => (O2x.out.lt k hk).1)); obtain ⟨a3x, c3x, rfl, k1, k2, hb3, _⟩ := own_byt own3; have C3x := Lib.hid (CC.out a3x T1 c3x w3x hb3 k1 k2 (Nat.le_trans HT1l.out (by decide))); clear own3 grow3 k1 k2 hb3))

      refine C3x.out.mono ?_
      rw [← HXE.out]
      rintro e w4 ⟨b4, v, rfl, ho⟩
      obtain ⟨a4, c4, rfl, _, _, hir, _⟩ := own_irw ho
      rw [HXL.out]
      have Bw4 := Lib.hid (below_chain B3x.out b4)
      have I4 := Lib.hid (fun W (hB : Below w4.heap.size w4 W) => hir.below hB)
      clear ho hir b4

      have Bay := Lib.hid (below_alloc Bw4.out (.cells #[] 5))
      have Tay := Lib.hid (below_alloc (Below.refl w4.heap.size w4) (.cells #[] 5))
      have hBsy := Bw4.out.size
      have LITy : Hid (Own (w4.alloc (.cells #[] 5)) w4.heap.size (.slice (some ⟨w4.heap.size, 0, none⟩) 0 0) []) := own_lit w4 [] w4.heap.size (Nat.le_refl _) (by simp)
      have p1y : ([] : List UInt8).length + b.length ≤ 140737488355328 := by simp; omega
      have p2y : w4.heap.size ≤ (w4.alloc (.cells #[] 5)).heap.size := by simp
      have p3y : b.length + t.length ≤ 140737488355328 := by omega
      have H1y := Lib.hid (HYb.out _ Bay.out)
      go_wp2_with (first
        | (at_builtin; refine wpl_app (t := 25) (e := 5) rfl (.tmp 35) (.tmp 36) rfl Try.underlying25 info5 w4.heap.size (.slice (some ⟨w4.heap.size, 0, none⟩) 0 0) [] b rfl LITy.out bo cb rfl H1y.out HNb.out p1y p2y ?_; intro v1 w2y own1 grow1; rw [List.nil_append] at own1; have B2y := Lib.hid (Bay.out.grown grow1 (Nat.le_trans hBsy p2y) (fun k hk => Nat.le_trans hBsy (LITy.out.lt k hk).1)); have T2y := Lib.hid (Tay.out.grown grow1 p2y (fun k hk => (LITy.out.lt k hk).1)); have O2y := Lib.hid own1; have p4y := T2y.out.size; have H2y := Lib.hid (HYt.out _ B2y.out); clear own1 grow1)
        | (at_builtin; refine wpl_app (t := 25) (e := 5) rfl (.tmp 37) (.tmp 38) rfl Try.underlying25 info5 w4.heap.size _ b t rfl O2y.out to ct rfl H2y.out HNt.out p3y p4y ?_; intro v3 w3y own3 grow3; rw [← HT2.out] at own3; have B3y := Lib.hid (B2y.out.grown grow3 (Nat.le_trans hBsy p4y) (fun k hk => Nat.le_trans hBsy (O2y.out.lt k hk).1)); have T3y := Lib.hid (T2y.out.grown grow3 p4y (fun k hk => (O2y.out.lt k hk).1)); obtain ⟨a3y, c3y, rfl, k1, k2, hb3, _⟩ := own_byt own3; have C3y := Lib.hid (CC.out a3y T2 c3y w3y hb3 k1 k2 (Nat.le_trans HT2l.out (by decide))); clear own3 grow3 k1 k2 hb3))

      refine C3y.out.mono ?_
      rw [← HYE.out]
      rintro e w8 ⟨b8, v, rfl, ho⟩
      obtain ⟨a8, c8, rfl, _, _, hir, _⟩ := own_irw ho
      rw [HYL.out]
      have B8 := Lib.hid (below_chain B3y.out b8)
      have T8 := Lib.hid (below_chain T3y.out b8)
      have I8 := Lib.hid (fun W (hB : Below w8.heap.size w8 W) => hir.below hB)
      have R8 := Lib.hid (Below.refl w8.heap.size w8)
      have N8 : Hid (OwnI w8 w8.heap.size (.slice none 0 0) (past a.length (X.take 0))) := by
        rw [List.take_zero]
        exact World.ownsRow_nil _ _ _ _
      clear ho hir b8
      go_wp2_with fail
      go_loopw [9, 11, 13] (fun vv von vi wr => ∃ (i : Nat) (on : Bool), i ≤ xl ∧ vi = .int .i64 i ∧ von = .bool on ∧ Hid (on = met a.length (X.take i)) ∧ Hid (OwnI wr w8.heap.size vv (past a.length (X.take i))) ∧ Hid (Below w8.heap.size w8 wr)) (fun _ _ vi _ => xl - (RowKit.intOf vi).toNat)
      case atStart => exact ⟨0, on0, by omega, rfl, rfl, HON.out, N8.out, R8.out⟩
      case round =>
        obtain ⟨i, on, hi, rfl, rfl, hM, hO, hB⟩ := hrel
        by_cases hin : i < xl
        · have hiX : i < X.length := by rw [HXL.out]; omega
          obtain ⟨b2, o2, rfl, _, hcell⟩ := I4.out wr (T8.out.trans (hB.out.mono T8.out.size)) (fun h0 => by rw [h0] at hiX; simp at hiX)
          have e1 := hcell i hiX
          have hbd := BX.out _ (List.getElem_mem hiX)
          have htk : X.take (i + 1) = X.take i ++ [X[i]] := List.take_succ_eq_append_getElem hiX
          have hpl := past_len a.length (X.take i)
          rw [List.length_take] at hpl
          obtain ⟨z, hz⟩ : ∃ z, z = X[i] := ⟨_, rfl⟩
          rw [← hz] at e1 hbd htk
          have hpa := past_app a.length (X.take i) z
          have hma := met_app a.length (X.take i) z
          rw [← htk] at hpa hma
          rw [← hM.out] at hma
          obtain ⟨P, hP⟩ : ∃ P, P = past a.length (X.take i) := ⟨_, rfl⟩
          rw [← hP] at hpa hO hpl
          have q1 : (0 : Int) ≤ (i : Int) := by omega
          have q2 : (i : Int) < (xl : Int) := by omega
          have q3 : (z : Int) ≤ 20000 := by omega
          have q4 : (a.length : Int) ≤ 10000 := by omega
          have hBs := hB.out.size
          clear hcell hiX htk hz hP hM
          by_cases hzk : a.length < z
          · obtain ⟨q, hq⟩ : ∃ q, q = z - a.length := ⟨_, rfl⟩
            have E1 : (z : Int) - (a.length : Int) = (q : Int) := by omega
            have g1 : ((z : Int) == (a.length : Int)) = false := by simp; omega
            have g2 : (z : Int) > (a.length : Int) := by omega
            rw [if_pos hzk, ← hq] at hpa
            have HPA := Lib.hid hpa
            have O2 := Lib.hid (World.ownsRow.alloc hO.out (.cells #[.int .i64 (q : Int)] 3))
            have B2 := Lib.hid (below_alloc hB.out (.cells #[.int .i64 (q : Int)] 3))
            have p2 := B2.out.size
            have I1 := Lib.hid (irw_one wr q)
            have HF : Hid ([q].length = 1) := rfl
            have X2 : (P.length + 1) * 8 ≤ 140737488355328 := by omega
            have MA : Hid (on = met a.length (X.take (i + 1))) := by
              show _ = _
              rw [hma]
              simp [show ¬ z = a.length by omega]
            clear hma hpa hq hpl hzk
            cases on with
            | true =>
              go_wp2_with (at_builtin; refine wpl_appi_len (t := 23) (e := 3) rfl (.tmp 70) (.tmp 78) rfl Try.underlying23 info3 w8.heap.size _ P [q] rfl O2.out (some ⟨wr.heap.size, 0, none⟩) 1 1 rfl I1.out (fun h => by cases h) HF X2 p2 ?_; intro v' w' hown' hgrow; have hb' := Lib.hid (B2.out.grown hgrow p2 (fun k hk => (O2.out.lt k hk).1)); have O3 := Lib.hid hown'; clear hown' hgrow)
              go_roundw
              case rel => exact ⟨i + 1, true, by omega, by go_num, rfl, MA.out, by rw [HPA.out]; exact O3.out, hb'.out⟩
              case measure => simp [RowKit.intOf]; omega
            | false =>
              go_wp2_with (at_builtin; refine wpl_appi_len (t := 23) (e := 3) rfl (.tmp 70) (.tmp 78) rfl Try.underlying23 info3 w8.heap.size _ P [q] rfl O2.out (some ⟨wr.heap.size, 0, none⟩) 1 1 rfl I1.out (fun h => by cases h) HF X2 p2 ?_; intro v' w' hown' hgrow; have hb' := Lib.hid (B2.out.grown hgrow p2 (fun k hk => (O2.out.lt k hk).1)); have O3 := Lib.hid hown'; clear hown' hgrow)
              go_roundw
              case rel => exact ⟨i + 1, false, by omega, by go_num, rfl, MA.out, by rw [HPA.out]; exact O3.out, hb'.out⟩
              case measure => simp [RowKit.intOf]; omega
          · have g2 : ¬ (z : Int) > (a.length : Int) := by omega
            rw [if_neg hzk] at hpa
            have HPA := Lib.hid hpa
            by_cases hzk2 : z = a.length
            · have g1 : ((z : Int) == (a.length : Int)) = true := by simp; omega
              have MA : Hid (true = met a.length (X.take (i + 1))) := by
                show _ = _
                rw [hma]
                simp [hzk2]
              clear hma hpa hpl hzk hzk2
              cases on with
              | true =>
                go_wp2_with fail
                go_roundw
                case rel => exact ⟨i + 1, true, by omega, by go_num, rfl, MA.out, by rw [HPA.out]; exact hO.out, hB.out⟩
                case measure => simp [RowKit.intOf]; omega
              | false =>
                go_wp2_with fail
                go_roundw
                case rel => exact ⟨i + 1, true, by omega, by go_num, rfl, MA.out, by rw [HPA.out]; exact hO.out, hB.out⟩
                case measure => simp [RowKit.intOf]; omega
            · have g1 : ((z : Int) == (a.length : Int)) = false := by simp; omega
              have MA : Hid (on = met a.length (X.take (i + 1))) := by
                show _ = _
                rw [hma]
                simp [hzk2]
              clear hma hpa hpl hzk hzk2
              cases on with
              | true =>
                go_wp2_with fail
                go_roundw
                case rel => exact ⟨i + 1, true, by omega, by go_num, rfl, MA.out, by rw [HPA.out]; exact hO.out, hB.out⟩
                case measure => simp [RowKit.intOf]; omega
              | false =>
                go_wp2_with fail
                go_roundw
                case rel => exact ⟨i + 1, false, by omega, by go_num, rfl, MA.out, by rw [HPA.out]; exact hO.out, hB.out⟩
                case measure => simp [RowKit.intOf]; omega
        · obtain rfl : i = xl := by omega
          have hO1 := hO.out
          have hM1 := hM.out
          rw [List.take_of_length_le (by rw [HXL.out]; exact Nat.le_refl _)] at hO1 hM1
          have OV := Lib.hid hO1
          have MV := Lib.hid hM1
          have N9 : Hid (OwnI wr wr.heap.size (.slice none 0 0) (past b.length (Y.take 0))) := by
            rw [List.take_zero]
            exact World.ownsRow_nil _ _ _ _
          have R9 := Lib.hid (Below.refl wr.heap.size wr)
          have B9 := Lib.hid (below_chain B8.out hB.out)
          have I9 := Lib.hid (fun W (hW : Below wr.heap.size wr W) => I8.out W (hB.out.trans (hW.mono hB.out.size)))
          obtain ⟨on1, hon1⟩ : ∃ o, o = on := ⟨_, rfl⟩
          rw [← hon1] at MV ⊢
          obtain ⟨w9, hw9⟩ : ∃ W, W = wr := ⟨_, rfl⟩
          rw [← hw9] at OV N9 R9 B9 I9 ⊢
          clear hO1 hM1 hO hM hB hon1 hw9 hin hi
          go_wp2_with fail
          go_loopw [10, 12, 14] (fun vv von vi wr => ∃ (i : Nat) (on : Bool), i ≤ yl ∧ vi = .int .i64 i ∧ von = .bool on ∧ Hid (on = met b.length (Y.take i)) ∧ Hid (OwnI wr w9.heap.size vv (past b.length (Y.take i))) ∧ Hid (Below w9.heap.size w9 wr)) (fun _ _ vi _ => yl - (RowKit.intOf vi).toNat)
          case atStart => exact ⟨0, at0, by omega, rfl, rfl, HAT.out, N9.out, R9.out⟩
          case round =>
            obtain ⟨i, on, hi, rfl, rfl, hM, hO, hB⟩ := hrel
            by_cases hin : i < yl
            · have hiX : i < Y.length := by rw [HYL.out]; omega
              obtain ⟨b2, o2, rfl, _, hcell⟩ := I9.out wr (hB.out) (fun h0 => by rw [h0] at hiX; simp at hiX)
              have e1 := hcell i hiX
              have hbd := BY.out _ (List.getElem_mem hiX)
              have htk : Y.take (i + 1) = Y.take i ++ [Y[i]] := List.take_succ_eq_append_getElem hiX
              have hpl := past_len b.length (Y.take i)
              rw [List.length_take] at hpl
              obtain ⟨z, hz⟩ : ∃ z, z = Y[i] := ⟨_, rfl⟩
              rw [← hz] at e1 hbd htk
              have hpa := past_app b.length (Y.take i) z
              have hma := met_app b.length (Y.take i) z
              rw [← htk] at hpa hma
              rw [← hM.out] at hma
              obtain ⟨P, hP⟩ : ∃ P, P = past b.length (Y.take i) := ⟨_, rfl⟩
              rw [← hP] at hpa hO hpl
              have q1 : (0 : Int) ≤ (i : Int) := by omega
              have q2 : (i : Int) < (yl : Int) := by omega
              have q3 : (z : Int) ≤ 20000 := by omega
              have q4 : (b.length : Int) ≤ 10000 := by omega
              have hBs := hB.out.size
              clear hcell hiX htk hz hP hM
              by_cases hzk : b.length < z
              · obtain ⟨q, hq⟩ : ∃ q, q = z - b.length := ⟨_, rfl⟩
                have E1 : (z : Int) - (b.length : Int) = (q : Int) := by omega
                have g1 : ((z : Int) == (b.length : Int)) = false := by simp; omega
                have g2 : (z : Int) > (b.length : Int) := by omega
                rw [if_pos hzk, ← hq] at hpa
                have HPA := Lib.hid hpa
                have O2 := Lib.hid (World.ownsRow.alloc hO.out (.cells #[.int .i64 (q : Int)] 3))
                have B2 := Lib.hid (below_alloc hB.out (.cells #[.int .i64 (q : Int)] 3))
                have p2 := B2.out.size
                have I1 := Lib.hid (irw_one wr q)
                have HF : Hid ([q].length = 1) := rfl
                have X2 : (P.length + 1) * 8 ≤ 140737488355328 := by omega
                have MA : Hid (on = met b.length (Y.take (i + 1))) := by
                  show _ = _
                  rw [hma]
                  simp [show ¬ z = b.length by omega]
                clear hma hpa hq hpl hzk
                cases on with
                | true =>
                  go_wp2_with (at_builtin; refine wpl_appi_len (t := 23) (e := 3) rfl (.tmp 103) (.tmp 111) rfl Try.underlying23 info3 w9.heap.size _ P [q] rfl O2.out (some ⟨wr.heap.size, 0, none⟩) 1 1 rfl I1.out (fun h => by cases h) HF X2 p2 ?_; intro v' w' hown' hgrow; have hb' := Lib.hid (B2.out.grown hgrow p2 (fun k hk => (O2.out.lt k hk).1)); have O3 := Lib.hid hown'; clear hown' hgrow)
                  go_roundw
                  case rel => exact ⟨i + 1, true, by omega, by go_num, rfl, MA.out, by rw [HPA.out]; exact O3.out, hb'.out⟩
                  case measure => simp [RowKit.intOf]; omega
                | false =>
                  go_wp2_with (at_builtin; refine wpl_appi_len (t := 23) (e := 3) rfl (.tmp 103) (.tmp 111) rfl Try.underlying23 info3 w9.heap.size _ P [q] rfl O2.out (some ⟨wr.heap.size, 0, none⟩) 1 1 rfl I1.out (fun h => by cases h) HF X2 p2 ?_; intro v' w' hown' hgrow; have hb' := Lib.hid (B2.out.grown hgrow p2 (fun k hk => (O2.out.lt k hk).1)); have O3 := Lib.hid hown'; clear hown' hgrow)
                  go_roundw
                  case rel => exact ⟨i + 1, false, by omega, by go_num, rfl, MA.out, by rw [HPA.out]; exact O3.out, hb'.out⟩
                  case measure => simp [RowKit.intOf]; omega
              · have g2 : ¬ (z : Int) > (b.length : Int) := by omega
                rw [if_neg hzk] at hpa
                have HPA := Lib.hid hpa
                by_cases hzk2 : z = b.length
                · have g1 : ((z : Int) == (b.length : Int)) = true := by simp; omega
                  have MA : Hid (true = met b.length (Y.take (i + 1))) := by
                    show _ = _
                    rw [hma]
                    simp [hzk2]
                  clear hma hpa hpl hzk hzk2
                  cases on with
                  | true =>
                    go_wp2_with fail
                    go_roundw
                    case rel => exact ⟨i + 1, true, by omega, by go_num, rfl, MA.out, by rw [HPA.out]; exact hO.out, hB.out⟩
                    case measure => simp [RowKit.intOf]; omega
                  | false =>
                    go_wp2_with fail
                    go_roundw
                    case rel => exact ⟨i + 1, true, by omega, by go_num, rfl, MA.out, by rw [HPA.out]; exact hO.out, hB.out⟩
                    case measure => simp [RowKit.intOf]; omega
                · have g1 : ((z : Int) == (b.length : Int)) = false := by simp; omega
                  have MA : Hid (on = met b.length (Y.take (i + 1))) := by
                    show _ = _
                    rw [hma]
                    simp [hzk2]
                  clear hma hpa hpl hzk hzk2
                  cases on with
                  | true =>
                    go_wp2_with fail
                    go_roundw
                    case rel => exact ⟨i + 1, true, by omega, by go_num, rfl, MA.out, by rw [HPA.out]; exact hO.out, hB.out⟩
                    case measure => simp [RowKit.intOf]; omega
                  | false =>
                    go_wp2_with fail
                    go_roundw
                    case rel => exact ⟨i + 1, false, by omega, by go_num, rfl, MA.out, by rw [HPA.out]; exact hO.out, hB.out⟩
                    case measure => simp [RowKit.intOf]; omega
            · obtain rfl : i = yl := by omega
              have hO1 := hO.out
              have hM1 := hM.out
              rw [List.take_of_length_le (by rw [HYL.out]; exact Nat.le_refl _)] at hO1 hM1
              have OW := Lib.hid hO1
              have MW := Lib.hid hM1
              have OV2 := Lib.hid (own_belowI OV.out hB.out)
              have B10 := Lib.hid (below_chain B9.out hB.out)
              clear hO1 hM1 hO hM hB
              cases on1 with
              | false =>
                go_wp2_with fail
                refine (C9.out _).mono ?_
                rintro e w11 ⟨rfl, b11⟩
                have B11 := Lib.hid (below_chain B10.out b11)
                clear b11
                go_wp2_with fail
                go_ret
                exact ⟨rfl, B11.out⟩
              | true =>
                cases on with
                | false =>
                  go_wp2_with fail
                  refine (C9.out _).mono ?_
                  rintro e w11 ⟨rfl, b11⟩
                  have B11 := Lib.hid (below_chain B10.out b11)
                  clear b11
                  go_wp2_with fail
                  go_ret
                  exact ⟨rfl, B11.out⟩
                | true =>
                  have hps := HPS.out MV.out.symm MW.out.symm
                  have o1 := OV2.out
                  have o2 := OW.out
                  rw [hps] at o1
                  obtain ⟨av, cv, rfl, _, k2, iv, _⟩ := own_irw o1
                  obtain ⟨aw, cw, rfl, _, _, iw, _⟩ := own_irw o2
                  obtain ⟨P, hP⟩ : ∃ P, P = past b.length Y := ⟨_, rfl⟩
                  rw [← hP] at iv iw ⊢
                  have hpl : P.length ≤ 9223372036854775807 := by have := past_len b.length Y; rw [← hP, HYL.out] at this; omega
                  obtain ⟨pl, hpl2⟩ : ∃ x, x = P.length := ⟨_, rfl⟩
                  rw [← hpl2] at hpl ⊢
                  have C11 := Lib.hid (CI.out pl _ _ P cv cw _ iv iw hpl2.symm hpl)
                  clear hps o1 o2 iv iw hP hpl2 OV OV2 OW
                  go_wp2_with fail
                  refine C11.out.mono ?_
                  rintro e w10 ⟨rfl, b10⟩
                  have B12 := Lib.hid (below_chain B10.out b10)
                  clear b10
                  go_wp2_with fail
                  refine (C9.out _).mono ?_
                  rintro e w11 ⟨rfl, b11⟩
                  have B11 := Lib.hid (below_chain B12.out b11)
                  clear b11
                  go_wp2_with fail
                  go_ret
                  exact ⟨rfl, B11.out⟩


end Go.Proofs.Ytdlejcokigmcdaa.Rb
