/-
  The law of the statement SpaceTwo. No other condition.
-/
import Derived.Test.YtojmohlefbkkdaaWf
namespace Go.Proofs.Ytojmohlefbkkdaa.Sp
open Go.RowKit Go.Lib Go.WideShapes Go.ChangeAt

theorem fits_less {l : List Bool} {n p : Nat} (h : Fits l (n + 1) p) : Fits l n p := ⟨by have := h.1; omega, fun j h1 h2 => h.2 j h1 (by omega)⟩
theorem count_fil (l : List Bool) (p n : Nat) (h : Fits l n p) : (fil l p n true).count false + n = l.count false := by
  induction n with
  | zero => rfl
  | succ n ih =>
    have h1 := ih (fits_less h)
    have h2 : (fil l p n true)[p + n]? = some false := by
      rw [fil_get _ _ _ _ _ (by have := h.1; omega), if_neg (by omega)]
      exact h.2 (p + n) (by omega) (by omega)
    obtain ⟨h3, h4⟩ := List.getElem?_eq_some_iff.1 h2
    have h5 : 0 < (fil l p n true).count false := List.count_pos_iff.2 (List.mem_of_getElem? h2)
    rw [fil_more, List.count_set h3, h4]
    simp
    omega
theorem two_math {l : List Bool} {n m p q : Nat} (h1 : Fits l n p) (h2 : Fits (fil l p n true) m q) (hn : 1 ≤ n) (hm : 1 ≤ m) :
    (p + n ≤ q ∨ q + m ≤ p) ∧ Full (fil (fil l p n true) q m true) p n ∧ Full (fil (fil (fil l p n true) q m true) p n false) q m ∧ fil (fil (fil (fil l p n true) q m true) p n false) q m false = l ∧ (fil (fil l p n true) q m true).count false + m + n = l.count false := by
  have a1 := h1.1
  have a2 := h2.1
  rw [fil_len] at a2
  have hd : p + n ≤ q ∨ q + m ≤ p := by
    rcases Nat.lt_or_ge q (p + n) with h3 | h3
    · rcases Nat.lt_or_ge p (q + m) with h4 | h4
      · exfalso
        rcases Nat.le_total p q with h5 | h5
        · have h6 := h2.2 q (by omega) (by omega)
          rw [fil_get _ _ _ _ _ a1, if_pos (by omega)] at h6
          cases h6
        · have h6 := h2.2 p (by omega) (by omega)
          rw [fil_get _ _ _ _ _ a1, if_pos (by omega)] at h6
          cases h6
      · exact .inr h4
    · exact .inl h3
  refine ⟨hd, ⟨by rw [fil_len, fil_len]; exact a1, fun j h3 h4 => ?_⟩, ⟨by rw [fil_len, fil_len, fil_len]; exact a2, fun j h3 h4 => ?_⟩, ?_, ?_⟩
  · rw [fil_get _ _ _ _ _ (by rw [fil_len]; exact a2), if_neg (by omega), fil_get _ _ _ _ _ a1, if_pos (by omega)]
  · rw [fil_get _ _ _ _ _ (by rw [fil_len, fil_len]; exact a1), if_neg (by omega), fil_get _ _ _ _ _ (by rw [fil_len]; exact a2), if_pos (by omega)]
  · apply List.ext_getElem?
    intro j
    rw [fil_get _ _ _ _ _ (by rw [fil_len, fil_len, fil_len]; exact a2)]
    by_cases h3 : q ≤ j ∧ j < q + m
    · rw [if_pos h3]
      have h4 := h2.2 j h3.1 h3.2
      rw [fil_get _ _ _ _ _ a1, if_neg (by omega)] at h4
      exact h4.symm
    · rw [if_neg h3, fil_get _ _ _ _ _ (by rw [fil_len, fil_len]; exact a1)]
      by_cases h5 : p ≤ j ∧ j < p + n
      · rw [if_pos h5]
        exact (h1.2 j h5.1 h5.2).symm
      · rw [if_neg h5, fil_get _ _ _ _ _ (by rw [fil_len]; exact a2), if_neg h3, fil_get _ _ _ _ _ a1, if_neg h5]
  · have h3 := count_fil _ q m h2
    have h4 := count_fil _ p n h1
    omega
theorem take_said {w w' : World} {l : List Bool} {n : Int} {e : Ending} (h : TakeP w l n e w') : Below w.heap.size w w' ∧ ∃ (p : Nat) (a : Option Addr) (r : List Bool) (c : Nat) (k : Int), e = .returned (.tuple #[.int .i64 p, .slice a r.length c, .int .i64 k]) ∧ Bol w' a r ∧ (a = none → c = 0) ∧ r.length ≤ c ∧ c ≤ 9223372036854775807 ∧ r.length = l.length ∧
    (k ≠ 0 ∨ (k = 0 ∧ 1 ≤ n ∧ Fits l n.toNat p ∧ r = fil l p n.toNat true)) := by
  obtain ⟨hb, p, v, r, k, rfl, ho, hx⟩ := h
  obtain ⟨a, c, rfl, k1, k2, k3, k4⟩ := own_bol ho
  refine ⟨hb, p, a, r, c, k, rfl, k3, k4, k1, k2, ?_, ?_⟩
  · rcases hx with ⟨_, rfl, _⟩ | ⟨_, rfl, _⟩ | ⟨_, _, _, _, _, rfl⟩
    · rfl
    · rfl
    · rw [fil_len]
  · rcases hx with ⟨rfl, _, _⟩ | ⟨rfl, _, _⟩ | ⟨rfl, h1, _, h2, _, rfl⟩
    · exact .inl (by decide)
    · exact .inl (by decide)
    · exact .inr ⟨rfl, h1, h2, rfl⟩
theorem give_said {w w' : World} {l : List Bool} {p n : Nat} {e : Ending} (h : GiveP w l p n e w') (hn : 1 ≤ n) (hl : l.length ≤ 4096) (hf : Full l p n) : Below w.heap.size w w' ∧ ∃ (a : Option Addr) (r : List Bool) (c : Nat), e = .returned (.tuple #[.slice a r.length c, .int .i64 0]) ∧ Bol w' a r ∧ (a = none → c = 0) ∧ r.length ≤ c ∧ c ≤ 9223372036854775807 ∧ r.length = l.length ∧ r = fil l p n false := by
  obtain ⟨hb, v, r, k, rfl, ho, hx⟩ := h
  obtain ⟨a, c, rfl, k1, k2, k3, k4⟩ := own_bol ho
  rcases hx with ⟨_, _, h1⟩ | ⟨rfl, _, _, h1⟩
  · exact absurd ⟨hl, ⟨by omega, by omega, by have := hf.1; omega⟩, hf⟩ h1
  · exact ⟨hb, a, r, c, rfl, k3, k4, k1, k2, by rw [h1, fil_len], h1⟩
set_option maxHeartbeats 2000000 in
set_option maxRecDepth 100000 in
theorem two_law (ao : Option Addr) (l : List Bool) (c : Nat) (n m : Int) (w : World) (h : Bol w ao l) (hc : l.length ≤ c) (hcc : c ≤ 9223372036854775807) (hn : ao = none → c = 0) (n0 : n ≤ 9223372036854775807) (m0 : m ≤ 9223372036854775807) :
    Calls Try.prog 3 #[.slice ao l.length c, .int .i64 n, .int .i64 m] w fun e w' => e = .returned (.bool true) ∧ Below w.heap.size w w' := by
  obtain ⟨z, hz⟩ : ∃ z, l.length = z := ⟨_, rfl⟩
  rw [hz] at hc ⊢
  by_cases hbig : 600 < z
  · have t1 : decide ((600 : Int) < (z : Int)) = true := by simp; omega
    clear h hz
    go_enter Try.func3, Try.ntmps3
    go_wp2_with fail
    refine (heads_any w).mono ?_
    rintro e w1 ⟨rfl, hb⟩
    go_wp2_with fail
    go_ret
    exact ⟨rfl, hb⟩
  · have t1 : decide ((600 : Int) < (z : Int)) = false := by simp; omega
    have H := Lib.hid h
    have HZ := Lib.hid hz
    clear h hz
    go_enter Try.func3, Try.ntmps3
    go_wp2_with fail
    refine (take_any ao l z c n w H.out hn HZ.out (by omega) hc hcc n0).mono ?_
    rintro e w1 hP1
    obtain ⟨hb1, p, a1, r1, c1, k1, rfl, x1, x2, x3, x4, x5, x6⟩ := take_said hP1
    rw [HZ.out] at x5
    rw [x5] at x3 ⊢
    have R1 := Lib.hid x1
    have L1 := Lib.hid x5
    have X1 := Lib.hid x6
    have B1 := Lib.hid hb1
    have H1 := Lib.hid (H.out.below hb1)
    clear hP1 hb1 x1 x5 x6 H
    go_wp2_with fail
    refine (take_any a1 r1 z c1 m w1 R1.out x2 L1.out (by omega) x3 x4 m0).mono ?_
    rintro e w2 hP2
    obtain ⟨hb2, q, a2, r2, c2, k2, rfl, y1, y2, y3, y4, y5, y6⟩ := take_said hP2
    rw [L1.out] at y5
    rw [y5] at y3 ⊢
    have R2 := Lib.hid y1
    have L2 := Lib.hid y5
    have X2 := Lib.hid y6
    have B2 := Lib.hid (below_chain B1.out hb2)
    have H2 := Lib.hid (H1.out.below hb2)
    clear hP2 hb2 y1 y5 y6 H1 B1 R1
    by_cases hk1 : k1 = 0
    · by_cases hk2 : k2 = 0
      · have d1 : (k1 == 0) = true := by simpa using hk1
        have d2 : (k2 == 0) = true := by simpa using hk2
        have d3 : decide (k2 = 0) = true := by simpa using hk2
        have d4 : decide (k1 = 0) = true := by simpa using hk1
        obtain ⟨_, u1, u2, u3⟩ := X1.out.resolve_left (fun h => h hk1)
        obtain ⟨_, v1, v2, v3⟩ := X2.out.resolve_left (fun h => h hk2)
        obtain ⟨N, rfl⟩ : ∃ N : Nat, n = (N : Int) := ⟨n.toNat, by omega⟩
        obtain ⟨M, rfl⟩ : ∃ M : Nat, m = (M : Int) := ⟨m.toNat, by omega⟩
        have tN : ((N : Int)).toNat = N := by omega
        have tM : ((M : Int)).toNat = M := by omega
        rw [tN] at u2 u3
        rw [tM] at v2 v3
        rw [u3] at v2
        obtain ⟨i1, i2, i3, i4, i5⟩ := two_math u2 v2 (by omega) (by omega)
        have b1 : p + N ≤ 600 := by have := u2.1; have := HZ.out; omega
        have b2 : q + M ≤ 600 := by have := v2.1; rw [fil_len, HZ.out] at this; omega
        rw [← u3, ← v3] at i2 i3 i4 i5
        have I2 := Lib.hid i2
        have I3 := Lib.hid i3
        have I4 := Lib.hid i4
        have I5 := Lib.hid i5
        have e1 : IntKind.i64.wrap ((p : Int) + N) = (p : Int) + N := IntWalk.i64_in _ (by omega)
        have e2 : IntKind.i64.wrap ((q : Int) + M) = (q : Int) + M := IntWalk.i64_in _ (by omega)
        clear X1 X2 u2 u3 v2 v3 i2 i3 i4 i5 hk1 hk2 L1
        have M5 : z ≤ 4096 := by omega
        have CG : Hid (Calls Try.prog 7 #[.slice a2 z c2, .int .i64 p, .int .i64 N] w2 fun e w' => Below w2.heap.size w2 w' ∧ ∃ (a : Option Addr) (r : List Bool) (c : Nat), e = .returned (.tuple #[.slice a r.length c, .int .i64 0]) ∧ Bol w' a r ∧ (a = none → c = 0) ∧ r.length ≤ c ∧ c ≤ 9223372036854775807 ∧ r.length = r2.length ∧ r = fil r2 p N false) :=
          (give_any a2 r2 z c2 p N w2 R2.out y2 L2.out (by omega) y3 y4 n0).mono fun e w' hP => give_said hP (by omega) (by rw [L2.out]; exact M5) I2.out
        rcases i1 with i1 | i1
        · have t2 : decide ((p : Int) ≤ (q : Int)) = true := by simp; omega
          have t3 : decide ((q : Int) < (p : Int) + N) = false := by simp; omega
          have t4 : decide ((q : Int) ≤ (p : Int)) = false := by simp; omega
          go_wp2_with fail
          refine CG.out.mono ?_
          rintro e w3 ⟨hb3, a3, r3, c3, rfl, j1, j2, j3, j4, j5, j6⟩
          have J5 : Hid (r3.length = z) := by show _ = _; rw [j5, L2.out]
          rw [J5.out] at j3 ⊢
          have R3 := Lib.hid j1
          have J6 := Lib.hid j6
          have B3 := Lib.hid (below_chain B2.out hb3)
          have H3 := Lib.hid (H2.out.below hb3)
          have R23 := Lib.hid (R2.out.below hb3)
          have CG2 : Hid (Calls Try.prog 7 #[.slice a3 z c3, .int .i64 q, .int .i64 M] w3 fun e w' => Below w3.heap.size w3 w' ∧ ∃ (a : Option Addr) (r : List Bool) (c : Nat), e = .returned (.tuple #[.slice a r.length c, .int .i64 0]) ∧ Bol w' a r ∧ (a = none → c = 0) ∧ r.length ≤ c ∧ c ≤ 9223372036854775807 ∧ r.length = r3.length ∧ r = fil r3 q M false) :=
            (give_any a3 r3 z c3 q M w3 R3.out j2 J5.out (by omega) j3 j4 m0).mono fun e w' hP => give_said hP (by omega) (by rw [J5.out]; exact M5) (by rw [J6.out]; exact I3.out)
          clear CG hb3 j1 j5 j6 B2 H2 R2 I2 I3
          go_wp2_with fail
          refine CG2.out.mono ?_
          rintro e w4 ⟨hb4, a4, r4, c4, rfl, g1, g2, g3, g4, g5, g6⟩
          have G5 : Hid (r4.length = z) := by show _ = _; rw [g5, J5.out]
          rw [G5.out] at g3 ⊢
          have R4 := Lib.hid g1
          have B4 := Lib.hid (below_chain B3.out hb4)
          have H4 := Lib.hid (H3.out.below hb4)
          have R24 := Lib.hid (R23.out.below hb4)
          have G6 : Hid (r4 = l) := by show _ = _; rw [g6, J6.out]; exact I4.out
          clear CG2 hb4 g1 g5 g6 B3 H3 R23 R3 J6 I4
          go_wp2_with fail
          refine (same_any a4 ao r4 l z z c4 c w4 R4.out H4.out G5.out HZ.out g3 hc g4 hcc).mono ?_
          rintro e w5 ⟨rfl, hb5⟩
          have B5 := Lib.hid (below_chain B4.out hb5)
          have H5 := Lib.hid (H4.out.below hb5)
          have R25 := Lib.hid (R24.out.below hb5)
          have e0 : decide (r4 = l) = true := by simpa using G6.out
          rw [e0]
          clear hb5 B4 H4 R24 R4 e0
          go_wp2_with fail
          refine (free_any a2 r2 z c2 w5 R25.out L2.out y3 y4 M5).mono ?_
          rintro e w6 ⟨rfl, rfl⟩
          go_wp2_with fail
          refine (free_any ao l z c w6 H5.out HZ.out hc hcc M5).mono ?_
          rintro e w7 ⟨rfl, rfl⟩
          obtain ⟨F, hF⟩ : ∃ F, F = r2.count false := ⟨_, rfl⟩
          have hI := I5.out
          have hle : l.count false ≤ z := by have := List.count_le_length (a := false) (l := l); rw [HZ.out] at this; exact this
          rw [← hI] at hle ⊢
          rw [← hF] at hle ⊢
          have f1 : IntKind.i64.wrap (((F + M + N : Nat) : Int) - N) = ((F + M : Nat) : Int) := by rw [IntWalk.i64_in _ (by omega)]; omega
          have f2 : IntKind.i64.wrap (((F + M : Nat) : Int) - M) = (F : Int) := by rw [IntWalk.i64_in _ (by omega)]; omega
          clear hI hF
          generalize F + M + N = F2 at *
          generalize F + M = F1 at *
          go_wp2_with fail
          refine (heads_any w7).mono ?_
          rintro e w8 ⟨rfl, hb8⟩
          have B8 := Lib.hid (below_chain B5.out hb8)
          clear hb8
          go_wp2_with fail
          go_ret
          exact ⟨rfl, B8.out⟩
        · have t2 : decide ((p : Int) ≤ (q : Int)) = false := by simp; omega
          have t4 : decide ((q : Int) ≤ (p : Int)) = true := by simp; omega
          have t3 : decide ((p : Int) < (q : Int) + M) = false := by simp; omega
          go_wp2_with fail
          refine CG.out.mono ?_
          rintro e w3 ⟨hb3, a3, r3, c3, rfl, j1, j2, j3, j4, j5, j6⟩
          have J5 : Hid (r3.length = z) := by show _ = _; rw [j5, L2.out]
          rw [J5.out] at j3 ⊢
          have R3 := Lib.hid j1
          have J6 := Lib.hid j6
          have B3 := Lib.hid (below_chain B2.out hb3)
          have H3 := Lib.hid (H2.out.below hb3)
          have R23 := Lib.hid (R2.out.below hb3)
          have CG2 : Hid (Calls Try.prog 7 #[.slice a3 z c3, .int .i64 q, .int .i64 M] w3 fun e w' => Below w3.heap.size w3 w' ∧ ∃ (a : Option Addr) (r : List Bool) (c : Nat), e = .returned (.tuple #[.slice a r.length c, .int .i64 0]) ∧ Bol w' a r ∧ (a = none → c = 0) ∧ r.length ≤ c ∧ c ≤ 9223372036854775807 ∧ r.length = r3.length ∧ r = fil r3 q M false) :=
            (give_any a3 r3 z c3 q M w3 R3.out j2 J5.out (by omega) j3 j4 m0).mono fun e w' hP => give_said hP (by omega) (by rw [J5.out]; exact M5) (by rw [J6.out]; exact I3.out)
          clear CG hb3 j1 j5 j6 B2 H2 R2 I2 I3
          go_wp2_with fail
          refine CG2.out.mono ?_
          rintro e w4 ⟨hb4, a4, r4, c4, rfl, g1, g2, g3, g4, g5, g6⟩
          have G5 : Hid (r4.length = z) := by show _ = _; rw [g5, J5.out]
          rw [G5.out] at g3 ⊢
          have R4 := Lib.hid g1
          have B4 := Lib.hid (below_chain B3.out hb4)
          have H4 := Lib.hid (H3.out.below hb4)
          have R24 := Lib.hid (R23.out.below hb4)
          have G6 : Hid (r4 = l) := by show _ = _; rw [g6, J6.out]; exact I4.out
          clear CG2 hb4 g1 g5 g6 B3 H3 R23 R3 J6 I4
          go_wp2_with fail
          refine (same_any a4 ao r4 l z z c4 c w4 R4.out H4.out G5.out HZ.out g3 hc g4 hcc).mono ?_
          rintro e w5 ⟨rfl, hb5⟩
          have B5 := Lib.hid (below_chain B4.out hb5)
          have H5 := Lib.hid (H4.out.below hb5)
          have R25 := Lib.hid (R24.out.below hb5)
          have e0 : decide (r4 = l) = true := by simpa using G6.out
          rw [e0]
          clear hb5 B4 H4 R24 R4 e0
          go_wp2_with fail
          refine (free_any a2 r2 z c2 w5 R25.out L2.out y3 y4 M5).mono ?_
          rintro e w6 ⟨rfl, rfl⟩
          go_wp2_with fail
          refine (free_any ao l z c w6 H5.out HZ.out hc hcc M5).mono ?_
          rintro e w7 ⟨rfl, rfl⟩
          obtain ⟨F, hF⟩ : ∃ F, F = r2.count false := ⟨_, rfl⟩
          have hI := I5.out
          have hle : l.count false ≤ z := by have := List.count_le_length (a := false) (l := l); rw [HZ.out] at this; exact this
          rw [← hI] at hle ⊢
          rw [← hF] at hle ⊢
          have f1 : IntKind.i64.wrap (((F + M + N : Nat) : Int) - N) = ((F + M : Nat) : Int) := by rw [IntWalk.i64_in _ (by omega)]; omega
          have f2 : IntKind.i64.wrap (((F + M : Nat) : Int) - M) = (F : Int) := by rw [IntWalk.i64_in _ (by omega)]; omega
          clear hI hF
          generalize F + M + N = F2 at *
          generalize F + M = F1 at *
          go_wp2_with fail
          refine (heads_any w7).mono ?_
          rintro e w8 ⟨rfl, hb8⟩
          have B8 := Lib.hid (below_chain B5.out hb8)
          clear hb8
          go_wp2_with fail
          go_ret
          exact ⟨rfl, B8.out⟩
      · subst hk1
        have d2 : (k2 == 0) = false := by simpa using hk2
        have d3 : decide (k2 = 0) = false := by simpa using hk2
        clear hk2 X1 X2
        go_wp2_with fail
        refine (heads_any w2).mono ?_
        rintro e w3 ⟨rfl, hb⟩
        have B3 := Lib.hid (below_chain B2.out hb)
        clear hb
        go_wp2_with fail
        go_ret
        exact ⟨rfl, B3.out⟩
    · have d1 : (k1 == 0) = false := by simpa using hk1
      clear hk1 X1 X2
      go_wp2_with fail
      refine (heads_any w2).mono ?_
      rintro e w3 ⟨rfl, hb⟩
      have B3 := Lib.hid (below_chain B2.out hb)
      clear hb
      go_wp2_with fail
      go_ret
      exact ⟨rfl, B3.out⟩
end Go.Proofs.Ytojmohlefbkkdaa.Sp
