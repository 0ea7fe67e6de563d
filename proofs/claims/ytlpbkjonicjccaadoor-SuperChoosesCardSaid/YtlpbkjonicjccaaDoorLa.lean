/-
  SuperGens as a contract: of two superblocks the one with the greater number counts.
-/
import Derived.Test.YtlpbkjonicjccaaDoorSj
namespace Go.Proofs.YtlpbkjonicjccaaDoor.Sh
open Go.RowKit Go.Lib

theorem put_no (s : SP) (hok : okP s = false) (v : Value) (w : World) (h : SupV w v s) : Calls Tryd.prog 8 #[v] w fun e w' => e = .returned (.tuple #[.slice none 0 0, .int .i64 110]) ∧ Below w.heap.size w w' :=
  (put8 s v w h).mono fun e w' hh => by
    obtain ⟨h1, u, rfl, h2, _⟩ := hh
    rw [h2 hok, putE, hok]
    exact ⟨rfl, h1⟩
theorem put_some (s : SP) (v : Value) (w : World) (h : SupV w v s) : Calls Tryd.prog 8 #[v] w fun e w' => ∃ ao n c q, e = .returned (.tuple #[.slice ao n c, .int .i64 q]) ∧ q = putE s ∧ Below w.heap.size w w' := by
  rcases Bool.eq_false_or_eq_true (okP s) with hok | hok
  · refine (put_ok s hok v w h).mono fun e w' hh => ?_
    obtain ⟨g, rfl, _, _, hb⟩ := hh
    exact ⟨_, _, _, 0, rfl, by rw [putE, hok]; rfl, hb⟩
  · refine (put_no s hok v w h).mono fun e w' hh => ?_
    exact ⟨none, 0, 0, 110, hh.1, by rw [putE, hok]; rfl, hh.2⟩
theorem putE_no {s : SP} (h : okP s = false) : putE s = 110 := by rw [putE, h]; rfl
theorem putE_ok {s : SP} (h : okP s = true) : putE s = 0 := by rw [putE, h]; rfl
set_option maxHeartbeats 4000000 in
set_option maxRecDepth 100000 in
theorem gens_no (s t : SP) (ao bo : Option Addr) (n m c d : Nat) (w : World) (hu : SupV w (.agg #[.int .i64 s.g, .string s.r, .slice ao n c]) s) (hv : SupV w (.agg #[.int .i64 t.g, .string t.r, .slice bo m d]) t)
    (hno : okP s = false ∨ okP s = true ∧ okP t = false ∨ okP s = true ∧ okP t = true ∧ s.g = t.g) :
    Calls Tryd.prog 4 #[.agg #[.int .i64 s.g, .string s.r, .slice ao n c], .agg #[.int .i64 t.g, .string t.r, .slice bo m d]] w fun e w' => e = .returned (.bool true) ∧ Below w.heap.size w w' := by
  have B1 := Lib.hid (below_alloc' (Below.refl w.heap.size w) (Nat.le_refl _) (.cells #[.int .i64 s.g, .string s.r, .slice ao n c] 25))
  have B2 := Lib.hid (below_alloc' B1.out (Nat.le_refl _) (.cells #[.int .i64 t.g, .string t.r, .slice bo m d] 25))
  have X : Hid (Bxs w ((w.alloc (.cells #[.int .i64 s.g, .string s.r, .slice ao n c] 25)).alloc (.cells #[.int .i64 t.g, .string t.r, .slice bo m d] 25)) w.heap.size s.g s.r ao n c) :=
    (Bxs.blk (w := w) w s.g s.r ao n c).low (below_alloc' (Below.refl _ _) (Nat.le_refl _) _)
  have Y : Hid (Bxs w ((w.alloc (.cells #[.int .i64 s.g, .string s.r, .slice ao n c] 25)).alloc (.cells #[.int .i64 t.g, .string t.r, .slice bo m d] 25)) (w.heap.size + 1) t.g t.r bo m d) := by
    have := Bxs.blk (w := w) (w.alloc (.cells #[.int .i64 s.g, .string s.r, .slice ao n c] 25)) t.g t.r bo m d
    rw [World.size_alloc] at this
    exact this
  have HU := Lib.hid (hu.below B2.out)
  have HV := Lib.hid (hv.below B2.out)
  have HN := Lib.hid hno
  have HD := Lib.hid heads_any
  clear hu hv hno B1
  go_enter Tryd.func4, Tryd.ntmps4
  have x0 := X.out.c0
  have x1 := X.out.c1
  have x2 := X.out.c2
  go_wp2_with fail
  generalize hw0 : (w.alloc (.cells #[.int .i64 s.g, .string s.r, .slice ao n c] 25)).alloc (.cells #[.int .i64 t.g, .string t.r, .slice bo m d] 25) = w0 at *
  clear hw0
  have C1 := Lib.hid (put_some s _ w0 HU.out)
  refine C1.out.mono ?_
  rintro e w1 ⟨a1, n1, c1, q1, rfl, hq1, b1⟩
  have Q1 := Lib.hid hq1
  have B3 := Lib.hid (below_chain B2.out b1)
  have X3 := Lib.hid (X.out.low b1)
  have Y3 := Lib.hid (Y.out.low b1)
  have C3 := Lib.hid (put_some t _ w1 (HV.out.below b1))
  have y0 := Y3.out.c0
  have y1 := Y3.out.c1
  have y2 := Y3.out.c2
  clear hq1 b1 C1 x0 x1 x2 X Y B2 HU HV
  go_wp2_with fail
  refine C3.out.mono ?_
  rintro e w2 ⟨a2, n2, c2, q2, rfl, hq2, b2⟩
  have Q2 := Lib.hid hq2
  have B4 := Lib.hid (below_chain B3.out b2)
  have X4 := Lib.hid (X3.out.low b2)
  have Y4 := Lib.hid (Y3.out.low b2)
  have x0 := X4.out.c0
  have z0 := Y4.out.c0
  have C4 := Lib.hid (HD.out w2)
  clear hq2 b2 C3 y0 y1 y2 X3 Y3 B3 HD
  rcases HN.out with h | ⟨h, h'⟩ | ⟨h, h', hg⟩
  · have e1 : q1 = 110 := by rw [Q1.out, putE_no h]
    subst e1
    clear h HN Q1 Q2
    go_wp2_with fail
    refine C4.out.mono ?_
    rintro e w3 ⟨rfl, b3⟩
    go_wp2_with fail
    go_ret
    exact ⟨rfl, below_chain B4.out b3⟩
  · have e1 : q1 = 0 := by rw [Q1.out, putE_ok h]
    have e2 : q2 = 110 := by rw [Q2.out, putE_no h']
    subst e1 e2
    clear h h' HN Q1 Q2
    go_wp2_with fail
    refine C4.out.mono ?_
    rintro e w3 ⟨rfl, b3⟩
    go_wp2_with fail
    go_ret
    exact ⟨rfl, below_chain B4.out b3⟩
  · have e1 : q1 = 0 := by rw [Q1.out, putE_ok h]
    have e2 : q2 = 0 := by rw [Q2.out, putE_ok h']
    subst e1 e2
    rw [← hg] at z0
    clear h h' HN Q1 Q2 hg
    go_wp2_with fail
    refine C4.out.mono ?_
    rintro e w3 ⟨rfl, b3⟩
    go_wp2_with fail
    go_ret
    exact ⟨rfl, below_chain B4.out b3⟩
set_option maxHeartbeats 4000000 in
set_option maxRecDepth 100000 in
theorem gens_two (s t m0 : SP) (k : Int) (ao bo : Option Addr) (n m c d : Nat) (w : World) (hu : SupV w (.agg #[.int .i64 s.g, .string s.r, .slice ao n c]) s) (hv : SupV w (.agg #[.int .i64 t.g, .string t.r, .slice bo m d]) t)
    (h1 : okP s = true) (h2 : okP t = true) (hne : (s.g == t.g) = false) (lt : Bool) (hlt : decide (s.g < t.g) = lt) (hm0 : m0 = if lt then t else s) (hk : k = if lt then 1 else 0) :
    Calls Tryd.prog 4 #[.agg #[.int .i64 s.g, .string s.r, .slice ao n c], .agg #[.int .i64 t.g, .string t.r, .slice bo m d]] w fun e w' => e = .returned (.bool true) ∧ Below w.heap.size w w' := by
  have CH1 : Hid (chooseL (getL (secL s)) (getL (secL t)) = (m0, k, 0)) := by
    show _ = _
    rw [get_sec h1, get_sec h2]
    cases lt with
    | true => rw [hm0, hk]; exact choose_second rfl (of_decide_eq_true hlt)
    | false => rw [hm0, hk]; exact choose_first rfl (of_decide_eq_false hlt)
  have CH2 : Hid (chooseL (getL (secL t)) (getL (secL s)) = (m0, 1 - k, 0)) := by
    show _ = _
    rw [get_sec h1, get_sec h2]
    have hne : ¬ s.g = t.g := by simpa using hne
    cases lt with
    | true => rw [hm0, hk]; exact choose_first rfl (by have := of_decide_eq_true hlt; simp; omega)
    | false => rw [hm0, hk]; exact choose_second rfl (by have := of_decide_eq_false hlt; simp; omega)
  have B1 := Lib.hid (below_alloc' (Below.refl w.heap.size w) (Nat.le_refl _) (.cells #[.int .i64 s.g, .string s.r, .slice ao n c] 25))
  have B2 := Lib.hid (below_alloc' B1.out (Nat.le_refl _) (.cells #[.int .i64 t.g, .string t.r, .slice bo m d] 25))
  have X : Hid (Bxs w ((w.alloc (.cells #[.int .i64 s.g, .string s.r, .slice ao n c] 25)).alloc (.cells #[.int .i64 t.g, .string t.r, .slice bo m d] 25)) w.heap.size s.g s.r ao n c) :=
    (Bxs.blk (w := w) w s.g s.r ao n c).low (below_alloc' (Below.refl _ _) (Nat.le_refl _) _)
  have Y : Hid (Bxs w ((w.alloc (.cells #[.int .i64 s.g, .string s.r, .slice ao n c] 25)).alloc (.cells #[.int .i64 t.g, .string t.r, .slice bo m d] 25)) (w.heap.size + 1) t.g t.r bo m d) := by
    have := Bxs.blk (w := w) (w.alloc (.cells #[.int .i64 s.g, .string s.r, .slice ao n c] 25)) t.g t.r bo m d
    rw [World.size_alloc] at this
    exact this
  have HU := Lib.hid (hu.below B2.out)
  have HV := Lib.hid (hv.below B2.out)
  have H1 := Lib.hid h1
  have H2 := Lib.hid h2
  have HL1 := Lib.hid (secL_len h1)
  have HL2 := Lib.hid (secL_len h2)
  have HM0 := Lib.hid hm0
  have HK := Lib.hid hk
  clear hu hv h1 h2 B1 hm0 hk
  go_enter Tryd.func4, Tryd.ntmps4
  have x0 := X.out.c0
  have x1 := X.out.c1
  have x2 := X.out.c2
  go_wp2_with fail
  generalize hw0 : (w.alloc (.cells #[.int .i64 s.g, .string s.r, .slice ao n c] 25)).alloc (.cells #[.int .i64 t.g, .string t.r, .slice bo m d] 25) = w0 at *
  clear hw0
  have C1 := Lib.hid (put_ok s H1.out _ w0 HU.out)
  refine C1.out.mono ?_
  rintro e w1 ⟨g1, rfl, _, k1, b1⟩
  have K1 := Lib.hid k1
  have B3 := Lib.hid (below_chain B2.out b1)
  have X3 := Lib.hid (X.out.low b1)
  have Y3 := Lib.hid (Y.out.low b1)
  have HU3 := Lib.hid (HU.out.below b1)
  have HV3 := Lib.hid (HV.out.below b1)
  have y0 := Y3.out.c0
  have y1 := Y3.out.c1
  have y2 := Y3.out.c2
  clear k1 b1 C1 x0 x1 x2 X Y B2 HU HV
  have C3 := Lib.hid (put_ok t H2.out _ w1 HV3.out)
  go_wp2_with fail
  refine C3.out.mono ?_
  rintro e w2 ⟨g2, rfl, _, k2, b2⟩
  have K2 := Lib.hid k2
  have K4 := Lib.hid (K1.out.low b2)
  have B4 := Lib.hid (below_chain B3.out b2)
  have X4 := Lib.hid (X3.out.low b2)
  have Y4 := Lib.hid (Y3.out.low b2)
  have HU4 := Lib.hid (HU3.out.below b2)
  have HV4 := Lib.hid (HV3.out.below b2)
  have x0 := X4.out.c0
  have z0 := Y4.out.c0
  have C4 := Lib.hid (choose_is (some ⟨g1, 0, none⟩) (some ⟨g2, 0, none⟩) _ _ 256 256 256 256 w2 K4.out.byt K2.out.byt HL1.out HL2.out _ _ _ CH1.out)
  clear k2 b2 C3 y0 y1 y2 X3 Y3 B3 HU3 HV3 K1
  go_wp2_with fail
  refine C4.out.mono ?_
  rintro e w3 ⟨a3, q3, rfl, sv3, b3⟩
  have Ba3 := below_alloc' (Below.refl w3.heap.size w3) (Nat.le_refl _) (.cells #[.int .i64 m0.g, .string m0.r, .slice a3 m0.p.length q3] 25)
  have bb3 := below_chain b3 Ba3
  have X5 := Lib.hid (X4.out.low bb3)
  have Y5 := Lib.hid (Y4.out.low bb3)
  have HU5 := Lib.hid (HU4.out.below bb3)
  have HV5 := Lib.hid (HV4.out.below bb3)
  have K5 := Lib.hid (K4.out.low bb3)
  have K6 := Lib.hid (K2.out.low bb3)
  have B5 := Lib.hid (below_chain B4.out bb3)
  have SV5 := Lib.hid (sv3.below Ba3)
  have Z5 : Hid (Bxs w3 (w3.alloc (.cells #[.int .i64 m0.g, .string m0.r, .slice a3 m0.p.length q3] 25)) w3.heap.size m0.g m0.r a3 m0.p.length q3) := Bxs.blk (w := w3) w3 _ _ _ _ _
  have C5 := Lib.hid (choose_is (some ⟨g2, 0, none⟩) (some ⟨g1, 0, none⟩) _ _ 256 256 256 256 _ K6.out.byt K5.out.byt HL2.out HL1.out _ _ _ CH2.out)
  clear C4 sv3 b3 Ba3 bb3 X4 Y4 HU4 HV4 K4 K2 B4 x0 z0
  go_wp2_with fail
  generalize hw4 : w3.alloc (.cells #[.int .i64 m0.g, .string m0.r, .slice a3 m0.p.length q3] 25) = w4 at *
  clear hw4
  refine C5.out.mono ?_
  rintro e w5 ⟨a5, q5, rfl, sv5, b5⟩
  have Ba5 := below_alloc' (Below.refl w5.heap.size w5) (Nat.le_refl _) (.cells #[.int .i64 m0.g, .string m0.r, .slice a5 m0.p.length q5] 25)
  have bb5 := below_chain b5 Ba5
  have X7 := Lib.hid (X5.out.low bb5)
  have Y7 := Lib.hid (Y5.out.low bb5)
  have HU7 := Lib.hid (HU5.out.below bb5)
  have HV7 := Lib.hid (HV5.out.below bb5)
  have B7 := Lib.hid (below_chain B5.out bb5)
  have SV7 := Lib.hid (SV5.out.below bb5)
  have Z7 := Lib.hid (Z5.out.low bb5)
  have TV7 := Lib.hid (sv5.below Ba5)
  have T7 : Hid (Bxs w5 (w5.alloc (.cells #[.int .i64 m0.g, .string m0.r, .slice a5 m0.p.length q5] 25)) w5.heap.size m0.g m0.r a5 m0.p.length q5) := Bxs.blk (w := w5) w5 _ _ _ _ _
  clear C5 sv5 b5 Ba5 bb5 X5 Y5 HU5 HV5 K5 K6 B5 SV5 Z5
  have al8 := below_alloc' (Below.refl (w5.alloc (.cells #[.int .i64 m0.g, .string m0.r, .slice a5 m0.p.length q5] 25)).heap.size (w5.alloc (.cells #[.int .i64 m0.g, .string m0.r, .slice a5 m0.p.length q5] 25))) (Nat.le_refl _) (.cells #[.int .i64 s.g, .string s.r, .slice ao n c] 25)
  have X8 := Lib.hid (X7.out.low al8)
  have Y8 := Lib.hid (Y7.out.low al8)
  have HU8 := Lib.hid (HU7.out.below al8)
  have HV8 := Lib.hid (HV7.out.below al8)
  have B8 := Lib.hid (below_chain B7.out al8)
  have SV8 := Lib.hid (SV7.out.below al8)
  have TV8 := Lib.hid (TV7.out.below al8)
  have Z8 := Lib.hid (Z7.out.low al8)
  have T8 := Lib.hid (T7.out.low al8)
  have V8 : Hid (Blk ((w5.alloc (.cells #[.int .i64 m0.g, .string m0.r, .slice a5 m0.p.length q5] 25)).alloc (.cells #[.int .i64 s.g, .string s.r, .slice ao n c] 25)) (w5.heap.size + 1) [.int .i64 s.g, .string s.r, .slice ao n c] 25) :=
    Blk.new _ [.int .i64 s.g, .string s.r, .slice ao n c] 25 (w5.heap.size + 1) (World.size_alloc _ _).symm
  have x0 := X7.out.c0
  have x1 := X7.out.c1
  have x2 := X7.out.c2
  have u0 := X8.out.c0
  have y0 := Y8.out.c0
  have y1 := Y8.out.c1
  have y2 := Y8.out.c2
  cases lt
  · have e1 : m0 = s := HM0.out
    have e2 : k = 0 := HK.out
    subst e1 e2
    have z0 := Z8.out.c0
    have z1 := Z8.out.c1
    have z2 := Z8.out.c2
    have v0 := V8.out.cell 0
    have v1 := V8.out.cell 1
    have v2 := V8.out.cell 2
    simp only [List.getElem?_cons_zero, List.getElem?_cons_succ] at v0 v1 v2
    clear al8 X7 Y7 HU7 HV7 B7 SV7 TV7 Z7 T7 HM0 HK
    go_wp2_with fail
    clear x0 x1 x2 u0 y0 y1 y2 z0 z1 z2 v0 v1 v2
    generalize hw9 : (w5.alloc (.cells #[.int .i64 m0.g, .string m0.r, .slice a5 m0.p.length q5] 25)).alloc (.cells #[.int .i64 m0.g, .string m0.r, .slice ao n c] 25) = w9 at *
    clear hw9
    have SV9 := SV8
    have MV9 := HU8
    have TV9 := TV8
    have B9 := B8
    have T9 := T8
    have V9 := V8
    clear SV8 HU8 TV8 B8 T8 V8 X8 Y8 HV8 Z8
    have CS := Lib.hid (same10 _ _ _ _ _ SV9.out MV9.out)
    rw [same_self] at CS
    refine CS.out.mono ?_
    rintro e w10 ⟨rfl, b10⟩
    have B10 := Lib.hid (below_chain B9.out b10)
    have T10 := Lib.hid (T9.out.low b10)
    have V10 := Lib.hid (V9.out.low b10)
    have CT := Lib.hid (same10 _ _ _ _ _ (TV9.out.below b10) (MV9.out.below b10))
    rw [same_self] at CT
    have t0 := T10.out.c0
    have t1 := T10.out.c1
    have t2 := T10.out.c2
    have v0 := V10.out.cell 0
    have v1 := V10.out.cell 1
    have v2 := V10.out.cell 2
    simp only [List.getElem?_cons_zero, List.getElem?_cons_succ] at v0 v1 v2
    clear b10 CS B9 T9 V9 SV9 MV9 TV9
    go_wp2_with fail
    refine CT.out.mono ?_
    rintro e w11 ⟨rfl, b11⟩
    have B11 := Lib.hid (below_chain B10.out b11)
    have CH := Lib.hid (heads_any w11)
    clear b11 CT B10 T10 V10 t0 t1 t2 v0 v1 v2
    go_wp2_with fail
    refine CH.out.mono ?_
    rintro e w12 ⟨rfl, b12⟩
    go_wp2_with fail
    go_ret
    exact ⟨rfl, below_chain B11.out b12⟩
  · have e1 : m0 = t := HM0.out
    have e2 : k = 1 := HK.out
    subst e1 e2
    have b9 := below_alloc' (Below.refl (w5.alloc (.cells #[.int .i64 m0.g, .string m0.r, .slice a5 m0.p.length q5] 25)).heap.size (w5.alloc (.cells #[.int .i64 m0.g, .string m0.r, .slice a5 m0.p.length q5] 25))) (Nat.le_refl _) (.cells #[.int .i64 m0.g, .string m0.r, .slice bo m d] 25)
    have SV9 := Lib.hid (SV7.out.below b9)
    have MV9 := Lib.hid (HV7.out.below b9)
    have TV9 := Lib.hid (TV7.out.below b9)
    have B9 := Lib.hid (below_chain B7.out b9)
    have Z9 := Lib.hid (Z7.out.low b9)
    have T9 := Lib.hid (T7.out.low b9)
    have V9 : Hid (Blk ((w5.alloc (.cells #[.int .i64 m0.g, .string m0.r, .slice a5 m0.p.length q5] 25)).alloc (.cells #[.int .i64 m0.g, .string m0.r, .slice bo m d] 25)) (w5.heap.size + 1) [.int .i64 m0.g, .string m0.r, .slice bo m d] 25) :=
      Blk.new _ [.int .i64 m0.g, .string m0.r, .slice bo m d] 25 (w5.heap.size + 1) (World.size_alloc _ _).symm
    have z0 := Z9.out.c0
    have z1 := Z9.out.c1
    have z2 := Z9.out.c2
    have v0 := V9.out.cell 0
    have v1 := V9.out.cell 1
    have v2 := V9.out.cell 2
    have tf := fun j => V8.out.frozen j
    have tc0 := V8.out.cell 0
    have tc1 := V8.out.cell 1
    have tc2 := V8.out.cell 2
    simp only [List.getElem?_cons_zero, List.getElem?_cons_succ] at v0 v1 v2 tc0 tc1 tc2
    clear al8 X7 Y7 HU7 HV7 B7 SV7 TV7 Z7 T7 b9 HM0 HK
    go_wp2_with fail
    clear x0 x1 x2 u0 y0 y1 y2 z0 z1 z2 v0 v1 v2 tf tc0 tc1 tc2
    generalize hw9 : (w5.alloc (.cells #[.int .i64 m0.g, .string m0.r, .slice a5 m0.p.length q5] 25)).alloc (.cells #[.int .i64 m0.g, .string m0.r, .slice bo m d] 25) = w9 at *
    clear hw9
    clear SV8 HU8 TV8 B8 T8 V8 X8 Y8 HV8 Z8
    have CS := Lib.hid (same10 _ _ _ _ _ SV9.out MV9.out)
    rw [same_self] at CS
    refine CS.out.mono ?_
    rintro e w10 ⟨rfl, b10⟩
    have B10 := Lib.hid (below_chain B9.out b10)
    have T10 := Lib.hid (T9.out.low b10)
    have V10 := Lib.hid (V9.out.low b10)
    have CT := Lib.hid (same10 _ _ _ _ _ (TV9.out.below b10) (MV9.out.below b10))
    rw [same_self] at CT
    have t0 := T10.out.c0
    have t1 := T10.out.c1
    have t2 := T10.out.c2
    have v0 := V10.out.cell 0
    have v1 := V10.out.cell 1
    have v2 := V10.out.cell 2
    simp only [List.getElem?_cons_zero, List.getElem?_cons_succ] at v0 v1 v2
    clear b10 CS B9 T9 V9 SV9 MV9 TV9
    go_wp2_with fail
    refine CT.out.mono ?_
    rintro e w11 ⟨rfl, b11⟩
    have B11 := Lib.hid (below_chain B10.out b11)
    have CH := Lib.hid (heads_any w11)
    clear b11 CT B10 T10 V10 t0 t1 t2 v0 v1 v2
    go_wp2_with fail
    refine CH.out.mono ?_
    rintro e w12 ⟨rfl, b12⟩
    go_wp2_with fail
    go_ret
    exact ⟨rfl, below_chain B11.out b12⟩
theorem gens4 (s t : SP) (u v : Value) (w : World) (hu : SupV w u s) (hv : SupV w v t) : Calls Tryd.prog 4 #[u, v] w fun e w' => e = .returned (.bool true) ∧ Below w.heap.size w w' := by
  have ku := hu
  have kv := hv
  obtain ⟨ao, c, rfl, _⟩ := hu
  obtain ⟨bo, d, rfl, _⟩ := hv
  rcases Bool.eq_false_or_eq_true (okP s) with h1 | h1
  · rcases Bool.eq_false_or_eq_true (okP t) with h2 | h2
    · by_cases hg : s.g = t.g
      · exact gens_no s t ao bo _ _ c d w ku kv (.inr (.inr ⟨h1, h2, hg⟩))
      · exact gens_two s t _ _ ao bo _ _ c d w ku kv h1 h2 (by simpa using hg) _ rfl rfl rfl
    · exact gens_no s t ao bo _ _ c d w ku kv (.inr (.inl ⟨h1, h2⟩))
  · exact gens_no s t ao bo _ _ c d w ku kv (.inl h1)
end Go.Proofs.YtlpbkjonicjccaaDoor.Sh
