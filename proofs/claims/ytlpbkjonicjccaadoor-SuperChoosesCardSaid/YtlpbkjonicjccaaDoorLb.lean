/-
  SuperBack as a contract: what is written is read as it was, and what is read is written as it was.
-/
import Derived.Test.YtlpbkjonicjccaaDoorLa
namespace Go.Proofs.YtlpbkjonicjccaaDoor.Sh
open Go.RowKit Go.Lib

theorem get_no (ao : Option Addr) (l : List UInt8) (n c : Nat) (w : World) (h : Byt w ao l) (hn : l.length = n) (hs : getL l = none) :
    Calls Tryd.prog 9 #[.slice ao n c] w fun e w' => ∃ a q, e = .returned (.tuple #[.agg #[.int .i64 0, .string ⟨#[]⟩, .slice a 0 q], .int .i64 110]) ∧ SupV w' (.agg #[.int .i64 0, .string ⟨#[]⟩, .slice a 0 q]) noSP ∧ Below w.heap.size w w' :=
  (get9 ao l n c w h hn).mono fun e w' hh => by
    obtain ⟨h1, v, rfl, h2⟩ := hh
    rw [hs, Option.getD_none] at h2
    have h3 := h2.val
    obtain ⟨a, q, rfl, _⟩ := h2
    exact ⟨a, q, by rw [getE, hs]; rfl, h3, h1⟩
theorem same_no : sameL noSP noSP = true := same_self _
set_option maxHeartbeats 4000000 in
set_option maxRecDepth 100000 in
theorem back_nn (s : SP) (lb : List UInt8) (po bo : Option Addr) (n m c d : Nat) (w : World) (hu : SupV w (.agg #[.int .i64 s.g, .string s.r, .slice po n c]) s) (hb : Byt w bo lb) (hm : lb.length = m) (hbn : bo = none → d = 0)
    (h1 : okP s = false) (h2 : getL lb = none) :
    Calls Tryd.prog 3 #[.agg #[.int .i64 s.g, .string s.r, .slice po n c], .slice bo m d] w fun e w' => e = .returned (.bool true) ∧ Below w.heap.size w w' := by
  have B0 := Lib.hid (below_alloc' (Below.refl w.heap.size w) (Nat.le_refl _) (.cells #[.int .i64 s.g, .string s.r, .slice po n c] 25))
  have X : Hid (Bxs w (w.alloc (.cells #[.int .i64 s.g, .string s.r, .slice po n c] 25)) w.heap.size s.g s.r po n c) := Bxs.blk (w := w) w s.g s.r po n c
  have HU := Lib.hid (hu.below B0.out)
  have HB := Lib.hid (hb.below B0.out)
  have HM := Lib.hid hm
  have HBN := Lib.hid hbn
  have H1 := Lib.hid h1
  have H2 := Lib.hid h2
  clear hu hb h1 h2 hm hbn
  go_enter Tryd.func3, Tryd.ntmps3
  have x0 := X.out.c0
  have x1 := X.out.c1
  have x2 := X.out.c2
  go_wp2_with fail
  generalize hw0 : w.alloc (.cells #[.int .i64 s.g, .string s.r, .slice po n c] 25) = w0 at *
  clear hw0 x0 x1 x2
  have C1 := Lib.hid (put_no s H1.out _ w0 HU.out)
  refine C1.out.mono ?_
  rintro e w5 ⟨rfl, b1⟩
  have B5 := Lib.hid (below_chain B0.out b1)
  have HB5 := Lib.hid (HB.out.below b1)
  clear b1 C1 B0 X HU HB H1
  have C6 := Lib.hid (get_no bo lb m d w5 HB5.out HM.out H2.out)
  go_wp2_with fail
  refine C6.out.mono ?_
  rintro e w6 ⟨a6, q6, rfl, sv6, b6⟩
  have Ba6 := below_alloc' (Below.refl w6.heap.size w6) (Nat.le_refl _) (.cells #[.int .i64 0, .string ⟨#[]⟩, .slice a6 0 q6] 25)
  have B7 := Lib.hid (below_chain B5.out (below_chain b6 Ba6))
  have SV7 := Lib.hid (sv6.below Ba6)
  have Z7 : Hid (Bxs w6 (w6.alloc (.cells #[.int .i64 0, .string ⟨#[]⟩, .slice a6 0 q6] 25)) w6.heap.size 0 ⟨#[]⟩ a6 0 q6) := Bxs.blk (w := w6) w6 _ _ _ _ _
  have z0 := Z7.out.c0
  have z1 := Z7.out.c1
  have z2 := Z7.out.c2
  have CS := Lib.hid (same10 _ _ _ _ _ SV7.out (sup_none _))
  rw [same_no] at CS
  clear C6 sv6 b6 Ba6 HB5 B5
  go_wp2_with fail
  refine CS.out.mono ?_
  rintro e w8 ⟨rfl, b8⟩
  have B8 := Lib.hid (below_chain B7.out b8)
  have CH := Lib.hid (heads_any w8)
  clear b8 CS z0 z1 z2 Z7 SV7 B7
  go_wp2_with fail
  refine CH.out.mono ?_
  rintro e w9 ⟨rfl, b9⟩
  go_wp2_with fail
  go_ret
  exact ⟨rfl, below_chain B8.out b9⟩
set_option maxHeartbeats 4000000 in
set_option maxRecDepth 100000 in
theorem back_no (s y : SP) (lb : List UInt8) (po bo : Option Addr) (n m c d : Nat) (w : World) (hu : SupV w (.agg #[.int .i64 s.g, .string s.r, .slice po n c]) s) (hb : Byt w bo lb) (hm : lb.length = m) (hbn : bo = none → d = 0)
    (h1 : okP s = false) (h2 : getL lb = some y) :
    Calls Tryd.prog 3 #[.agg #[.int .i64 s.g, .string s.r, .slice po n c], .slice bo m d] w fun e w' => e = .returned (.bool true) ∧ Below w.heap.size w w' := by
  have B0 := Lib.hid (below_alloc' (Below.refl w.heap.size w) (Nat.le_refl _) (.cells #[.int .i64 s.g, .string s.r, .slice po n c] 25))
  have X : Hid (Bxs w (w.alloc (.cells #[.int .i64 s.g, .string s.r, .slice po n c] 25)) w.heap.size s.g s.r po n c) := Bxs.blk (w := w) w s.g s.r po n c
  have HU := Lib.hid (hu.below B0.out)
  have HB := Lib.hid (hb.below B0.out)
  have HM := Lib.hid hm
  have HBN := Lib.hid hbn
  have H1 := Lib.hid h1
  have H2 := Lib.hid h2
  clear hu hb h1 h2 hm hbn
  go_enter Tryd.func3, Tryd.ntmps3
  have x0 := X.out.c0
  have x1 := X.out.c1
  have x2 := X.out.c2
  go_wp2_with fail
  generalize hw0 : w.alloc (.cells #[.int .i64 s.g, .string s.r, .slice po n c] 25) = w0 at *
  clear hw0 x0 x1 x2
  have C1 := Lib.hid (put_no s H1.out _ w0 HU.out)
  refine C1.out.mono ?_
  rintro e w5 ⟨rfl, b1⟩
  have B5 := Lib.hid (below_chain B0.out b1)
  have HB5 := Lib.hid (HB.out.below b1)
  clear b1 C1 B0 X HU HB H1
  have C6 := Lib.hid (get_is bo lb m d w5 HB5.out HM.out y H2.out)
  go_wp2_with fail
  refine C6.out.mono ?_
  rintro e w6 ⟨a6, q6, rfl, sv6, b6⟩
  have Ba6 := below_alloc' (Below.refl w6.heap.size w6) (Nat.le_refl _) (.cells #[.int .i64 y.g, .string y.r, .slice a6 y.p.length q6] 25)
  have B7 := Lib.hid (below_chain B5.out (below_chain b6 Ba6))
  have SV7 := Lib.hid (sv6.below Ba6)
  have HB7 := Lib.hid (HB5.out.below (below_chain b6 Ba6))
  have Z7 : Hid (Bxs w6 (w6.alloc (.cells #[.int .i64 y.g, .string y.r, .slice a6 y.p.length q6] 25)) w6.heap.size y.g y.r a6 y.p.length q6) := Bxs.blk (w := w6) w6 _ _ _ _ _
  have z0 := Z7.out.c0
  have z1 := Z7.out.c1
  have z2 := Z7.out.c2
  have CP := Lib.hid (put_ok y (getL_some H2.out).1 _ _ SV7.out)
  clear C6 sv6 b6 Ba6 HB5 B5
  go_wp2_with fail
  refine CP.out.mono ?_
  rintro e w8 ⟨g8, rfl, _, k8, b8⟩
  have B8 := Lib.hid (below_chain B7.out b8)
  have HB8 := Lib.hid (HB7.out.below b8)
  have CE := Lib.hid (Cr.same_any (some ⟨g8, 0, none⟩) bo (secL y) lb 256 d w8 k8.byt HB8.out (fun h => by cases h) HBN.out)
  rw [secL_len (getL_some H2.out).1, HM.out, show decide (secL y = lb) = true from decide_eq_true (getL_some H2.out).2.1] at CE
  have CH := Lib.hid (heads_any w8)
  clear b8 k8 CP z0 z1 z2 Z7 SV7 B7 HB7
  go_wp2_with fail
  refine CE.out.mono ?_
  rintro e w9 ⟨rfl, rfl⟩
  go_wp2_with fail
  refine CH.out.mono ?_
  rintro e w10 ⟨rfl, b9⟩
  go_wp2_with fail
  go_ret
  exact ⟨rfl, below_chain B8.out b9⟩
set_option maxHeartbeats 4000000 in
set_option maxRecDepth 100000 in
theorem back_on (s : SP) (lb : List UInt8) (po bo : Option Addr) (n m c d : Nat) (w : World) (hu : SupV w (.agg #[.int .i64 s.g, .string s.r, .slice po n c]) s) (hb : Byt w bo lb) (hm : lb.length = m) (hbn : bo = none → d = 0)
    (h1 : okP s = true) (h2 : getL lb = none) :
    Calls Tryd.prog 3 #[.agg #[.int .i64 s.g, .string s.r, .slice po n c], .slice bo m d] w fun e w' => e = .returned (.bool true) ∧ Below w.heap.size w w' := by
  have B0 := Lib.hid (below_alloc' (Below.refl w.heap.size w) (Nat.le_refl _) (.cells #[.int .i64 s.g, .string s.r, .slice po n c] 25))
  have X : Hid (Bxs w (w.alloc (.cells #[.int .i64 s.g, .string s.r, .slice po n c] 25)) w.heap.size s.g s.r po n c) := Bxs.blk (w := w) w s.g s.r po n c
  have HU := Lib.hid (hu.below B0.out)
  have HB := Lib.hid (hb.below B0.out)
  have HM := Lib.hid hm
  have HBN := Lib.hid hbn
  have H1 := Lib.hid h1
  have H2 := Lib.hid h2
  clear hu hb h1 h2 hm hbn
  go_enter Tryd.func3, Tryd.ntmps3
  have x0 := X.out.c0
  have x1 := X.out.c1
  have x2 := X.out.c2
  go_wp2_with fail
  generalize hw0 : w.alloc (.cells #[.int .i64 s.g, .string s.r, .slice po n c] 25) = w0 at *
  clear hw0 x0 x1 x2
  have C1 := Lib.hid (put_ok s H1.out _ w0 HU.out)
  refine C1.out.mono ?_
  rintro e w1 ⟨g1, rfl, _, k1, b1⟩
  have HL1 := Lib.hid (secL_len H1.out)
  have C2 := Lib.hid (get_is (some ⟨g1, 0, none⟩) _ 256 256 _ k1.byt HL1.out _ (get_sec H1.out))
  have B1 := Lib.hid (below_chain B0.out b1)
  have X1 := Lib.hid (X.out.low b1)
  have HU1 := Lib.hid (HU.out.below b1)
  have HB1 := Lib.hid (HB.out.below b1)
  clear b1 k1 C1 B0 X HU HB H1
  go_wp2_with fail
  refine C2.out.mono ?_
  rintro e w2 ⟨a2, q2, rfl, sv2, b2⟩
  have Ba2 := below_alloc' (Below.refl w2.heap.size w2) (Nat.le_refl _) (.cells #[.int .i64 s.g, .string s.r, .slice a2 s.p.length q2] 25)
  have bb2 := below_chain b2 Ba2
  have X3 := Lib.hid (X1.out.low bb2)
  have HU3 := Lib.hid (HU1.out.below bb2)
  have HB3 := Lib.hid (HB1.out.below bb2)
  have B3 := Lib.hid (below_chain B1.out bb2)
  have SV3 := Lib.hid (sv2.below Ba2)
  have Z3 : Hid (Bxs w2 (w2.alloc (.cells #[.int .i64 s.g, .string s.r, .slice a2 s.p.length q2] 25)) w2.heap.size s.g s.r a2 s.p.length q2) := Bxs.blk (w := w2) w2 _ _ _ _ _
  have CS := Lib.hid (same10 _ _ _ _ _ SV3.out HU3.out)
  rw [same_self] at CS
  have x0 := X3.out.c0
  have x1 := X3.out.c1
  have x2 := X3.out.c2
  have z0 := Z3.out.c0
  have z1 := Z3.out.c1
  have z2 := Z3.out.c2
  clear C2 sv2 b2 Ba2 bb2 X1 HU1 HB1 B1
  go_wp2_with fail
  refine CS.out.mono ?_
  rintro e w5 ⟨rfl, b5⟩
  have B5 := Lib.hid (below_chain B3.out b5)
  have HB5 := Lib.hid (HB3.out.below b5)
  clear b5 CS x0 x1 x2 z0 z1 z2 X3 HU3 HB3 B3 SV3 Z3
  have C6 := Lib.hid (get_no bo lb m d w5 HB5.out HM.out H2.out)
  go_wp2_with fail
  refine C6.out.mono ?_
  rintro e w6 ⟨a6, q6, rfl, sv6, b6⟩
  have Ba6 := below_alloc' (Below.refl w6.heap.size w6) (Nat.le_refl _) (.cells #[.int .i64 0, .string ⟨#[]⟩, .slice a6 0 q6] 25)
  have B7 := Lib.hid (below_chain B5.out (below_chain b6 Ba6))
  have SV7 := Lib.hid (sv6.below Ba6)
  have Z7 : Hid (Bxs w6 (w6.alloc (.cells #[.int .i64 0, .string ⟨#[]⟩, .slice a6 0 q6] 25)) w6.heap.size 0 ⟨#[]⟩ a6 0 q6) := Bxs.blk (w := w6) w6 _ _ _ _ _
  have z0 := Z7.out.c0
  have z1 := Z7.out.c1
  have z2 := Z7.out.c2
  have CS := Lib.hid (same10 _ _ _ _ _ SV7.out (sup_none _))
  rw [same_no] at CS
  clear C6 sv6 b6 Ba6 HB5 B5
  go_wp2_with fail
  refine CS.out.mono ?_
  rintro e w8 ⟨rfl, b8⟩
  have B8 := Lib.hid (below_chain B7.out b8)
  have CH := Lib.hid (heads_any w8)
  clear b8 CS z0 z1 z2 Z7 SV7 B7
  go_wp2_with fail
  refine CH.out.mono ?_
  rintro e w9 ⟨rfl, b9⟩
  go_wp2_with fail
  go_ret
  exact ⟨rfl, below_chain B8.out b9⟩
set_option maxHeartbeats 4000000 in
set_option maxRecDepth 100000 in
theorem back_oo (s y : SP) (lb : List UInt8) (po bo : Option Addr) (n m c d : Nat) (w : World) (hu : SupV w (.agg #[.int .i64 s.g, .string s.r, .slice po n c]) s) (hb : Byt w bo lb) (hm : lb.length = m) (hbn : bo = none → d = 0)
    (h1 : okP s = true) (h2 : getL lb = some y) :
    Calls Tryd.prog 3 #[.agg #[.int .i64 s.g, .string s.r, .slice po n c], .slice bo m d] w fun e w' => e = .returned (.bool true) ∧ Below w.heap.size w w' := by
  have B0 := Lib.hid (below_alloc' (Below.refl w.heap.size w) (Nat.le_refl _) (.cells #[.int .i64 s.g, .string s.r, .slice po n c] 25))
  have X : Hid (Bxs w (w.alloc (.cells #[.int .i64 s.g, .string s.r, .slice po n c] 25)) w.heap.size s.g s.r po n c) := Bxs.blk (w := w) w s.g s.r po n c
  have HU := Lib.hid (hu.below B0.out)
  have HB := Lib.hid (hb.below B0.out)
  have HM := Lib.hid hm
  have HBN := Lib.hid hbn
  have H1 := Lib.hid h1
  have H2 := Lib.hid h2
  clear hu hb h1 h2 hm hbn
  go_enter Tryd.func3, Tryd.ntmps3
  have x0 := X.out.c0
  have x1 := X.out.c1
  have x2 := X.out.c2
  go_wp2_with fail
  generalize hw0 : w.alloc (.cells #[.int .i64 s.g, .string s.r, .slice po n c] 25) = w0 at *
  clear hw0 x0 x1 x2
  have C1 := Lib.hid (put_ok s H1.out _ w0 HU.out)
  refine C1.out.mono ?_
  rintro e w1 ⟨g1, rfl, _, k1, b1⟩
  have HL1 := Lib.hid (secL_len H1.out)
  have C2 := Lib.hid (get_is (some ⟨g1, 0, none⟩) _ 256 256 _ k1.byt HL1.out _ (get_sec H1.out))
  have B1 := Lib.hid (below_chain B0.out b1)
  have X1 := Lib.hid (X.out.low b1)
  have HU1 := Lib.hid (HU.out.below b1)
  have HB1 := Lib.hid (HB.out.below b1)
  clear b1 k1 C1 B0 X HU HB H1
  go_wp2_with fail
  refine C2.out.mono ?_
  rintro e w2 ⟨a2, q2, rfl, sv2, b2⟩
  have Ba2 := below_alloc' (Below.refl w2.heap.size w2) (Nat.le_refl _) (.cells #[.int .i64 s.g, .string s.r, .slice a2 s.p.length q2] 25)
  have bb2 := below_chain b2 Ba2
  have X3 := Lib.hid (X1.out.low bb2)
  have HU3 := Lib.hid (HU1.out.below bb2)
  have HB3 := Lib.hid (HB1.out.below bb2)
  have B3 := Lib.hid (below_chain B1.out bb2)
  have SV3 := Lib.hid (sv2.below Ba2)
  have Z3 : Hid (Bxs w2 (w2.alloc (.cells #[.int .i64 s.g, .string s.r, .slice a2 s.p.length q2] 25)) w2.heap.size s.g s.r a2 s.p.length q2) := Bxs.blk (w := w2) w2 _ _ _ _ _
  have CS := Lib.hid (same10 _ _ _ _ _ SV3.out HU3.out)
  rw [same_self] at CS
  have x0 := X3.out.c0
  have x1 := X3.out.c1
  have x2 := X3.out.c2
  have z0 := Z3.out.c0
  have z1 := Z3.out.c1
  have z2 := Z3.out.c2
  clear C2 sv2 b2 Ba2 bb2 X1 HU1 HB1 B1
  go_wp2_with fail
  refine CS.out.mono ?_
  rintro e w5 ⟨rfl, b5⟩
  have B5 := Lib.hid (below_chain B3.out b5)
  have HB5 := Lib.hid (HB3.out.below b5)
  clear b5 CS x0 x1 x2 z0 z1 z2 X3 HU3 HB3 B3 SV3 Z3
  have C6 := Lib.hid (get_is bo lb m d w5 HB5.out HM.out y H2.out)
  go_wp2_with fail
  refine C6.out.mono ?_
  rintro e w6 ⟨a6, q6, rfl, sv6, b6⟩
  have Ba6 := below_alloc' (Below.refl w6.heap.size w6) (Nat.le_refl _) (.cells #[.int .i64 y.g, .string y.r, .slice a6 y.p.length q6] 25)
  have B7 := Lib.hid (below_chain B5.out (below_chain b6 Ba6))
  have SV7 := Lib.hid (sv6.below Ba6)
  have HB7 := Lib.hid (HB5.out.below (below_chain b6 Ba6))
  have Z7 : Hid (Bxs w6 (w6.alloc (.cells #[.int .i64 y.g, .string y.r, .slice a6 y.p.length q6] 25)) w6.heap.size y.g y.r a6 y.p.length q6) := Bxs.blk (w := w6) w6 _ _ _ _ _
  have z0 := Z7.out.c0
  have z1 := Z7.out.c1
  have z2 := Z7.out.c2
  have CP := Lib.hid (put_ok y (getL_some H2.out).1 _ _ SV7.out)
  clear C6 sv6 b6 Ba6 HB5 B5
  go_wp2_with fail
  refine CP.out.mono ?_
  rintro e w8 ⟨g8, rfl, _, k8, b8⟩
  have B8 := Lib.hid (below_chain B7.out b8)
  have HB8 := Lib.hid (HB7.out.below b8)
  have CE := Lib.hid (Cr.same_any (some ⟨g8, 0, none⟩) bo (secL y) lb 256 d w8 k8.byt HB8.out (fun h => by cases h) HBN.out)
  rw [secL_len (getL_some H2.out).1, HM.out, show decide (secL y = lb) = true from decide_eq_true (getL_some H2.out).2.1] at CE
  have CH := Lib.hid (heads_any w8)
  clear b8 k8 CP z0 z1 z2 Z7 SV7 B7 HB7
  go_wp2_with fail
  refine CE.out.mono ?_
  rintro e w9 ⟨rfl, rfl⟩
  go_wp2_with fail
  refine CH.out.mono ?_
  rintro e w10 ⟨rfl, b9⟩
  go_wp2_with fail
  go_ret
  exact ⟨rfl, below_chain B8.out b9⟩
theorem back3 (s : SP) (lb : List UInt8) (u : Value) (bo : Option Addr) (m d : Nat) (w : World) (hu : SupV w u s) (hb : Byt w bo lb) (hm : lb.length = m) (hbn : bo = none → d = 0) :
    Calls Tryd.prog 3 #[u, .slice bo m d] w fun e w' => e = .returned (.bool true) ∧ Below w.heap.size w w' := by
  have ku := hu
  obtain ⟨ao, c, rfl, _⟩ := hu
  rcases Bool.eq_false_or_eq_true (okP s) with h1 | h1 <;> rcases opt_or (getL lb) with h2 | ⟨y, h2⟩
  · exact back_on s lb ao bo _ m c d w ku hb hm hbn h1 h2
  · exact back_oo s y lb ao bo _ m c d w ku hb hm hbn h1 h2
  · exact back_nn s lb ao bo _ m c d w ku hb hm hbn h1 h2
  · exact back_no s y lb ao bo _ m c d w ku hb hm hbn h1 h2
end Go.Proofs.YtlpbkjonicjccaaDoor.Sh
