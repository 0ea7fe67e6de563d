/-
  SuperWrites as a contract: which sector a superblock is, and which superblock bytes are, as the document's own page has it.
-/
import Derived.Test.YtlpbkjonicjccaaDoorTb
import Derived.Test.YtlpbkjonicjccaaDoorLa
namespace Go.Proofs.YtlpbkjonicjccaaDoor.Sh
open Go.RowKit Go.Lib

def putL (s : SP) : List UInt8 := if okP s then secL s else []
/-- what both Puts answer -/
def AnsW (w : World) (s : SP) (e : Ending) (w' : World) : Prop := ∃ a n c, e = .returned (.tuple #[.slice a n c, .int .i64 (putE s)]) ∧ Byt w' a (putL s) ∧ (putL s).length = n ∧ (a = none → c = 0) ∧ Below w.heap.size w w'
theorem putw (s : SP) (v : Value) (w : World) (h : SupV w v s) : Calls Tryd.prog 8 #[v] w (AnsW w s) := by
  rcases Bool.eq_false_or_eq_true (okP s) with hok | hok
  · refine (put_ok s hok v w h).mono fun e w' hh => ?_
    obtain ⟨g, rfl, _, hk, hb⟩ := hh
    have e1 : putL s = secL s := by rw [putL, if_pos hok]
    have e2 : putE s = 0 := by rw [putE, hok]; rfl
    exact ⟨_, _, _, by rw [e2], by rw [e1]; exact hk.byt, by rw [e1]; exact secL_len hok, (fun h => by cases h), hb⟩
  · refine (put_no s hok v w h).mono fun e w' hh => ?_
    have e1 : putL s = [] := by rw [putL, if_neg (by rw [hok]; decide)]
    have e2 : putE s = 110 := by rw [putE, hok]; rfl
    exact ⟨none, 0, 0, by rw [e2]; exact hh.1, by rw [e1]; exact byt_nil _ _, by rw [e1]; rfl, fun _ => rfl, hh.2⟩
theorem refputw (s : SP) (v : Value) (w : World) (h : SupV w v s) : Calls Tryd.prog 14 #[v] w (AnsW w s) :=
  (refput14 s v w h).mono fun e w' hh => by
    obtain ⟨h1, u, rfl, h2⟩ := hh
    obtain ⟨a, c, rfl, _, _, hb, hn⟩ := own_byt h2
    exact ⟨a, _, c, rfl, hb, rfl, hn, h1⟩
/-- what both Gets answer -/
def AnsV (w : World) (l : List UInt8) (e : Ending) (w' : World) : Prop := ∃ a q, e = .returned (.tuple #[.agg #[.int .i64 ((getL l).getD noSP).g, .string ((getL l).getD noSP).r, .slice a ((getL l).getD noSP).p.length q], .int .i64 (getE l)]) ∧
  SupV w' (.agg #[.int .i64 ((getL l).getD noSP).g, .string ((getL l).getD noSP).r, .slice a ((getL l).getD noSP).p.length q]) ((getL l).getD noSP) ∧ Below w.heap.size w w'
theorem ansv {w w' : World} {l : List UInt8} {e : Ending} (h : AnsG w l e w') : AnsV w l e w' := by
  obtain ⟨h1, v, rfl, h2⟩ := h
  have h3 := h2.val
  obtain ⟨a, q, rfl, _⟩ := h2
  exact ⟨a, q, rfl, h3, h1⟩
theorem heads5 (u : Value) (s : SP) (ao po : Option Addr) (n c m d : Nat) (w : World) (hm : 1000 < m) (hu : u = .agg #[.int .i64 s.g, .string s.r, .slice po n c]) :
    Calls Tryd.prog 5 #[u, .slice ao m d] w fun e w' => e = .returned (.bool true) ∧ Below w.heap.size w w' := by
  subst hu
  have B0 := Lib.hid (below_alloc' (Below.refl w.heap.size w) (Nat.le_refl _) (.cells #[.int .i64 s.g, .string s.r, .slice po n c] 25))
  go_enter Tryd.func5, Tryd.ntmps5
  go_wp2_with fail
  refine (heads_any _).mono ?_
  rintro e w1 ⟨rfl, b1⟩
  go_wp2_with fail
  go_ret
  exact ⟨rfl, below_chain B0.out b1⟩
set_option maxHeartbeats 4000000 in
set_option maxRecDepth 100000 in
theorem writes_in (s : SP) (lb : List UInt8) (po bo : Option Addr) (n m c d : Nat) (w : World) (hu : SupV w (.agg #[.int .i64 s.g, .string s.r, .slice po n c]) s) (hb : Byt w bo lb) (hm : lb.length = m) (hmd : m ≤ d) (hd : d ≤ 9223372036854775807) (h1000 : m ≤ 1000) :
    Calls Tryd.prog 5 #[.agg #[.int .i64 s.g, .string s.r, .slice po n c], .slice bo m d] w fun e w' => e = .returned (.bool true) ∧ Below w.heap.size w w' := by
  have B0 := Lib.hid (below_alloc' (Below.refl w.heap.size w) (Nat.le_refl _) (.cells #[.int .i64 s.g, .string s.r, .slice po n c] 25))
  have X : Hid (Bxs w (w.alloc (.cells #[.int .i64 s.g, .string s.r, .slice po n c] 25)) w.heap.size s.g s.r po n c) := Bxs.blk (w := w) w s.g s.r po n c
  have HU := Lib.hid (hu.below B0.out)
  have HB := Lib.hid (hb.below B0.out)
  have HM := Lib.hid hm
  obtain ⟨t, ht⟩ : ∃ t, t = (getL lb).getD noSP := ⟨_, rfl⟩
  obtain ⟨te, hte⟩ : ∃ te, te = getE lb := ⟨_, rfl⟩
  obtain ⟨pe, hpe⟩ : ∃ pe, pe = putE s := ⟨_, rfl⟩
  have CP := Lib.hid (fun (v : Value) (W : World) (h : SupV W v s) => putw s v W h)
  have CQ := Lib.hid (fun (v : Value) (W : World) (h : SupV W v s) => refputw s v W h)
  have CG := Lib.hid (fun (W : World) (h : Byt W bo lb) => (get9 bo lb m d W h HM.out).mono fun _ _ hh => ansv hh)
  have CR := Lib.hid (fun (W : World) (h : Byt W bo lb) => (refget15 bo lb m d W h HM.out hmd hd).mono fun _ _ hh => ansv hh)
  unfold AnsV at CG CR
  unfold AnsW at CP CQ
  rw [← ht, ← hte] at CG CR
  rw [← hpe] at CP CQ
  obtain ⟨pl, hpl⟩ : ∃ pl, pl = putL s := ⟨_, rfl⟩
  rw [← hpl] at CP CQ
  clear hu hb hm hmd hd ht hte hpe hpl
  go_enter Tryd.func5, Tryd.ntmps5
  have x0 := X.out.c0
  have x1 := X.out.c1
  have x2 := X.out.c2
  go_wp2_with fail
  generalize hw0 : w.alloc (.cells #[.int .i64 s.g, .string s.r, .slice po n c] 25) = w0 at *
  clear hw0 x0 x1 x2
  refine (CP.out _ _ HU.out).mono ?_
  rintro e w1 ⟨a1, n1, c1, rfl, hb1, hl1, hn1, b1⟩
  have B1 := Lib.hid (below_chain B0.out b1)
  have X1 := Lib.hid (X.out.low b1)
  have HU1 := Lib.hid (HU.out.below b1)
  have HB1 := Lib.hid (HB.out.below b1)
  have P1 := Lib.hid hb1
  have L1 := Lib.hid hl1
  have N1 := Lib.hid hn1
  have x0 := X1.out.c0
  have x1 := X1.out.c1
  have x2 := X1.out.c2
  clear hb1 hl1 hn1 b1 B0 X HU HB CP
  go_wp2_with fail
  refine (CQ.out _ _ HU1.out).mono ?_
  rintro e w2 ⟨a2, n2, c2, rfl, hb2, hl2, hn2, b2⟩
  have B2 := Lib.hid (below_chain B1.out b2)
  have HB2 := Lib.hid (HB1.out.below b2)
  have P2 := Lib.hid (P1.out.below b2)
  have Q2 := Lib.hid hb2
  obtain rfl : n1 = n2 := by rw [← L1.out, hl2]
  have N2 := Lib.hid hn2
  clear hb2 hl2 hn2 b2 B1 X1 HU1 HB1 P1 x0 x1 x2 CQ
  go_wp2_with fail
  refine (CG.out _ HB2.out).mono ?_
  rintro e w3 ⟨a3, c3, rfl, sv3, b3⟩
  have Ba3 := below_alloc' (Below.refl w3.heap.size w3) (Nat.le_refl _) (.cells #[.int .i64 t.g, .string t.r, .slice a3 t.p.length c3] 25)
  have bb3 := below_chain b3 Ba3
  have B4 := Lib.hid (below_chain B2.out bb3)
  have HB4 := Lib.hid (HB2.out.below bb3)
  have P4 := Lib.hid (P2.out.below bb3)
  have Q4 := Lib.hid (Q2.out.below bb3)
  have SV4 := Lib.hid (sv3.below Ba3)
  have Z4 : Hid (Bxs w3 (w3.alloc (.cells #[.int .i64 t.g, .string t.r, .slice a3 t.p.length c3] 25)) w3.heap.size t.g t.r a3 t.p.length c3) := Bxs.blk (w := w3) w3 _ _ _ _ _
  have C5 := Lib.hid (CR.out _ HB4.out)
  clear sv3 b3 Ba3 bb3 B2 HB2 P2 Q2 CG CR
  go_wp2_with fail
  generalize hw4 : w3.alloc (.cells #[.int .i64 t.g, .string t.r, .slice a3 t.p.length c3] 25) = w4 at *
  clear hw4
  refine C5.out.mono ?_
  rintro e w5 ⟨a5, c5, rfl, sv5, b5⟩
  have Ba5 := below_alloc' (Below.refl w5.heap.size w5) (Nat.le_refl _) (.cells #[.int .i64 t.g, .string t.r, .slice a5 t.p.length c5] 25)
  have bb5 := below_chain b5 Ba5
  have B6 := Lib.hid (below_chain B4.out bb5)
  have P6 := Lib.hid (P4.out.below bb5)
  have Q6 := Lib.hid (Q4.out.below bb5)
  have SV6 := Lib.hid (SV4.out.below bb5)
  have TV6 := Lib.hid (sv5.below Ba5)
  have Z6 := Lib.hid (Z4.out.low bb5)
  have Y6 : Hid (Bxs w5 (w5.alloc (.cells #[.int .i64 t.g, .string t.r, .slice a5 t.p.length c5] 25)) w5.heap.size t.g t.r a5 t.p.length c5) := Bxs.blk (w := w5) w5 _ _ _ _ _
  have CE := Lib.hid (Cr.same_any a1 a2 pl pl c1 c2 _ P6.out Q6.out N1.out N2.out)
  rw [show decide (pl = pl) = true from decide_eq_true rfl, L1.out] at CE
  have CS := Lib.hid (same10 _ _ _ _ _ SV6.out TV6.out)
  rw [same_self] at CS
  have z0 := Z6.out.c0
  have z1 := Z6.out.c1
  have z2 := Z6.out.c2
  have y0 := Y6.out.c0
  have y1 := Y6.out.c1
  have y2 := Y6.out.c2
  clear sv5 b5 Ba5 bb5 B4 HB4 P4 Q4 SV4 Z4 C5
  go_wp2_with fail
  generalize hw6 : w5.alloc (.cells #[.int .i64 t.g, .string t.r, .slice a5 t.p.length c5] 25) = w6 at *
  clear hw6
  refine CE.out.mono ?_
  rintro e w7 ⟨rfl, rfl⟩
  go_wp2_with fail
  refine CS.out.mono ?_
  rintro e w8 ⟨rfl, b8⟩
  have B8 := Lib.hid (below_chain B6.out b8)
  have CH := Lib.hid (heads_any w8)
  clear b8 CS CE z0 z1 z2 y0 y1 y2 Z6 Y6 SV6 TV6 P6 Q6 B6
  go_wp2_with fail
  refine CH.out.mono ?_
  rintro e w9 ⟨rfl, b9⟩
  go_wp2_with fail
  go_ret
  exact ⟨rfl, below_chain B8.out b9⟩
theorem writes5 (s : SP) (lb : List UInt8) (u : Value) (bo : Option Addr) (m d : Nat) (w : World) (hu : SupV w u s) (hb : Byt w bo lb) (hm : lb.length = m) (hmd : m ≤ d) (hd : d ≤ 9223372036854775807) :
    Calls Tryd.prog 5 #[u, .slice bo m d] w fun e w' => e = .returned (.bool true) ∧ Below w.heap.size w w' := by
  have ku := hu
  obtain ⟨ao, c, rfl, _⟩ := hu
  by_cases h1 : m ≤ 1000
  · exact writes_in s lb ao bo _ m c d w ku hb hm hmd hd h1
  · exact heads5 _ s bo ao _ c m d w (by omega) rfl
end Go.Proofs.YtlpbkjonicjccaaDoor.Sh
