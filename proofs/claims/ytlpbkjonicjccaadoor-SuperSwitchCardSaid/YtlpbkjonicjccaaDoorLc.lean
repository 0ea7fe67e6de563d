/-
  SuperSwitch as a contract: of a superblock and the next one the next one counts; with one bit of it turned the other one does.
-/
import Derived.Test.YtlpbkjonicjccaaDoorLb
import Derived.Test.YtlpbkjonicjccaaDoorQc
import Derived.WalkLawsBesides
import Derived.Deep.AppendLies
namespace Go.Proofs.YtlpbkjonicjccaaDoor.Sh
open Go.RowKit Go.Lib

theorem next_is (s nn : SP) (v : Value) (r : ByteArray) (po : Option Addr) (p : List Int) (n c : Nat) (w : World) (h : SupV w v s) (hz : Zrw w po p) (hp : p.length = n) (hn : n ≤ 1000000) (hr : r.size ≤ 9223372036854775807) (hs : nextL s r p = some nn) :
    Calls Tryd.prog 17 #[v, .string r, .slice po n c] w fun e w' => ∃ a q, e = .returned (.tuple #[.agg #[.int .i64 nn.g, .string nn.r, .slice a nn.p.length q], .int .i64 0]) ∧ SupV w' (.agg #[.int .i64 nn.g, .string nn.r, .slice a nn.p.length q]) nn ∧ Below w.heap.size w w' :=
  (next17 s v r po p n c w h hz hp hn hr).mono fun e w' hh => by
    obtain ⟨h1, v, rfl, h2⟩ := hh
    rw [hs, Option.getD_some] at h2
    have h3 := h2.val
    obtain ⟨a, q, rfl, _⟩ := h2
    exact ⟨a, q, by rw [nextE, hs]; rfl, h3, h1⟩
theorem next_no (s : SP) (v : Value) (r : ByteArray) (po : Option Addr) (p : List Int) (n c : Nat) (w : World) (h : SupV w v s) (hz : Zrw w po p) (hp : p.length = n) (hn : n ≤ 1000000) (hr : r.size ≤ 9223372036854775807) (hs : nextL s r p = none) :
    Calls Tryd.prog 17 #[v, .string r, .slice po n c] w fun e w' => ∃ a q, e = .returned (.tuple #[.agg #[.int .i64 0, .string ⟨#[]⟩, .slice a 0 q], .int .i64 110]) ∧ SupV w' (.agg #[.int .i64 0, .string ⟨#[]⟩, .slice a 0 q]) noSP ∧ Below w.heap.size w w' :=
  (next17 s v r po p n c w h hz hp hn hr).mono fun e w' hh => by
    obtain ⟨h1, v, rfl, h2⟩ := hh
    rw [hs, Option.getD_none] at h2
    have h3 := h2.val
    obtain ⟨a, q, rfl, _⟩ := h2
    exact ⟨a, q, by rw [nextE, hs]; rfl, h3, h1⟩
theorem nextL_ok {s nn : SP} {r : ByteArray} {p : List Int} (h : nextL s r p = some nn) : okP s = true ∧ okP nn = true ∧ nn.g = s.g + 1 ∧ 1 ≤ s.g ∧ s.g ≤ 4611686018427387903 := by
  unfold nextL at h
  split at h
  · rename_i h0
    simp only [Bool.and_eq_true] at h0
    cases h
    obtain ⟨_, _, _, _, h1, h2, _⟩ := okP_key h0.1
    exact ⟨h0.1, h0.2, rfl, h1, h2⟩
  · cases h
theorem ok_noSP : okP noSP = false := rfl
theorem bs_set (l : List UInt8) (i : Nat) (x : UInt8) : (bs l).set i (.int .u8 x.toNat) = bs (l.set i x) := by
  simp [bs, List.map_set]
/-- the byte that is turned -/
theorem turned (y : UInt8) (s : Nat) (h : s < 8) : bits BinOp.xor IntKind.u8 (y.toNat : Int) ((2 : Int) ^ s % 256) = ((y ^^^ (2 ^ s : Nat).toUInt8).toNat : Nat) := by
  have hp : 2 ^ s < 2 ^ 8 := Nat.pow_lt_pow_right (by decide) h
  have e : ((2 : Int) ^ s % 256) = ((2 ^ s : Nat) : Int) := by
    rw [show ((2 : Int) ^ s) = ((2 ^ s : Nat) : Int) by rw [Int.natCast_pow]; rfl]
    exact Int.emod_eq_of_lt (Int.natCast_nonneg _) (Int.ofNat_lt.2 hp)
  rw [e, u8_xor_nat _ _ y.toNat_lt (by omega), UInt8.toNat_xor, Cr.pow8 s h]
set_option maxHeartbeats 4000000 in
set_option maxRecDepth 100000 in
theorem switch_long (s : SP) (r : ByteArray) (p : List Int) (ao po : Option Addr) (n c m d : Nat) (bit : Int) (w : World) (hu : SupV w (.agg #[.int .i64 s.g, .string s.r, .slice ao n c]) s) (hz : Zrw w po p) (hp : p.length = m) (hr : r.size ≤ 9223372036854775807) (hm : 300 < m) :
    Calls Tryd.prog 7 #[.agg #[.int .i64 s.g, .string s.r, .slice ao n c], .string r, .slice po m d, .int .i64 bit] w fun e w' => e = .returned (.bool true) ∧ Below w.heap.size w w' := by
  have B0 := Lib.hid (below_alloc' (Below.refl w.heap.size w) (Nat.le_refl _) (.cells #[.int .i64 s.g, .string s.r, .slice ao n c] 25))
  have X : Hid (Bxs w (w.alloc (.cells #[.int .i64 s.g, .string s.r, .slice ao n c] 25)) w.heap.size s.g s.r ao n c) := Bxs.blk (w := w) w s.g s.r ao n c
  have HU := Lib.hid (hu.below B0.out)
  have HZ := Lib.hid (hz.below B0.out)
  have HP := Lib.hid hp
  have HR := Lib.hid hr
  clear hu hz hp hr
  go_enter Tryd.func7, Tryd.ntmps7
  go_wp2_with fail
  refine (heads_any _).mono ?_
  rintro e w1 ⟨rfl, b1⟩
  go_wp2_with fail
  go_ret
  exact ⟨rfl, below_chain B0.out b1⟩
set_option maxHeartbeats 4000000 in
set_option maxRecDepth 100000 in
theorem switch_no (s : SP) (r : ByteArray) (p : List Int) (ao po : Option Addr) (n c m d : Nat) (bit : Int) (w : World) (hu : SupV w (.agg #[.int .i64 s.g, .string s.r, .slice ao n c]) s) (hz : Zrw w po p) (hp : p.length = m) (hr : r.size ≤ 9223372036854775807) (hm : m ≤ 300) (hx : nextL s r p = none) :
    Calls Tryd.prog 7 #[.agg #[.int .i64 s.g, .string s.r, .slice ao n c], .string r, .slice po m d, .int .i64 bit] w fun e w' => e = .returned (.bool true) ∧ Below w.heap.size w w' := by
  have B0 := Lib.hid (below_alloc' (Below.refl w.heap.size w) (Nat.le_refl _) (.cells #[.int .i64 s.g, .string s.r, .slice ao n c] 25))
  have X : Hid (Bxs w (w.alloc (.cells #[.int .i64 s.g, .string s.r, .slice ao n c] 25)) w.heap.size s.g s.r ao n c) := Bxs.blk (w := w) w s.g s.r ao n c
  have HU := Lib.hid (hu.below B0.out)
  have HZ := Lib.hid (hz.below B0.out)
  have HP := Lib.hid hp
  have HR := Lib.hid hr
  have HX := Lib.hid hx
  clear hu hz hp hr hx
  go_enter Tryd.func7, Tryd.ntmps7
  have x0 := X.out.c0
  have x1 := X.out.c1
  have x2 := X.out.c2
  go_wp2_with fail
  generalize hw0 : w.alloc (.cells #[.int .i64 s.g, .string s.r, .slice ao n c] 25) = w0 at *
  clear hw0 x0 x1 x2
  have C1 := Lib.hid (next_no s _ r po p m d w0 HU.out HZ.out HP.out (by omega) HR.out HX.out)
  refine C1.out.mono ?_
  rintro e w1 ⟨a1, q1, rfl, sv1, b1⟩
  have Ba1 := below_alloc' (Below.refl w1.heap.size w1) (Nat.le_refl _) (.cells #[.int .i64 0, .string ⟨#[]⟩, .slice a1 0 q1] 25)
  have bb1 := below_chain b1 Ba1
  have B2 := Lib.hid (below_chain B0.out bb1)
  have X2 := Lib.hid (X.out.low bb1)
  have HU2 := Lib.hid (HU.out.below bb1)
  have SV2 := Lib.hid (sv1.below Ba1)
  have N2 : Hid (Bxs w1 (w1.alloc (.cells #[.int .i64 0, .string ⟨#[]⟩, .slice a1 0 q1] 25)) w1.heap.size 0 ⟨#[]⟩ a1 0 q1) := Bxs.blk (w := w1) w1 _ _ _ _ _
  have C2 := Lib.hid (put_some s _ _ HU2.out)
  have x0 := X2.out.c0
  have x1 := X2.out.c1
  have x2 := X2.out.c2
  clear C1 sv1 b1 Ba1 bb1 X HU B0
  go_wp2_with fail
  generalize hw2 : w1.alloc (.cells #[.int .i64 0, .string ⟨#[]⟩, .slice a1 0 q1] 25) = w2 at *
  clear hw2 x0 x1 x2
  refine C2.out.mono ?_
  rintro e w3 ⟨a3, n3, c3, q3, rfl, _, b3⟩
  have B3 := Lib.hid (below_chain B2.out b3)
  have N3 := Lib.hid (N2.out.low b3)
  have C3 := Lib.hid (put_no noSP ok_noSP _ _ (SV2.out.below b3))
  have n0 := N3.out.c0
  have n1 := N3.out.c1
  have n2 := N3.out.c2
  clear C2 b3 X2 HU2 SV2 N2 B2
  go_wp2_with fail
  refine C3.out.mono ?_
  rintro e w4 ⟨rfl, b4⟩
  have B4 := Lib.hid (below_chain B3.out b4)
  have CH := Lib.hid (heads_any w4)
  clear C3 b4 N3 n0 n1 n2 B3
  go_wp2_with fail
  refine CH.out.mono ?_
  rintro e w5 ⟨rfl, b5⟩
  go_wp2_with fail
  go_ret
  exact ⟨rfl, below_chain B4.out b5⟩
set_option maxHeartbeats 4000000 in
set_option maxRecDepth 100000 in
theorem switch_go (s nn : SP) (r : ByteArray) (p : List Int) (ao po : Option Addr) (n c m d : Nat) (bit : Int) (k : Nat) (w : World) (hu : SupV w (.agg #[.int .i64 s.g, .string s.r, .slice ao n c]) s) (hz : Zrw w po p) (hp : p.length = m) (hr : r.size ≤ 9223372036854775807) (hm : m ≤ 300) (hx : nextL s r p = some nn) (hk : (IntKind.u64.wrap bit).tmod 2048 = (k : Int)) (hk2 : k < 2048) :
    Calls Tryd.prog 7 #[.agg #[.int .i64 s.g, .string s.r, .slice ao n c], .string r, .slice po m d, .int .i64 bit] w fun e w' => e = .returned (.bool true) ∧ Below w.heap.size w w' := by
  have B0 := Lib.hid (below_alloc' (Below.refl w.heap.size w) (Nat.le_refl _) (.cells #[.int .i64 s.g, .string s.r, .slice ao n c] 25))
  have X : Hid (Bxs w (w.alloc (.cells #[.int .i64 s.g, .string s.r, .slice ao n c] 25)) w.heap.size s.g s.r ao n c) := Bxs.blk (w := w) w s.g s.r ao n c
  have HU := Lib.hid (hu.below B0.out)
  have HZ := Lib.hid (hz.below B0.out)
  have HP := Lib.hid hp
  have HR := Lib.hid hr
  have HX := Lib.hid hx
  obtain ⟨h1, h2, h3, h4, h5⟩ := nextL_ok hx
  have H1 := Lib.hid h1
  have H2 := Lib.hid h2
  obtain ⟨gn, rn, pn⟩ := nn
  have h3' : gn = s.g + 1 := h3
  subst h3'
  obtain ⟨nn, hnn⟩ : ∃ nn : SP, nn = ⟨s.g + 1, rn, pn⟩ := ⟨_, rfl⟩
  obtain ⟨ln, hln⟩ : ∃ ln, ln = pn.length := ⟨_, rfl⟩
  have HL1 := Lib.hid (secL_len h1)
  have HL2 := Lib.hid (secL_len h2)
  have CH1 : Hid (chooseL (getL (secL s)) (getL (secL ⟨s.g + 1, rn, pn⟩)) = (⟨s.g + 1, rn, pn⟩, 1, 0)) := by
    show _ = _
    rw [get_sec h1, get_sec h2]
    exact choose_second rfl (by show s.g < s.g + 1; omega)
  have CH2 : Hid (chooseL (getL (secL ⟨s.g + 1, rn, pn⟩)) (getL (secL s)) = (⟨s.g + 1, rn, pn⟩, 0, 0)) := by
    show _ = _
    rw [get_sec h1, get_sec h2]
    exact choose_first rfl (by show ¬ s.g + 1 < s.g; omega)
  have CH3 : Hid (chooseL (getL (secL s)) (getL (Cr.flip (secL ⟨s.g + 1, rn, pn⟩) k)) = (s, 0, 0)) := by
    show _ = _
    rw [get_sec h1, get_flip h2 k hk2]
    exact choose_first rfl (by show ¬ s.g < 0; omega)
  have HXL : ∀ v w po p m d, SupV w v s → Zrw w po p → p.length = m → m ≤ 300 → nextL s r p = some ⟨s.g + 1, rn, pn⟩ → Calls Tryd.prog 17 #[v, .string r, .slice po m d] w fun e w' => ∃ a q, e = .returned (.tuple #[.agg #[.int .i64 (s.g + 1), .string rn, .slice a ln q], .int .i64 0]) ∧ SupV w' (.agg #[.int .i64 (s.g + 1), .string rn, .slice a ln q]) nn ∧ Below w.heap.size w w' := by
    intro v w po p m d a1 a2 a3 a4 a5
    rw [hnn, hln]
    exact next_is s _ v r po p m d w a1 a2 a3 (by omega) HR.out a5
  have C1 := Lib.hid (HXL _ _ po p m d HU.out HZ.out hp hm hx)
  have CI : Hid (∀ ao bo la lb w, Byt w ao la → Byt w bo lb → la.length = 256 → lb.length = 256 → ∀ i, chooseL (getL la) (getL lb) = (⟨s.g + 1, rn, pn⟩, i, 0) → Calls Tryd.prog 13 #[.slice ao 256 256, .slice bo 256 256] w fun e w' => ∃ a q, e = .returned (.tuple #[.agg #[.int .i64 (s.g + 1), .string rn, .slice a ln q], .int .i64 i, .int .i64 0]) ∧ SupV w' (.agg #[.int .i64 (s.g + 1), .string rn, .slice a ln q]) nn ∧ Below w.heap.size w w') := by
    intro ao bo la lb w a1 a2 a3 a4 i a5
    rw [hnn, hln]
    exact choose_is ao bo la lb 256 256 256 256 w a1 a2 a3 a4 _ i 0 a5
  rw [← hnn] at HL2 CH1 CH2 CH3 CI H2
  obtain ⟨lb, hlb⟩ : ∃ lb, lb = secL nn := ⟨_, rfl⟩
  have HLB := Lib.hid hlb
  have HK2 := Lib.hid hk2
  clear hu hz hp hr hx h1 h2 h3 HXL hnn hln hlb
  go_enter Tryd.func7, Tryd.ntmps7
  have x0 := X.out.c0
  have x1 := X.out.c1
  have x2 := X.out.c2
  go_wp2_with fail
  generalize hw0 : w.alloc (.cells #[.int .i64 s.g, .string s.r, .slice ao n c] 25) = w0 at *
  clear hw0 x0 x1 x2
  refine C1.out.mono ?_
  rintro e w1 ⟨a1, q1, rfl, sv1, b1⟩
  have Ba1 := below_alloc' (Below.refl w1.heap.size w1) (Nat.le_refl _) (.cells #[.int .i64 (s.g + 1), .string rn, .slice a1 ln q1] 25)
  have bb1 := below_chain b1 Ba1
  have B2 := Lib.hid (below_chain B0.out bb1)
  have X2 := Lib.hid (X.out.low bb1)
  have HU2 := Lib.hid (HU.out.below bb1)
  have SV2 := Lib.hid (sv1.below Ba1)
  have N2 : Hid (Bxs w1 (w1.alloc (.cells #[.int .i64 (s.g + 1), .string rn, .slice a1 ln q1] 25)) w1.heap.size (s.g + 1) rn a1 ln q1) := Bxs.blk (w := w1) w1 _ _ _ _ _
  have C2 := Lib.hid (put_ok s H1.out _ _ HU2.out)
  have x0 := X2.out.c0
  have x1 := X2.out.c1
  have x2 := X2.out.c2
  clear C1 sv1 b1 Ba1 bb1 X HU B0
  go_wp2_with fail
  generalize hw2 : w1.alloc (.cells #[.int .i64 (s.g + 1), .string rn, .slice a1 ln q1] 25) = w2 at *
  clear hw2 x0 x1 x2
  refine C2.out.mono ?_
  rintro e w3 ⟨g1, rfl, _, k1, b3⟩
  have K3 := Lib.hid k1
  have B3 := Lib.hid (below_chain B2.out b3)
  have N3 := Lib.hid (N2.out.low b3)
  have X3 := Lib.hid (X2.out.low b3)
  have HU3 := Lib.hid (HU2.out.below b3)
  have SV3 := Lib.hid (SV2.out.below b3)
  have C3 := Lib.hid (put_ok nn H2.out _ _ SV3.out)
  have n0 := N3.out.c0
  have n1 := N3.out.c1
  have n2 := N3.out.c2
  clear k1 C2 b3 X2 HU2 SV2 N2 B2
  go_wp2_with fail
  refine C3.out.mono ?_
  rintro e w4 ⟨g2, rfl, hg2, k2, b4⟩
  have G2 := Lib.hid (Nat.lt_of_lt_of_le K3.out.lt hg2)
  have S2 := Lib.hid hg2
  have XW := X3
  have HW := HU3
  have BW := B3
  have D4 := Lib.hid b4
  have L4 : Hid (Blk w4 g2 (bs lb) 51) := by show Blk _ _ _ _; rw [HLB.out]; exact k2
  have K4 := Lib.hid (K3.out.low b4)
  have B4 := Lib.hid (below_chain B3.out b4)
  have N4 := Lib.hid (N3.out.low b4)
  have X4 := Lib.hid (X3.out.low b4)
  have HU4 := Lib.hid (HU3.out.below b4)
  have SV4 := Lib.hid (SV3.out.below b4)
  rw [← HLB.out] at HL2 CH1 CH2 CH3
  have C4 := Lib.hid (CI.out (some ⟨g1, 0, none⟩) (some ⟨g2, 0, none⟩) _ _ w4 K4.out.byt L4.out.byt HL1.out HL2.out _ CH1.out)
  clear k2 C3 b4 X3 HU3 SV3 N3 B3 K3 n0 n1 n2 hg2
  go_wp2_with fail
  refine C4.out.mono ?_
  rintro e w5 ⟨a5, q5, rfl, sv5, b5⟩
  have Ba5 := below_alloc' (Below.refl w5.heap.size w5) (Nat.le_refl _) (.cells #[.int .i64 (s.g + 1), .string rn, .slice a5 ln q5] 25)
  have bb5 := below_chain b5 Ba5
  have K6 := Lib.hid (K4.out.low bb5)
  have D6 := Lib.hid (below_chain D4.out bb5)
  have L6 := Lib.hid (L4.out.low bb5)
  have B6 := Lib.hid (below_chain B4.out bb5)
  have N6 := Lib.hid (N4.out.low bb5)
  have X6 := Lib.hid (X4.out.low bb5)
  have HU6 := Lib.hid (HU4.out.below bb5)
  have SV6 := Lib.hid (SV4.out.below bb5)
  have SX6 := Lib.hid (sv5.below Ba5)
  have Y6 : Hid (Bxs w5 (w5.alloc (.cells #[.int .i64 (s.g + 1), .string rn, .slice a5 ln q5] 25)) w5.heap.size (s.g + 1) rn a5 ln q5) := Bxs.blk (w := w5) w5 _ _ _ _ _
  have C5 := Lib.hid (CI.out (some ⟨g2, 0, none⟩) (some ⟨g1, 0, none⟩) _ _ _ L6.out.byt K6.out.byt HL2.out HL1.out _ CH2.out)
  clear C4 sv5 b5 Ba5 bb5 K4 L4 B4 N4 X4 HU4 SV4
  go_wp2_with fail
  generalize hw6 : w5.alloc (.cells #[.int .i64 (s.g + 1), .string rn, .slice a5 ln q5] 25) = w6 at *
  clear hw6
  refine C5.out.mono ?_
  rintro e w7 ⟨a7, q7, rfl, sv7, b7⟩
  have Ba7 := below_alloc' (Below.refl w7.heap.size w7) (Nat.le_refl _) (.cells #[.int .i64 (s.g + 1), .string rn, .slice a7 ln q7] 25)
  have bb7 := below_chain b7 Ba7
  have K8 := Lib.hid (K6.out.low bb7)
  have D8 := Lib.hid (below_chain D6.out bb7)
  have L8 := Lib.hid (L6.out.low bb7)
  have B8 := Lib.hid (below_chain B6.out bb7)
  have N8 := Lib.hid (N6.out.low bb7)
  have X8 := Lib.hid (X6.out.low bb7)
  have HU8 := Lib.hid (HU6.out.below bb7)
  have SV8 := Lib.hid (SV6.out.below bb7)
  have SX8 := Lib.hid (SX6.out.below bb7)
  have SY8 := Lib.hid (sv7.below Ba7)
  have Y8 := Lib.hid (Y6.out.low bb7)
  have Z8 : Hid (Bxs w7 (w7.alloc (.cells #[.int .i64 (s.g + 1), .string rn, .slice a7 ln q7] 25)) w7.heap.size (s.g + 1) rn a7 ln q7) := Bxs.blk (w := w7) w7 _ _ _ _ _
  have C6 := Lib.hid (same10 _ _ _ _ _ SX8.out SV8.out)
  rw [same_self] at C6
  have n0 := N8.out.c0
  have n1 := N8.out.c1
  have n2 := N8.out.c2
  have y0 := Y8.out.c0
  have y1 := Y8.out.c1
  have y2 := Y8.out.c2
  clear C5 sv7 b7 Ba7 bb7 K6 L6 B6 N6 X6 HU6 SV6 SX6 Y6
  go_wp2_with fail
  generalize hw8 : w7.alloc (.cells #[.int .i64 (s.g + 1), .string rn, .slice a7 ln q7] 25) = w8 at *
  clear hw8 n0 n1 n2 y0 y1 y2 Y8 SX8
  refine C6.out.mono ?_
  rintro e w9 ⟨rfl, b9⟩
  have K9 := Lib.hid (K8.out.low b9)
  have D9 := Lib.hid (below_chain D8.out b9)
  have L9 := Lib.hid (L8.out.low b9)
  have B9 := Lib.hid (below_chain B8.out b9)
  have N9 := Lib.hid (N8.out.low b9)
  have X9 := Lib.hid (X8.out.low b9)
  have HU9 := Lib.hid (HU8.out.below b9)
  have SV9 := Lib.hid (SV8.out.below b9)
  have SY9 := Lib.hid (SY8.out.below b9)
  have Z9 := Lib.hid (Z8.out.low b9)
  have C7 := Lib.hid (same10 _ _ _ _ _ SY9.out SV9.out)
  rw [same_self] at C7
  have n0 := N9.out.c0
  have n1 := N9.out.c1
  have n2 := N9.out.c2
  have z0 := Z9.out.c0
  have z1 := Z9.out.c1
  have z2 := Z9.out.c2
  clear C6 b9 K8 L8 B8 N8 X8 HU8 SV8 SY8 Z8
  go_wp2_with fail
  refine C7.out.mono ?_
  rintro e w10 ⟨rfl, b10⟩
  have K10 := Lib.hid (K9.out.low b10)
  have D10 := Lib.hid (below_chain D9.out b10)
  have L10 := Lib.hid (L9.out.low b10)
  have B10 := Lib.hid (below_chain B9.out b10)
  have N10 := Lib.hid (N9.out.low b10)
  have X10 := Lib.hid (X9.out.low b10)
  have HU10 := Lib.hid (HU9.out.below b10)
  have SZ10 := Lib.hid (Nat.le_refl w10.heap.size)
  have n0 := N10.out.c0
  have x0 := X10.out.c0
  clear C7 b10 K9 L9 B9 N9 X9 HU9 SV9 SY9 Z9 n1 n2 z0 z1 z2
  have hk8 : k / 8 < 256 := by omega
  obtain ⟨y, hy⟩ : ∃ y, y = lb[k / 8]'(by rw [HL2.out]; exact hk8) := ⟨_, rfl⟩
  have hcell := L10.out.cell (k / 8)
  rw [bs_get _ _ (by rw [HL2.out]; exact hk8), ← hy] at hcell
  have hfz := L10.out.frozen (k / 8)
  have htu := turned y (k % 8) (by omega)
  have HST : Hid (Blk (w10.setCell ⟨g2, k / 8, none⟩ (.int .u8 (bits BinOp.xor IntKind.u8 (y.toNat : Int) ((2 : Int) ^ (k % 8) % 256)))) g2 (bs (Cr.flip lb k)) 51) := by
    have h := L10.out.set (k / 8) (.int .u8 (y ^^^ (2 ^ (k % 8) : Nat).toUInt8).toNat)
    rw [bs_set] at h
    show Blk _ _ _ _
    rw [htu]
    unfold Cr.flip
    rw [List.getD_eq_getElem?_getD, List.getElem?_eq_getElem (by rw [HL2.out]; exact hk8), Option.getD_some, ← hy]
    exact h
  have KST : Hid (Blk (w10.setCell ⟨g2, k / 8, none⟩ (.int .u8 (bits BinOp.xor IntKind.u8 (y.toNat : Int) ((2 : Int) ^ (k % 8) % 256)))) g1 (bs (secL s)) 51) := K10.out.other _ (Nat.ne_of_lt G2.out)
  clear htu hy
  go_wp2_with fail
  have D11 : Hid (Below w3.heap.size w3 (w10.setCell ⟨g2, k / 8, none⟩ (.int .u8 (bits BinOp.xor IntKind.u8 (y.toNat : Int) ((2 : Int) ^ (k % 8) % 256))))) := D10.out.setCell (p := ⟨g2, k / 8, none⟩) S2.out _
  generalize hw11 : w10.setCell ⟨g2, k / 8, none⟩ (.int .u8 (bits BinOp.xor IntKind.u8 (y.toNat : Int) ((2 : Int) ^ (k % 8) % 256))) = w11 at *
  clear hw11 hcell hfz n0 x0 D4 D6 D8 D9 D10 K10 L10 B10 N10 X10 HU10 SZ10
  have C11 := Lib.hid (choose_is (some ⟨g1, 0, none⟩) (some ⟨g2, 0, none⟩) _ _ 256 256 256 256 w11 KST.out.byt HST.out.byt HL1.out (by rw [Cr.flip_len]; exact HL2.out) _ _ _ CH3.out)
  refine C11.out.mono ?_
  rintro e w12 ⟨a12, q12, rfl, sv12, b12⟩
  have Ba12 := below_alloc' (Below.refl w12.heap.size w12) (Nat.le_refl _) (.cells #[.int .i64 s.g, .string s.r, .slice a12 s.p.length q12] 25)
  have bb12 := below_chain D11.out (below_chain b12 Ba12)
  have B13 := Lib.hid (below_chain BW.out bb12)
  have X13 := Lib.hid (XW.out.low bb12)
  have HU13 := Lib.hid (HW.out.below bb12)
  have SV13 := Lib.hid (sv12.below Ba12)
  have V13 : Hid (Bxs w12 (w12.alloc (.cells #[.int .i64 s.g, .string s.r, .slice a12 s.p.length q12] 25)) w12.heap.size s.g s.r a12 s.p.length q12) := Bxs.blk (w := w12) w12 _ _ _ _ _
  have CS := Lib.hid (same10 _ _ _ _ _ SV13.out HU13.out)
  rw [same_self] at CS
  have x0 := X13.out.c0
  have x1 := X13.out.c1
  have x2 := X13.out.c2
  have v0 := V13.out.c0
  have v1 := V13.out.c1
  have v2 := V13.out.c2
  clear C11 sv12 b12 Ba12 bb12 HST KST D11
  go_wp2_with fail
  generalize hw13 : w12.alloc (.cells #[.int .i64 s.g, .string s.r, .slice a12 s.p.length q12] 25) = w13 at *
  clear hw13
  refine CS.out.mono ?_
  rintro e w14 ⟨rfl, b14⟩
  have B14 := Lib.hid (below_chain B13.out b14)
  have CH := Lib.hid (heads_any w14)
  clear CS b14 x0 x1 x2 v0 v1 v2 X13 HU13 SV13 V13 B13
  go_wp2_with fail
  refine CH.out.mono ?_
  rintro e w15 ⟨rfl, b15⟩
  go_wp2_with fail
  go_ret
  exact ⟨rfl, below_chain B14.out b15⟩
theorem u64_wrap7 (x : Int) : IntKind.u64.wrap x = x % 18446744073709551616 := by simp [IntKind.wrap, IntKind.bits, IntKind.signed]
theorem switch7 (s : SP) (r : ByteArray) (p : List Int) (u : Value) (po : Option Addr) (m d : Nat) (bit : Int) (w : World) (hu : SupV w u s) (hz : Zrw w po p) (hp : p.length = m) (hr : r.size ≤ 9223372036854775807) :
    Calls Tryd.prog 7 #[u, .string r, .slice po m d, .int .i64 bit] w fun e w' => e = .returned (.bool true) ∧ Below w.heap.size w w' := by
  have ku := hu
  obtain ⟨ao, c, rfl, _⟩ := hu
  by_cases hm : m ≤ 300
  · rcases opt_or (nextL s r p) with hx | ⟨nn, hx⟩
    · exact switch_no s r p ao po _ c m d bit w ku hz hp hr hm hx
    · have h0 : 0 ≤ IntKind.u64.wrap bit := by rw [u64_wrap7]; omega
      refine switch_go s nn r p ao po _ c m d bit (IntKind.u64.wrap bit % 2048).toNat w ku hz hp hr hm hx ?_ (by omega)
      rw [Int.tmod_eq_emod_of_nonneg h0]
      omega
  · exact switch_long s r p ao po _ c m d bit w ku hz hp hr (by omega)
end Go.Proofs.YtlpbkjonicjccaaDoor.Sh
