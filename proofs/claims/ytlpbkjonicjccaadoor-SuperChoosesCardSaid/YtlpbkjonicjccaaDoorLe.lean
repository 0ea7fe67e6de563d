/-
  SuperChooses as a contract, out of that of the page's Next: which of two sectors counts, and what the next superblock is, as the document's own page has it.
-/
import Derived.Test.YtlpbkjonicjccaaDoorTc
import Derived.Test.YtlpbkjonicjccaaDoorLb
import Derived.Test.YtlpbkjonicjccaaDoorSh
namespace Go.Proofs.YtlpbkjonicjccaaDoor.Sh
open Go.RowKit Go.Lib

/-- the contract of the page's Next -/
def N18 : Prop := ∀ (s : SP) (v : Value) (r : ByteArray) (po : Option Addr) (p : List Int) (n c : Nat) (w : World), SupV w v s → Zrw w po p → p.length = n → n ≤ 300 → n ≤ c → c ≤ 9223372036854775807 → r.size ≤ 9223372036854775807 → Calls Tryd.prog 18 #[v, .string r, .slice po n c] w (AnsN w (nextL s r p))
/-- what both Chooses answer -/
def AnsD (w : World) (t : SP) (i er : Int) (e : Ending) (w' : World) : Prop := ∃ a q, e = .returned (.tuple #[.agg #[.int .i64 t.g, .string t.r, .slice a t.p.length q], .int .i64 i, .int .i64 er]) ∧ SupV w' (.agg #[.int .i64 t.g, .string t.r, .slice a t.p.length q]) t ∧ Below w.heap.size w w'
theorem ansd {w w' : World} {x y : Option SP} {e : Ending} (h : AnsC w x y e w') : AnsD w (chooseL x y).1 (chooseL x y).2.1 (chooseL x y).2.2 e w' := by
  obtain ⟨h1, v, rfl, h2⟩ := h
  have h3 := h2
  obtain ⟨a, q, rfl, _⟩ := h2
  exact ⟨a, q, rfl, h3, h1⟩
/-- what both Nexts answer -/
def AnsE (w : World) (t : SP) (er : Int) (e : Ending) (w' : World) : Prop := ∃ a q, e = .returned (.tuple #[.agg #[.int .i64 t.g, .string t.r, .slice a t.p.length q], .int .i64 er]) ∧ SupV w' (.agg #[.int .i64 t.g, .string t.r, .slice a t.p.length q]) t ∧ Below w.heap.size w w'
theorem anse {w w' : World} {o : Option SP} {e : Ending} (h : AnsN w o e w') : AnsE w (o.getD noSP) (nextE o) e w' := by
  obtain ⟨h1, v, rfl, h2⟩ := h
  have h3 := h2.val
  obtain ⟨a, q, rfl, _⟩ := h2
  exact ⟨a, q, rfl, h3, h1⟩
set_option maxHeartbeats 4000000 in
set_option maxRecDepth 100000 in
theorem heads6 (s : SP) (r : ByteArray) (ao bo ko po : Option Addr) (n c na ca nb cb np cp : Nat) (w : World) (h : 1000 < na ∨ na ≤ 1000 ∧ 1000 < nb ∨ na ≤ 1000 ∧ nb ≤ 1000 ∧ 300 < np) :
    Calls Tryd.prog 6 #[.slice ao na ca, .slice bo nb cb, .agg #[.int .i64 s.g, .string s.r, .slice ko n c], .string r, .slice po np cp] w fun e w' => e = .returned (.bool true) ∧ Below w.heap.size w w' := by
  have B0 := Lib.hid (below_alloc' (Below.refl w.heap.size w) (Nat.le_refl _) (.cells #[.int .i64 s.g, .string s.r, .slice ko n c] 25))
  have HD := Lib.hid heads_any
  rcases h with h | ⟨h, h'⟩ | ⟨h, h', h''⟩
  all_goals
    go_enter Tryd.func6, Tryd.ntmps6
    go_wp2_with fail
    refine (HD.out _).mono ?_
    rintro e w1 ⟨rfl, b1⟩
    go_wp2_with fail
    go_ret
    exact ⟨rfl, below_chain B0.out b1⟩
set_option maxHeartbeats 4000000 in
set_option maxRecDepth 100000 in
theorem chooses_in (h18 : N18) (s : SP) (la lb : List UInt8) (p : List Int) (r : ByteArray) (ao bo ko po : Option Addr) (n c na ca nb cb np cp : Nat) (w : World) (hu : SupV w (.agg #[.int .i64 s.g, .string s.r, .slice ko n c]) s) (ha : Byt w ao la) (hla : la.length = na) (hca : na ≤ ca) (hca2 : ca ≤ 9223372036854775807)
    (hb : Byt w bo lb) (hlb : lb.length = nb) (hcb : nb ≤ cb) (hcb2 : cb ≤ 9223372036854775807) (hz : Zrw w po p) (hp : p.length = np) (hcp : np ≤ cp) (hcp2 : cp ≤ 9223372036854775807) (hr : r.size ≤ 9223372036854775807) (h1 : na ≤ 1000) (h2 : nb ≤ 1000) (h3 : np ≤ 300) :
    Calls Tryd.prog 6 #[.slice ao na ca, .slice bo nb cb, .agg #[.int .i64 s.g, .string s.r, .slice ko n c], .string r, .slice po np cp] w fun e w' => e = .returned (.bool true) ∧ Below w.heap.size w w' := by
  have B0 := Lib.hid (below_alloc' (Below.refl w.heap.size w) (Nat.le_refl _) (.cells #[.int .i64 s.g, .string s.r, .slice ko n c] 25))
  have X : Hid (Bxs w (w.alloc (.cells #[.int .i64 s.g, .string s.r, .slice ko n c] 25)) w.heap.size s.g s.r ko n c) := Bxs.blk (w := w) w s.g s.r ko n c
  have HU := Lib.hid (hu.below B0.out)
  have HA := Lib.hid (ha.below B0.out)
  have HB := Lib.hid (hb.below B0.out)
  have HZ := Lib.hid (hz.below B0.out)
  obtain ⟨t, ht⟩ : ∃ t, t = (chooseL (getL la) (getL lb)).1 := ⟨_, rfl⟩
  obtain ⟨ti, hti⟩ : ∃ t, t = (chooseL (getL la) (getL lb)).2.1 := ⟨_, rfl⟩
  obtain ⟨te, hte⟩ : ∃ t, t = (chooseL (getL la) (getL lb)).2.2 := ⟨_, rfl⟩
  obtain ⟨x, hx⟩ : ∃ t, t = (nextL s r p).getD noSP := ⟨_, rfl⟩
  obtain ⟨xe, hxe⟩ : ∃ t, t = nextE (nextL s r p) := ⟨_, rfl⟩
  have C13 := Lib.hid (fun (W : World) (h : Byt W ao la) (h' : Byt W bo lb) => (choose13 ao bo la lb na nb ca cb W h h' hla hlb).mono fun _ _ hh => ansd hh)
  have C16 := Lib.hid (fun (W : World) (h : Byt W ao la) (h' : Byt W bo lb) => (refchoose16 ao bo la lb na nb ca cb W h h' hla hlb hca hcb hca2 hcb2).mono fun _ _ hh => ansd hh)
  have C17 := Lib.hid (fun (W : World) (v : Value) (h : SupV W v s) (h' : Zrw W po p) => (next17 s v r po p np cp W h h' hp (by omega) hr).mono fun _ _ hh => anse hh)
  have C18 := Lib.hid (fun (W : World) (v : Value) (h : SupV W v s) (h' : Zrw W po p) => (h18 s v r po p np cp W h h' hp h3 hcp hcp2 hr).mono fun _ _ hh => anse hh)
  unfold AnsD at C13 C16
  unfold AnsE at C17 C18
  rw [← ht, ← hti, ← hte] at C13 C16
  rw [← hx, ← hxe] at C17 C18
  clear h18 hu ha hb hz hla hlb hca hca2 hcb hcb2 hp hcp hcp2 hr ht hti hte hx hxe
  go_enter Tryd.func6, Tryd.ntmps6
  go_wp2_with fail
  generalize hw0 : w.alloc (.cells #[.int .i64 s.g, .string s.r, .slice ko n c] 25) = w0 at *
  clear hw0
  refine (C13.out _ HA.out HB.out).mono ?_
  rintro e w1 ⟨a1, c1, rfl, sv1, b1⟩
  have Ba1 := below_alloc' (Below.refl w1.heap.size w1) (Nat.le_refl _) (.cells #[.int .i64 t.g, .string t.r, .slice a1 t.p.length c1] 25)
  have bb1 := below_chain b1 Ba1
  have B2 := Lib.hid (below_chain B0.out bb1)
  have X2 := Lib.hid (X.out.low bb1)
  have HU2 := Lib.hid (HU.out.below bb1)
  have HA2 := Lib.hid (HA.out.below bb1)
  have HB2 := Lib.hid (HB.out.below bb1)
  have HZ2 := Lib.hid (HZ.out.below bb1)
  have SV2 := Lib.hid (sv1.below Ba1)
  have Y2 : Hid (Bxs w1 (w1.alloc (.cells #[.int .i64 t.g, .string t.r, .slice a1 t.p.length c1] 25)) w1.heap.size t.g t.r a1 t.p.length c1) := Bxs.blk (w := w1) w1 _ _ _ _ _
  have CC := Lib.hid (C16.out _ HA2.out HB2.out)
  clear sv1 b1 Ba1 bb1 B0 X HU HA HB HZ C13 C16
  go_wp2_with fail
  generalize hw2 : w1.alloc (.cells #[.int .i64 t.g, .string t.r, .slice a1 t.p.length c1] 25) = w2 at *
  clear hw2
  refine CC.out.mono ?_
  rintro e w3 ⟨a3, c3, rfl, sv3, b3⟩
  have Ba3 := below_alloc' (Below.refl w3.heap.size w3) (Nat.le_refl _) (.cells #[.int .i64 t.g, .string t.r, .slice a3 t.p.length c3] 25)
  have bb3 := below_chain b3 Ba3
  have B4 := Lib.hid (below_chain B2.out bb3)
  have X4 := Lib.hid (X2.out.low bb3)
  have HU4 := Lib.hid (HU2.out.below bb3)
  have HZ4 := Lib.hid (HZ2.out.below bb3)
  have SV4 := Lib.hid (SV2.out.below bb3)
  have Y4 := Lib.hid (Y2.out.low bb3)
  have TV4 := Lib.hid (sv3.below Ba3)
  have Z4 : Hid (Bxs w3 (w3.alloc (.cells #[.int .i64 t.g, .string t.r, .slice a3 t.p.length c3] 25)) w3.heap.size t.g t.r a3 t.p.length c3) := Bxs.blk (w := w3) w3 _ _ _ _ _
  have CN := Lib.hid (C17.out _ _ HU4.out HZ4.out)
  have x0 := X4.out.c0
  have x1 := X4.out.c1
  have x2 := X4.out.c2
  clear sv3 b3 Ba3 bb3 B2 X2 HU2 HA2 HB2 HZ2 SV2 Y2 C17 CC
  go_wp2_with fail
  generalize hw4 : w3.alloc (.cells #[.int .i64 t.g, .string t.r, .slice a3 t.p.length c3] 25) = w4 at *
  clear hw4
  refine CN.out.mono ?_
  rintro e w5 ⟨a5, c5, rfl, sv5, b5⟩
  have Ba5 := below_alloc' (Below.refl w5.heap.size w5) (Nat.le_refl _) (.cells #[.int .i64 x.g, .string x.r, .slice a5 x.p.length c5] 25)
  have bb5 := below_chain b5 Ba5
  have B6 := Lib.hid (below_chain B4.out bb5)
  have X6 := Lib.hid (X4.out.low bb5)
  have HU6 := Lib.hid (HU4.out.below bb5)
  have HZ6 := Lib.hid (HZ4.out.below bb5)
  have SV6 := Lib.hid (SV4.out.below bb5)
  have TV6 := Lib.hid (TV4.out.below bb5)
  have Y6 := Lib.hid (Y4.out.low bb5)
  have Z6 := Lib.hid (Z4.out.low bb5)
  have UV6 := Lib.hid (sv5.below Ba5)
  have V6 : Hid (Bxs w5 (w5.alloc (.cells #[.int .i64 x.g, .string x.r, .slice a5 x.p.length c5] 25)) w5.heap.size x.g x.r a5 x.p.length c5) := Bxs.blk (w := w5) w5 _ _ _ _ _
  have CM := Lib.hid (C18.out _ _ HU6.out HZ6.out)
  clear x0 x1 x2
  have x0 := X6.out.c0
  have x1 := X6.out.c1
  have x2 := X6.out.c2
  clear sv5 b5 Ba5 bb5 B4 X4 HU4 HZ4 SV4 TV4 Y4 Z4 C18 CN
  go_wp2_with fail
  generalize hw6 : w5.alloc (.cells #[.int .i64 x.g, .string x.r, .slice a5 x.p.length c5] 25) = w6 at *
  clear hw6
  refine CM.out.mono ?_
  rintro e w7 ⟨a7, c7, rfl, sv7, b7⟩
  have Ba7 := below_alloc' (Below.refl w7.heap.size w7) (Nat.le_refl _) (.cells #[.int .i64 x.g, .string x.r, .slice a7 x.p.length c7] 25)
  have bb7 := below_chain b7 Ba7
  have B8 := Lib.hid (below_chain B6.out bb7)
  have SV8 := Lib.hid (SV6.out.below bb7)
  have TV8 := Lib.hid (TV6.out.below bb7)
  have UV8 := Lib.hid (UV6.out.below bb7)
  have Y8 := Lib.hid (Y6.out.low bb7)
  have Z8 := Lib.hid (Z6.out.low bb7)
  have V8 := Lib.hid (V6.out.low bb7)
  have WV8 := Lib.hid (sv7.below Ba7)
  have R8 : Hid (Bxs w7 (w7.alloc (.cells #[.int .i64 x.g, .string x.r, .slice a7 x.p.length c7] 25)) w7.heap.size x.g x.r a7 x.p.length c7) := Bxs.blk (w := w7) w7 _ _ _ _ _
  clear x0 x1 x2
  have CS := Lib.hid (same10 _ _ _ _ _ SV8.out TV8.out)
  rw [same_self] at CS
  have y0 := Y8.out.c0
  have y1 := Y8.out.c1
  have y2 := Y8.out.c2
  have z0 := Z8.out.c0
  have z1 := Z8.out.c1
  have z2 := Z8.out.c2
  clear sv7 b7 Ba7 bb7 B6 X6 HU6 HZ6 SV6 TV6 UV6 Y6 Z6 V6 CM
  go_wp2_with fail
  generalize hw8 : w7.alloc (.cells #[.int .i64 x.g, .string x.r, .slice a7 x.p.length c7] 25) = w8 at *
  clear hw8
  clear y0 y1 y2 z0 z1 z2
  refine CS.out.mono ?_
  rintro e w9 ⟨rfl, b9⟩
  have B9 := Lib.hid (below_chain B8.out b9)
  have V9 := Lib.hid (V8.out.low b9)
  have R9 := Lib.hid (R8.out.low b9)
  have CT := Lib.hid (same10 _ _ _ _ _ (UV8.out.below b9) (WV8.out.below b9))
  rw [same_self] at CT
  have v0 := V9.out.c0
  have v1 := V9.out.c1
  have v2 := V9.out.c2
  have r0 := R9.out.c0
  have r1 := R9.out.c1
  have r2 := R9.out.c2
  clear b9 CS B8 SV8 TV8 UV8 WV8 Y8 Z8 V8 R8
  go_wp2_with fail
  refine CT.out.mono ?_
  rintro e w10 ⟨rfl, b10⟩
  have B10 := Lib.hid (below_chain B9.out b10)
  have CH := Lib.hid (heads_any w10)
  clear b10 CT V9 R9 v0 v1 v2 r0 r1 r2 B9
  go_wp2_with fail
  refine CH.out.mono ?_
  rintro e w11 ⟨rfl, b11⟩
  go_wp2_with fail
  go_ret
  exact ⟨rfl, below_chain B10.out b11⟩
theorem chooses6 (h18 : N18) (s : SP) (u : Value) (la lb : List UInt8) (p : List Int) (r : ByteArray) (ao bo po : Option Addr) (na ca nb cb np cp : Nat) (w : World) (hu : SupV w u s) (ha : Byt w ao la) (hla : la.length = na) (hca : na ≤ ca) (hca2 : ca ≤ 9223372036854775807)
    (hb : Byt w bo lb) (hlb : lb.length = nb) (hcb : nb ≤ cb) (hcb2 : cb ≤ 9223372036854775807) (hz : Zrw w po p) (hp : p.length = np) (hcp : np ≤ cp) (hcp2 : cp ≤ 9223372036854775807) (hr : r.size ≤ 9223372036854775807) :
    Calls Tryd.prog 6 #[.slice ao na ca, .slice bo nb cb, u, .string r, .slice po np cp] w fun e w' => e = .returned (.bool true) ∧ Below w.heap.size w w' := by
  have ku := hu
  obtain ⟨ko, c, rfl, _⟩ := hu
  by_cases h1 : na ≤ 1000
  · by_cases h2 : nb ≤ 1000
    · by_cases h3 : np ≤ 300
      · exact chooses_in h18 s la lb p r ao bo ko po _ c na ca nb cb np cp w ku ha hla hca hca2 hb hlb hcb hcb2 hz hp hcp hcp2 hr h1 h2 h3
      · exact heads6 s r ao bo ko po _ c na ca nb cb np cp w (.inr (.inr ⟨h1, h2, by omega⟩))
    · exact heads6 s r ao bo ko po _ c na ca nb cb np cp w (.inr (.inl ⟨h1, by omega⟩))
  · exact heads6 s r ao bo ko po _ c na ca nb cb np cp w (.inl (by omega))
end Go.Proofs.YtlpbkjonicjccaaDoor.Sh
