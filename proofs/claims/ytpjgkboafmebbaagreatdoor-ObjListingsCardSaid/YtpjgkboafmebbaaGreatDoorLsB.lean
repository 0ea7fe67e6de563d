/-
  THE STATEMENT ObjListings (P8.1, P8.3): of every listing, which bytes it is, and of all bytes, which listing they are, as the document has it; what came in reads behind the call as before.
  Conditions: none but what the row lists.
-/
import Derived.Test.YtpjgkboafmebbaaGreatDoorLsA
import Derived.Test.YtpjgkboafmebbaaGreatDoorOu
import Derived.Test.YtpjgkboafmebbaaGreatDoorCards
import Derived.Test.YtpjgkboafmebbaaGreatDoorWl
import Derived.Test.YtpjgkboafmebbaaGreatDoorOs
namespace Go.Proofs.YtpjgkboafmebbaaGreatDoor.Sh
open Go.RowKit Go.Lib Lb
/-- an answer of a Put, whichever -/
def PutZ (w : World) (l : List UInt8) (n : Int) (e : Ending) (w' : World) : Prop :=
  Below w.heap.size w w' ∧ ∃ a c, e = .returned (.tuple #[.slice a l.length c, .int .i64 n]) ∧ Byt w' a l ∧ (a = none → c = 0)
open Classical in
theorem putZ_of {w : World} {ok : Prop} {l : List UInt8} {e : Ending} {w' : World} (h : PutR w ok l e w') : PutZ w (if ok then l else []) (if ok then 0 else 80) e w' := by
  by_cases hk : ok
  · rw [if_pos hk, if_pos hk]
    obtain ⟨hb, a, c, rfl, _, _, h3, h4⟩ := putR_ok h hk
    exact ⟨hb, a, c, rfl, h3, h4⟩
  · rw [if_neg hk, if_neg hk]
    obtain ⟨hb, rfl⟩ := putR_no h hk
    exact ⟨hb, none, 0, rfl, fun h => absurd rfl h, fun _ => rfl⟩
open Classical in
theorem putZ_gives {w : World} {ok : Prop} {l : List UInt8} {e : Ending} {w' : World} (h : Gives w ok l 80 e w') : PutZ w (if ok then l else []) (if ok then 0 else 80) e w' := by
  obtain ⟨hb, ⟨hk, v, rfl, ho⟩ | ⟨hk, rfl⟩⟩ := h
  · rw [if_pos hk, if_pos hk]
    obtain ⟨a, c, rfl, _, _, h3, h4⟩ := own_byt ho
    exact ⟨hb, a, c, rfl, h3, h4⟩
  · rw [if_neg hk, if_neg hk]
    exact ⟨hb, none, 0, rfl, fun h => absurd rfl h, fun _ => rfl⟩
/-- an answer of a listing's reader, whichever -/
def GetLS (w : World) (o : Bool) (A : List ByteArray) (K : List Int) (n : Int) (e : Ending) (w' : World) : Prop :=
  Below w.heap.size w w' ∧ ∃ a c b d, e = .returned (.tuple #[.agg #[.bool o, .slice a A.length c, .slice b K.length d], .int .i64 n]) ∧ Srw w' a A ∧ A.length ≤ c ∧ c ≤ 9223372036854775807 ∧ Zrw w' b K ∧ K.length ≤ d ∧ d ≤ 9223372036854775807
def numL8 (o : Option ListP) : Int := match o with | none => 80 | some _ => 0
def opqL (o : Option ListP) : Bool := match o with | none => false | some x => x.opq
def namesL (o : Option ListP) : List ByteArray := match o with | none => [] | some x => x.names
def numsL (o : Option ListP) : List Int := match o with | none => [] | some x => x.nums
theorem zrw_nil' (w : World) (a : Option Addr) : Zrw w a [] := fun h => absurd rfl h
theorem getLS_of {w : World} {o : Option ListP} {e : Ending} {w' : World} (h : GetR w (.agg #[.bool false, .slice none 0 0, .slice none 0 0]) (VList w.heap.size) o e w') : GetLS w (opqL o) (namesL o) (numsL o) (numL8 o) e w' := by
  obtain ⟨hb, ⟨rfl, rfl⟩ | ⟨x, v, rfl, rfl, u, t, rfl, hu, ht⟩⟩ := h
  · exact ⟨hb, none, 0, none, 0, rfl, srw_nil _ _, Nat.le_refl _, by omega, zrw_nil' _ _, Nat.le_refl _, by omega⟩
  · obtain ⟨ao, c, rfl, h1, h2, _, h3⟩ := ownG_srw hu
    obtain ⟨bo, d, rfl, k1, k2, _, k3⟩ := ownG_zrw ht
    exact ⟨hb, ao, c, bo, d, rfl, h3, h1, h2, k3, k1, k2⟩
theorem getLS_ref {w : World} {l : List UInt8} {e : Ending} {w' : World} (h : GetsList w l e w') : GetLS w (opqL (getList ltB nameOk l)) (namesL (getList ltB nameOk l)) (numsL (getList ltB nameOk l)) (numL8 (getList ltB nameOk l)) e w' := by
  obtain ⟨hb, ⟨ho, rfl⟩ | ⟨x, u, v, ho, rfl, hu, ht⟩⟩ := h
  · rw [ho]
    exact ⟨hb, none, 0, none, 0, rfl, srw_nil _ _, Nat.le_refl _, by omega, zrw_nil' _ _, Nat.le_refl _, by omega⟩
  · rw [ho]
    obtain ⟨ao, c, rfl, h1, h2, _, h3⟩ := ownG_srw hu
    obtain ⟨bo, d, rfl, k1, k2, _, k3⟩ := ownG_zrw ht
    exact ⟨hb, ao, c, bo, d, rfl, h3, h1, h2, k3, k1, k2⟩
set_option maxHeartbeats 16000000 in
set_option maxRecDepth 100000 in
open Classical in
theorem listings_any (o : Bool) (sv zv : Option Addr) (sn sc zn zc : Nat) (ls : List ByteArray) (lz : List Int) (ao : Option Addr) (c : Nat) (l : List UInt8) (w : World)
    (hs : Srw w sv ls) (hls : ls.length = sn) (hsc : sn ≤ sc) (hscc : sc ≤ 9223372036854775807) (hz : Zrw w zv lz) (hlz : lz.length = zn) (hzc : zn ≤ zc) (hzcc : zc ≤ 9223372036854775807)
    (hb : Byt w ao l) (hn : ao = none → c = 0) (hc : l.length ≤ c) (hm : c ≤ 9223372036854775807) (hf : ∀ a, ao = some a → a.block < w.heap.size) (he : ErrT w) :
    Calls Tryz.prog 6 #[.agg #[.bool o, .slice sv sn sc, .slice zv zn zc], .slice ao l.length c] w
      fun e w' => e = .returned (.bool true) ∧ Below w.heap.size w w' := by
  have HD := Lib.hid (fun W (h : Below w.heap.size w W) => heads_any W (he.below h))
  have HB : Hid (Below w.heap.size w (w.alloc (.cells #[.bool o, .slice sv sn sc, .slice zv zn zc] 30))) := (Below.refl _ w).alloc (Nat.le_refl _) _
  have KM : Hid (Blk (w.alloc (.cells #[.bool o, .slice sv sn sc, .slice zv zn zc] 30)) w.heap.size [.bool o, .slice sv sn sc, .slice zv zn zc] 30) := Blk.new w [.bool o, .slice sv sn sc, .slice zv zn zc] 30 _ rfl
  by_cases h5 : l.length ≤ 40000
  · have C1 := Lib.hid (fun W (h : Below w.heap.size w W) => (oputlisting_any o sv zv sn sc zn zc ls lz W (hz.below h) hlz hzc hzcc (hs.below h) hls hsc hscc).mono fun e w' => putZ_of)
    have C2 := Lib.hid (fun W (h : Below w.heap.size w W) => (refputlisting_any o sv zv ls lz sn sc zn zc W (hs.below h) hls hsc hscc (hz.below h) hlz hzc hzcc).mono fun e w' => putZ_gives)
    have C3 := Lib.hid (fun W (h : Below w.heap.size w W) => (oget_listing ao l.length c l W (hb.below h) hn rfl hc hm (by omega) (fun a ha => Nat.lt_of_lt_of_le (hf a ha) h.size) (he.below h)).mono fun e w' => getLS_of)
    have C4 := Lib.hid (fun W (h : Below w.heap.size w W) => (getlisting_any ao l l.length c W (hb.below h) hn rfl hc hm (by omega) (fun a ha => Nat.lt_of_lt_of_le (hf a ha) h.size)).mono fun e w' => getLS_ref)
    generalize (if OkList ltB nameOk ⟨o, ls, lz⟩ then listL ⟨o, ls, lz⟩ else []) = L1 at C1 C2
    generalize (if OkList ltB nameOk ⟨o, ls, lz⟩ then (0 : Int) else 80) = N1 at C1 C2
    generalize opqL (getList ltB nameOk l) = O at C3 C4
    generalize namesL (getList ltB nameOk l) = A at C3 C4
    generalize numsL (getList ltB nameOk l) = K at C3 C4
    generalize numL8 (getList ltB nameOk l) = N2 at C3 C4
    have d1 : decide ((40000 : Int) < (l.length : Int)) = false := decide_eq_false (by omega)
    have d2 : decide ((40000 : Nat) < l.length) = false := decide_eq_false (by omega)
    clear hb hn hc hm hf he hz hlz hzc hzcc hs hls hsc hscc
    have z0 := KM.out.cell 0
    have z1 := KM.out.cell 1
    have z2 := KM.out.cell 2
    simp only [List.getElem?_cons_zero, List.getElem?_cons_succ] at z0 z1 z2
    go_enter Tryz.func6, Tryz.ntmps6
    go_wp2_with fail
    refine (C1.out _ HB.out).mono ?_
    rintro e wq ⟨hb, a1, c1, rfl, y, z⟩
    clear C1
    replace HB := Lib.hid (below_chain HB.out hb)
    replace KM := Lib.hid (KM.out.low hb)
    have Y1 := Lib.hid y
    have Z1 := Lib.hid z
    clear y z hb
    clear z0 z1 z2
    have z0 := KM.out.cell 0
    have z1 := KM.out.cell 1
    have z2 := KM.out.cell 2
    simp only [List.getElem?_cons_zero, List.getElem?_cons_succ] at z0 z1 z2
    go_wp2_with fail
    refine (C2.out _ HB.out).mono ?_
    rintro e wq ⟨hb, a2, c2, rfl, y, z⟩
    clear C2
    replace HB := Lib.hid (below_chain HB.out hb)
    replace KM := Lib.hid (KM.out.low hb)
    replace Y1 := Lib.hid (Y1.out.below hb)
    have Y2 := Lib.hid y
    have Z2 := Lib.hid z
    clear y z hb
    clear z0 z1 z2
    go_wp2_with fail
    refine (C3.out _ HB.out).mono ?_
    rintro e wq ⟨hb, a3, c3, b3, d3, rfl, z, z2, z3, k, k2, k3⟩
    clear C3
    replace HB := Lib.hid (below_chain HB.out hb)
    replace KM := Lib.hid (KM.out.low hb)
    replace Y1 := Lib.hid (Y1.out.below hb)
    replace Y2 := Lib.hid (Y2.out.below hb)
    have S3 := Lib.hid z
    have s23 := z2
    have s33 := z3
    clear z z2 z3
    have Q3 := Lib.hid k
    have k23 := k2
    have k33 := k3
    clear k k2 k3 hb
    obtain ⟨g3, hg3⟩ : ∃ g, g = wq.heap.size := ⟨_, rfl⟩
    obtain ⟨wr, hwr⟩ : ∃ x, x = wq.alloc (.cells #[.bool O, .slice a3 A.length c3, .slice b3 K.length d3] 30) := ⟨_, rfl⟩
    have hb : Below wq.heap.size wq wr := by rw [hwr]; exact (Below.refl _ wq).alloc (Nat.le_refl _) _
    have KB3 : Hid (Blk wr g3 [.bool O, .slice a3 A.length c3, .slice b3 K.length d3] 30) := by show Blk _ _ _ _; rw [hwr]; exact Blk.new wq [.bool O, .slice a3 A.length c3, .slice b3 K.length d3] 30 _ hg3
    replace HB := Lib.hid (below_chain HB.out hb)
    replace KM := Lib.hid (KM.out.low hb)
    replace Y1 := Lib.hid (Y1.out.below hb)
    replace Y2 := Lib.hid (Y2.out.below hb)
    replace S3 := Lib.hid (S3.out.below hb)
    replace Q3 := Lib.hid (Q3.out.below hb)
    clear hb
    go_wp2_with fail
    rw [← hwr, ← hg3]
    clear hwr hg3
    refine (C4.out _ HB.out).mono ?_
    rintro e wq ⟨hb, a4, c4, b4, d4, rfl, z, z2, z3, k, k2, k3⟩
    clear C4
    replace HB := Lib.hid (below_chain HB.out hb)
    replace KM := Lib.hid (KM.out.low hb)
    replace Y1 := Lib.hid (Y1.out.below hb)
    replace Y2 := Lib.hid (Y2.out.below hb)
    replace S3 := Lib.hid (S3.out.below hb)
    replace Q3 := Lib.hid (Q3.out.below hb)
    replace KB3 := Lib.hid (KB3.out.low hb)
    have S4 := Lib.hid z
    have s24 := z2
    have s34 := z3
    clear z z2 z3
    have Q4 := Lib.hid k
    have k24 := k2
    have k34 := k3
    clear k k2 k3 hb
    obtain ⟨g4, hg4⟩ : ∃ g, g = wq.heap.size := ⟨_, rfl⟩
    obtain ⟨wr, hwr⟩ : ∃ x, x = wq.alloc (.cells #[.bool O, .slice a4 A.length c4, .slice b4 K.length d4] 30) := ⟨_, rfl⟩
    have hb : Below wq.heap.size wq wr := by rw [hwr]; exact (Below.refl _ wq).alloc (Nat.le_refl _) _
    have KB4 : Hid (Blk wr g4 [.bool O, .slice a4 A.length c4, .slice b4 K.length d4] 30) := by show Blk _ _ _ _; rw [hwr]; exact Blk.new wq [.bool O, .slice a4 A.length c4, .slice b4 K.length d4] 30 _ hg4
    replace HB := Lib.hid (below_chain HB.out hb)
    replace KM := Lib.hid (KM.out.low hb)
    replace Y1 := Lib.hid (Y1.out.below hb)
    replace Y2 := Lib.hid (Y2.out.below hb)
    replace S3 := Lib.hid (S3.out.below hb)
    replace Q3 := Lib.hid (Q3.out.below hb)
    replace KB3 := Lib.hid (KB3.out.low hb)
    replace S4 := Lib.hid (S4.out.below hb)
    replace Q4 := Lib.hid (Q4.out.below hb)
    clear hb
    have SA := Lib.hid (same_any a1 a2 L1 L1 c1 c2 wr Y1.out Y2.out Z1.out Z2.out)
    go_wp2_with fail
    rw [← hwr, ← hg4]
    clear hwr hg4
    refine SA.out.mono ?_
    clear SA
    rintro e wq ⟨rfl, rfl⟩
    simp only [decide_true]
    have z0 := KB3.out.cell 0
    have z1 := KB3.out.cell 1
    have z2 := KB3.out.cell 2
    have z3 := KB4.out.cell 0
    have z4 := KB4.out.cell 1
    have z5 := KB4.out.cell 2
    simp only [List.getElem?_cons_zero, List.getElem?_cons_succ] at z0 z1 z2 z3 z4 z5
    have SB := Lib.hid (listings_same O a3 a4 b3 b4 A K A.length c3 c4 K.length d3 d4 wr S3.out S4.out rfl s23 s33 s24 Q3.out Q4.out rfl k23 k33 k24)
    go_wp2_with fail
    refine SB.out.mono ?_
    clear SB
    rintro e wq ⟨rfl, hb⟩
    replace HB := Lib.hid (below_chain HB.out hb)
    clear hb z0 z1 z2 z3 z4 z5
    go_wp2_with fail
    refine (HD.out _ HB.out).mono ?_
    rintro e wz ⟨rfl, hz⟩
    have hz2 := below_chain HB.out hz
    go_wp2_with fail
    go_ret
    exact ⟨rfl, hz2⟩
  · have d1 : decide ((40000 : Int) < (l.length : Int)) = true := decide_eq_true (by omega)
    have d2 : decide ((40000 : Nat) < l.length) = true := decide_eq_true (by omega)
    clear hb hn hc hm hf he hz hlz hzc hzcc hs hls hsc hscc
    go_enter Tryz.func6, Tryz.ntmps6
    go_wp2_with fail
    refine (HD.out _ HB.out).mono ?_
    rintro e wz ⟨rfl, hz⟩
    have hz2 := below_chain HB.out hz
    go_wp2_with fail
    go_ret
    exact ⟨rfl, hz2⟩
end Go.Proofs.YtpjgkboafmebbaaGreatDoor.Sh
namespace Go.Proofs.YtpjgkboafmebbaaGreatDoor
namespace Sh
open Go.ChangeShapes Go.WideShapes Go.ChangeAt Go.RowKit Go.Lib Go.ChangeMaps

set_option maxRecDepth 100000 in
/-- WHAT THE WALK GIVES, for every argument and every memory that meets the row. -/
theorem objListings_contract (H : Type) (enc : TypeId × Value → H) (W : World) (base : Nat) (args : Array Value) (ds gs : List (DataW H)) (before : List MemPlace)
    (hval : ∀ (j : Nat) t v, Tryz.f6.params[j]? = some t → args[j]? = some v → Value.okWide Tryz.prog W .any base t v)
    (hW : DataW.Whole enc Tryz.prog Tryz.f6.params.toList Rows.objListingsSpec.vars false W args.toList ds gs before) 
    (hsz0 : (DataW.weightsEach Tryz.prog (Tryz.f6.params.toList ++ (OpenSpec.ofChange Rows.objListingsSpec).bare.plain.varTypes Tryz.prog) (ds ++ gs)).all (· ≤ reachBytes) = true) (hL : laidMetH Tryz.prog Rows.objListingsRow.laid W) :
    Calls Tryz.prog 6 args W fun e W' => ∃ v, e = .returned v ∧ Rows.objListingsSpec.post enc Tryz.prog Tryz.f6 false true false false W args v W' := by
  have hsz := hsz0
  clear hsz0
  have hW' := hW
  obtain ⟨p, q, hA0, hV, rfl, hfz, hnd⟩ := hW
  have hA : DataW.TrodAll enc Tryz.prog W 0 (fun _ => true) true Tryz.f6.params.toList args.toList ds p := hA0
  have hAk := hA
  clear hA0
  rw [Tryz.params6] at hA hval hsz
  obtain ⟨rfl, rfl⟩ := trodVars_none hV
  simp only [List.append_nil] at hW' hsz
  have hlt : ∀ x ∈ p, x.block < W.heap.size := fun x hx => by simpa using hW'.lt x hx
  obtain ⟨v0, vs0, d0, ds0, p0, q0, hargs, rfl, hp0, h0, r0⟩ := trodAll_cons hA
  obtain ⟨v1, vs1, d1, ds1, p1, q1, rfl, rfl, hp1, h1, r1⟩ := trodAll_cons r0
  obtain ⟨rfl, rfl, hpn⟩ := trodAll_nil r1
  obtain rfl : args = #[v0, v1] := by cases args; simp_all
  have hlt0 : ∀ x ∈ p0, x.block < W.heap.size := fun x hx => hlt x (by rw [hp0]; exact List.mem_append_left _ hx)
  have hltq0 : ∀ x ∈ q0, x.block < W.heap.size := fun x hx => hlt x (by rw [hp0]; exact List.mem_append_right _ hx)
  have hlt1 : ∀ x ∈ p1, x.block < W.heap.size := fun x hx => hltq0 x (by rw [hp1]; exact List.mem_append_left _ hx)
  have hltq1 : ∀ x ∈ q1, x.block < W.heap.size := fun x hx => hltq0 x (by rw [hp1]; exact List.mem_append_right _ hx)
  obtain ⟨xo, xsv, xls, xsc, xzv, xlz, xzc, rfl, xS, xS1, xS2, xZ, xZ1, xZ2⟩ := open_listing (hval 0 30 v0 rfl rfl) h0 hlt0
  obtain ⟨al, l, cl, rfl, hlc, hlm, hlr, hln, e1⟩ := open_byt Tryz.underlying36 Tryz.underlying5 cells5 (hval 1 36 v1 rfl rfl) h1 hlt1
  have hlz := reach_byt hsz (j := 1) (d := d1) rfl rfl e1
  refine (listings_any xo xsv xzv _ xsc _ xzc xls xlz al cl l W xS rfl xS1 xS2 xZ rfl xZ1 xZ2 hlr hln hlc hlm (okWide_far Tryz.underlying36 (hval 1 36 _ rfl rfl)) (errT_of hL)).mono fun e W' ⟨he, hb⟩ => ?_
  subst he
  exact ⟨_, rfl, _, _, _, [], p, [], hW', trodAll_mk1 (shut_bool Tryz.underlying4 _), below_trodAll laidOut hb _ _ _ _ (by kernel_rfl) hAk hlt, rfl, hb.frame _, fun h => by cases h⟩

theorem objListings_reads (os : Os) {H : Type} (enc : TypeId × Value → H) : ∃ places, DataW.whole enc Tryz.prog ((laidWorld os).forCall (fun _ _ => 0) ⟨#[], #[.agg #[.bool false, .slice none 0 0, .slice none 0 0], .slice none 0 0], []⟩).memory Tryz.f6.params.toList Rows.objListingsSpec.vars false (#[Value.agg #[.bool false, .slice none 0 0, .slice none 0 0], Value.slice none 0 0] : Array Value).toList 8 = some ([.agg [.lit (.bool false), .nil, .nil], .nil], [], places) :=
  ⟨[], by kernel_rfl⟩

set_option maxRecDepth 100000 in
theorem objListings_lifted (os : Os) (started : os.Started) (H : Type) (enc : TypeId × Value → H) (F : Stop.Interp) :
    ReturnsInHanded {} Tryz.checked os 6 .any ((OpenSpec.ofChange Rows.objListingsSpec).preRow enc Tryz.prog Tryz.f6 Rows.objListingsRow.domain false Rows.objListingsRow.laid) (((OpenSpec.ofChange Rows.objListingsSpec).at F).post enc Tryz.prog Tryz.f6 false true false false) := by
  obtain ⟨places, hx⟩ := objListings_reads os enc
  refine returnsInHanded_of_row (C := Tryz.checked) (s := OpenSpec.ofChange Rows.objListingsSpec) own started (by kernel_rfl) Tryz.func6 ?_ ?_
  · refine ⟨laidWorld os, fun _ _ => 0, ⟨#[], #[.agg #[.bool false, .slice none 0 0, .slice none 0 0], .slice none 0 0], []⟩, laidWorld_os os, laidWorld_shaped os _, rfl, (Input.okWide_of_okWideB (by kernel_rfl)).2, ?_, ?_⟩
    · exact OpenSpec.preRow_of_cond 8 hx (by kernel_rfl) (fun k hk => by cases hk) (by kernel_rfl) (laidWorld_met os _)
    · simp only [Assume.holds]
      exact ⟨by simp, by simp, fun _ => Modest.zero, by simp, by simp⟩
  intro W base args ds gs before hval hW _ _ hsz hL hsh _
  exact objListings_contract H enc W base args ds gs before hval hW hsz hL

theorem objListings_said : Rows.ObjListingsSaid :=
  OpenClaim.holds_of_cond 6 Tryz.f6 rfl rfl rfl rfl rfl rfl rfl ⟨rfl, rfl, rfl, rfl, rfl⟩ rfl rfl rfl rfl rfl (by kernel_rfl) Tryz.func6 (by kernel_rfl)
    (of_decide_eq_true (by kernel_rfl)) (by unfold Func.isWrapper; first | (rw [if_pos (by decide +kernel)]; kernel_rfl) | (rw [if_neg (by decide +kernel)]; exact ⟨rfl, rfl⟩))
    (fun os started H enc _ F => by rw [OpenClaim.pre_eq_preRow]; exact objListings_lifted os started H enc F)
end Sh
theorem objListings_plain (f : FuncId) (fn : Func) (hf : Tryz.pinned.checked.prog.funcNamed Rows.objListingsRow.func = some f) (hfn : Tryz.pinned.checked.prog.funcs[f]? = some fn) :
    true = Tryz.pinned.checked.prog.looks [] ∧ ∀ (j : Nat) t, fn.params[j]? = some t → Tryz.pinned.checked.prog.wantsStandIn t = false := by
  obtain rfl : f = 6 := Option.some.inj ((show Tryz.prog.funcNamed Rows.objListingsRow.func = some 6 by kernel_rfl).symm.trans hf) |>.symm
  obtain rfl : fn = Tryz.f6 := (Option.some.inj (Tryz.func6.symm.trans hfn)).symm
  refine ⟨by kernel_rfl, fun j t ht => ?_⟩
  rw [Tryz.params6] at ht
  have hm : t ∈ [30, 36] := by simpa using Array.mem_of_getElem? ht
  have hall : ([30, 36].all fun u => !Tryz.prog.wantsStandIn u) = true := by kernel_rfl
  exact (show Tryz.prog.wantsStandIn t = false by simpa using List.all_eq_true.1 hall t hm)
/-- THE STATEMENT. -/
theorem objListings_card : Rows.ObjListingsCardSaid :=
  Claim7.holds_tied_plain_at .later [] _ _ _ _ Sh.objListings_said (fun _ h => by cases h) (by kernel_rfl) (fun _ h => by cases h) objListings_row_tie rfl ⟨rfl, rfl⟩ (by kernel_rfl) rfl objListings_plain (by kernel_rfl)
end Go.Proofs.YtpjgkboafmebbaaGreatDoor
