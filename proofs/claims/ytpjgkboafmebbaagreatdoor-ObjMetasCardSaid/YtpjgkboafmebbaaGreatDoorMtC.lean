/-
  THE STATEMENT ObjMetas (P8.1, P8.2): of every node, which bytes it is, and of all bytes, which node they are, as the document has it; what came in reads behind the call as before.
  Conditions: none but what the row lists.
-/
import Derived.Test.YtpjgkboafmebbaaGreatDoorMtB
import Derived.Test.YtpjgkboafmebbaaGreatDoorOt
import Derived.Test.YtpjgkboafmebbaaGreatDoorCards
import Derived.Test.YtpjgkboafmebbaaGreatDoorWl
import Derived.Test.YtpjgkboafmebbaaGreatDoorOs
namespace Go.Proofs.YtpjgkboafmebbaaGreatDoor.Sh
open Go.RowKit Go.Lib Lb
/-- an answer of a Put, whichever -/
def PutY (w : World) (l : List UInt8) (n : Int) (e : Ending) (w' : World) : Prop :=
  Below w.heap.size w w' ∧ ∃ a c, e = .returned (.tuple #[.slice a l.length c, .int .i64 n]) ∧ Byt w' a l ∧ (a = none → c = 0)
open Classical in
theorem putY_of {w : World} {ok : Prop} {l : List UInt8} {e : Ending} {w' : World} (h : PutR w ok l e w') : PutY w (if ok then l else []) (if ok then 0 else 80) e w' := by
  by_cases hk : ok
  · rw [if_pos hk, if_pos hk]
    obtain ⟨hb, a, c, rfl, _, _, h3, h4⟩ := putR_ok h hk
    exact ⟨hb, a, c, rfl, h3, h4⟩
  · rw [if_neg hk, if_neg hk]
    obtain ⟨hb, rfl⟩ := putR_no h hk
    exact ⟨hb, none, 0, rfl, fun h => absurd rfl h, fun _ => rfl⟩
open Classical in
theorem putY_gives {w : World} {ok : Prop} {l : List UInt8} {e : Ending} {w' : World} (h : Gives w ok l 80 e w') : PutY w (if ok then l else []) (if ok then 0 else 80) e w' := by
  obtain ⟨hb, ⟨hk, v, rfl, ho⟩ | ⟨hk, rfl⟩⟩ := h
  · rw [if_pos hk, if_pos hk]
    obtain ⟨a, c, rfl, _, _, h3, h4⟩ := own_byt ho
    exact ⟨hb, a, c, rfl, h3, h4⟩
  · rw [if_neg hk, if_neg hk]
    exact ⟨hb, none, 0, rfl, fun h => absurd rfl h, fun _ => rfl⟩
/-- an answer of a node's reader, whichever -/
def GetMS (w : World) (k a b d : Int) (t : ByteArray) (A : List (ByteArray × List UInt8)) (K : List RefP) (n : Int) (e : Ending) (w' : World) : Prop :=
  Below w.heap.size w w' ∧ ∃ q c p f, e = .returned (.tuple #[.agg #[.int .i64 k, .int .i64 a, .int .i64 b, .int .i64 d, .string t, .slice q A.length c, .slice p K.length f], .int .i64 n]) ∧ Arw w' q A ∧ A.length ≤ c ∧ c ≤ 9223372036854775807 ∧ Rrw w' p K ∧ K.length ≤ f ∧ f ≤ 9223372036854775807
def zeroM : MetaP := ⟨0, 0, 0, 0, ⟨#[]⟩, [], []⟩
def metaO (o : Option MetaP) : MetaP := match o with | none => zeroM | some x => x
def errO (o : Option MetaP) : Int := match o with | none => 80 | some _ => 0
theorem arw_nil (w : World) (a : Option Addr) : Arw w a [] := fun h => absurd rfl h
theorem rrw_nil (w : World) (a : Option Addr) : Rrw w a [] := fun h => absurd rfl h
theorem getMS_of {w : World} {l : List UInt8} {e : Ending} {w' : World} (h : GetR w (.agg #[.int .i64 0, .int .i64 0, .int .i64 0, .int .i64 0, .string ⟨#[]⟩, .slice none 0 0, .slice none 0 0]) (VMeta w.heap.size) (getMeta ltB nameOk l) e w') :
    GetMS w (metaO (getMeta ltB nameOk l)).kind (metaO (getMeta ltB nameOk l)).mode (metaO (getMeta ltB nameOk l)).links (metaO (getMeta ltB nameOk l)).size (metaO (getMeta ltB nameOk l)).target (metaO (getMeta ltB nameOk l)).attrs (metaO (getMeta ltB nameOk l)).refs (errO (getMeta ltB nameOk l)) e w' := by
  obtain ⟨hb, ⟨ho, rfl⟩ | ⟨x, v, ho, rfl, u, t, rfl, hu, ht⟩⟩ := h
  · rw [ho]
    exact ⟨hb, none, 0, none, 0, rfl, arw_nil _ _, Nat.le_refl _, by omega, rrw_nil _ _, Nat.le_refl _, by omega⟩
  · have hk := ((getMeta_iff ltB nameOk nameOk_len l x).1 ho).1
    rw [ho]
    obtain ⟨ao, c, rfl, h1, h2, _, h3⟩ := ownA_arw hu (fun a ha => by have := nameOk_len _ (hk.names a ha); have e : a.1.size = a.1.data.toList.length := Array.length_toList.symm
                                                                      omega)
    obtain ⟨bo, d, rfl, k1, k2, _, k3⟩ := ownG_rrw ht (fun r hr => okRef_size (hk.refs r hr))
    exact ⟨hb, ao, c, bo, d, rfl, h3, h1, h2, k3, k1, k2⟩
theorem getMS_ref {w : World} {l : List UInt8} {e : Ending} {w' : World} (h : GetsMeta w l e w') :
    GetMS w (metaO (getMeta ltB nameOk l)).kind (metaO (getMeta ltB nameOk l)).mode (metaO (getMeta ltB nameOk l)).links (metaO (getMeta ltB nameOk l)).size (metaO (getMeta ltB nameOk l)).target (metaO (getMeta ltB nameOk l)).attrs (metaO (getMeta ltB nameOk l)).refs (errO (getMeta ltB nameOk l)) e w' := by
  obtain ⟨hb, ⟨ho, rfl⟩ | ⟨x, u, t, ho, rfl, hu, ht⟩⟩ := h
  · rw [ho]
    exact ⟨hb, none, 0, none, 0, rfl, arw_nil _ _, Nat.le_refl _, by omega, rrw_nil _ _, Nat.le_refl _, by omega⟩
  · have hk := ((getMeta_iff ltB nameOk nameOk_len l x).1 ho).1
    rw [ho]
    obtain ⟨ao, c, rfl, h1, h2, _, h3⟩ := ownA_arw hu (fun a ha => by have := nameOk_len _ (hk.names a ha); have e : a.1.size = a.1.data.toList.length := Array.length_toList.symm
                                                                      omega)
    obtain ⟨bo, d, rfl, k1, k2, _, k3⟩ := ownG_rrw ht (fun r hr => okRef_size (hk.refs r hr))
    exact ⟨hb, ao, c, bo, d, rfl, h3, h1, h2, k3, k1, k2⟩
set_option maxHeartbeats 16000000 in
set_option maxRecDepth 100000 in
open Classical in
theorem metas_any (k a b d : Int) (t : ByteArray) (av rv : Option Addr) (an ac rn rc : Nat) (la : List (ByteArray × List UInt8)) (lr : List RefP) (ao : Option Addr) (c : Nat) (l : List UInt8) (w : World)
    (ht : t.size ≤ 9223372036854775807) (ha : Arw w av la) (hla : la.length = an) (hac : an ≤ ac) (hacc : ac ≤ 9223372036854775807) (hr : Rrw w rv lr) (hlr : lr.length = rn) (hrc : rn ≤ rc) (hrcc : rc ≤ 9223372036854775807)
    (hb : Byt w ao l) (hn : ao = none → c = 0) (hc : l.length ≤ c) (hm : c ≤ 9223372036854775807) (hf : ∀ a, ao = some a → a.block < w.heap.size) (he : ErrT w) :
    Calls Tryz.prog 5 #[.agg #[.int .i64 k, .int .i64 a, .int .i64 b, .int .i64 d, .string t, .slice av an ac, .slice rv rn rc], .slice ao l.length c] w
      fun e w' => e = .returned (.bool true) ∧ Below w.heap.size w w' := by
  have HD := Lib.hid (fun W (h : Below w.heap.size w W) => heads_any W (he.below h))
  have HB : Hid (Below w.heap.size w (w.alloc (.cells #[.int .i64 k, .int .i64 a, .int .i64 b, .int .i64 d, .string t, .slice av an ac, .slice rv rn rc] 26))) := (Below.refl _ w).alloc (Nat.le_refl _) _
  have KM : Hid (Blk (w.alloc (.cells #[.int .i64 k, .int .i64 a, .int .i64 b, .int .i64 d, .string t, .slice av an ac, .slice rv rn rc] 26)) w.heap.size [.int .i64 k, .int .i64 a, .int .i64 b, .int .i64 d, .string t, .slice av an ac, .slice rv rn rc] 26) := Blk.new w [.int .i64 k, .int .i64 a, .int .i64 b, .int .i64 d, .string t, .slice av an ac, .slice rv rn rc] 26 _ rfl
  by_cases h5 : l.length ≤ 9000
  · have C1 := Lib.hid (fun W (h : Below w.heap.size w W) => (oputmeta_any k a b d t av rv an ac rn rc la lr W ht (ha.below h) hla hac hacc (hr.below h) hlr hrc hrcc).mono fun e w' => putY_of)
    have C2 := Lib.hid (fun W (h : Below w.heap.size w W) => (refputmeta_any k a b d t av rv an ac rn rc la lr W ht (ha.below h) hla hac hacc (hr.below h) hlr hrc hrcc).mono fun e w' => putY_gives)
    have C3 := Lib.hid (fun W (h : Below w.heap.size w W) => (oget_meta ao l.length c l W (hb.below h) hn rfl hc hm (by omega) (fun a ha => Nat.lt_of_lt_of_le (hf a ha) h.size) (he.below h)).mono fun e w' => getMS_of)
    have C4 := Lib.hid (fun W (h : Below w.heap.size w W) => (getmeta_any ao l l.length c W (hb.below h) hn rfl hc hm (by omega) (fun a ha => Nat.lt_of_lt_of_le (hf a ha) h.size)).mono fun e w' => getMS_ref)
    generalize (if OkMeta ltB nameOk ⟨k, a, b, d, t, la, lr⟩ then metaL ⟨k, a, b, d, t, la, lr⟩ else []) = L1 at C1 C2
    generalize (if OkMeta ltB nameOk ⟨k, a, b, d, t, la, lr⟩ then (0 : Int) else 80) = N1 at C1 C2
    generalize metaO (getMeta ltB nameOk l) = M at C3 C4
    generalize errO (getMeta ltB nameOk l) = N2 at C3 C4
    obtain ⟨mk, ma, mb, md, mt, A, K⟩ := M
    dsimp only at C3 C4
    have d1 : decide ((9000 : Int) < (l.length : Int)) = false := decide_eq_false (by omega)
    have d2 : decide ((9000 : Nat) < l.length) = false := decide_eq_false (by omega)
    clear hb hn hc hm hf he ht ha hla hac hacc hr hlr hrc hrcc
    have z0 := KM.out.cell 0
    have z1 := KM.out.cell 1
    have z2 := KM.out.cell 2
    have z3 := KM.out.cell 3
    have z4 := KM.out.cell 4
    have z5 := KM.out.cell 5
    have z6 := KM.out.cell 6
    simp only [List.getElem?_cons_zero, List.getElem?_cons_succ] at z0 z1 z2 z3 z4 z5 z6
    go_enter Tryz.func5, Tryz.ntmps5
    go_wp2_with fail
    refine (C1.out _ HB.out).mono ?_
    rintro e wq ⟨hb, a1, c1, rfl, y, z⟩
    clear C1
    replace HB := Lib.hid (below_chain HB.out hb)
    replace KM := Lib.hid (KM.out.low hb)
    have Y1 := Lib.hid y
    have Z1 := Lib.hid z
    clear y z hb
    clear z0 z1 z2 z3 z4 z5 z6
    have z0 := KM.out.cell 0
    have z1 := KM.out.cell 1
    have z2 := KM.out.cell 2
    have z3 := KM.out.cell 3
    have z4 := KM.out.cell 4
    have z5 := KM.out.cell 5
    have z6 := KM.out.cell 6
    simp only [List.getElem?_cons_zero, List.getElem?_cons_succ] at z0 z1 z2 z3 z4 z5 z6
    go_wp2_with fail
    refine (C2.out _ HB.out).mono ?_
    rintro e wq ⟨hb, a2, c2, rfl, y, z⟩
    clear C2
    replace HB := Lib.hid (below_chain HB.out hb)
    replace KM := Lib.hid (KM.out.low hb)
    replace Y1 := Lib.hid (Y1.out.below hb)
    have Y2 := Lib.hid y
    have Z2 := Lib.hid z
    clear y z hb
    clear z0 z1 z2 z3 z4 z5 z6
    go_wp2_with fail
    refine (C3.out _ HB.out).mono ?_
    rintro e wq ⟨hb, a3, c3, b3, d3, rfl, z, z2, z3, k, k2, k3⟩
    clear C3
    replace HB := Lib.hid (below_chain HB.out hb)
    replace KM := Lib.hid (KM.out.low hb)
    replace Y1 := Lib.hid (Y1.out.below hb)
    replace Y2 := Lib.hid (Y2.out.below hb)
    have S3 := Lib.hid z
    have s23 := z2
    have s33 := z3
    clear z z2 z3
    have Q3 := Lib.hid k
    have k23 := k2
    have k33 := k3
    clear k k2 k3 hb
    obtain ⟨g3, hg3⟩ : ∃ g, g = wq.heap.size := ⟨_, rfl⟩
    obtain ⟨wr, hwr⟩ : ∃ x, x = wq.alloc (.cells #[.int .i64 mk, .int .i64 ma, .int .i64 mb, .int .i64 md, .string mt, .slice a3 A.length c3, .slice b3 K.length d3] 26) := ⟨_, rfl⟩
    have hb : Below wq.heap.size wq wr := by rw [hwr]; exact (Below.refl _ wq).alloc (Nat.le_refl _) _
    have KB3 : Hid (Blk wr g3 [.int .i64 mk, .int .i64 ma, .int .i64 mb, .int .i64 md, .string mt, .slice a3 A.length c3, .slice b3 K.length d3] 26) := by show Blk _ _ _ _; rw [hwr]; exact Blk.new wq [.int .i64 mk, .int .i64 ma, .int .i64 mb, .int .i64 md, .string mt, .slice a3 A.length c3, .slice b3 K.length d3] 26 _ hg3
    replace HB := Lib.hid (below_chain HB.out hb)
    replace KM := Lib.hid (KM.out.low hb)
    replace Y1 := Lib.hid (Y1.out.below hb)
    replace Y2 := Lib.hid (Y2.out.below hb)
    replace S3 := Lib.hid (S3.out.below hb)
    replace Q3 := Lib.hid (Q3.out.below hb)
    clear hb
    go_wp2_with fail
    rw [← hwr, ← hg3]
    clear hwr hg3
    refine (C4.out _ HB.out).mono ?_
    rintro e wq ⟨hb, a4, c4, b4, d4, rfl, z, z2, z3, k, k2, k3⟩
    clear C4
    replace HB := Lib.hid (below_chain HB.out hb)
    replace KM := Lib.hid (KM.out.low hb)
    replace Y1 := Lib.hid (Y1.out.below hb)
    replace Y2 := Lib.hid (Y2.out.below hb)
    replace S3 := Lib.hid (S3.out.below hb)
    replace Q3 := Lib.hid (Q3.out.below hb)
    replace KB3 := Lib.hid (KB3.out.low hb)
    have S4 := Lib.hid z
    have s24 := z2
    have s34 := z3
    clear z z2 z3
    have Q4 := Lib.hid k
    have k24 := k2
    have k34 := k3
    clear k k2 k3 hb
    obtain ⟨g4, hg4⟩ : ∃ g, g = wq.heap.size := ⟨_, rfl⟩
    obtain ⟨wr, hwr⟩ : ∃ x, x = wq.alloc (.cells #[.int .i64 mk, .int .i64 ma, .int .i64 mb, .int .i64 md, .string mt, .slice a4 A.length c4, .slice b4 K.length d4] 26) := ⟨_, rfl⟩
    have hb : Below wq.heap.size wq wr := by rw [hwr]; exact (Below.refl _ wq).alloc (Nat.le_refl _) _
    have KB4 : Hid (Blk wr g4 [.int .i64 mk, .int .i64 ma, .int .i64 mb, .int .i64 md, .string mt, .slice a4 A.length c4, .slice b4 K.length d4] 26) := by show Blk _ _ _ _; rw [hwr]; exact Blk.new wq [.int .i64 mk, .int .i64 ma, .int .i64 mb, .int .i64 md, .string mt, .slice a4 A.length c4, .slice b4 K.length d4] 26 _ hg4
    replace HB := Lib.hid (below_chain HB.out hb)
    replace KM := Lib.hid (KM.out.low hb)
    replace Y1 := Lib.hid (Y1.out.below hb)
    replace Y2 := Lib.hid (Y2.out.below hb)
    replace S3 := Lib.hid (S3.out.below hb)
    replace Q3 := Lib.hid (Q3.out.below hb)
    replace KB3 := Lib.hid (KB3.out.low hb)
    replace S4 := Lib.hid (S4.out.below hb)
    replace Q4 := Lib.hid (Q4.out.below hb)
    clear hb
    have SA := Lib.hid (same_any a1 a2 L1 L1 c1 c2 wr Y1.out Y2.out Z1.out Z2.out)
    go_wp2_with fail
    rw [← hwr, ← hg4]
    clear hwr hg4
    refine SA.out.mono ?_
    clear SA
    rintro e wq ⟨rfl, rfl⟩
    simp only [decide_true]
    have z0 := KB3.out.cell 0
    have z1 := KB3.out.cell 1
    have z2 := KB3.out.cell 2
    have z3 := KB3.out.cell 3
    have z4 := KB3.out.cell 4
    have z5 := KB3.out.cell 5
    have z6 := KB3.out.cell 6
    have y0 := KB4.out.cell 0
    have y1 := KB4.out.cell 1
    have y2 := KB4.out.cell 2
    have y3 := KB4.out.cell 3
    have y4 := KB4.out.cell 4
    have y5 := KB4.out.cell 5
    have y6 := KB4.out.cell 6
    simp only [List.getElem?_cons_zero, List.getElem?_cons_succ] at z0 z1 z2 z3 z4 z5 z6 y0 y1 y2 y3 y4 y5 y6
    have SB := Lib.hid (metas_same mk ma mb md mt a3 a4 b3 b4 A K A.length c3 c4 K.length d3 d4 wr S3.out S4.out rfl s23 s33 s24 Q3.out Q4.out rfl k23 k33 k24)
    go_wp2_with fail
    refine SB.out.mono ?_
    clear SB
    rintro e wq ⟨rfl, hb⟩
    replace HB := Lib.hid (below_chain HB.out hb)
    clear hb z0 z1 z2 z3 z4 z5 z6 y0 y1 y2 y3 y4 y5 y6
    go_wp2_with fail
    refine (HD.out _ HB.out).mono ?_
    rintro e wz ⟨rfl, hz⟩
    have hz2 := below_chain HB.out hz
    go_wp2_with fail
    go_ret
    exact ⟨rfl, hz2⟩
  · have d1 : decide ((9000 : Int) < (l.length : Int)) = true := decide_eq_true (by omega)
    have d2 : decide ((9000 : Nat) < l.length) = true := decide_eq_true (by omega)
    clear hb hn hc hm hf he ht ha hla hac hacc hr hlr hrc hrcc
    go_enter Tryz.func5, Tryz.ntmps5
    go_wp2_with fail
    refine (HD.out _ HB.out).mono ?_
    rintro e wz ⟨rfl, hz⟩
    have hz2 := below_chain HB.out hz
    go_wp2_with fail
    go_ret
    exact ⟨rfl, hz2⟩
end Go.Proofs.YtpjgkboafmebbaaGreatDoor.Sh
namespace Go.Proofs.YtpjgkboafmebbaaGreatDoor
namespace Sh
open Go.ChangeShapes Go.WideShapes Go.ChangeAt Go.RowKit Go.Lib Go.ChangeMaps

set_option maxRecDepth 100000 in
/-- WHAT THE WALK GIVES, for every argument and every memory that meets the row. -/
theorem objMetas_contract (H : Type) (enc : TypeId × Value → H) (W : World) (base : Nat) (args : Array Value) (ds gs : List (DataW H)) (before : List MemPlace)
    (hval : ∀ (j : Nat) t v, Tryz.f5.params[j]? = some t → args[j]? = some v → Value.okWide Tryz.prog W .any base t v)
    (hW : DataW.Whole enc Tryz.prog Tryz.f5.params.toList Rows.objMetasSpec.vars false W args.toList ds gs before) 
    (hsz0 : (DataW.weightsEach Tryz.prog (Tryz.f5.params.toList ++ (OpenSpec.ofChange Rows.objMetasSpec).bare.plain.varTypes Tryz.prog) (ds ++ gs)).all (· ≤ reachBytes) = true) (hL : laidMetH Tryz.prog Rows.objMetasRow.laid W) :
    Calls Tryz.prog 5 args W fun e W' => ∃ v, e = .returned v ∧ Rows.objMetasSpec.post enc Tryz.prog Tryz.f5 false true false false W args v W' := by
  have hsz := hsz0
  clear hsz0
  have hW' := hW
  obtain ⟨p, q, hA0, hV, rfl, hfz, hnd⟩ := hW
  have hA : DataW.TrodAll enc Tryz.prog W 0 (fun _ => true) true Tryz.f5.params.toList args.toList ds p := hA0
  have hAk := hA
  clear hA0
  rw [Tryz.params5] at hA hval hsz
  obtain ⟨rfl, rfl⟩ := trodVars_none hV
  simp only [List.append_nil] at hW' hsz
  have hlt : ∀ x ∈ p, x.block < W.heap.size := fun x hx => by simpa using hW'.lt x hx
  obtain ⟨v0, vs0, d0, ds0, p0, q0, hargs, rfl, hp0, h0, r0⟩ := trodAll_cons hA
  obtain ⟨v1, vs1, d1, ds1, p1, q1, rfl, rfl, hp1, h1, r1⟩ := trodAll_cons r0
  obtain ⟨rfl, rfl, hpn⟩ := trodAll_nil r1
  obtain rfl : args = #[v0, v1] := by cases args; simp_all
  have hlt0 : ∀ x ∈ p0, x.block < W.heap.size := fun x hx => hlt x (by rw [hp0]; exact List.mem_append_left _ hx)
  have hltq0 : ∀ x ∈ q0, x.block < W.heap.size := fun x hx => hlt x (by rw [hp0]; exact List.mem_append_right _ hx)
  have hlt1 : ∀ x ∈ p1, x.block < W.heap.size := fun x hx => hltq0 x (by rw [hp1]; exact List.mem_append_left _ hx)
  have hltq1 : ∀ x ∈ q1, x.block < W.heap.size := fun x hx => hltq0 x (by rw [hp1]; exact List.mem_append_right _ hx)
  obtain ⟨mk, ma, mb, md, mt, mav, mla, mac, mrv, mlr, mrc, rfl, mT, mA, mA1, mA2, mR, mR1, mR2⟩ := open_meta (hval 0 26 v0 rfl rfl) h0 hlt0
  obtain ⟨al, l, cl, rfl, hlc, hlm, hlr, hln, e1⟩ := open_byt Tryz.underlying36 Tryz.underlying5 cells5 (hval 1 36 v1 rfl rfl) h1 hlt1
  have hlz := reach_byt hsz (j := 1) (d := d1) rfl rfl e1
  refine (metas_any mk ma mb md mt mav mrv _ mac _ mrc mla mlr al cl l W mT mA rfl mA1 mA2 mR rfl mR1 mR2 hlr hln hlc hlm (okWide_far Tryz.underlying36 (hval 1 36 _ rfl rfl)) (errT_of hL)).mono fun e W' ⟨he, hb⟩ => ?_
  subst he
  exact ⟨_, rfl, _, _, _, [], p, [], hW', trodAll_mk1 (shut_bool Tryz.underlying4 _), below_trodAll laidOut hb _ _ _ _ (by kernel_rfl) hAk hlt, rfl, hb.frame _, fun h => by cases h⟩

theorem objMetas_reads (os : Os) {H : Type} (enc : TypeId × Value → H) : ∃ places, DataW.whole enc Tryz.prog ((laidWorld os).forCall (fun _ _ => 0) ⟨#[], #[.agg #[.int .i64 0, .int .i64 0, .int .i64 0, .int .i64 0, .string ⟨#[]⟩, .slice none 0 0, .slice none 0 0], .slice none 0 0], []⟩).memory Tryz.f5.params.toList Rows.objMetasSpec.vars false (#[Value.agg #[.int .i64 0, .int .i64 0, .int .i64 0, .int .i64 0, .string ⟨#[]⟩, .slice none 0 0, .slice none 0 0], Value.slice none 0 0] : Array Value).toList 8 = some ([.agg [.lit (.int .i64 0), .lit (.int .i64 0), .lit (.int .i64 0), .lit (.int .i64 0), .lit (.string []), .nil, .nil], .nil], [], places) :=
  ⟨[], by kernel_rfl⟩

set_option maxRecDepth 100000 in
theorem objMetas_lifted (os : Os) (started : os.Started) (H : Type) (enc : TypeId × Value → H) (F : Stop.Interp) :
    ReturnsInHanded {} Tryz.checked os 5 .any ((OpenSpec.ofChange Rows.objMetasSpec).preRow enc Tryz.prog Tryz.f5 Rows.objMetasRow.domain false Rows.objMetasRow.laid) (((OpenSpec.ofChange Rows.objMetasSpec).at F).post enc Tryz.prog Tryz.f5 false true false false) := by
  obtain ⟨places, hx⟩ := objMetas_reads os enc
  refine returnsInHanded_of_row (C := Tryz.checked) (s := OpenSpec.ofChange Rows.objMetasSpec) own started (by kernel_rfl) Tryz.func5 ?_ ?_
  · refine ⟨laidWorld os, fun _ _ => 0, ⟨#[], #[.agg #[.int .i64 0, .int .i64 0, .int .i64 0, .int .i64 0, .string ⟨#[]⟩, .slice none 0 0, .slice none 0 0], .slice none 0 0], []⟩, laidWorld_os os, laidWorld_shaped os _, rfl, (Input.okWide_of_okWideB (by kernel_rfl)).2, ?_, ?_⟩
    · exact OpenSpec.preRow_of_cond 8 hx (by kernel_rfl) (fun k hk => by cases hk) (by kernel_rfl) (laidWorld_met os _)
    · simp only [Assume.holds]
      exact ⟨by simp, by simp, fun _ => Modest.zero, by simp, by simp⟩
  intro W base args ds gs before hval hW _ _ hsz hL hsh _
  exact objMetas_contract H enc W base args ds gs before hval hW hsz hL

theorem objMetas_said : Rows.ObjMetasSaid :=
  OpenClaim.holds_of_cond 5 Tryz.f5 rfl rfl rfl rfl rfl rfl rfl ⟨rfl, rfl, rfl, rfl, rfl⟩ rfl rfl rfl rfl rfl (by kernel_rfl) Tryz.func5 (by kernel_rfl)
    (of_decide_eq_true (by kernel_rfl)) (by unfold Func.isWrapper; first | (rw [if_pos (by decide +kernel)]; kernel_rfl) | (rw [if_neg (by decide +kernel)]; exact ⟨rfl, rfl⟩))
    (fun os started H enc _ F => by rw [OpenClaim.pre_eq_preRow]; exact objMetas_lifted os started H enc F)
end Sh
theorem objMetas_plain (f : FuncId) (fn : Func) (hf : Tryz.pinned.checked.prog.funcNamed Rows.objMetasRow.func = some f) (hfn : Tryz.pinned.checked.prog.funcs[f]? = some fn) :
    true = Tryz.pinned.checked.prog.looks [] ∧ ∀ (j : Nat) t, fn.params[j]? = some t → Tryz.pinned.checked.prog.wantsStandIn t = false := by
  obtain rfl : f = 5 := Option.some.inj ((show Tryz.prog.funcNamed Rows.objMetasRow.func = some 5 by kernel_rfl).symm.trans hf) |>.symm
  obtain rfl : fn = Tryz.f5 := (Option.some.inj (Tryz.func5.symm.trans hfn)).symm
  refine ⟨by kernel_rfl, fun j t ht => ?_⟩
  rw [Tryz.params5] at ht
  have hm : t ∈ [26, 36] := by simpa using Array.mem_of_getElem? ht
  have hall : ([26, 36].all fun u => !Tryz.prog.wantsStandIn u) = true := by kernel_rfl
  exact (show Tryz.prog.wantsStandIn t = false by simpa using List.all_eq_true.1 hall t hm)
/-- THE STATEMENT. -/
theorem objMetas_card : Rows.ObjMetasCardSaid :=
  Claim7.holds_tied_plain_at .later [] _ _ _ _ Sh.objMetas_said (fun _ h => by cases h) (by kernel_rfl) (fun _ h => by cases h) objMetas_row_tie rfl ⟨rfl, rfl⟩ (by kernel_rfl) rfl objMetas_plain (by kernel_rfl)
end Go.Proofs.YtpjgkboafmebbaaGreatDoor
