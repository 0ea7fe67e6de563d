/-
  THE STATEMENT PackNobody (P13.1): of every record and place, a pack that no call made answers nothing, and no device no pack; the bytes read behind the call as before.
  Conditions: none.
-/
import Derived.Test.YtekaboomhljdoaaGreatDoorNb
import Derived.Test.YtekaboomhljdoaaGreatDoorCards
import Derived.Test.YtekaboomhljdoaaGreatDoorWl
import Derived.Test.YtekaboomhljdoaaGreatDoorLo
namespace Go.Proofs.YtekaboomhljdoaaGreatDoor.Sh
open Lb Go.Proofs.YtekaboomhljdoaaGreatDoor.Pc Go.RowKit Go.Lib
open Go.Proofs.YtekaboomhljdoaaGreatDoor.Dk hiding Blk made_any size_any below_chain

/-- what answers nothing -/
structure Nob (w : World) (v : Value) (k : Int) (ks : ByteArray) (ao : Option Addr) (n c : Nat) (o : Int) : Prop where
  app : ∀ W, Below w.heap.size w W → Calls Tryz.prog 13 #[v, .agg #[.int .i64 k, .string ks, .slice ao n c]] W (AnsI W 1)
  rd : ∀ W, Below w.heap.size w W → Calls Tryz.prog 21 #[v, .int .i64 o] W (AnsD W 1)
  rs : ∀ W, Below w.heap.size w W → Calls Tryz.prog 16 #[v] W fun e w' => e = .returned (.tuple #[.slice none 0 0, .slice none 0 0]) ∧ w' = W
  rm : ∀ W, Below w.heap.size w W → Calls Tryz.prog 20 #[v] W fun e w' => e = .returned (.int .i64 0) ∧ w' = W
theorem nob_nil (w : World) (k : Int) (ks : ByteArray) (ao : Option Addr) (n c : Nat) (o : Int) : Nob w (.pointer none) k ks ao n c o :=
  ⟨fun W _ => append_nil W, fun W _ => pread_nil o W, fun W _ => records_nil W, fun W _ => room_nil W⟩
theorem nob_zero {w : World} {q : Nat} (h : w.cell? ⟨q, 0, none⟩ = some (.pointer none)) (k : Int) (ks : ByteArray) (ao : Option Addr) (n c : Nat) (o : Int) : Nob w (.pointer (some ⟨q, 0, none⟩)) k ks ao n c o :=
  have hW : ∀ W, Below w.heap.size w W → W.cell? ⟨q, 0, none⟩ = some (.pointer none) := fun _ hW => (hW.cell (p := ⟨q, 0, none⟩) (lt_of_cell h)).trans h
  ⟨fun W hb => append_zero (hW W hb), fun W hb => pread_zero (hW W hb) o, fun W hb => records_zero (hW W hb), fun W hb => room_zero (hW W hb)⟩
set_option maxHeartbeats 8000000 in
set_option maxRecDepth 100000 in
theorem nobody_law (k : Int) (ks : ByteArray) (ao : Option Addr) (n c : Nat) (o : Int) (a0 a1 : Addr) (w : World) (hE : Env w a0 a1) (h0 : -9223372036854775808 ≤ o) (h1 : o ≤ 9223372036854775807) :
    Calls Tryz.prog 7 #[.agg #[.int .i64 k, .string ks, .slice ao n c], .int .i64 o] w fun e w' => e = .returned (.bool true) ∧ Below w.heap.size w w' := by
  have E0 := Lib.hid hE
  have B1 := Lib.hid (al1 w (.cells #[.int .i64 k, .string ks, .slice ao n c] 29))
  have X1 := Lib.hid (cells_rec k ks ao n c w)
  have CO := Lib.hid (open_nil o h0 h1 (w.alloc (.cells #[.int .i64 k, .string ks, .slice ao n c] 29)))
  have CF := Lib.hid (fun W => fresh_nil o h0 h1 W)
  clear hE
  go_enter Tryz.func7, Tryz.ntmps7
  go_wp2_with fail
  refine CO.out.mono ?_
  rintro e w2 ⟨rfl, b2⟩
  have B2 := Lib.hid (below_chain B1.out b2)
  have X2 := Lib.hid (X1.out.low b2)
  clear b2 CO B1 X1
  go_wp2_with fail
  refine (CF.out _).mono ?_
  rintro e w3 ⟨rfl, b3⟩
  have B3 := Lib.hid (below_chain B2.out b3)
  have X3 := Lib.hid (X2.out.low b3)
  have b4 := al1 w3 (.cells #[.pointer none, .int .i64 0, .slice none 0 0, .slice none 0 0, .int .i64 0, .bool false] 59)
  have q4 : (w3.alloc (.cells #[.pointer none, .int .i64 0, .slice none 0 0, .slice none 0 0, .int .i64 0, .bool false] 59)).cell? ⟨w3.heap.size, 0, none⟩ = some (.pointer none) := by
    rw [World.cell?_alloc_new]
    rfl
  have b5 := al1 (w3.alloc (.cells #[.pointer none, .int .i64 0, .slice none 0 0, .slice none 0 0, .int .i64 0, .bool false] 59)) (.cells #[.pointer none, .pointer (some ⟨w3.heap.size, 0, none⟩)] 35)
  have R5 : Hid (Blk ((w3.alloc (.cells #[.pointer none, .int .i64 0, .slice none 0 0, .slice none 0 0, .int .i64 0, .bool false] 59)).alloc (.cells #[.pointer none, .pointer (some ⟨w3.heap.size, 0, none⟩)] 35)) (w3.heap.size + 1) [.pointer none, .pointer (some ⟨w3.heap.size, 0, none⟩)] 35) := Blk.new _ [.pointer none, .pointer (some ⟨w3.heap.size, 0, none⟩)] 35 _ (by simp)
  have b45 := below_chain b4 b5
  have B5 := Lib.hid (below_chain B3.out b45)
  have X5 := Lib.hid (X3.out.low b45)
  have N0 := Lib.hid (nob_nil ((w3.alloc (.cells #[.pointer none, .int .i64 0, .slice none 0 0, .slice none 0 0, .int .i64 0, .bool false] 59)).alloc (.cells #[.pointer none, .pointer (some ⟨w3.heap.size, 0, none⟩)] 35)) k ks ao n c o)
  have N1 := Lib.hid (nob_zero (w := (w3.alloc (.cells #[.pointer none, .int .i64 0, .slice none 0 0, .slice none 0 0, .int .i64 0, .bool false] 59)).alloc (.cells #[.pointer none, .pointer (some ⟨w3.heap.size, 0, none⟩)] 35)) (q := w3.heap.size) ((b5.cell (p := ⟨w3.heap.size, 0, none⟩) (lt_of_cell q4)).trans q4) k ks ao n c o)
  clear b3 b4 b5 b45 q4 B2 X2 B3 X3 CF
  go_wp2_with fail
  obtain ⟨q, hq⟩ : ∃ q, q = w3.heap.size := ⟨_, rfl⟩
  rw [← hq] at R5 N0 N1 X5 B5 ⊢
  obtain ⟨xb, hxb⟩ : ∃ xb, xb = q + 1 := ⟨_, rfl⟩
  rw [← hxb] at R5 ⊢
  generalize (w3.alloc (.cells #[.pointer none, .int .i64 0, .slice none 0 0, .slice none 0 0, .int .i64 0, .bool false] 59)).alloc (.cells #[.pointer none, .pointer (some ⟨q, 0, none⟩)] 35) = w5 at *
  obtain ⟨G, hG⟩ : ∃ G, G = w.heap.size := ⟨_, rfl⟩
  have HG := Lib.hid hG
  rw [← hG] at X5 ⊢
  clear hq hxb hG
  go_loopw [11] (fun vi wr => ∃ i : Nat, i ≤ 2 ∧ vi = .int .i64 i ∧ Hid (Below w5.heap.size w5 wr)) (fun vi _ => 2 - (RowKit.intOf vi).toNat)
  case atStart => exact ⟨0, by omega, rfl, Below.refl _ _⟩
  case round =>
    obtain ⟨i, hi, rfl, hB⟩ := hrel
    by_cases hin : i < 2
    · obtain ⟨v, hv, hN, hone⟩ : ∃ v, wr.cell? ⟨xb, i, none⟩ = some v ∧ Nob w5 v k ks ao n c o ∧ v.cells.size = 1 := by
        have hx := R5.out.low hB.out
        rcases (show i = 0 ∨ i = 1 by omega) with rfl | rfl
        · exact ⟨_, hx.cell 0, N0.out, rfl⟩
        · exact ⟨_, hx.cell 1, N1.out, rfl⟩
      have HN := Lib.hid hN
      have inI : (i : Int) < 2 := by omega
      have q1 : (0 : Int) ≤ (i : Int) := by omega
      have v0 : wr.cell? ⟨xb, 0 + i, none⟩ = some v := by rw [Nat.zero_add]; exact hv
      have XR := Lib.hid (X5.out.low hB.out)
      obtain ⟨k0, k1, k2⟩ := keep29 XR.out
      have BQ : Hid (Below w5.heap.size w5 wr.drew) := hB.out.drew
      have KS : Hid (∀ W, Below wr.heap.size wr W → W.cell? ⟨xb, i, none⟩ = some v ∧ W.cell? ⟨G, 0, none⟩ = some (.int .i64 k) ∧ W.cell? ⟨G, 1, none⟩ = some (.string ks) ∧ W.cell? ⟨G, 2, none⟩ = some (.slice ao n c)) := fun W hW =>
        ⟨(hW.cell (p := ⟨xb, i, none⟩) (lt_of_cell hv)).trans hv, keep29 (XR.out.low hW)⟩
      clear hN
      go_wp2_with fail
      go_region_held3 (fun w' => w'.cell? ⟨xb, i, none⟩ = some v ∧ w'.cell? ⟨G, 0, none⟩ = some (.int .i64 k) ∧ w'.cell? ⟨G, 1, none⟩ = some (.string ks) ∧ w'.cell? ⟨G, 2, none⟩ = some (.slice ao n c))
        (first | go_keep | exact ⟨hv, k0, k1, k2⟩)
        ((go_at_call 13; (with_reducible refine ((HN.out.app _ BQ.out)).mono ?_); rintro e w6 ⟨rfl, b6⟩; obtain ⟨hv, k0, k1, k2⟩ := KS.out _ (Below.trans (Below.refl wr.heap.size wr).drew b6)))
      all_goals
        have B6 := Lib.hid (Below.trans BQ.out (b6.mono BQ.out.size))
        have K6 := Lib.hid (Below.trans (Below.refl wr.heap.size wr).drew b6)
        have v6 : w6.cell? ⟨xb, i, none⟩ = some v := hv
        clear b6 k0 k1 k2
        go_wp2_with fail
        refine (HN.out.rd _ B6.out).mono ?_
        rintro e w7 ⟨rfl, b7⟩
        have b8 := al1 w7 (.cells #[.int .i64 0, .string ⟨#[]⟩, .slice none 0 0] 29)
        have b78 := below_chain b7 b8
        have B8 := Lib.hid (below_chain B6.out b78)
        have v8 := (KS.out _ (below_chain K6.out b78)).1
        have K8 := Lib.hid (below_chain K6.out b78)
        clear b7 b8 b78 B6 K6 v6 hv
        go_wp2_with fail
        generalize w7.alloc (.cells #[.int .i64 0, .string ⟨#[]⟩, .slice none 0 0] 29) = w8 at *
        refine (HN.out.rs _ B8.out).mono ?_
        rintro e w9 ⟨rfl, rfl⟩
        go_wp2_with fail
        refine (HN.out.rm _ B8.out).mono ?_
        rintro e w9 ⟨rfl, rfl⟩
        go_wp2_with fail
        go_roundw
        case rel => exact ⟨i + 1, by omega, by go_num, B8.out⟩
        case measure => simp [RowKit.intOf]; omega
    · obtain rfl : i = 2 := by omega
      have B9 := Lib.hid (below_chain B5.out hB.out)
      have CH := Lib.hid (heads_any a0 a1 wr (E0.out.below B9.out))
      go_wp2_with fail
      refine CH.out.mono ?_
      rintro e w9 ⟨rfl, b9⟩
      go_wp2_with fail
      go_ret
      exact ⟨rfl, below_chain B9.out b9⟩
end Go.Proofs.YtekaboomhljdoaaGreatDoor.Sh
namespace Go.Proofs.YtekaboomhljdoaaGreatDoor
namespace Sh
open Go.ChangeShapes Go.WideShapes Go.ChangeAt Go.RowKit Go.Lib Go.ChangeMaps

theorem nobody_env (k : Int) (ks : ByteArray) (ao : Option Addr) (n c : Nat) (o : Int) (w : World) (hL : laidMetH Tryz.prog laidAll w) (h0 : -9223372036854775808 ≤ o) (h1 : o ≤ 9223372036854775807) :
    Calls Tryz.prog 7 #[.agg #[.int .i64 k, .string ks, .slice ao n c], .int .i64 o] w fun e w' => e = .returned (.bool true) ∧ Below w.heap.size w w' := by
  obtain ⟨a0, a1, hE⟩ := env_of hL
  exact nobody_law k ks ao n c o a0 a1 w hE h0 h1
set_option maxRecDepth 100000 in
/-- WHAT THE WALK GIVES, for every argument and every memory that meets the row. -/
theorem packNobody_contract (H : Type) (enc : TypeId × Value → H) (W : World) (base : Nat) (args : Array Value) (ds gs : List (DataW H)) (before : List MemPlace)
    (hval : ∀ (j : Nat) t v, Tryz.f7.params[j]? = some t → args[j]? = some v → Value.okWide Tryz.prog W .any base t v)
    (hW : DataW.Whole enc Tryz.prog Tryz.f7.params.toList Rows.packNobodySpec.vars false W args.toList ds gs before) 
    (hsz0 : (DataW.weightsEach Tryz.prog (Tryz.f7.params.toList ++ (OpenSpec.ofChange Rows.packNobodySpec).bare.plain.varTypes Tryz.prog) (ds ++ gs)).all (· ≤ reachBytes) = true) (hL : laidMetH Tryz.prog Rows.packNobodyRow.laid W) :
    Calls Tryz.prog 7 args W fun e W' => ∃ v, e = .returned v ∧ Rows.packNobodySpec.post enc Tryz.prog Tryz.f7 false true false false W args v W' := by
  have hsz := hsz0
  clear hsz0
  have hW' := hW
  obtain ⟨p, q, hA0, hV, rfl, hfz, hnd⟩ := hW
  have hA : DataW.TrodAll enc Tryz.prog W 0 (fun _ => true) true Tryz.f7.params.toList args.toList ds p := hA0
  have hAk := hA
  clear hA0
  rw [Tryz.params7] at hA hval hsz
  obtain ⟨rfl, rfl⟩ := trodVars_none hV
  simp only [List.append_nil] at hW' hsz
  have hlt : ∀ x ∈ p, x.block < W.heap.size := fun x hx => by simpa using hW'.lt x hx
  obtain ⟨v0, vs0, d0, ds0, p0, q0, hargs, rfl, hp0, h0, r0⟩ := trodAll_cons hA
  obtain ⟨v1, vs1, d1, ds1, p1, q1, rfl, rfl, hp1, h1, r1⟩ := trodAll_cons r0
  obtain ⟨rfl, rfl, hpn⟩ := trodAll_nil r1
  obtain rfl : args = #[v0, v1] := by cases args; simp_all
  have hlt0 : ∀ x ∈ p0, x.block < W.heap.size := fun x hx => hlt x (by rw [hp0]; exact List.mem_append_left _ hx)
  have hltq0 : ∀ x ∈ q0, x.block < W.heap.size := fun x hx => hlt x (by rw [hp0]; exact List.mem_append_right _ hx)
  have hlt1 : ∀ x ∈ p1, x.block < W.heap.size := fun x hx => hltq0 x (by rw [hp1]; exact List.mem_append_left _ hx)
  have hltq1 : ∀ x ∈ q1, x.block < W.heap.size := fun x hx => hltq0 x (by rw [hp1]; exact List.mem_append_right _ hx)
  obtain ⟨rk, rks, ar, r, cr, rfl, hrc, hrm, hrr, hrn⟩ := open_rec (hval 0 29 v0 rfl rfl) h0 hlt0
  obtain ⟨n, rfl, rfl, rfl, ws1⟩ := open_int Tryz.underlying3 (hval 1 3 v1 rfl rfl) h1
  obtain ⟨hn0, hn1⟩ := bounds_i64 ws1
  refine (nobody_env rk rks ar r.length cr n W hL hn0 hn1).mono fun e W' ⟨he, hb⟩ => ?_
  subst he
  exact ⟨_, rfl, _, _, _, [], p, [], hW', trodAll_mk1 (shut_bool Tryz.underlying4 _), below_trodAll laidOut hb _ _ _ _ (by kernel_rfl) hAk hlt, rfl, hb.frame _, fun h => by cases h⟩

theorem packNobody_reads (os : Os) {H : Type} (enc : TypeId × Value → H) : ∃ places, DataW.whole enc Tryz.prog ((laidWorld os).forCall (fun _ _ => 0) ⟨#[], #[.agg #[.int .i64 0, .string ⟨#[]⟩, .slice none 0 0], .int .i64 0], []⟩).memory Tryz.f7.params.toList Rows.packNobodySpec.vars false (#[Value.agg #[.int .i64 0, .string ⟨#[]⟩, .slice none 0 0], Value.int .i64 0] : Array Value).toList 8 = some ([.agg [.lit (.int .i64 0), .lit (.string []), .nil], .lit (.int .i64 0)], [], places) :=
  ⟨[], by kernel_rfl⟩

set_option maxRecDepth 100000 in
theorem packNobody_lifted (os : Os) (started : os.Started) (H : Type) (enc : TypeId × Value → H) (F : Stop.Interp) :
    ReturnsInHanded {} Tryz.checked os 7 .any ((OpenSpec.ofChange Rows.packNobodySpec).preRow enc Tryz.prog Tryz.f7 Rows.packNobodyRow.domain false Rows.packNobodyRow.laid) (((OpenSpec.ofChange Rows.packNobodySpec).at F).post enc Tryz.prog Tryz.f7 false true false false) := by
  obtain ⟨places, hx⟩ := packNobody_reads os enc
  refine returnsInHanded_of_row (C := Tryz.checked) (s := OpenSpec.ofChange Rows.packNobodySpec) own started (by kernel_rfl) Tryz.func7 ?_ ?_
  · refine ⟨laidWorld os, fun _ _ => 0, ⟨#[], #[.agg #[.int .i64 0, .string ⟨#[]⟩, .slice none 0 0], .int .i64 0], []⟩, laidWorld_os os, laidWorld_shaped os _, rfl, (Input.okWide_of_okWideB (by kernel_rfl)).2, ?_, ?_⟩
    · exact OpenSpec.preRow_of_cond 8 hx (by kernel_rfl) (fun k hk => by cases hk) (by kernel_rfl) (laidWorld_met os _)
    · simp only [Assume.holds]
      exact ⟨by simp, by simp, fun _ => Modest.zero, by simp, by simp⟩
  intro W base args ds gs before hval hW _ _ hsz hL hsh _
  exact packNobody_contract H enc W base args ds gs before hval hW hsz hL

theorem packNobody_said : Rows.PackNobodySaid :=
  OpenClaim.holds_of_cond 7 Tryz.f7 rfl rfl rfl rfl rfl rfl rfl ⟨rfl, rfl, rfl, rfl, rfl⟩ rfl rfl rfl rfl rfl (by kernel_rfl) Tryz.func7 (by kernel_rfl)
    (of_decide_eq_true (by kernel_rfl)) (by unfold Func.isWrapper; first | (rw [if_pos (by decide +kernel)]; kernel_rfl) | (rw [if_neg (by decide +kernel)]; exact ⟨rfl, rfl⟩))
    (fun os started H enc _ F => by rw [OpenClaim.pre_eq_preRow]; exact packNobody_lifted os started H enc F)
end Sh
theorem packNobody_plain (f : FuncId) (fn : Func) (hf : Tryz.pinned.checked.prog.funcNamed Rows.packNobodyRow.func = some f) (hfn : Tryz.pinned.checked.prog.funcs[f]? = some fn) :
    true = Tryz.pinned.checked.prog.looks [] ∧ ∀ (j : Nat) t, fn.params[j]? = some t → Tryz.pinned.checked.prog.wantsStandIn t = false := by
  obtain rfl : f = 7 := Option.some.inj ((show Tryz.prog.funcNamed Rows.packNobodyRow.func = some 7 by kernel_rfl).symm.trans hf) |>.symm
  obtain rfl : fn = Tryz.f7 := (Option.some.inj (Tryz.func7.symm.trans hfn)).symm
  refine ⟨by kernel_rfl, fun j t ht => ?_⟩
  rw [Tryz.params7] at ht
  have hm : t ∈ [29, 3] := by simpa using Array.mem_of_getElem? ht
  have hall : ([29, 3].all fun u => !Tryz.prog.wantsStandIn u) = true := by kernel_rfl
  exact (show Tryz.prog.wantsStandIn t = false by simpa using List.all_eq_true.1 hall t hm)
/-- THE STATEMENT. -/
theorem packNobody_card : Rows.PackNobodyCardSaid :=
  Claim7.holds_tied_plain_at .later [] _ _ _ _ Sh.packNobody_said (fun _ h => by cases h) (by kernel_rfl) (fun _ h => by cases h) packNobody_row_tie rfl ⟨rfl, rfl⟩ (by kernel_rfl) rfl packNobody_plain (by kernel_rfl)
end Go.Proofs.YtekaboomhljdoaaGreatDoor
