/-
  THE STATEMENT SuperChooses (P11.2): of every two rows of at most 1000 bytes, superblock, root and at most 300 packs, which sector counts and what the next superblock is, as the document has it; what came in reads behind the call as before.
  Conditions: none.
-/
import Derived.Test.YtlpbkjonicjccaaDoorCards
import Derived.Test.YtlpbkjonicjccaaDoorWl
import Derived.Test.YtlpbkjonicjccaaDoorTd
namespace Go.Proofs.YtlpbkjonicjccaaDoor
namespace Sh
open Go.ChangeShapes Go.WideShapes Go.ChangeAt Go.RowKit Go.Lib Go.ChangeMaps

set_option maxRecDepth 100000 in
/-- WHAT THE WALK GIVES, for every argument and every memory that meets the row. -/
theorem superChooses_contract (H : Type) (enc : TypeId × Value → H) (W : World) (base : Nat) (args : Array Value) (ds gs : List (DataW H)) (before : List MemPlace)
    (hval : ∀ (j : Nat) t v, Tryd.f6.params[j]? = some t → args[j]? = some v → Value.okWide Tryd.prog W .any base t v)
    (hW : DataW.Whole enc Tryd.prog Tryd.f6.params.toList Rows.superChoosesSpec.vars false W args.toList ds gs before) 
    (hsz0 : (DataW.weightsEach Tryd.prog (Tryd.f6.params.toList ++ (OpenSpec.ofChange Rows.superChoosesSpec).bare.plain.varTypes Tryd.prog) (ds ++ gs)).all (· ≤ reachBytes) = true) (_hL : laidMetH Tryd.prog Rows.superChoosesRow.laid W) :
    Calls Tryd.prog 6 args W fun e W' => ∃ v, e = .returned v ∧ Rows.superChoosesSpec.post enc Tryd.prog Tryd.f6 false true false false W args v W' := by
  have hsz := hsz0
  clear hsz0
  have hW' := hW
  obtain ⟨p, q, hA0, hV, rfl, hfz, hnd⟩ := hW
  have hA : DataW.TrodAll enc Tryd.prog W 0 (fun _ => true) true Tryd.f6.params.toList args.toList ds p := hA0
  have hAk := hA
  clear hA0
  rw [Tryd.params6] at hA hval hsz
  obtain ⟨rfl, rfl⟩ := trodVars_none hV
  simp only [List.append_nil] at hW' hsz
  have hlt : ∀ x ∈ p, x.block < W.heap.size := fun x hx => by simpa using hW'.lt x hx
  obtain ⟨v0, vs0, d0, ds0, p0, q0, hargs, rfl, hp0, h0, r0⟩ := trodAll_cons hA
  obtain ⟨v1, vs1, d1, ds1, p1, q1, rfl, rfl, hp1, h1, r1⟩ := trodAll_cons r0
  obtain ⟨v2, vs2, d2, ds2, p2, q2, rfl, rfl, hp2, h2, r2⟩ := trodAll_cons r1
  obtain ⟨v3, vs3, d3, ds3, p3, q3, rfl, rfl, hp3, h3, r3⟩ := trodAll_cons r2
  obtain ⟨v4, vs4, d4, ds4, p4, q4, rfl, rfl, hp4, h4, r4⟩ := trodAll_cons r3
  obtain ⟨rfl, rfl, hpn⟩ := trodAll_nil r4
  obtain rfl : args = #[v0, v1, v2, v3, v4] := by cases args; simp_all
  have hlt0 : ∀ x ∈ p0, x.block < W.heap.size := fun x hx => hlt x (by rw [hp0]; exact List.mem_append_left _ hx)
  have hltq0 : ∀ x ∈ q0, x.block < W.heap.size := fun x hx => hlt x (by rw [hp0]; exact List.mem_append_right _ hx)
  have hlt1 : ∀ x ∈ p1, x.block < W.heap.size := fun x hx => hltq0 x (by rw [hp1]; exact List.mem_append_left _ hx)
  have hltq1 : ∀ x ∈ q1, x.block < W.heap.size := fun x hx => hltq0 x (by rw [hp1]; exact List.mem_append_right _ hx)
  have hlt2 : ∀ x ∈ p2, x.block < W.heap.size := fun x hx => hltq1 x (by rw [hp2]; exact List.mem_append_left _ hx)
  have hltq2 : ∀ x ∈ q2, x.block < W.heap.size := fun x hx => hltq1 x (by rw [hp2]; exact List.mem_append_right _ hx)
  have hlt3 : ∀ x ∈ p3, x.block < W.heap.size := fun x hx => hltq2 x (by rw [hp3]; exact List.mem_append_left _ hx)
  have hltq3 : ∀ x ∈ q3, x.block < W.heap.size := fun x hx => hltq2 x (by rw [hp3]; exact List.mem_append_right _ hx)
  have hlt4 : ∀ x ∈ p4, x.block < W.heap.size := fun x hx => hltq3 x (by rw [hp4]; exact List.mem_append_left _ hx)
  have hltq4 : ∀ x ∈ q4, x.block < W.heap.size := fun x hx => hltq3 x (by rw [hp4]; exact List.mem_append_right _ hx)
  obtain ⟨ala, la, cla, rfl, hlac, hlam, hlar, hlan, e0⟩ := open_byt Tryd.underlying26 Tryd.underlying5 cells5 (hval 0 26 v0 rfl rfl) h0 hlt0
  have hlaz := reach_byt hsz (j := 0) (d := d0) rfl rfl e0
  obtain ⟨alb, lb, clb, rfl, hlbc, hlbm, hlbr, hlbn, e1⟩ := open_byt Tryd.underlying26 Tryd.underlying5 cells5 (hval 1 26 v1 rfl rfl) h1 hlt1
  have hlbz := reach_byt hsz (j := 1) (d := d1) rfl rfl e1
  obtain ⟨u, hu, huz⟩ := open_super (hval 2 25 v2 rfl rfl) h2 hlt2
  obtain ⟨rt, rfl, rfl, rfl, ws3⟩ := open_string Tryd.underlying22 (hval 3 22 v3 rfl rfl) h3
  obtain ⟨apk, pk, cpk, rfl, hpkc, hpkm, hpkr, hpkn⟩ := open_zrw Tryd.underlying23 Tryd.underlying3 cells3 (hval 4 23 v4 rfl rfl) h4 hlt4
  refine (chooses6 refnext_any u _ la lb pk rt ala alb apk _ cla _ clb _ cpk W hu hlar rfl hlac hlam hlbr rfl hlbc hlbm hpkr rfl hpkc hpkm (by unfold maxLen at *; omega)).mono fun e W' ⟨he, hb⟩ => ?_
  subst he
  exact ⟨_, rfl, _, _, _, [], p, [], hW', trodAll_mk1 (shut_bool Tryd.underlying4 _), below_trodAll laidOut hb _ _ _ _ (by kernel_rfl) hAk hlt, rfl, hb.frame _, fun h => by cases h⟩

theorem superChooses_reads (os : Os) {H : Type} (enc : TypeId × Value → H) : ∃ places, DataW.whole enc Tryd.prog ((laidWorld os).forCall (fun _ _ => 0) ⟨#[], #[.slice none 0 0, .slice none 0 0, .agg #[.int .i64 0, .string ⟨#[]⟩, .slice none 0 0], .string ⟨#[]⟩, .slice none 0 0], []⟩).memory Tryd.f6.params.toList Rows.superChoosesSpec.vars false (#[Value.slice none 0 0, Value.slice none 0 0, Value.agg #[.int .i64 0, .string ⟨#[]⟩, .slice none 0 0], Value.string ⟨#[]⟩, Value.slice none 0 0] : Array Value).toList 8 = some ([.nil, .nil, .agg [.lit (.int .i64 0), .lit (.string []), .nil], .lit (.string []), .nil], [], places) :=
  ⟨[], by kernel_rfl⟩

set_option maxRecDepth 100000 in
theorem superChooses_lifted (os : Os) (started : os.Started) (H : Type) (enc : TypeId × Value → H) (F : Stop.Interp) :
    ReturnsInHanded {} Tryd.checked os 6 .any ((OpenSpec.ofChange Rows.superChoosesSpec).preRow enc Tryd.prog Tryd.f6 Rows.superChoosesRow.domain false Rows.superChoosesRow.laid) (((OpenSpec.ofChange Rows.superChoosesSpec).at F).post enc Tryd.prog Tryd.f6 false true false false) := by
  obtain ⟨places, hx⟩ := superChooses_reads os enc
  refine returnsInHanded_of_row (C := Tryd.checked) (s := OpenSpec.ofChange Rows.superChoosesSpec) own started (by kernel_rfl) Tryd.func6 ?_ ?_
  · refine ⟨laidWorld os, fun _ _ => 0, ⟨#[], #[.slice none 0 0, .slice none 0 0, .agg #[.int .i64 0, .string ⟨#[]⟩, .slice none 0 0], .string ⟨#[]⟩, .slice none 0 0], []⟩, laidWorld_os os, laidWorld_shaped os _, rfl, (Input.okWide_of_okWideB (by kernel_rfl)).2, ?_, ?_⟩
    · exact OpenSpec.preRow_of_cond 8 hx (by kernel_rfl) (fun k hk => by cases hk) (by kernel_rfl) (laidWorld_met os _)
    · simp only [Assume.holds]
      exact ⟨by simp, by simp, fun _ => Modest.zero, by simp, by simp⟩
  intro W base args ds gs before hval hW _ _ hsz hL hsh _
  exact superChooses_contract H enc W base args ds gs before hval hW hsz hL

theorem superChooses_said : Rows.SuperChoosesSaid :=
  OpenClaim.holds_of_cond 6 Tryd.f6 rfl rfl rfl rfl rfl rfl rfl ⟨rfl, rfl, rfl, rfl, rfl⟩ rfl rfl rfl rfl rfl (by kernel_rfl) Tryd.func6 (by kernel_rfl)
    (of_decide_eq_true (by kernel_rfl)) (by unfold Func.isWrapper; first | (rw [if_pos (by decide +kernel)]; kernel_rfl) | (rw [if_neg (by decide +kernel)]; exact ⟨rfl, rfl⟩))
    (fun os started H enc _ F => by rw [OpenClaim.pre_eq_preRow]; exact superChooses_lifted os started H enc F)
end Sh
theorem superChooses_plain (f : FuncId) (fn : Func) (hf : Tryd.pinned.checked.prog.funcNamed Rows.superChoosesRow.func = some f) (hfn : Tryd.pinned.checked.prog.funcs[f]? = some fn) :
    false = Tryd.pinned.checked.prog.looks [] ∧ ∀ (j : Nat) t, fn.params[j]? = some t → Tryd.pinned.checked.prog.wantsStandIn t = false := by
  obtain rfl : f = 6 := Option.some.inj ((show Tryd.prog.funcNamed Rows.superChoosesRow.func = some 6 by kernel_rfl).symm.trans hf) |>.symm
  obtain rfl : fn = Tryd.f6 := (Option.some.inj (Tryd.func6.symm.trans hfn)).symm
  refine ⟨by kernel_rfl, fun j t ht => ?_⟩
  rw [Tryd.params6] at ht
  have hm : t ∈ [26, 26, 25, 22, 23] := by simpa using Array.mem_of_getElem? ht
  have hall : ([26, 26, 25, 22, 23].all fun u => !Tryd.prog.wantsStandIn u) = true := by kernel_rfl
  exact (show Tryd.prog.wantsStandIn t = false by simpa using List.all_eq_true.1 hall t hm)
/-- THE STATEMENT. -/
theorem superChooses_card : Rows.SuperChoosesCardSaid :=
  Claim7.holds_tied_plain_at .later [] _ _ _ _ Sh.superChooses_said (fun _ h => by cases h) (by kernel_rfl) (fun _ h => by cases h) superChooses_row_tie rfl ⟨rfl, rfl⟩ (by kernel_rfl) rfl superChooses_plain (by kernel_rfl)
end Go.Proofs.YtlpbkjonicjccaaDoor
