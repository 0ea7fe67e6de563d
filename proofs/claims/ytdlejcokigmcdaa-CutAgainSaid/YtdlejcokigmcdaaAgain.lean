/-
  THE STATEMENT CutAgain (P6.2): behind a cut it does not matter what stands ahead: two contents that are cut at one place, and end alike from there on, are cut alike there; the bytes read behind the call as before.
  Conditions: none.
-/
import Derived.Test.YtdlejcokigmcdaaWl
import Derived.Test.YtdlejcokigmcdaaLf
namespace Go.Proofs.Ytdlejcokigmcdaa.Rb
open Go.ChangeShapes Go.WideShapes Go.ChangeAt Go.RowKit Go.Lib Go.ChangeMaps

set_option maxRecDepth 100000 in
/-- WHAT THE WALK GIVES, for every argument and every memory that meets the row. -/
theorem cutAgain_contract (H : Type) (enc : TypeId × Value → H) (W : World) (base : Nat) (args : Array Value) (ds gs : List (DataW H)) (before : List MemPlace)
    (hval : ∀ (j : Nat) t v, Try.f7.params[j]? = some t → args[j]? = some v → Value.okWide Try.prog W .any base t v)
    (hW : DataW.Whole enc Try.prog Try.f7.params.toList Rows.cutAgainSpec.vars false W args.toList ds gs before) 
    (hsz0 : (DataW.weightsEach Try.prog (Try.f7.params.toList ++ (OpenSpec.ofChange Rows.cutAgainSpec).bare.plain.varTypes Try.prog) (ds ++ gs)).all (· ≤ reachBytes) = true) (_hL : laidMetH Try.prog Rows.cutAgainRow.laid W) :
    Calls Try.prog 7 args W fun e W' => ∃ v, e = .returned v ∧ Rows.cutAgainSpec.post enc Try.prog Try.f7 false true false false W args v W' := by
  have hsz := hsz0
  clear hsz0
  have hW' := hW
  obtain ⟨p, q, hA0, hV, rfl, hfz, hnd⟩ := hW
  have hA : DataW.TrodAll enc Try.prog W 0 (fun _ => true) true Try.f7.params.toList args.toList ds p := hA0
  have hAk := hA
  clear hA0
  rw [Try.params7] at hA hval hsz
  obtain ⟨rfl, rfl⟩ := trodVars_none hV
  simp only [List.append_nil] at hW' hsz
  have hlt : ∀ x ∈ p, x.block < W.heap.size := fun x hx => by simpa using hW'.lt x hx
  obtain ⟨v0, vs0, d0, ds0, p0, q0, hargs, rfl, hp0, h0, r0⟩ := trodAll_cons hA
  obtain ⟨v1, vs1, d1, ds1, p1, q1, rfl, rfl, hp1, h1, r1⟩ := trodAll_cons r0
  obtain ⟨v2, vs2, d2, ds2, p2, q2, rfl, rfl, hp2, h2, r2⟩ := trodAll_cons r1
  obtain ⟨rfl, rfl, hpn⟩ := trodAll_nil r2
  obtain rfl : args = #[v0, v1, v2] := by cases args; simp_all
  have hlt0 : ∀ x ∈ p0, x.block < W.heap.size := fun x hx => hlt x (by rw [hp0]; exact List.mem_append_left _ hx)
  have hltq0 : ∀ x ∈ q0, x.block < W.heap.size := fun x hx => hlt x (by rw [hp0]; exact List.mem_append_right _ hx)
  have hlt1 : ∀ x ∈ p1, x.block < W.heap.size := fun x hx => hltq0 x (by rw [hp1]; exact List.mem_append_left _ hx)
  have hltq1 : ∀ x ∈ q1, x.block < W.heap.size := fun x hx => hltq0 x (by rw [hp1]; exact List.mem_append_right _ hx)
  have hlt2 : ∀ x ∈ p2, x.block < W.heap.size := fun x hx => hltq1 x (by rw [hp2]; exact List.mem_append_left _ hx)
  have hltq2 : ∀ x ∈ q2, x.block < W.heap.size := fun x hx => hltq1 x (by rw [hp2]; exact List.mem_append_right _ hx)
  obtain ⟨aa, a, ca, rfl, hac, ham, har, han, e0⟩ := open_byt Try.underlying25 Try.underlying5 cells5 (hval 0 25 v0 rfl rfl) h0 hlt0
  have haz := reach_byt hsz (j := 0) (d := d0) rfl rfl e0
  obtain ⟨ab, b, cb, rfl, hbc, hbm, hbr, hbn, e1⟩ := open_byt Try.underlying25 Try.underlying5 cells5 (hval 1 25 v1 rfl rfl) h1 hlt1
  have hbz := reach_byt hsz (j := 1) (d := d1) rfl rfl e1
  obtain ⟨au, u, cu, rfl, huc, hum, hur, hun, e2⟩ := open_byt Try.underlying25 Try.underlying5 cells5 (hval 2 25 v2 rfl rfl) h2 hlt2
  have huz := reach_byt hsz (j := 2) (d := d2) rfl rfl e2
  refine (again_law aa a ca ab b cb au u cu W har han hac ham hbr hbn hbc hbm hur hun huc hum).mono fun e W' ⟨he, hb⟩ => ?_
  subst he
  exact ⟨_, rfl, _, _, _, [], p, [], hW', trodAll_mk1 (shut_bool Try.underlying4 _), below_trodAll laidOut hb _ _ _ _ (by kernel_rfl) hAk hlt, rfl, hb.frame _, fun h => by cases h⟩

theorem cutAgain_reads (os : Os) {H : Type} (enc : TypeId × Value → H) : ∃ places, DataW.whole enc Try.prog ((laidWorld os).forCall (fun _ _ => 0) ⟨#[], #[.slice none 0 0, .slice none 0 0, .slice none 0 0], []⟩).memory Try.f7.params.toList Rows.cutAgainSpec.vars false (#[Value.slice none 0 0, Value.slice none 0 0, Value.slice none 0 0] : Array Value).toList 8 = some ([.nil, .nil, .nil], [], places) :=
  ⟨[], by kernel_rfl⟩

set_option maxRecDepth 100000 in
theorem cutAgain_lifted (os : Os) (started : os.Started) (H : Type) (enc : TypeId × Value → H) (F : Stop.Interp) :
    ReturnsInHanded {} Try.checked os 7 .any ((OpenSpec.ofChange Rows.cutAgainSpec).preRow enc Try.prog Try.f7 Rows.cutAgainRow.domain false Rows.cutAgainRow.laid) (((OpenSpec.ofChange Rows.cutAgainSpec).at F).post enc Try.prog Try.f7 false true false false) := by
  obtain ⟨places, hx⟩ := cutAgain_reads os enc
  refine returnsInHanded_of_row (C := Try.checked) (s := OpenSpec.ofChange Rows.cutAgainSpec) own started (by kernel_rfl) Try.func7 ?_ ?_
  · refine ⟨laidWorld os, fun _ _ => 0, ⟨#[], #[.slice none 0 0, .slice none 0 0, .slice none 0 0], []⟩, rfl, laidWorld_shaped os _, rfl, (Input.okWide_of_okWideB (by kernel_rfl)).2, ?_, ?_⟩
    · exact OpenSpec.preRow_of_cond 8 hx (by kernel_rfl) (fun k hk => by cases hk) (by kernel_rfl) (laidWorld_met os _)
    · simp only [Assume.holds]
      exact ⟨by simp, by simp, fun _ => Modest.zero, by simp, by simp⟩
  intro W base args ds gs before hval hW _ _ hsz hL hsh _
  exact cutAgain_contract H enc W base args ds gs before hval hW hsz hL

theorem cutAgain_said : Rows.CutAgainSaid :=
  OpenClaim.holds_of_cond 7 Try.f7 rfl rfl rfl rfl rfl rfl rfl ⟨rfl, rfl, rfl, rfl, rfl⟩ rfl rfl rfl rfl rfl (by kernel_rfl) Try.func7 (by kernel_rfl)
    (of_decide_eq_true (by kernel_rfl)) (by unfold Func.isWrapper; first | (rw [if_pos (by decide +kernel)]; kernel_rfl) | (rw [if_neg (by decide +kernel)]; exact ⟨rfl, rfl⟩))
    (fun os started H enc _ F => by rw [OpenClaim.pre_eq_preRow]; exact cutAgain_lifted os started H enc F)
end Rb
/-- THE STATEMENT. -/
theorem cutAgain_holds : Rows.CutAgainSaid := Rb.cutAgain_said
end Go.Proofs.Ytdlejcokigmcdaa
