/-
  THE STATEMENT NameQuotes (P1.4), where what it reads is of bulk at most 1048576: of every text Quote and Unquote answer as the document's own page does: what it is quoted as, and which text a quoted one is, or that it is none; the text reads behind the call as before.
  Conditions: the input's bulk (the statement's own); the library's tables and variables as the program's text lays them (the card's tie).
-/
import Derived.Test.YtplgiagjgmlbcaaDoorCards
import Derived.Test.YtplgiagjgmlbcaaDoorTie
import Derived.Test.YtplgiagjgmlbcaaDoorWl
import Derived.Test.YtplgiagjgmlbcaaDoorWu2
namespace Go.Proofs.YtplgiagjgmlbcaaDoor.Nm
open Go.ChangeShapes Go.WideShapes Go.ChangeAt Go.RowKit Go.Lib Go.ChangeMaps

set_option maxHeartbeats 1000000 in
set_option maxRecDepth 100000 in
theorem quotes_law (s : ByteArray) (w : World) (hg : Glob w) (hs : s.size ≤ 1048576) :
    Calls Tryd.prog 7 #[.string s] w fun e w' => e = .returned (.bool true) ∧ Below w.heap.size w w' := by
  have c1 := unquote_any s w hg (by omega)
  have c2 := fun W => refunq_any s W hs
  have c3 := fun W (h : Glob W) => quote_any s W h (by omega)
  have c4 := fun W => quote_ref s W (by omega)
  obtain ⟨z, hz⟩ : ∃ z, z = (⟨(quoteL s.data.toList).toArray⟩ : ByteArray) := ⟨_, rfl⟩
  rw [← hz] at c3 c4
  have C3 := Lib.hid c3
  have C4 := Lib.hid c4
  clear c3 c4 hz
  cases hu : unqL s.data.toList with
  | none =>
    rw [hu] at c1 c2
    have C1 := Lib.hid c1
    have C2 := Lib.hid c2
    clear c1 c2 hu
    go_enter Tryd.func7, Tryd.ntmps7
    go_wp2_with fail
    refine C1.out.mono ?_
    rintro e w1 ⟨b1, he⟩
    simp only at he
    subst he
    have g1 := hg.below b1
    have z1 := b1.size
    go_wp2_with fail
    refine (C2.out _).mono ?_
    rintro e w2 ⟨b2, he⟩
    simp only at he
    subst he
    have g2 := g1.below b2
    have z2 := b2.size
    go_wp2_with fail
    refine (C3.out _ g2).mono ?_
    rintro e w3 ⟨rfl, b3⟩
    have g3 := g2.below b3
    have z3 := b3.size
    go_wp2_with fail
    refine (C4.out _).mono ?_
    rintro e w4 ⟨rfl, b4⟩
    have g4 := g3.below b4
    have z4 := b4.size
    go_wp2_with fail
    refine (heads_any _ g4).mono ?_
    rintro e w5 ⟨rfl, b5⟩
    go_wp2_with fail
    go_ret
    exact ⟨rfl, (((b1.trans (b2.mono z1)).trans (b3.mono (by omega))).trans (b4.mono (by omega))).trans (b5.mono (by omega))⟩
  | some t =>
    rw [hu] at c1 c2
    obtain ⟨y, hy⟩ : ∃ y, y = (⟨t.toArray⟩ : ByteArray) := ⟨_, rfl⟩
    have c1' : Calls Tryd.prog 14 #[.string s] w fun e w' => Below w.heap.size w w' ∧ e = .returned (.tuple #[.string y, .bool true]) := c1.mono fun e w' h => ⟨h.1, by rw [hy]; exact h.2⟩
    have c2' : ∀ W, Calls Tryd.prog 23 #[.string s] W fun e w' => Below W.heap.size W w' ∧ e = .returned (.tuple #[.string y, .bool true]) := fun W => (c2 W).mono fun e w' h => ⟨h.1, by rw [hy]; exact h.2⟩
    have C1 := Lib.hid c1'
    have C2 := Lib.hid c2'
    clear c1 c2 c1' c2' hu hy
    go_enter Tryd.func7, Tryd.ntmps7
    go_wp2_with fail
    refine C1.out.mono ?_
    rintro e w1 ⟨b1, rfl⟩
    have g1 := hg.below b1
    have z1 := b1.size
    go_wp2_with fail
    refine (C2.out _).mono ?_
    rintro e w2 ⟨b2, rfl⟩
    have g2 := g1.below b2
    have z2 := b2.size
    go_wp2_with fail
    refine (C3.out _ g2).mono ?_
    rintro e w3 ⟨rfl, b3⟩
    have g3 := g2.below b3
    have z3 := b3.size
    go_wp2_with fail
    refine (C4.out _).mono ?_
    rintro e w4 ⟨rfl, b4⟩
    have g4 := g3.below b4
    have z4 := b4.size
    go_wp2_with fail
    refine (heads_any _ g4).mono ?_
    rintro e w5 ⟨rfl, b5⟩
    go_wp2_with fail
    go_ret
    exact ⟨rfl, (((b1.trans (b2.mono z1)).trans (b3.mono (by omega))).trans (b4.mono (by omega))).trans (b5.mono (by omega))⟩

theorem bulk_oneQ {H : Type} {l : List UInt8} (h : Rows.uptoSmall H ([.lit (.string l)] ++ []) = true) : l.length ≤ 1048576 := by
  have h' := of_decide_eq_true h
  simp only [List.append_nil, Rows.uptoBulkAll, Rows.uptoBulk] at h'
  omega

set_option maxRecDepth 100000 in
/-- WHAT THE WALK GIVES, for every argument and every memory that meets the row. -/
theorem nameQuotes_contract (H : Type) (enc : TypeId × Value → H) (W : World) (base : Nat) (args : Array Value) (ds gs : List (DataW H)) (before : List MemPlace)
    (hval : ∀ (j : Nat) t v, Tryd.f7.params[j]? = some t → args[j]? = some v → Value.okWide Tryd.prog W .any base t v)
    (hW : DataW.Whole enc Tryd.prog Tryd.f7.params.toList Rows.nameQuotesSpec.vars false W args.toList ds gs before) (hk : Rows.uptoSmall H (ds ++ gs) = true) (hL : laidMetH Tryd.prog Rows.nameQuotesUptoRow.laid W) (hsh : W.ShapedOpen Tryd.prog) :
    Calls Tryd.prog 7 args W fun e W' => ∃ v, e = .returned v ∧ Rows.nameQuotesSpec.post enc Tryd.prog Tryd.f7 false true false false W args v W' := by
  have hW' := hW
  obtain ⟨p, q, hA0, hV, rfl, hfz, hnd⟩ := hW
  have hA : DataW.TrodAll enc Tryd.prog W 0 (fun _ => true) true Tryd.f7.params.toList args.toList ds p := hA0
  rw [Tryd.params7] at hA hval
  obtain ⟨v0, vs0, d0, ds0, p0, q0, hargs, rfl, rfl, h0, r0⟩ := trodAll_cons hA
  obtain ⟨rfl, rfl, rfl⟩ := trodAll_nil r0
  obtain rfl : args = #[v0] := by cases args; simp_all
  obtain ⟨rfl, rfl⟩ := trodVars_none hV
  obtain ⟨s, rfl, rfl, rfl, ws0⟩ := open_string Tryd.underlying9 (hval 0 9 v0 rfl rfl) h0
  have hs := bulk_oneQ hk
  rw [← size_eq] at hs
  clear hA0
  simp only [List.append_nil] at hW'
  refine (quotes_law s W (glob_of hL hsh) hs).mono fun e W' ⟨he, hb⟩ => ?_
  subst he
  exact ⟨_, rfl, post_plain hW' hb (fun _ _ _ => trodAll_mk1 (shut_bool Tryd.underlying4 _)) (fun _ => trodAll_cons_mk (shut_string Tryd.underlying9 ws0) trodAll_mk0) (fun _ => rfl)⟩

theorem nameQuotes_met (os : Os) (args : Array Value) : laidMetH Tryd.prog Rows.nameQuotesUptoRow.laid ((World.laidAll Tryd.prog os laidAll).forCall (fun _ _ => 0) ⟨#[], args, []⟩).memory := by
  rw [MakeChecks.laidMetH_plain _ _ _ (by kernel_rfl)]
  exact laidMet_laidAll _ (by kernel_rfl) (by kernel_rfl)
theorem nameQuotes_reads (os : Os) {H : Type} (enc : TypeId × Value → H) : ∃ places, DataW.whole enc Tryd.prog ((World.laidAll Tryd.prog os laidAll).forCall (fun _ _ => 0) ⟨#[], #[.string ⟨#[]⟩], []⟩).memory Tryd.f7.params.toList Rows.nameQuotesSpec.vars false #[Value.string ⟨#[]⟩].toList 8 = some ([.lit (.string [])], [], places) :=
  ⟨[], by kernel_rfl⟩

set_option maxRecDepth 100000 in
theorem nameQuotes_lifted (os : Os) (started : os.Started) (H : Type) (enc : TypeId × Value → H) (F : Stop.Interp) :
    ReturnsInHanded {} Tryd.checked os 7 .any ((Rows.OpenSpec.upto Rows.nameQuotesSpec).preRow enc Tryd.prog Tryd.f7 Rows.nameQuotesUptoRow.domain false Rows.nameQuotesUptoRow.laid) (((Rows.OpenSpec.upto Rows.nameQuotesSpec).at F).post enc Tryd.prog Tryd.f7 false true false false) := by
  obtain ⟨places, hx⟩ := nameQuotes_reads os enc
  refine returnsInHanded_of_row (C := Tryd.checked) (s := Rows.OpenSpec.upto Rows.nameQuotesSpec) own started (by kernel_rfl) Tryd.func7 ?_ ?_
  · refine ⟨World.laidAll Tryd.prog os laidAll, fun _ _ => 0, ⟨#[], #[.string ⟨#[]⟩], []⟩, World.laidAll_os _ _ _, World.shaped_of_ZipB (by kernel_rfl) (by kernel_rfl), rfl, (Input.okWide_of_okWideB (by kernel_rfl)).2, ?_, ?_⟩
    · exact OpenSpec.preRow_of_cond 8 hx (by kernel_rfl) (fun k hk => by cases hk; kernel_rfl) (by kernel_rfl) (nameQuotes_met os _)
    · simp only [Assume.holds]
      exact ⟨by simp, by simp, fun _ => Modest.zero, by simp, by simp⟩
  intro W base args ds gs before hval hW _ hcond _ hL hsh _
  exact nameQuotes_contract H enc W base args ds gs before hval hW (hcond _ rfl) hL hsh

theorem nameQuotes_said : Rows.NameQuotesUptoSaid :=
  OpenClaim.holds_of_cond 7 Tryd.f7 rfl rfl rfl rfl rfl rfl rfl ⟨rfl, rfl, rfl, rfl, rfl⟩ rfl rfl rfl rfl rfl (by kernel_rfl) Tryd.func7 (by kernel_rfl)
    (of_decide_eq_true (by kernel_rfl)) (by unfold Func.isWrapper; first | (rw [if_pos (by decide +kernel)]; kernel_rfl) | (rw [if_neg (by decide +kernel)]; exact ⟨rfl, rfl⟩))
    (fun os started H enc _ F => by rw [OpenClaim.pre_eq_preRow]; exact nameQuotes_lifted os started H enc F)
end Nm
theorem nameQuotes_plain (f : FuncId) (fn : Func) (hf : Tryd.pinned.checked.prog.funcNamed Rows.nameQuotesUptoRow.func = some f) (hfn : Tryd.pinned.checked.prog.funcs[f]? = some fn) :
    true = Tryd.pinned.checked.prog.looks [] ∧ ∀ (j : Nat) t, fn.params[j]? = some t → Tryd.pinned.checked.prog.wantsStandIn t = false := by
  obtain rfl : f = 7 := Option.some.inj ((show Tryd.prog.funcNamed Rows.nameQuotesUptoRow.func = some 7 by kernel_rfl).symm.trans hf) |>.symm
  obtain rfl : fn = Tryd.f7 := (Option.some.inj (Tryd.func7.symm.trans hfn)).symm
  refine ⟨by kernel_rfl, fun j t ht => ?_⟩
  rw [Tryd.params7] at ht
  have hm : t ∈ [9] := by simpa using Array.mem_of_getElem? ht
  have hall : ([9].all fun u => !Tryd.prog.wantsStandIn u) = true := by kernel_rfl
  exact (show Tryd.prog.wantsStandIn t = false by simpa using List.all_eq_true.1 hall t hm)
/-- THE STATEMENT. -/
theorem nameQuotes_card : Rows.NameQuotesUptoCardSaid :=
  Claim7.holds_tied_plain_at .later [] _ _ _ _ Nm.nameQuotes_said (fun _ h => by cases h) (by kernel_rfl) (fun _ h => by cases h) nameQuotesUpto_row_tie rfl ⟨rfl, rfl⟩ (by kernel_rfl) rfl nameQuotes_plain (by kernel_rfl)
end Go.Proofs.YtplgiagjgmlbcaaDoor
