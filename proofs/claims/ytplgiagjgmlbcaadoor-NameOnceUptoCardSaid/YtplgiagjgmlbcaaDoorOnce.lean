/-
  THE STATEMENT NameOnce (P1.4), where what it reads is of bulk at most 1048576: whatever text is unquoted by Unquote, Quote of the answer is that text again, and what is refused comes back as the empty text; the text that was handed in reads behind the call as before.
  Conditions: the input's bulk (the statement's own); the library's tables and variables as the program's text lays them (the card's tie).
-/
import Derived.Test.YtplgiagjgmlbcaaDoorCards
import Derived.Test.YtplgiagjgmlbcaaDoorTie
import Derived.Test.YtplgiagjgmlbcaaDoorWl
import Derived.Test.YtplgiagjgmlbcaaDoorPe
namespace Go.Proofs.YtplgiagjgmlbcaaDoor.Nm
open Go.ChangeShapes Go.WideShapes Go.ChangeAt Go.RowKit Go.Lib Go.ChangeMaps

set_option maxRecDepth 100000 in
theorem once_law (s : ByteArray) (w : World) (hg : Glob w) (hs : s.size ≤ 268435456) :
    Calls Tryd.prog 4 #[.string s] w fun e w' => e = .returned (.bool true) ∧ Below w.heap.size w w' := by
  have cu := unquote_any s w hg hs
  have hst : s.toList = s.data.toList := toList_data s
  cases hu : unqL s.data.toList with
  | none =>
    rw [hu] at cu
    have CU := Lib.hid cu
    clear cu hu hst
    go_enter Tryd.func4, Tryd.ntmps4
    go_wp2_with fail
    refine CU.out.mono ?_
    rintro e w1 ⟨b1, he⟩
    simp only at he
    subst he
    go_wp2_with fail
    refine (heads_any _ (hg.below b1)).mono ?_
    rintro e w2 ⟨rfl, b2⟩
    go_wp2_with fail
    go_ret
    exact ⟨rfl, b1.trans (b2.mono b1.size)⟩
  | some t =>
    have hq := unqL_quote _ _ hu
    rw [hu] at cu
    have heq : (quoteL t == s.toList) = true := by rw [hst, hq]; simp
    have htl : t.length ≤ 4294967296 := by
      have h1 := quoteL_ge t
      rw [hq, ← size_eq] at h1
      omega
    have CU := Lib.hid cu
    clear cu hu hst hq
    go_enter Tryd.func4, Tryd.ntmps4
    go_wp2_with fail
    refine CU.out.mono ?_
    rintro e w1 ⟨b1, he⟩
    simp only at he
    subst he
    have g1 := hg.below b1
    go_wp2_with fail
    refine (quote_any ⟨t.toArray⟩ _ g1 (by rw [size_list]; exact htl)).mono ?_
    rintro e w2 ⟨rfl, b2⟩
    have g2 := g1.below b2
    go_wp2_with fail
    refine (heads_any _ g2).mono ?_
    rintro e w3 ⟨rfl, b3⟩
    go_wp2_with fail
    go_ret
    exact ⟨rfl, (b1.trans (b2.mono b1.size)).trans (b3.mono (Nat.le_trans b1.size b2.size))⟩

theorem bulk_one {H : Type} {l : List UInt8} (h : Rows.uptoSmall H ([.lit (.string l)] ++ []) = true) : l.length ≤ 1048576 := by
  have h' := of_decide_eq_true h
  simp only [List.append_nil, Rows.uptoBulkAll, Rows.uptoBulk] at h'
  omega

set_option maxRecDepth 100000 in
/-- WHAT THE WALK GIVES, for every argument and every memory that meets the row. -/
theorem once_contract (H : Type) (enc : TypeId × Value → H) (W : World) (base : Nat) (args : Array Value) (ds gs : List (DataW H)) (before : List MemPlace)
    (hval : ∀ (j : Nat) t v, Tryd.f4.params[j]? = some t → args[j]? = some v → Value.okWide Tryd.prog W .any base t v)
    (hW : DataW.Whole enc Tryd.prog Tryd.f4.params.toList Rows.nameOnceSpec.vars false W args.toList ds gs before) (hk : Rows.uptoSmall H (ds ++ gs) = true) (hL : laidMetH Tryd.prog Rows.nameOnceUptoRow.laid W) (hsh : W.ShapedOpen Tryd.prog) :
    Calls Tryd.prog 4 args W fun e W' => ∃ v, e = .returned v ∧ Rows.nameOnceSpec.post enc Tryd.prog Tryd.f4 false true false false W args v W' := by
  have hW' := hW
  obtain ⟨p, q, hA0, hV, rfl, hfz, hnd⟩ := hW
  have hA : DataW.TrodAll enc Tryd.prog W 0 (fun _ => true) true Tryd.f4.params.toList args.toList ds p := hA0
  rw [Tryd.params4] at hA hval
  obtain ⟨v0, d0, rfl, rfl, h0⟩ := trodAll_one hA
  obtain ⟨rfl, rfl⟩ := trodVars_none hV
  obtain ⟨s, rfl, rfl, rfl, ws⟩ := open_string Tryd.underlying9 (hval 0 9 v0 rfl rfl) h0
  have hs := bulk_one hk
  rw [← size_eq] at hs
  clear hA0
  simp only [List.append_nil] at hW'
  refine (once_law s W (glob_of hL hsh) (by omega)).mono fun e W' ⟨he, hb⟩ => ?_
  subst he
  exact ⟨_, rfl, post_plain hW' hb (fun _ _ _ => trodAll_mk1 (shut_bool Tryd.underlying4 _)) (fun _ => trodAll_mk1 (shut_string Tryd.underlying9 ws)) (fun _ => rfl)⟩

theorem once_met (os : Os) (args : Array Value) : laidMetH Tryd.prog Rows.nameOnceUptoRow.laid ((World.laidAll Tryd.prog os laidAll).forCall (fun _ _ => 0) ⟨#[], args, []⟩).memory := by
  rw [MakeChecks.laidMetH_plain _ _ _ (by kernel_rfl)]
  exact laidMet_laidAll _ (by kernel_rfl) (by kernel_rfl)
theorem once_reads (os : Os) {H : Type} (enc : TypeId × Value → H) : ∃ places, DataW.whole enc Tryd.prog ((World.laidAll Tryd.prog os laidAll).forCall (fun _ _ => 0) ⟨#[], #[.string ⟨#[]⟩], []⟩).memory Tryd.f4.params.toList Rows.nameOnceSpec.vars false #[Value.string ⟨#[]⟩].toList 8 = some ([.lit (.string [])], [], places) :=
  ⟨[], by kernel_rfl⟩

set_option maxRecDepth 100000 in
theorem once_lifted (os : Os) (started : os.Started) (H : Type) (enc : TypeId × Value → H) (F : Stop.Interp) :
    ReturnsInHanded {} Tryd.checked os 4 .any ((Rows.OpenSpec.upto Rows.nameOnceSpec).preRow enc Tryd.prog Tryd.f4 Rows.nameOnceUptoRow.domain false Rows.nameOnceUptoRow.laid) (((Rows.OpenSpec.upto Rows.nameOnceSpec).at F).post enc Tryd.prog Tryd.f4 false true false false) := by
  obtain ⟨places, hx⟩ := once_reads os enc
  refine returnsInHanded_of_row (C := Tryd.checked) (s := Rows.OpenSpec.upto Rows.nameOnceSpec) own started (by kernel_rfl) Tryd.func4 ?_ ?_
  · refine ⟨World.laidAll Tryd.prog os laidAll, fun _ _ => 0, ⟨#[], #[.string ⟨#[]⟩], []⟩, World.laidAll_os _ _ _, World.shaped_of_ZipB (by kernel_rfl) (by kernel_rfl), rfl, (Input.okWide_of_okWideB (by kernel_rfl)).2, ?_, ?_⟩
    · exact OpenSpec.preRow_of_cond 8 hx (by kernel_rfl) (fun k hk => by cases hk; kernel_rfl) (by kernel_rfl) (once_met os _)
    · simp only [Assume.holds]
      exact ⟨by simp, by simp, fun _ => Modest.zero, by simp, by simp⟩
  intro W base args ds gs before hval hW _ hcond _ hL hsh _
  exact once_contract H enc W base args ds gs before hval hW (hcond _ rfl) hL hsh

theorem once_said : Rows.NameOnceUptoSaid :=
  OpenClaim.holds_of_cond 4 Tryd.f4 rfl rfl rfl rfl rfl rfl rfl ⟨rfl, rfl, rfl, rfl, rfl⟩ rfl rfl rfl rfl rfl (by kernel_rfl) Tryd.func4 (by kernel_rfl)
    (of_decide_eq_true (by kernel_rfl)) (by unfold Func.isWrapper; first | (rw [if_pos (by decide +kernel)]; kernel_rfl) | (rw [if_neg (by decide +kernel)]; exact ⟨rfl, rfl⟩))
    (fun os started H enc _ F => by rw [OpenClaim.pre_eq_preRow]; exact once_lifted os started H enc F)
end Nm
theorem once_plain (f : FuncId) (fn : Func) (hf : Tryd.pinned.checked.prog.funcNamed Rows.nameOnceUptoRow.func = some f) (hfn : Tryd.pinned.checked.prog.funcs[f]? = some fn) :
    true = Tryd.pinned.checked.prog.looks [] ∧ ∀ (j : Nat) t, fn.params[j]? = some t → Tryd.pinned.checked.prog.wantsStandIn t = false := by
  obtain rfl : f = 4 := Option.some.inj ((show Tryd.prog.funcNamed Rows.nameOnceUptoRow.func = some 4 by kernel_rfl).symm.trans hf) |>.symm
  obtain rfl : fn = Tryd.f4 := (Option.some.inj (Tryd.func4.symm.trans hfn)).symm
  refine ⟨by kernel_rfl, fun j t ht => ?_⟩
  rw [Tryd.params4] at ht
  obtain rfl : t = 9 := by simpa using Array.mem_of_getElem? ht
  exact (show Tryd.prog.wantsStandIn 9 = false by kernel_rfl)
/-- THE STATEMENT. -/
theorem nameOnce_card : Rows.NameOnceUptoCardSaid :=
  Claim7.holds_tied_plain_at .later [] _ _ _ _ Nm.once_said (fun _ h => by cases h) (by kernel_rfl) (fun _ h => by cases h) nameOnceUpto_row_tie rfl ⟨rfl, rfl⟩ (by kernel_rfl) rfl once_plain (by kernel_rfl)
end Go.Proofs.YtplgiagjgmlbcaaDoor
