/-
  THE STATEMENT NameTotal (P1.3): of every three texts the order of the first two is turned round when they are, says 0 just of texts that are one, and goes on over the second to the third; the texts read behind the call as before.
  Conditions: the library's tables and variables as the program's text lays them (the card's tie).
-/
import Derived.Test.YtplgiagjgmlbcaaDoorCards
import Derived.Test.YtplgiagjgmlbcaaDoorTie
import Derived.Test.YtplgiagjgmlbcaaDoorWl
import Derived.Test.YtplgiagjgmlbcaaDoorPf
namespace Go.Proofs.YtplgiagjgmlbcaaDoor.Nm
open Go.ChangeShapes Go.WideShapes Go.ChangeAt Go.RowKit Go.Lib Go.ChangeMaps

set_option maxHeartbeats 1000000 in
set_option maxRecDepth 100000 in
theorem total_law (a b c : ByteArray) (w : World) (hg : Glob w) :
    Calls Tryd.prog 10 #[.string a, .string b, .string c] w fun e w' => e = .returned (.bool true) ∧ Below w.heap.size w w' := by
  have o1 := fun W (h : Glob W) => order_any a b W h
  have o2 := fun W (h : Glob W) => order_any b c W h
  have o3 := fun W (h : Glob W) => order_any a c W h
  have o4 := fun W (h : Glob W) => order_any b a W h
  rw [order_neg] at o4
  have hr := order_range a.data.toList b.data.toList
  have hz := order_zero a.data.toList b.data.toList
  have hr2 := order_range b.data.toList c.data.toList
  have hr3 := order_range a.data.toList c.data.toList
  have ht := order_trans a.data.toList b.data.toList c.data.toList
  have hta : a.toList = a.data.toList := toList_data a
  have htb : b.toList = b.data.toList := toList_data b
  generalize orderL a.data.toList b.data.toList = x at o1 o4 hr hz ht
  generalize orderL b.data.toList c.data.toList = y at o2 hr2 ht
  generalize orderL a.data.toList c.data.toList = z at o3 hr3 ht
  have O1 := Lib.hid o1
  have O2 := Lib.hid o2
  have O3 := Lib.hid o3
  have O4 := Lib.hid o4
  clear o1 o2 o3 o4
  rw [← hta, ← htb] at hz
  clear hta htb
  have hx1 : -1 ≤ x ∧ x ≤ 1 := by omega
  have hy1 : -1 ≤ y ∧ y ≤ 1 := by omega
  have hz1 : -1 ≤ z ∧ z ≤ 1 := by omega
  obtain ⟨x0, x1⟩ := hx1
  obtain ⟨y0, y1⟩ := hy1
  obtain ⟨z0, z1⟩ := hz1
  have walk : ∀ (q : Bool), (a.toList == b.toList) = q → ((x : Int) == 0) = q → (x ≤ 0 → y ≤ 0 → z ≤ 0) → Calls Tryd.prog 10 #[.string a, .string b, .string c] w fun e w' => e = .returned (.bool true) ∧ Below w.heap.size w w' := fun q h1 h2 h3 => by
    have H3 := Lib.hid h3
    clear h3 hr hr2 hr3 hz ht
    go_enter Tryd.func10, Tryd.ntmps10
    go_wp2_with fail
    refine (O1.out _ hg).mono ?_
    rintro e w1 ⟨rfl, b1⟩
    have g1 := hg.below b1
    go_wp2_with fail
    refine (O2.out _ g1).mono ?_
    rintro e w2 ⟨rfl, b2⟩
    have g2 := g1.below b2
    go_wp2_with fail
    refine (O3.out _ g2).mono ?_
    rintro e w3 ⟨rfl, b3⟩
    have g3 := g2.below b3
    go_wp2_with fail
    refine (O4.out _ g3).mono ?_
    rintro e w4 ⟨rfl, b4⟩
    have g4 := g3.below b4
    go_wp2_with fail
    all_goals first
      | (exfalso; exact absurd (H3.out (by assumption) (by assumption)) (by omega))
      | (refine (heads_any _ g4).mono ?_
         rintro e w5 ⟨rfl, b5⟩
         go_wp2_with fail
         go_ret
         exact ⟨rfl, (((b1.trans (b2.mono b1.size)).trans (b3.mono (Nat.le_trans b1.size b2.size))).trans (b4.mono (Nat.le_trans b1.size (Nat.le_trans b2.size b3.size)))).trans (b5.mono (Nat.le_trans b1.size (Nat.le_trans b2.size (Nat.le_trans b3.size b4.size))))⟩)
  by_cases he : a.toList = b.toList
  · exact walk true (by simp [he]) (by rw [hz.2 he]; rfl) ht
  · refine walk false (by simp [he]) ?_ ht
    have hx : ¬ x = 0 := fun h => he (hz.1 h)
    simpa using hx
set_option maxRecDepth 100000 in
/-- WHAT THE WALK GIVES, for every argument and every memory that meets the row. -/
theorem nameTotal_contract (H : Type) (enc : TypeId × Value → H) (W : World) (base : Nat) (args : Array Value) (ds gs : List (DataW H)) (before : List MemPlace)
    (hval : ∀ (j : Nat) t v, Tryd.f10.params[j]? = some t → args[j]? = some v → Value.okWide Tryd.prog W .any base t v)
    (hW : DataW.Whole enc Tryd.prog Tryd.f10.params.toList Rows.nameTotalSpec.vars false W args.toList ds gs before) (hL : laidMetH Tryd.prog Rows.nameTotalRow.laid W) (hsh : W.ShapedOpen Tryd.prog) :
    Calls Tryd.prog 10 args W fun e W' => ∃ v, e = .returned v ∧ Rows.nameTotalSpec.post enc Tryd.prog Tryd.f10 false true false false W args v W' := by
  have hW' := hW
  obtain ⟨p, q, hA0, hV, rfl, hfz, hnd⟩ := hW
  have hA : DataW.TrodAll enc Tryd.prog W 0 (fun _ => true) true Tryd.f10.params.toList args.toList ds p := hA0
  rw [Tryd.params10] at hA hval
  obtain ⟨v0, vs0, d0, ds0, p0, q0, hargs, rfl, rfl, h0, r0⟩ := trodAll_cons hA
  obtain ⟨v1, vs1, d1, ds1, p1, q1, rfl, rfl, rfl, h1, r1⟩ := trodAll_cons r0
  obtain ⟨v2, vs2, d2, ds2, p2, q2, rfl, rfl, rfl, h2, r2⟩ := trodAll_cons r1
  obtain ⟨rfl, rfl, rfl⟩ := trodAll_nil r2
  obtain rfl : args = #[v0, v1, v2] := by cases args; simp_all
  obtain ⟨rfl, rfl⟩ := trodVars_none hV
  obtain ⟨a, rfl, rfl, rfl, ws0⟩ := open_string Tryd.underlying9 (hval 0 9 v0 rfl rfl) h0
  obtain ⟨b, rfl, rfl, rfl, ws1⟩ := open_string Tryd.underlying9 (hval 1 9 v1 rfl rfl) h1
  obtain ⟨c, rfl, rfl, rfl, ws2⟩ := open_string Tryd.underlying9 (hval 2 9 v2 rfl rfl) h2
  clear hA0
  simp only [List.append_nil] at hW'
  refine (total_law a b c W (glob_of hL hsh)).mono fun e W' ⟨he, hb⟩ => ?_
  subst he
  exact ⟨_, rfl, post_plain hW' hb (fun _ _ _ => trodAll_mk1 (shut_bool Tryd.underlying4 _)) (fun _ => trodAll_cons_mk (shut_string Tryd.underlying9 ws0) (trodAll_cons_mk (shut_string Tryd.underlying9 ws1) (trodAll_cons_mk (shut_string Tryd.underlying9 ws2) trodAll_mk0))) (fun _ => rfl)⟩

theorem nameTotal_met (os : Os) (args : Array Value) : laidMetH Tryd.prog Rows.nameTotalRow.laid ((World.laidAll Tryd.prog os laidAll).forCall (fun _ _ => 0) ⟨#[], args, []⟩).memory := by
  rw [MakeChecks.laidMetH_plain _ _ _ (by kernel_rfl)]
  exact laidMet_laidAll _ (by kernel_rfl) (by kernel_rfl)
theorem nameTotal_reads (os : Os) {H : Type} (enc : TypeId × Value → H) : ∃ places, DataW.whole enc Tryd.prog ((World.laidAll Tryd.prog os laidAll).forCall (fun _ _ => 0) ⟨#[], #[.string ⟨#[]⟩, .string ⟨#[]⟩, .string ⟨#[]⟩], []⟩).memory Tryd.f10.params.toList Rows.nameTotalSpec.vars false #[Value.string ⟨#[]⟩, .string ⟨#[]⟩, .string ⟨#[]⟩].toList 8 = some ([.lit (.string []), .lit (.string []), .lit (.string [])], [], places) :=
  ⟨[], by kernel_rfl⟩

set_option maxRecDepth 100000 in
theorem nameTotal_lifted (os : Os) (started : os.Started) (H : Type) (enc : TypeId × Value → H) (F : Stop.Interp) :
    ReturnsInHanded {} Tryd.checked os 10 .any ((OpenSpec.ofChange Rows.nameTotalSpec).preRow enc Tryd.prog Tryd.f10 Rows.nameTotalRow.domain false Rows.nameTotalRow.laid) (((OpenSpec.ofChange Rows.nameTotalSpec).at F).post enc Tryd.prog Tryd.f10 false true false false) := by
  obtain ⟨places, hx⟩ := nameTotal_reads os enc
  refine returnsInHanded_of_row (C := Tryd.checked) (s := OpenSpec.ofChange Rows.nameTotalSpec) own started (by kernel_rfl) Tryd.func10 ?_ ?_
  · refine ⟨World.laidAll Tryd.prog os laidAll, fun _ _ => 0, ⟨#[], #[.string ⟨#[]⟩, .string ⟨#[]⟩, .string ⟨#[]⟩], []⟩, World.laidAll_os _ _ _, World.shaped_of_ZipB (by kernel_rfl) (by kernel_rfl), rfl, (Input.okWide_of_okWideB (by kernel_rfl)).2, ?_, ?_⟩
    · exact OpenSpec.preRow_of_cond 8 hx (by kernel_rfl) (fun k hk => by cases hk) (by kernel_rfl) (nameTotal_met os _)
    · simp only [Assume.holds]
      exact ⟨by simp, by simp, fun _ => Modest.zero, by simp, by simp⟩
  intro W base args ds gs before hval hW _ _ _ hL hsh _
  exact nameTotal_contract H enc W base args ds gs before hval hW hL hsh

theorem nameTotal_said : Rows.NameTotalSaid :=
  OpenClaim.holds_of_cond 10 Tryd.f10 rfl rfl rfl rfl rfl rfl rfl ⟨rfl, rfl, rfl, rfl, rfl⟩ rfl rfl rfl rfl rfl (by kernel_rfl) Tryd.func10 (by kernel_rfl)
    (of_decide_eq_true (by kernel_rfl)) (by unfold Func.isWrapper; first | (rw [if_pos (by decide +kernel)]; kernel_rfl) | (rw [if_neg (by decide +kernel)]; exact ⟨rfl, rfl⟩))
    (fun os started H enc _ F => by rw [OpenClaim.pre_eq_preRow]; exact nameTotal_lifted os started H enc F)
end Nm
theorem nameTotal_plain (f : FuncId) (fn : Func) (hf : Tryd.pinned.checked.prog.funcNamed Rows.nameTotalRow.func = some f) (hfn : Tryd.pinned.checked.prog.funcs[f]? = some fn) :
    true = Tryd.pinned.checked.prog.looks [] ∧ ∀ (j : Nat) t, fn.params[j]? = some t → Tryd.pinned.checked.prog.wantsStandIn t = false := by
  obtain rfl : f = 10 := Option.some.inj ((show Tryd.prog.funcNamed Rows.nameTotalRow.func = some 10 by kernel_rfl).symm.trans hf) |>.symm
  obtain rfl : fn = Tryd.f10 := (Option.some.inj (Tryd.func10.symm.trans hfn)).symm
  refine ⟨by kernel_rfl, fun j t ht => ?_⟩
  rw [Tryd.params10] at ht
  have hm : t ∈ [9] := by simpa using Array.mem_of_getElem? ht
  have hall : ([9].all fun u => !Tryd.prog.wantsStandIn u) = true := by kernel_rfl
  exact (show Tryd.prog.wantsStandIn t = false by simpa using List.all_eq_true.1 hall t hm)
/-- THE STATEMENT. -/
theorem nameTotal_card : Rows.NameTotalCardSaid :=
  Claim7.holds_tied_plain_at .later [] _ _ _ _ Nm.nameTotal_said (fun _ h => by cases h) (by kernel_rfl) (fun _ h => by cases h) nameTotal_row_tie rfl ⟨rfl, rfl⟩ (by kernel_rfl) rfl nameTotal_plain (by kernel_rfl)
end Go.Proofs.YtplgiagjgmlbcaaDoor
