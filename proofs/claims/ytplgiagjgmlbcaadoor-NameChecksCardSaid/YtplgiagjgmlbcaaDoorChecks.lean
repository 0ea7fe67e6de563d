/-
  THE STATEMENT NameChecks (P1.1, P1.3; P1.2's names too): of every text name.Check, name.Split and name.Count tell what the document's own answers tell; the text reads behind the call as before.
  Conditions: the library's tables and variables as the program's text lays them (the card's tie).
-/
import Derived.Test.YtplgiagjgmlbcaaDoorCards
import Derived.Test.YtplgiagjgmlbcaaDoorTie
import Derived.Test.YtplgiagjgmlbcaaDoorWl
import Derived.Test.YtplgiagjgmlbcaaDoorWz
namespace Go.Proofs.YtplgiagjgmlbcaaDoor.Nm
open Go.ChangeShapes Go.WideShapes Go.ChangeAt Go.RowKit Go.Lib Go.ChangeMaps

theorem checkL_range (l : List UInt8) : 0 ≤ checkL l ∧ checkL l ≤ 208 := by
  unfold checkL
  repeat' split
  all_goals simp
theorem goN_range : ∀ (l : List ByteArray) (acc : List ByteArray), 0 ≤ (goN acc l).2 ∧ (goN acc l).2 ≤ 208
  | [], _ => by simp [goN]
  | n :: r, acc => by
    have h1 := goN_range r acc
    have h2 := goN_range r (acc ++ [n])
    have h3 := checkL_range n.data.toList
    unfold goN
    repeat' split
    all_goals assumption
theorem splitN_range (s : ByteArray) : 0 ≤ (splitN s).2.2 ∧ (splitN s).2.2 ≤ 208 := by
  have h := goN_range (splitB ⟨#[47]⟩ 0 (countB s ⟨#[47]⟩) s) []
  unfold splitN
  repeat' split
  all_goals first
    | exact h
    | simp

set_option maxHeartbeats 2000000 in
set_option maxRecDepth 100000 in
theorem checks_law (s : ByteArray) (w : World) (hg : Glob w) (hs : s.size ≤ maxLen) :
    Calls Tryd.prog 5 #[.string s] w fun e w' => e = .returned (.bool true) ∧ Below w.heap.size w w' := by
  unfold maxLen at hs
  have c1 := split_any s w hg
  have c2 := fun W => split_ref s W
  have c3 := fun W => check_any s W
  have c4 := fun W => check_ref s W
  have c5 := fun W => count_any s W (by omega)
  have c6 := fun W => count_ref s W (by omega)
  have r1 := checkL_range s.data.toList
  have r2 := splitN_range s
  have r3 := splitN_len s
  have r4 : countL s.size s.data.toList ≤ s.size := countL_le _ _
  generalize checkL s.data.toList = q at c3 c4 r1
  generalize countL s.size s.data.toList = m at c5 c6 r4
  obtain ⟨⟨ns, d, er⟩, hz⟩ : ∃ p, p = splitN s := ⟨_, rfl⟩
  rw [← hz] at c1 c2 r2 r3
  simp only at r2 r3
  have C1 := Lib.hid c1
  have C2 := Lib.hid c2
  have C3 := Lib.hid c3
  have C4 := Lib.hid c4
  have C5 := Lib.hid c5
  have C6 := Lib.hid c6
  have hq : (q == q) = true := by simp
  have he : (er == er) = true := by simp
  clear c1 c2 c3 c4 c5 c6 hz
  obtain ⟨r1a, r1b⟩ := r1
  obtain ⟨r2a, r2b⟩ := r2
  go_enter Tryd.func5, Tryd.ntmps5
  go_wp2_with fail
  refine C1.out.mono ?_
  rintro e w1 ⟨b1, v1, rfl, s1⟩
  have g1 := hg.below b1
  have S1 := Lib.hid s1
  clear s1
  go_wp2_with fail
  refine (C2.out _).mono ?_
  rintro e w2 ⟨b2, v2, rfl, s2⟩
  have g2 := g1.below b2
  have S2 := Lib.hid s2
  clear s2
  go_wp2_with fail
  refine (C3.out _).mono ?_
  rintro e w3 ⟨rfl, b3⟩
  have g3 := g2.below b3
  go_wp2_with fail
  refine (C4.out _).mono ?_
  rintro e w4 ⟨rfl, rfl⟩
  go_wp2_with fail
  have t1 := strs_below (strs_below S1.out b2) b3
  have t2 := strs_below S2.out b3
  have ct := texts_any v1 v2 ns ns w3 (by omega) t1 t2
  rw [decide_eq_true rfl] at ct
  have CT := Lib.hid ct
  clear ct t1 t2
  refine CT.out.mono ?_
  rintro e w5 ⟨rfl, b5⟩
  have g5 := g3.below b5
  go_wp2_with fail
  refine (C5.out _).mono ?_
  rintro e w6 ⟨rfl, b6⟩
  have g6 := g5.below b6
  go_wp2_with fail
  refine (C6.out _).mono ?_
  rintro e w7 ⟨rfl, rfl⟩
  go_wp2_with fail
  refine (heads_any _ g6).mono ?_
  rintro e w8 ⟨rfl, b8⟩
  go_wp2_with fail
  go_ret
  have l1 := b1.size
  have l2 := b2.size
  have l3 := b3.size
  have l5 := b5.size
  have l6 := b6.size
  have x2 := b1.trans (b2.mono l1)
  have x3 := x2.trans (b3.mono (by omega))
  have x5 := x3.trans (b5.mono (by omega))
  have x6 := x5.trans (b6.mono (by omega))
  exact ⟨rfl, x6.trans (b8.mono (by omega))⟩

set_option maxRecDepth 100000 in
/-- WHAT THE WALK GIVES, for every argument and every memory that meets the row. -/
theorem nameChecks_contract (H : Type) (enc : TypeId × Value → H) (W : World) (base : Nat) (args : Array Value) (ds gs : List (DataW H)) (before : List MemPlace)
    (hval : ∀ (j : Nat) t v, Tryd.f5.params[j]? = some t → args[j]? = some v → Value.okWide Tryd.prog W .any base t v)
    (hW : DataW.Whole enc Tryd.prog Tryd.f5.params.toList Rows.nameChecksSpec.vars false W args.toList ds gs before) (hL : laidMetH Tryd.prog Rows.nameChecksRow.laid W) (hsh : W.ShapedOpen Tryd.prog) :
    Calls Tryd.prog 5 args W fun e W' => ∃ v, e = .returned v ∧ Rows.nameChecksSpec.post enc Tryd.prog Tryd.f5 false true false false W args v W' := by
  have hW' := hW
  obtain ⟨p, q, hA0, hV, rfl, hfz, hnd⟩ := hW
  have hA : DataW.TrodAll enc Tryd.prog W 0 (fun _ => true) true Tryd.f5.params.toList args.toList ds p := hA0
  rw [Tryd.params5] at hA hval
  obtain ⟨v0, vs0, d0, ds0, p0, q0, hargs, rfl, rfl, h0, r0⟩ := trodAll_cons hA
  obtain ⟨rfl, rfl, rfl⟩ := trodAll_nil r0
  obtain rfl : args = #[v0] := by cases args; simp_all
  obtain ⟨rfl, rfl⟩ := trodVars_none hV
  obtain ⟨s, rfl, rfl, rfl, ws0⟩ := open_string Tryd.underlying9 (hval 0 9 v0 rfl rfl) h0
  clear hA0
  simp only [List.append_nil] at hW'
  refine (checks_law s W (glob_of hL hsh) ws0).mono fun e W' ⟨he, hb⟩ => ?_
  subst he
  exact ⟨_, rfl, post_plain hW' hb (fun _ _ _ => trodAll_mk1 (shut_bool Tryd.underlying4 _)) (fun _ => trodAll_cons_mk (shut_string Tryd.underlying9 ws0) trodAll_mk0) (fun _ => rfl)⟩

theorem nameChecks_met (os : Os) (args : Array Value) : laidMetH Tryd.prog Rows.nameChecksRow.laid ((World.laidAll Tryd.prog os laidAll).forCall (fun _ _ => 0) ⟨#[], args, []⟩).memory := by
  rw [MakeChecks.laidMetH_plain _ _ _ (by kernel_rfl)]
  exact laidMet_laidAll _ (by kernel_rfl) (by kernel_rfl)
theorem nameChecks_reads (os : Os) {H : Type} (enc : TypeId × Value → H) : ∃ places, DataW.whole enc Tryd.prog ((World.laidAll Tryd.prog os laidAll).forCall (fun _ _ => 0) ⟨#[], #[.string ⟨#[]⟩], []⟩).memory Tryd.f5.params.toList Rows.nameChecksSpec.vars false #[Value.string ⟨#[]⟩].toList 8 = some ([.lit (.string [])], [], places) :=
  ⟨[], by kernel_rfl⟩

set_option maxRecDepth 100000 in
theorem nameChecks_lifted (os : Os) (started : os.Started) (H : Type) (enc : TypeId × Value → H) (F : Stop.Interp) :
    ReturnsInHanded {} Tryd.checked os 5 .any ((OpenSpec.ofChange Rows.nameChecksSpec).preRow enc Tryd.prog Tryd.f5 Rows.nameChecksRow.domain false Rows.nameChecksRow.laid) (((OpenSpec.ofChange Rows.nameChecksSpec).at F).post enc Tryd.prog Tryd.f5 false true false false) := by
  obtain ⟨places, hx⟩ := nameChecks_reads os enc
  refine returnsInHanded_of_row (C := Tryd.checked) (s := OpenSpec.ofChange Rows.nameChecksSpec) own started (by kernel_rfl) Tryd.func5 ?_ ?_
  · refine ⟨World.laidAll Tryd.prog os laidAll, fun _ _ => 0, ⟨#[], #[.string ⟨#[]⟩], []⟩, World.laidAll_os _ _ _, World.shaped_of_ZipB (by kernel_rfl) (by kernel_rfl), rfl, (Input.okWide_of_okWideB (by kernel_rfl)).2, ?_, ?_⟩
    · exact OpenSpec.preRow_of_cond 8 hx (by kernel_rfl) (fun k hk => by cases hk) (by kernel_rfl) (nameChecks_met os _)
    · simp only [Assume.holds]
      exact ⟨by simp, by simp, fun _ => Modest.zero, by simp, by simp⟩
  intro W base args ds gs before hval hW _ _ _ hL hsh _
  exact nameChecks_contract H enc W base args ds gs before hval hW hL hsh

theorem nameChecks_said : Rows.NameChecksSaid :=
  OpenClaim.holds_of_cond 5 Tryd.f5 rfl rfl rfl rfl rfl rfl rfl ⟨rfl, rfl, rfl, rfl, rfl⟩ rfl rfl rfl rfl rfl (by kernel_rfl) Tryd.func5 (by kernel_rfl)
    (of_decide_eq_true (by kernel_rfl)) (by unfold Func.isWrapper; first | (rw [if_pos (by decide +kernel)]; kernel_rfl) | (rw [if_neg (by decide +kernel)]; exact ⟨rfl, rfl⟩))
    (fun os started H enc _ F => by rw [OpenClaim.pre_eq_preRow]; exact nameChecks_lifted os started H enc F)
end Nm
theorem nameChecks_plain (f : FuncId) (fn : Func) (hf : Tryd.pinned.checked.prog.funcNamed Rows.nameChecksRow.func = some f) (hfn : Tryd.pinned.checked.prog.funcs[f]? = some fn) :
    true = Tryd.pinned.checked.prog.looks [] ∧ ∀ (j : Nat) t, fn.params[j]? = some t → Tryd.pinned.checked.prog.wantsStandIn t = false := by
  obtain rfl : f = 5 := Option.some.inj ((show Tryd.prog.funcNamed Rows.nameChecksRow.func = some 5 by kernel_rfl).symm.trans hf) |>.symm
  obtain rfl : fn = Tryd.f5 := (Option.some.inj (Tryd.func5.symm.trans hfn)).symm
  refine ⟨by kernel_rfl, fun j t ht => ?_⟩
  rw [Tryd.params5] at ht
  have hm : t ∈ [9] := by simpa using Array.mem_of_getElem? ht
  have hall : ([9].all fun u => !Tryd.prog.wantsStandIn u) = true := by kernel_rfl
  exact (show Tryd.prog.wantsStandIn t = false by simpa using List.all_eq_true.1 hall t hm)
/-- THE STATEMENT. -/
theorem nameChecks_card : Rows.NameChecksCardSaid :=
  Claim7.holds_tied_plain_at .later [] _ _ _ _ Nm.nameChecks_said (fun _ h => by cases h) (by kernel_rfl) (fun _ h => by cases h) nameChecks_row_tie rfl ⟨rfl, rfl⟩ (by kernel_rfl) rfl nameChecks_plain (by kernel_rfl)
end Go.Proofs.YtplgiagjgmlbcaaDoor
