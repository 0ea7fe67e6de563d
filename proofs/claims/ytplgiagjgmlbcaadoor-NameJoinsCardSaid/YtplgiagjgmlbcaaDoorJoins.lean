/-
  THE STATEMENT NameJoins (P1.5): of every row of texts that may be names, within a path's length, the joined path is split into them again, and must be a directory's just if there are none; the row reads behind the call as before.
  Conditions: the library's tables and variables as the program's text lays them (the card's tie).
-/
import Derived.Test.YtplgiagjgmlbcaaDoorCards
import Derived.Test.YtplgiagjgmlbcaaDoorTie
import Derived.Test.YtplgiagjgmlbcaaDoorWl
import Derived.Test.YtplgiagjgmlbcaaDoorPj
import Derived.Carry
import Derived.SizedLaws
import Derived.SliceStrings
namespace Go.Proofs.YtplgiagjgmlbcaaDoor.Nm
open Go.ChangeShapes Go.WideShapes Go.ChangeAt Go.RowKit Go.Lib Go.ChangeMaps

theorem joinL_take (l : List ByteArray) (i : Nat) (h : i < l.length) : (joinL (l.take (i + 1))).length = (joinL (l.take i)).length + 1 + l[i].size := by
  rw [List.take_succ_eq_append_getElem h, joinL_app, List.length_append]
  simp only [joinL, List.length_cons, List.length_append, List.length_nil]
  rw [← size_eq]
  omega

set_option maxHeartbeats 4000000 in
set_option maxRecDepth 100000 in
theorem joins_law (v : Value) (l : List ByteArray) (w : World) (hg : Glob w) (hv : Strs w v l) (hl : l.length ≤ 9223372036854775806) :
    Calls Tryd.prog 9 #[v] w fun e w' => e = .returned (.bool true) ∧ Below w.heap.size w w' := by
  have HV := Lib.hid hv
  obtain ⟨ao, c, rfl, k1⟩ := hv
  have K1 := Lib.hid k1
  clear k1
  go_enter Tryd.func9, Tryd.ntmps9
  go_wp2_with fail
  go_loopw [3, 4] (fun vn vi wr => ∃ (n i : Nat), vn = .int .i64 n ∧ vi = .int .i64 i ∧ i ≤ l.length ∧ n ≤ 1101 ∧ Below w.heap.size w wr ∧ Hid ((joinL (l.take i)).length = n ∧ ∀ m ∈ l.take i, checkL m.data.toList = 0)) (fun _ vi _ => l.length - (RowKit.intOf vi).toNat)
  case atStart => exact ⟨0, 0, rfl, rfl, by omega, by omega, Below.refl _ _, by show _ ∧ _; simp [joinL]⟩
  case round =>
    obtain ⟨n, i, rfl, rfl, hi, hn, hbr, hh⟩ := hrel
    have hgr := hg.below hbr
    have hbz := hbr.size
    by_cases hil : i < l.length
    · by_cases hn1 : n ≤ 1000
      · obtain ⟨b1, o1, rfl, hb1, q1⟩ := K1.out (by intro h; rw [h] at hil; simp at hil)
        have d1 : wr.cell? ⟨b1, o1 + i, none⟩ = some (.string l[i]) := (hbr.cell (p := ⟨b1, o1 + i, none⟩) hb1).trans (q1 i hil)
        have hj := joinL_take l i hil
        have hm : ∀ m ∈ l.take (i + 1), m ∈ l.take i ∨ m = l[i] := fun m hm => by
          rw [List.take_succ_eq_append_getElem hil, List.mem_append] at hm
          exact hm.imp id (fun h => List.mem_singleton.1 h)
        obtain ⟨x, hx⟩ : ∃ x, x = l[i] := ⟨_, rfl⟩
        rw [← hx] at d1 hj hm
        have hck := check_any x
        have hb1' : b1 < wr.heap.size := Nat.lt_of_lt_of_le hb1 hbz
        clear q1 hx
        by_cases hc : checkL x.data.toList = 0
        · have hxs := (name_ok _ hc).2.2.2.2
          rw [← size_eq] at hxs
          have HN : Hid ((joinL (l.take (i + 1))).length = n + 1 + x.size ∧ ∀ m ∈ l.take (i + 1), checkL m.data.toList = 0) := by
            show _ ∧ _
            obtain ⟨h1, h2⟩ := hh.out
            refine ⟨by rw [hj, h1], fun m hmm => ?_⟩
            rcases hm m hmm with h | h
            · exact h2 m h
            · rw [h]; exact hc
          rw [hc] at hck
          have HCK := Lib.hid hck
          clear hck hh hc hj hm
          go_wp2_with fail
          refine (HCK.out _).mono ?_
          rintro e w2 ⟨rfl, hb2⟩
          have d2 : w2.cell? ⟨b1, o1 + i, none⟩ = some (.string x) := (hb2.cell (p := ⟨b1, o1 + i, none⟩) hb1').trans d1
          have hbr2 := hbr.trans (hb2.mono hbz)
          go_wp2_with fail
          go_roundw
          case rel => exact ⟨n + 1 + x.size, i + 1, by go_num, by go_num, by omega, by omega, hbr2, HN⟩
          case measure => simp [RowKit.intOf]; omega
        · obtain ⟨q, hq⟩ : ∃ q, q = checkL x.data.toList := ⟨_, rfl⟩
          rw [← hq] at hck hc
          have HCK := Lib.hid hck
          have e4 : (q != 0) = true := by simpa using hc
          clear hck hh hc hj hm hq
          go_wp2_with fail
          refine (HCK.out _).mono ?_
          rintro e w2 ⟨rfl, hb2⟩
          have hbr2 := hbr.trans (hb2.mono hbz)
          go_wp2_with fail
          refine (heads_any _ (hg.below hbr2)).mono ?_
          rintro e w3 ⟨rfl, b3⟩
          go_wp2_with fail
          go_ret
          exact ⟨rfl, hbr2.trans (b3.mono hbr2.size)⟩
      · go_wp2_with fail
        refine (heads_any _ hgr).mono ?_
        rintro e w3 ⟨rfl, b3⟩
        go_wp2_with fail
        go_ret
        exact ⟨rfl, hbr.trans (b3.mono hbz)⟩
    · by_cases hn1 : n ≤ 1000
      · obtain ⟨h1, h2⟩ := hh.out
        rw [List.take_of_length_le (by omega)] at h1 h2
        have sv := strs_below HV.out hbr
        have cj := join_any _ l wr sv hl (by omega)
        have cs := fun W (h : Glob W) => split_any ⟨(joinN l).toArray⟩ W h
        rw [joins_back l h2 (by omega)] at cs
        have hdz : (decide (l = []) == ((l.length : Int) == 0)) = true := by
          cases l with
          | nil => rfl
          | cons a r =>
            simp only [List.length_cons]
            have : ((((r.length + 1 : Nat) : Int)) == 0) = false := by simp; omega
            rw [this]
            simp
        have CJ := Lib.hid cj
        have CS := Lib.hid cs
        clear cj cs h1 h2 hh sv
        go_wp2_with fail
        refine CJ.out.mono ?_
        rintro e w1 ⟨rfl, b1⟩
        have g1 := hgr.below b1
        have l1 := b1.size
        go_wp2_with fail
        refine (CS.out _ g1).mono ?_
        rintro e w2 ⟨b2, v2, rfl, s2⟩
        have l2 := b2.size
        have g2 := g1.below b2
        have sv2 := strs_below (strs_below (strs_below HV.out hbr) b1) b2
        have ct := texts_any v2 _ l l w2 hl s2 sv2
        rw [decide_eq_true rfl] at ct
        have CT := Lib.hid ct
        clear ct s2 sv2
        go_wp2_with fail
        refine CT.out.mono ?_
        rintro e w3 ⟨rfl, b3⟩
        have g3 := g2.below b3
        have l3 := b3.size
        go_wp2_with fail
        refine (heads_any _ g3).mono ?_
        rintro e w4 ⟨rfl, b4⟩
        go_wp2_with fail
        go_ret
        exact ⟨rfl, ((((hbr.trans (b1.mono hbz)).trans (b2.mono (by omega))).trans (b3.mono (by omega))).trans (b4.mono (by omega)))⟩
      · go_wp2_with fail
        refine (heads_any _ hgr).mono ?_
        rintro e w3 ⟨rfl, b3⟩
        go_wp2_with fail
        go_ret
        exact ⟨rfl, hbr.trans (b3.mono hbz)⟩

theorem laidOut : laidOutB Tryd.prog = true := by kernel_rfl
theorem bytes9 : Tryd.prog.bytesOf 9 = 16 := by kernel_rfl
set_option maxRecDepth 100000 in
/-- WHAT THE WALK GIVES, for every row of texts and every memory that meets the row. -/
theorem nameJoins_contract (H : Type) (enc : TypeId × Value → H) (W : World) (base : Nat) (args : Array Value) (ds gs : List (DataW H)) (before : List MemPlace)
    (hval : ∀ (j : Nat) t v, Tryd.f9.params[j]? = some t → args[j]? = some v → Value.okWide Tryd.prog W .any base t v)
    (hW : DataW.Whole enc Tryd.prog Tryd.f9.params.toList Rows.nameJoinsSpec.vars false W args.toList ds gs before)
    (hsz0 : (DataW.weightsEach Tryd.prog (Tryd.f9.params.toList ++ (OpenSpec.ofChange Rows.nameJoinsSpec).bare.plain.varTypes Tryd.prog) (ds ++ gs)).all (· ≤ reachBytes) = true) (hL : laidMetH Tryd.prog Rows.nameJoinsRow.laid W) (hsh : W.ShapedOpen Tryd.prog) :
    Calls Tryd.prog 9 args W fun e W' => ∃ v, e = .returned v ∧ Rows.nameJoinsSpec.post enc Tryd.prog Tryd.f9 false true false false W args v W' := by
  have hsz := hsz0
  clear hsz0
  have hW' := hW
  obtain ⟨p, q, hA0, hV, rfl, hfz, hnd⟩ := hW
  have hA : DataW.TrodAll enc Tryd.prog W 0 (fun _ => true) true Tryd.f9.params.toList args.toList ds p := hA0
  rw [Tryd.params9] at hA hval hsz
  obtain ⟨v0, d0, rfl, rfl, h0⟩ := trodAll_one hA
  obtain ⟨rfl, rfl⟩ := trodVars_none hV
  obtain ⟨a0, len, cap, rfl⟩ := okWide_slice Tryd.underlying31 (hval 0 31 v0 rfl rfl)
  have h0k := h0
  obtain ⟨fuel, hf⟩ := h0
  clear hA0
  simp only [List.append_nil] at hW'
  have hlt : ∀ x ∈ p, x.block < W.heap.size := fun x hx => by simpa using hW'.lt x hx
  have fin : ∀ (l : List ByteArray), Strs W (.slice a0 len cap) l → l.length ≤ 9223372036854775806 → Calls Tryd.prog 9 #[.slice a0 len cap] W fun e W' => ∃ v, e = .returned v ∧ Rows.nameJoinsSpec.post enc Tryd.prog Tryd.f9 false true false false W #[.slice a0 len cap] v W' := by
    intro l hs hl
    refine (joins_law _ l W (glob_of hL hsh) hs hl).mono fun e W' ⟨he, hb⟩ => ?_
    subst he
    exact ⟨_, rfl, _, _, _, [], p, [], hW', trodAll_mk1 (shut_bool Tryd.underlying4 _), trodAll_mk1 (Below.trod laidOut (by kernel_rfl) (of_decide_eq_true (by kernel_rfl)) h0k hb hlt), rfl, hb.frame _, fun h => by cases h⟩
  rcases open_strings Tryd.underlying31 Tryd.underlying9 cells9 hf with ⟨hcs, hx⟩ | ⟨a, len', cap', ss, hcs, _, hl, hm, hz, hx, hcell, hws⟩
  · simp [Value.cells] at hcs
    obtain ⟨rfl, rfl, rfl⟩ := hcs
    exact fin [] (strs_nil W) (by simp)
  · simp [Value.cells] at hcs
    obtain ⟨rfl, rfl, rfl⟩ := hcs
    simp only [Prod.mk.injEq] at hx
    obtain ⟨rfl, rfl⟩ := hx
    simp only [if_true] at hz
    have hreach : len * 16 ≤ 140737488351232 := by
      have := sized_slice hsz (j := 0) (t := 31) (e := 9) rfl rfl Tryd.underlying31
      rw [bytes9] at this
      simp only [strs, List.length_map, List.length_take, List.length_drop, reachBytes] at this
      omega
    have hll : (ss.take len).length = len := by rw [List.length_take]; omega
    refine fin (ss.take len) ⟨some a, cap, by rw [hll], fun hne => ?_⟩ (by rw [hll]; omega)
    have hl0 : len ≠ 0 := by
      intro h
      apply hne
      rw [h]
      rfl
    obtain ⟨b, off, spot⟩ := a
    have hspot : spot = none := by simpa [Addr.add] using World.cell?_spot (hcell 0 (by omega))
    subst hspot
    refine ⟨b, off, rfl, hlt (.cell b off) (MemPlace.mem_row.2 ⟨0, by omega, by simp⟩), fun j hj => ?_⟩
    rw [hll] at hj
    have hc := hcell j (by omega)
    rw [add_plain] at hc
    rw [hc, List.getElem_take]
    have hjs : j < ss.length := by omega
    simp only [List.getD, List.getElem?_eq_getElem hjs, Option.getD_some]

theorem nameJoins_met (os : Os) (args : Array Value) : laidMetH Tryd.prog Rows.nameJoinsRow.laid ((World.laidAll Tryd.prog os laidAll).forCall (fun _ _ => 0) ⟨#[], args, []⟩).memory := by
  rw [MakeChecks.laidMetH_plain _ _ _ (by kernel_rfl)]
  exact laidMet_laidAll _ (by kernel_rfl) (by kernel_rfl)
theorem nameJoins_reads (os : Os) {H : Type} (enc : TypeId × Value → H) : ∃ places, DataW.whole enc Tryd.prog ((World.laidAll Tryd.prog os laidAll).forCall (fun _ _ => 0) ⟨#[], #[.slice none 0 0], []⟩).memory Tryd.f9.params.toList Rows.nameJoinsSpec.vars false #[Value.slice none 0 0].toList 8 = some ([.nil], [], places) :=
  ⟨[], by kernel_rfl⟩

set_option maxRecDepth 100000 in
theorem nameJoins_lifted (os : Os) (started : os.Started) (H : Type) (enc : TypeId × Value → H) (F : Stop.Interp) :
    ReturnsInHanded {} Tryd.checked os 9 .any ((OpenSpec.ofChange Rows.nameJoinsSpec).preRow enc Tryd.prog Tryd.f9 Rows.nameJoinsRow.domain false Rows.nameJoinsRow.laid) (((OpenSpec.ofChange Rows.nameJoinsSpec).at F).post enc Tryd.prog Tryd.f9 false true false false) := by
  obtain ⟨places, hx⟩ := nameJoins_reads os enc
  refine returnsInHanded_of_row (C := Tryd.checked) (s := OpenSpec.ofChange Rows.nameJoinsSpec) own started (by kernel_rfl) Tryd.func9 ?_ ?_
  · refine ⟨World.laidAll Tryd.prog os laidAll, fun _ _ => 0, ⟨#[], #[.slice none 0 0], []⟩, World.laidAll_os _ _ _, World.shaped_of_ZipB (by kernel_rfl) (by kernel_rfl), rfl, (Input.okWide_of_okWideB (by kernel_rfl)).2, ?_, ?_⟩
    · exact OpenSpec.preRow_of_cond 8 hx (by kernel_rfl) (fun k hk => by cases hk) (by kernel_rfl) (nameJoins_met os _)
    · simp only [Assume.holds]
      exact ⟨by simp, by simp, fun _ => Modest.zero, by simp, by simp⟩
  intro W base args ds gs before hval hW _ _ hsz hL hsh _
  exact nameJoins_contract H enc W base args ds gs before hval hW hsz hL hsh

theorem nameJoins_said : Rows.NameJoinsSaid :=
  OpenClaim.holds_of_cond 9 Tryd.f9 rfl rfl rfl rfl rfl rfl rfl ⟨rfl, rfl, rfl, rfl, rfl⟩ rfl rfl rfl rfl rfl (by kernel_rfl) Tryd.func9 (by kernel_rfl)
    (of_decide_eq_true (by kernel_rfl)) (by unfold Func.isWrapper; first | (rw [if_pos (by decide +kernel)]; kernel_rfl) | (rw [if_neg (by decide +kernel)]; exact ⟨rfl, rfl⟩))
    (fun os started H enc _ F => by rw [OpenClaim.pre_eq_preRow]; exact nameJoins_lifted os started H enc F)
end Nm
theorem nameJoins_plain (f : FuncId) (fn : Func) (hf : Tryd.pinned.checked.prog.funcNamed Rows.nameJoinsRow.func = some f) (hfn : Tryd.pinned.checked.prog.funcs[f]? = some fn) :
    true = Tryd.pinned.checked.prog.looks [] ∧ ∀ (j : Nat) t, fn.params[j]? = some t → Tryd.pinned.checked.prog.wantsStandIn t = false := by
  obtain rfl : f = 9 := Option.some.inj ((show Tryd.prog.funcNamed Rows.nameJoinsRow.func = some 9 by kernel_rfl).symm.trans hf) |>.symm
  obtain rfl : fn = Tryd.f9 := (Option.some.inj (Tryd.func9.symm.trans hfn)).symm
  refine ⟨by kernel_rfl, fun j t ht => ?_⟩
  rw [Tryd.params9] at ht
  have hm : t ∈ [31] := by simpa using Array.mem_of_getElem? ht
  have hall : ([31].all fun u => !Tryd.prog.wantsStandIn u) = true := by kernel_rfl
  exact (show Tryd.prog.wantsStandIn t = false by simpa using List.all_eq_true.1 hall t hm)
/-- THE STATEMENT. -/
theorem nameJoins_card : Rows.NameJoinsCardSaid :=
  Claim7.holds_tied_plain_at .later [] _ _ _ _ Nm.nameJoins_said (fun _ h => by cases h) (by kernel_rfl) (fun _ h => by cases h) nameJoins_row_tie rfl ⟨rfl, rfl⟩ (by kernel_rfl) rfl nameJoins_plain (by kernel_rfl)
end Go.Proofs.YtplgiagjgmlbcaaDoor
