/-
  THE STATEMENT NameLong (P1.1): of every number and either of two letters, a name of so many of that letter may be just if it has at most MaxName bytes, is refused as too long else, and has so many runes; the arguments read behind the call as before.
  Conditions: the library's tables and variables as the program's text lays them (the card's tie).
-/
import Derived.Test.YtplgiagjgmlbcaaDoorCards
import Derived.Test.YtplgiagjgmlbcaaDoorTie
import Derived.Test.YtplgiagjgmlbcaaDoorWl
namespace Go.Proofs.YtplgiagjgmlbcaaDoor.Nm
open Go.ChangeShapes Go.WideShapes Go.ChangeAt Go.RowKit Go.Lib Go.ChangeMaps

/-- so many of one letter -/
def rep (c : List UInt8) : Nat → List UInt8
  | 0 => []
  | k + 1 => rep c k ++ c
theorem rep_front (c : List UInt8) : ∀ k, c ++ rep c k = rep c (k + 1)
  | 0 => by simp [rep]
  | k + 1 => by
    rw [rep, ← List.append_assoc, rep_front c k]
    rfl
theorem rep_len (c : List UInt8) : ∀ k, (rep c k).length = c.length * k
  | 0 => by simp [rep]
  | k + 1 => by
    rw [rep, List.length_append, rep_len c k, Nat.mul_succ]
/-- a letter that is decoded as it is, whatever stands behind, and may be in a name -/
def Letter (c : List UInt8) : Prop := c ≠ [] ∧ ∀ t, (decodeL (c ++ t)).2 = c.length ∧ (decodeL (c ++ t)).1 ≠ 47 ∧ (decodeL (c ++ t)).1 ≠ 0 ∧ (decodeL (c ++ t)).1 ≠ 65533
theorem letter_x : Letter [120] := ⟨by simp, fun t => by rw [decodeL_N]; simp [decodeN]⟩
theorem letter_e : Letter [195, 169] := ⟨by simp, fun t => by rw [decodeL_N]; simp [decodeN]⟩
theorem rep_count {c : List UInt8} (h : Letter c) : ∀ (k f : Nat), (rep c k).length ≤ f → countL f (rep c k) = k
  | 0, f, _ => by rw [rep, countL_nil]
  | k + 1, f, hf => by
    have hc := List.length_pos_iff.2 h.1
    rw [← rep_front, List.length_append] at hf
    obtain ⟨g, rfl⟩ : ∃ g, f = g + 1 := ⟨f - 1, by omega⟩
    rw [← rep_front, countL, if_neg (by simp [h.1]), (h.2 (rep c k)).1, List.drop_left, rep_count h k g (by omega)]
    omega
theorem rep_bad {c : List UInt8} (h : Letter c) : ∀ (k f : Nat), badL f (rep c k) = false
  | 0, f => by rw [rep, badL_nil]
  | k + 1, 0 => rfl
  | k + 1, f + 1 => by
    obtain ⟨h1, h2, h3, h4⟩ := h.2 (rep c k)
    have hs : strayL (c ++ rep c k) = false := by
      unfold strayL
      apply decide_eq_false
      intro e
      rw [e] at h4
      exact h4 rfl
    rw [← rep_front, badL, if_neg (by simp [h.1]), decide_eq_false h2, decide_eq_false h3, hs, h1, List.drop_left, rep_bad h k f]
    rfl
theorem rep_check {c : List UInt8} (h : Letter c) (hd : c.getD 0 0 ≠ 46) (k : Nat) (hk : 1 ≤ k) : checkL (rep c k) = if 100 < c.length * k then 208 else 0 := by
  obtain ⟨j, rfl⟩ : ∃ j, k = j + 1 := ⟨k - 1, by omega⟩
  obtain ⟨a, r, rfl⟩ : ∃ a r, c = a :: r := by
    cases c with
    | nil => exact absurd rfl h.1
    | cons a r => exact ⟨a, r, rfl⟩
  have hd' : a ≠ 46 := hd
  unfold checkL
  rw [rep_len, rep_bad h]
  rw [← rep_front, if_neg (by simp)]
  rw [if_neg (show ¬ ((a :: r) ++ rep (a :: r) j = [46] ∨ (a :: r) ++ rep (a :: r) j = [46, 46]) by simp [hd'])]
  simp

set_option maxHeartbeats 1000000 in
set_option maxRecDepth 100000 in
theorem long_out (n : Int) (two : Bool) (w : World) (hg : Glob w) (h : n < 1 ∨ 300 < n) :
    Calls Tryd.prog 3 #[.int .i64 n, .bool two] w fun e w' => e = .returned (.bool true) ∧ Below w.heap.size w w' := by
  rcases h with h | h
  all_goals
    go_enter Tryd.func3, Tryd.ntmps3
    go_wp2_with fail
    refine (heads_any _ hg).mono ?_
    rintro e w3 ⟨rfl, b3⟩
    go_wp2_with fail
    go_ret
    exact ⟨rfl, b3⟩

set_option maxHeartbeats 1000000 in
set_option maxRecDepth 100000 in
theorem long_in (n : Nat) (two : Bool) (c : List UInt8) (hc : Letter c) (hd : c.getD 0 0 ≠ 46) (hcl : c.length = if two then 2 else 1) (htwo : two = true → c = [195, 169]) (hone : two = false → c = [120]) (w : World) (hg : Glob w) (h1 : 1 ≤ n) (h2 : n ≤ 300) :
    Calls Tryd.prog 3 #[.int .i64 n, .bool two] w fun e w' => e = .returned (.bool true) ∧ Below w.heap.size w w' := by
  have hck := rep_check hc hd n h1
  have hct := fun f hf => rep_count hc n f hf
  have HD := Lib.hid (And.intro htwo hone)
  have HCK := Lib.hid hck
  have HCT := Lib.hid hct
  have HC := Lib.hid hcl
  have hc2 : c.length ≤ 2 := by rw [hcl]; split <;> omega
  have hrl : ∀ k, k ≤ 300 → (rep c k).length ≤ 600 := fun k hk => by
    rw [rep_len]
    have := Nat.mul_le_mul hc2 hk
    omega
  have HRL := Lib.hid hrl
  clear hck hct hcl hd htwo hone hc2 hrl
  go_enter Tryd.func3, Tryd.ntmps3
  go_wp2_with fail
  go_loop [5, 6] (fun v i => ∃ (x : ByteArray) (k : Nat), v = .string x ∧ i = .int .i64 k ∧ k ≤ n ∧ Hid (x.data.toList = rep c k) ∧ x.size ≤ 600) (fun _ i => n - (RowKit.intOf i).toNat)
  case atStart => exact ⟨⟨#[]⟩, 0, rfl, rfl, Nat.zero_le _, rfl, by decide⟩
  case round =>
    obtain ⟨x, k, rfl, rfl, hk, hx, hxs⟩ := hrel
    by_cases hkn : k < n
    · have hnx : ∀ y : ByteArray, y.data.toList = c → Hid ((x ++ y).data.toList = rep c (k + 1) ∧ (x ++ y).size ≤ 600) := fun y hy => by
        have e : (x ++ y).data.toList = rep c (k + 1) := by
          have h0 : (x ++ y).data.toList = x.data.toList ++ y.data.toList := by simp
          rw [h0, hx.out, hy, rep]
        refine ⟨e, ?_⟩
        rw [size_eq, e]
        exact HRL.out _ (by omega)
      have HNX := Lib.hid hnx
      clear hnx
      cases two with
      | true =>
        go_wp2_with fail
        go_round
        case rel =>
          have h := (HNX.out ⟨#[195, 169]⟩ (by rw [HD.out.1 rfl])).out
          exact ⟨_, k + 1, rfl, by go_num, by omega, h.1, h.2⟩
        case measure => simp [RowKit.intOf]; omega
      | false =>
        go_wp2_with fail
        go_round
        case rel =>
          have h := (HNX.out ⟨#[120]⟩ (by rw [HD.out.2 rfl])).out
          exact ⟨_, k + 1, rfl, by go_num, by omega, h.1, h.2⟩
        case measure => simp [RowKit.intOf]; omega
    · have hkk : k = n := by omega
      subst hkk
      have c1 := check_any x
      rw [hx.out, HCK.out] at c1
      have hxl : x.size = c.length * k := by rw [size_eq, hx.out, rep_len]
      rw [← hxl] at c1
      have c2 := fun W => count_any x W (by omega)
      rw [hx.out, HCT.out x.size (by rw [rep_len]; omega)] at c2
      have C1 := Lib.hid c1
      have C2 := Lib.hid c2
      clear c1 c2 hxl
      by_cases hL : 100 < x.size
      · have c1 := C1.out
        rw [if_pos hL] at c1
        have C1 := Lib.hid c1
        clear c1
        go_wp2_with fail
        refine (C1.out _).mono ?_
        rintro e w1 ⟨rfl, b1⟩
        go_wp2_with fail
        refine (heads_any _ (hg.below b1)).mono ?_
        rintro e w3 ⟨rfl, b3⟩
        go_wp2_with fail
        go_ret
        exact ⟨rfl, b1.trans (b3.mono b1.size)⟩
      · have c1 := C1.out
        rw [if_neg hL] at c1
        have C1 := Lib.hid c1
        clear c1
        go_wp2_with fail
        refine (C1.out _).mono ?_
        rintro e w1 ⟨rfl, b1⟩
        go_wp2_with fail
        refine (C2.out _).mono ?_
        rintro e w2 ⟨rfl, b2⟩
        have b12 := b1.trans (b2.mono b1.size)
        go_wp2_with fail
        refine (heads_any _ (hg.below b12)).mono ?_
        rintro e w3 ⟨rfl, b3⟩
        go_wp2_with fail
        go_ret
        exact ⟨rfl, b12.trans (b3.mono b12.size)⟩

theorem long_law (n : Int) (two : Bool) (w : World) (hg : Glob w) :
    Calls Tryd.prog 3 #[.int .i64 n, .bool two] w fun e w' => e = .returned (.bool true) ∧ Below w.heap.size w w' := by
  by_cases h : n < 1 ∨ 300 < n
  · exact long_out n two w hg h
  · obtain ⟨m, rfl⟩ : ∃ m : Nat, n = m := ⟨n.toNat, by omega⟩
    cases two with
    | true => exact long_in m true [195, 169] letter_e (by decide) rfl (fun _ => rfl) (fun h => by cases h) w hg (by omega) (by omega)
    | false => exact long_in m false [120] letter_x (by decide) rfl (fun h => by cases h) (fun _ => rfl) w hg (by omega) (by omega)
set_option maxRecDepth 100000 in
/-- WHAT THE WALK GIVES, for every argument and every memory that meets the row. -/
theorem nameLong_contract (H : Type) (enc : TypeId × Value → H) (W : World) (base : Nat) (args : Array Value) (ds gs : List (DataW H)) (before : List MemPlace)
    (hval : ∀ (j : Nat) t v, Tryd.f3.params[j]? = some t → args[j]? = some v → Value.okWide Tryd.prog W .any base t v)
    (hW : DataW.Whole enc Tryd.prog Tryd.f3.params.toList Rows.nameLongSpec.vars false W args.toList ds gs before) (hL : laidMetH Tryd.prog Rows.nameLongRow.laid W) (hsh : W.ShapedOpen Tryd.prog) :
    Calls Tryd.prog 3 args W fun e W' => ∃ v, e = .returned v ∧ Rows.nameLongSpec.post enc Tryd.prog Tryd.f3 false true false false W args v W' := by
  have hW' := hW
  obtain ⟨p, q, hA0, hV, rfl, hfz, hnd⟩ := hW
  have hA : DataW.TrodAll enc Tryd.prog W 0 (fun _ => true) true Tryd.f3.params.toList args.toList ds p := hA0
  rw [Tryd.params3] at hA hval
  obtain ⟨v0, vs0, d0, ds0, p0, q0, hargs, rfl, rfl, h0, r0⟩ := trodAll_cons hA
  obtain ⟨v1, vs1, d1, ds1, p1, q1, rfl, rfl, rfl, h1, r1⟩ := trodAll_cons r0
  obtain ⟨rfl, rfl, rfl⟩ := trodAll_nil r1
  obtain rfl : args = #[v0, v1] := by cases args; simp_all
  obtain ⟨rfl, rfl⟩ := trodVars_none hV
  obtain ⟨n, rfl, rfl, rfl, ws0⟩ := open_int Tryd.underlying3 (hval 0 3 v0 rfl rfl) h0
  obtain ⟨two, rfl, rfl, rfl⟩ := open_bool Tryd.underlying4 (hval 1 4 v1 rfl rfl) h1
  clear hA0
  simp only [List.append_nil] at hW'
  refine (long_law n two W (glob_of hL hsh)).mono fun e W' ⟨he, hb⟩ => ?_
  subst he
  exact ⟨_, rfl, post_plain hW' hb (fun _ _ _ => trodAll_mk1 (shut_bool Tryd.underlying4 _)) (fun _ => trodAll_cons_mk (shut_int Tryd.underlying3 ws0) (trodAll_cons_mk (shut_bool Tryd.underlying4 _) trodAll_mk0)) (fun _ => rfl)⟩

theorem nameLong_met (os : Os) (args : Array Value) : laidMetH Tryd.prog Rows.nameLongRow.laid ((World.laidAll Tryd.prog os laidAll).forCall (fun _ _ => 0) ⟨#[], args, []⟩).memory := by
  rw [MakeChecks.laidMetH_plain _ _ _ (by kernel_rfl)]
  exact laidMet_laidAll _ (by kernel_rfl) (by kernel_rfl)
theorem nameLong_reads (os : Os) {H : Type} (enc : TypeId × Value → H) : ∃ places, DataW.whole enc Tryd.prog ((World.laidAll Tryd.prog os laidAll).forCall (fun _ _ => 0) ⟨#[], #[.int .i64 0, .bool false], []⟩).memory Tryd.f3.params.toList Rows.nameLongSpec.vars false #[Value.int .i64 0, .bool false].toList 8 = some ([.lit (.int .i64 0), .lit (.bool false)], [], places) :=
  ⟨[], by kernel_rfl⟩

set_option maxRecDepth 100000 in
theorem nameLong_lifted (os : Os) (started : os.Started) (H : Type) (enc : TypeId × Value → H) (F : Stop.Interp) :
    ReturnsInHanded {} Tryd.checked os 3 .any ((OpenSpec.ofChange Rows.nameLongSpec).preRow enc Tryd.prog Tryd.f3 Rows.nameLongRow.domain false Rows.nameLongRow.laid) (((OpenSpec.ofChange Rows.nameLongSpec).at F).post enc Tryd.prog Tryd.f3 false true false false) := by
  obtain ⟨places, hx⟩ := nameLong_reads os enc
  refine returnsInHanded_of_row (C := Tryd.checked) (s := OpenSpec.ofChange Rows.nameLongSpec) own started (by kernel_rfl) Tryd.func3 ?_ ?_
  · refine ⟨World.laidAll Tryd.prog os laidAll, fun _ _ => 0, ⟨#[], #[.int .i64 0, .bool false], []⟩, World.laidAll_os _ _ _, World.shaped_of_ZipB (by kernel_rfl) (by kernel_rfl), rfl, (Input.okWide_of_okWideB (by kernel_rfl)).2, ?_, ?_⟩
    · exact OpenSpec.preRow_of_cond 8 hx (by kernel_rfl) (fun k hk => by cases hk) (by kernel_rfl) (nameLong_met os _)
    · simp only [Assume.holds]
      exact ⟨by simp, by simp, fun _ => Modest.zero, by simp, by simp⟩
  intro W base args ds gs before hval hW _ _ _ hL hsh _
  exact nameLong_contract H enc W base args ds gs before hval hW hL hsh

theorem nameLong_said : Rows.NameLongSaid :=
  OpenClaim.holds_of_cond 3 Tryd.f3 rfl rfl rfl rfl rfl rfl rfl ⟨rfl, rfl, rfl, rfl, rfl⟩ rfl rfl rfl rfl rfl (by kernel_rfl) Tryd.func3 (by kernel_rfl)
    (of_decide_eq_true (by kernel_rfl)) (by unfold Func.isWrapper; first | (rw [if_pos (by decide +kernel)]; kernel_rfl) | (rw [if_neg (by decide +kernel)]; exact ⟨rfl, rfl⟩))
    (fun os started H enc _ F => by rw [OpenClaim.pre_eq_preRow]; exact nameLong_lifted os started H enc F)
end Nm
theorem nameLong_plain (f : FuncId) (fn : Func) (hf : Tryd.pinned.checked.prog.funcNamed Rows.nameLongRow.func = some f) (hfn : Tryd.pinned.checked.prog.funcs[f]? = some fn) :
    true = Tryd.pinned.checked.prog.looks [] ∧ ∀ (j : Nat) t, fn.params[j]? = some t → Tryd.pinned.checked.prog.wantsStandIn t = false := by
  obtain rfl : f = 3 := Option.some.inj ((show Tryd.prog.funcNamed Rows.nameLongRow.func = some 3 by kernel_rfl).symm.trans hf) |>.symm
  obtain rfl : fn = Tryd.f3 := (Option.some.inj (Tryd.func3.symm.trans hfn)).symm
  refine ⟨by kernel_rfl, fun j t ht => ?_⟩
  rw [Tryd.params3] at ht
  have hm : t ∈ [3, 4] := by simpa using Array.mem_of_getElem? ht
  have hall : ([3, 4].all fun u => !Tryd.prog.wantsStandIn u) = true := by kernel_rfl
  exact (show Tryd.prog.wantsStandIn t = false by simpa using List.all_eq_true.1 hall t hm)
/-- THE STATEMENT. -/
theorem nameLong_card : Rows.NameLongCardSaid :=
  Claim7.holds_tied_plain_at .later [] _ _ _ _ Nm.nameLong_said (fun _ h => by cases h) (by kernel_rfl) (fun _ h => by cases h) nameLong_row_tie rfl ⟨rfl, rfl⟩ (by kernel_rfl) rfl nameLong_plain (by kernel_rfl)
end Go.Proofs.YtplgiagjgmlbcaaDoor
