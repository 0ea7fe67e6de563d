/-
  The contract of the document's own Split: for every text it returns the names of the plain definition in new memory, whether it must be a directory's, and the error. Condition: a text is not longer than a string can be.
-/
import Derived.Test.YtplgiagjgmlbcaaDoorPi
import Derived.Test.YtplgiagjgmlbcaaDoorWy
import Derived.Test.YtplgiagjgmlbcaaDoorWt
namespace Go.Proofs.YtplgiagjgmlbcaaDoor.Nm
open Go.RowKit Go.Lib

/-- what is still to come -/
def restS (l : List UInt8) (acc : List ByteArray) (last : List UInt8) (fr i : Nat) : List ByteArray × Bool × Int :=
  if i ≤ l.length then runS acc last (headL ((l.take i).drop fr) (pieces (l.drop i))) else (acc, dirP last, 0)
theorem rest_start (l : List UInt8) (h : 1 ≤ l.length) : restS l [] [] 1 1 = runS [] [] (pieces (l.drop 1)) := by
  unfold restS
  rw [if_pos h, List.drop_of_length_le (by simp; omega), headL_nil _ (pieces_ne _)]
theorem rest_go (l : List UInt8) (acc : List ByteArray) (last : List UInt8) (fr i : Nat) (hf : fr ≤ i) (hi : i < l.length) (hc : l.getD i 0 ≠ 47) :
    restS l acc last fr i = restS l acc last fr (i + 1) := by
  have hg : l.getD i 0 = l[i] := by simp [List.getD, List.getElem?_eq_getElem hi]
  rw [hg] at hc
  unfold restS
  rw [if_pos (by omega), if_pos (by omega), List.drop_eq_getElem_cons hi, pieces, if_neg hc, headL_C _ _ _ (pieces_ne _), List.take_succ_eq_append_getElem hi, List.drop_append_of_le_length (by rw [List.length_take]; omega)]
theorem rest_stop (l : List UInt8) (acc : List ByteArray) (last : List UInt8) (fr i : Nat) (hi : i ≤ l.length) (hc : i < l.length → l.getD i 0 = 47) :
    ∃ more, restS l acc last fr i = runS acc last ((l.take i).drop fr :: more) ∧ ∀ acc', runS acc' ((l.take i).drop fr) more = restS l acc' ((l.take i).drop fr) (i + 1) (i + 1) := by
  by_cases h : i < l.length
  · have hg : l.getD i 0 = l[i] := by simp [List.getD, List.getElem?_eq_getElem h]
    have hc := hc h
    rw [hg] at hc
    refine ⟨pieces (l.drop (i + 1)), ?_, fun acc' => ?_⟩
    · unfold restS
      rw [if_pos hi, List.drop_eq_getElem_cons h, pieces, if_pos hc, headL, List.append_nil]
    · unfold restS
      rw [if_pos (by omega), List.drop_of_length_le (l := l.take (i + 1)) (by rw [List.length_take]; omega), headL_nil _ (pieces_ne _)]
  · refine ⟨[], ?_, fun acc' => ?_⟩
    · unfold restS
      rw [if_pos hi, List.drop_of_length_le (l := l) (by omega), pieces, headL, List.append_nil]
    · unfold restS
      rw [if_neg (by omega), runS_end]
theorem rest_end (l : List UInt8) (acc : List ByteArray) (last : List UInt8) (fr i : Nat) (hi : ¬ i ≤ l.length) : restS l acc last fr i = (acc, dirP last, 0) := by
  unfold restS
  rw [if_neg hi]
theorem cut_data (s : ByteArray) (a b : Nat) : (s.extract a b).data.toList = (s.data.toList.take b).drop a := by
  rw [extract_data, List.drop_take]

theorem spr_empty (s : ByteArray) (w : World) (h : s.toList.isEmpty = true) :
    Calls Tryd.prog 17 #[.string s] w fun e w' => e = .returned (.tuple #[.slice none 0 0, .bool false, .int .i64 206]) ∧ w = w' := by
  go_enter Tryd.func17, Tryd.ntmps17
  go_wp2_with fail
  go_ret3
  exact ⟨rfl, rfl⟩
theorem spr_long (s : ByteArray) (w : World) (h : s.toList.isEmpty = false) (h1 : 1000 < s.size) :
    Calls Tryd.prog 17 #[.string s] w fun e w' => e = .returned (.tuple #[.slice none 0 0, .bool false, .int .i64 208]) ∧ w = w' := by
  go_enter Tryd.func17, Tryd.ntmps17
  go_wp2_with fail
  go_ret3
  exact ⟨rfl, rfl⟩
theorem spr_head (s : ByteArray) (w : World) (h : s.toList.isEmpty = false) (h1 : ¬ 1000 < s.size) (h0 : 0 < s.size) (hb : (((s[0]'h0).toNat : Int) != 47) = true) :
    Calls Tryd.prog 17 #[.string s] w fun e w' => e = .returned (.tuple #[.slice none 0 0, .bool false, .int .i64 206]) ∧ w = w' := by
  go_enter Tryd.func17, Tryd.ntmps17
  go_wp2_with fail
  go_ret3
  exact ⟨rfl, rfl⟩

set_option maxHeartbeats 8000000 in
set_option maxRecDepth 100000 in
theorem spr_in (s : ByteArray) (w : World) (h : s.toList.isEmpty = false) (h1 : ¬ 1000 < s.size) (h0 : 0 < s.size) (hb : (((s[0]'h0).toNat : Int) != 47) = false)
    (Z : List ByteArray × Bool × Int) (hZ : Hid (Z = restS s.data.toList [] [] 1 1)) :
    Calls Tryd.prog 17 #[.string s] w (SPost Z w) := by
  have hls : s.data.toList.length = s.size := (size_eq s).symm
  obtain ⟨i0, hi, hz0, hz1, hz2⟩ := info_parts info9
  have HLS := Lib.hid hls
  have HGD := Lib.hid (fun k (h : k < s.size) => (getD_at s k h : s.data.toList.getD k 0 = s[k]'h))
  clear hls
  go_enter Tryd.func17, Tryd.ntmps17
  go_wp2_with fail
  go_loopw [5, 6, 7, 8] (fun v vn vf vi wr => ∃ (i fr : Nat) (acc : List ByteArray) (n : ByteArray), vn = .string n ∧ vf = .int .i64 fr ∧ vi = .int .i64 i ∧ 1 ≤ fr ∧ fr ≤ i ∧ i ≤ s.size + 1 ∧ wr.ownsRow w.heap.size 9 1 v acc.length (acc.map Value.string) ∧ Below w.heap.size w wr ∧ acc.length ≤ i ∧ Hid (Z = restS s.data.toList acc n.data.toList fr i))
    (fun _ _ _ vi _ => s.size + 1 - (RowKit.intOf vi).toNat)
  case atStart => exact ⟨1, 1, [], ⟨#[]⟩, rfl, rfl, rfl, by omega, by omega, by omega, World.ownsRow_nil _ _ _ _, Below.refl _ _, by simp, hZ.out⟩
  case round =>
    obtain ⟨i, fr, acc, n, rfl, rfl, rfl, hf1, hfi, hie, hown, hbr, hal, hh⟩ := hrel
    by_cases hin : i ≤ s.size
    · have hbz := hbr.size
      by_cases hgo : ∃ h : i < s.size, s[i]'h ≠ 47
      · obtain ⟨his, hne⟩ := hgo
        have HN : Hid (Z = restS s.data.toList acc n.data.toList fr (i + 1)) := by
          show _ = _
          rw [hh.out]
          exact rest_go _ _ _ _ _ hfi (by have := HLS.out; omega) (by rw [HGD.out i his]; exact hne)
        have hnb : (((s[i]'his).toNat : Int) != 47) = true := by
          rw [bne_iff_ne]
          intro hq
          exact hne (byte_eq (n := 47) (by omega)).symm
        clear hh hne
        go_wp2_with fail
        go_roundw
        case rel => exact ⟨i + 1, fr, acc, n, rfl, rfl, by go_num, by omega, by omega, by omega, hown, hbr, by omega, HN⟩
        case measure => simp [RowKit.intOf]; omega
      · have hc : ∀ h : i < s.size, s[i]'h = 47 := fun h => Classical.not_not.1 fun hq => hgo ⟨h, hq⟩
        clear hgo
        have hcL : i < s.data.toList.length → s.data.toList.getD i 0 = 47 := fun h => by
          have hq : i < s.size := by
            have := HLS.out
            omega
          rw [HGD.out i hq]
          exact hc hq
        obtain ⟨more, hm1, hm2⟩ := rest_stop s.data.toList acc n.data.toList fr i (by have := HLS.out; omega) hcL
        rw [← cut_data] at hm1 hm2
        have hsl : ∀ W, (Instr.slice 9 (.string s) (some (.int .i64 fr)) (some (.int .i64 i)) none).run Tryd.prog W = .ok (.string (s.extract fr i)) W := fun W => run_slice_string W 9 s .i64 .i64 fr i Tryd.underlying9 (by omega) (by omega) (by omega)
        obtain ⟨x, hx⟩ : ∃ x, x = s.extract fr i := ⟨_, rfl⟩
        rw [← hx] at hm1 hm2 hsl
        have hr := hh.out.trans hm1
        have HM2 := Lib.hid hm2
        have hxt : x.toList = x.data.toList := toList_data x
        have hstop : (∃ h : i < s.size, (((s[i]'h).toNat : Int) != 47) = false) ∨ s.size ≤ i := by
          by_cases hq : i < s.size
          · exact Or.inl ⟨hq, by rw [hc hq]; rfl⟩
          · exact Or.inr (by omega)
        clear hh hm1 hm2 hc hx hcL
        by_cases k0 : x.data.toList = [] ∨ x.data.toList = [46]
        · rw [runS_skip _ _ _ _ k0, HM2.out] at hr
          have HR := Lib.hid hr
          rw [← hxt] at k0
          clear hr hxt
          rcases k0 with k0 | k0
          · have e1 : x.toList.isEmpty = true := by rw [k0]; rfl
            clear k0
            rcases hstop with ⟨his, hnb⟩ | his
            all_goals
              go_wp2_with fail
              go_roundw
              case rel => exact ⟨i + 1, i + 1, acc, x, rfl, by go_num, by go_num, by omega, by omega, by omega, hown, hbr, by omega, HR⟩
              case measure => simp [RowKit.intOf]; omega
          · have e1 : x.toList.isEmpty = false := by rw [k0]; rfl
            have e2 : (x.toList == [46]) = true := by rw [k0]; rfl
            clear k0
            rcases hstop with ⟨his, hnb⟩ | his
            all_goals
              go_wp2_with fail
              go_roundw
              case rel => exact ⟨i + 1, i + 1, acc, x, rfl, by go_num, by go_num, by omega, by omega, by omega, hown, hbr, by omega, HR⟩
              case measure => simp [RowKit.intOf]; omega
        · have e1 : x.toList.isEmpty = false := by
            rw [hxt]
            cases hd : x.data.toList with
            | nil => exact absurd (Or.inl hd) k0
            | cons _ _ => rfl
          have e2 : (x.toList == [46]) = false := by rw [hxt]; simpa using fun h => k0 (Or.inr h)
          by_cases k2 : x.data.toList = [46, 46]
          · rw [runS_up _ _ _ _ k2, mkB_of, HM2.out] at hr
            have HR := Lib.hid hr
            have e3 : (x.toList == [46, 46]) = true := by rw [hxt, k2]; rfl
            clear hr hxt k0 k2
            rcases hstop with ⟨his, hnb⟩ | his
            all_goals
              go_wp2_with (at_builtin; refine wpList_append_own _ rfl _ _ 31 rfl w.heap.size 9 i0 (.string ⟨#[]⟩) 1 16 Tryd.underlying31 hi hz0 hz1 hz2 rfl (by decide) _ _ _ rfl (hown.alloc _) ⟨wr.heap.size, 0, none⟩ 1 1 [.string x] rfl rfl (one_new _ _) (one_cell _) (by unfold maxLen; omega) (by omega) (by simp; omega) ?_; intro v' w3 hown' hgrow _)
              have R := took hbr (Below.refl _ _) hown (Nat.le_refl _) hown' hgrow
              clear hown' hgrow hown
              go_wp2_with fail
              go_roundw
              case rel => exact ⟨i + 1, i + 1, acc ++ [x], x, rfl, by go_num, by go_num, by omega, by omega, by omega, R.1, R.2, by simp; omega, HR⟩
              case measure => simp [RowKit.intOf]; omega
          · have e3 : (x.toList == [46, 46]) = false := by rw [hxt]; simpa using k2
            by_cases hc : checkL x.data.toList = 0
            · rw [runS_name _ _ _ _ k0 k2 hc, mkB_of, HM2.out] at hr
              have HR := Lib.hid hr
              have hck := check_ref x
              rw [hc] at hck
              have HCK := Lib.hid hck
              clear hr hxt k0 k2 hc hck
              rcases hstop with ⟨his, hnb⟩ | his
              all_goals
                go_wp2_with fail
                refine (HCK.out _).mono ?_
                rintro e w2 ⟨rfl, rfl⟩
                go_wp2_with (at_builtin; refine wpList_append_own _ rfl _ _ 31 rfl w.heap.size 9 i0 (.string ⟨#[]⟩) 1 16 Tryd.underlying31 hi hz0 hz1 hz2 rfl (by decide) _ _ _ rfl (hown.alloc _) ⟨wr.heap.size, 0, none⟩ 1 1 [.string x] rfl rfl (one_new _ _) (one_cell _) (by unfold maxLen; omega) (by omega) (by simp; omega) ?_; intro v' w3 hown' hgrow _)
                have R := took hbr (Below.refl _ _) hown (Nat.le_refl _) hown' hgrow
                clear hown' hgrow hown
                go_wp2_with fail
                go_roundw
                case rel => exact ⟨i + 1, i + 1, acc ++ [x], x, rfl, by go_num, by go_num, by omega, by omega, by omega, R.1, R.2, by simp; omega, HR⟩
                case measure => simp [RowKit.intOf]; omega
            · rw [runS_bad _ _ _ _ k0 k2 hc] at hr
              have hck := check_ref x
              obtain ⟨q, hq⟩ : ∃ q, q = checkL x.data.toList := ⟨_, rfl⟩
              rw [← hq] at hck hc hr
              have HCK := Lib.hid hck
              have e4 : (q != 0) = true := by simpa using hc
              obtain rfl : Z = ([], false, q) := hr
              clear hxt k0 k2 hc hck hq
              rcases hstop with ⟨his, hnb⟩ | his
              all_goals
                go_wp2_with fail
                refine (HCK.out _).mono ?_
                rintro e w2 ⟨rfl, rfl⟩
                go_wp2_with fail
                go_ret3
                exact ⟨hbr, _, rfl, strs_nil _⟩
    · have hr := hh.out
      rw [rest_end _ _ _ _ _ (by have := HLS.out; omega)] at hr
      have hnt : n.toList = n.data.toList := toList_data n
      clear hh
      by_cases k0 : n.data.toList = []
      · obtain rfl : Z = (acc, true, 0) := by rw [hr, k0]; rfl
        have e1 : n.toList.isEmpty = true := by rw [hnt, k0]; rfl
        clear hr hnt k0
        go_wp2_with fail
        all_goals go_ret3
        all_goals exact ⟨hbr, _, rfl, strs_own hown⟩
      · have e1 : n.toList.isEmpty = false := by
          rw [hnt]
          cases hd : n.data.toList with
          | nil => exact absurd hd k0
          | cons _ _ => rfl
        by_cases k1 : n.data.toList = [46]
        · obtain rfl : Z = (acc, true, 0) := by rw [hr, k1]; rfl
          have e2 : (n.toList == [46]) = true := by rw [hnt, k1]; rfl
          clear hr hnt k0 k1
          go_wp2_with fail
          all_goals go_ret3
          all_goals exact ⟨hbr, _, rfl, strs_own hown⟩
        · obtain rfl : Z = (acc, false, 0) := by rw [hr, dirP, decide_eq_false (fun h => h.elim k0 k1)]
          have e2 : (n.toList == [46]) = false := by rw [hnt]; simpa using k1
          clear hr hnt k0 k1
          go_wp2_with fail
          all_goals go_ret3
          all_goals exact ⟨hbr, _, rfl, strs_own hown⟩

/-- the document's Split -/
theorem split_ref (s : ByteArray) (w : World) :
    Calls Tryd.prog 17 #[.string s] w (SPost (splitN s) w) := by
  have ht : s.toList = s.data.toList := toList_data s
  by_cases h0 : s.data.toList = []
  · unfold splitN
    rw [if_pos h0]
    exact (spr_empty s w (by rw [ht, h0]; rfl)).mono fun e w' ⟨he, hw⟩ => by subst hw; exact ⟨Below.refl _ _, _, he, strs_nil _⟩
  have he : s.toList.isEmpty = false := by rw [ht]; simpa using h0
  by_cases h1 : 1000 < s.size
  · unfold splitN
    rw [if_neg h0, if_pos h1]
    exact (spr_long s w he h1).mono fun e w' ⟨he, hw⟩ => by subst hw; exact ⟨Below.refl _ _, _, he, strs_nil _⟩
  have hp : 0 < s.size := by
    rw [size_eq]
    exact List.length_pos_iff.2 h0
  have hd := getD_at s 0 hp
  by_cases h2 : s.data.toList.getD 0 0 = 47
  · have hb : (((s[0]'hp).toNat : Int) != 47) = false := by
      rw [← hd, h2]; rfl
    exact spr_in s w he h1 hp hb _ (by show _ = _; rw [splitN_run s h0 h1 h2, rest_start _ (by rw [← size_eq]; omega)])
  · unfold splitN
    rw [if_neg h0, if_neg h1, if_pos h2]
    have hb : (((s[0]'hp).toNat : Int) != 47) = true := by
      rw [bne_iff_ne]
      intro h
      exact h2 (by rw [hd]; exact (byte_eq (n := 47) (by omega)).symm)
    exact (spr_head s w he h1 hp hb).mono fun e w' ⟨he, hw⟩ => by subst hw; exact ⟨Below.refl _ _, _, he, strs_nil _⟩
end Go.Proofs.YtplgiagjgmlbcaaDoor.Nm
