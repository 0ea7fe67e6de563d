/-
  The document's own answers on names and on runes: they are the plain definitions'. Condition: a text is not longer than a string can be.
-/
import Derived.Test.YtplgiagjgmlbcaaDoorWr
namespace Go.Proofs.YtplgiagjgmlbcaaDoor.Nm
open Go.RowKit Go.Lib

set_option maxHeartbeats 2000000 in
set_option maxRecDepth 100000 in
theorem count_ref (s : ByteArray) (w : World) (hs : s.size ≤ 9223372036854775807) :
    Calls Tryd.prog 20 #[.string s] w fun e w' => e = .returned (.int .i64 (countL s.size s.data.toList : Nat)) ∧ w = w' := by
  go_enter Tryd.func20, Tryd.ntmps20
  go_wp2_with fail
  go_loop [3, 4] (fun vn vi => ∃ (n i fuel : Nat), vn = .int .i64 n ∧ vi = .int .i64 i ∧ i ≤ s.size ∧ n ≤ i ∧ s.size ≤ i + fuel ∧ Hid (n + countL fuel (s.data.toList.drop i) = countL s.size s.data.toList))
    (fun _ vi => s.size - (RowKit.intOf vi).toNat)
  case atStart => exact ⟨0, 0, s.size, rfl, rfl, by omega, by omega, by omega, by show _ = _; simp⟩
  case round =>
    obtain ⟨n, i, fuel, rfl, rfl, hi, hni, hfu, hh⟩ := hrel
    by_cases hia : i < s.size
    · obtain ⟨f, rfl⟩ : ∃ f, fuel = f + 1 := ⟨fuel - 1, by omega⟩
      have hn := hh.out
      rw [countL, if_neg (drop_ne s i hia), drop_drop'] at hn
      clear hh
      have sa : (s.extract i s.size).size = s.size - i := by rw [size_eq, extract_drop, List.length_drop, ← size_eq]
      have ca := fun W => rune_said (s.extract i s.size) (by omega) W
      rw [extract_drop] at ca
      have wa := width_le _ (drop_ne s i hia)
      have pa := decodeL_width (s.data.toList.drop i)
      rw [List.length_drop, ← size_eq] at wa
      obtain ⟨p, hp⟩ : ∃ p, p = decodeL (s.data.toList.drop i) := ⟨_, rfl⟩
      rw [← hp] at ca wa pa hn
      have CA := Lib.hid ca
      have HN : Hid (n + 1 + countL f (s.data.toList.drop (i + p.2)) = countL s.size s.data.toList) := Lib.hid (by omega)
      clear ca hp sa hn
      go_wp2_with fail
      refine (CA.out _).mono ?_
      rintro e w2 ⟨rfl, rfl⟩
      go_wp2_with fail
      go_round
      case rel => exact ⟨n + 1, i + p.2, f, by go_num, by go_num, by omega, by omega, by omega, HN⟩
      case measure => simp [RowKit.intOf]; omega
    · have HN : Hid (n = countL s.size s.data.toList) := by
        have := hh.out
        rw [drop_all s i hia, countL_nil] at this
        exact this
      clear hh
      go_wp2_with fail
      go_ret
      rw [← HN.out]
      exact ⟨rfl, rfl⟩

theorem ckr_nil (s : ByteArray) (w : World) (h : s.toList.isEmpty = true) :
    Calls Tryd.prog 18 #[.string s] w fun e w' => e = .returned (.int .i64 206) ∧ w = w' := by
  go_enter Tryd.func18, Tryd.ntmps18
  go_wp2_with fail
  all_goals go_ret
  all_goals exact ⟨rfl, rfl⟩
theorem ckr_long (s : ByteArray) (w : World) (h : s.toList.isEmpty = false) (h1 : 100 < s.size) :
    Calls Tryd.prog 18 #[.string s] w fun e w' => e = .returned (.int .i64 208) ∧ w = w' := by
  go_enter Tryd.func18, Tryd.ntmps18
  go_wp2_with fail
  all_goals go_ret
  all_goals exact ⟨rfl, rfl⟩
theorem ckr_dot (s : ByteArray) (w : World) (h : s.toList.isEmpty = false) (h1 : ¬ 100 < s.size) (h2 : s.toList = [46] ∨ s.toList = [46, 46]) :
    Calls Tryd.prog 18 #[.string s] w fun e w' => e = .returned (.int .i64 206) ∧ w = w' := by
  rcases h2 with h2 | h2
  · have e1 : (s.toList == [46]) = true := by rw [h2]; rfl
    clear h2
    go_enter Tryd.func18, Tryd.ntmps18
    go_wp2_with fail
    all_goals go_ret
    all_goals exact ⟨rfl, rfl⟩
  · have e1 : (s.toList == [46]) = false := by rw [h2]; rfl
    have e2 : (s.toList == [46, 46]) = true := by rw [h2]; rfl
    clear h2
    go_enter Tryd.func18, Tryd.ntmps18
    go_wp2_with fail
    all_goals go_ret
    all_goals exact ⟨rfl, rfl⟩

set_option maxHeartbeats 2000000 in
set_option maxRecDepth 100000 in
theorem ckr_loop (s : ByteArray) (w : World) (h : s.toList.isEmpty = false) (h1 : ¬ 100 < s.size) (e1 : (s.toList == [46]) = false) (e2 : (s.toList == [46, 46]) = false) (z : Int) (hz : Hid (z = if badL s.size s.data.toList then 206 else 0)) :
    Calls Tryd.prog 18 #[.string s] w fun e w' => e = .returned (.int .i64 z) ∧ w = w' := by
  go_enter Tryd.func18, Tryd.ntmps18
  go_wp2_with fail
  go_loop [3] (fun vi => ∃ (i fuel : Nat), vi = .int .i64 i ∧ i ≤ s.size ∧ s.size ≤ i + fuel ∧ Hid (z = if badL fuel (s.data.toList.drop i) then 206 else 0))
    (fun vi => s.size - (RowKit.intOf vi).toNat)
  case atStart => exact ⟨0, s.size, rfl, by omega, by omega, hz⟩
  case round =>
    obtain ⟨i, fuel, rfl, hi, hfu, hh⟩ := hrel
    by_cases hia : i < s.size
    · obtain ⟨f, rfl⟩ : ∃ f, fuel = f + 1 := ⟨fuel - 1, by omega⟩
      have hn := hh.out
      rw [badL, if_neg (drop_ne s i hia), drop_drop'] at hn
      clear hh
      have sa : (s.extract i s.size).size = s.size - i := by rw [size_eq, extract_drop, List.length_drop, ← size_eq]
      have ca := fun W => rune_said (s.extract i s.size) (by omega) W
      rw [extract_drop] at ca
      have wa := width_le _ (drop_ne s i hia)
      have pa := decodeL_width (s.data.toList.drop i)
      rw [List.length_drop, ← size_eq] at wa
      obtain ⟨p, hp⟩ : ∃ p, p = decodeL (s.data.toList.drop i) := ⟨_, rfl⟩
      rw [← hp] at ca wa pa hn
      cases hst : strayL (s.data.toList.drop i) with
      | true =>
        rw [hst] at ca hn
        obtain rfl : z = 206 := by rw [hn]; simp
        have CA := Lib.hid ca
        clear ca hp sa hn hst
        go_wp2_with fail
        refine (CA.out _).mono ?_
        rintro e w2 ⟨rfl, rfl⟩
        go_wp2_with fail
        all_goals go_ret
        all_goals exact ⟨rfl, rfl⟩
      | false =>
        rw [hst] at ca hn
        have CA := Lib.hid ca
        clear ca hp sa hst
        by_cases r47 : p.1 = 47
        · obtain rfl : z = 206 := by rw [hn, r47]; rfl
          have e47 : ((p.1 : Int) == 47) = true := by simp [r47]
          clear hn r47
          go_wp2_with fail
          refine (CA.out _).mono ?_
          rintro e w2 ⟨rfl, rfl⟩
          go_wp2_with fail
          all_goals go_ret
          all_goals exact ⟨rfl, rfl⟩
        · have e47 : ((p.1 : Int) == 47) = false := by simp; omega
          by_cases r0 : p.1 = 0
          · obtain rfl : z = 206 := by rw [hn, r0]; rfl
            have e0 : ((p.1 : Int) == 0) = true := by simp [r0]
            clear hn r0 r47
            go_wp2_with fail
            refine (CA.out _).mono ?_
            rintro e w2 ⟨rfl, rfl⟩
            go_wp2_with fail
            all_goals go_ret
            all_goals exact ⟨rfl, rfl⟩
          · have e0 : ((p.1 : Int) == 0) = false := by simp; omega
            rw [decide_eq_false r47, decide_eq_false r0] at hn
            have HN : Hid (z = if badL f (s.data.toList.drop (i + p.2)) then 206 else 0) := hn
            clear hn r0 r47
            go_wp2_with fail
            refine (CA.out _).mono ?_
            rintro e w2 ⟨rfl, rfl⟩
            go_wp2_with fail
            go_round
            case rel => exact ⟨i + p.2, f, by go_num, by omega, by omega, HN⟩
            case measure => simp [RowKit.intOf]; omega
    · obtain rfl : z = 0 := by
        have := hh.out
        rw [drop_all s i hia, badL_nil] at this
        exact this
      clear hh
      go_wp2_with fail
      go_ret
      exact ⟨rfl, rfl⟩

theorem check_ref (s : ByteArray) (w : World) :
    Calls Tryd.prog 18 #[.string s] w fun e w' => e = .returned (.int .i64 (checkL s.data.toList)) ∧ w = w' := by
  unfold checkL
  have hl : s.data.toList.length = s.size := (size_eq s).symm
  have ht : s.toList = s.data.toList := toList_data s
  by_cases h0 : s.data.toList = []
  · rw [if_pos h0]
    exact ckr_nil s w (by rw [ht, h0]; rfl)
  · have he : s.toList.isEmpty = false := by rw [ht]; simpa using h0
    rw [if_neg h0, hl]
    by_cases h1 : 100 < s.size
    · rw [if_pos h1]
      exact ckr_long s w he h1
    · rw [if_neg h1]
      by_cases h2 : s.data.toList = [46] ∨ s.data.toList = [46, 46]
      · rw [if_pos h2]
        exact ckr_dot s w he h1 (by rw [ht]; exact h2)
      · rw [if_neg h2]
        exact ckr_loop s w he h1 (by rw [ht]; simpa using fun h => h2 (Or.inl h)) (by rw [ht]; simpa using fun h => h2 (Or.inr h)) _ (by show _ = _; rfl)
end Go.Proofs.YtplgiagjgmlbcaaDoor.Nm
