/-
  The contract of the document's own escape, its other forms. Condition: a text is not longer than 2^32 bytes.
-/
import Derived.Test.YtplgiagjgmlbcaaDoorWe2
namespace Go.Proofs.YtplgiagjgmlbcaaDoor.Nm
open Go.RowKit Go.Lib

set_option maxHeartbeats 1000000 in
set_option maxRecDepth 100000 in
theorem esc_no_empty (s : ByteArray) (w : World) (h : ¬ 0 < s.size) : Calls Tryd.prog 39 #[.string s] w (XPost none w) := by
  go_enter Tryd.func39, Tryd.ntmps39
  go_wp2_with fail
  go_ret3
  exact esc_none_fin _ _ _
set_option maxHeartbeats 1000000 in
set_option maxRecDepth 100000 in
theorem esc_no_short (s : ByteArray) (w : World) (h0 : 0 < s.size) (h : ¬ 3 ≤ s.size) (e34 : (((s[0]'h0).toNat : Int) == 34) = false) (e92 : (((s[0]'h0).toNat : Int) == 92) = false) : Calls Tryd.prog 39 #[.string s] w (XPost none w) := by
  go_enter Tryd.func39, Tryd.ntmps39
  go_wp2_with fail
  go_ret3
  exact esc_none_fin _ _ _
set_option maxHeartbeats 1000000 in
set_option maxRecDepth 100000 in
theorem esc_no_three (s : ByteArray) (w : World) (h0 : 0 < s.size) (h3 : 3 ≤ s.size) (h : s.size < 4) (e34 : (((s[0]'h0).toNat : Int) == 34) = false) (e92 : (((s[0]'h0).toNat : Int) == 92) = false) (e120 : (((s[0]'h0).toNat : Int) == 120) = false) : Calls Tryd.prog 39 #[.string s] w (XPost none w) := by
  go_enter Tryd.func39, Tryd.ntmps39
  go_wp2_with fail
  go_ret3
  exact esc_none_fin _ _ _
set_option maxHeartbeats 1000000 in
set_option maxRecDepth 100000 in
theorem esc_no_u (s : ByteArray) (w : World) (h0 : 0 < s.size) (h4 : 4 ≤ s.size) (h1 : 1 < s.size) (e34 : (((s[0]'h0).toNat : Int) == 34) = false) (e92 : (((s[0]'h0).toNat : Int) == 92) = false) (e120 : (((s[0]'h0).toNat : Int) == 120) = false)
    (he : (((s[0]'h0).toNat : Int) != 117) = true ∨ ((((s[0]'h0).toNat : Int) != 117) = false ∧ (((s[1]'h1).toNat : Int) != 123) = true)) : Calls Tryd.prog 39 #[.string s] w (XPost none w) := by
  rcases he with he | ⟨he, hf⟩
  all_goals
    go_enter Tryd.func39, Tryd.ntmps39
    go_wp2_with fail
    go_ret3
    exact esc_none_fin _ _ _

theorem digR_125 : digR 125 = -1 := by decide +kernel
set_option maxHeartbeats 2000000 in
set_option maxRecDepth 100000 in
theorem esc_loop (s : ByteArray) (w : World) (hs : s.size ≤ 4294967296) (h0 : 0 < s.size) (h4 : 4 ≤ s.size) (h1 : 1 < s.size) (e34 : (((s[0]'h0).toNat : Int) == 34) = false) (e92 : (((s[0]'h0).toNat : Int) == 92) = false) (e120 : (((s[0]'h0).toNat : Int) == 120) = false)
    (e117 : (((s[0]'h0).toNat : Int) != 117) = false) (e123 : (((s[1]'h1).toNat : Int) != 123) = false) : Calls Tryd.prog 39 #[.string s] w (XPost (escU s.data.toList 7 2 0) w) := by
  obtain ⟨z, hz⟩ : ∃ z, z = escU s.data.toList 7 2 0 := ⟨_, rfl⟩
  rw [← hz]
  have HZ := Lib.hid hz
  have hlz : s.data.toList.length = s.size := (size_eq s).symm
  have HLZ := Lib.hid hlz
  clear hz hlz
  go_enter Tryd.func39, Tryd.ntmps39
  go_wp2_with fail
  go_loop [5, 6] (fun vx vi => ∃ (i f x : Nat), vx = .int .i64 x ∧ vi = .int .i64 i ∧ 2 ≤ i ∧ i + f = 9 ∧ x < 268435456 ∧ Hid (x < 16 ^ (i - 2)) ∧ Hid (z = escU s.data.toList f i x)) (fun _ vi => 9 - (RowKit.intOf vi).toNat)
  case atStart => exact ⟨2, 7, 0, rfl, rfl, by omega, by omega, by omega, by show _ < _; decide, HZ.out⟩
  case round =>
    obtain ⟨i, f, x, rfl, rfl, hi, hif, hx, hxp, hh⟩ := hrel
    by_cases hin : i < s.size
    · by_cases hf : f = 0
      · subst hf
        obtain rfl : z = none := hh.out
        have hi9 : i = 9 := by omega
        subst hi9
        go_wp2_with fail
        go_ret3
        exact esc_none_fin _ _ _
      · obtain ⟨g, rfl⟩ : ∃ g, f = g + 1 := ⟨f - 1, by omega⟩
        have hn := hh.out
        have hg := getD_at s i hin
        rw [escU, if_pos (by rw [HLZ.out]; exact hin), hg] at hn
        have hi9 : i < 9 := by omega
        have cd := fun W => digit_ref (s[i]'hin) W
        have bd := digR_le (s[i]'hin)
        have hc256 := (s[i]'hin).toNat_lt
        by_cases h125 : (s[i]'hin).toNat = 125
        · have e125 : (((s[i]'hin).toNat : Int) == 125) = true := by rw [h125]; rfl
          by_cases hi2 : 2 < i
          · rw [if_pos ⟨h125, hi2⟩] at hn
            have ce := encode_ref x (by omega) w
            have HN := Lib.hid hn
            have CE := Lib.hid ce
            clear hh hn cd ce hg h125 bd
            go_wp2_with fail
            refine CE.out.mono ?_
            rintro e w1 ⟨hb1, he⟩
            cases hE : encR x with
            | none =>
              rw [hE] at he
              simp only at he
              subst he
              have hzn : z = none := by rw [HN.out, hE]; rfl
              have HZN := Lib.hid hzn
              clear hE hzn
              go_wp2_with fail
              go_ret3
              exact ⟨hb1, by rw [HZN.out]; exact ⟨_, _, rfl⟩⟩
            | some b =>
              rw [hE] at he
              simp only at he
              obtain ⟨v, rfl, hby⟩ := he
              have hzn : z = some (b, i + 1) := by rw [HN.out, hE]; rfl
              have HZN := Lib.hid hzn
              have HBY := Lib.hid hby
              clear hE hzn hby
              go_wp2_with fail
              go_ret3
              exact ⟨hb1, by rw [HZN.out]; exact ⟨v, rfl, HBY.out⟩⟩
          · rw [if_neg (by omega)] at hn
            have hd : digR (s[i]'hin) = -1 := by
              have : s[i]'hin = 125 := UInt8.toNat_inj.1 (by rw [h125]; rfl)
              rw [this]
              exact digR_125
            rw [hd] at hn cd
            rw [if_pos (by omega)] at hn
            subst hn
            have CD := Lib.hid cd
            clear hh cd hg h125 bd hd
            go_wp2_with fail
            refine (CD.out _).mono ?_
            rintro e w1 ⟨rfl, rfl⟩
            go_wp2_with fail
            go_ret3
            exact esc_none_fin _ _ _
        · have e125 : (((s[i]'hin).toNat : Int) == 125) = false := by simp; omega
          rw [if_neg (by omega)] at hn
          obtain ⟨d, hd⟩ : ∃ d, d = digR (s[i]'hin) := ⟨_, rfl⟩
          rw [← hd] at hn cd bd
          by_cases hd0 : d < 0
          · rw [if_pos hd0] at hn
            subst hn
            have CD := Lib.hid cd
            clear hh cd hg h125 hd
            go_wp2_with fail
            refine (CD.out _).mono ?_
            rintro e w1 ⟨rfl, rfl⟩
            go_wp2_with fail
            go_ret3
            exact esc_none_fin _ _ _
          · rw [if_neg hd0] at hn
            have hnew : 16 * x + d.toNat < 16 ^ (i + 1 - 2) := by
              have h := hxp.out
              rw [show i + 1 - 2 = (i - 2) + 1 by omega, Nat.pow_succ]
              omega
            have hx28 : 16 * x + d.toNat < 268435456 := Nat.lt_of_lt_of_le hnew (Nat.le_trans (Nat.pow_le_pow_right (by decide) (show i + 1 - 2 ≤ 7 by omega)) (by decide))
            obtain ⟨m, rfl⟩ : ∃ m : Nat, d = m := ⟨d.toNat, by omega⟩
            rw [Int.toNat_natCast] at hn hnew hx28
            have CD := Lib.hid cd
            have HN := Lib.hid hn
            have HW := Lib.hid hnew
            clear hh cd hg h125 hd hn hnew
            go_wp2_with fail
            refine (CD.out _).mono ?_
            rintro e w1 ⟨rfl, rfl⟩
            go_wp2_with fail
            refine (CD.out _).mono ?_
            rintro e w1 ⟨rfl, rfl⟩
            go_wp2_with fail
            go_round
            case rel => exact ⟨i + 1, g, 16 * x + m, by go_num, by go_num, by omega, by omega, hx28, HW, HN⟩
            case measure => simp [RowKit.intOf]; omega
    · have hn := hh.out
      have hzn : z = none := by
        cases f with
        | zero => exact hn
        | succ g => rw [escU, if_neg (by rw [HLZ.out]; exact hin)] at hn; exact hn
      subst hzn
      clear hh hn
      go_wp2_with fail
      go_ret3
      exact esc_none_fin _ _ _
end Go.Proofs.YtplgiagjgmlbcaaDoor.Nm
