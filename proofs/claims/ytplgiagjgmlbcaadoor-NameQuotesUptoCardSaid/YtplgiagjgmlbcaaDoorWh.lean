/-
  The contract of name.first: for every text that is not empty, what its front stands for and what is behind it, or that it stands for nothing. Conditions: the library's variables as their texts lay them; the text shorter than 2^32 - 15 bytes.
-/
import Derived.Test.YtplgiagjgmlbcaaDoorWf
import Derived.ChangeAlike
import Derived.BigRegion
namespace Go.Proofs.YtplgiagjgmlbcaaDoor.Nm
open Go.RowKit Go.Lib

theorem conv1 (w2 : World) (v : Int) (h0 : 0 ≤ v) (h1 : v < 256) :
    (convert 44 9 (.slice (some ⟨w2.heap.size, 0, none⟩) 1 1)).run Tryd.prog (w2.alloc (.cells #[.int .u8 v] 5)).drew = .ok (.string ⟨#[v.toNat.toUInt8]⟩) (w2.alloc (.cells #[.int .u8 v] 5)).drew := by
  have hv : ((v.toNat.toUInt8).toNat : Int) = v := by simp; omega
  have h := run_convert_bytes_back (P := Tryd.prog) (w2.alloc (.cells #[.int .u8 v] 5)).drew 44 9 5 ⟨w2.heap.size, 0, none⟩ 1 [v.toNat.toUInt8] Tryd.underlying44 Tryd.underlying5 Tryd.underlying9 (fun j hj => by
    obtain rfl : j = 0 := by simpa using hj
    have ha : (⟨w2.heap.size, 0, none⟩ : Addr).add 0 = ⟨w2.heap.size, 0, none⟩ := by simp [Addr.add]
    rw [ha]
    show (w2.alloc (.cells #[.int .u8 v] 5)).cell? ⟨w2.heap.size, 0, none⟩ = _
    rw [World.cell?_alloc_new]
    simp only [List.getElem_cons_zero, hv]
    rfl)
  exact h

set_option maxRecDepth 100000 in
theorem first_hex (s : ByteArray) (w : World) (hg : Glob w) (h0 : 0 < s.size) (hs : s.size < 4294967281) (hb : (((s[0]'h0).toNat : Int) != 92) = false) (h1 : Hid (hasPrefix s.data.toList [92, 34] = false)) (h2 : Hid (hasPrefix s.data.toList [92, 92] = false))
    (h3 : Hid (hasPrefix s.data.toList [92, 117, 123] = false)) (h4 : Hid (hasPrefix s.data.toList [92, 120] = true)) (hsz : 4 ≤ s.size) (n : Nat) (hn : Hid (pU 255 (s.extract 2 4).data.toList = some n)) :
    Calls Tryd.prog 27 #[.string s] w fun e w' => (∃ p b : ByteArray, p = ⟨#[n.toUInt8]⟩ ∧ b = s.extract 4 s.size ∧ e = .returned (.tuple #[.string p, .string b, .bool true])) ∧ Below w.heap.size w w' := by
  have c1 := Tryd.strings_HasPrefix s ⟨#[92, 34]⟩
  rw [show (⟨#[92, 34]⟩ : ByteArray).data.toList = [92, 34] from rfl, h1.out] at c1
  have C1 := Lib.hid c1
  have c2 := Tryd.strings_HasPrefix s ⟨#[92, 92]⟩
  rw [show (⟨#[92, 92]⟩ : ByteArray).data.toList = [92, 92] from rfl, h2.out] at c2
  have C2 := Lib.hid c2
  have c3 := Tryd.strings_HasPrefix s ⟨#[92, 117, 123]⟩
  rw [show (⟨#[92, 117, 123]⟩ : ByteArray).data.toList = [92, 117, 123] from rfl, h3.out] at c3
  have C3 := Lib.hid c3
  have c4 := Tryd.strings_HasPrefix s ⟨#[92, 120]⟩
  rw [show (⟨#[92, 120]⟩ : ByteArray).data.toList = [92, 120] from rfl, h4.out] at c4
  have C4 := Lib.hid c4
  have hsl : ∀ W, (Instr.slice 9 (.string s) (some (.int .i64 2)) (some (.int .i64 4)) none).run Tryd.prog W = .ok (.string (s.extract 2 4)) W := fun W => run_slice_string W 9 s .i64 .i64 2 4 Tryd.underlying9 (by omega) (by omega) (by omega)
  have hxl : (s.extract 2 4).size ≤ 281474976710656 := by rw [size_eq, extract_data, List.length_take]; omega
  have hnle := pU_le _ _ _ hn.out
  clear c1 h1 c2 h2 c3 h3 c4 h4
  go_enter Tryd.func27, Tryd.ntmps27
  go_wp2_with fail
  refine (C1.out _).mono ?_
  rintro e w' ⟨rfl, rfl⟩
  go_wp2_with fail
  refine (C2.out _).mono ?_
  rintro e w' ⟨rfl, rfl⟩
  go_wp2_with fail
  refine (C3.out _).mono ?_
  rintro e w' ⟨rfl, rfl⟩
  go_wp2_with fail
  refine (C4.out _).mono ?_
  rintro e w' ⟨rfl, rfl⟩
  go_wp2_with fail
  refine (parse_pub_ok 8 255 n (Or.inl ⟨rfl, rfl⟩) _ hxl _ hn).mono ?_
  rintro e w2 ⟨rfl, hb2⟩
  have hcv := conv1 w2 (n : Int) (by omega) (by omega)
  go_wp2_with fail
  go_region
  all_goals go_wp2_with fail
  all_goals go_ret3
  all_goals exact ⟨⟨_, _, rfl, rfl, rfl⟩, by repeat (first | exact hb2 | apply Below.drew | refine Below.alloc ?_ hb2.size _)⟩
set_option maxRecDepth 100000 in
theorem first_hex_bad (s : ByteArray) (w : World) (hg : Glob w) (h0 : 0 < s.size) (hs : s.size < 4294967281) (hb : (((s[0]'h0).toNat : Int) != 92) = false) (h1 : Hid (hasPrefix s.data.toList [92, 34] = false)) (h2 : Hid (hasPrefix s.data.toList [92, 92] = false))
    (h3 : Hid (hasPrefix s.data.toList [92, 117, 123] = false)) (h4 : Hid (hasPrefix s.data.toList [92, 120] = true)) (hsz : 4 ≤ s.size) (hn : Hid (pU 255 (s.extract 2 4).data.toList = none)) :
    Calls Tryd.prog 27 #[.string s] w fun e w' => (∃ p b : ByteArray, e = .returned (.tuple #[.string p, .string b, .bool false])) ∧ Below w.heap.size w w' := by
  have c1 := Tryd.strings_HasPrefix s ⟨#[92, 34]⟩
  rw [show (⟨#[92, 34]⟩ : ByteArray).data.toList = [92, 34] from rfl, h1.out] at c1
  have C1 := Lib.hid c1
  have c2 := Tryd.strings_HasPrefix s ⟨#[92, 92]⟩
  rw [show (⟨#[92, 92]⟩ : ByteArray).data.toList = [92, 92] from rfl, h2.out] at c2
  have C2 := Lib.hid c2
  have c3 := Tryd.strings_HasPrefix s ⟨#[92, 117, 123]⟩
  rw [show (⟨#[92, 117, 123]⟩ : ByteArray).data.toList = [92, 117, 123] from rfl, h3.out] at c3
  have C3 := Lib.hid c3
  have c4 := Tryd.strings_HasPrefix s ⟨#[92, 120]⟩
  rw [show (⟨#[92, 120]⟩ : ByteArray).data.toList = [92, 120] from rfl, h4.out] at c4
  have C4 := Lib.hid c4
  have hsl : ∀ W, (Instr.slice 9 (.string s) (some (.int .i64 2)) (some (.int .i64 4)) none).run Tryd.prog W = .ok (.string (s.extract 2 4)) W := fun W => run_slice_string W 9 s .i64 .i64 2 4 Tryd.underlying9 (by omega) (by omega) (by omega)
  have hxl : (s.extract 2 4).size ≤ 281474976710656 := by rw [size_eq, extract_data, List.length_take]; omega
  clear c1 h1 c2 h2 c3 h3 c4 h4
  go_enter Tryd.func27, Tryd.ntmps27
  go_wp2_with fail
  refine (C1.out _).mono ?_
  rintro e w' ⟨rfl, rfl⟩
  go_wp2_with fail
  refine (C2.out _).mono ?_
  rintro e w' ⟨rfl, rfl⟩
  go_wp2_with fail
  refine (C3.out _).mono ?_
  rintro e w' ⟨rfl, rfl⟩
  go_wp2_with fail
  refine (C4.out _).mono ?_
  rintro e w' ⟨rfl, rfl⟩
  go_wp2_with fail
  refine (parse_pub_bad 8 255 (Or.inl ⟨rfl, rfl⟩) _ hxl _ hg hn).mono ?_
  rintro e w2 ⟨⟨x, pv, rfl⟩, hb2⟩
  have hcv := conv1 w2 (x % 256) (by omega) (by omega)
  go_wp2_with fail
  go_region
  all_goals go_wp2_with fail
  all_goals go_ret3
  all_goals exact ⟨⟨_, _, rfl⟩, by repeat (first | exact hb2 | apply Below.drew | refine Below.alloc ?_ hb2.size _)⟩
set_option maxRecDepth 100000 in
theorem first_none (s : ByteArray) (w : World) (h0 : 0 < s.size) (hb : (((s[0]'h0).toNat : Int) != 92) = false) (h1 : Hid (hasPrefix s.data.toList [92, 34] = false)) (h2 : Hid (hasPrefix s.data.toList [92, 92] = false))
    (h3 : Hid (hasPrefix s.data.toList [92, 117, 123] = false)) (q : Bool) (h4 : Hid (hasPrefix s.data.toList [92, 120] = q)) (hsz : q = true → s.size < 4) :
    Calls Tryd.prog 27 #[.string s] w fun e w' => (∃ p b : ByteArray, e = .returned (.tuple #[.string p, .string b, .bool false])) ∧ Below w.heap.size w w' := by
  have c1 := Tryd.strings_HasPrefix s ⟨#[92, 34]⟩
  rw [show (⟨#[92, 34]⟩ : ByteArray).data.toList = [92, 34] from rfl, h1.out] at c1
  have C1 := Lib.hid c1
  have c2 := Tryd.strings_HasPrefix s ⟨#[92, 92]⟩
  rw [show (⟨#[92, 92]⟩ : ByteArray).data.toList = [92, 92] from rfl, h2.out] at c2
  have C2 := Lib.hid c2
  have c3 := Tryd.strings_HasPrefix s ⟨#[92, 117, 123]⟩
  rw [show (⟨#[92, 117, 123]⟩ : ByteArray).data.toList = [92, 117, 123] from rfl, h3.out] at c3
  have C3 := Lib.hid c3
  have c4 := Tryd.strings_HasPrefix s ⟨#[92, 120]⟩
  rw [show (⟨#[92, 120]⟩ : ByteArray).data.toList = [92, 120] from rfl, h4.out] at c4
  have C4 := Lib.hid c4
  clear c1 h1 c2 h2 c3 h3 c4 h4
  cases q with
  | true =>
    have h4' := hsz rfl
    clear hsz
    go_enter Tryd.func27, Tryd.ntmps27
    go_wp2_with fail
    refine (C1.out _).mono ?_
    rintro e w' ⟨rfl, rfl⟩
    go_wp2_with fail
    refine (C2.out _).mono ?_
    rintro e w' ⟨rfl, rfl⟩
    go_wp2_with fail
    refine (C3.out _).mono ?_
    rintro e w' ⟨rfl, rfl⟩
    go_wp2_with fail
    refine (C4.out _).mono ?_
    rintro e w' ⟨rfl, rfl⟩
    go_wp2_with fail
    go_ret3
    exact ⟨⟨_, _, rfl⟩, Below.refl _ _⟩
  | false =>
    clear hsz
    go_enter Tryd.func27, Tryd.ntmps27
    go_wp2_with fail
    refine (C1.out _).mono ?_
    rintro e w' ⟨rfl, rfl⟩
    go_wp2_with fail
    refine (C2.out _).mono ?_
    rintro e w' ⟨rfl, rfl⟩
    go_wp2_with fail
    refine (C3.out _).mono ?_
    rintro e w' ⟨rfl, rfl⟩
    go_wp2_with fail
    refine (C4.out _).mono ?_
    rintro e w' ⟨rfl, rfl⟩
    go_wp2_with fail
    go_ret3
    exact ⟨⟨_, _, rfl⟩, Below.refl _ _⟩
theorem valid_yes (n : Nat) (h : n < 55296 ∨ (57344 ≤ n ∧ n ≤ 1114111)) : Utf8.valid (n : Int) = true := by
  unfold Utf8.valid
  simp only [Bool.or_eq_true, Bool.and_eq_true, decide_eq_true_eq]
  omega
theorem valid_no (n : Nat) (h : ¬ (n < 55296 ∨ (57344 ≤ n ∧ n ≤ 1114111))) : Utf8.valid (n : Int) = false := by
  cases hv : Utf8.valid (n : Int) with
  | false => rfl
  | true =>
    unfold Utf8.valid at hv
    simp only [Bool.or_eq_true, Bool.and_eq_true, decide_eq_true_eq] at hv
    exact absurd (by omega) h
set_option maxRecDepth 100000 in
theorem encode_list (n : Nat) (_hn : n ≤ 2097151) : (Utf8.encode (n : Int)).data.toList = encodeRune (n : Int) := by
  by_cases hv : n < 55296 ∨ (57344 ≤ n ∧ n ≤ 1114111)
  · have h1 := valid_yes n hv
    unfold Utf8.encode encodeRune
    rw [h1]
    simp only [if_true, Int.toNat_natCast]
    by_cases c1 : n < 128
    · rw [if_pos c1, encodeRuneZ_one (by omega) (by omega)]
      simp [UInt8.ofNat]
    · rw [if_neg c1]
      by_cases c2 : n < 2048
      · rw [if_pos c2, encodeRuneZ_two (by omega) (by omega)]
        simp only [List.map_cons, List.map_nil]
        rw [show ((192 : Int) + (n : Int) / 64).toNat = 192 + n / 64 by omega, show ((128 : Int) + (n : Int) % 64).toNat = 128 + n % 64 by omega]
      · rw [if_neg c2]
        by_cases c3 : n < 65536
        · rw [if_pos c3, encodeRuneZ_three (by omega)]
          simp only [List.map_cons, List.map_nil]
          rw [show ((224 : Int) + (n : Int) / 4096).toNat = 224 + n / 4096 by omega, show ((128 : Int) + (n : Int) / 64 % 64).toNat = 128 + n / 64 % 64 by omega, show ((128 : Int) + (n : Int) % 64).toNat = 128 + n % 64 by omega]
        · rw [if_neg c3, encodeRuneZ_four (by omega) (by omega)]
          simp only [List.map_cons, List.map_nil]
          rw [show ((240 : Int) + (n : Int) / 262144).toNat = 240 + n / 262144 by omega, show ((128 : Int) + (n : Int) / 4096 % 64).toNat = 128 + n / 4096 % 64 by omega, show ((128 : Int) + (n : Int) / 64 % 64).toNat = 128 + n / 64 % 64 by omega, show ((128 : Int) + (n : Int) % 64).toNat = 128 + n % 64 by omega]
  · have h1 := valid_no n hv
    unfold Utf8.encode encodeRune
    rw [h1, encodeRuneZ_bad (by omega)]
    simp [Utf8.runeError]

theorem getD_zero (s : ByteArray) (h0 : 0 < s.size) : s.data.toList.getD 0 0 = s[0]'h0 := by
  have := drop_getD s 0 h0
  rwa [List.drop_zero] at this
theorem prefix_len {l p : List UInt8} (h : hasPrefix l p = true) : p.length ≤ l.length := by
  unfold hasPrefix at h
  exact (List.isPrefixOf_iff_prefix.1 h).length_le

/-- name.first -/
theorem first_any (s : ByteArray) (w : World) (hg : Glob w) (h0 : 0 < s.size) (hs : s.size < 4294967281) :
    Calls Tryd.prog 27 #[.string s] w (FPost (firstS s.data.toList) w) := by
  have hg0 := getD_zero s h0
  have hl : s.data.toList.length = s.size := (size_eq s).symm
  unfold firstS
  by_cases hb : s.data.toList.getD 0 0 ≠ 92
  · rw [if_pos hb]
    have hb' : (((s[0]'h0).toNat : Int) != 92) = true := by
      rw [bne_iff_ne, ← hg0]
      intro h
      exact hb (UInt8.toNat_inj.1 (by have : (s.data.toList.getD 0 0).toNat = 92 := by omega
                                      rw [this]; rfl))
    refine (first_plain s w h0 hb').mono fun e w' ⟨⟨p, b, hp, hbb, he⟩, hw⟩ => ⟨hw, ?_⟩
    have e1 : p = ⟨[s.data.toList.getD 0 0].toArray⟩ := bytes_of (by rw [hp, extract_take, List.drop_zero, take1' _ (by intro h; rw [h] at hl; simp at hl; omega)])
    have e2 : b = ⟨(s.data.toList.drop 1).toArray⟩ := bytes_of (by rw [hbb, extract_drop])
    rw [he, e1, e2]
  · rw [if_neg hb]
    have hb92 : s.data.toList.getD 0 0 = 92 := Classical.not_not.1 hb
    have hb' : (((s[0]'h0).toNat : Int) != 92) = false := by
      rw [← hg0, hb92]; rfl
    by_cases hm : hasPrefix s.data.toList [92, 34] = true ∨ hasPrefix s.data.toList [92, 92] = true
    · rw [if_pos hm]
      have h2 : 2 ≤ s.size := by
        rw [← hl]
        rcases hm with h | h
        · exact prefix_len h
        · exact prefix_len h
      have hc : Calls Tryd.prog 27 #[.string s] w fun e w' => (∃ p b : ByteArray, p = s.extract 1 2 ∧ b = s.extract 2 s.size ∧ e = .returned (.tuple #[.string p, .string b, .bool true])) ∧ Below w.heap.size w w' := by
        refine first_mark s w h0 h2 hb' _ rfl (fun hf => ?_)
        rcases hm with h | h
        · rw [h] at hf; exact absurd hf (by simp)
        · exact h
      refine hc.mono fun e w' ⟨⟨p, b, hp, hbb, he⟩, hw⟩ => ⟨hw, ?_⟩
      have e1 : p = ⟨[s.data.toList.getD 1 0].toArray⟩ := bytes_of (by
        rw [hp, extract_take, take1' _ (by intro h; have := congrArg List.length h; rw [List.length_drop, hl] at this; simp at this; omega)]
        rw [getD_dropU])
      have e2 : b = ⟨(s.data.toList.drop 2).toArray⟩ := bytes_of (by rw [hbb, extract_drop])
      rw [he, e1, e2]
    · rw [if_neg hm]
      have m1 : hasPrefix s.data.toList [92, 34] = false := by
        cases h : hasPrefix s.data.toList [92, 34] with
        | true => exact absurd (Or.inl h) hm
        | false => rfl
      have m2 : hasPrefix s.data.toList [92, 92] = false := by
        cases h : hasPrefix s.data.toList [92, 92] with
        | true => exact absurd (Or.inr h) hm
        | false => rfl
      by_cases hu : hasPrefix s.data.toList [92, 117, 123] = true
      · rw [if_pos hu]
        have h3 : 3 ≤ s.size := by rw [← hl]; exact prefix_len hu
        obtain ⟨cb, ca, cf, hcut⟩ : ∃ cb ca cf, Lib.cut (s.data.toList.drop 3) [125] = (cb, ca, cf) := ⟨_, _, _, rfl⟩
        have hcbl : cb.length ≤ s.size := by
          have : (Lib.cut (s.data.toList.drop 3) [125]).1.length ≤ (s.data.toList.drop 3).length := by
            unfold Lib.cut
            split
            · simp; omega
            · simp
          rw [hcut, List.length_drop, hl] at this
          simp only at this
          omega
        rw [hcut]
        cases hn : pU 2097151 cb with
        | none =>
          refine (first_uni_bad s w hg h0 hs hb' m1 m2 hu h3 cb ca cf hcut hcbl hn).mono fun e w' ⟨hx, hw⟩ => ⟨hw, ?_⟩
          cases cf <;> exact hx
        | some n =>
          refine (first_uni s w hg h0 hs hb' m1 m2 hu h3 cb ca cf hcut hcbl n hn).mono fun e w' ⟨⟨p, hp, he⟩, hw⟩ => ⟨hw, ?_⟩
          cases cf with
          | false => exact ⟨_, _, he⟩
          | true =>
            have e1 : p = ⟨(encodeRune (n : Nat)).toArray⟩ := bytes_of (by rw [hp]; exact encode_list n (by have := pU_le _ _ _ hn; omega))
            show e = _
            rw [he, e1]
      · rw [if_neg hu]
        have m3 : hasPrefix s.data.toList [92, 117, 123] = false := by
          cases h : hasPrefix s.data.toList [92, 117, 123] with
          | true => exact absurd h hu
          | false => rfl
        by_cases hx : hasPrefix s.data.toList [92, 120] = true ∧ 4 ≤ s.data.toList.length
        · rw [if_pos hx]
          have h4 : 4 ≤ s.size := by rw [← hl]; exact hx.2
          have hpt : (s.extract 2 4).data.toList = (s.data.toList.drop 2).take 2 := extract_take s 2 4
          cases hn : pU 255 ((s.data.toList.drop 2).take 2) with
          | none =>
            exact (first_hex_bad s w hg h0 hs hb' m1 m2 m3 hx.1 h4 (by rw [hpt]; exact hn)).mono fun e w' ⟨hx, hw⟩ => ⟨hw, hx⟩
          | some n =>
            refine (first_hex s w hg h0 hs hb' m1 m2 m3 hx.1 h4 n (by rw [hpt]; exact hn)).mono fun e w' ⟨⟨p, b, hp, hbb, he⟩, hw⟩ => ⟨hw, ?_⟩
            have e2 : b = ⟨(s.data.toList.drop 4).toArray⟩ := bytes_of (by rw [hbb, extract_drop])
            show e = _
            rw [he, hp, e2]
        · rw [if_neg hx]
          exact (first_none s w h0 hb' m1 m2 m3 _ rfl (fun hq => by
            have : ¬ 4 ≤ s.data.toList.length := fun h => hx ⟨hq, h⟩
            omega)).mono fun e w' ⟨hx, hw⟩ => ⟨hw, hx⟩
end Go.Proofs.YtplgiagjgmlbcaaDoor.Nm
