/-
  The contract of the document's own reading of a rune, and of its order of texts: for every text that is not empty the rune, how wide it is, and whether it is one; for every two texts the order of the plain definition. Condition: a text is not longer than a string can be.
-/
import Derived.Test.YtplgiagjgmlbcaaDoorPh
import Derived.Test.YtplgiagjgmlbcaaDoorWo
import Derived.Test.YtplgiagjgmlbcaaDoorWu
namespace Go.Proofs.YtplgiagjgmlbcaaDoor.Nm
open Go.RowKit Go.Lib

/-- what a rune's reading is told as -/
def told3 (z : Int × Nat × Bool) : Value := .tuple #[.int .i64 z.1, .int .i64 (z.2.1 : Nat), .bool z.2.2]

set_option maxRecDepth 100000 in
theorem rune_one (s : ByteArray) (h0 : 0 < s.size) (w : World) (hc : (s[0]'h0).toNat < 128) :
    Calls Tryd.prog 35 #[.string s] w fun e w' => e = .returned (told3 (((s[0]'h0).toNat : Int), 1, true)) ∧ w = w' := by
  go_enter Tryd.func35, Tryd.ntmps35
  go_wp2_with fail
  go_ret3
  exact ⟨rfl, rfl⟩
set_option maxRecDepth 100000 in
theorem rune_bad (s : ByteArray) (h0 : 0 < s.size) (w : World) (h1 : 128 ≤ (s[0]'h0).toNat) (hc : (s[0]'h0).toNat < 194 ∨ 245 ≤ (s[0]'h0).toNat) :
    Calls Tryd.prog 35 #[.string s] w fun e w' => e = .returned (told3 (65533, 1, false)) ∧ w = w' := by
  have hb : (s[0]'h0).toNat < 256 := (s[0]'h0).toNat_lt
  rcases hc with hc | hc
  all_goals
    go_enter Tryd.func35, Tryd.ntmps35
    go_wp2_with fail
    all_goals go_ret3
    all_goals exact ⟨rfl, rfl⟩

set_option maxHeartbeats 4000000 in
set_option maxRecDepth 100000 in
theorem rune_m2 (s : ByteArray) (h0 : 0 < s.size) (w : World) (k1 : 194 ≤ (s[0]'h0).toNat) (k2 : (s[0]'h0).toNat < 224)
    (z : Int × Nat × Bool) (hz : z = if s.size < 2 then (65533, 1, false) else tailR s.data.toList 2 128 1 1 ((s[0]'h0).toNat - 192)) :
    Calls Tryd.prog 35 #[.string s] w fun e w' => e = .returned (told3 z) ∧ w = w' := by
  have HG := Lib.hid (fun k (h : k < s.size) => (getD_at s k h : s.data.toList.getD k 0 = s[k]'h))
  by_cases hl : s.size < 2
  · rw [if_pos hl] at hz
    have HZ := Lib.hid hz
    clear hz HG
    go_enter Tryd.func35, Tryd.ntmps35
    go_wp2_with fail
    all_goals go_ret3
    all_goals exact ⟨by rw [HZ.out]; rfl, rfl⟩
  rw [if_neg hl] at hz
  have HZ := Lib.hid hz
  clear hz
  go_enter Tryd.func35, Tryd.ntmps35
  go_wp2_with fail
  go_loop [7, 9] (fun vx vi => ∃ (i f : Nat) (x : Int), vx = .int .i64 x ∧ vi = .int .i64 i ∧ 1 ≤ i ∧ i + f = 2 ∧ 0 ≤ x ∧ ((i = 1 ∧ x < 32) ∨ (i = 2 ∧ x < 2048) ∨ (i = 3 ∧ x < 131072) ∨ (i = 4 ∧ x < 8388608)) ∧ Hid (z = tailR s.data.toList 2 128 f i x)) (fun _ vi => 2 - (RowKit.intOf vi).toNat)
  case atStart => exact ⟨1, _, _, rfl, rfl, by omega, rfl, by omega, by omega, HZ.out⟩
  case round =>
    obtain ⟨i, f, x, rfl, rfl, hi, hif, hx0, hx, hh⟩ := hrel
    by_cases hin : i < 2
    · obtain ⟨f, rfl⟩ : ∃ g, f = g + 1 := ⟨f - 1, by omega⟩
      have his : i < s.size := by omega
      have hz := hh.out
      rw [tailR, HG.out i his] at hz
      have hb : (s[i]'his).toNat < 256 := (s[i]'his).toNat_lt
      by_cases d1 : (s[i]'his).toNat < 128
      · rw [if_pos d1] at hz
        have HZ := Lib.hid hz
        clear hz hh
        go_wp2_with fail
        all_goals go_ret3
        all_goals exact ⟨by rw [HZ.out]; rfl, rfl⟩
      · rw [if_neg d1] at hz
        by_cases d2 : 192 ≤ (s[i]'his).toNat
        · rw [if_pos d2] at hz
          have HZ := Lib.hid hz
          clear hz hh
          go_wp2_with fail
          all_goals go_ret3
          all_goals exact ⟨by rw [HZ.out]; rfl, rfl⟩
        · rw [if_neg d2] at hz
          have HZ := Lib.hid hz
          clear hz hh
          go_wp2_with fail
          exact ⟨⟨_, _, _, _, _, ⟨i + 1, f, _, rfl, rfl, by omega, by omega, by omega, by omega, HZ⟩, rfl, rfl, rfl, rfl, by first | rfl | (congr 1; omega)⟩, by simp [RowKit.intOf]; omega⟩
    · obtain rfl : f = 0 := by omega
      obtain rfl : i = 2 := by omega
      have hz := hh.out
      rw [tailR] at hz
      by_cases d1 : x < (128 : Nat)
      · rw [if_pos d1] at hz
        have HZ := Lib.hid hz
        have d1' : x < 128 := d1
        clear hz hh d1
        go_wp2_with fail
        all_goals go_ret3
        all_goals exact ⟨by rw [HZ.out]; rfl, rfl⟩
      rw [if_neg d1] at hz
      have d1' : 128 ≤ x := Int.not_lt.1 d1
      clear d1
      by_cases d2 : 1114111 < x
      · rw [if_pos d2] at hz
        have HZ := Lib.hid hz
        clear hz hh
        go_wp2_with fail
        all_goals go_ret3
        all_goals exact ⟨by rw [HZ.out]; rfl, rfl⟩
      rw [if_neg d2] at hz
      by_cases d3 : 55296 ≤ x
      · rw [if_pos d3] at hz
        by_cases d4 : x < 57344
        · rw [if_pos d4] at hz
          have HZ := Lib.hid hz
          clear hz hh
          go_wp2_with fail
          all_goals go_ret3
          all_goals exact ⟨by rw [HZ.out]; rfl, rfl⟩
        · rw [if_neg d4] at hz
          have HZ := Lib.hid hz
          clear hz hh
          go_wp2_with fail
          all_goals go_ret3
          all_goals exact ⟨by rw [HZ.out]; rfl, rfl⟩
      · rw [if_neg d3] at hz
        have HZ := Lib.hid hz
        clear hz hh
        go_wp2_with fail
        all_goals go_ret3
        all_goals exact ⟨by rw [HZ.out]; rfl, rfl⟩

set_option maxHeartbeats 4000000 in
set_option maxRecDepth 100000 in
theorem rune_m3 (s : ByteArray) (h0 : 0 < s.size) (w : World) (k1 : 224 ≤ (s[0]'h0).toNat) (k2 : (s[0]'h0).toNat < 240)
    (z : Int × Nat × Bool) (hz : z = if s.size < 3 then (65533, 1, false) else tailR s.data.toList 3 2048 2 1 ((s[0]'h0).toNat - 224)) :
    Calls Tryd.prog 35 #[.string s] w fun e w' => e = .returned (told3 z) ∧ w = w' := by
  have HG := Lib.hid (fun k (h : k < s.size) => (getD_at s k h : s.data.toList.getD k 0 = s[k]'h))
  by_cases hl : s.size < 3
  · rw [if_pos hl] at hz
    have HZ := Lib.hid hz
    clear hz HG
    go_enter Tryd.func35, Tryd.ntmps35
    go_wp2_with fail
    all_goals go_ret3
    all_goals exact ⟨by rw [HZ.out]; rfl, rfl⟩
  rw [if_neg hl] at hz
  have HZ := Lib.hid hz
  clear hz
  go_enter Tryd.func35, Tryd.ntmps35
  go_wp2_with fail
  go_loop [7, 9] (fun vx vi => ∃ (i f : Nat) (x : Int), vx = .int .i64 x ∧ vi = .int .i64 i ∧ 1 ≤ i ∧ i + f = 3 ∧ 0 ≤ x ∧ ((i = 1 ∧ x < 32) ∨ (i = 2 ∧ x < 2048) ∨ (i = 3 ∧ x < 131072) ∨ (i = 4 ∧ x < 8388608)) ∧ Hid (z = tailR s.data.toList 3 2048 f i x)) (fun _ vi => 3 - (RowKit.intOf vi).toNat)
  case atStart => exact ⟨1, _, _, rfl, rfl, by omega, rfl, by omega, by omega, HZ.out⟩
  case round =>
    obtain ⟨i, f, x, rfl, rfl, hi, hif, hx0, hx, hh⟩ := hrel
    by_cases hin : i < 3
    · obtain ⟨f, rfl⟩ : ∃ g, f = g + 1 := ⟨f - 1, by omega⟩
      have his : i < s.size := by omega
      have hz := hh.out
      rw [tailR, HG.out i his] at hz
      have hb : (s[i]'his).toNat < 256 := (s[i]'his).toNat_lt
      by_cases d1 : (s[i]'his).toNat < 128
      · rw [if_pos d1] at hz
        have HZ := Lib.hid hz
        clear hz hh
        go_wp2_with fail
        all_goals go_ret3
        all_goals exact ⟨by rw [HZ.out]; rfl, rfl⟩
      · rw [if_neg d1] at hz
        by_cases d2 : 192 ≤ (s[i]'his).toNat
        · rw [if_pos d2] at hz
          have HZ := Lib.hid hz
          clear hz hh
          go_wp2_with fail
          all_goals go_ret3
          all_goals exact ⟨by rw [HZ.out]; rfl, rfl⟩
        · rw [if_neg d2] at hz
          have HZ := Lib.hid hz
          clear hz hh
          go_wp2_with fail
          exact ⟨⟨_, _, _, _, _, ⟨i + 1, f, _, rfl, rfl, by omega, by omega, by omega, by omega, HZ⟩, rfl, rfl, rfl, rfl, by first | rfl | (congr 1; omega)⟩, by simp [RowKit.intOf]; omega⟩
    · obtain rfl : f = 0 := by omega
      obtain rfl : i = 3 := by omega
      have hz := hh.out
      rw [tailR] at hz
      by_cases d1 : x < (2048 : Nat)
      · rw [if_pos d1] at hz
        have HZ := Lib.hid hz
        have d1' : x < 2048 := d1
        clear hz hh d1
        go_wp2_with fail
        all_goals go_ret3
        all_goals exact ⟨by rw [HZ.out]; rfl, rfl⟩
      rw [if_neg d1] at hz
      have d1' : 2048 ≤ x := Int.not_lt.1 d1
      clear d1
      by_cases d2 : 1114111 < x
      · rw [if_pos d2] at hz
        have HZ := Lib.hid hz
        clear hz hh
        go_wp2_with fail
        all_goals go_ret3
        all_goals exact ⟨by rw [HZ.out]; rfl, rfl⟩
      rw [if_neg d2] at hz
      by_cases d3 : 55296 ≤ x
      · rw [if_pos d3] at hz
        by_cases d4 : x < 57344
        · rw [if_pos d4] at hz
          have HZ := Lib.hid hz
          clear hz hh
          go_wp2_with fail
          all_goals go_ret3
          all_goals exact ⟨by rw [HZ.out]; rfl, rfl⟩
        · rw [if_neg d4] at hz
          have HZ := Lib.hid hz
          clear hz hh
          go_wp2_with fail
          all_goals go_ret3
          all_goals exact ⟨by rw [HZ.out]; rfl, rfl⟩
      · rw [if_neg d3] at hz
        have HZ := Lib.hid hz
        clear hz hh
        go_wp2_with fail
        all_goals go_ret3
        all_goals exact ⟨by rw [HZ.out]; rfl, rfl⟩

set_option maxHeartbeats 4000000 in
set_option maxRecDepth 100000 in
theorem rune_m4 (s : ByteArray) (h0 : 0 < s.size) (w : World) (k1 : 240 ≤ (s[0]'h0).toNat) (k2 : (s[0]'h0).toNat < 245)
    (z : Int × Nat × Bool) (hz : z = if s.size < 4 then (65533, 1, false) else tailR s.data.toList 4 65536 3 1 ((s[0]'h0).toNat - 240)) :
    Calls Tryd.prog 35 #[.string s] w fun e w' => e = .returned (told3 z) ∧ w = w' := by
  have HG := Lib.hid (fun k (h : k < s.size) => (getD_at s k h : s.data.toList.getD k 0 = s[k]'h))
  by_cases hl : s.size < 4
  · rw [if_pos hl] at hz
    have HZ := Lib.hid hz
    clear hz HG
    go_enter Tryd.func35, Tryd.ntmps35
    go_wp2_with fail
    all_goals go_ret3
    all_goals exact ⟨by rw [HZ.out]; rfl, rfl⟩
  rw [if_neg hl] at hz
  have HZ := Lib.hid hz
  clear hz
  go_enter Tryd.func35, Tryd.ntmps35
  go_wp2_with fail
  go_loop [7, 9] (fun vx vi => ∃ (i f : Nat) (x : Int), vx = .int .i64 x ∧ vi = .int .i64 i ∧ 1 ≤ i ∧ i + f = 4 ∧ 0 ≤ x ∧ ((i = 1 ∧ x < 32) ∨ (i = 2 ∧ x < 2048) ∨ (i = 3 ∧ x < 131072) ∨ (i = 4 ∧ x < 8388608)) ∧ Hid (z = tailR s.data.toList 4 65536 f i x)) (fun _ vi => 4 - (RowKit.intOf vi).toNat)
  case atStart => exact ⟨1, _, _, rfl, rfl, by omega, rfl, by omega, by omega, HZ.out⟩
  case round =>
    obtain ⟨i, f, x, rfl, rfl, hi, hif, hx0, hx, hh⟩ := hrel
    by_cases hin : i < 4
    · obtain ⟨f, rfl⟩ : ∃ g, f = g + 1 := ⟨f - 1, by omega⟩
      have his : i < s.size := by omega
      have hz := hh.out
      rw [tailR, HG.out i his] at hz
      have hb : (s[i]'his).toNat < 256 := (s[i]'his).toNat_lt
      by_cases d1 : (s[i]'his).toNat < 128
      · rw [if_pos d1] at hz
        have HZ := Lib.hid hz
        clear hz hh
        go_wp2_with fail
        all_goals go_ret3
        all_goals exact ⟨by rw [HZ.out]; rfl, rfl⟩
      · rw [if_neg d1] at hz
        by_cases d2 : 192 ≤ (s[i]'his).toNat
        · rw [if_pos d2] at hz
          have HZ := Lib.hid hz
          clear hz hh
          go_wp2_with fail
          all_goals go_ret3
          all_goals exact ⟨by rw [HZ.out]; rfl, rfl⟩
        · rw [if_neg d2] at hz
          have HZ := Lib.hid hz
          clear hz hh
          go_wp2_with fail
          exact ⟨⟨_, _, _, _, _, ⟨i + 1, f, _, rfl, rfl, by omega, by omega, by omega, by omega, HZ⟩, rfl, rfl, rfl, rfl, by first | rfl | (congr 1; omega)⟩, by simp [RowKit.intOf]; omega⟩
    · obtain rfl : f = 0 := by omega
      obtain rfl : i = 4 := by omega
      have hz := hh.out
      rw [tailR] at hz
      by_cases d1 : x < (65536 : Nat)
      · rw [if_pos d1] at hz
        have HZ := Lib.hid hz
        have d1' : x < 65536 := d1
        clear hz hh d1
        go_wp2_with fail
        all_goals go_ret3
        all_goals exact ⟨by rw [HZ.out]; rfl, rfl⟩
      rw [if_neg d1] at hz
      have d1' : 65536 ≤ x := Int.not_lt.1 d1
      clear d1
      by_cases d2 : 1114111 < x
      · rw [if_pos d2] at hz
        have HZ := Lib.hid hz
        clear hz hh
        go_wp2_with fail
        all_goals go_ret3
        all_goals exact ⟨by rw [HZ.out]; rfl, rfl⟩
      rw [if_neg d2] at hz
      by_cases d3 : 55296 ≤ x
      · rw [if_pos d3] at hz
        by_cases d4 : x < 57344
        · rw [if_pos d4] at hz
          have HZ := Lib.hid hz
          clear hz hh
          go_wp2_with fail
          all_goals go_ret3
          all_goals exact ⟨by rw [HZ.out]; rfl, rfl⟩
        · rw [if_neg d4] at hz
          have HZ := Lib.hid hz
          clear hz hh
          go_wp2_with fail
          all_goals go_ret3
          all_goals exact ⟨by rw [HZ.out]; rfl, rfl⟩
      · rw [if_neg d3] at hz
        have HZ := Lib.hid hz
        clear hz hh
        go_wp2_with fail
        all_goals go_ret3
        all_goals exact ⟨by rw [HZ.out]; rfl, rfl⟩

theorem rune_any (s : ByteArray) (h0 : 0 < s.size) (w : World) :
    Calls Tryd.prog 35 #[.string s] w fun e w' => e = .returned (told3 (runeR s.data.toList)) ∧ w = w' := by
  have hl : s.data.toList.length = s.size := (size_eq s).symm
  unfold runeR
  rw [getD_at s 0 h0, hl]
  by_cases k0 : (s[0]'h0).toNat < 128
  · rw [if_pos k0]
    exact rune_one s h0 w k0
  rw [if_neg k0]
  by_cases k1 : (s[0]'h0).toNat < 194
  · rw [if_pos k1]
    exact rune_bad s h0 w (by omega) (Or.inl k1)
  rw [if_neg k1]
  by_cases k2 : (s[0]'h0).toNat < 224
  · rw [if_pos k2]
    exact rune_m2 s h0 w (by omega) k2 _ rfl
  rw [if_neg k2]
  by_cases k3 : (s[0]'h0).toNat < 240
  · rw [if_pos k3]
    exact rune_m3 s h0 w (by omega) k3 _ rfl
  rw [if_neg k3]
  by_cases k4 : (s[0]'h0).toNat < 245
  · rw [if_pos k4]
    exact rune_m4 s h0 w (by omega) k4 _ rfl
  rw [if_neg k4]
  exact rune_bad s h0 w (by omega) (Or.inr (by omega))
/-- the document's reading, in one word -/
theorem rune_said (s : ByteArray) (h0 : 0 < s.size) (w : World) :
    Calls Tryd.prog 35 #[.string s] w fun e w' => e = .returned (.tuple #[.int .i64 (decodeL s.data.toList).1, .int .i64 (decodeL s.data.toList).2, .bool (!strayL s.data.toList)]) ∧ w = w' := by
  refine (rune_any s h0 w).mono fun e w' ⟨he, hw⟩ => ⟨?_, hw⟩
  rw [he, runeR_eq]
  rfl
end Go.Proofs.YtplgiagjgmlbcaaDoor.Nm
