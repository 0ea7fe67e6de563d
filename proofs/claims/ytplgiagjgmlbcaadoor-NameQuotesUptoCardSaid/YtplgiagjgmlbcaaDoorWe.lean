/-
  The contract of strconv.ParseUint at base 16 and 8 or 21 bits, for every text. Conditions: the library's two error variables hold what their texts lay; a text is not longer than 2^48 bytes.
-/
import Derived.Test.YtplgiagjgmlbcaaDoorWd
namespace Go.Proofs.YtplgiagjgmlbcaaDoor.Nm
open Go.RowKit Go.Lib

set_option maxRecDepth 100000 in
theorem parse_empty (b : Int) (w : World) :
    Calls Tryd.prog 56 #[.string ⟨#[]⟩, .int .i64 16, .int .i64 b] w fun e w' => e = .returned (.tuple #[.int .u64 0, .iface 92 (.int .i64 2)]) ∧ w = w' := by
  go_enter Tryd.func56, Tryd.ntmps56
  go_wp2_with fail
  go_ret2
  exact ⟨rfl, rfl⟩

theorem parse_any (b : Int) (M : Nat) (hb : (b = 8 ∧ M = 255) ∨ (b = 21 ∧ M = 2097151)) (t : ByteArray) (hmax : t.size ≤ 9223372036854775806) (w : World) :
    Calls Tryd.prog 56 #[.string t, .int .i64 16, .int .i64 b] w (PUPost (pU M t.data.toList) w) := by
  by_cases h0 : t.size = 0
  · have ht : t = ⟨#[]⟩ := by
      obtain ⟨⟨l⟩⟩ := t
      cases l with
      | nil => rfl
      | cons _ _ => simp [ByteArray.size] at h0
    subst ht
    refine (parse_empty b w).mono fun e w' ⟨he, hw⟩ => ?_
    subst hw
    exact ⟨Below.refl _ _, 0, 2, Or.inr rfl, he⟩
  · have hne : t.data.toList ≠ [] := fun h => h0 (by rw [Lib.size_eq, h]; rfl)
    have hp : pU M t.data.toList = parse16 M 0 t.data.toList := by rw [pU, if_neg hne]
    rw [hp]
    rcases hb with ⟨rfl, rfl⟩ | ⟨rfl, rfl⟩
    · exact parse_in8 t h0 hmax w
    · exact parse_in21 t h0 hmax w

set_option maxRecDepth 100000 in
theorem parse_pub_ok (b : Int) (M n : Nat) (hb : (b = 8 ∧ M = 255) ∨ (b = 21 ∧ M = 2097151)) (t : ByteArray) (hmax : t.size ≤ 281474976710656) (w : World) (hn : Hid (pU M t.data.toList = some n)) :
    Calls Tryd.prog 43 #[.string t, .int .i64 16, .int .i64 b] w fun e w' => e = .returned (.tuple #[.int .u64 n, .nilIface]) ∧ Below w.heap.size w w' := by
  have hc := parse_any b M hb t (by omega) w
  rw [hn.out] at hc
  have HC := Lib.hid hc
  clear hc hb
  go_enter Tryd.func43, Tryd.ntmps43
  go_wp2_with (go_at_call 56; refine HC.out.mono ?_; rintro e w' ⟨hb, he⟩; subst he)
  go_ret2
  exact ⟨rfl, hb⟩
set_option maxRecDepth 100000 in
theorem parse_pub_bad (b : Int) (M : Nat) (hb : (b = 8 ∧ M = 255) ∨ (b = 21 ∧ M = 2097151)) (t : ByteArray) (hmax : t.size ≤ 281474976710656) (w : World) (hg : Glob w) (hn : Hid (pU M t.data.toList = none)) :
    Calls Tryd.prog 43 #[.string t, .int .i64 16, .int .i64 b] w fun e w' => (∃ (x : Int) (p : Value), e = .returned (.tuple #[.int .u64 x, .iface 94 p])) ∧ Below w.heap.size w w' := by
  have hc := parse_any b M hb t (by omega) w
  rw [hn.out] at hc
  have HC := Lib.hid hc
  clear hc hb
  go_enter Tryd.func43, Tryd.ntmps43
  go_wp2_with (go_at_call 56; refine HC.out.mono ?_; rintro e w1 ⟨hb, x, c, hc, he⟩; subst he)
  obtain ⟨ev4, h4, i4⟩ := hg.syn
  obtain ⟨ev5, h5, i5⟩ := hg.rng
  have h4' := (hb.cell (p := ⟨4, 0, none⟩) (Nat.lt_of_lt_of_le (by decide : 4 < 8) hg.size)).trans h4
  have h5' := (hb.cell (p := ⟨5, 0, none⟩) (Nat.lt_of_lt_of_le (by decide : 5 < 8) hg.size)).trans h5
  have I4 := Lib.hid i4
  have I5 := Lib.hid i5
  clear i4 i5 h4 h5
  rcases hc with rfl | rfl
  · go_wp2_with (go_at_call 57; refine (Tryd.strconv_toError_range _ t 16 b ev5 _ hmax h5' I5.out).mono ?_; rintro e w2 ⟨N, rfl, hN, _, hb2⟩)
    go_ret2
    exact ⟨⟨x, _, rfl⟩, hb.trans (hb2.mono hb.size)⟩
  · go_wp2_with (go_at_call 57; refine (Tryd.strconv_toError_syntax _ t 16 b ev4 _ hmax h4' I4.out).mono ?_; rintro e w2 ⟨N, rfl, hN, _, hb2⟩)
    go_ret2
    exact ⟨⟨x, _, rfl⟩, hb.trans (hb2.mono hb.size)⟩
end Go.Proofs.YtplgiagjgmlbcaaDoor.Nm
