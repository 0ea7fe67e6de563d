/-
  The contract of the document's own escape: what an escape's text stands for and how many bytes it took, or that it stands for nothing. Condition: a text is not longer than 2^32 bytes.
-/
import Derived.Test.YtplgiagjgmlbcaaDoorWd2
import Derived.Test.YtplgiagjgmlbcaaDoorWz
import Derived.Deep.RegionWith
namespace Go.Proofs.YtplgiagjgmlbcaaDoor.Nm
open Go.RowKit Go.Lib

/-- the digits of a rune's number: fuel, the place, the number so far -/
def escU (l : List UInt8) : Nat → Nat → Nat → Option (List UInt8 × Nat)
  | 0, _, _ => none
  | f + 1, i, x => if i < l.length then (if (l.getD i 0).toNat = 125 ∧ 2 < i then (encR x).map fun b => (b, i + 1)
      else if digR (l.getD i 0) < 0 then none else escU l f (i + 1) (16 * x + (digR (l.getD i 0)).toNat)) else none
/-- what stands behind a backslash -/
def escR (l : List UInt8) : Option (List UInt8 × Nat) :=
  if 0 < l.length ∧ ((l.getD 0 0).toNat = 34 ∨ (l.getD 0 0).toNat = 92) then some ([l.getD 0 0], 1)
  else if 3 ≤ l.length ∧ (l.getD 0 0).toNat = 120 ∧ 0 ≤ digR (l.getD 1 0) ∧ 0 ≤ digR (l.getD 2 0) then some ([(16 * digR (l.getD 1 0) + digR (l.getD 2 0)).toNat.toUInt8], 3)
  else if l.length < 4 ∨ (l.getD 0 0).toNat ≠ 117 ∨ (l.getD 1 0).toNat ≠ 123 then none
  else escU l 7 2 0
theorem digR_range : ∀ v : Fin 256, -1 ≤ digR v.val.toUInt8 ∧ digR v.val.toUInt8 ≤ 15 := by decide +kernel
theorem digR_le (c : UInt8) : -1 ≤ digR c ∧ digR c ≤ 15 := by
  have h := digR_range ⟨c.toNat, c.toNat_lt⟩
  have e : c.toNat.toUInt8 = c := by simp
  simp only [e] at h
  exact h
/-- what escape leaves -/
def XPost (o : Option (List UInt8 × Nat)) (w : World) (e : Ending) (w' : World) : Prop :=
  Below w.heap.size w w' ∧ match o with
    | none => ∃ v n, e = .returned (.tuple #[v, .int .i64 n, .bool false])
    | some (l, k) => ∃ v, e = .returned (.tuple #[v, .int .i64 (k : Nat), .bool true]) ∧ Bytes w' v l

set_option maxRecDepth 100000 in
theorem esc_mark (s : ByteArray) (w : World) (h0 : 0 < s.size) (hb : (((s[0]'h0).toNat : Int) == 34) = true ∨ ((((s[0]'h0).toNat : Int) == 34) = false ∧ (((s[0]'h0).toNat : Int) == 92) = true)) (l : List UInt8) (hl : Hid (l = [s[0]'h0])) :
    Calls Tryd.prog 39 #[.string s] w (XPost (some (l, 1)) w) := by
  have hfin : ∀ W : World, W = w.alloc (.cells #[.int .u8 (s[0]'h0).toNat] 5) → XPost (some (l, 1)) w (.returned (.tuple #[.slice (some ⟨w.heap.size, 0, none⟩) 1 1, .int .i64 1, .bool true])) W := by
    rintro W rfl
    refine ⟨(Below.refl _ w).alloc (Nat.le_refl _) _, _, rfl, w.heap.size, 1, by rw [hl.out]; rfl, by rw [hl.out]; exact Nat.le_refl _, by simp, fun j hj => ?_⟩
    have hj0 : j = 0 := by
      rw [hl.out] at hj
      simp at hj
      exact hj
    subst hj0
    rw [World.cell?_alloc_new]
    simp [hl.out]
  have HF := Lib.hid hfin
  clear hfin
  rcases hb with hb | ⟨hb, hc⟩
  all_goals
    go_enter Tryd.func39, Tryd.ntmps39
    go_wp2_with fail
    go_ret3
    exact HF.out _ rfl

theorem esc_none_fin (w : World) (v : Value) (n : Int) : XPost none w (.returned (.tuple #[v, .int .i64 n, .bool false])) w := ⟨Below.refl _ _, v, n, rfl⟩

set_option maxHeartbeats 1000000 in
set_option maxRecDepth 100000 in
/-- the two-digit form, or none -/
theorem esc_two (s : ByteArray) (w : World) (h3 : 3 ≤ s.size) (h0 : 0 < s.size) (h1 : 1 < s.size) (h2 : 2 < s.size) (e34 : (((s[0]'h0).toNat : Int) == 34) = false) (e92 : (((s[0]'h0).toNat : Int) == 92) = false)
    (e120 : (((s[0]'h0).toNat : Int) == 120) = true) (e117 : (((s[0]'h0).toNat : Int) != 117) = true) (z1 z2 : Int) (hz1 : Hid (digR (s[1]'h1) = z1)) (hz2 : Hid (digR (s[2]'h2) = z2)) :
    Calls Tryd.prog 39 #[.string s] w (XPost (if 0 ≤ z1 ∧ 0 ≤ z2 then some ([(16 * z1 + z2).toNat.toUInt8], 3) else none) w) := by
  have d1 := fun W => digit_ref (s[1]'h1) W
  have d2 := fun W => digit_ref (s[2]'h2) W
  have b1 := digR_le (s[1]'h1)
  have b2 := digR_le (s[2]'h2)
  rw [hz1.out] at d1 b1
  rw [hz2.out] at d2 b2
  have D1 := Lib.hid d1
  have D2 := Lib.hid d2
  clear d1 d2
  by_cases k1 : 0 ≤ z1
  · by_cases k2 : 0 ≤ z2
    · rw [if_pos ⟨k1, k2⟩]
      have hfin : ∀ W : World, W = (w.alloc (.cells #[.int .u8 (16 * z1 + z2)] 5)).drew → XPost (some ([(16 * z1 + z2).toNat.toUInt8], 3)) w (.returned (.tuple #[.slice (some ⟨w.heap.size, 0, none⟩) 1 1, .int .i64 3, .bool true])) W := by
        rintro W rfl
        refine ⟨((Below.refl _ w).alloc (Nat.le_refl _) _).drew, _, rfl, w.heap.size, 1, rfl, Nat.le_refl _, by simp, fun j hj => ?_⟩
        have hj0 : j = 0 := by simpa using hj
        subst hj0
        show (w.alloc _).cell? _ = _
        rw [World.cell?_alloc_new]
        have : ((16 * z1 + z2).toNat.toUInt8.toNat : Int) = 16 * z1 + z2 := by simp; omega
        simp only [List.getElem_cons_zero, this]
        rfl
      have HF := Lib.hid hfin
      have hwr : IntKind.u8.wrap (IntKind.i64.wrap (IntKind.i64.wrap (16 * z1) + z2)) = 16 * z1 + z2 := by
        simp only [IntKind.wrap_u8, IntKind.wrap_i64]
        omega
      have HWR := Lib.hid hwr
      clear hfin hwr
      go_enter Tryd.func39, Tryd.ntmps39
      go_wp2_with fail
      refine (D1.out _).mono ?_
      rintro e w1 ⟨rfl, rfl⟩
      go_wp2_with fail
      refine (D2.out _).mono ?_
      rintro e w1 ⟨rfl, rfl⟩
      go_wp2_with fail
      go_region_with (first | (go_at_call 52; (with_reducible refine (D1.out _).mono ?_); rintro e w1 ⟨rfl, rfl⟩) | (go_at_call 52; (with_reducible refine (D2.out _).mono ?_); rintro e w1 ⟨rfl, rfl⟩))
      all_goals (go_wp2_with fail; go_ret3)
      all_goals exact HF.out _ (by rw [HWR.out])
    · rw [if_neg (by omega)]
      go_enter Tryd.func39, Tryd.ntmps39
      go_wp2_with fail
      refine (D1.out _).mono ?_
      rintro e w1 ⟨rfl, rfl⟩
      go_wp2_with fail
      refine (D2.out _).mono ?_
      rintro e w1 ⟨rfl, rfl⟩
      go_wp2_with fail
      all_goals go_ret3
      all_goals exact esc_none_fin _ _ _
  · rw [if_neg (by omega)]
    go_enter Tryd.func39, Tryd.ntmps39
    go_wp2_with fail
    refine (D1.out _).mono ?_
    rintro e w1 ⟨rfl, rfl⟩
    go_wp2_with fail
    all_goals go_ret3
    all_goals exact esc_none_fin _ _ _

end Go.Proofs.YtplgiagjgmlbcaaDoor.Nm
