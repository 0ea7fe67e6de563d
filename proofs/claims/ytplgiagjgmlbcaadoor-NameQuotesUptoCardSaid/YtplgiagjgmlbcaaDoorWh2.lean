/-
  The contract of the document's own hex: a rune's digits of 16. Condition: the number is below 16^6.
-/
import Derived.Test.YtplgiagjgmlbcaaDoorWb
import Derived.Test.YtplgiagjgmlbcaaDoorWx
namespace Go.Proofs.YtplgiagjgmlbcaaDoor.Nm
open Go.RowKit Go.Lib

theorem back_ba (s : ByteArray) : (⟨s.data.toList.toArray⟩ : ByteArray) = s := by cases s; simp
def Dig : ByteArray := ⟨#[48, 49, 50, 51, 52, 53, 54, 55, 56, 57, 97, 98, 99, 100, 101, 102]⟩
theorem dig_cut : ∀ v : Fin 16, Dig.extract v.val (v.val + 1) = ⟨#[digs.getD (v.val % 16) 0]⟩ := by decide +kernel
theorem dig_slice (W : World) (k : Nat) (hk : k < 16) (a b : Int) (ha : a = (k : Nat)) (hb : b = (k : Nat) + 1) :
    (Instr.slice 9 (.string Dig) (some (.int .i64 a)) (some (.int .i64 b)) none).run Tryd.prog W = .ok (.string ⟨#[digs.getD (k % 16) 0]⟩) W := by
  subst ha
  subst hb
  have h := run_slice_string (P := Tryd.prog) W 9 Dig .i64 .i64 (k : Nat) ((k + 1 : Nat) : Int) Tryd.underlying9 (by omega) (by omega) (by show ((k + 1 : Nat) : Int) ≤ (16 : Nat); omega)
  have e := dig_cut ⟨k, hk⟩
  simp only [Int.toNat_natCast] at h e
  rw [e] at h
  exact h

set_option maxHeartbeats 2000000 in
set_option maxRecDepth 100000 in
theorem hex_ref (x : Nat) (hx : x < 16777216) (w : World) :
    Calls Tryd.prog 40 #[.int .i64 x] w fun e w' => e = .returned (.string ⟨(hexF 5 x).toArray⟩) ∧ w = w' := by
  obtain ⟨z, hz⟩ : ∃ z, z = hexF 5 x := ⟨_, rfl⟩
  rw [← hz]
  have HZ := Lib.hid hz
  clear hz
  go_enter Tryd.func40, Tryd.ntmps40
  go_wp2_with fail
  go_loop [0, 3] (fun vx vs => ∃ (m f : Nat) (t : ByteArray), vx = .int .i64 m ∧ vs = .string t ∧ f ≤ 5 ∧ m < 16 ^ (f + 1) ∧ t.size + f ≤ 5 ∧ Hid (z = hexF f m ++ t.data.toList)) (fun vx _ => (RowKit.intOf vx).toNat)
  case atStart => exact ⟨x, 5, ⟨#[]⟩, rfl, rfl, by omega, by omega, by decide, by show z = _; rw [HZ.out]; simp⟩
  case round =>
    obtain ⟨m, f, t, rfl, rfl, hf, hm, ht, hh⟩ := hrel
    have hm6 : m < 16777216 := Nat.lt_of_lt_of_le hm (Nat.le_trans (Nat.pow_le_pow_right (by omega) (show f + 1 ≤ 6 by omega)) (by decide))
    have hsl : ∀ W a b, a = ((m % 16 : Nat) : Int) → b = ((m % 16 : Nat) : Int) + 1 → (Instr.slice 9 (.string Dig) (some (.int .i64 a)) (some (.int .i64 b)) none).run Tryd.prog W = .ok (.string ⟨#[digs.getD (m % 16 % 16) 0]⟩) W := fun W a b ha hb => dig_slice W (m % 16) (by omega) a b ha hb
    by_cases hb : 15 < m
    · obtain ⟨g, rfl⟩ : ∃ g, f = g + 1 := by
        cases f with
        | zero => simp at hm; omega
        | succ g => exact ⟨g, rfl⟩
      have hs1 := fun W => hsl W ((m : Int) % 16) ((m : Int) % 16 + 1) (by omega) (by omega)
      unfold Dig at hs1
      have HN : Hid (z = hexF g (m / 16) ++ ((⟨#[digs.getD (m % 16 % 16) 0]⟩ : ByteArray) ++ t).data.toList) := by
        show z = _
        rw [hh.out, hexF_big g m (by omega), Nat.mod_mod]
        simp
      have hds : (⟨#[digs.getD (m % 16 % 16) 0]⟩ : ByteArray).size = 1 := rfl
      have hst : ((⟨#[digs.getD (m % 16 % 16) 0]⟩ : ByteArray) ++ t).size = 1 + t.size := by rw [ByteArray.size_append, hds]
      have hm2 : m / 16 < 16 ^ (g + 1) := pow_div hm
      obtain ⟨d, hd⟩ : ∃ d, d = (⟨#[digs.getD (m % 16 % 16) 0]⟩ : ByteArray) := ⟨_, rfl⟩
      rw [← hd] at hs1 HN hds hst
      clear hsl hh hm hd
      go_wp2_with fail
      exact ⟨⟨m / 16, g, d ++ t, (by first | rfl | (congr 1; omega)), rfl, by omega, hm2, by omega, HN⟩, by simp [RowKit.intOf]; omega⟩
    · have hs1 := fun W => hsl W (m : Int) ((m : Int) + 1) (by omega) (by omega)
      unfold Dig at hs1
      have HN : Hid (z = ((⟨#[digs.getD (m % 16 % 16) 0]⟩ : ByteArray) ++ t).data.toList) := by
        show z = _
        rw [hh.out, hexF_small f m (by omega), Nat.mod_mod]
        simp
      have hds : (⟨#[digs.getD (m % 16 % 16) 0]⟩ : ByteArray).size = 1 := rfl
      obtain ⟨d, hd⟩ : ∃ d, d = (⟨#[digs.getD (m % 16 % 16) 0]⟩ : ByteArray) := ⟨_, rfl⟩
      rw [← hd] at hs1 HN hds
      clear hsl hh hm hd
      go_wp2_with fail
      go_ret
      rw [HN.out, back_ba]
      exact ⟨rfl, rfl⟩
end Go.Proofs.YtplgiagjgmlbcaaDoor.Nm
