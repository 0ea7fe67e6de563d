/-
  The contracts of the document's own page of keys: digit, text, From, Bytes, Check. Conditions: each law's own.
-/
import Derived.Test.YtcgbaiogbcodcaaGreatDoorKc
import Derived.Test.YtcgbaiogbcodcaaGreatDoorPk
import Derived.Lib.SlBytesConst
namespace Go.Proofs.YtcgbaiogbcodcaaGreatDoor.Sh
open Go.RowKit Go.Lib

theorem dig_get (q : Nat) (h : q < 16) : ∀ h2, (⟨#[48, 49, 50, 51, 52, 53, 54, 55, 56, 57, 97, 98, 99, 100, 101, 102]⟩ : ByteArray)[q]'h2 = dig q := by
  rcases (show q = 0 ∨ q = 1 ∨ q = 2 ∨ q = 3 ∨ q = 4 ∨ q = 5 ∨ q = 6 ∨ q = 7 ∨ q = 8 ∨ q = 9 ∨ q = 10 ∨ q = 11 ∨ q = 12 ∨ q = 13 ∨ q = 14 ∨ q = 15 by omega) with rfl | rfl | rfl | rfl | rfl | rfl | rfl | rfl | rfl | rfl | rfl | rfl | rfl | rfl | rfl | rfl <;> exact fun _ => rfl
theorem wrap_in (x : Int) (h0 : 0 ≤ x) (h1 : x < 4294967296) : IntKind.i64.wrap x = x := IntWalk.i64_in _ (by omega)
/-- a byte's two digits, as the walk comes to them -/
theorem halves (x : UInt8) : ∃ q r : Nat, q < 16 ∧ r < 16 ∧ q = x.toNat / 16 ∧ r = x.toNat % 16 ∧ IntKind.i64.wrap (x.toNat : Int) = (x.toNat : Int) ∧ IntKind.i64.wrap ((x.toNat : Int).tdiv 16) = (q : Int) ∧ (x.toNat : Int).tmod 16 = (r : Int) ∧ (x.toNat : Int).tdiv 16 = (q : Int) := by
  have hx := x.toNat_lt
  have e1 : (x.toNat : Int).tdiv 16 = ((x.toNat / 16 : Nat) : Int) := by rw [Int.tdiv_eq_ediv_of_nonneg (by omega)]; omega
  have e2 : (x.toNat : Int).tmod 16 = ((x.toNat % 16 : Nat) : Int) := by rw [Int.tmod_eq_emod_of_nonneg (by omega)]; omega
  exact ⟨x.toNat / 16, x.toNat % 16, by omega, by omega, rfl, rfl, wrap_in _ (by omega) (by omega), by rw [e1]; exact wrap_in _ (by omega) (by omega), e2, e1⟩
/-- which digit a byte is -/
def digitI (c : UInt8) : Int := if val c < 16 then (val c : Int) else -1
theorem digit_at (c : UInt8) (i : Nat) (hi : i < 16) (h : ((dig i).toNat : Int) = (c.toNat : Int)) : digitI c = (i : Int) := by
  have h2 : dig i = c := UInt8.toNat_inj.1 (by omega)
  rw [← h2, digitI, val_dig i hi, if_pos hi]
theorem digit_no (c : UInt8) (h : ∀ i, i < 16 → ((dig i).toNat : Int) ≠ (c.toNat : Int)) : digitI c = -1 := by
  rw [digitI]
  split
  · rename_i hv
    exact absurd (by rw [dig_val c hv]) (h _ hv)
  · rfl
set_option maxRecDepth 100000 in
theorem dig_slice (q : Nat) (h : q < 16) (W : World) : (Instr.slice 9 (.string ⟨#[48, 49, 50, 51, 52, 53, 54, 55, 56, 57, 97, 98, 99, 100, 101, 102]⟩) (some (.int .i64 (q : Int))) (some (.int .i64 ((q : Int) + 1))) none).run Tryz.prog W = .ok (.string ⟨#[dig q]⟩) W := by
  rcases (show q = 0 ∨ q = 1 ∨ q = 2 ∨ q = 3 ∨ q = 4 ∨ q = 5 ∨ q = 6 ∨ q = 7 ∨ q = 8 ∨ q = 9 ∨ q = 10 ∨ q = 11 ∨ q = 12 ∨ q = 13 ∨ q = 14 ∨ q = 15 by omega) with rfl | rfl | rfl | rfl | rfl | rfl | rfl | rfl | rfl | rfl | rfl | rfl | rfl | rfl | rfl | rfl <;> rfl
theorem str_two (a : List UInt8) (x y : UInt8) : ((⟨a.toArray⟩ : ByteArray) ++ ⟨#[x]⟩ ++ ⟨#[y]⟩) = ⟨(a ++ [x, y]).toArray⟩ := by
  apply ByteArray.ext
  simp [ByteArray.data_append]
/-- what From answers -/
def fromS (l : List UInt8) : ByteArray := if l.length = 32 then ⟨(hexL l).toArray⟩ else ⟨#[]⟩
def fromE (l : List UInt8) : Int := if l.length = 32 then 0 else 70
/-- what Bytes answers -/
def bytesL (k : ByteArray) : List UInt8 := (keyBytes k.data.toList).getD []
def bytesE (k : ByteArray) : Int := if (keyBytes k.data.toList).isSome then 0 else 70
/-- a row of bytes and a number, answered -/
def AnsB (w : World) (k : ByteArray) (e : Ending) (w' : World) : Prop := Below w.heap.size w w' ∧ ∃ v, e = .returned (.tuple #[v, .int .i64 (bytesE k)]) ∧ Own w' w.heap.size v (bytesL k)
theorem own_nil (w : World) (B : Nat) : Own w B (.slice none 0 0) [] := World.ownsRow_nil _ _ _ _
/-- two digits more -/
theorem more_digits (kl m : List UInt8) (j : Nat) (c1 c2 : UInt8) (h : hexL m = kl.take (2 * j)) (h1 : kl[2 * j]? = some c1) (h2 : kl[2 * j + 1]? = some c2) (v1 : val c1 < 16) (v2 : val c2 < 16) :
    hexL (m ++ [UInt8.ofNat (16 * val c1 + val c2)]) = kl.take (2 * (j + 1)) := by
  have hx : (UInt8.ofNat (16 * val c1 + val c2)).toNat = 16 * val c1 + val c2 := by simp; omega
  rw [hexL_app, h, hexL_cons, hx, show (16 * val c1 + val c2) / 16 = val c1 by omega, show (16 * val c1 + val c2) % 16 = val c2 by omega, dig_val c1 v1, dig_val c2 v2, hexL_nil]
  rw [show 2 * (j + 1) = 2 * j + 1 + 1 by omega, List.take_add_one, List.take_add_one, h1, h2]
  simp
theorem bad_digit (kl : List UInt8) (i : Nat) (c : UInt8) (h : kl[i]? = some c) (hv : ¬ val c < 16) : keyBytes kl = none := by
  cases hk : keyBytes kl with
  | none => rfl
  | some m =>
    have h2 := keyBytes_isSome kl
    rw [hk] at h2
    simp only [Option.isSome_some, Bool.true_eq, Bool.and_eq_true, allDig, List.all_eq_true, decide_eq_true_eq] at h2
    exact absurd (h2.2 c (List.mem_of_getElem? h)) hv
theorem digitI_ok (c : UInt8) (h : val c < 16) : digitI c = (val c : Int) := by rw [digitI, if_pos h]
theorem digitI_no (c : UInt8) (h : ¬ val c < 16) : digitI c = -1 := by rw [digitI, if_neg h]
theorem key_get (k : ByteArray) (i : Nat) (h : i < k.size) : ∃ c, k.data.toList[i]? = some c ∧ ∀ h1, (k[i]'h1) = c := ⟨k[i], by rw [List.getElem?_eq_getElem (by rw [Array.length_toList]; exact h)]; rfl, fun _ => rfl⟩
end Go.Proofs.YtcgbaiogbcodcaaGreatDoor.Sh
