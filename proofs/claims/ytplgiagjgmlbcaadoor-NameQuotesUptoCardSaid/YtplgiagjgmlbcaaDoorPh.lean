/-
  Plain facts on runes as the document's own reading tells them: byte for byte it is the model's decode, and it says of a stray byte that it is one. No condition.
-/
import Derived.Test.YtplgiagjgmlbcaaDoorPa
namespace Go.Proofs.YtplgiagjgmlbcaaDoor.Nm
open Go.Lib

/-- a rune's later bytes, and what is asked of it -/
def tailR (l : List UInt8) (n least : Nat) : Nat → Nat → Int → Int × Nat × Bool
  | 0, _, x => if x < least then (65533, 1, false) else if 1114111 < x then (65533, 1, false) else if 55296 ≤ x then (if x < 57344 then (65533, 1, false) else (x, n, true)) else (x, n, true)
  | f + 1, i, x => if (l.getD i 0).toNat < 128 then (65533, 1, false) else if 192 ≤ (l.getD i 0).toNat then (65533, 1, false) else tailR l n least f (i + 1) (x * 64 + (l.getD i 0).toNat - 128)
/-- the reading -/
def runeR (l : List UInt8) : Int × Nat × Bool :=
  if (l.getD 0 0).toNat < 128 then ((l.getD 0 0).toNat, 1, true)
  else if (l.getD 0 0).toNat < 194 then (65533, 1, false)
  else if (l.getD 0 0).toNat < 224 then (if l.length < 2 then (65533, 1, false) else tailR l 2 128 1 1 ((l.getD 0 0).toNat - 192))
  else if (l.getD 0 0).toNat < 240 then (if l.length < 3 then (65533, 1, false) else tailR l 3 2048 2 1 ((l.getD 0 0).toNat - 224))
  else if (l.getD 0 0).toNat < 245 then (if l.length < 4 then (65533, 1, false) else tailR l 4 65536 3 1 ((l.getD 0 0).toNat - 240))
  else (65533, 1, false)

theorem strayL_beq (l : List UInt8) : strayL l = ((decodeL l).1 == 65533 && (decodeL l).2 == 1) := by
  unfold strayL
  obtain ⟨a, n⟩ := decodeL l
  rw [Bool.eq_iff_iff]
  simp
theorem pair3 {a n m : Nat} {x : Int} {b : Bool} (h1 : x = (a : Nat)) (h2 : m = n) (h3 : b = !(a == 65533 && n == 1)) :
    (x, m, b) = (((a, n).1 : Int), (a, n).2, !((a, n).1 == 65533 && (a, n).2 == 1)) := by
  subst h1 h2 h3
  rfl

theorem dN1 (n c0 c1 c2 c3 : Nat) (h : c0 < 128) : decodeN n c0 c1 c2 c3 = (c0, 1) := by
  unfold decodeN
  rw [if_pos h]
theorem dNbad (n c0 c1 c2 c3 : Nat) (h : (128 ≤ c0 ∧ c0 < 194) ∨ (245 ≤ c0 ∧ c0 < 256)) (b1 : c1 < 256) : decodeN n c0 c1 c2 c3 = (65533, 1) := by
  unfold decodeN
  rw [if_neg (by omega)]
  repeat' split
  all_goals first
    | rfl
    | (exfalso; omega)
set_option maxRecDepth 100000 in
theorem dN2 (n c0 c1 c2 c3 : Nat) (h : 194 ≤ c0 ∧ c0 < 224) : decodeN n c0 c1 c2 c3 = if 1 < n ∧ c1 / 64 = 2 then ((c0 - 192) * 64 + (c1 - 128), 2) else (65533, 1) := by
  unfold decodeN
  rw [if_neg (by omega)]
  by_cases k : 1 < n ∧ c1 / 64 = 2
  · rw [if_pos ⟨by omega, k⟩, if_pos k, if_pos (by omega)]
    exact Prod.ext (by simp only; omega) rfl
  · rw [if_neg (fun q => k q.2), if_neg k, if_neg (by omega), if_neg (by omega)]
set_option maxRecDepth 100000 in
theorem dN3 (n c0 c1 c2 c3 : Nat) (h : 224 ≤ c0 ∧ c0 < 240) : decodeN n c0 c1 c2 c3 = if (1 < n ∧ c1 / 64 = 2) ∧ (2 < n ∧ c2 / 64 = 2) ∧ 2048 ≤ (c0 - 224) * 4096 + (c1 - 128) * 64 + (c2 - 128) ∧ ((c0 - 224) * 4096 + (c1 - 128) * 64 + (c2 - 128) < 55296 ∨ 57344 ≤ (c0 - 224) * 4096 + (c1 - 128) * 64 + (c2 - 128)) then ((c0 - 224) * 4096 + (c1 - 128) * 64 + (c2 - 128), 3) else (65533, 1) := by
  unfold decodeN
  rw [if_neg (by omega), if_neg (by omega)]
  by_cases k : (1 < n ∧ c1 / 64 = 2) ∧ (2 < n ∧ c2 / 64 = 2)
  · have e : c0 % 16 * 4096 + c1 % 64 * 64 + c2 % 64 = (c0 - 224) * 4096 + (c1 - 128) * 64 + (c2 - 128) := by omega
    rw [if_pos ⟨by omega, k⟩, e]
    generalize hz : (c0 - 224) * 4096 + (c1 - 128) * 64 + (c2 - 128) = z
    have hz : z ≤ 65535 := by omega
    by_cases q : z ≥ 2048 ∧ (z < 55296 ∨ 57344 ≤ z ∧ z ≤ 1114111)
    · rw [if_pos q, if_pos ⟨k.1, k.2, by omega⟩]
    · rw [if_neg q, if_neg (by omega)]
  · rw [if_neg (fun q => k q.2), if_neg (by omega), if_neg (fun q => k ⟨q.1, q.2.1⟩)]
set_option maxRecDepth 100000 in
theorem dN4 (n c0 c1 c2 c3 : Nat) (h : 240 ≤ c0 ∧ c0 < 245) : decodeN n c0 c1 c2 c3 = if (1 < n ∧ c1 / 64 = 2) ∧ (2 < n ∧ c2 / 64 = 2) ∧ (3 < n ∧ c3 / 64 = 2) ∧ 65536 ≤ (c0 - 240) * 262144 + (c1 - 128) * 4096 + (c2 - 128) * 64 + (c3 - 128) ∧ (c0 - 240) * 262144 + (c1 - 128) * 4096 + (c2 - 128) * 64 + (c3 - 128) ≤ 1114111 then ((c0 - 240) * 262144 + (c1 - 128) * 4096 + (c2 - 128) * 64 + (c3 - 128), 4) else (65533, 1) := by
  unfold decodeN
  rw [if_neg (by omega), if_neg (by omega), if_neg (by omega)]
  by_cases k : (1 < n ∧ c1 / 64 = 2) ∧ (2 < n ∧ c2 / 64 = 2) ∧ (3 < n ∧ c3 / 64 = 2)
  · have e : c0 % 8 * 262144 + c1 % 64 * 4096 + c2 % 64 * 64 + c3 % 64 = (c0 - 240) * 262144 + (c1 - 128) * 4096 + (c2 - 128) * 64 + (c3 - 128) := by omega
    rw [if_pos ⟨by omega, k⟩, e]
    generalize (c0 - 240) * 262144 + (c1 - 128) * 4096 + (c2 - 128) * 64 + (c3 - 128) = z
    by_cases q : z ≥ 65536 ∧ (z < 55296 ∨ 57344 ≤ z ∧ z ≤ 1114111)
    · rw [if_pos q, if_pos ⟨k.1, k.2.1, k.2.2, by omega⟩]
    · rw [if_neg q, if_neg (by omega)]
  · rw [if_neg (fun q => k q.2), if_neg (fun q => k ⟨q.1, q.2.1, q.2.2.1⟩)]

theorem bad3 : ((65533 : Int), 1, false) = ((((65533, 1) : Nat × Nat).1 : Int), ((65533, 1) : Nat × Nat).2, !(((65533, 1) : Nat × Nat).1 == 65533 && ((65533, 1) : Nat × Nat).2 == 1)) := rfl

set_option maxHeartbeats 4000000 in
set_option maxRecDepth 100000 in
theorem runeR_eq (l : List UInt8) : runeR l = (((decodeL l).1 : Int), (decodeL l).2, !strayL l) := by
  have b0 := (l.getD 0 0).toNat_lt
  have b1 := (l.getD 1 0).toNat_lt
  have b2 := (l.getD 2 0).toNat_lt
  have b3 := (l.getD 3 0).toNat_lt
  rw [strayL_beq, decodeL_N]
  unfold runeR
  simp only [tailR]
  generalize (l.getD 0 0).toNat = c0 at *
  generalize (l.getD 1 0).toNat = c1 at *
  generalize (l.getD 2 0).toNat = c2 at *
  generalize (l.getD 3 0).toNat = c3 at *
  generalize l.length = n at *
  by_cases k0 : c0 < 128
  · rw [if_pos k0, dN1 _ _ _ _ _ k0]
    exact pair3 rfl rfl (by simp; omega)
  rw [if_neg k0]
  by_cases k1 : c0 < 194
  · rw [if_pos k1, dNbad _ _ _ _ _ (by omega) b1]
    exact bad3
  rw [if_neg k1]
  by_cases k2 : c0 < 224
  · rw [if_pos k2, dN2 _ _ _ _ _ (by omega)]
    clear k0
    by_cases q : 1 < n ∧ c1 / 64 = 2
    · rw [if_pos q, if_neg (by omega), if_neg (by omega), if_neg (by omega), if_neg (by omega), if_neg (by omega), if_neg (by omega)]
      exact pair3 (by omega) rfl (by simp)
    · rw [if_neg q, ← bad3]
      repeat' split
      all_goals first
        | rfl
        | (exfalso; omega)
  rw [if_neg k2]
  by_cases k3 : c0 < 240
  · rw [if_pos k3]
    have hd := dN3 n c0 c1 c2 c3 (by omega)
    generalize decodeN n c0 c1 c2 c3 = d at hd ⊢
    clear k0 k1
    split at hd
    · rename_i q
      subst hd
      rw [if_neg (by omega), if_neg (by omega), if_neg (by omega), if_neg (by omega), if_neg (by omega), if_neg (by omega), if_neg (by omega)]
      rcases q.2.2.2 with r | r
      · rw [if_neg (by omega)]
        exact pair3 (by omega) rfl (by simp)
      · rw [if_pos (by omega), if_neg (by omega)]
        exact pair3 (by omega) rfl (by simp)
    · rename_i q
      subst hd
      rw [← bad3]
      repeat' split
      all_goals first
        | rfl
        | (exfalso; omega)
  rw [if_neg k3]
  by_cases k4 : c0 < 245
  · rw [if_pos k4]
    have hd := dN4 n c0 c1 c2 c3 (by omega)
    generalize decodeN n c0 c1 c2 c3 = d at hd ⊢
    clear k0 k1 k2
    split at hd
    · rename_i q
      subst hd
      rw [if_neg (by omega), if_neg (by omega), if_neg (by omega), if_neg (by omega), if_neg (by omega), if_neg (by omega), if_neg (by omega), if_neg (by omega), if_neg (by omega), if_pos (by omega), if_neg (by omega)]
      exact pair3 (by omega) rfl (by simp)
    · rename_i q
      subst hd
      rw [← bad3]
      by_cases g1 : n < 4
      · rw [if_pos g1]
      rw [if_neg g1]
      by_cases g2 : c1 < 128
      · rw [if_pos g2]
      rw [if_neg g2]
      by_cases g3 : 192 ≤ c1
      · rw [if_pos g3]
      rw [if_neg g3]
      by_cases g4 : c2 < 128
      · rw [if_pos g4]
      rw [if_neg g4]
      by_cases g5 : 192 ≤ c2
      · rw [if_pos g5]
      rw [if_neg g5]
      by_cases g6 : c3 < 128
      · rw [if_pos g6]
      rw [if_neg g6]
      by_cases g7 : 192 ≤ c3
      · rw [if_pos g7]
      rw [if_neg g7]
      by_cases g8 : ((((c0 : Int) - 240) * 64 + c1 - 128) * 64 + c2 - 128) * 64 + c3 - 128 < (65536 : Nat)
      · rw [if_pos g8]
      rw [if_neg g8, if_pos (by omega)]
  rw [if_neg k4, dNbad _ _ _ _ _ (by omega) b1]
  exact bad3
end Go.Proofs.YtplgiagjgmlbcaaDoor.Nm
