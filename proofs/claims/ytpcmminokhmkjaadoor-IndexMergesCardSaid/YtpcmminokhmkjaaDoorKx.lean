/-
  The contracts of key's written, value and From, and of the document's own text, digit and From. Conditions: each law's own.
-/
import Derived.Test.YtpcmminokhmkjaaDoorWj
import Derived.Test.YtpcmminokhmkjaaDoorPk
import Derived.Test.YtpcmminokhmkjaaDoorShelf
import Derived.Deep.RegionHeld3
import Derived.Deep.RegionLaw
import Derived.Lib.SlBytesConst
namespace Go.Proofs.YtpcmminokhmkjaaDoor.Sh
open Go.RowKit Go.Lib

def digs : ByteArray := ⟨#[48, 49, 50, 51, 52, 53, 54, 55, 56, 57, 97, 98, 99, 100, 101, 102]⟩
theorem dig_get (q : Nat) (h : q < 16) : ∀ h2, (⟨#[48, 49, 50, 51, 52, 53, 54, 55, 56, 57, 97, 98, 99, 100, 101, 102]⟩ : ByteArray)[q]'h2 = dig q := by
  rcases (show q = 0 ∨ q = 1 ∨ q = 2 ∨ q = 3 ∨ q = 4 ∨ q = 5 ∨ q = 6 ∨ q = 7 ∨ q = 8 ∨ q = 9 ∨ q = 10 ∨ q = 11 ∨ q = 12 ∨ q = 13 ∨ q = 14 ∨ q = 15 by omega) with rfl | rfl | rfl | rfl | rfl | rfl | rfl | rfl | rfl | rfl | rfl | rfl | rfl | rfl | rfl | rfl <;> exact fun _ => rfl
theorem wrap_in (x : Int) (h0 : 0 ≤ x) (h1 : x < 4294967296) : IntKind.i64.wrap x = x := IntWalk.i64_in _ (by omega)
/-- a byte's two digits, as the walk comes to them -/
theorem halves (x : UInt8) : ∃ q r : Nat, q < 16 ∧ r < 16 ∧ q = x.toNat / 16 ∧ r = x.toNat % 16 ∧ IntKind.i64.wrap (x.toNat : Int) = (x.toNat : Int) ∧ IntKind.i64.wrap ((x.toNat : Int).tdiv 16) = (q : Int) ∧ (x.toNat : Int).tmod 16 = (r : Int) ∧ (x.toNat : Int).tdiv 16 = (q : Int) := by
  have hx := x.toNat_lt
  have e1 : (x.toNat : Int).tdiv 16 = ((x.toNat / 16 : Nat) : Int) := by rw [Int.tdiv_eq_ediv_of_nonneg (by omega)]; omega
  have e2 : (x.toNat : Int).tmod 16 = ((x.toNat % 16 : Nat) : Int) := by rw [Int.tmod_eq_emod_of_nonneg (by omega)]; omega
  exact ⟨x.toNat / 16, x.toNat % 16, by omega, by omega, rfl, rfl, wrap_in _ (by omega) (by omega), by rw [e1]; exact wrap_in _ (by omega) (by omega), e2, e1⟩
theorem two_lit (W : World) (a b : UInt8) : Byt (W.alloc (.cells #[.int .u8 (a.toNat : Int), .int .u8 (b.toNat : Int)] 5)) (some ⟨W.heap.size, 0, none⟩) [a, b] := fun _ => by
  refine ⟨W.heap.size, 0, rfl, by simp, fun j hj => ?_⟩
  rw [World.cell?_alloc_new]
  simp only [List.length_cons, List.length_nil] at hj
  rcases (show j = 0 ∨ j = 1 by omega) with rfl | rfl <;> rfl

/-- which digit a byte is -/
def digitI (c : UInt8) : Int := if val c < 16 then (val c : Int) else -1
theorem index_dig (c : UInt8) : Lib.indexByte [48, 49, 50, 51, 52, 53, 54, 55, 56, 57, 97, 98, 99, 100, 101, 102] c = digitI c := by
  have : ∀ n : Fin 256, Lib.indexByte [48, 49, 50, 51, 52, 53, 54, 55, 56, 57, 97, 98, 99, 100, 101, 102] (UInt8.ofNat n.val) = digitI (UInt8.ofNat n.val) := by decide +kernel
  have h := this ⟨c.toNat, c.toNat_lt⟩
  simpa using h
theorem digit_at (c : UInt8) (i : Nat) (hi : i < 16) (h : ((dig i).toNat : Int) = (c.toNat : Int)) : digitI c = (i : Int) := by
  have h2 : dig i = c := UInt8.toNat_inj.1 (by omega)
  rw [← h2, digitI, val_dig i hi, if_pos hi]
theorem digit_no (c : UInt8) (h : ∀ i, i < 16 → ((dig i).toNat : Int) ≠ (c.toNat : Int)) : digitI c = -1 := by
  rw [digitI]
  split
  · rename_i hv
    exact absurd (by rw [dig_val c hv]) (h _ hv)
  · rfl
set_option maxHeartbeats 2000000 in
set_option maxRecDepth 100000 in
theorem digit_any (c : UInt8) (w : World) : Calls Tryd.prog 58 #[.int .u8 (c.toNat : Int)] w fun e w' => e = .returned (.int .i64 (digitI c)) ∧ w' = w := by
  have c1 := c.toNat_lt
  go_enter Tryd.func58, Tryd.ntmps58
  go_wp2_with fail
  go_loopw [3] (fun vi wr => ∃ i : Nat, i ≤ 16 ∧ vi = .int .i64 i ∧ wr = w ∧ Hid (∀ j, j < i → ((dig j).toNat : Int) ≠ (c.toNat : Int))) (fun vi _ => 16 - (RowKit.intOf vi).toNat)
  case atStart => exact ⟨0, by omega, rfl, rfl, fun j hj => absurd hj (Nat.not_lt_zero _)⟩
  case round =>
    obtain ⟨i, hi, rfl, rfl, ht⟩ := hrel
    by_cases hin : i < 16
    · have k1 := dig_get i hin
      obtain ⟨y, hy⟩ : ∃ y, y = dig i := ⟨_, rfl⟩
      rw [← hy] at k1
      have HY := Lib.hid hy
      have q1 : (0 : Int) ≤ (i : Int) := by omega
      have q2 : (i : Int) < 16 := by omega
      clear hy
      cases hyc : ((y.toNat : Int) == (c.toNat : Int)) with
      | true =>
        go_wp2_with fail
        go_ret
        exact ⟨by rw [digit_at c i hin (by rw [← HY.out]; simpa using hyc)]; rfl, rfl⟩
      | false =>
        go_wp2_with fail
        go_roundw
        case rel =>
          refine ⟨i + 1, by omega, by go_num, trivial, fun j hj => ?_⟩
          rcases Nat.lt_or_ge j i with h1 | h1
          · exact ht.out j h1
          · obtain rfl : j = i := by omega
            rw [← HY.out]
            simpa using hyc
        case measure => simp [RowKit.intOf]; omega
    · obtain rfl : i = 16 := by omega
      go_wp2_with fail
      go_ret
      exact ⟨by rw [digit_no c ht.out]; rfl, rfl⟩

set_option maxRecDepth 100000 in
theorem dig_slice (q : Nat) (h : q < 16) (W : World) : (Instr.slice 9 (.string ⟨#[48, 49, 50, 51, 52, 53, 54, 55, 56, 57, 97, 98, 99, 100, 101, 102]⟩) (some (.int .i64 (q : Int))) (some (.int .i64 ((q : Int) + 1))) none).run Tryd.prog W = .ok (.string ⟨#[dig q]⟩) W := by
  rcases (show q = 0 ∨ q = 1 ∨ q = 2 ∨ q = 3 ∨ q = 4 ∨ q = 5 ∨ q = 6 ∨ q = 7 ∨ q = 8 ∨ q = 9 ∨ q = 10 ∨ q = 11 ∨ q = 12 ∨ q = 13 ∨ q = 14 ∨ q = 15 by omega) with rfl | rfl | rfl | rfl | rfl | rfl | rfl | rfl | rfl | rfl | rfl | rfl | rfl | rfl | rfl | rfl <;> rfl

theorem str_two (a : List UInt8) (x y : UInt8) : ((⟨a.toArray⟩ : ByteArray) ++ ⟨#[x]⟩ ++ ⟨#[y]⟩) = ⟨(a ++ [x, y]).toArray⟩ := by
  apply ByteArray.ext
  simp [ByteArray.data_append]
set_option maxHeartbeats 4000000 in
set_option maxRecDepth 100000 in
theorem text_any (ao : Option Addr) (l : List UInt8) (n c : Nat) (w : World) (h : Byt w ao l) (hln : l.length = n) (hc : n ≤ c) (hl : n ≤ 1000000) :
    Calls Tryd.prog 30 #[.slice ao n c] w fun e w' => e = .returned (.string ⟨(hexL l).toArray⟩) ∧ Below w.heap.size w w' := by
  have H := Lib.hid h
  have HL := Lib.hid hln
  clear h hln
  go_enter Tryd.func30, Tryd.ntmps30
  go_wp2_with fail
  go_loopw [3, 4] (fun vs vi wr => ∃ i k : Nat, i ≤ n ∧ vi = .int .i64 i ∧ vs = .string ⟨(hexL (l.take i)).toArray⟩ ∧ Hid (wr = w.drewN k)) (fun _ vi _ => n - (RowKit.intOf vi).toNat)
  case atStart => exact ⟨0, 0, by omega, rfl, rfl, rfl⟩
  case round =>
    obtain ⟨i, k, hi, rfl, rfl, hw⟩ := hrel
    by_cases hin : i < n
    · have l1 := HL.out
      obtain ⟨bb, oo, rfl, hlt, hcell⟩ := H.out (by intro h0; rw [h0] at l1; simp at l1; omega)
      have d1 : wr.cell? ⟨bb, oo + i, none⟩ = some (.int .u8 ((l[i]'(by omega)).toNat : Int)) := by rw [hw.out]; exact hcell i (by omega)
      have hnx := hexL_take l i (by omega)
      have hll := hexL_len (l.take i)
      rw [List.length_take, Nat.min_eq_left (by omega)] at hll
      generalize l[i]'(by omega) = x at *
      obtain ⟨acc, hacc⟩ : ∃ acc, acc = hexL (l.take i) := ⟨_, rfl⟩
      rw [← hacc] at hnx hll ⊢
      have xl := x.toNat_lt
      obtain ⟨q, r, hq, hr, hqe, hre, w1, w2, w3, w4⟩ := halves x
      rw [← hqe, ← hre] at hnx
      have k1 := dig_slice q hq
      have k2 := dig_slice r hr
      have HX := Lib.hid hnx
      have w5 : IntKind.i64.wrap (q : Int) = (q : Int) := wrap_in _ (by omega) (by omega)
      have q1 : (0 : Int) ≤ (i : Int) := by omega
      have q2 : (i : Int) < (n : Int) := by omega
      have q3 : (0 : Int) ≤ (q : Int) := by omega
      have q4 : (q : Int) < 16 := by omega
      have q5 : (0 : Int) ≤ (r : Int) := by omega
      have q6 : (r : Int) < 16 := by omega
      have w6 : IntKind.i64.wrap (r : Int) = (r : Int) := wrap_in _ (by omega) (by omega)
      have w7 : IntKind.i64.wrap ((r : Int) + 1) = (r : Int) + 1 := wrap_in _ (by omega) (by omega)
      have w8 : IntKind.i64.wrap ((q : Int) + 1) = (q : Int) + 1 := wrap_in _ (by omega) (by omega)
      clear hnx hacc hcell l1 hqe hre
      go_wp2_with fail
      go_quiet (fail)
      go_wp2_with fail
      generalize hwv : wr.drewN nq = wv at *
      obtain ⟨k3, hwv2⟩ : ∃ k3, Hid (wv = w.drewN k3) := ⟨k + nq, by show _ = _; rw [← hwv, hw.out, World.drewN_drewN]⟩
      clear hwv hw d1
      go_quiet (fail)
      go_wp2_with fail
      go_roundw
      case rel => exact ⟨i + 1, k3 + nq, by omega, by go_num, by rw [HX.out, str_two], by show _ = _; rw [hwv2.out, World.drewN_drewN]⟩
      case measure => simp [RowKit.intOf]; omega
    · obtain rfl : i = n := by omega
      rw [List.take_of_length_le (by rw [HL.out]; exact Nat.le_refl _)]
      obtain ⟨S, hS⟩ : ∃ S, S = (hexL l).toArray := ⟨_, rfl⟩
      rw [← hS]
      have HS := Lib.hid hS
      clear hS
      go_wp2_with fail
      go_ret
      exact ⟨by rw [← HS.out]; rfl, by rw [hw.out]; exact below_drewN (Below.refl _ _) _⟩

/-- what From answers -/
def fromS (l : List UInt8) : ByteArray := if l.length = 32 then ⟨(hexL l).toArray⟩ else ⟨#[]⟩
def fromE (l : List UInt8) : Int := if l.length = 32 then 0 else 70
end Go.Proofs.YtpcmminokhmkjaaDoor.Sh
