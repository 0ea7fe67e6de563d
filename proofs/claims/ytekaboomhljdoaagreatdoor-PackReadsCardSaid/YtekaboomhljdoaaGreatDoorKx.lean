/-
  The contracts of key's written, value and From, and of the document's own text, digit and From. Conditions: each law's own.
-/
import Derived.Test.YtekaboomhljdoaaGreatDoorWj
import Derived.Test.YtekaboomhljdoaaGreatDoorPk
import Derived.Deep.RegionHeld3
import Derived.Deep.RegionLaw
import Derived.Lib.SlBytesConst
namespace Go.Proofs.YtekaboomhljdoaaGreatDoor.Sh
open Go.RowKit Go.Lib

def digs : ByteArray := ⟨#[48, 49, 50, 51, 52, 53, 54, 55, 56, 57, 97, 98, 99, 100, 101, 102]⟩
theorem dig_get (q : Nat) (h : q < 16) : ∀ h2, (⟨#[48, 49, 50, 51, 52, 53, 54, 55, 56, 57, 97, 98, 99, 100, 101, 102]⟩ : ByteArray)[q]'h2 = dig q := by
  rcases (show q = 0 ∨ q = 1 ∨ q = 2 ∨ q = 3 ∨ q = 4 ∨ q = 5 ∨ q = 6 ∨ q = 7 ∨ q = 8 ∨ q = 9 ∨ q = 10 ∨ q = 11 ∨ q = 12 ∨ q = 13 ∨ q = 14 ∨ q = 15 by omega) with rfl | rfl | rfl | rfl | rfl | rfl | rfl | rfl | rfl | rfl | rfl | rfl | rfl | rfl | rfl | rfl <;> exact fun _ => rfl
theorem wrap_in (x : Int) (h0 : 0 ≤ x) (h1 : x < 4294967296) : IntKind.i64.wrap x = x := IntWalk.i64_in _ (by omega)
/-- a byte's two digits, as the walk comes to them -/
theorem halves (x : UInt8) : ∃ q r : Nat, q < 16 ∧ r < 16 ∧ q = x.toNat / 16 ∧ r = x.toNat % 16 ∧ IntKind.i64.wrap (x.toNat : Int) = (x.toNat : Int) ∧ IntKind.i64.wrap ((x.toNat : Int).tdiv 16) = (q : Int) ∧ (x.toNat : Int).tmod 16 = (r : Int) ∧ (x.toNat : Int).tdiv 16 = (q : Int) := by
  have hx := x.toNat_lt
  have e1 : (x.toNat : Int).tdiv 16 = ((x.toNat / 16 : Nat) : Int) := by rw [Int.tdiv_eq_ediv_of_nonneg (by omega)]; omega
  have e2 : (x.toNat : Int).tmod 16 = ((x.toNat % 16 : Nat) : Int) := by rw [Int.tmod_eq_emod_of_nonneg (by omega)]; omega
  exact ⟨x.toNat / 16, x.toNat % 16, by omega, by omega, rfl, rfl, wrap_in _ (by omega) (by omega), by rw [e1]; exact wrap_in _ (by omega) (by omega), e2, e1⟩
theorem two_lit (W : World) (a b : UInt8) : Byt (W.alloc (.cells #[.int .u8 (a.toNat : Int), .int .u8 (b.toNat : Int)] 5)) (some ⟨W.heap.size, 0, none⟩) [a, b] := fun _ => by
  refine ⟨W.heap.size, 0, rfl, by simp, fun j hj => ?_⟩
  rw [World.cell?_alloc_new]
  simp only [List.length_cons, List.length_nil] at hj
  rcases (show j = 0 ∨ j = 1 by omega) with rfl | rfl <;> rfl

set_option maxHeartbeats 4000000 in
set_option maxRecDepth 100000 in
theorem keywritten_any (ao : Option Addr) (l : List UInt8) (n c : Nat) (w : World) (h : Byt w ao l) (hln : l.length = n) (hc : n ≤ c) (hl : n * 2 ≤ 140737488355328) :
    Calls Tryz.prog 87 #[.slice ao n c] w fun e w' => Below w.heap.size w w' ∧ e = .returned (.string ⟨(hexL l).toArray⟩) := by
  have H := Lib.hid h
  have HL := Lib.hid hln
  obtain ⟨i0, hi, hz0, hz1, hz2⟩ := info_parts info5
  have hmk : ∀ W : World, (Instr.makeSlice 24 (.int .i64 0) (.int .i64 (2 * (n : Int)))).run Tryz.prog W = _ := fun W => run_make W 24 5 i0 (.int .u8 0) Tryz.underlying24 hi hz0 .i64 .i64 0 (2 * (n : Int)) (Int.le_refl _) (by omega) (by rw [hz2]; omega) (by omega)
  have e1 : (2 * (n : Int)).toNat = 2 * n := by omega
  rw [e1, hz1, Int.toNat_zero, Nat.mul_one] at hmk
  have own0 := World.ownsRow_made (e := 5) (size := 1) (base := w.heap.size) w (madeCells (Value.int .u8 0).cells (2 * n)) (2 * n) (Nat.le_refl _) (by unfold maxLen; omega) (by rw [size_madeCells, Nat.mul_one])
  generalize madeCells (Value.int .u8 0).cells (2 * n) = Z at *
  have O0 : Hid (Own (w.alloc (.cells Z 5)) w.heap.size (.slice (some ⟨w.heap.size, 0, none⟩) 0 (2 * n)) []) := own0
  have hcap : 2 * n ≤ 9223372036854775807 := by omega
  clear h hln own0 hi hz0 hz1 hz2 e1
  go_enter Tryz.func87, Tryz.ntmps87
  go_wp2_with fail
  go_loopw [3, 12] (fun v vi wr => ∃ i : Nat, i ≤ n ∧ vi = .int .i64 i ∧ Own wr w.heap.size v (hexL (l.take i)) ∧ Below w.heap.size w wr) (fun _ vi _ => n - (RowKit.intOf vi).toNat)
  case atStart => exact ⟨0, by omega, rfl, O0.out, (Below.refl _ w).alloc (Nat.le_refl _) _⟩
  case round =>
    obtain ⟨i, hi, rfl, hown, hb⟩ := hrel
    have hbz := hb.size
    by_cases hin : i < n
    · have l1 := HL.out
      obtain ⟨bb, oo, rfl, hlt, hcell⟩ := H.out (by intro h0; rw [h0] at l1; simp at l1; omega)
      have d1 := (hb.cell (p := ⟨bb, oo + i, none⟩) hlt).trans (hcell i (by omega))
      have hnx := hexL_take l i (by omega)
      have hll := hexL_len (l.take i)
      rw [List.length_take, Nat.min_eq_left (by omega)] at hll
      generalize l[i]'(by omega) = x at *
      obtain ⟨acc, hacc⟩ : ∃ acc, acc = hexL (l.take i) := ⟨_, rfl⟩
      rw [← hacc] at hown hnx hll
      have xl := x.toNat_lt
      obtain ⟨q, r, hq, hr, hqe, hre, w1, w2, w3, _⟩ := halves x
      rw [← hqe, ← hre] at hnx
      have k1 := dig_get q hq
      have k2 := dig_get r hr
      have HQ := Lib.hid hqe
      have w5 : IntKind.i64.wrap (q : Int) = (q : Int) := wrap_in _ (by omega) (by omega)
      have q3 : (0 : Int) ≤ (q : Int) := by omega
      have q4 : (q : Int) < 16 := by omega
      have q5 : (0 : Int) ≤ (r : Int) := by omega
      have q6 : (r : Int) < 16 := by omega
      clear hqe hre
      have O1 := Lib.hid hown
      have B1 := Lib.hid hb
      have HX := Lib.hid hnx
      have q1 : (0 : Int) ≤ (i : Int) := by omega
      have q2 : (i : Int) < (n : Int) := by omega
      clear hnx hown hb hacc hcell l1
      have b1 := B1.out.alloc hbz (.cells #[.int .u8 ((dig q).toNat : Int), .int .u8 ((dig r).toNat : Int)] 5)
      have own1 := World.ownsRow.alloc O1.out (.cells #[.int .u8 ((dig q).toNat : Int), .int .u8 ((dig r).toNat : Int)] 5)
      have O2 : Hid (Own (wr.alloc (.cells #[.int .u8 ((dig q).toNat : Int), .int .u8 ((dig r).toNat : Int)] 5)).drew w.heap.size u3 acc) := own1
      have B2 := Lib.hid b1.drew
      have LT := Lib.hid (two_lit wr (dig q) (dig r)).drew
      have HF : Hid ([dig q, dig r].length = 2) := rfl
      have p1 : acc.length + 2 ≤ 140737488355328 := by omega
      have p2 := b1.drew.size
      obtain ⟨y1, hy1⟩ : ∃ y, y = dig q := ⟨_, rfl⟩
      obtain ⟨y2, hy2⟩ : ∃ y, y = dig r := ⟨_, rfl⟩
      rw [← hy1, ← hy2] at O2 B2 LT HF HX
      rw [← hy1] at k1
      rw [← hy2] at k2
      rw [← hy1, ← hy2] at p2
      clear own1 b1 hy1 hy2
      go_wp2_with fail
      go_region_held3 (fun _ => True) (trivial) ((refine step_app_len (t := 24) (e := 5) rfl (.tmp 16) (.tmp 25) rfl Tryz.underlying24 info5 w.heap.size u3 acc [y1, y2] (by simp [Act.eval]) O2.out ⟨wr.heap.size, 0, none⟩ 2 2 (by simp [Act.eval]) LT.out HF p1 p2 ?_; intro v1 w1 hown1 hgrow1))
      all_goals
        have hb' : Hid (Below w.heap.size w w1) := B2.out.grown hgrow1 p2 (fun k hk => (O2.out.lt k hk).1)
        have hown' : Hid (Own w1 w.heap.size v1 (hexL (l.take (i + 1)))) := by show Own _ _ _ _; rw [HX.out]; exact hown1
        clear hown1 hgrow1
        go_wp2_with fail
        go_roundw
        case rel => exact ⟨i + 1, by omega, by go_num, hown'.out, hb'.out⟩
        case measure => simp [RowKit.intOf]; omega
    · obtain rfl : i = n := by omega
      rw [List.take_of_length_le (by rw [HL.out]; exact Nat.le_refl _)] at hown
      obtain ⟨a5, c5, rfl, _, _, hr5, hn5⟩ := own_byt hown
      have k3 := conv_byt (t := 24) (e := 5) (d := 27) (P := Tryz.prog) (w := wr) Tryz.underlying24 Tryz.underlying5 Tryz.underlying27 a5 _ c5 hr5 hn5
      have B5 := Lib.hid hb
      clear hown hr5 hn5 hb
      obtain ⟨S, hS⟩ : ∃ S, S = (hexL l).toArray := ⟨_, rfl⟩
      obtain ⟨m, hm⟩ : ∃ m, m = (hexL l).length := ⟨_, rfl⟩
      rw [← hS, ← hm] at k3
      rw [← hm]
      have HS := Lib.hid hS
      clear hS hm
      go_wp2_with fail
      go_ret
      exact ⟨B5.out, by rw [← HS.out]; rfl⟩

set_option maxRecDepth 100000 in
theorem dig_slice (q : Nat) (h : q < 16) (W : World) : (Instr.slice 9 (.string ⟨#[48, 49, 50, 51, 52, 53, 54, 55, 56, 57, 97, 98, 99, 100, 101, 102]⟩) (some (.int .i64 (q : Int))) (some (.int .i64 ((q : Int) + 1))) none).run Tryz.prog W = .ok (.string ⟨#[dig q]⟩) W := by
  rcases (show q = 0 ∨ q = 1 ∨ q = 2 ∨ q = 3 ∨ q = 4 ∨ q = 5 ∨ q = 6 ∨ q = 7 ∨ q = 8 ∨ q = 9 ∨ q = 10 ∨ q = 11 ∨ q = 12 ∨ q = 13 ∨ q = 14 ∨ q = 15 by omega) with rfl | rfl | rfl | rfl | rfl | rfl | rfl | rfl | rfl | rfl | rfl | rfl | rfl | rfl | rfl | rfl <;> rfl

theorem str_two (a : List UInt8) (x y : UInt8) : ((⟨a.toArray⟩ : ByteArray) ++ ⟨#[x]⟩ ++ ⟨#[y]⟩) = ⟨(a ++ [x, y]).toArray⟩ := by
  apply ByteArray.ext
  simp [ByteArray.data_append]
set_option maxHeartbeats 4000000 in
set_option maxRecDepth 100000 in
theorem text_any (ao : Option Addr) (l : List UInt8) (n c : Nat) (w : World) (h : Byt w ao l) (hln : l.length = n) (hc : n ≤ c) (hl : n ≤ 1000000) :
    Calls Tryz.prog 50 #[.slice ao n c] w fun e w' => e = .returned (.string ⟨(hexL l).toArray⟩) ∧ Below w.heap.size w w' := by
  have H := Lib.hid h
  have HL := Lib.hid hln
  clear h hln
  go_enter Tryz.func50, Tryz.ntmps50
  go_wp2_with fail
  go_loopw [3, 4] (fun vs vi wr => ∃ i k : Nat, i ≤ n ∧ vi = .int .i64 i ∧ vs = .string ⟨(hexL (l.take i)).toArray⟩ ∧ Hid (wr = w.drewN k)) (fun _ vi _ => n - (RowKit.intOf vi).toNat)
  case atStart => exact ⟨0, 0, by omega, rfl, rfl, rfl⟩
  case round =>
    obtain ⟨i, k, hi, rfl, rfl, hw⟩ := hrel
    by_cases hin : i < n
    · have l1 := HL.out
      obtain ⟨bb, oo, rfl, hlt, hcell⟩ := H.out (by intro h0; rw [h0] at l1; simp at l1; omega)
      have d1 : wr.cell? ⟨bb, oo + i, none⟩ = some (.int .u8 ((l[i]'(by omega)).toNat : Int)) := by rw [hw.out]; exact hcell i (by omega)
      have hnx := hexL_take l i (by omega)
      have hll := hexL_len (l.take i)
      rw [List.length_take, Nat.min_eq_left (by omega)] at hll
      generalize l[i]'(by omega) = x at *
      obtain ⟨acc, hacc⟩ : ∃ acc, acc = hexL (l.take i) := ⟨_, rfl⟩
      rw [← hacc] at hnx hll ⊢
      have xl := x.toNat_lt
      obtain ⟨q, r, hq, hr, hqe, hre, w1, w2, w3, w4⟩ := halves x
      rw [← hqe, ← hre] at hnx
      have k1 := dig_slice q hq
      have k2 := dig_slice r hr
      have HX := Lib.hid hnx
      have w5 : IntKind.i64.wrap (q : Int) = (q : Int) := wrap_in _ (by omega) (by omega)
      have q1 : (0 : Int) ≤ (i : Int) := by omega
      have q2 : (i : Int) < (n : Int) := by omega
      have q3 : (0 : Int) ≤ (q : Int) := by omega
      have q4 : (q : Int) < 16 := by omega
      have q5 : (0 : Int) ≤ (r : Int) := by omega
      have q6 : (r : Int) < 16 := by omega
      have w6 : IntKind.i64.wrap (r : Int) = (r : Int) := wrap_in _ (by omega) (by omega)
      have w7 : IntKind.i64.wrap ((r : Int) + 1) = (r : Int) + 1 := wrap_in _ (by omega) (by omega)
      have w8 : IntKind.i64.wrap ((q : Int) + 1) = (q : Int) + 1 := wrap_in _ (by omega) (by omega)
      clear hnx hacc hcell l1 hqe hre
      go_wp2_with fail
      go_quiet (fail)
      go_wp2_with fail
      generalize hwv : wr.drewN nq = wv at *
      obtain ⟨k3, hwv2⟩ : ∃ k3, Hid (wv = w.drewN k3) := ⟨k + nq, by show _ = _; rw [← hwv, hw.out, World.drewN_drewN]⟩
      clear hwv hw d1
      go_quiet (fail)
      go_wp2_with fail
      go_roundw
      case rel => exact ⟨i + 1, k3 + nq, by omega, by go_num, by rw [HX.out, str_two], by show _ = _; rw [hwv2.out, World.drewN_drewN]⟩
      case measure => simp [RowKit.intOf]; omega
    · obtain rfl : i = n := by omega
      rw [List.take_of_length_le (by rw [HL.out]; exact Nat.le_refl _)]
      obtain ⟨S, hS⟩ : ∃ S, S = (hexL l).toArray := ⟨_, rfl⟩
      rw [← hS]
      have HS := Lib.hid hS
      clear hS
      go_wp2_with fail
      go_ret
      exact ⟨by rw [← HS.out]; rfl, by rw [hw.out]; exact below_drewN (Below.refl _ _) _⟩

end Go.Proofs.YtekaboomhljdoaaGreatDoor.Sh
