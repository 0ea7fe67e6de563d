/-
  The contracts of super's rising, bytesOf, bitsOf, number and packsOf. Conditions: each law's own.
-/
import Derived.Test.YtlpbkjonicjccaaDoorQa
import Derived.Test.YtlpbkjonicjccaaDoorKe
import Derived.Deep.WholeRow
namespace Go.Proofs.YtlpbkjonicjccaaDoor.Sh
open Go.RowKit Go.Lib

theorem drop_at {α : Type} (p : List α) (i : Nat) (h : i < p.length) : p.drop i = p[i] :: p.drop (i + 1) := by
  rw [← List.getElem_cons_drop h]
set_option maxHeartbeats 1000000 in
set_option maxRecDepth 100000 in
theorem rising_any (ao : Option Addr) (p : List Int) (n c : Nat) (w : World) (h : Zrw w ao p) (hpn : p.length = n) (hc : n ≤ 9223372036854775807) :
    Calls Tryd.prog 29 #[.slice ao n c] w fun e w' => e = .returned (.bool (riseL 0 p)) ∧ w' = w := by
  have HZ := Lib.hid h
  have HP := Lib.hid hpn
  clear h hpn
  go_enter Tryd.func29, Tryd.ntmps29
  go_wp2_with fail
  go_loop [3, 8] (fun vl vi => ∃ (i : Nat) (least : Int), i ≤ n ∧ 0 ≤ least ∧ least ≤ 62 ∧ vi = .int .i64 i ∧ vl = .int .i64 least ∧ Hid (riseL 0 p = riseL least (p.drop i))) (fun _ vi => n - (RowKit.intOf vi).toNat)
  case atStart => exact ⟨0, 0, by omega, by omega, by omega, rfl, rfl, rfl⟩
  case round =>
    obtain ⟨i, least, hi, hl0, hl1, rfl, rfl, hh⟩ := hrel
    by_cases hin : i < n
    · have hil : i < p.length := by rw [HP.out]; exact hin
      obtain ⟨b, o, rfl, hb, hcell⟩ := HZ.out (by intro h0; rw [h0] at hil; simp at hil)
      have d1 := hcell i hil
      have hd := hh.out
      rw [drop_at p i hil, riseL] at hd
      obtain ⟨q, hq⟩ : ∃ q, q = p[i] := ⟨_, rfl⟩
      rw [← hq] at d1 hd
      have HD := Lib.hid hd
      clear hcell hq hd hh hil
      by_cases h1 : q < least
      · have e1 : decide (q < least) = true := by simp [h1]
        have HR : Hid (riseL 0 p = false) := by show _ = _; rw [HD.out, e1]; rfl
        clear h1 HD
        go_wp2_with fail
        go_ret
        exact ⟨ret_bool HR.out.symm, rfl⟩
      · have e1 : decide (q < least) = false := by simp [h1]
        by_cases h2 : q < 62
        · have e2 : decide ((62 : Int) ≤ q) = false := by simp; omega
          have e3 : decide (q < 62) = true := by simp [h2]
          have HR : Hid (riseL 0 p = riseL (q + 1) (p.drop (i + 1))) := by show _ = _; rw [HD.out, e1, e3]; rfl
          have h3 : 0 ≤ q := by omega
          clear HD e3
          go_wp2_with fail
          go_round
          case rel => exact ⟨i + 1, q + 1, by omega, by omega, by omega, by go_num, rfl, HR⟩
          case measure => simp [RowKit.intOf]; omega
        · have e2 : decide ((62 : Int) ≤ q) = true := by simp; omega
          have e3 : decide (q < 62) = false := by simp [h2]
          have HR : Hid (riseL 0 p = false) := by show _ = _; rw [HD.out, e1, e3]; rfl
          clear HD e3
          go_wp2_with fail
          go_ret
          exact ⟨ret_bool HR.out.symm, rfl⟩
    · obtain rfl : i = n := by omega
      have HR : Hid (riseL 0 p = true) := by show _ = _; rw [hh.out, List.drop_of_length_le (by have := HP.out; omega)]; rfl
      clear hh
      go_wp2_with fail
      go_ret
      exact ⟨ret_bool HR.out.symm, rfl⟩
theorem or_u64 (x y : Nat) (hx : x < 18446744073709551616) (hy : y < 18446744073709551616) : bits BinOp.or IntKind.u64 (x : Int) (y : Int) = ((x ||| y : Nat) : Int) := by
  exact u64_or_nat _ _ hx hy
theorem w64 (x : Int) : IntKind.u64.wrap x = x % 18446744073709551616 := by simp [IntKind.wrap, IntKind.bits, IntKind.signed]
theorem wrap_nat (n : Nat) (h : n < 18446744073709551616) : IntKind.u64.wrap (n : Int) = (n : Int) := by rw [w64]; omega
theorem ret_u64 {a b : Int} (h : a = b) : Ending.returned (.int .u64 a) = .returned (.int .u64 b) := by rw [h]
theorem val_u64 {a b : Int} (h : a = b) : Value.int .u64 a = .int .u64 b := by rw [h]
set_option maxHeartbeats 1000000 in
set_option maxRecDepth 100000 in
theorem bitsOf_any (ao : Option Addr) (p : List Int) (n c : Nat) (w : World) (h : Zrw w ao p) (hpn : p.length = n) (hc : n ≤ 9223372036854775807) (hr : ∀ q ∈ p, 0 ≤ q ∧ q < 62) :
    Calls Tryd.prog 33 #[.slice ao n c] w fun e w' => e = .returned (.int .u64 (orL p : Nat)) ∧ w' = w := by
  have HZ := Lib.hid h
  have HP := Lib.hid hpn
  have HQ := Lib.hid hr
  clear h hpn hr
  go_enter Tryd.func33, Tryd.ntmps33
  go_wp2_with fail
  go_loop [3, 8] (fun vx vi => ∃ (i x : Nat), i ≤ n ∧ vi = .int .i64 i ∧ vx = .int .u64 (x : Nat) ∧ x < 4611686018427387904 ∧ Hid (x = orL (p.take i))) (fun _ vi => n - (RowKit.intOf vi).toNat)
  case atStart => exact ⟨0, 0, by omega, rfl, rfl, by omega, rfl⟩
  case round =>
    obtain ⟨i, x, hi, rfl, rfl, hx, hh⟩ := hrel
    by_cases hin : i < n
    · have hil : i < p.length := by rw [HP.out]; exact hin
      obtain ⟨b, o, rfl, hb, hcell⟩ := HZ.out (by intro h0; rw [h0] at hil; simp at hil)
      have d1 := hcell i hil
      have hq0 := HQ.out p[i] (List.getElem_mem hil)
      have hn := orL_take p i hil
      rw [← hh.out] at hn
      have hlt := orL_lt (p.take (i + 1)) (fun q hq => HQ.out q (List.mem_of_mem_take hq))
      obtain ⟨q, hq⟩ : ∃ q, q = p[i] := ⟨_, rfl⟩
      rw [← hq] at d1 hq0 hn
      obtain ⟨k, rfl⟩ : ∃ k : Nat, q = (k : Int) := ⟨q.toNat, by omega⟩
      rw [Int.toNat_natCast] at hn
      have hk : k < 62 := by omega
      have hkp : 2 ^ k < 4611686018427387904 := Nat.pow_lt_pow_right (a := 2) (by decide) hk
      have ho := or_u64 x (2 ^ k) (by omega) (by omega)
      have HN : Hid (x ||| 2 ^ k = orL (p.take (i + 1))) := hn.symm
      have hx2 : x ||| 2 ^ k < 4611686018427387904 := by rw [HN.out]; exact hlt
      clear hcell hq hn hh hil hlt hq0
      go_wp2_with fail
      go_round
      case rel => exact ⟨i + 1, x ||| 2 ^ k, by omega, by go_num, val_u64 (by rw [show IntKind.u64.wrap ((2 : Int) ^ k) = ((2 ^ k : Nat) : Int) by rw [show ((2 : Int) ^ k) = ((2 ^ k : Nat) : Int) by simp, wrap_nat _ (by omega)], ho]), hx2, HN⟩
      case measure => simp [RowKit.intOf]; omega
    · obtain rfl : i = n := by omega
      have HR : Hid (x = orL p) := by show _ = _; rw [hh.out, List.take_of_length_le (by have := HP.out; omega)]
      clear hh
      go_wp2_with fail
      go_ret
      exact ⟨ret_u64 (by have := HR.out; omega), rfl⟩
theorem blankN_at (N : Nat) (m : List UInt8) (i : Nat) (hi : i < N) (hm : m.length = N) : (bs (m.take i ++ List.replicate (N - i) 0))[i]? = some (.int .u8 0) := by
  have hl : (m.take i ++ List.replicate (N - i) (0 : UInt8)).length = N := by simp; omega
  rw [bs_get _ i (by omega), List.getElem_append_right (by simp; omega)]
  simp
theorem blankN_set (N : Nat) (m : List UInt8) (i : Nat) (x : UInt8) (hi : i < N) (hm : m.length = N) (hx : m[i]? = some x) : (bs (m.take i ++ List.replicate (N - i) 0)).set i (.int .u8 (x.toNat : Int)) = bs (m.take (i + 1) ++ List.replicate (N - (i + 1)) 0) := by
  have e : List.replicate (N - i) (0 : UInt8) = 0 :: List.replicate (N - (i + 1)) 0 := by rw [show N - i = (N - (i + 1)) + 1 by omega, List.replicate_succ]
  rw [e, List.take_add_one, hx, bs, List.map_append, List.set_append_right _ _ (by simp; omega)]
  simp [bs, hm, Nat.min_eq_left (show i ≤ N by omega)]
theorem blk_own5 {w : World} {B g n : Nat} {m : List UInt8} (h : Blk w g (bs m) 5) (hB : B ≤ g) (hm : m.length = n) (hn : n ≤ 1000) : Own w B (.slice (some ⟨g, 0, none⟩) n n) m := by
  subst hm
  exact ⟨by simp [bs], Or.inr ⟨g, m.length, (bs m).toArray, rfl, hB, h, Nat.le_refl _, by unfold maxLen; omega, by simp [bs], by rw [Nat.mul_one, List.toList_toArray, List.take_of_length_le (by simp [bs])]⟩⟩
theorem mk8 (W : World) : (Instr.makeSlice 26 (.int .i64 8) (.int .i64 8)).run Tryd.prog W = .ok (.slice (some ⟨W.heap.size, 0, none⟩) 8 8) (W.alloc (.cells (bs (List.replicate 8 0)).toArray 5)) := by
  obtain ⟨i0, hi, hz0, hz1, hz2⟩ := info_parts info5
  rw [run_make W 26 5 i0 (.int .u8 0) Tryd.underlying26 hi hz0 .i64 .i64 8 8 (by omega) (by omega) (by rw [hz2]; omega) (by omega), hz1]
  have e : madeCells (Value.int .u8 0).cells (Int.toNat 8 * 1) = (bs (List.replicate 8 0)).toArray := by kernel_rfl
  rw [e]
  rfl
/-- a row of bytes of the call's own, in new memory -/
def AnsO (w : World) (l : List UInt8) (e : Ending) (w' : World) : Prop := Below w.heap.size w w' ∧ ∃ g, e = .returned (.slice (some ⟨g, 0, none⟩) l.length l.length) ∧ w.heap.size ≤ g ∧ Blk w' g (bs l) 5
set_option maxHeartbeats 1000000 in
set_option maxRecDepth 100000 in
theorem bytesOf_any (x : Nat) (w : World) : Calls Tryd.prog 32 #[.int .u64 (x : Nat)] w (AnsO w (le8 x)) := by
  have mk := mk8 w
  obtain ⟨Z, hZ⟩ : ∃ Z, Z = (bs (List.replicate 8 0)).toArray := ⟨_, rfl⟩
  rw [← hZ] at mk
  obtain ⟨g, hg⟩ : ∃ g, g = w.heap.size := ⟨_, rfl⟩
  have B0 : Hid (Below w.heap.size w (w.alloc (.cells Z 5))) := (Below.refl _ w).alloc (Nat.le_refl _) _
  have BK : Hid (Blk (w.alloc (.cells Z 5)) g (bs ((le8 x).take 0 ++ List.replicate (8 - 0) 0)) 5) := by show Blk _ _ _ _; rw [hZ]; exact Blk.new w _ 5 g hg
  have WG : Hid (w.heap.size ≤ g) := by show _ ≤ _; omega
  clear hZ
  go_enter Tryd.func32, Tryd.ntmps32
  go_wp2_with fail
  rw [← hg]
  generalize w.alloc (.cells Z 5) = w2 at *
  clear hg mk
  go_loopw [8] (fun vi wr => ∃ i : Nat, i ≤ 8 ∧ vi = .int .i64 i ∧ Hid (Below w.heap.size w wr) ∧ Hid (Blk wr g (bs ((le8 x).take i ++ List.replicate (8 - i) 0)) 5)) (fun vi _ => 8 - (RowKit.intOf vi).toNat)
  case atStart => exact ⟨0, by omega, rfl, B0.out, BK.out⟩
  case round =>
    obtain ⟨i, hi, rfl, hB, hK⟩ := hrel
    by_cases hin : i < 8
    · have f1 : wr.frozen? ⟨g, i, none⟩ = false := hK.out.frozen i
      have d0 : wr.cell? ⟨g, i, none⟩ = some (.int .u8 0) := by rw [hK.out.cell]; exact blankN_at 8 _ i hin (le8_len x)
      have S := Lib.hid (hK.out.set i (.int .u8 ((x / 2 ^ (8 * i) % 256).toUInt8.toNat : Int)))
      have hS : Hid ((bs ((le8 x).take i ++ List.replicate (8 - i) 0)).set i (.int .u8 ((x / 2 ^ (8 * i) % 256).toUInt8.toNat : Int)) = bs ((le8 x).take (i + 1) ++ List.replicate (8 - (i + 1)) 0)) := blankN_set 8 _ i _ hin (le8_len x) (by rw [List.getElem?_eq_getElem (by rw [le8_len]; exact hin), le8_get x i hin])
      rw [hS.out] at S
      have hb2 := Lib.hid (hB.out.setCell (show w.heap.size ≤ (⟨g, i, none⟩ : Addr).block from WG.out) (.int .u8 ((x / 2 ^ (8 * i) % 256).toUInt8.toNat : Int)))
      rw [u8_mod] at S hb2
      have w1a : IntKind.i64.wrap (8 * (i : Int)) = 8 * (i : Int) := IntWalk.i64_in _ (by omega)
      have q0 : (8 * (i : Int)).toNat = 8 * i := by omega
      have q1 : (0 : Int) ≤ 8 * (i : Int) := by omega
      have HV : Hid (((x : Int) / 2 ^ (8 * i) % 256) = ((x / 2 ^ (8 * i) % 256 : Nat) : Int)) := by show _ = _; simp
      clear hS hK hB
      go_wp2_with fail
      go_roundw
      case rel => exact ⟨i + 1, by omega, by go_num, by rw [HV.out]; exact hb2, by rw [HV.out]; exact S⟩
      case measure => simp [RowKit.intOf]; omega
    · obtain rfl : i = 8 := by omega
      have hK2 : Hid (Blk wr g (bs (le8 x)) 5) := by
        have := hK.out
        rw [List.take_of_length_le (by rw [le8_len]; omega)] at this
        show Blk _ _ _ _
        simpa using this
      clear hK
      go_wp2_with fail
      go_ret
      exact ⟨hB.out, g, by rw [le8_len]; rfl, WG.out, hK2.out⟩
set_option maxHeartbeats 1000000 in
set_option maxRecDepth 100000 in
theorem number_any (ao : Option Addr) (l : List UInt8) (n c : Nat) (w : World) (h : Byt w ao l) (hln : l.length = n) (hn : n ≤ 8) :
    Calls Tryd.prog 36 #[.slice ao n c] w fun e w' => e = .returned (.int .u64 (numL l : Nat)) ∧ w' = w := by
  have HZ := Lib.hid h
  have HP := Lib.hid hln
  clear h hln
  go_enter Tryd.func36, Tryd.ntmps36
  go_wp2_with fail
  go_loop [3, 8] (fun vx vi => ∃ (i x : Nat), i ≤ n ∧ vi = .int .i64 i ∧ vx = .int .u64 (x : Nat) ∧ Hid (x = numL (l.take i))) (fun _ vi => n - (RowKit.intOf vi).toNat)
  case atStart => exact ⟨0, 0, by omega, rfl, rfl, rfl⟩
  case round =>
    obtain ⟨i, x, hi, rfl, rfl, hh⟩ := hrel
    by_cases hin : i < n
    · have hil : i < l.length := by rw [HP.out]; exact hin
      obtain ⟨b, o, rfl, hb, hcell⟩ := HZ.out (by intro h0; rw [h0] at hil; simp at hil)
      have d1 := hcell i hil
      obtain ⟨y, hy⟩ : ∃ y, y = l[i] := ⟨_, rfl⟩
      rw [← hy] at d1
      have hyl := y.toNat_lt
      have hxl := numL_lt (l.take i)
      rw [← hh.out, List.length_take, Nat.min_eq_left (Nat.le_of_lt hil), show (256 : Nat) = 2 ^ 8 from rfl, ← Nat.pow_mul] at hxl
      have hpw : 2 ^ (8 * i) ≤ 72057594037927936 := Nat.le_trans (Nat.pow_le_pow_right (n := 2) (by decide) (show 8 * i ≤ 56 by omega)) (by decide)
      have hnx : Hid (numL (l.take (i + 1)) = x ||| y.toNat * 2 ^ (8 * i)) := by
        show _ = _
        rw [List.take_succ_eq_append_getElem hil, numL_app, ← hh.out, ← hy, List.length_take, Nat.min_eq_left (Nat.le_of_lt hil), show (256 : Nat) = 2 ^ 8 from rfl, ← Nat.pow_mul]
        rw [Nat.or_comm, Nat.mul_comm y.toNat, ← Nat.two_pow_add_eq_or_of_lt hxl]
        simp [numL]
        omega
      have hmul : y.toNat * 2 ^ (8 * i) < 18446744073709551616 := Nat.lt_of_le_of_lt (Nat.mul_le_mul (show y.toNat ≤ 255 by omega) hpw) (by decide)
      have ho := or_u64 x (y.toNat * 2 ^ (8 * i)) (by omega) hmul
      have HO : Hid (bits BinOp.or IntKind.u64 (x : Int) (IntKind.u64.wrap ((y.toNat : Int) * 2 ^ (8 * i))) = ((x ||| y.toNat * 2 ^ (8 * i) : Nat) : Int)) := by
        show _ = _
        rw [show IntKind.u64.wrap ((y.toNat : Int) * 2 ^ (8 * i)) = ((y.toNat * 2 ^ (8 * i) : Nat) : Int) by rw [show ((y.toNat : Int) * 2 ^ (8 * i)) = ((y.toNat * 2 ^ (8 * i) : Nat) : Int) by simp, wrap_nat _ hmul], ho]
      have w1a : IntKind.i64.wrap (8 * (i : Int)) = 8 * (i : Int) := IntWalk.i64_in _ (by omega)
      have q0 : (8 * (i : Int)).toNat = 8 * i := by omega
      have q1 : (0 : Int) ≤ 8 * (i : Int) := by omega
      clear hcell hy hh hil hxl hpw hmul ho
      go_wp2_with fail
      go_round
      case rel => exact ⟨i + 1, x ||| y.toNat * 2 ^ (8 * i), by omega, by go_num, val_u64 HO.out, hnx.out.symm⟩
      case measure => simp [RowKit.intOf]; omega
    · obtain rfl : i = n := by omega
      have HR : Hid (x = numL l) := by show _ = _; rw [hh.out, List.take_of_length_le (by have := HP.out; omega)]
      clear hh
      go_wp2_with fail
      go_ret
      exact ⟨ret_u64 (by have := HR.out; omega), rfl⟩
theorem shr_bit (x k : Nat) : (bits BinOp.and IntKind.u64 ((x / 2 ^ k : Nat) : Int) 1 = ((x / 2 ^ k % 2 : Nat) : Int)) ∨ ¬ x < 18446744073709551616 := by
  by_cases h : x < 18446744073709551616
  · left
    have := u64_and_nat (x / 2 ^ k) 1 (Nat.lt_of_le_of_lt (Nat.div_le_self _ _) h) (by decide)
    rw [Nat.and_one_is_mod] at this
    exact this
  · exact .inr h
set_option maxHeartbeats 1000000 in
set_option maxRecDepth 100000 in
theorem packsOf_any (x : Nat) (hx : x < 18446744073709551616) (w : World) :
    Calls Tryd.prog 37 #[.int .u64 (x : Nat)] w fun e w' => Below w.heap.size w w' ∧ ∃ v, e = .returned v ∧ OwnZ w' w.heap.size v (packsL x) := by
  have own0 : OwnZ w w.heap.size (.slice none 0 0) [] := World.ownsRow_nil _ _ _ _
  go_enter Tryd.func37, Tryd.ntmps37
  go_wp2_with fail
  go_loopw [3, 5] (fun v vi wr => ∃ (i : Nat) (z : Value), i ≤ 62 ∧ vi = .int .i64 i ∧ z = v ∧ Below w.heap.size w wr ∧ OwnZ wr w.heap.size v (packsTo x i)) (fun _ vi _ => 62 - (RowKit.intOf vi).toNat)
  case atStart => exact ⟨0, _, by omega, rfl, rfl, Below.refl _ _, own0⟩
  case round =>
    obtain ⟨i, z, hi, rfl, hz0, hB, hO⟩ := hrel
    subst hz0
    by_cases hin : i < 62
    · have hs := packsTo_succ x i
      have hb : bits BinOp.and IntKind.u64 ((x / 2 ^ i : Nat) : Int) 1 = ((x / 2 ^ i % 2 : Nat) : Int) := (shr_bit x i).resolve_right (by omega)
      have hd : ((x / 2 ^ i : Nat) : Int) = (x : Int) / 2 ^ i := by simp
      rw [hd] at hb
      have hlen := packsTo_len x i
      have htb := Nat.testBit_eq_decide_div_mod_eq (x := x) (i := i)
      by_cases hbit : x.testBit i = true
      · rw [if_pos hbit] at hs
        have hz : x / 2 ^ i % 2 = 1 := by rw [hbit] at htb; simpa using htb.symm
        rw [hz] at hb
        have HS := Lib.hid hs
        have hsz := hB.size
        clear hs htb hbit hz hd
        obtain ⟨acc, hacc⟩ : ∃ acc, acc = packsTo x i := ⟨_, rfl⟩
        rw [← hacc] at hO hlen HS
        have w1 : Zrw (wr.alloc (.cells #[.int .i64 (i : Int)] 3)) (some ⟨wr.heap.size, 0, none⟩) [(i : Int)] := fun _ => ⟨wr.heap.size, 0, rfl, by simp, fun j hj => by
          obtain rfl : j = 0 := by simpa using hj
          rw [World.cell?_alloc_new]; simp⟩
        have own1 : OwnZ (wr.alloc (.cells #[.int .i64 (i : Int)] 3)) w.heap.size z acc := World.ownsRow.alloc (by exact hO) _
        have b1 := hB.alloc hsz (.cells #[.int .i64 (i : Int)] 3)
        have hsz1 := b1.size
        have p1 : (acc.length + ([(i : Int)] : List Int).length) * 8 ≤ 140737488355328 := by simp; omega
        clear hB hO hlen
        go_wp2_with (at_builtin; refine wpl_appz (t := 23) (e := 3) rfl (.tmp 13) (.tmp 15) rfl Tryd.underlying23 info3 w.heap.size _ acc [(i : Int)] rfl own1 (some ⟨wr.heap.size, 0, none⟩) 1 rfl w1 (fun h => by cases h) p1 hsz1 ?_; intro v' w' hown' hgrow)
        have hb' : Below w.heap.size w w' := b1.grown hgrow hsz1 (fun k hk => (own1.lt k hk).1)
        go_wp2_with fail
        go_roundw
        case rel => exact ⟨i + 1, _, by omega, by go_num, rfl, hb', by rw [HS.out]; exact hown'⟩
        case measure => simp [RowKit.intOf]; omega
      · rw [if_neg hbit] at hs
        have hz : x / 2 ^ i % 2 = 0 := by
          rw [Bool.not_eq_true] at hbit
          rw [hbit] at htb
          have : ¬ x / 2 ^ i % 2 = 1 := by simpa using htb.symm
          omega
        rw [hz] at hb
        have HS := Lib.hid hs
        clear hs htb hbit hz hd
        go_wp2_with fail
        go_roundw
        case rel => exact ⟨i + 1, _, by omega, by go_num, rfl, hB, by rw [HS.out]; exact hO⟩
        case measure => simp [RowKit.intOf]; omega
    · obtain rfl : i = 62 := by omega
      go_wp2_with fail
      go_ret
      exact ⟨hB, _, rfl, hO⟩
end Go.Proofs.YtlpbkjonicjccaaDoor.Sh
