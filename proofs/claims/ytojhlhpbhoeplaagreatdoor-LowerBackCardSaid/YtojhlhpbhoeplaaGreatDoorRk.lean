/-
  The contracts of the document's own page of keys: digit, text, From, Bytes, Check. Conditions: each law's own.
-/
import Derived.Test.YtojhlhpbhoeplaaGreatDoorKc
import Derived.Test.YtojhlhpbhoeplaaGreatDoorPk
import Derived.Lib.SlBytesConst
namespace Go.Proofs.YtojhlhpbhoeplaaGreatDoor.Sh
open Go.RowKit Go.Lib

theorem dig_get (q : Nat) (h : q < 16) : ∀ h2, (⟨#[48, 49, 50, 51, 52, 53, 54, 55, 56, 57, 97, 98, 99, 100, 101, 102]⟩ : ByteArray)[q]'h2 = dig q := by
  rcases (show q = 0 ∨ q = 1 ∨ q = 2 ∨ q = 3 ∨ q = 4 ∨ q = 5 ∨ q = 6 ∨ q = 7 ∨ q = 8 ∨ q = 9 ∨ q = 10 ∨ q = 11 ∨ q = 12 ∨ q = 13 ∨ q = 14 ∨ q = 15 by omega) with rfl | rfl | rfl | rfl | rfl | rfl | rfl | rfl | rfl | rfl | rfl | rfl | rfl | rfl | rfl | rfl <;> exact fun _ => rfl
theorem wrap_in (x : Int) (h0 : 0 ≤ x) (h1 : x < 4294967296) : IntKind.i64.wrap x = x := IntWalk.i64_in _ (by omega)
/-- a byte's two digits, as the walk comes to them -/
theorem halves (x : UInt8) : ∃ q r : Nat, q < 16 ∧ r < 16 ∧ q = x.toNat / 16 ∧ r = x.toNat % 16 ∧ IntKind.i64.wrap (x.toNat : Int) = (x.toNat : Int) ∧ IntKind.i64.wrap ((x.toNat : Int).tdiv 16) = (q : Int) ∧ (x.toNat : Int).tmod 16 = (r : Int) ∧ (x.toNat : Int).tdiv 16 = (q : Int) := by
  have hx := x.toNat_lt
  have e1 : (x.toNat : Int).tdiv 16 = ((x.toNat / 16 : Nat) : Int) := by rw [Int.tdiv_eq_ediv_of_nonneg (by omega)]; omega
  have e2 : (x.toNat : Int).tmod 16 = ((x.toNat % 16 : Nat) : Int) := by rw [Int.tmod_eq_emod_of_nonneg (by omega)]; omega
  exact ⟨x.toNat / 16, x.toNat % 16, by omega, by omega, rfl, rfl, wrap_in _ (by omega) (by omega), by rw [e1]; exact wrap_in _ (by omega) (by omega), e2, e1⟩
/-- which digit a byte is -/
def digitI (c : UInt8) : Int := if val c < 16 then (val c : Int) else -1
theorem digit_at (c : UInt8) (i : Nat) (hi : i < 16) (h : ((dig i).toNat : Int) = (c.toNat : Int)) : digitI c = (i : Int) := by
  have h2 : dig i = c := UInt8.toNat_inj.1 (by omega)
  rw [← h2, digitI, val_dig i hi, if_pos hi]
theorem digit_no (c : UInt8) (h : ∀ i, i < 16 → ((dig i).toNat : Int) ≠ (c.toNat : Int)) : digitI c = -1 := by
  rw [digitI]
  split
  · rename_i hv
    exact absurd (by rw [dig_val c hv]) (h _ hv)
  · rfl
set_option maxHeartbeats 2000000 in
set_option maxRecDepth 100000 in
theorem digit_any (c : UInt8) (w : World) : Calls Tryz.prog 118 #[.int .u8 (c.toNat : Int)] w fun e w' => e = .returned (.int .i64 (digitI c)) ∧ w' = w := by
  have c1 := c.toNat_lt
  go_enter Tryz.func118, Tryz.ntmps118
  go_wp2_with fail
  go_loopw [3] (fun vi wr => ∃ i : Nat, i ≤ 16 ∧ vi = .int .i64 i ∧ wr = w ∧ Hid (∀ j, j < i → ((dig j).toNat : Int) ≠ (c.toNat : Int))) (fun vi _ => 16 - (RowKit.intOf vi).toNat)
  case atStart => exact ⟨0, by omega, rfl, rfl, fun j hj => absurd hj (Nat.not_lt_zero _)⟩
  case round =>
    obtain ⟨i, hi, rfl, rfl, ht⟩ := hrel
    by_cases hin : i < 16
    · have k1 := dig_get i hin
      obtain ⟨y, hy⟩ : ∃ y, y = dig i := ⟨_, rfl⟩
      rw [← hy] at k1
      have HY := Lib.hid hy
      have q1 : (0 : Int) ≤ (i : Int) := by omega
      have q2 : (i : Int) < 16 := by omega
      clear hy
      cases hyc : ((y.toNat : Int) == (c.toNat : Int)) with
      | true =>
        go_wp2_with fail
        go_ret
        exact ⟨by rw [digit_at c i hin (by rw [← HY.out]; simpa using hyc)]; rfl, rfl⟩
      | false =>
        go_wp2_with fail
        go_roundw
        case rel =>
          refine ⟨i + 1, by omega, by go_num, trivial, fun j hj => ?_⟩
          rcases Nat.lt_or_ge j i with h1 | h1
          · exact ht.out j h1
          · obtain rfl : j = i := by omega
            rw [← HY.out]
            simpa using hyc
        case measure => simp [RowKit.intOf]; omega
    · obtain rfl : i = 16 := by omega
      go_wp2_with fail
      go_ret
      exact ⟨by rw [digit_no c ht.out]; rfl, rfl⟩
set_option maxRecDepth 100000 in
theorem dig_slice (q : Nat) (h : q < 16) (W : World) : (Instr.slice 9 (.string ⟨#[48, 49, 50, 51, 52, 53, 54, 55, 56, 57, 97, 98, 99, 100, 101, 102]⟩) (some (.int .i64 (q : Int))) (some (.int .i64 ((q : Int) + 1))) none).run Tryz.prog W = .ok (.string ⟨#[dig q]⟩) W := by
  rcases (show q = 0 ∨ q = 1 ∨ q = 2 ∨ q = 3 ∨ q = 4 ∨ q = 5 ∨ q = 6 ∨ q = 7 ∨ q = 8 ∨ q = 9 ∨ q = 10 ∨ q = 11 ∨ q = 12 ∨ q = 13 ∨ q = 14 ∨ q = 15 by omega) with rfl | rfl | rfl | rfl | rfl | rfl | rfl | rfl | rfl | rfl | rfl | rfl | rfl | rfl | rfl | rfl <;> rfl
theorem str_two (a : List UInt8) (x y : UInt8) : ((⟨a.toArray⟩ : ByteArray) ++ ⟨#[x]⟩ ++ ⟨#[y]⟩) = ⟨(a ++ [x, y]).toArray⟩ := by
  apply ByteArray.ext
  simp [ByteArray.data_append]
/-- what From answers -/
def fromS (l : List UInt8) : ByteArray := if l.length = 32 then ⟨(hexL l).toArray⟩ else ⟨#[]⟩
def fromE (l : List UInt8) : Int := if l.length = 32 then 0 else 70
/-- what Bytes answers -/
def bytesL (k : ByteArray) : List UInt8 := (keyBytes k.data.toList).getD []
def bytesE (k : ByteArray) : Int := if (keyBytes k.data.toList).isSome then 0 else 70
/-- a row of bytes and a number, answered -/
def AnsB (w : World) (k : ByteArray) (e : Ending) (w' : World) : Prop := Below w.heap.size w w' ∧ ∃ v, e = .returned (.tuple #[v, .int .i64 (bytesE k)]) ∧ Own w' w.heap.size v (bytesL k)
theorem own_nil (w : World) (B : Nat) : Own w B (.slice none 0 0) [] := World.ownsRow_nil _ _ _ _
/-- two digits more -/
theorem more_digits (kl m : List UInt8) (j : Nat) (c1 c2 : UInt8) (h : hexL m = kl.take (2 * j)) (h1 : kl[2 * j]? = some c1) (h2 : kl[2 * j + 1]? = some c2) (v1 : val c1 < 16) (v2 : val c2 < 16) :
    hexL (m ++ [UInt8.ofNat (16 * val c1 + val c2)]) = kl.take (2 * (j + 1)) := by
  have hx : (UInt8.ofNat (16 * val c1 + val c2)).toNat = 16 * val c1 + val c2 := by simp; omega
  rw [hexL_app, h, hexL_cons, hx, show (16 * val c1 + val c2) / 16 = val c1 by omega, show (16 * val c1 + val c2) % 16 = val c2 by omega, dig_val c1 v1, dig_val c2 v2, hexL_nil]
  rw [show 2 * (j + 1) = 2 * j + 1 + 1 by omega, List.take_add_one, List.take_add_one, h1, h2]
  simp
theorem bad_digit (kl : List UInt8) (i : Nat) (c : UInt8) (h : kl[i]? = some c) (hv : ¬ val c < 16) : keyBytes kl = none := by
  cases hk : keyBytes kl with
  | none => rfl
  | some m =>
    have h2 := keyBytes_isSome kl
    rw [hk] at h2
    simp only [Option.isSome_some, Bool.true_eq, Bool.and_eq_true, allDig, List.all_eq_true, decide_eq_true_eq] at h2
    exact absurd (h2.2 c (List.mem_of_getElem? h)) hv
theorem digitI_ok (c : UInt8) (h : val c < 16) : digitI c = (val c : Int) := by rw [digitI, if_pos h]
theorem digitI_no (c : UInt8) (h : ¬ val c < 16) : digitI c = -1 := by rw [digitI, if_neg h]
theorem key_get (k : ByteArray) (i : Nat) (h : i < k.size) : ∃ c, k.data.toList[i]? = some c ∧ ∀ h1, (k[i]'h1) = c := ⟨k[i], by rw [List.getElem?_eq_getElem (by rw [Array.length_toList]; exact h)]; rfl, fun _ => rfl⟩
set_option maxHeartbeats 4000000 in
set_option maxRecDepth 100000 in
theorem refbytes_any (k : ByteArray) (w : World) (_ : k.size ≤ 9223372036854775807) : Calls Tryz.prog 96 #[.string k] w (AnsB w k) := by
  by_cases h64 : k.size = 64
  · have q0 : ((k.size : Int) != 64) = false := by rw [h64]; rfl
    have H64 := Lib.hid h64
    have CV := Lib.hid digit_any
    go_enter Tryz.func96, Tryz.ntmps96
    go_wp2_with fail
    go_loopw [4, 5] (fun vb vi wr => ∃ (j : Nat) (m : List UInt8), j ≤ 32 ∧ vi = .int .i64 (2 * (j : Int)) ∧ Hid (Below w.heap.size w wr) ∧ Hid (Own wr w.heap.size vb m) ∧ Hid (m.length = j) ∧ Hid (hexL m = k.data.toList.take (2 * j))) (fun _ vi _ => 64 - (RowKit.intOf vi).toNat)
    case atStart => exact ⟨0, [], by omega, rfl, Below.refl _ _, own_nil _ _, rfl, rfl⟩
    case round =>
      obtain ⟨j, m, hj, rfl, hB, hO, hL, hX⟩ := hrel
      by_cases hin : j < 32
      · obtain ⟨c1, e1, k1⟩ := key_get k (2 * j) (by omega)
        obtain ⟨c2, e2, k2⟩ := key_get k (2 * j + 1) (by omega)
        have E1 := Lib.hid e1
        have E2 := Lib.hid e2
        have D1 := Lib.hid (fun W => CV.out c1 W)
        have D2 := Lib.hid (fun W => CV.out c2 W)
        have w1a : IntKind.i64.wrap (2 * (j : Int) + 1) = 2 * (j : Int) + 1 := wrap_in _ (by omega) (by omega)
        have w1b : IntKind.i64.wrap (2 * (j : Int) + 2) = 2 * (j : Int) + 2 := wrap_in _ (by omega) (by omega)
        have n1 : (2 * (j : Int)).toNat = 2 * j := by omega
        have n2 : (2 * (j : Int) + 1).toNat = 2 * j + 1 := by omega
        have q1 : (0 : Int) ≤ (j : Int) := by omega
        have q2 : 2 * (j : Int) < 64 := by omega
        have q3 : (0 : Int) ≤ 2 * (j : Int) := by omega
        have q4 : 2 * (j : Int) < (k.size : Int) := by omega
        have q5 : (0 : Int) ≤ 2 * (j : Int) + 1 := by omega
        have q6 : 2 * (j : Int) + 1 < (k.size : Int) := by omega
        clear e1 e2
        go_wp2_with fail
        go_quiet ((go_at_call 118; (first | (with_reducible exact Calls.quiet_of_same (D1.out _)) | (with_reducible exact Calls.quiet_of_same (D2.out _)))))
        generalize hwv : wr.drewN nq = wv at *
        have hB2 : Hid (Below w.heap.size w wv) := by show Below _ _ _; rw [← hwv]; exact below_drewN hB.out _
        have hO2 : Hid (Own wv w.heap.size u4 m) := by show Own _ _ _ _; rw [← hwv]; exact hO.out
        clear hwv hB hO
        by_cases v1 : val c1 < 16
        · have g1 := digitI_ok c1 v1
          by_cases v2 : val c2 < 16
          · have g2 := digitI_ok c2 v2
            have hnew := Lib.hid (more_digits k.data.toList m j c1 c2 hX.out E1.out E2.out v1 v2)
            rw [g1, g2]
            generalize val c1 = a at *
            generalize val c2 = b at *
            have t1 : decide ((a : Int) < 0) = false := by simp
            have t2 : decide ((b : Int) < 0) = false := by simp
            have y1 : IntKind.i64.wrap (16 * (a : Int)) = 16 * (a : Int) := wrap_in _ (by omega) (by omega)
            have y2 : IntKind.i64.wrap (16 * (a : Int) + (b : Int)) = 16 * (a : Int) + (b : Int) := wrap_in _ (by omega) (by omega)
            have y3 : IntKind.u8.wrap (16 * (a : Int) + (b : Int)) = (((UInt8.ofNat (16 * a + b)).toNat : Nat) : Int) := by rw [IntKind.wrap]; simp [IntKind.bits, IntKind.signed]
            obtain ⟨x, hx⟩ : ∃ x, x = UInt8.ofNat (16 * a + b) := ⟨_, rfl⟩
            rw [← hx] at y3 hnew
            have own1 := World.ownsRow.alloc hO2.out (.cells #[.int .u8 (x.toNat : Int)] 5)
            have b1 := hB2.out.alloc hB2.out.size (.cells #[.int .u8 (x.toNat : Int)] 5)
            have O1 : Hid (Own (wv.alloc (.cells #[.int .u8 (x.toNat : Int)] 5)) w.heap.size u4 m) := own1
            have B1 := Lib.hid b1
            have LT := Lib.hid (byt_one wv x x.toNat rfl)
            have HF : Hid (([x] : List UInt8).length = 1) := rfl
            have p1 : m.length + 1 ≤ 140737488355328 := by rw [hL.out]; omega
            have p2 := b1.size
            have NL : Hid ((m ++ [x]).length = j + 1) := by show _ = _; rw [List.length_append, List.length_singleton, hL.out]
            clear own1 b1 hx g1 g2 hL
            go_wp2_with (at_builtin; refine wpl_app_len (t := 22) (e := 5) rfl (.tmp 30) (.tmp 36) rfl Tryz.underlying22 info5 w.heap.size _ m [x] rfl O1.out (some ⟨wv.heap.size, 0, none⟩) 1 1 rfl LT.out (fun h => by cases h) HF p1 p2 ?_; intro v' w' hown' hgrow)
            have hb' := Lib.hid (B1.out.grown hgrow p2 (fun k hk => (O1.out.lt k hk).1))
            have ho' := Lib.hid hown'
            clear hown' hgrow
            go_wp2_with fail
            go_roundw
            case rel => exact ⟨j + 1, m ++ [x], by omega, by go_num, hb'.out, ho'.out, NL.out, hnew.out⟩
            case measure => simp [RowKit.intOf]; omega
          · have g2 := digitI_no c2 v2
            have hn := Lib.hid (bad_digit _ _ _ E2.out v2)
            have t1 : decide ((val c1 : Int) < 0) = false := by simp
            rw [g1, g2]
            generalize val c1 = a at *
            go_wp2_with fail
            go_ret2
            exact ⟨hB2.out, .slice none 0 0, by rw [bytesE, hn.out]; rfl, by rw [bytesL, hn.out]; exact own_nil _ _⟩
        · have g1 := digitI_no c1 v1
          have hn := Lib.hid (bad_digit _ _ _ E1.out v1)
          rw [g1]
          generalize digitI c2 = b at *
          go_wp2_with fail
          go_ret2
          exact ⟨hB2.out, .slice none 0 0, by rw [bytesE, hn.out]; rfl, by rw [bytesL, hn.out]; exact own_nil _ _⟩
      · obtain rfl : j = 32 := by omega
        have hk2 : Hid (keyBytes k.data.toList = some m) := by
          show _ = _
          have hlen : k.data.toList.length = 64 := by rw [Array.length_toList]; exact H64.out
          have hx := hX.out
          rw [List.take_of_length_le (by omega)] at hx
          rw [← hx]
          exact keyBytes_back m hL.out
        go_wp2_with fail
        go_ret2
        exact ⟨hB.out, _, by rw [bytesE, hk2.out]; rfl, by rw [bytesL, hk2.out]; exact hO.out⟩
  · have q0 : ((k.size : Int) != 64) = true := by simp; omega
    have H64 := Lib.hid h64
    go_enter Tryz.func96, Tryz.ntmps96
    go_wp2_with fail
    go_ret2
    have hn : keyBytes k.data.toList = none := by
      rw [keyBytes, if_neg]
      rw [Array.length_toList]
      exact H64.out
    exact ⟨Below.refl _ _, .slice none 0 0, by rw [bytesE, hn]; rfl, by rw [bytesL, hn]; exact own_nil _ _⟩
set_option maxRecDepth 100000 in
theorem refcheck_key (k : ByteArray) (w : World) (hk : k.size ≤ 9223372036854775807) : Calls Tryz.prog 83 #[.string k] w fun e w' => e = .returned (.bool (keyBytes k.data.toList).isSome) ∧ Below w.heap.size w w' := by
  have C := Lib.hid (refbytes_any k w hk)
  go_enter Tryz.func83, Tryz.ntmps83
  go_wp2_with fail
  refine C.out.mono ?_
  rintro e w1 ⟨hb, v, rfl, _⟩
  have HB := Lib.hid hb
  clear hb
  cases hkb : (keyBytes k.data.toList).isSome with
  | true =>
    have he : bytesE k = 0 := by rw [bytesE, if_pos hkb]
    rw [he]
    go_wp2_with fail
    go_ret
    exact ⟨by rw [hkb]; rfl, HB.out⟩
  | false =>
    have he : bytesE k = 70 := by rw [bytesE, hkb]; rfl
    rw [he]
    go_wp2_with fail
    go_ret
    exact ⟨by rw [hkb]; rfl, HB.out⟩
end Go.Proofs.YtojhlhpbhoeplaaGreatDoor.Sh
