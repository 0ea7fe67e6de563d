/-
  The contracts of key's Check and Bytes, and of the document's own. Conditions: each law's own.
-/
import Derived.Test.YtpcmminokhmkjaaDoorKx
namespace Go.Proofs.YtpcmminokhmkjaaDoor.Sh
open Go.RowKit Go.Lib

def digL : List UInt8 := [48, 49, 50, 51, 52, 53, 54, 55, 56, 57, 97, 98, 99, 100, 101, 102]
theorem mem_dig (c : UInt8) : digL.contains c = decide (val c < 16) := by
  have : ∀ n : Fin 256, digL.contains (UInt8.ofNat n.val) = decide (val (UInt8.ofNat n.val) < 16) := by decide +kernel
  have h := this ⟨c.toNat, c.toNat_lt⟩
  simpa using h
theorem hex_even (m : List UInt8) (i : Nat) (h : i < m.length) : (hexL m)[2 * i]'(by rw [hexL_len]; omega) = dig (m[i].toNat / 16) := by
  induction m generalizing i with
  | nil => simp at h
  | cons c r ih =>
    cases i with
    | zero => rfl
    | succ i => exact ih i (by simpa using h)
theorem hex_odd (m : List UInt8) (i : Nat) (h : i < m.length) : (hexL m)[2 * i + 1]'(by rw [hexL_len]; omega) = dig (m[i].toNat % 16) := by
  induction m generalizing i with
  | nil => simp at h
  | cons c r ih =>
    cases i with
    | zero => rfl
    | succ i => exact ih i (by simpa using h)
theorem drop_all {α : Type} (p : α → Bool) (l : List α) : l.dropWhile p = [] ↔ l.all p = true := by
  induction l with
  | nil => simp
  | cons a r ih =>
    rw [List.dropWhile_cons, List.all_cons]
    cases h : p a with
    | true => simpa using ih
    | false => simp
/-- nothing is left just where all are digits -/
theorem trim_dig (l : List UInt8) : Lib.trimS l digL = [] ↔ allDig l = true := by
  have e : (fun c => digL.contains c) = fun c => decide (val c < 16) := funext mem_dig
  unfold Lib.trimS Lib.trimLeftS Lib.trimRightS
  rw [e, drop_all, List.all_reverse, allDig]
  constructor
  · intro h
    by_cases h0 : l.reverse.dropWhile (fun c => decide (val c < 16)) = []
    · rw [drop_all, List.all_reverse] at h0
      exact h0
    · exfalso
      obtain ⟨a, r, hr⟩ := List.exists_cons_of_ne_nil h0
      have hn := List.head?_dropWhile_not (fun c => decide (val c < 16)) l.reverse
      rw [hr] at hn h
      simp only [List.head?_cons, List.all_cons, Bool.and_eq_true] at hn h
      rw [h.1] at hn
      simp at hn
  · intro h
    have h0 : l.reverse.dropWhile (fun c => decide (val c < 16)) = [] := by rw [drop_all, List.all_reverse]; exact h
    rw [h0]
    rfl
theorem trim_any (k : ByteArray) (w : World) (hk : k.size ≤ 9223372036854775807) : Calls Tryd.prog 41 #[.string k, .string ⟨#[48, 49, 50, 51, 52, 53, 54, 55, 56, 57, 97, 98, 99, 100, 101, 102]⟩] w fun e w' => ∃ T : ByteArray, e = .returned (.string T) ∧ (T.toList == []) = allDig k.data.toList ∧ Below w.heap.size w w' := by
  refine (Any.strings_Trim_laid Tryd.lays160 (by kernel_rfl) k ⟨#[48, 49, 50, 51, 52, 53, 54, 55, 56, 57, 97, 98, 99, 100, 101, 102]⟩ w hk (by decide) (ascii_of_all (by decide))).mono ?_
  rintro e w1 ⟨rfl, hb⟩
  refine ⟨_, rfl, ?_, hb⟩
  have ht := trim_dig k.data.toList
  rw [toList_data]
  show (Lib.trimS k.data.toList digL == []) = _
  generalize Lib.trimS k.data.toList digL = T at *
  cases h : allDig k.data.toList with
  | true => rw [ht.2 h]; rfl
  | false =>
    cases T with
    | nil => rw [h] at ht; simp at ht
    | cons a r => rfl
set_option maxHeartbeats 1000000 in
set_option maxRecDepth 100000 in
theorem check_key (k : ByteArray) (w : World) (hk : k.size ≤ 9223372036854775807) : Calls Tryd.prog 28 #[.string k] w fun e w' => e = .returned (.bool (keyBytes k.data.toList).isSome) ∧ Below w.heap.size w w' := by
  have C := Lib.hid (trim_any k w hk)
  have hs : k.data.toList.length = k.size := Array.length_toList
  have hres : Hid ((keyBytes k.data.toList).isSome = (decide (k.size = 64) && allDig k.data.toList)) := by show _ = _; rw [keyBytes_isSome, hs]
  by_cases h64 : k.size = 64
  · have q1 : ((k.size : Int) == 64) = true := by rw [h64]; rfl
    have H64 := Lib.hid h64
    clear h64 hs
    go_enter Tryd.func28, Tryd.ntmps28
    go_wp2_with fail
    refine C.out.mono ?_
    rintro e w1 ⟨T, rfl, ht, hb⟩
    have HB := Lib.hid hb
    have HT := Lib.hid ht
    clear hb ht
    cases hT : (T.toList == []) with
    | true =>
      go_wp2_with fail
      go_ret
      exact ⟨by rw [hres.out, H64.out, ← HT.out, hT]; rfl, HB.out⟩
    | false =>
      go_wp2_with fail
      go_ret
      exact ⟨by rw [hres.out, H64.out, ← HT.out, hT]; rfl, HB.out⟩
  · have q1 : ((k.size : Int) == 64) = false := by simp; omega
    have H64 := Lib.hid h64
    clear h64 hs C
    go_enter Tryd.func28, Tryd.ntmps28
    go_wp2_with fail
    go_ret
    exact ⟨by rw [hres.out, decide_eq_false H64.out]; rfl, Below.refl _ _⟩

/-- what Bytes answers -/
def bytesL (k : ByteArray) : List UInt8 := (keyBytes k.data.toList).getD []
def bytesE (k : ByteArray) : Int := if (keyBytes k.data.toList).isSome then 0 else 70
/-- a row of bytes and a number, answered -/
def AnsB (w : World) (k : ByteArray) (e : Ending) (w' : World) : Prop := Below w.heap.size w w' ∧ ∃ v, e = .returned (.tuple #[v, .int .i64 (bytesE k)]) ∧ Own w' w.heap.size v (bytesL k)
theorem own_nil (w : World) (B : Nat) : Own w B (.slice none 0 0) [] := World.ownsRow_nil _ _ _ _
/-- the digits of a key, two a byte -/
theorem key_at (k : ByteArray) (m : List UInt8) (h : keyBytes k.data.toList = some m) (i : Nat) (hi : i < 32) :
    m.length = 32 ∧ ∃ x, m[i]? = some x ∧ (∀ h1, (k[2 * i]'h1) = dig (x.toNat / 16)) ∧ (∀ h1, (k[2 * i + 1]'h1) = dig (x.toNat % 16)) ∧ k.size = 64 := by
  obtain ⟨h1, h2⟩ := keyBytes_some _ _ h
  have hsz : k.size = 64 := by
    have := congrArg List.length h2
    rw [hexL_len, h1, Array.length_toList] at this
    exact this.symm
  have hg : ∀ (j : Nat) (hj : j < k.size), k[j]'hj = (hexL m)[j]'(by rw [hexL_len]; omega) := fun j hj => by
    have e : k.data.toList[j]'(by rw [Array.length_toList]; exact hj) = (hexL m)[j]'(by rw [hexL_len]; omega) := by simp only [h2]
    rw [← e]
    rfl
  refine ⟨h1, m[i], List.getElem?_eq_getElem (by omega), fun hh => ?_, fun hh => ?_, hsz⟩
  · rw [hg _ hh]
    exact hex_even m i (by omega)
  · rw [hg _ hh]
    exact hex_odd m i (by omega)
theorem digit_dig (n : Nat) (h : n < 16) : digitI (dig n) = (n : Int) := by rw [digitI, val_dig n h, if_pos h]
theorem blank_at (m : List UInt8) (i : Nat) (hi : i < 32) (hm : m.length = 32) : (bs (m.take i ++ List.replicate (32 - i) 0))[i]? = some (.int .u8 0) := by
  have hl : (m.take i ++ List.replicate (32 - i) (0 : UInt8)).length = 32 := by simp; omega
  rw [bs_get _ i (by omega), List.getElem_append_right (by simp; omega)]
  simp
theorem blank_set (m : List UInt8) (i : Nat) (x : UInt8) (hi : i < 32) (hm : m.length = 32) (hx : m[i]? = some x) : (bs (m.take i ++ List.replicate (32 - i) 0)).set i (.int .u8 (x.toNat : Int)) = bs (m.take (i + 1) ++ List.replicate (32 - (i + 1)) 0) := by
  have e : List.replicate (32 - i) (0 : UInt8) = 0 :: List.replicate (32 - (i + 1)) 0 := by rw [show 32 - i = (32 - (i + 1)) + 1 by omega, List.replicate_succ]
  rw [e, List.take_add_one, hx, bs, List.map_append, List.set_append_right _ _ (by simp; omega)]
  simp [bs, hm, Nat.min_eq_left (show i ≤ 32 by omega)]
/-- a block known whole is a row of the call's own -/
theorem blk_own {w : World} {B g n : Nat} {m : List UInt8} (h : Blk w g (bs m) 5) (hB : B ≤ g) (hm : m.length = n) (hn : n ≤ 1000) : Own w B (.slice (some ⟨g, 0, none⟩) n n) m := by
  subst hm
  exact ⟨by simp [bs], Or.inr ⟨g, m.length, (bs m).toArray, rfl, hB, h, Nat.le_refl _, by unfold maxLen; omega, by simp [bs], by rw [Nat.mul_one, List.toList_toArray, List.take_of_length_le (by simp [bs])]⟩⟩
theorem info5z (W : World) : (Instr.makeSlice 59 (.int .i64 32) (.int .i64 32)).run Tryd.prog W = .ok (.slice (some ⟨W.heap.size, 0, none⟩) 32 32) (W.alloc (.cells (bs (List.replicate 32 0)).toArray 5)) := by
  obtain ⟨i0, hi, hz0, hz1, hz2⟩ := info_parts info5
  rw [run_make W 59 5 i0 (.int .u8 0) Tryd.underlying59 hi hz0 .i64 .i64 32 32 (by omega) (by omega) (by rw [hz2]; omega) (by omega), hz1]
  have e : madeCells (Value.int .u8 0).cells (Int.toNat 32 * 1) = (bs (List.replicate 32 0)).toArray := by kernel_rfl
  rw [e]
  rfl
/-- two digits more -/
theorem more_digits (kl m : List UInt8) (j : Nat) (c1 c2 : UInt8) (h : hexL m = kl.take (2 * j)) (h1 : kl[2 * j]? = some c1) (h2 : kl[2 * j + 1]? = some c2) (v1 : val c1 < 16) (v2 : val c2 < 16) :
    hexL (m ++ [UInt8.ofNat (16 * val c1 + val c2)]) = kl.take (2 * (j + 1)) := by
  have hx : (UInt8.ofNat (16 * val c1 + val c2)).toNat = 16 * val c1 + val c2 := by simp; omega
  rw [hexL_app, h, hexL_cons, hx, show (16 * val c1 + val c2) / 16 = val c1 by omega, show (16 * val c1 + val c2) % 16 = val c2 by omega, dig_val c1 v1, dig_val c2 v2, hexL_nil]
  rw [show 2 * (j + 1) = 2 * j + 1 + 1 by omega, List.take_add_one, List.take_add_one, h1, h2]
  simp
theorem bad_digit (kl : List UInt8) (i : Nat) (c : UInt8) (h : kl[i]? = some c) (hv : ¬ val c < 16) : keyBytes kl = none := by
  cases hk : keyBytes kl with
  | none => rfl
  | some m =>
    have h2 := keyBytes_isSome kl
    rw [hk] at h2
    simp only [Option.isSome_some, Bool.true_eq, Bool.and_eq_true, allDig, List.all_eq_true, decide_eq_true_eq] at h2
    exact absurd (h2.2 c (List.mem_of_getElem? h)) hv
theorem digitI_ok (c : UInt8) (h : val c < 16) : digitI c = (val c : Int) := by rw [digitI, if_pos h]
theorem digitI_no (c : UInt8) (h : ¬ val c < 16) : digitI c = -1 := by rw [digitI, if_neg h]
theorem key_get (k : ByteArray) (i : Nat) (h : i < k.size) : ∃ c, k.data.toList[i]? = some c ∧ ∀ h1, (k[i]'h1) = c := ⟨k[i], by rw [List.getElem?_eq_getElem (by rw [Array.length_toList]; exact h)]; rfl, fun _ => rfl⟩
set_option maxHeartbeats 4000000 in
set_option maxRecDepth 100000 in
theorem refbytes_any (k : ByteArray) (w : World) (_ : k.size ≤ 9223372036854775807) : Calls Tryd.prog 47 #[.string k] w (AnsB w k) := by
  by_cases h64 : k.size = 64
  · have q0 : ((k.size : Int) != 64) = false := by rw [h64]; rfl
    have H64 := Lib.hid h64
    have CV := Lib.hid digit_any
    go_enter Tryd.func47, Tryd.ntmps47
    go_wp2_with fail
    go_loopw [4, 5] (fun vb vi wr => ∃ (j : Nat) (m : List UInt8), j ≤ 32 ∧ vi = .int .i64 (2 * (j : Int)) ∧ Hid (Below w.heap.size w wr) ∧ Hid (Own wr w.heap.size vb m) ∧ Hid (m.length = j) ∧ Hid (hexL m = k.data.toList.take (2 * j))) (fun _ vi _ => 64 - (RowKit.intOf vi).toNat)
    case atStart => exact ⟨0, [], by omega, rfl, Below.refl _ _, own_nil _ _, rfl, rfl⟩
    case round =>
      obtain ⟨j, m, hj, rfl, hB, hO, hL, hX⟩ := hrel
      by_cases hin : j < 32
      · obtain ⟨c1, e1, k1⟩ := key_get k (2 * j) (by omega)
        obtain ⟨c2, e2, k2⟩ := key_get k (2 * j + 1) (by omega)
        have E1 := Lib.hid e1
        have E2 := Lib.hid e2
        have D1 := Lib.hid (fun W => CV.out c1 W)
        have D2 := Lib.hid (fun W => CV.out c2 W)
        have w1a : IntKind.i64.wrap (2 * (j : Int) + 1) = 2 * (j : Int) + 1 := wrap_in _ (by omega) (by omega)
        have w1b : IntKind.i64.wrap (2 * (j : Int) + 2) = 2 * (j : Int) + 2 := wrap_in _ (by omega) (by omega)
        have n1 : (2 * (j : Int)).toNat = 2 * j := by omega
        have n2 : (2 * (j : Int) + 1).toNat = 2 * j + 1 := by omega
        have q1 : (0 : Int) ≤ (j : Int) := by omega
        have q2 : 2 * (j : Int) < 64 := by omega
        have q3 : (0 : Int) ≤ 2 * (j : Int) := by omega
        have q4 : 2 * (j : Int) < (k.size : Int) := by omega
        have q5 : (0 : Int) ≤ 2 * (j : Int) + 1 := by omega
        have q6 : 2 * (j : Int) + 1 < (k.size : Int) := by omega
        clear e1 e2
        go_wp2_with fail
        go_quiet ((go_at_call 58; (first | (with_reducible exact Calls.quiet_of_same (D1.out _)) | (with_reducible exact Calls.quiet_of_same (D2.out _)))))
        generalize hwv : wr.drewN nq = wv at *
        have hB2 : Hid (Below w.heap.size w wv) := by show Below _ _ _; rw [← hwv]; exact below_drewN hB.out _
        have hO2 : Hid (Own wv w.heap.size u4 m) := by show Own _ _ _ _; rw [← hwv]; exact hO.out
        clear hwv hB hO
        by_cases v1 : val c1 < 16
        · have g1 := digitI_ok c1 v1
          by_cases v2 : val c2 < 16
          · have g2 := digitI_ok c2 v2
            have hnew := Lib.hid (more_digits k.data.toList m j c1 c2 hX.out E1.out E2.out v1 v2)
            rw [g1, g2]
            generalize val c1 = a at *
            generalize val c2 = b at *
            have t1 : decide ((a : Int) < 0) = false := by simp
            have t2 : decide ((b : Int) < 0) = false := by simp
            have y1 : IntKind.i64.wrap (16 * (a : Int)) = 16 * (a : Int) := wrap_in _ (by omega) (by omega)
            have y2 : IntKind.i64.wrap (16 * (a : Int) + (b : Int)) = 16 * (a : Int) + (b : Int) := wrap_in _ (by omega) (by omega)
            have y3 : IntKind.u8.wrap (16 * (a : Int) + (b : Int)) = (((UInt8.ofNat (16 * a + b)).toNat : Nat) : Int) := by rw [IntKind.wrap]; simp [IntKind.bits, IntKind.signed]
            obtain ⟨x, hx⟩ : ∃ x, x = UInt8.ofNat (16 * a + b) := ⟨_, rfl⟩
            rw [← hx] at y3 hnew
            have own1 := World.ownsRow.alloc hO2.out (.cells #[.int .u8 (x.toNat : Int)] 5)
            have b1 := hB2.out.alloc hB2.out.size (.cells #[.int .u8 (x.toNat : Int)] 5)
            have O1 : Hid (Own (wv.alloc (.cells #[.int .u8 (x.toNat : Int)] 5)) w.heap.size u4 m) := own1
            have B1 := Lib.hid b1
            have LT := Lib.hid (byt_one wv x x.toNat rfl)
            have HF : Hid (([x] : List UInt8).length = 1) := rfl
            have p1 : m.length + 1 ≤ 140737488355328 := by rw [hL.out]; omega
            have p2 := b1.size
            have NL : Hid ((m ++ [x]).length = j + 1) := by show _ = _; rw [List.length_append, List.length_singleton, hL.out]
            clear own1 b1 hx g1 g2 hL
            go_wp2_with (at_builtin; refine wpl_app_len (t := 59) (e := 5) rfl (.tmp 30) (.tmp 36) rfl Tryd.underlying59 info5 w.heap.size _ m [x] rfl O1.out (some ⟨wv.heap.size, 0, none⟩) 1 1 rfl LT.out (fun h => by cases h) HF p1 p2 ?_; intro v' w' hown' hgrow)
            have hb' := Lib.hid (B1.out.grown hgrow p2 (fun k hk => (O1.out.lt k hk).1))
            have ho' := Lib.hid hown'
            clear hown' hgrow
            go_wp2_with fail
            go_roundw
            case rel => exact ⟨j + 1, m ++ [x], by omega, by go_num, hb'.out, ho'.out, NL.out, hnew.out⟩
            case measure => simp [RowKit.intOf]; omega
          · have g2 := digitI_no c2 v2
            have hn := Lib.hid (bad_digit _ _ _ E2.out v2)
            have t1 : decide ((val c1 : Int) < 0) = false := by simp
            rw [g1, g2]
            generalize val c1 = a at *
            go_wp2_with fail
            go_ret2
            exact ⟨hB2.out, .slice none 0 0, by rw [bytesE, hn.out]; rfl, by rw [bytesL, hn.out]; exact own_nil _ _⟩
        · have g1 := digitI_no c1 v1
          have hn := Lib.hid (bad_digit _ _ _ E1.out v1)
          rw [g1]
          generalize digitI c2 = b at *
          go_wp2_with fail
          go_ret2
          exact ⟨hB2.out, .slice none 0 0, by rw [bytesE, hn.out]; rfl, by rw [bytesL, hn.out]; exact own_nil _ _⟩
      · obtain rfl : j = 32 := by omega
        have hk2 : Hid (keyBytes k.data.toList = some m) := by
          show _ = _
          have hlen : k.data.toList.length = 64 := by rw [Array.length_toList]; exact H64.out
          have hx := hX.out
          rw [List.take_of_length_le (by omega)] at hx
          rw [← hx]
          exact keyBytes_back m hL.out
        go_wp2_with fail
        go_ret2
        exact ⟨hB.out, _, by rw [bytesE, hk2.out]; rfl, by rw [bytesL, hk2.out]; exact hO.out⟩
  · have q0 : ((k.size : Int) != 64) = true := by simp; omega
    have H64 := Lib.hid h64
    go_enter Tryd.func47, Tryd.ntmps47
    go_wp2_with fail
    go_ret2
    have hn : keyBytes k.data.toList = none := by
      rw [keyBytes, if_neg]
      rw [Array.length_toList]
      exact H64.out
    exact ⟨Below.refl _ _, .slice none 0 0, by rw [bytesE, hn]; rfl, by rw [bytesL, hn]; exact own_nil _ _⟩

set_option maxRecDepth 100000 in
theorem refcheck_key (k : ByteArray) (w : World) (hk : k.size ≤ 9223372036854775807) : Calls Tryd.prog 39 #[.string k] w fun e w' => e = .returned (.bool (keyBytes k.data.toList).isSome) ∧ Below w.heap.size w w' := by
  have C := Lib.hid (refbytes_any k w hk)
  go_enter Tryd.func39, Tryd.ntmps39
  go_wp2_with fail
  refine C.out.mono ?_
  rintro e w1 ⟨hb, v, rfl, _⟩
  have HB := Lib.hid hb
  clear hb
  cases hkb : (keyBytes k.data.toList).isSome with
  | true =>
    have he : bytesE k = 0 := by rw [bytesE, if_pos hkb]
    rw [he]
    go_wp2_with fail
    go_ret
    exact ⟨by rw [hkb]; rfl, HB.out⟩
  | false =>
    have he : bytesE k = 70 := by rw [bytesE, hkb]; rfl
    rw [he]
    go_wp2_with fail
    go_ret
    exact ⟨by rw [hkb]; rfl, HB.out⟩
end Go.Proofs.YtpcmminokhmkjaaDoor.Sh
