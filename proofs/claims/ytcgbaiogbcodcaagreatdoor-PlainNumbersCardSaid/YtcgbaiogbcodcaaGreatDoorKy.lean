/-
  The contracts of key's Check and Bytes, and of the document's own. Conditions: each law's own.
-/
import Derived.Test.YtcgbaiogbcodcaaGreatDoorKx
namespace Go.Proofs.YtcgbaiogbcodcaaGreatDoor.Sh
open Go.RowKit Go.Lib

def digL : List UInt8 := [48, 49, 50, 51, 52, 53, 54, 55, 56, 57, 97, 98, 99, 100, 101, 102]
theorem mem_dig (c : UInt8) : digL.contains c = decide (val c < 16) := by
  have : ∀ n : Fin 256, digL.contains (UInt8.ofNat n.val) = decide (val (UInt8.ofNat n.val) < 16) := by decide +kernel
  have h := this ⟨c.toNat, c.toNat_lt⟩
  simpa using h
theorem hex_even (m : List UInt8) (i : Nat) (h : i < m.length) : (hexL m)[2 * i]'(by rw [hexL_len]; omega) = dig (m[i].toNat / 16) := by
  induction m generalizing i with
  | nil => simp at h
  | cons c r ih =>
    cases i with
    | zero => rfl
    | succ i => exact ih i (by simpa using h)
theorem hex_odd (m : List UInt8) (i : Nat) (h : i < m.length) : (hexL m)[2 * i + 1]'(by rw [hexL_len]; omega) = dig (m[i].toNat % 16) := by
  induction m generalizing i with
  | nil => simp at h
  | cons c r ih =>
    cases i with
    | zero => rfl
    | succ i => exact ih i (by simpa using h)
theorem drop_all {α : Type} (p : α → Bool) (l : List α) : l.dropWhile p = [] ↔ l.all p = true := by
  induction l with
  | nil => simp
  | cons a r ih =>
    rw [List.dropWhile_cons, List.all_cons]
    cases h : p a with
    | true => simpa using ih
    | false => simp
/-- nothing is left just where all are digits -/
theorem trim_dig (l : List UInt8) : Lib.trimS l digL = [] ↔ allDig l = true := by
  have e : (fun c => digL.contains c) = fun c => decide (val c < 16) := funext mem_dig
  unfold Lib.trimS Lib.trimLeftS Lib.trimRightS
  rw [e, drop_all, List.all_reverse, allDig]
  constructor
  · intro h
    by_cases h0 : l.reverse.dropWhile (fun c => decide (val c < 16)) = []
    · rw [drop_all, List.all_reverse] at h0
      exact h0
    · exfalso
      obtain ⟨a, r, hr⟩ := List.exists_cons_of_ne_nil h0
      have hn := List.head?_dropWhile_not (fun c => decide (val c < 16)) l.reverse
      rw [hr] at hn h
      simp only [List.head?_cons, List.all_cons, Bool.and_eq_true] at hn h
      rw [h.1] at hn
      simp at hn
  · intro h
    have h0 : l.reverse.dropWhile (fun c => decide (val c < 16)) = [] := by rw [drop_all, List.all_reverse]; exact h
    rw [h0]
    rfl
theorem trim_any (k : ByteArray) (w : World) (hk : k.size ≤ 9223372036854775807) : Calls Tryz.prog 121 #[.string k, .string ⟨#[48, 49, 50, 51, 52, 53, 54, 55, 56, 57, 97, 98, 99, 100, 101, 102]⟩] w fun e w' => ∃ T : ByteArray, e = .returned (.string T) ∧ (T.toList == []) = allDig k.data.toList ∧ Below w.heap.size w w' := by
  refine (Any.strings_Trim_laid Tryz.lays160 (by kernel_rfl) k ⟨#[48, 49, 50, 51, 52, 53, 54, 55, 56, 57, 97, 98, 99, 100, 101, 102]⟩ w hk (by decide) (ascii_of_all (by decide))).mono ?_
  rintro e w1 ⟨rfl, hb⟩
  refine ⟨_, rfl, ?_, hb⟩
  have ht := trim_dig k.data.toList
  rw [toList_data]
  show (Lib.trimS k.data.toList digL == []) = _
  generalize Lib.trimS k.data.toList digL = T at *
  cases h : allDig k.data.toList with
  | true => rw [ht.2 h]; rfl
  | false =>
    cases T with
    | nil => rw [h] at ht; simp at ht
    | cons a r => rfl
set_option maxHeartbeats 1000000 in
set_option maxRecDepth 100000 in
theorem check_key (k : ByteArray) (w : World) (hk : k.size ≤ 9223372036854775807) : Calls Tryz.prog 109 #[.string k] w fun e w' => e = .returned (.bool (keyBytes k.data.toList).isSome) ∧ Below w.heap.size w w' := by
  have C := Lib.hid (trim_any k w hk)
  have hs : k.data.toList.length = k.size := Array.length_toList
  have hres : Hid ((keyBytes k.data.toList).isSome = (decide (k.size = 64) && allDig k.data.toList)) := by show _ = _; rw [keyBytes_isSome, hs]
  by_cases h64 : k.size = 64
  · have q1 : ((k.size : Int) == 64) = true := by rw [h64]; rfl
    have H64 := Lib.hid h64
    clear h64 hs
    go_enter Tryz.func109, Tryz.ntmps109
    go_wp2_with fail
    refine C.out.mono ?_
    rintro e w1 ⟨T, rfl, ht, hb⟩
    have HB := Lib.hid hb
    have HT := Lib.hid ht
    clear hb ht
    cases hT : (T.toList == []) with
    | true =>
      go_wp2_with fail
      go_ret
      exact ⟨by rw [hres.out, H64.out, ← HT.out, hT]; rfl, HB.out⟩
    | false =>
      go_wp2_with fail
      go_ret
      exact ⟨by rw [hres.out, H64.out, ← HT.out, hT]; rfl, HB.out⟩
  · have q1 : ((k.size : Int) == 64) = false := by simp; omega
    have H64 := Lib.hid h64
    clear h64 hs C
    go_enter Tryz.func109, Tryz.ntmps109
    go_wp2_with fail
    go_ret
    exact ⟨by rw [hres.out, decide_eq_false H64.out]; rfl, Below.refl _ _⟩

/-- the digits of a key, two a byte -/
theorem key_at (k : ByteArray) (m : List UInt8) (h : keyBytes k.data.toList = some m) (i : Nat) (hi : i < 32) :
    m.length = 32 ∧ ∃ x, m[i]? = some x ∧ (∀ h1, (k[2 * i]'h1) = dig (x.toNat / 16)) ∧ (∀ h1, (k[2 * i + 1]'h1) = dig (x.toNat % 16)) ∧ k.size = 64 := by
  obtain ⟨h1, h2⟩ := keyBytes_some _ _ h
  have hsz : k.size = 64 := by
    have := congrArg List.length h2
    rw [hexL_len, h1, Array.length_toList] at this
    exact this.symm
  have hg : ∀ (j : Nat) (hj : j < k.size), k[j]'hj = (hexL m)[j]'(by rw [hexL_len]; omega) := fun j hj => by
    have e : k.data.toList[j]'(by rw [Array.length_toList]; exact hj) = (hexL m)[j]'(by rw [hexL_len]; omega) := by simp only [h2]
    rw [← e]
    rfl
  refine ⟨h1, m[i], List.getElem?_eq_getElem (by omega), fun hh => ?_, fun hh => ?_, hsz⟩
  · rw [hg _ hh]
    exact hex_even m i (by omega)
  · rw [hg _ hh]
    exact hex_odd m i (by omega)
theorem digit_dig (n : Nat) (h : n < 16) : digitI (dig n) = (n : Int) := by rw [digitI, val_dig n h, if_pos h]
theorem blank_at (m : List UInt8) (i : Nat) (hi : i < 32) (hm : m.length = 32) : (bs (m.take i ++ List.replicate (32 - i) 0))[i]? = some (.int .u8 0) := by
  have hl : (m.take i ++ List.replicate (32 - i) (0 : UInt8)).length = 32 := by simp; omega
  rw [bs_get _ i (by omega), List.getElem_append_right (by simp; omega)]
  simp
theorem blank_set (m : List UInt8) (i : Nat) (x : UInt8) (hi : i < 32) (hm : m.length = 32) (hx : m[i]? = some x) : (bs (m.take i ++ List.replicate (32 - i) 0)).set i (.int .u8 (x.toNat : Int)) = bs (m.take (i + 1) ++ List.replicate (32 - (i + 1)) 0) := by
  have e : List.replicate (32 - i) (0 : UInt8) = 0 :: List.replicate (32 - (i + 1)) 0 := by rw [show 32 - i = (32 - (i + 1)) + 1 by omega, List.replicate_succ]
  rw [e, List.take_add_one, hx, bs, List.map_append, List.set_append_right _ _ (by simp; omega)]
  simp [bs, hm, Nat.min_eq_left (show i ≤ 32 by omega)]
/-- a block known whole is a row of the call's own -/
theorem blk_own {w : World} {B g n : Nat} {m : List UInt8} (h : Blk w g (bs m) 5) (hB : B ≤ g) (hm : m.length = n) (hn : n ≤ 1000) : Own w B (.slice (some ⟨g, 0, none⟩) n n) m := by
  subst hm
  exact ⟨by simp [bs], Or.inr ⟨g, m.length, (bs m).toArray, rfl, hB, h, Nat.le_refl _, by unfold maxLen; omega, by simp [bs], by rw [Nat.mul_one, List.toList_toArray, List.take_of_length_le (by simp [bs])]⟩⟩
theorem info5z (W : World) : (Instr.makeSlice 33 (.int .i64 32) (.int .i64 32)).run Tryz.prog W = .ok (.slice (some ⟨W.heap.size, 0, none⟩) 32 32) (W.alloc (.cells (bs (List.replicate 32 0)).toArray 5)) := by
  obtain ⟨i0, hi, hz0, hz1, hz2⟩ := info_parts info5
  rw [run_make W 33 5 i0 (.int .u8 0) Tryz.underlying33 hi hz0 .i64 .i64 32 32 (by omega) (by omega) (by rw [hz2]; omega) (by omega), hz1]
  have e : madeCells (Value.int .u8 0).cells (Int.toNat 32 * 1) = (bs (List.replicate 32 0)).toArray := by kernel_rfl
  rw [e]
  rfl
set_option maxHeartbeats 4000000 in
set_option maxRecDepth 100000 in
theorem keybytes_any (k : ByteArray) (w : World) (hk : k.size ≤ 9223372036854775807) : Calls Tryz.prog 112 #[.string k] w (AnsB w k) := by
  have C := Lib.hid (check_key k w hk)
  cases hkb : keyBytes k.data.toList with
  | none =>
    rw [hkb] at C
    have HK := Lib.hid hkb
    clear hkb
    go_enter Tryz.func112, Tryz.ntmps112
    go_wp2_with fail
    refine C.out.mono ?_
    rintro e w1 ⟨rfl, hb⟩
    have HB := Lib.hid hb
    clear hb
    go_wp2_with fail
    go_ret2
    exact ⟨HB.out, .slice none 0 0, by rw [bytesE, HK.out]; rfl, by rw [bytesL, HK.out]; exact own_nil _ _⟩
  | some m =>
    rw [hkb] at C
    have HK := Lib.hid hkb
    have mk := info5z
    obtain ⟨Z, hZ⟩ : ∃ Z, Z = (bs (List.replicate 32 0)).toArray := ⟨_, rfl⟩
    rw [← hZ] at mk
    have HZ := Lib.hid hZ
    have CV := Lib.hid keyval_any
    clear hZ
    clear hkb
    go_enter Tryz.func112, Tryz.ntmps112
    go_wp2_with fail
    refine C.out.mono ?_
    rintro e w1 ⟨rfl, hb⟩
    obtain ⟨g, hg⟩ : ∃ g, g = w1.heap.size := ⟨_, rfl⟩
    have B0 : Hid (Below w.heap.size w (w1.alloc (.cells Z 5))) := hb.alloc hb.size _
    have BK : Hid (Blk (w1.alloc (.cells Z 5)) g (bs (m.take 0 ++ List.replicate (32 - 0) 0)) 5) := by show Blk _ _ _ _; rw [HZ.out]; exact Blk.new w1 _ 5 g hg
    have WG : Hid (w.heap.size ≤ g) := by show _ ≤ _; rw [hg]; exact hb.size
    clear hb
    go_wp2_with fail
    rw [← hg]
    generalize w1.alloc (.cells Z 5) = w2 at *
    clear hg
    go_loopw [12] (fun vi wr => ∃ i : Nat, i ≤ 32 ∧ vi = .int .i64 i ∧ Hid (Below w.heap.size w wr) ∧ Hid (Blk wr g (bs (m.take i ++ List.replicate (32 - i) 0)) 5)) (fun vi _ => 32 - (RowKit.intOf vi).toNat)
    case atStart => exact ⟨0, by omega, rfl, B0.out, BK.out⟩
    case round =>
      obtain ⟨i, hi, rfl, hB, hK⟩ := hrel
      by_cases hin : i < 32
      · obtain ⟨hml, x, hx, k1, k2, hsz⟩ := key_at k m HK.out i hin
        obtain ⟨q, r, hq, hr, hqe, hre, _⟩ := halves x
        rw [← hqe] at k1
        rw [← hre] at k2
        have v1 := fun W => CV.out (dig q) W
        have v2 := fun W => CV.out (dig r) W
        have g1 := digit_dig q hq
        have g2 := digit_dig r hr
        obtain ⟨y1, hy1⟩ : ∃ y, y = dig q := ⟨_, rfl⟩
        obtain ⟨y2, hy2⟩ : ∃ y, y = dig r := ⟨_, rfl⟩
        rw [← hy1] at k1 v1 g1
        rw [← hy2] at k2 v2 g2
        rw [g1] at v1
        rw [g2] at v2
        have V1 := Lib.hid v1
        have V2 := Lib.hid v2
        have hKd : Blk wr.drew g (bs (m.take i ++ List.replicate (32 - i) 0)) 5 := hK.out.drew
        have f1 : wr.drew.frozen? ⟨g, i, none⟩ = false := hKd.frozen i
        have d0 : wr.drew.cell? ⟨g, i, none⟩ = some (.int .u8 0) := by rw [hKd.cell]; exact blank_at m i hin hml
        have S := Lib.hid (hKd.set i (.int .u8 (x.toNat : Int)))
        have hS : Hid ((bs (m.take i ++ List.replicate (32 - i) 0)).set i (.int .u8 (x.toNat : Int)) = bs (m.take (i + 1) ++ List.replicate (32 - (i + 1)) 0)) := blank_set m i x hin hml hx
        rw [hS.out] at S
        have hb2 := Lib.hid (hB.out.drew.setCell (show w.heap.size ≤ (⟨g, i, none⟩ : Addr).block from WG.out) (.int .u8 (x.toNat : Int)))
        have s1 : (q : Int) * 16 = ((16 * q : Nat) : Int) := by omega
        have hqr : 16 * q + r = x.toNat := by omega
        have w1a : IntKind.i64.wrap (2 * (i : Int)) = 2 * (i : Int) := wrap_in _ (by omega) (by omega)
        have w1b : IntKind.i64.wrap (2 * (i : Int) + 1) = 2 * (i : Int) + 1 := wrap_in _ (by omega) (by omega)
        have w1c : IntKind.i64.wrap ((q : Int) * 16) = (q : Int) * 16 := wrap_in _ (by omega) (by omega)
        have w1d : IntKind.i64.wrap ((q : Int) * 16 + (r : Int)) = (q : Int) * 16 + (r : Int) := wrap_in _ (by omega) (by omega)
        have w1e : IntKind.u8.wrap ((q : Int) * 16 + (r : Int)) = (x.toNat : Int) := by rw [IntKind.wrap]; simp [IntKind.bits, IntKind.signed]; have := x.toNat_lt; omega
        have n1 : (2 * (i : Int)).toNat = 2 * i := by omega
        have n2 : (2 * (i : Int) + 1).toNat = 2 * i + 1 := by omega
        have q1 : (0 : Int) ≤ (i : Int) := by omega
        have q2 : (i : Int) < 32 := by omega
        have q3 : (0 : Int) ≤ 2 * (i : Int) := by omega
        have q4 : 2 * (i : Int) < (k.size : Int) := by omega
        have q5 : (0 : Int) ≤ 2 * (i : Int) + 1 := by omega
        have q6 : 2 * (i : Int) + 1 < (k.size : Int) := by omega
        clear hx hml hsz hy1 hy2 g1 g2 hqe hre hS s1 hqr hq hr hB hK hKd v1 v2
        have VA := Lib.hid ((V1.out wr.drew).mono (R' := fun e w'' => e = .returned (.int .i64 (q : Int)) ∧ w'' = wr.drew) fun _ _ ⟨h, hw⟩ => ⟨h, hw⟩)
        have VB := Lib.hid ((V2.out wr.drew).mono (R' := fun e w'' => e = .returned (.int .i64 (r : Int)) ∧ w'' = wr.drew) fun _ _ ⟨h, hw⟩ => ⟨h, hw⟩)
        go_wp2_with fail
        refine wp_region_still_tail 16 (by kernel_rfl) (by kernel_rfl) ?_
        simp only [List.take_succ_cons, List.take_zero, List.drop_succ_cons, List.drop_zero]
        still_step
        still_step
        still_step
        still_step
        still_step
        still_step
        still_call VA.out
        still_step
        still_step
        still_step
        still_step
        still_step
        still_step
        still_call VB.out
        still_step
        still_step
        refine wpStill_nil ?_
        change wpList _ _ _ _ _ wr.drew
        clear VA VB
        generalize wr.drew = w3 at *
        go_wp2_with fail
        go_roundw
        case rel => exact ⟨i + 1, by omega, by go_num, hb2.out, S.out⟩
        case measure => simp [RowKit.intOf]; omega
      · obtain rfl : i = 32 := by omega
        have hml : m.length = 32 := (keyBytes_some _ _ HK.out).1
        have hend : m.take 32 ++ List.replicate (32 - 32) 0 = m := by simp [List.take_of_length_le (show m.length ≤ 32 by omega)]
        have hown : Hid (Own wr w.heap.size (.slice (some ⟨g, 0, none⟩) 32 32) m) := by
          have hk := hK.out
          rw [hend] at hk
          exact blk_own hk WG.out hml (by omega)
        clear hend hml
        go_wp2_with fail
        go_ret2
        exact ⟨hB.out, .slice (some ⟨g, 0, none⟩) 32 32, by rw [bytesE, HK.out]; rfl, by rw [bytesL, HK.out]; exact hown.out⟩


end Go.Proofs.YtcgbaiogbcodcaaGreatDoor.Sh
