/-
  Contracts of strconv.ParseUint at base 16 and 8 bits, as the elder text's at 21. Conditions: a text is not longer than a string can be.
-/
import Derived.Test.YtplgiagjgmlbcaaDoorWc
namespace Go.Proofs.YtplgiagjgmlbcaaDoor.Nm
open Go.RowKit Go.Lib

set_option maxHeartbeats 4000000 in
set_option maxRecDepth 100000 in
theorem parse_in8 (t : ByteArray) (hne : t.size ≠ 0) (hmax : t.size ≤ 9223372036854775806) (w : World) :
    Calls Tryd.prog 56 #[.string t, .int .i64 16, .int .i64 8] w (PUPost (parse16 255 0 t.data.toList) w) := by
  have hemp : t.toList.isEmpty = false := by
    rw [← decide_eq_emptyBytes]
    exact decide_eq_false (fun h => hne (by rw [h]; rfl))
  have hcv := Lib.run_convert_string_bytes (P := Tryd.prog) w 9 44 5 t (u := .string) Tryd.underlying9 Tryd.underlying44 Tryd.underlying5
  have hB : ∀ j, j < t.size → (Lib.bytesWorld w 5 t).cell? ⟨w.heap.size, j, none⟩ = some (.int .u8 (t.data.toList.getD j 0).toNat) := fun j hj => Lib.bytesWorld_cell w 5 t j hj
  have hbel := below_bytesWorld w 5 t
  obtain ⟨W1, hW1⟩ : ∃ W1, W1 = Lib.bytesWorld w 5 t := ⟨_, rfl⟩
  rw [← hW1] at hcv hB hbel
  clear hW1
  obtain ⟨bs, hL⟩ : ∃ bs, bs = t.data.toList := ⟨_, rfl⟩
  have hLn : bs.length = t.size := by rw [hL, Lib.size_eq]
  rw [← hL] at hB ⊢
  clear hL
  obtain ⟨o, ho⟩ : ∃ o, o = parse16 255 0 bs := ⟨_, rfl⟩
  rw [← ho]
  have HO := Lib.hid ho
  clear ho
  have HB := Lib.hid hB
  have HLn := Lib.hid hLn
  have HBel := Lib.hid hbel
  clear hB hLn hbel hne
  have HQ0 : ∀ e, (match o with
    | some n => e = Ending.returned (.tuple #[.int .u64 n, .nilIface])
    | none => ∃ (x c : Int), (c = 1 ∨ c = 2) ∧ e = .returned (.tuple #[.int .u64 x, .iface 92 (.int .i64 c)])) → PUPost o w e W1 := fun e h => ⟨HBel.out, h⟩
  have HQ := Lib.hid HQ0
  clear HQ0
  go_enter Tryd.func56, Tryd.ntmps56
  go_wp2_with fail
  go_loop [12, 13, 101] (fun vu vn vi => ∃ (k acc : Nat) (a : Int), vu = .bool false ∧ vn = .int .u64 a ∧ vi = .int .i64 k ∧ k ≤ t.size ∧ 0 ≤ a ∧ a ≤ 255 ∧ Hid (a = (acc : Int) ∧ o = parse16 255 acc (bs.drop k)))
    (fun _ _ vi => t.size - (RowKit.intOf vi).toNat)
  case atStart => exact ⟨0, 0, 0, rfl, rfl, rfl, by omega, by omega, by omega, rfl, HO.out⟩
  case round =>
    obtain ⟨k, acc, a, rfl, rfl, rfl, hk, ha0, ha1, hh⟩ := hrel
    by_cases hkn : k < t.size
    · have hc := HB.out k hkn
      obtain ⟨c, hcd⟩ : ∃ c, bs.drop k = c :: bs.drop (k + 1) ∧ bs.getD k 0 = c := by
        have hl := HLn.out
        exact ⟨bs[k]'(by omega), List.drop_eq_getElem_cons (by omega), by simp [List.getD, List.getElem?_eq_getElem (show k < bs.length by omega)]⟩
      rw [hcd.2] at hc
      have hdec : o = parse16 255 acc (c :: bs.drop (k + 1)) := by rw [hh.out.2, hcd.1]
      have ha := hh.out.1
      have hc256 : c.toNat < 256 := c.toNat_lt
      clear hcd hh
      -- a digit d: too great, or on
      have step : ∀ d : Nat, hexv c = some d → d < 16 → (255 < acc * 16 + d ∧ Hid (o = none)) ∨ (¬ 255 < acc * 16 + d ∧ Hid (o = parse16 255 (acc * 16 + d) (bs.drop (k + 1)))) := fun d hd _ => by
        by_cases hov : 255 < acc * 16 + d
        · exact Or.inl ⟨hov, Lib.hid (by rw [hdec, parse16_over _ _ d _ _ hd hov])⟩
        · exact Or.inr ⟨hov, Lib.hid (by rw [hdec, parse16_go _ _ d _ _ hd hov])⟩
      by_cases hdig : 48 ≤ c.toNat ∧ c.toNat ≤ 57
      · have st := step _ (hexv_digit c hdig) (by omega)
        clear step hdec
        obtain ⟨hd0, hd1⟩ := hdig
        rcases st with ⟨hov, ho⟩ | ⟨hov, ho⟩
        · have iov : 255 < a * 16 + ((c.toNat : Int) - 48) := by omega
          clear ha hov
          go_wp2_with fail
          go_ret2
          exact HQ.out _ (by rw [ho.out]; exact ⟨_, 1, Or.inl rfl, rfl⟩)
        · have iov : a * 16 + ((c.toNat : Int) - 48) ≤ 255 := by omega
          have HN : Hid (a * 16 + ((c.toNat : Int) - 48) = ((acc * 16 + (c.toNat - 48) : Nat) : Int) ∧ o = parse16 255 (acc * 16 + (c.toNat - 48)) (bs.drop (k + 1))) := ⟨by omega, ho.out⟩
          clear ha hov ho
          go_wp2_with fail
          refine ⟨⟨k + 1, acc * 16 + (c.toNat - 48), a * 16 + ((c.toNat : Int) - 48), rfl, (by first | rfl | (congr 1; omega)), (by first | rfl | (congr 1; omega)), by omega, by omega, by omega, HN⟩, by simp [RowKit.intOf]; omega⟩
      · have hor := or32 c
        obtain ⟨q1, q2, q3, q4⟩ := low_key ⟨c.toNat, hc256⟩
        simp only at q1 q2 q3 q4
        by_cases hlo : (97 ≤ c.toNat ∧ c.toNat ≤ 102) ∨ (65 ≤ c.toNat ∧ c.toNat ≤ 70)
        · -- a letter: v, the small one of it
          obtain ⟨v, hv, hv0, hv1, hvd⟩ : ∃ v : Nat, c.toNat ||| 32 = v ∧ 97 ≤ v ∧ v ≤ 102 ∧ hexv c = some (v - 87) := by
            refine ⟨_, rfl, (q1.2 hlo).1, (q1.2 hlo).2, ?_⟩
            rcases hlo with h | h
            · rw [hexv_low c h, q2 h]
            · rw [hexv_up c h, q3 h]; congr 1
          have st := step _ hvd (by omega)
          rw [hv] at hor
          have hnd : 57 < (c.toNat : Int) := by omega
          have h95 : ((c.toNat : Int) == 95) = false := by simp; omega
          clear step hdec hvd q1 q2 q3 q4 hv hlo hdig
          rcases st with ⟨hov, ho⟩ | ⟨hov, ho⟩
          · have iov : 255 < a * 16 + ((v : Int) - 97 + 10) := by omega
            clear ha hov
            go_wp2_with (go_at_call 68; refine (Tryd.internal_strconv_lower _ _).mono ?_; rintro e w' ⟨rfl, rfl⟩; rw [hor])
            all_goals go_ret2
            all_goals exact HQ.out _ (by rw [ho.out]; exact ⟨_, 1, Or.inl rfl, rfl⟩)
          · have iov : a * 16 + ((v : Int) - 97 + 10) ≤ 255 := by omega
            have HN : Hid (a * 16 + ((v : Int) - 97 + 10) = ((acc * 16 + (v - 87) : Nat) : Int) ∧ o = parse16 255 (acc * 16 + (v - 87)) (bs.drop (k + 1))) := ⟨by omega, ho.out⟩
            clear ha hov ho
            go_wp2_with (go_at_call 68; refine (Tryd.internal_strconv_lower _ _).mono ?_; rintro e w' ⟨rfl, rfl⟩; rw [hor])
            all_goals exact ⟨⟨k + 1, acc * 16 + (v - 87), a * 16 + ((v : Int) - 97 + 10), rfl, (by first | rfl | (congr 1; omega)), (by first | rfl | (congr 1; omega)), by omega, by omega, by omega, HN⟩, by simp [RowKit.intOf]; omega⟩
        · have HF : Hid (o = none) := Lib.hid (by rw [hdec, parse16_none _ _ _ _ (hexv_none c hdig (fun h => hlo (Or.inl h)) (fun h => hlo (Or.inr h)))])
          obtain ⟨v, hv⟩ : ∃ v : Nat, c.toNat ||| 32 = v := ⟨_, rfl⟩
          rw [hv] at hor q1 q4
          have hnv : (v : Int) < 97 ∨ 102 < (v : Int) := by
            by_cases h : 97 ≤ v ∧ v ≤ 102
            · exact absurd (q1.1 h) hlo
            · omega
          have hnd : (c.toNat : Int) < 48 ∨ 57 < (c.toNat : Int) := by omega
          by_cases h95 : c.toNat = 95
          · have hc' : W1.cell? ⟨w.heap.size, k, none⟩ = some (.int .u8 95) := by rw [hc, h95]; rfl
            have e95 : bits BinOp.or IntKind.u8 95 32 = 127 := by decide
            clear step hdec q1 q2 q3 hv hlo hdig ha hc h95 hnd hnv hor
            go_wp2_with (go_at_call 68; refine (Tryd.internal_strconv_lower _ _).mono ?_; rintro e w' ⟨rfl, rfl⟩; rw [e95])
            all_goals go_ret2
            all_goals exact HQ.out _ (by rw [HF.out]; exact ⟨_, 2, Or.inr rfl, rfl⟩)
          have h95 : ((c.toNat : Int) == 95) = false := by simp; omega
          clear step hdec q1 q2 q3 hv hlo hdig ha
          rcases hnd with hnd | hnd
          all_goals
            rcases hnv with hnv | hnv
            all_goals
              go_wp2_with (go_at_call 68; refine (Tryd.internal_strconv_lower _ _).mono ?_; rintro e w' ⟨rfl, rfl⟩; rw [hor])
              all_goals go_ret2
              all_goals exact HQ.out _ (by rw [HF.out]; exact ⟨_, 2, Or.inr rfl, rfl⟩)
    · have hkk : k = t.size := by omega
      subst hkk
      have HF : Hid (o = some acc) := by rw [hh.out.2, List.drop_eq_nil_of_le (by have := HLn.out; omega)]; rfl
      have ha := hh.out.1
      clear hh ha0 ha1
      subst ha
      go_wp2_with fail
      go_ret2
      exact HQ.out _ (by rw [HF.out]; exact rfl)
end Go.Proofs.YtplgiagjgmlbcaaDoor.Nm
