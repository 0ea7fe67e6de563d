/-
  The document's own order of texts is the plain definition's. Condition: a text is not longer than a string can be.
-/
import Derived.Test.YtplgiagjgmlbcaaDoorWr
namespace Go.Proofs.YtplgiagjgmlbcaaDoor.Nm
open Go.RowKit Go.Lib

set_option maxHeartbeats 4000000 in
set_option maxRecDepth 100000 in
theorem order_ref (a b : ByteArray) (w : World) (ha : a.size ≤ 9223372036854775807) (hb : b.size ≤ 9223372036854775807) :
    Calls Tryd.prog 22 #[.string a, .string b] w fun e w' => e = .returned (.int .i64 (orderL a.data.toList b.data.toList)) ∧ w = w' := by
  obtain ⟨z, hz⟩ : ∃ z, z = orderL a.data.toList b.data.toList := ⟨_, rfl⟩
  rw [← hz]
  have HZ := Lib.hid hz
  clear hz
  go_enter Tryd.func22, Tryd.ntmps22
  go_wp2_with fail
  go_loop [5, 6] (fun vi vk => ∃ (i k fuel : Nat), vi = .int .i64 i ∧ vk = .int .i64 k ∧ i ≤ a.size ∧ k ≤ b.size ∧ a.size + 1 ≤ i + fuel ∧ Hid (z = (ordF fuel (a.data.toList.drop i) (b.data.toList.drop k)).getD (bytesCmp a.data.toList b.data.toList)))
    (fun vi _ => a.size - (RowKit.intOf vi).toNat)
  case atStart => exact ⟨0, 0, a.size + 1, rfl, rfl, by omega, by omega, by omega, by show z = _; rw [HZ.out, orderL, ← size_eq]; rfl⟩
  case round =>
    obtain ⟨i, k, fuel, rfl, rfl, hi, hk, hfu, hh⟩ := hrel
    obtain ⟨f, rfl⟩ : ∃ f, fuel = f + 1 := ⟨fuel - 1, by omega⟩
    have hn := hh.out
    rw [ordF] at hn
    clear hh
    by_cases hia : i < a.size
    · rw [if_neg (drop_ne a i hia)] at hn
      by_cases hkb : k < b.size
      · rw [if_neg (drop_ne b k hkb), drop_drop', drop_drop'] at hn
        have sa : (a.extract i a.size).size = a.size - i := by rw [size_eq, extract_drop, List.length_drop, ← size_eq]
        have sb : (b.extract k b.size).size = b.size - k := by rw [size_eq, extract_drop, List.length_drop, ← size_eq]
        have ca := fun W => rune_said (a.extract i a.size) (by omega) W
        have cb := fun W => rune_said (b.extract k b.size) (by omega) W
        rw [extract_drop] at ca cb
        have wa := width_le _ (drop_ne a i hia)
        have wb := width_le _ (drop_ne b k hkb)
        have pa := decodeL_width (a.data.toList.drop i)
        rw [List.length_drop, ← size_eq] at wa wb
        obtain ⟨p, hp⟩ : ∃ p, p = decodeL (a.data.toList.drop i) := ⟨_, rfl⟩
        obtain ⟨q, hq⟩ : ∃ q, q = decodeL (b.data.toList.drop k) := ⟨_, rfl⟩
        rw [← hp, ← hq] at hn
        rw [← hp] at ca wa pa
        rw [← hq] at cb wb
        have CA := Lib.hid ca
        have CB := Lib.hid cb
        clear ca cb hp hq sa sb
        by_cases hc : p.1 = q.1
        · rw [if_pos hc] at hn
          have HN := Lib.hid hn
          clear hn
          go_wp2_with fail
          refine (CA.out _).mono ?_
          rintro e w2 ⟨rfl, rfl⟩
          go_wp2_with fail
          refine (CB.out _).mono ?_
          rintro e w2 ⟨rfl, rfl⟩
          go_wp2_with fail
          exact ⟨⟨i + p.2, k + q.2, f, (by first | rfl | (congr 1; omega)), (by first | rfl | (congr 1; omega)), by omega, by omega, by omega, HN⟩, by simp [RowKit.intOf]; omega⟩
        · rw [if_neg hc] at hn
          by_cases hlt : p.1 < q.1
          · rw [if_pos hlt] at hn
            obtain rfl : z = -1 := hn
            clear hc
            go_wp2_with fail
            refine (CA.out _).mono ?_
            rintro e w2 ⟨rfl, rfl⟩
            go_wp2_with fail
            refine (CB.out _).mono ?_
            rintro e w2 ⟨rfl, rfl⟩
            go_wp2_with fail
            go_ret
            exact ⟨rfl, rfl⟩
          · rw [if_neg hlt] at hn
            obtain rfl : z = 1 := hn
            skip
            have hgt : q.1 < p.1 := by omega
            clear hc
            go_wp2_with fail
            refine (CA.out _).mono ?_
            rintro e w2 ⟨rfl, rfl⟩
            go_wp2_with fail
            refine (CB.out _).mono ?_
            rintro e w2 ⟨rfl, rfl⟩
            go_wp2_with fail
            go_ret
            exact ⟨rfl, rfl⟩
      · rw [drop_all b k hkb, if_pos rfl] at hn
        obtain rfl : z = 1 := hn
        skip
        go_wp2_with fail
        go_ret
        exact ⟨rfl, rfl⟩
    · rw [drop_all a i hia, if_pos rfl] at hn
      by_cases hkb : k < b.size
      · rw [if_neg (drop_ne b k hkb)] at hn
        obtain rfl : z = -1 := hn
        skip
        go_wp2_with fail
        go_ret
        exact ⟨rfl, rfl⟩
      · rw [drop_all b k hkb, if_pos rfl] at hn
        have hn' : z = bytesCmp a.toList b.toList := by rw [toList_data, toList_data]; exact hn
        clear hn
        cases hl : Op.bytesLess a.toList b.toList with
        | true =>
          obtain rfl : z = -1 := by rw [hn', bytesCmp, if_pos hl]
          clear hn'
          go_wp2_with fail
          go_ret
          exact ⟨rfl, rfl⟩
        | false =>
          by_cases he : a.toList = b.toList
          · obtain rfl : z = 0 := by rw [hn', bytesCmp, hl, if_neg (by simp), if_pos he]
            have heb : (a.toList == b.toList) = true := by simpa using he
            clear hn' he
            go_wp2_with fail
            go_ret
            exact ⟨rfl, rfl⟩
          · obtain rfl : z = 1 := by rw [hn', bytesCmp, hl, if_neg (by simp), if_neg he]
            have heb : (a.toList == b.toList) = false := by simpa using he
            clear hn' he
            go_wp2_with fail
            go_ret
            exact ⟨rfl, rfl⟩
end Go.Proofs.YtplgiagjgmlbcaaDoor.Nm
