/-
  The contract of the document's own Quote: for every text within the bulk it returns what the plain definition quotes. Condition: the text has at most 2^20 bytes.
-/
import Derived.Test.YtplgiagjgmlbcaaDoorWh2
import Derived.Test.YtplgiagjgmlbcaaDoorWz
namespace Go.Proofs.YtplgiagjgmlbcaaDoor.Nm
open Go.RowKit Go.Lib

set_option maxRecDepth 100000 in
theorem ascii_one (l : List UInt8) (h : (decodeL l).1 < 128) : decodeL l = ((l.getD 0 0).toNat, 1) := by
  have b0 := (l.getD 0 0).toNat_lt
  have b1 := (l.getD 1 0).toNat_lt
  rw [decodeL_N] at h ⊢
  by_cases k0 : (l.getD 0 0).toNat < 128
  · exact dN1 _ _ _ _ _ k0
  exfalso
  by_cases k1 : (l.getD 0 0).toNat < 194
  · rw [dNbad _ _ _ _ _ (by omega) b1] at h
    simp at h
  by_cases k2 : (l.getD 0 0).toNat < 224
  · rw [dN2 _ _ _ _ _ (by omega)] at h
    split at h
    · simp only at h; omega
    · simp at h
  by_cases k3 : (l.getD 0 0).toNat < 240
  · rw [dN3 _ _ _ _ _ (by omega)] at h
    split at h
    · simp only at h; omega
    · simp at h
  by_cases k4 : (l.getD 0 0).toNat < 245
  · rw [dN4 _ _ _ _ _ (by omega)] at h
    split at h
    · simp only at h; omega
    · simp at h
  rw [dNbad _ _ _ _ _ (by omega) b1] at h
  simp at h
theorem hex_byte (c : Nat) (h : 128 ≤ c) (h2 : c < 256) : hexF 5 c = [digs.getD (c / 16 % 16) 0, digs.getD (c % 16 % 16) 0] := by
  rw [hexF_big 4 c (by omega), hexF_small 4 (c / 16) (by omega), Nat.mod_mod]
  rfl

set_option maxHeartbeats 4000000 in
set_option maxRecDepth 100000 in
theorem quote_ref (s : ByteArray) (w : World) (hs : s.size ≤ 16777218) :
    Calls Tryd.prog 24 #[.string s] w fun e w' => e = .returned (.string ⟨(quoteL s.data.toList).toArray⟩) ∧ Below w.heap.size w w' := by
  obtain ⟨z, hz⟩ : ∃ z, z = quoteL s.data.toList := ⟨_, rfl⟩
  rw [← hz]
  have HZ := Lib.hid hz
  clear hz
  have HGD := Lib.hid (fun k (h : k < s.size) => (getD_at s k h : s.data.toList.getD k 0 = s[k]'h))
  go_enter Tryd.func24, Tryd.ntmps24
  go_wp2_with fail
  go_loopw [3, 4] (fun vo vi wr => ∃ (i f : Nat) (o : ByteArray), vo = .string o ∧ vi = .int .i64 i ∧ Below w.heap.size w wr ∧ i ≤ s.size ∧ s.size ≤ i + f ∧ o.size ≤ 1 + 16 * i ∧ Hid (z = o.data.toList ++ (quoteB f (s.data.toList.drop i) ++ [34]))) (fun _ vi _ => s.size - (RowKit.intOf vi).toNat)
  case atStart => exact ⟨0, s.size, ⟨#[34]⟩, rfl, rfl, Below.refl _ _, by omega, by omega, by decide, by show z = _; rw [HZ.out, quoteL, ← size_eq]; rfl⟩
  case round =>
    obtain ⟨i, f, o, rfl, rfl, hb, hi, hfu, hos, hh⟩ := hrel
    by_cases hia : i < s.size
    · obtain ⟨f, rfl⟩ : ∃ g, f = g + 1 := ⟨f - 1, by omega⟩
      have hn := hh.out
      rw [quoteB_cons _ _ (drop_ne s i hia), drop_drop'] at hn
      clear hh
      have hne := drop_ne s i hia
      have sa : (s.extract i s.size).size = s.size - i := by rw [size_eq, extract_drop, List.length_drop, ← size_eq]
      have ca := fun W => rune_said (s.extract i s.size) (by omega) W
      rw [extract_drop] at ca
      have wa := width_le _ hne
      have pa := decodeL_width (s.data.toList.drop i)
      rw [List.length_drop, ← size_eq] at wa
      have hq16 := quoteOne_len (s.data.toList.drop i)
      have hc0 : (s.data.toList.drop i).getD 0 0 = s[i]'hia := drop_getD s i hia
      have HR : Hid (∀ X : ByteArray, quoteOne (s.data.toList.drop i) = X.data.toList → X.size ≤ 16 ∧ Hid (z = (o ++ X).data.toList ++ (quoteB f (s.data.toList.drop (i + (decodeL (s.data.toList.drop i)).2)) ++ [34]))) := Lib.hid (fun X hX => by
        refine ⟨by rw [size_eq, ← hX]; exact hq16, ?_⟩
        show z = _
        rw [hn, hX]
        simp)
      clear hn
      have hr4 := width_four (s.data.toList.drop i)
      have hrl : (decodeL (s.data.toList.drop i)).1 ≤ 1114111 := by rw [decodeL_drop]; exact rune_le s i
      obtain ⟨p, hp⟩ : ∃ p, p = decodeL (s.data.toList.drop i) := ⟨_, rfl⟩
      rw [← hp] at ca wa pa hr4 hrl HR
      cases hst : strayL (s.data.toList.drop i) with
      | true =>
        rw [hst] at ca
        have hh := stray_high _ hst
        rw [hc0] at hh
        have hc256 : (s[i]'hia).toNat < 256 := (s[i]'hia).toNat_lt
        obtain ⟨h16, HN⟩ := HR.out (⟨#[92, 120]⟩ ++ ⟨#[digs.getD ((s[i]'hia).toNat / 16 % 16) 0]⟩ ++ ⟨#[digs.getD ((s[i]'hia).toNat % 16 % 16) 0]⟩) (by rw [quoteOne_stray _ hst, hc0, hex_byte _ hh hc256]; rfl)
        have hs1 := fun W => dig_slice W ((s[i]'hia).toNat / 16) (by omega) (((s[i]'hia).toNat : Int) / 16) (((s[i]'hia).toNat : Int) / 16 + 1) (by omega) (by omega)
        have hs2 := fun W => dig_slice W ((s[i]'hia).toNat % 16) (by omega) (((s[i]'hia).toNat : Int) % 16) (((s[i]'hia).toNat : Int) % 16 + 1) (by omega) (by omega)
        unfold Dig at hs1 hs2
        obtain ⟨d1, hd1⟩ : ∃ d, d = (⟨#[digs.getD ((s[i]'hia).toNat / 16 % 16) 0]⟩ : ByteArray) := ⟨_, rfl⟩
        obtain ⟨d2, hd2⟩ : ∃ d, d = (⟨#[digs.getD ((s[i]'hia).toNat % 16 % 16) 0]⟩ : ByteArray) := ⟨_, rfl⟩
        have z1 : d1.size = 1 := by rw [hd1]; rfl
        have z2 : d2.size = 1 := by rw [hd2]; rfl
        rw [← hd1] at hs1 h16 HN
        rw [← hd2] at hs2 h16 HN
        have y1 : (o ++ (⟨#[92, 120]⟩ : ByteArray)).size = o.size + 2 := by rw [ByteArray.size_append]; rfl
        have y2 : (o ++ (⟨#[92, 120]⟩ : ByteArray) ++ d1).size = o.size + 3 := by rw [ByteArray.size_append, y1, z1]
        have y3 : (o ++ (⟨#[92, 120]⟩ : ByteArray) ++ d1 ++ d2).size = o.size + 4 := by rw [ByteArray.size_append, y2, z2]
        rw [← ByteArray.append_assoc, ← ByteArray.append_assoc] at HN
        have CA := Lib.hid ca
        clear ca HR hd1 hd2 hst sa hc0 hp h16 hq16
        go_wp2_with fail
        refine (CA.out _).mono ?_
        rintro e w2 ⟨rfl, rfl⟩
        go_wp2_with fail
        go_region
        all_goals go_wp2_with fail
        all_goals
          go_roundw
          case rel => exact ⟨i + p.2, f, _, rfl, by go_num, hb.drew, by omega, by omega, by omega, HN⟩
          case measure => simp [RowKit.intOf]; omega
      | false =>
        rw [hst] at ca
        have henc := encode_decode _ hne hst
        have one : p.1 < 128 → ∃ x : ByteArray, s.extract i (i + 1) = x ∧ x.size = 1 ∧ x.data.toList = encodeRune (p.1 : Nat) := fun h => by
          have h1 := ascii_one (s.data.toList.drop i) (by rw [← hp]; exact h)
          refine ⟨_, rfl, by rw [size_eq, cut_data, List.length_drop, List.length_take, ← size_eq]; omega, ?_⟩
          rw [hp, henc, h1, cut_data, List.drop_take, show i + 1 - i = 1 by omega]
        have hs1 : ∀ x, s.extract i (i + 1) = x → ∀ W, (Instr.slice 9 (.string s) (some (.int .i64 i)) (some (.int .i64 ((i : Int) + 1))) none).run Tryd.prog W = .ok (.string x) W := fun x hx W => by
          have h := run_slice_string (P := Tryd.prog) W 9 s .i64 .i64 (i : Nat) ((i + 1 : Nat) : Int) Tryd.underlying9 (by omega) (by omega) (by omega)
          simp only [Int.toNat_natCast] at h
          rw [hx] at h
          exact h
        by_cases k1 : p.1 = 34 ∨ p.1 = 92
        · obtain ⟨x, hx, hx1, hxd⟩ := one (by omega)
          obtain ⟨h16, HN⟩ := HR.out (⟨#[92]⟩ ++ x) (by rw [quoteOne_mark _ hst (by rw [← hp]; exact k1), ← hp, ← hxd]; simp)
          have hsx := hs1 x hx
          have y1 : (o ++ (⟨#[92]⟩ : ByteArray)).size = o.size + 1 := by rw [ByteArray.size_append]; rfl
          have y2 : (o ++ (⟨#[92]⟩ : ByteArray) ++ x).size = o.size + 2 := by rw [ByteArray.size_append, y1, hx1]
          rw [← ByteArray.append_assoc] at HN
          have CA := Lib.hid ca
          have e34 : ((p.1 : Int) == 34) = true ∨ (((p.1 : Int) == 34) = false ∧ ((p.1 : Int) == 92) = true) := by
            rcases k1 with k | k
            · exact Or.inl (by rw [k]; rfl)
            · exact Or.inr ⟨by rw [k]; rfl, by rw [k]; rfl⟩
          clear ca HR hst sa hc0 hp h16 hq16 hs1 one henc hx hxd k1
          rcases e34 with e34 | ⟨e34, e92⟩
          all_goals
            go_wp2_with fail
            refine (CA.out _).mono ?_
            rintro e w2 ⟨rfl, rfl⟩
            go_wp2_with fail
            go_roundw
            case rel => exact ⟨i + p.2, f, _, rfl, by go_num, hb, by omega, by omega, by omega, HN⟩
            case measure => simp [RowKit.intOf]; omega
        · have e34 : ((p.1 : Int) == 34) = false := by simp; omega
          have e92 : ((p.1 : Int) == 92) = false := by simp; omega
          by_cases k2 : 32 ≤ p.1 ∧ p.1 ≤ 126
          · obtain ⟨x, hx, hx1, hxd⟩ := one (by omega)
            obtain ⟨h16, HN⟩ := HR.out x (by rw [quoteOne_seen _ hst (by rw [← hp]; exact k1) (by rw [← hp]; exact k2), ← hp, ← hxd])
            have hsx := hs1 x hx
            have y1 : (o ++ x).size = o.size + 1 := by rw [ByteArray.size_append, hx1]
            obtain ⟨k2a, k2b⟩ := k2
            have CA := Lib.hid ca
            clear ca HR hst sa hc0 hp h16 hq16 hs1 one henc hx hxd k1
            go_wp2_with fail
            refine (CA.out _).mono ?_
            rintro e w2 ⟨rfl, rfl⟩
            go_wp2_with fail
            go_roundw
            case rel => exact ⟨i + p.2, f, _, rfl, by go_num, hb, by omega, by omega, by omega, HN⟩
            case measure => simp [RowKit.intOf]; omega
          · obtain ⟨h16, HN⟩ := HR.out (⟨#[92, 117, 123]⟩ ++ ⟨(hexF 5 p.1).toArray⟩ ++ ⟨#[125]⟩) (by rw [quoteOne_hex _ hst (by rw [← hp]; exact k1) (by rw [← hp]; exact k2), ← hp]; simp)
            have ch := fun W => hex_ref p.1 (by omega) W
            have hx6 := hexF_len 5 p.1
            have hxs : (⟨(hexF 5 p.1).toArray⟩ : ByteArray).size ≤ 6 := by rw [size_eq]; exact hx6.2
            obtain ⟨x, hx⟩ : ∃ x, x = (⟨(hexF 5 p.1).toArray⟩ : ByteArray) := ⟨_, rfl⟩
            rw [← hx] at HN ch hxs h16
            have y1 : (o ++ (⟨#[92, 117, 123]⟩ : ByteArray)).size = o.size + 3 := by rw [ByteArray.size_append]; rfl
            have y2 : (o ++ (⟨#[92, 117, 123]⟩ : ByteArray) ++ x).size = o.size + 3 + x.size := by rw [ByteArray.size_append, y1]
            have y3 : (o ++ (⟨#[92, 117, 123]⟩ : ByteArray) ++ x ++ (⟨#[125]⟩ : ByteArray)).size = o.size + 4 + x.size := by rw [ByteArray.size_append, y2]; show _ + 1 = _; omega
            rw [← ByteArray.append_assoc, ← ByteArray.append_assoc] at HN
            have hk : (p.1 : Int) < 32 ∨ 126 < (p.1 : Int) := by omega
            have CA := Lib.hid ca
            have CH := Lib.hid ch
            clear ca ch HR hst sa hc0 hp h16 hq16 hs1 one henc hx hx6 k1 k2
            rcases hk with hk | hk
            all_goals
              go_wp2_with fail
              refine (CA.out _).mono ?_
              rintro e w2 ⟨rfl, rfl⟩
              go_wp2_with fail
              refine (CH.out _).mono ?_
              rintro e w2 ⟨rfl, rfl⟩
              go_wp2_with fail
              go_roundw
              case rel => exact ⟨i + p.2, f, _, rfl, by go_num, hb, by omega, by omega, by omega, HN⟩
              case measure => simp [RowKit.intOf]; omega
    · have HN : Hid (z = (o ++ (⟨#[34]⟩ : ByteArray)).data.toList) := by
        show z = _
        rw [hh.out, drop_all s i hia, quoteB_nil]
        simp
      clear hh
      go_wp2_with fail
      go_ret
      rw [HN.out, back_ba]
      exact ⟨rfl, hb⟩
end Go.Proofs.YtplgiagjgmlbcaaDoor.Nm
