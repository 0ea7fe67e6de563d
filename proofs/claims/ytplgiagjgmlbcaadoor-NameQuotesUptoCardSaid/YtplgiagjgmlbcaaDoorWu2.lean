/-
  The contract of the document's own Unquote: for every text within the bulk it returns the text that the plain scan gives, or that there is none. Condition: the text has at most 2^20 bytes.
-/
import Derived.Test.YtplgiagjgmlbcaaDoorKa
import Derived.Test.YtplgiagjgmlbcaaDoorPk
import Derived.Test.YtplgiagjgmlbcaaDoorWe3
import Derived.Test.YtplgiagjgmlbcaaDoorWv
namespace Go.Proofs.YtplgiagjgmlbcaaDoor.Nm
open Go.RowKit Go.Lib

theorem escape_any (s : ByteArray) (w : World) (hs : s.size ≤ 4294967296) : Calls Tryd.prog 39 #[.string s] w (XPost (escR s.data.toList) w) := by
  have hlz : s.data.toList.length = s.size := (size_eq s).symm
  unfold escR
  rw [hlz]
  by_cases h0 : 0 < s.size
  · have g0 := getD_at s 0 h0
    rw [g0]
    by_cases hm : (s[0]'h0).toNat = 34 ∨ (s[0]'h0).toNat = 92
    · rw [if_pos ⟨h0, hm⟩]
      exact esc_mark s w h0 (by
        rcases hm with h | h
        · exact Or.inl (by rw [h]; rfl)
        · exact Or.inr ⟨by rw [h]; rfl, by rw [h]; rfl⟩) _ (Lib.hid rfl)
    rw [if_neg (by rintro ⟨_, h⟩; exact hm h)]
    have e34 : (((s[0]'h0).toNat : Int) == 34) = false := by simp; omega
    have e92 : (((s[0]'h0).toNat : Int) == 92) = false := by simp; omega
    by_cases h3 : 3 ≤ s.size
    · have h1 : 1 < s.size := by omega
      have h2 : 2 < s.size := by omega
      rw [getD_at s 1 h1, getD_at s 2 h2]
      by_cases hx : (s[0]'h0).toNat = 120
      · have ht := esc_two s w h3 h0 h1 h2 e34 e92 (by rw [hx]; rfl) (by rw [hx]; rfl) _ _ (Lib.hid rfl) (Lib.hid rfl)
        by_cases hd : (0 : Int) ≤ digR (s[1]'h1) ∧ (0 : Int) ≤ digR (s[2]'h2)
        · rw [if_pos hd] at ht
          rw [if_pos ⟨h3, hx, hd.1, hd.2⟩]
          exact ht
        · rw [if_neg hd] at ht
          rw [if_neg (by rintro ⟨_, _, h⟩; exact hd h), if_pos (by right; left; rw [hx]; decide)]
          exact ht
      · have e120 : (((s[0]'h0).toNat : Int) == 120) = false := by simp; omega
        rw [if_neg (by rintro ⟨_, h, _⟩; exact hx h)]
        by_cases h4 : 4 ≤ s.size
        · by_cases hu : (s[0]'h0).toNat ≠ 117
          · rw [if_pos (by right; left; exact hu)]
            exact esc_no_u s w h0 h4 h1 e34 e92 e120 (Or.inl (by rw [bne_iff_ne]; omega))
          · have hu' : (s[0]'h0).toNat = 117 := by omega
            by_cases hv : (s[1]'h1).toNat ≠ 123
            · rw [if_pos (by right; right; exact hv)]
              exact esc_no_u s w h0 h4 h1 e34 e92 e120 (Or.inr ⟨by rw [hu']; rfl, by rw [bne_iff_ne]; omega⟩)
            · have hv' : (s[1]'h1).toNat = 123 := by omega
              rw [if_neg (by omega)]
              exact esc_loop s w hs h0 h4 h1 e34 e92 e120 (by rw [hu']; rfl) (by rw [hv']; rfl)
        · rw [if_pos (by omega)]
          exact esc_no_three s w h0 h3 (by omega) e34 e92 e120
    · rw [if_neg (by omega), if_pos (by omega)]
      exact esc_no_short s w h0 h3 e34 e92
  · rw [if_neg (by omega), if_neg (by omega), if_pos (by omega)]
    exact esc_no_empty s w h0

theorem encR_len {x : Nat} {b : List UInt8} (h : encR x = some b) : b.length ≤ 4 := by
  unfold encR at h
  split at h
  · cases h
  · cases h
    exact (encodeRune_len _).2
theorem escU_le (l : List UInt8) : ∀ (f i x : Nat) (b : List UInt8) (n : Nat), escU l f i x = some (b, n) → n ≤ l.length ∧ b.length ≤ 4
  | 0, i, x, b, n, h => by simp [escU] at h
  | f + 1, i, x, b, n, h => by
    rw [escU] at h
    split at h
    · split at h
      · cases he : encR x with
        | none => rw [he] at h; simp at h
        | some c =>
          rw [he] at h
          simp only [Option.map_some, Option.some.injEq, Prod.mk.injEq] at h
          obtain ⟨rfl, rfl⟩ := h
          exact ⟨by omega, encR_len he⟩
      · split at h
        · cases h
        · exact escU_le l f (i + 1) _ b n h
    · cases h
theorem escR_le (l b : List UInt8) (n : Nat) (h : escR l = some (b, n)) : n ≤ l.length ∧ b.length ≤ 4 := by
  unfold escR at h
  split at h
  · simp only [Option.some.injEq, Prod.mk.injEq] at h
    obtain ⟨rfl, rfl⟩ := h
    simp
    omega
  · split at h
    · simp only [Option.some.injEq, Prod.mk.injEq] at h
      obtain ⟨rfl, rfl⟩ := h
      simp
      omega
    · split at h
      · cases h
      · exact escU_le l 7 2 0 b n h

theorem info5 : (Tryd.prog.info? 5).map (fun i => (i.zero, i.size, i.bytes)) = some (some (.int .u8 0), 1, 1) := by kernel_rfl
theorem byt_one (w : World) (c : UInt8) : Byt (w.alloc (.cells #[.int .u8 c.toNat] 5)) (some ⟨w.heap.size, 0, none⟩) [c] := fun _ => by
  refine ⟨w.heap.size, 0, rfl, by simp, fun j hj => ?_⟩
  obtain rfl : j = 0 := by simpa using hj
  rw [World.cell?_alloc_new]
  rfl
theorem byt_of {w : World} {v : Value} {l : List UInt8} (h : Bytes w v l) : ∃ b c, v = .slice (some ⟨b, 0, none⟩) l.length c ∧ Byt w (some ⟨b, 0, none⟩) l := by
  obtain ⟨b, c, hv, _, hb, hc⟩ := h
  exact ⟨b, c, hv, fun _ => ⟨b, 0, rfl, hb, fun j hj => by rw [Nat.zero_add]; exact hc j hj⟩⟩
theorem refunq_short (s : ByteArray) (w : World) (h : s.size < 2) :
    Calls Tryd.prog 23 #[.string s] w fun e w' => e = .returned (.tuple #[.string ⟨#[]⟩, .bool false]) ∧ w = w' := by
  go_enter Tryd.func23, Tryd.ntmps23
  go_wp2_with fail
  go_ret2
  exact ⟨rfl, rfl⟩
theorem refunq_first (s : ByteArray) (w : World) (h : ¬ s.size < 2) (h0 : 0 < s.size) (hb : (((s[0]'h0).toNat : Int) != 34) = true) :
    Calls Tryd.prog 23 #[.string s] w fun e w' => e = .returned (.tuple #[.string ⟨#[]⟩, .bool false]) ∧ w = w' := by
  go_enter Tryd.func23, Tryd.ntmps23
  go_wp2_with fail
  go_ret2
  exact ⟨rfl, rfl⟩
theorem refunq_last (s : ByteArray) (w : World) (h : ¬ s.size < 2) (hs : s.size ≤ 268435456) (h0 : 0 < s.size) (h1 : s.size - 1 < s.size) (hb : (((s[0]'h0).toNat : Int) != 34) = false) (hl : (((s[s.size - 1]'h1).toNat : Int) != 34) = true) :
    Calls Tryd.prog 23 #[.string s] w fun e w' => e = .returned (.tuple #[.string ⟨#[]⟩, .bool false]) ∧ w = w' := by
  go_enter Tryd.func23, Tryd.ntmps23
  go_wp2_with fail
  go_ret2
  exact ⟨rfl, rfl⟩

set_option maxHeartbeats 4000000 in
set_option maxRecDepth 100000 in
theorem refunq_in (s : ByteArray) (w : World) (h : ¬ s.size < 2) (hs : s.size ≤ 1048576) (h0 : 0 < s.size) (h1 : s.size - 1 < s.size) (hb : (((s[0]'h0).toNat : Int) != 34) = false) (hl : (((s[s.size - 1]'h1).toNat : Int) != 34) = false)
    (o : Option (List UInt8)) (ho : Hid (o = scanU s.data.toList s.size 1 [])) :
    Calls Tryd.prog 23 #[.string s] w (UPost (unqEnd s.data.toList o) w) := by
  have hlz : s.data.toList.length = s.size := (size_eq s).symm
  have HLZ := Lib.hid hlz
  clear hlz
  go_enter Tryd.func23, Tryd.ntmps23
  go_wp2_with fail
  clear hb hl
  go_loopw [4, 5] (fun v vi wr => ∃ (i f : Nat) (acc : List UInt8), vi = .int .i64 i ∧ wr.ownsRow w.heap.size 5 1 v acc.length (bs acc) ∧ Below w.heap.size w wr ∧ i ≤ s.size ∧ s.size ≤ i + f ∧ acc.length ≤ 4 * i ∧ Hid (o = scanU s.data.toList f i acc)) (fun _ vi _ => s.size - (RowKit.intOf vi).toNat)
  case atStart => exact ⟨1, s.size, [], rfl, World.ownsRow_nil _ _ _ _, Below.refl _ _, by omega, by omega, by simp, ho⟩
  case round =>
    obtain ⟨i, f, acc, rfl, hown, hbw, his, hif, hal, hh⟩ := hrel
    have hsz := hbw.size
    by_cases hin : i + 1 < s.size
    · obtain ⟨g, rfl⟩ : ∃ g, f = g + 1 := ⟨f - 1, by omega⟩
      have hi : i < s.size := by omega
      have hn := hh.out
      rw [scanU, if_pos (by rw [HLZ.out]; exact hin), getD_at s i hi] at hn
      by_cases h92 : (s[i]'hi).toNat = 92
      · rw [if_neg (by rw [h92]; decide)] at hn
        have hb : (((s[i]'hi).toNat : Int) != 92) = false := by rw [h92]; rfl
        have sa : (s.extract (i + 1) s.size).size = s.size - (i + 1) := by rw [size_eq, extract_drop, List.length_drop, ← size_eq]
        have ce := fun W => escape_any (s.extract (i + 1) s.size) W (by omega)
        rw [extract_drop] at ce
        have hle := escR_le (s.data.toList.drop (i + 1))
        rw [List.length_drop, HLZ.out] at hle
        cases hE : escR (s.data.toList.drop (i + 1)) with
        | none =>
          rw [hE] at hn ce
          simp only at hn
          subst hn
          have CE := Lib.hid ce
          clear hh ce hE sa hle h92
          go_wp2_with fail
          refine (CE.out _).mono ?_
          rintro e w2 ⟨b2, v2, n2, rfl⟩
          go_wp2_with fail
          go_ret2
          exact ⟨hbw.trans (b2.mono hsz), rfl⟩
        | some bn =>
          obtain ⟨b, n⟩ := bn
          rw [hE] at hn ce
          simp only at hn
          obtain ⟨hn1, hb4⟩ := hle b n hE
          have CE := Lib.hid ce
          have HN := Lib.hid hn
          clear hh ce hE sa hle h92 hn
          go_wp2_with fail
          refine (CE.out _).mono ?_
          rintro e w2 ⟨b2, v2, rfl, by2⟩
          obtain ⟨blk, cap, rfl, y2⟩ := byt_of by2
          have own2 : w2.ownsRow w.heap.size 5 1 _ acc.length (bs acc) := World.ownsRow.kept (row := none) hown ⟨b2.os, b2.tape, b2.output, b2.size, fun i hi _ => b2.block i hi⟩ (Classical.em _)
          have bw2 := hbw.trans (b2.mono hsz)
          have hz2 := bw2.size
          have Y2 := Lib.hid y2
          clear y2 by2
          go_wp2_with (at_builtin; refine wpl_app (t := 44) (e := 5) rfl (.tmp 53) (.tmp 54) rfl Tryd.underlying44 info5 w.heap.size _ acc b rfl own2 (some ⟨blk, 0, none⟩) cap rfl Y2.out (fun h => by cases h) (by omega) hz2 ?_; intro v3 w3 own3 grow3)
          have b3 : Below w.heap.size w w3 := bw2.grown grow3 hz2 (fun k hk => (own2.lt k hk).1)
          have hlen3 : (acc ++ b).length ≤ 4 * (i + 1 + n) := by rw [List.length_append]; omega
          go_wp2_with fail
          go_roundw
          case rel => exact ⟨i + 1 + n, g, acc ++ b, by go_num, own3, b3, by omega, by omega, hlen3, HN⟩
          case measure => simp [RowKit.intOf]; omega
      · rw [if_pos h92] at hn
        have hb : (((s[i]'hi).toNat : Int) != 92) = true := by rw [bne_iff_ne]; omega
        have HN := Lib.hid hn
        have hb1 := byt_one wr (s[i]'hi)
        have HB1 := Lib.hid hb1
        clear hh hn h92 hb1
        go_wp2_with (at_builtin; refine wpl_app (t := 44) (e := 5) rfl (.tmp 34) (.tmp 38) rfl Tryd.underlying44 info5 w.heap.size _ acc [s[i]'hi] rfl (World.ownsRow.alloc hown _) (some ⟨wr.heap.size, 0, none⟩) 1 rfl HB1.out (fun h => by cases h) (by simp; omega) (by simp; omega) ?_; intro v3 w3 own3 grow3)
        have b3 : Below w.heap.size w w3 := (hbw.alloc hsz _).grown grow3 (by simp; omega) (fun k hk => (hown.lt k hk).1)
        have hlen3 : (acc ++ [s[i]'hi]).length ≤ 4 * (i + 1) := by simp; omega
        go_wp2_with fail
        go_roundw
        case rel => exact ⟨i + 1, g, acc ++ [s[i]'hi], by go_num, own3, b3, by omega, by omega, hlen3, HN⟩
        case measure => simp [RowKit.intOf]; omega
    · have hO : o = some acc := by
        have hn := hh.out
        cases f with
        | zero => exact hn
        | succ g => rw [scanU, if_neg (by rw [HLZ.out]; exact hin)] at hn; exact hn
      subst hO
      have hst : s.toList = s.data.toList := toList_data s
      obtain ⟨ao, c, rfl, _, _, y1, n1⟩ := own_byt hown
      have k1 := conv_byt (P := Tryd.prog) Tryd.underlying44 Tryd.underlying5 Tryd.underlying9 ao acc c y1 n1
      have has : (⟨acc.toArray⟩ : ByteArray).size ≤ 16777218 := by rw [size_list]; omega
      have cq := quote_ref ⟨acc.toArray⟩ wr has
      have k2 := fun W (h : Below wr.heap.size wr W) => conv_byt (P := Tryd.prog) (w := W) Tryd.underlying44 Tryd.underlying5 Tryd.underlying9 ao acc c (y1.below h) n1
      have CQ := Lib.hid cq
      have K2 := Lib.hid k2
      clear hh hown y1 n1 has cq k2
      by_cases hq : quoteL acc = s.data.toList
      · have hU : Hid (unqEnd s.data.toList (some acc) = some acc) := by show unqEnd _ _ = _; rw [unqEnd, if_pos hq]
        have heq : (quoteL acc == s.toList) = true := by rw [hst, hq]; simp
        clear hq hst
        go_wp2_with fail
        refine CQ.out.mono ?_
        rintro e w2 ⟨rfl, b2⟩
        have k3 := K2.out _ b2
        go_wp2_with fail
        go_ret2
        rw [hU.out]
        exact ⟨hbw.trans (b2.mono hsz), rfl⟩
      · have hU : Hid (unqEnd s.data.toList (some acc) = none) := by show unqEnd _ _ = _; rw [unqEnd, if_neg hq]
        have heq : (quoteL acc == s.toList) = false := by rw [hst]; simpa using hq
        clear hq hst
        go_wp2_with fail
        refine CQ.out.mono ?_
        rintro e w2 ⟨rfl, b2⟩
        go_wp2_with fail
        go_ret2
        rw [hU.out]
        exact ⟨hbw.trans (b2.mono hsz), rfl⟩

theorem refU_end (l : List UInt8) : refU l = if l.length < 2 ∨ l.getD 0 0 ≠ 34 ∨ l.getD (l.length - 1) 0 ≠ 34 then none else unqEnd l (scanU l l.length 1 []) := by
  unfold refU
  split
  · rfl
  · cases scanU l l.length 1 [] <;> rfl
/-- THE DOCUMENT's UNQUOTE: the answer of the program's -/
theorem refunq_any (s : ByteArray) (w : World) (hs : s.size ≤ 1048576) :
    Calls Tryd.prog 23 #[.string s] w (UPost (unqL s.data.toList) w) := by
  have hl : s.data.toList.length = s.size := (size_eq s).symm
  rw [← refU_eq, refU_end, hl]
  by_cases h2 : s.size < 2
  · rw [if_pos (Or.inl h2)]
    exact (refunq_short s w h2).mono fun e w' ⟨he, hw⟩ => by subst hw; exact ⟨Below.refl _ _, he⟩
  have h0 : 0 < s.size := by omega
  have h1 : s.size - 1 < s.size := by omega
  rw [getD_at s 0 h0, getD_at s (s.size - 1) h1]
  have k0 := byte_ne (s[0]'h0) 34 (by omega)
  have k1 := byte_ne (s[s.size - 1]'h1) 34 (by omega)
  by_cases hb : s[0]'h0 ≠ 34
  · rw [if_pos (Or.inr (Or.inl hb))]
    exact (refunq_first s w h2 h0 (k0.1 hb)).mono fun e w' ⟨he, hw⟩ => by subst hw; exact ⟨Below.refl _ _, he⟩
  have hb' : (((s[0]'h0).toNat : Int) != 34) = false := by
    cases h : (((s[0]'h0).toNat : Int) != 34) with
    | false => rfl
    | true => exact absurd (k0.2 h) hb
  by_cases he : s[s.size - 1]'h1 ≠ 34
  · rw [if_pos (Or.inr (Or.inr he))]
    exact (refunq_last s w h2 (by omega) h0 h1 hb' (k1.1 he)).mono fun e w' ⟨he, hw⟩ => by subst hw; exact ⟨Below.refl _ _, he⟩
  have he' : (((s[s.size - 1]'h1).toNat : Int) != 34) = false := by
    cases h : (((s[s.size - 1]'h1).toNat : Int) != 34) with
    | false => rfl
    | true => exact absurd (k1.2 h) he
  rw [if_neg (fun h => h.elim h2 (fun h => h.elim hb he))]
  exact refunq_in s w h2 hs h0 h1 hb' he' _ (Lib.hid rfl)
end Go.Proofs.YtplgiagjgmlbcaaDoor.Nm
