/-
  The walk of the statement CrcTells. Condition: bytes are at most 2^47 - 4096.
-/
import Derived.Test.YtjfnjpjkpkpohaaWf
import Derived.WalkLawsBesides
import Derived.Deep.AppendLies
namespace Go.Proofs.Ytjfnjpjkpkpohaa.Cr
open Go.RowKit Go.Lib

theorem bit_int (q i : Nat) : ((q : Int) / 2 ^ i).tmod 2 = ((q / 2 ^ i % 2 : Nat) : Int) := by
  have e : ((q : Int) / 2 ^ i) = ((q / 2 ^ i : Nat) : Int) := by rw [Int.natCast_ediv, Int.natCast_pow]; rfl
  rw [e, Int.tmod_eq_emod_of_nonneg (Int.natCast_nonneg _)]
  rfl
theorem bs_set (l : List UInt8) (j : Nat) (c : UInt8) : (bs l).set j (.int .u8 c.toNat) = bs (l.set j c) := by
  simp [bs, List.map_set]
/-- the byte that is turned -/
theorem turned (y : UInt8) (s : Nat) (h : s < 8) : bits BinOp.xor IntKind.u8 (y.toNat : Int) ((2 : Int) ^ s % 256) = ((y ^^^ (2 ^ s : Nat).toUInt8).toNat : Nat) := by
  have hp : 2 ^ s < 2 ^ 8 := Nat.pow_lt_pow_right (by decide) h
  have e : ((2 : Int) ^ s % 256) = ((2 ^ s : Nat) : Int) := by
    rw [show ((2 : Int) ^ s) = ((2 ^ s : Nat) : Int) by rw [Int.natCast_pow]; rfl]
    exact Int.emod_eq_of_lt (Int.natCast_nonneg _) (Int.ofNat_lt.2 hp)
  rw [e, u8_xor_nat _ _ y.toNat_lt (by omega), UInt8.toNat_xor, pow8 s h]
theorem flipN_on (f q i : Nat) (x : List UInt8) (hb : q / 2 ^ i % 2 = 1) (h : (f + i) / 8 < (flipN f q i x).length) :
    flipN f q (i + 1) x = (flipN f q i x).set ((f + i) / 8) ((flipN f q i x)[(f + i) / 8] ^^^ (2 ^ ((f + i) % 8) : Nat).toUInt8) := by
  rw [flipN, if_pos hb, flip, List.getD_eq_getElem?_getD, List.getElem?_eq_getElem h, Option.getD_some]
theorem flipN_off (f q i : Nat) (x : List UInt8) (hb : ¬ q / 2 ^ i % 2 = 1) : flipN f q (i + 1) x = flipN f q i x := by
  rw [flipN, if_neg hb]

set_option maxHeartbeats 8000000 in
set_option maxRecDepth 100000 in
theorem tells_in (ao : Option Addr) (l : List UInt8) (c f q : Nat) (w : World) (h : Byt w ao l) (hn : ao = none → c = 0) (hc : l.length ≤ c) (hc2 : c ≤ 9223372036854775807) (hl : l.length ≤ 140737488351232) (hf : f < 8 * (l.length + 4)) :
    Calls Try.prog 6 #[.slice ao l.length c, .int .i64 f, .int .u32 q] w fun e w' => e = .returned (.bool true) ∧ Below w.heap.size w w' := by
  have c13 := bytes_any ao l c w h hn hc hc2 (by omega)
  have hxl := bytesL_len l
  have hxr := right_bytes l
  have htl := fun m hm hN => tells l f q m hm hN
  obtain ⟨x, hx⟩ : ∃ x, x = bytesL l := ⟨_, rfl⟩
  rw [← hx] at c13 hxl hxr htl
  obtain ⟨n, hnn⟩ : ∃ n, n = l.length := ⟨_, rfl⟩
  rw [← hnn] at c13 hxl hl hf hc ⊢
  have HX := Lib.hid hxl
  have HT := Lib.hid htl
  have C13 := Lib.hid c13
  clear c13 htl hxl hx hnn h
  have hd0 : decide ((f : Int) < 0) = false := by simp
  have hd1 : decide (8 * ((n : Int) + 4) ≤ (f : Int)) = false := by simp; omega
  go_enter Try.func6, Try.ntmps6
  go_wp2_with fail
  refine C13.out.mono ?_
  rintro e w1 ⟨b1, v1, rfl, o1⟩
  obtain ⟨a1, d1, rfl, x1, x2, r1, n1⟩ := own_byt o1
  rw [HX.out] at x1
  have c15 := right_len (n + 4) a1 x d1 w1 r1 HX.out x1 x2
  rw [hxr] at c15
  rw [HX.out]
  have C15 := Lib.hid c15
  have R1 := Lib.hid r1
  have B1 := Lib.hid b1
  clear c15 r1 o1 b1 hxr
  go_wp2_with fail
  refine C15.out.mono ?_
  rintro e w2 ⟨rfl, b2⟩
  have own0 : Own (w2.alloc (.cells #[] 5)) w2.heap.size (.slice (some ⟨w2.heap.size, 0, none⟩) 0 0) [] := own_lit w2 [] w2.heap.size (Nat.le_refl _) (by simp)
  have ba := (Below.refl _ w2).alloc (Nat.le_refl _) (.cells #[] 5)
  have hr0 : Byt (w2.alloc (.cells #[] 5)) a1 x := (R1.out.below b2).below ba
  have k1 : ([] : List UInt8).length + (n + 4) ≤ 140737488355328 := by simp; omega
  have k2 : w2.heap.size ≤ (w2.alloc (.cells #[] 5)).heap.size := by simp
  have q2 := B1.out.trans (b2.mono B1.out.size)
  have BA := Lib.hid ba
  have B2 := Lib.hid b2
  have Q2 := Lib.hid q2
  clear ba b2 q2
  go_wp2_with (at_builtin; refine wpl_app_len (t := 22) (e := 5) rfl (.tmp 34) (.tmp 35) rfl Try.underlying22 info5 w2.heap.size _ [] x rfl own0 a1 (n + 4) d1 rfl hr0 n1 HX k1 k2 ?_; intro v3 w3 own3 grow3)
  have b3 : Below w2.heap.size w2 w3 := BA.out.grown grow3 k2 (fun k hk => (own0.lt k hk).1)
  rw [List.nil_append, HX.out] at own3
  obtain ⟨g, cap, rfl, hg1, hg2⟩ := World.ownsRow.form own3 (by omega)
  have OWN3 := Lib.hid own3
  have B3 := Lib.hid b3
  clear own3 b3 own0 hr0 k1 k2 grow3
  go_wp2_with fail
  go_loopw [9] (fun vi wr => ∃ (i : Nat), i ≤ 32 ∧ f + i ≤ 8 * (n + 4) ∧ vi = .int .i64 i ∧ wr.ownsRow w2.heap.size 5 1 (.slice (some ⟨g, 0, none⟩) (n + 4) cap) (n + 4) (bs (flipN f q i x)) ∧ Below w2.heap.size w2 wr) (fun vi _ => 32 - (RowKit.intOf vi).toNat)
  case atStart => exact ⟨0, by omega, by omega, rfl, OWN3.out, B3.out⟩
  case round =>
    obtain ⟨i, hi, hfi, rfl, hown, hb⟩ := hrel
    by_cases hi32 : i < 32
    · by_cases hfn : f + i < 8 * (n + 4)
      · by_cases hbit : q / 2 ^ i % 2 = 1
        · have hp2 : (((q : Int) / 2 ^ i).tmod 2 == 1) = true := by
            rw [bit_int, hbit]
            rfl
          have k8 : (f + i) / 8 < n + 4 := by omega
          have hyl : (flipN f q i x).length = n + 4 := by rw [flipN_len]; exact HX.out
          have hcell := hown.cellAt ((f + i) / 8) (by omega)
          have hfz := hown.frozenAt ((f + i) / 8)
          rw [bs_get _ _ (by omega)] at hcell
          obtain ⟨y, hy⟩ : ∃ y, y = (flipN f q i x)[(f + i) / 8]'(by omega) := ⟨_, rfl⟩
          rw [← hy] at hcell
          have hn1 := flipN_on f q i x hbit (by omega)
          rw [← hy] at hn1
          have hst := (hown.stored ((f + i) / 8) (.int .u8 (y ^^^ (2 ^ ((f + i) % 8) : Nat).toUInt8).toNat)).1
          rw [bs_set, ← hn1] at hst
          have htu := turned y ((f + i) % 8) (by omega)
          rw [← htu] at hst
          have HST := Lib.hid hst
          have HB := Lib.hid (hb.setCell (p := ⟨g, (f + i) / 8, none⟩) hg1 (.int .u8 (bits BinOp.xor IntKind.u8 (y.toNat : Int) ((2 : Int) ^ ((f + i) % 8) % 256))))
          clear hown hb hst htu hn1 hy hyl
          go_wp2_with fail
          go_roundw
          case rel => exact ⟨i + 1, by omega, by omega, by go_num, HST.out, HB.out⟩
          case measure => simp [RowKit.intOf]; omega
        · have hp2 : (((q : Int) / 2 ^ i).tmod 2 == 1) = false := by
            rw [bit_int, show q / 2 ^ i % 2 = 0 by omega]
            rfl
          have hn1 := flipN_off f q i x hbit
          rw [← hn1] at hown
          have HOWN := Lib.hid hown
          clear hown hn1
          go_wp2_with fail
          go_roundw
          case rel => exact ⟨i + 1, by omega, by omega, by go_num, HOWN.out, hb⟩
          case measure => simp [RowKit.intOf]; omega
      · have hfe : f + i = 8 * (n + 4) := by omega
        have hrr := HT.out i (by omega) (by have := HX.out; omega)
        have hyl : (flipN f q i x).length = n + 4 := by rw [flipN_len]; exact HX.out
        obtain ⟨y, hy⟩ : ∃ y, y = flipN f q i x := ⟨_, rfl⟩
        rw [← hy] at hrr hyl hown
        rw [← hyl] at hown
        obtain ⟨ya, yc, hyv, y1, y2, y3, y4⟩ := own_byt hown
        injection hyv with hy1 hy2 hy3
        subst hy1
        subst hy3
        have c15 := right_len (n + 4) (some ⟨g, 0, none⟩) y cap wr y3 hyl (by omega) y2
        rw [hrr] at c15
        have C15 := Lib.hid c15
        have R3 := Lib.hid y3
        have BR := Lib.hid hb
        have HYL := Lib.hid hyl
        clear hrr hy hyl hown y3 c15 hb hy2 
        go_wp2_with fail
        refine C15.out.mono ?_
        rintro e w5 ⟨rfl, b5⟩
        have q5 := BR.out.trans (b5.mono BR.out.size)
        have cs := same_any a1 (some ⟨g, 0, none⟩) x y d1 cap w5 (((R1.out.below B2.out).below q5)) (R3.out.below b5) n1 y4
        rw [HX.out, HYL.out] at cs
        have q6 := Q2.out.trans (q5.mono Q2.out.size)
        have C8 := Lib.hid (heads_any w5)
        have CS := Lib.hid cs
        have Q6 := Lib.hid q6
        clear cs q5 q6 b5
        generalize decide (x = y) = B at CS ⊢
        go_wp2_with fail
        refine CS.out.mono ?_
        rintro e w' ⟨rfl, rfl⟩
        go_wp2_with fail
        refine C8.out.mono ?_
        rintro e w7 ⟨rfl, b7⟩
        go_wp2_with fail
        go_ret
        exact ⟨rfl, Q6.out.trans (b7.mono Q6.out.size)⟩
    · obtain rfl : i = 32 := by omega
      have hrr := HT.out 32 (by omega) (by have := HX.out; omega)
      have hyl : (flipN f q 32 x).length = n + 4 := by rw [flipN_len]; exact HX.out
      obtain ⟨y, hy⟩ : ∃ y, y = flipN f q 32 x := ⟨_, rfl⟩
      rw [← hy] at hrr hyl hown
      rw [← hyl] at hown
      obtain ⟨ya, yc, hyv, y1, y2, y3, y4⟩ := own_byt hown
      injection hyv with hy1 hy2 hy3
      subst hy1
      subst hy3
      have c15 := right_len (n + 4) (some ⟨g, 0, none⟩) y cap wr y3 hyl (by omega) y2
      rw [hrr] at c15
      have C15 := Lib.hid c15
      have R3 := Lib.hid y3
      have BR := Lib.hid hb
      have HYL := Lib.hid hyl
      clear hrr hy hyl hown y3 c15 hb hy2 
      go_wp2_with fail
      refine C15.out.mono ?_
      rintro e w5 ⟨rfl, b5⟩
      have q5 := BR.out.trans (b5.mono BR.out.size)
      have cs := same_any a1 (some ⟨g, 0, none⟩) x y d1 cap w5 (((R1.out.below B2.out).below q5)) (R3.out.below b5) n1 y4
      rw [HX.out, HYL.out] at cs
      have q6 := Q2.out.trans (q5.mono Q2.out.size)
      have C8 := Lib.hid (heads_any w5)
      have CS := Lib.hid cs
      have Q6 := Lib.hid q6
      clear cs q5 q6 b5
      generalize decide (x = y) = B at CS ⊢
      go_wp2_with fail
      refine CS.out.mono ?_
      rintro e w' ⟨rfl, rfl⟩
      go_wp2_with fail
      refine C8.out.mono ?_
      rintro e w7 ⟨rfl, b7⟩
      go_wp2_with fail
      go_ret
      exact ⟨rfl, Q6.out.trans (b7.mono Q6.out.size)⟩
set_option maxHeartbeats 8000000 in
set_option maxRecDepth 100000 in
theorem tells_out (ao : Option Addr) (l : List UInt8) (c q : Nat) (f : Int) (w : World) (h : Byt w ao l) (hn : ao = none → c = 0) (hc : l.length ≤ c) (hc2 : c ≤ 9223372036854775807) (hl : l.length ≤ 140737488351232) (hf : f < 0 ∨ 8 * ((l.length : Int) + 4) ≤ f) :
    Calls Try.prog 6 #[.slice ao l.length c, .int .i64 f, .int .u32 q] w fun e w' => e = .returned (.bool true) ∧ Below w.heap.size w w' := by
  have c13 := bytes_any ao l c w h hn hc hc2 (by omega)
  have hxl := bytesL_len l
  have hxr := right_bytes l
  obtain ⟨x, hx⟩ : ∃ x, x = bytesL l := ⟨_, rfl⟩
  rw [← hx] at c13 hxl hxr
  obtain ⟨n, hnn⟩ : ∃ n, n = l.length := ⟨_, rfl⟩
  rw [← hnn] at c13 hxl hl hf hc ⊢
  have HX := Lib.hid hxl
  have C13 := Lib.hid c13
  clear c13 hxl hx hnn h
  have hd : (decide (f < 0) || decide (8 * ((n : Int) + 4) ≤ f)) = true := by simp; omega
  go_enter Try.func6, Try.ntmps6
  go_wp2_with fail
  refine C13.out.mono ?_
  rintro e w1 ⟨b1, v1, rfl, o1⟩
  obtain ⟨a1, d1, rfl, x1, x2, r1, n1⟩ := own_byt o1
  rw [HX.out] at x1
  have c15 := right_len (n + 4) a1 x d1 w1 r1 HX.out x1 x2
  rw [hxr] at c15
  rw [HX.out]
  have C15 := Lib.hid c15
  have R1 := Lib.hid r1
  have B1 := Lib.hid b1
  clear c15 r1 o1 b1 hxr
  by_cases h0 : f < 0
  · clear hf hd
    go_wp2_with fail
    refine C15.out.mono ?_
    rintro e w2 ⟨rfl, b2⟩
    have q2 := B1.out.trans (b2.mono B1.out.size)
    have C8 := Lib.hid (heads_any w2)
    go_wp2_with (go_at_call 8; refine C8.out.mono ?_; rintro e w7 ⟨rfl, b7⟩)
    go_ret
    exact ⟨rfl, q2.trans (b7.mono q2.size)⟩
  · have h1 : 8 * ((n : Int) + 4) ≤ f := by omega
    clear hf hd
    go_wp2_with fail
    refine C15.out.mono ?_
    rintro e w2 ⟨rfl, b2⟩
    have q2 := B1.out.trans (b2.mono B1.out.size)
    have C8 := Lib.hid (heads_any w2)
    go_wp2_with (go_at_call 8; refine C8.out.mono ?_; rintro e w7 ⟨rfl, b7⟩)
    go_ret
    exact ⟨rfl, q2.trans (b7.mono q2.size)⟩
theorem tells_law (ao : Option Addr) (l : List UInt8) (c q : Nat) (f : Int) (w : World) (h : Byt w ao l) (hn : ao = none → c = 0) (hc : l.length ≤ c) (hc2 : c ≤ 9223372036854775807) (hl : l.length ≤ 140737488351232) :
    Calls Try.prog 6 #[.slice ao l.length c, .int .i64 f, .int .u32 q] w fun e w' => e = .returned (.bool true) ∧ Below w.heap.size w w' := by
  by_cases hf : f < 0 ∨ 8 * ((l.length : Int) + 4) ≤ f
  · exact tells_out ao l c q f w h hn hc hc2 hl hf
  · obtain ⟨k, rfl⟩ : ∃ k : Nat, f = (k : Int) := ⟨f.toNat, by omega⟩
    exact tells_in ao l c k q w h hn hc hc2 hl (by omega)
end Go.Proofs.Ytjfnjpjkpkpohaa.Cr
