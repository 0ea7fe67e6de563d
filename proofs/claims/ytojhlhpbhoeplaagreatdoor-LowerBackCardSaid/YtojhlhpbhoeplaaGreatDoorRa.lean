/-
  The contracts of the document's own leb: Put, Bytes, Get, Take. Conditions: a number is one of 64 bits; bytes are at most 2^47 - 10.
-/
import Derived.Test.YtojhlhpbhoeplaaGreatDoorKc
import Derived.Test.YtojhlhpbhoeplaaGreatDoorPo
namespace Go.Proofs.YtojhlhpbhoeplaaGreatDoor.Sh
open Go.RowKit Go.Lib Lb

theorem byt_new (w : World) (n : Int) (c : UInt8) (h : n = c.toNat) : Byt (w.alloc (.cells #[.int .u8 n] 5)) (some ⟨w.heap.size, 0, none⟩) [c] := fun _ => by
  refine ⟨w.heap.size, 0, rfl, by simp, fun j hj => ?_⟩
  obtain rfl : j = 0 := by simpa using hj
  rw [World.cell?_alloc_new]
  simp [h]
set_option maxHeartbeats 1000000 in
set_option maxRecDepth 100000 in
theorem refput_any (x : Nat) (h : x < 18446744073709551616) (w : World) :
    Calls Tryz.prog 44 #[.int .u64 x] w fun e w' => Below w.heap.size w w' ∧ ∃ v, e = .returned v ∧ Own w' w.heap.size v (putL x) := by
  obtain ⟨z, hz⟩ : ∃ z, z = putL x := ⟨_, rfl⟩
  rw [← hz]
  have HZ := Lib.hid hz
  have hx10 : x < 128 ^ (9 + 1) := Nat.lt_of_lt_of_le h two64
  clear hz
  go_enter Tryz.func44, Tryz.ntmps44
  go_wp2_with fail
  go_loopw [0, 3] (fun vx v wr => ∃ (y f : Nat) (acc : List UInt8), vx = .int .u64 y ∧ Own wr w.heap.size v acc ∧ Below w.heap.size w wr ∧ y < 18446744073709551616 ∧ acc.length + f ≤ 9 ∧ Hid (y < 128 ^ (f + 1) ∧ z = acc ++ putF f y)) (fun vx _ _ => (RowKit.intOf vx).toNat)
  case atStart => exact ⟨x, 9, [], rfl, World.ownsRow_nil _ _ _ _, Below.refl _ _, h, by simp, by show _ ∧ _; exact ⟨hx10, by rw [HZ.out]; rfl⟩⟩
  case round =>
    obtain ⟨y, f, acc, rfl, hown, hb, hy, hf, hh⟩ := hrel
    have hbz := hb.size
    obtain ⟨h1, h2⟩ := hh.out
    by_cases hyb : 128 ≤ y
    · obtain ⟨g, rfl⟩ : ∃ g, f = g + 1 := by
        cases f with
        | zero => simp at h1; omega
        | succ g => exact ⟨g, rfl⟩
      rw [putF, if_neg (by omega)] at h2
      have HN : Hid (y / 128 < 128 ^ (g + 1) ∧ z = (acc ++ [(y % 128 + 128).toUInt8]) ++ putF g (y / 128)) := by
        show _ ∧ _
        exact ⟨by rw [Nat.div_lt_iff_lt_mul (by decide), ← Nat.pow_succ]; exact h1, by rw [h2]; simp⟩
      have hn := byt_new wr ((y : Int) % 128 + 128) (y % 128 + 128).toUInt8 (by rw [u8_nat _ (by omega)]; omega)
      clear h1 h2 hh
      go_wp2_with (at_builtin; refine wpl_app (t := 22) (e := 5) rfl (.tmp 6) (.tmp 11) rfl Tryz.underlying22 info5 w.heap.size _ acc [(y % 128 + 128).toUInt8] rfl (World.ownsRow.alloc hown _) (some ⟨wr.heap.size, 0, none⟩) 1 rfl hn (fun h => by cases h) (by simp; omega) (by simp; omega) ?_; intro v' w' hown' hgrow)
      have hb' : Below w.heap.size w w' := (hb.alloc hbz _).grown hgrow (by simp; omega) (fun k hk => (hown.lt k hk).1)
      go_wp2_with fail
      go_roundw
      case rel => exact ⟨y / 128, g, _, by go_num, hown', hb', by omega, by simp; omega, HN⟩
      case measure => simp [RowKit.intOf]; omega
    · have hzz : z = acc ++ [y.toUInt8] := by
        rw [h2]
        cases f with
        | zero => rfl
        | succ g => rw [putF, if_pos (by omega)]
      have HZZ := Lib.hid hzz
      have hn := byt_new wr (y : Int) y.toUInt8 (by rw [u8_nat _ (by omega)])
      clear h1 h2 hh hzz
      go_wp2_with (at_builtin; refine wpl_app (t := 22) (e := 5) rfl (.tmp 15) (.tmp 18) rfl Tryz.underlying22 info5 w.heap.size _ acc [y.toUInt8] rfl (World.ownsRow.alloc hown _) (some ⟨wr.heap.size, 0, none⟩) 1 rfl hn (fun h => by cases h) (by simp; omega) (by simp; omega) ?_; intro v' w' hown' hgrow)
      have hb' : Below w.heap.size w w' := (hb.alloc hbz _).grown hgrow (by simp; omega) (fun k hk => (hown.lt k hk).1)
      go_wp2_with fail
      go_ret
      exact ⟨hb', _, rfl, by rw [HZZ.out]; exact hown'⟩

/-- bytes with their length, by the document's own Bytes -/
theorem refbytes2_any (ao : Option Addr) (l : List UInt8) (n c : Nat) (w : World) (h : Byt w ao l) (hn : ao = none → c = 0) (hln : l.length = n) (hl : n ≤ 140737488355318) :
    Calls Tryz.prog 45 #[.slice ao n c] w fun e w' => Below w.heap.size w w' ∧ ∃ v, e = .returned v ∧ Own w' w.heap.size v (dataL l) := by
  subst hln
  have cp := refput_any l.length (by omega) w
  have hp := putL_len l.length
  obtain ⟨p, hpp⟩ : ∃ p, p = putL l.length := ⟨_, rfl⟩
  unfold dataL
  rw [← hpp] at cp hp ⊢
  have CP := Lib.hid cp
  clear cp hpp
  go_enter Tryz.func45, Tryz.ntmps45
  go_wp2_with fail
  refine CP.out.mono ?_
  rintro e w1 ⟨hb1, v1, rfl, hown⟩
  have hr := h.below hb1
  go_wp2_with (at_builtin; refine wpl_app (t := 22) (e := 5) rfl (.tmp 6) (.tmp 7) rfl Tryz.underlying22 info5 w.heap.size _ p l rfl hown ao c rfl hr hn (by omega) hb1.size ?_; intro v' w' hown' hgrow)
  have hb' : Below w.heap.size w w' := hb1.grown hgrow hb1.size (fun k hk => (hown.lt k hk).1)
  go_wp2_with fail
  go_ret
  exact ⟨hb', _, rfl, hown'⟩
/-- bytes that go on: 128 and more -/
def Lead (l : List UInt8) (n : Nat) : Prop := ∀ j, j < n → 128 ≤ (l.getD j 0).toNat
theorem firstI_lead (l : List UInt8) (n : Nat) (h : Lead l n) (i : Nat) (hi : firstI l = some i) : n ≤ i := by
  obtain ⟨h1, h2, h3⟩ := firstI_some l i hi
  rcases Nat.lt_or_ge i n with h4 | h4
  · have := h i h4
    omega
  · exact h4
theorem firstI_at (l : List UInt8) (n : Nat) (h : Lead l n) (hn : n < l.length) (hc : (l.getD n 0).toNat < 128) : firstI l = some n := by
  cases hf : firstI l with
  | none =>
    have := firstI_none l hf n hn
    omega
  | some i =>
    have h1 := firstI_lead l n h i hf
    obtain ⟨_, h3, _⟩ := firstI_some l i hf
    rcases Nat.lt_or_ge n i with h4 | h4
    · have := h3 n h4
      omega
    · rw [show i = n by omega]
/-- ten that go on are no number -/
theorem getL_ten (l : List UInt8) (h : Lead l 10) : (getL l).2.2 ≠ 0 := by
  unfold getL
  cases hf : firstI l with
  | none => simp
  | some i =>
    have h1 := firstI_lead l 10 h i hf
    obtain ⟨h2, _, _⟩ := firstI_some l i hf
    have hb : badB (l.take (i + 1)) = true := by
      unfold badB
      rw [List.length_take, Nat.min_eq_left (by omega), decide_eq_true (show 10 < i + 1 by omega)]
      rfl
    simp only [hb, if_true]
    decide
theorem getL_all (l : List UInt8) (h : Lead l l.length) : (getL l).2.2 ≠ 0 := by
  unfold getL
  cases hf : firstI l with
  | none => simp
  | some i =>
    have h1 := firstI_lead l l.length h i hf
    obtain ⟨h2, _, _⟩ := firstI_some l i hf
    omega
theorem bad_at (l : List UInt8) (n : Nat) (hn : n < l.length) (h10 : n < 10) : badB (l.take (n + 1)) = ((decide (0 < n) && decide ((l.getD n 0).toNat = 0)) || (decide (n = 9) && decide (1 < (l.getD n 0).toNat))) := by
  unfold badB
  have hlen : (l.take (n + 1)).length = n + 1 := by rw [List.length_take]; omega
  rw [hlen, Nat.add_sub_cancel, take_getD _ _ _ (by omega)]
  have e1 : decide (10 < n + 1) = false := by simp; omega
  have e2 : decide (n + 1 = 10) = decide (n = 9) := by congr 1; simp
  have e3 : decide (1 < n + 1) = decide (0 < n) := by congr 1; simp
  rw [e1, e2, e3, Bool.false_or, Bool.or_comm]
theorem getL_good (l : List UInt8) (n : Nat) (h : Lead l n) (hn : n < l.length) (hc : (l.getD n 0).toNat < 128) (hb : badB (l.take (n + 1)) = false) : getL l = (valL (l.take (n + 1)), n + 1, 0) := by
  unfold getL
  rw [firstI_at l n h hn hc]
  simp only [hb]
  rfl
theorem getL_bad (l : List UInt8) (n : Nat) (h : Lead l n) (hn : n < l.length) (hc : (l.getD n 0).toNat < 128) (hb : badB (l.take (n + 1)) = true) : (getL l).2.2 ≠ 0 := by
  unfold getL
  rw [firstI_at l n h hn hc]
  simp only [hb, if_true]
  decide
theorem valL_drop (l : List UInt8) (i : Nat) (hi : i < l.length) : valL (l.drop i) = (l.getD i 0).toNat % 128 + 128 * valL (l.drop (i + 1)) := by
  rw [List.drop_eq_getElem_cons hi, valL]
  simp [List.getD_eq_getElem?_getD, List.getElem?_eq_getElem hi]
theorem valL_drop_le (l : List UInt8) (i : Nat) : valL (l.drop i) ≤ valL l := by
  induction i generalizing l with
  | zero => exact Nat.le_refl _
  | succ i ih =>
    cases l with
    | nil => simp
    | cons c r =>
      rw [List.drop_succ_cons, valL]
      have := ih r
      omega
/-- what Get answers: of a number it and how many bytes; else noughts and an error -/
def AnsG (l : List UInt8) (e : Ending) : Prop := ∃ ec : Int, e = .returned (.tuple #[.int .u64 ((getL l).1 : Int), .int .i64 ((getL l).2.1 : Int), .int .i64 ec]) ∧ (ec = 0 ↔ (getL l).2.2 = 0)
theorem ansG_err (l : List UInt8) (ec : Int) (h : (getL l).2.2 ≠ 0) (he : ec ≠ 0) : AnsG l (.returned (.tuple #[.int .u64 0, .int .i64 0, .int .i64 ec])) := by
  obtain ⟨h1, h2⟩ := getL_err l h
  exact ⟨ec, by rw [h1, h2]; rfl, fun h0 => absurd h0 he, fun h0 => absurd h0 h⟩
theorem u64_mix (V y : Nat) : Value.int .u64 ((V : Int) * 128 + (y : Int) % 128) = .int .u64 ((y % 128 + 128 * V : Nat) : Int) := by congr 1; omega
theorem byt_getD {w : World} {b o : Nat} {l : List UInt8} (h : Byt w (some ⟨b, o, none⟩) l) (i : Nat) (hi : i < l.length) : w.cell? ⟨b, o + i, none⟩ = some (.int .u8 ((l.getD i 0).toNat : Int)) := by
  obtain ⟨b', o', h1, h2, h3⟩ := h (by intro h0; rw [h0] at hi; simp at hi)
  injection h1 with h1
  injection h1 with h1 h4
  subst h1
  subst h4
  rw [h3 i hi]
  simp [List.getD_eq_getElem?_getD, List.getElem?_eq_getElem hi]
set_option maxHeartbeats 4000000 in
set_option maxRecDepth 100000 in
theorem refget_any (ao : Option Addr) (l : List UInt8) (m c : Nat) (w : World) (h : Byt w ao l) (hlm : l.length = m) (hc : m ≤ c) (hcc : c ≤ 9223372036854775807) :
    Calls Tryz.prog 48 #[.slice ao m c] w fun e w' => AnsG l e ∧ w = w' := by
  have H := Lib.hid h
  have HL := Lib.hid hlm
  clear h hlm
  go_enter Tryz.func48, Tryz.ntmps48
  go_wp2_with fail
  go_loopw [5] (fun vi wr => ∃ i : Nat, i ≤ 10 ∧ i ≤ m ∧ vi = .int .i64 i ∧ wr = w ∧ Hid (Lead l i)) (fun vi _ => 10 - (RowKit.intOf vi).toNat)
  case atStart => exact ⟨0, by omega, by omega, rfl, rfl, fun j hj => absurd hj (Nat.not_lt_zero _)⟩
  case round =>
    obtain ⟨i, hi, him, rfl, rfl, hL⟩ := hrel
    by_cases h1 : i < m
    · obtain ⟨b, o, rfl⟩ : ∃ b o, ao = some ⟨b, o, none⟩ := by
        obtain ⟨b, o, h1, _⟩ := H.out (by intro h0; have := HL.out; rw [h0] at this; simp at this; omega)
        exact ⟨b, o, h1⟩
      have d1 := byt_getD H.out i (by have := HL.out; omega)
      obtain ⟨x, hx⟩ : ∃ x, x = (l.getD i 0).toNat := ⟨_, rfl⟩
      rw [← hx] at d1
      have HX := Lib.hid hx
      have x256 : x < 256 := by rw [hx]; exact (l.getD i 0).toNat_lt
      clear hx
      have q1 : (0 : Int) ≤ (i : Int) := by omega
      have q2 : (i : Int) < (m : Int) := by omega
      by_cases h2 : i < 10
      · by_cases h3 : 128 ≤ x
        · have t1 : decide ((128 : Int) ≤ (x : Int)) = true := by simp; omega
          have t2 : decide ((i : Int) < 10) = true := by simp; omega
          go_wp2_with fail
          go_roundw
          case rel =>
            refine ⟨i + 1, by omega, by omega, by go_num, trivial, fun j hj => ?_⟩
            rcases Nat.lt_or_ge j i with h4 | h4
            · exact hL.out j h4
            · obtain rfl : j = i := by omega
              rw [← HX.out]
              exact h3
          case measure => simp [RowKit.intOf]; omega
        · have t1 : decide ((128 : Int) ≤ (x : Int)) = false := by simp; omega
          have t2 : decide ((i : Int) < 10) = true := by simp; omega
          have t3 : ((i : Int) == 10) = false := by simp; omega
          have t4 : ((i : Int) == (m : Int)) = false := by simp; omega
          have hbad := bad_at l i (by have := HL.out; omega) h2
          rw [← HX.out] at hbad
          have hlt : (l.getD i 0).toNat < 128 := by rw [← HX.out]; omega
          have HBAD := Lib.hid hbad
          have HLT := Lib.hid hlt
          clear hbad hlt
          by_cases c0 : i = 0
          · have hb : badB (l.take (i + 1)) = false := by rw [HBAD.out]; simp; omega
            have hg := getL_good l i hL.out (by have := HL.out; omega) HLT.out hb
            have hval := (getL_again l _ _ hg).2.2.1
            have HV := Lib.hid hval
            have HG := Lib.hid hg
            have t5 : decide (0 < i) = false := by simp; omega
            have t7 : ((i : Int) == 9) = false := by simp; omega
            clear hb hg hval
            repeat (first | clear c0 | clear c1 | clear c2 | clear c3)
            go_wp2_with fail
            go_loopw [6, 7] (fun vx vi w2 => ∃ t : Nat, t ≤ i + 1 ∧ vi = .int .i64 ((t : Int) - 1) ∧ vx = .int .u64 (valL ((l.take (i + 1)).drop t) : Int) ∧ w2 = wr) (fun _ vi _ => ((RowKit.intOf vi) + 1).toNat)
            case atStart =>
              refine ⟨i + 1, Nat.le_refl _, by congr 1; omega, ?_, rfl⟩
              rw [List.drop_of_length_le (by rw [List.length_take]; omega)]
              rfl
            case round =>
              obtain ⟨t, ht, rfl, rfl, rfl⟩ := hrel
              by_cases h9 : 0 < t
              · obtain ⟨k, rfl⟩ : ∃ k, t = k + 1 := ⟨t - 1, by omega⟩
                have d2 := byt_getD H.out k (by have := HL.out; omega)
                have hstep := valL_drop (l.take (i + 1)) k (by rw [List.length_take]; have := HL.out; omega)
                rw [take_getD _ _ _ (by omega)] at hstep
                have hle := valL_drop_le (l.take (i + 1)) k
                have hvv := HV.out
                obtain ⟨y, hy⟩ : ∃ y, y = (l.getD k 0).toNat := ⟨_, rfl⟩
                have y256 : y < 256 := by rw [hy]; exact (l.getD k 0).toNat_lt
                rw [← hy] at d2 hstep
                have HS := Lib.hid hstep
                generalize hV : valL ((l.take (i + 1)).drop (k + 1)) = V at *
                have e1 : (((k + 1 : Nat) : Int) - 1) = (k : Int) := by omega
                rw [e1]
                have q3 : (0 : Int) ≤ (k : Int) := by omega
                have q4 : (k : Int) < (m : Int) := by omega
                have z1 : IntKind.u64.wrap ((V : Int) * 128) = (V : Int) * 128 := by rw [IntKind.wrap]; simp [IntKind.bits, IntKind.signed]; omega
                have z2 : IntKind.u64.wrap ((V : Int) * 128 + (y : Int) % 128) = (V : Int) * 128 + (y : Int) % 128 := by rw [IntKind.wrap]; simp [IntKind.bits, IntKind.signed]; omega
                have z3 : IntKind.u64.wrap ((y : Int) % 128) = (y : Int) % 128 := by rw [IntKind.wrap]; simp [IntKind.bits, IntKind.signed]; omega
                clear hy hstep hle hvv e1
                go_wp2_with fail
                go_roundw
                case rel => exact ⟨k, by omega, rfl, by rw [HS.out]; exact u64_mix V y, trivial⟩
                case measure => simp [RowKit.intOf]
              · obtain rfl : t = 0 := by omega
                have e0 : (((0 : Nat) : Int) - 1) = -1 := rfl
                rw [e0, List.drop_zero]
                obtain ⟨V, hV⟩ : ∃ V, V = valL (l.take (i + 1)) := ⟨_, rfl⟩
                rw [← hV]
                have HVV := Lib.hid hV
                have z4 : IntKind.i64.wrap ((i : Int) + 1) = (i : Int) + 1 := IntWalk.i64_in _ (by omega)
                clear hV
                go_wp2_with fail
                go_ret3
                exact ⟨⟨0, by rw [HG.out, ← HVV.out]; rfl, fun _ => by rw [HG.out], fun _ => rfl⟩, rfl⟩
          by_cases c1 : x = 0
          · have hb : badB (l.take (i + 1)) = true := by rw [HBAD.out]; simp; omega
            have hans := Lib.hid (ansG_err l 21 (getL_bad l i hL.out (by have := HL.out; omega) HLT.out hb) (by decide))
            have t5 : decide (0 < i) = true := by simp; omega
            have t6 : ((x : Int) == 0) = true := by simp; omega
            clear hb HBAD
            repeat (first | clear c0 | clear c1 | clear c2 | clear c3)
            go_wp2_with fail
            go_ret3
            exact ⟨hans.out, rfl⟩
          by_cases c2 : i = 9
          · by_cases c3 : 1 < x
            · have hb : badB (l.take (i + 1)) = true := by rw [HBAD.out]; simp; omega
              have hans := Lib.hid (ansG_err l 21 (getL_bad l i hL.out (by have := HL.out; omega) HLT.out hb) (by decide))
              have t5 : decide (0 < i) = true := by simp; omega
              have t6 : ((x : Int) == 0) = false := by simp; omega
              have t7 : ((i : Int) == 9) = true := by simp; omega
              have t8 : decide ((1 : Int) < (x : Int)) = true := by simp; omega
              clear hb HBAD
              repeat (first | clear c0 | clear c1 | clear c2 | clear c3)
              go_wp2_with fail
              go_ret3
              exact ⟨hans.out, rfl⟩
            · have hb : badB (l.take (i + 1)) = false := by rw [HBAD.out]; simp; omega
              have hg := getL_good l i hL.out (by have := HL.out; omega) HLT.out hb
              have hval := (getL_again l _ _ hg).2.2.1
              have HV := Lib.hid hval
              have HG := Lib.hid hg
              have t5 : decide (0 < i) = true := by simp; omega
              have t6 : ((x : Int) == 0) = false := by simp; omega
              have t7 : ((i : Int) == 9) = true := by simp; omega
              have t8 : decide ((1 : Int) < (x : Int)) = false := by simp; omega
              clear hb hg hval
              repeat (first | clear c0 | clear c1 | clear c2 | clear c3)
              go_wp2_with fail
              go_loopw [6, 7] (fun vx vi w2 => ∃ t : Nat, t ≤ i + 1 ∧ vi = .int .i64 ((t : Int) - 1) ∧ vx = .int .u64 (valL ((l.take (i + 1)).drop t) : Int) ∧ w2 = wr) (fun _ vi _ => ((RowKit.intOf vi) + 1).toNat)
              case atStart =>
                refine ⟨i + 1, Nat.le_refl _, by congr 1; omega, ?_, rfl⟩
                rw [List.drop_of_length_le (by rw [List.length_take]; omega)]
                rfl
              case round =>
                obtain ⟨t, ht, rfl, rfl, rfl⟩ := hrel
                by_cases h9 : 0 < t
                · obtain ⟨k, rfl⟩ : ∃ k, t = k + 1 := ⟨t - 1, by omega⟩
                  have d2 := byt_getD H.out k (by have := HL.out; omega)
                  have hstep := valL_drop (l.take (i + 1)) k (by rw [List.length_take]; have := HL.out; omega)
                  rw [take_getD _ _ _ (by omega)] at hstep
                  have hle := valL_drop_le (l.take (i + 1)) k
                  have hvv := HV.out
                  obtain ⟨y, hy⟩ : ∃ y, y = (l.getD k 0).toNat := ⟨_, rfl⟩
                  have y256 : y < 256 := by rw [hy]; exact (l.getD k 0).toNat_lt
                  rw [← hy] at d2 hstep
                  have HS := Lib.hid hstep
                  generalize hV : valL ((l.take (i + 1)).drop (k + 1)) = V at *
                  have e1 : (((k + 1 : Nat) : Int) - 1) = (k : Int) := by omega
                  rw [e1]
                  have q3 : (0 : Int) ≤ (k : Int) := by omega
                  have q4 : (k : Int) < (m : Int) := by omega
                  have z1 : IntKind.u64.wrap ((V : Int) * 128) = (V : Int) * 128 := by rw [IntKind.wrap]; simp [IntKind.bits, IntKind.signed]; omega
                  have z2 : IntKind.u64.wrap ((V : Int) * 128 + (y : Int) % 128) = (V : Int) * 128 + (y : Int) % 128 := by rw [IntKind.wrap]; simp [IntKind.bits, IntKind.signed]; omega
                  have z3 : IntKind.u64.wrap ((y : Int) % 128) = (y : Int) % 128 := by rw [IntKind.wrap]; simp [IntKind.bits, IntKind.signed]; omega
                  clear hy hstep hle hvv e1
                  go_wp2_with fail
                  go_roundw
                  case rel => exact ⟨k, by omega, rfl, by rw [HS.out]; exact u64_mix V y, trivial⟩
                  case measure => simp [RowKit.intOf]
                · obtain rfl : t = 0 := by omega
                  have e0 : (((0 : Nat) : Int) - 1) = -1 := rfl
                  rw [e0, List.drop_zero]
                  obtain ⟨V, hV⟩ : ∃ V, V = valL (l.take (i + 1)) := ⟨_, rfl⟩
                  rw [← hV]
                  have HVV := Lib.hid hV
                  have z4 : IntKind.i64.wrap ((i : Int) + 1) = (i : Int) + 1 := IntWalk.i64_in _ (by omega)
                  clear hV
                  go_wp2_with fail
                  go_ret3
                  exact ⟨⟨0, by rw [HG.out, ← HVV.out]; rfl, fun _ => by rw [HG.out], fun _ => rfl⟩, rfl⟩
          · have hb : badB (l.take (i + 1)) = false := by rw [HBAD.out]; simp; omega
            have hg := getL_good l i hL.out (by have := HL.out; omega) HLT.out hb
            have hval := (getL_again l _ _ hg).2.2.1
            have HV := Lib.hid hval
            have HG := Lib.hid hg
            have t5 : decide (0 < i) = true := by simp; omega
            have t6 : ((x : Int) == 0) = false := by simp; omega
            have t7 : ((i : Int) == 9) = false := by simp; omega
            clear hb hg hval
            repeat (first | clear c0 | clear c1 | clear c2 | clear c3)
            go_wp2_with fail
            go_loopw [6, 7] (fun vx vi w2 => ∃ t : Nat, t ≤ i + 1 ∧ vi = .int .i64 ((t : Int) - 1) ∧ vx = .int .u64 (valL ((l.take (i + 1)).drop t) : Int) ∧ w2 = wr) (fun _ vi _ => ((RowKit.intOf vi) + 1).toNat)
            case atStart =>
              refine ⟨i + 1, Nat.le_refl _, by congr 1; omega, ?_, rfl⟩
              rw [List.drop_of_length_le (by rw [List.length_take]; omega)]
              rfl
            case round =>
              obtain ⟨t, ht, rfl, rfl, rfl⟩ := hrel
              by_cases h9 : 0 < t
              · obtain ⟨k, rfl⟩ : ∃ k, t = k + 1 := ⟨t - 1, by omega⟩
                have d2 := byt_getD H.out k (by have := HL.out; omega)
                have hstep := valL_drop (l.take (i + 1)) k (by rw [List.length_take]; have := HL.out; omega)
                rw [take_getD _ _ _ (by omega)] at hstep
                have hle := valL_drop_le (l.take (i + 1)) k
                have hvv := HV.out
                obtain ⟨y, hy⟩ : ∃ y, y = (l.getD k 0).toNat := ⟨_, rfl⟩
                have y256 : y < 256 := by rw [hy]; exact (l.getD k 0).toNat_lt
                rw [← hy] at d2 hstep
                have HS := Lib.hid hstep
                generalize hV : valL ((l.take (i + 1)).drop (k + 1)) = V at *
                have e1 : (((k + 1 : Nat) : Int) - 1) = (k : Int) := by omega
                rw [e1]
                have q3 : (0 : Int) ≤ (k : Int) := by omega
                have q4 : (k : Int) < (m : Int) := by omega
                have z1 : IntKind.u64.wrap ((V : Int) * 128) = (V : Int) * 128 := by rw [IntKind.wrap]; simp [IntKind.bits, IntKind.signed]; omega
                have z2 : IntKind.u64.wrap ((V : Int) * 128 + (y : Int) % 128) = (V : Int) * 128 + (y : Int) % 128 := by rw [IntKind.wrap]; simp [IntKind.bits, IntKind.signed]; omega
                have z3 : IntKind.u64.wrap ((y : Int) % 128) = (y : Int) % 128 := by rw [IntKind.wrap]; simp [IntKind.bits, IntKind.signed]; omega
                clear hy hstep hle hvv e1
                go_wp2_with fail
                go_roundw
                case rel => exact ⟨k, by omega, rfl, by rw [HS.out]; exact u64_mix V y, trivial⟩
                case measure => simp [RowKit.intOf]
              · obtain rfl : t = 0 := by omega
                have e0 : (((0 : Nat) : Int) - 1) = -1 := rfl
                rw [e0, List.drop_zero]
                obtain ⟨V, hV⟩ : ∃ V, V = valL (l.take (i + 1)) := ⟨_, rfl⟩
                rw [← hV]
                have HVV := Lib.hid hV
                have z4 : IntKind.i64.wrap ((i : Int) + 1) = (i : Int) + 1 := IntWalk.i64_in _ (by omega)
                clear hV
                go_wp2_with fail
                go_ret3
                exact ⟨⟨0, by rw [HG.out, ← HVV.out]; rfl, fun _ => by rw [HG.out], fun _ => rfl⟩, rfl⟩
      · obtain rfl : i = 10 := by omega
        have t2 : decide ((10 : Int) < 10) = false := by simp
        have hans := Lib.hid (ansG_err l 21 (getL_ten l hL.out) (by decide))
        go_wp2_with fail
        go_ret3
        exact ⟨hans.out, rfl⟩
    · obtain rfl : i = m := by omega
      by_cases h2 : i = 10
      · have t3 : ((i : Int) == 10) = true := by simp; omega
        have hans := Lib.hid (ansG_err l 21 (getL_ten l (by have := hL.out; rwa [h2] at this)) (by decide))
        clear h2
        go_wp2_with fail
        go_ret3
        exact ⟨hans.out, rfl⟩
      · have t3 : ((i : Int) == 10) = false := by simp; omega
        have hans := Lib.hid (ansG_err l 20 (getL_all l (by rw [HL.out]; exact hL.out)) (by decide))
        clear h2
        go_wp2_with fail
        go_ret3
        exact ⟨hans.out, rfl⟩
end Go.Proofs.YtojhlhpbhoeplaaGreatDoor.Sh
