/-
  THE STATEMENT PackReads (P13.1): of every device of 64 to 70 sectors, whatever their bytes, and every place: a pack that is opened there has just the records that the document reads, at their places, with the room that is left, and each is read; elsewhere there is none; the bytes read behind the call as before.
  Conditions: none.
-/
import Derived.Test.YtekaboomhljdoaaGreatDoorGa
import Derived.Test.YtekaboomhljdoaaGreatDoorPkA
import Derived.Test.YtekaboomhljdoaaGreatDoorPkN
import Derived.Test.YtekaboomhljdoaaGreatDoorCards
import Derived.Test.YtekaboomhljdoaaGreatDoorWl
namespace Go.Proofs.YtekaboomhljdoaaGreatDoor.Sh.Vg
open Go.RowKit Go.Lib Lb
/-- bytes that go on: 128 and more -/
def Lead (l : List UInt8) (n : Nat) : Prop := ∀ j, j < n → 128 ≤ (l.getD j 0).toNat
theorem firstI_lead (l : List UInt8) (n : Nat) (h : Lead l n) (i : Nat) (hi : firstI l = some i) : n ≤ i := by
  obtain ⟨h1, h2, h3⟩ := firstI_some l i hi
  rcases Nat.lt_or_ge i n with h4 | h4
  · have := h i h4
    omega
  · exact h4
theorem firstI_at (l : List UInt8) (n : Nat) (h : Lead l n) (hn : n < l.length) (hc : (l.getD n 0).toNat < 128) : firstI l = some n := by
  cases hf : firstI l with
  | none =>
    have := firstI_none l hf n hn
    omega
  | some i =>
    have h1 := firstI_lead l n h i hf
    obtain ⟨_, h3, _⟩ := firstI_some l i hf
    rcases Nat.lt_or_ge n i with h4 | h4
    · have := h3 n h4
      omega
    · rw [show i = n by omega]
/-- ten that go on are no number -/
theorem getL_ten (l : List UInt8) (h : Lead l 10) : (getL l).2.2 ≠ 0 := by
  unfold getL
  cases hf : firstI l with
  | none => simp
  | some i =>
    have h1 := firstI_lead l 10 h i hf
    obtain ⟨h2, _, _⟩ := firstI_some l i hf
    have hb : badB (l.take (i + 1)) = true := by
      unfold badB
      rw [List.length_take, Nat.min_eq_left (by omega), decide_eq_true (show 10 < i + 1 by omega)]
      rfl
    simp only [hb, if_true]
    decide
theorem getL_all (l : List UInt8) (h : Lead l l.length) : (getL l).2.2 ≠ 0 := by
  unfold getL
  cases hf : firstI l with
  | none => simp
  | some i =>
    have h1 := firstI_lead l l.length h i hf
    obtain ⟨h2, _, _⟩ := firstI_some l i hf
    omega
theorem bad_at (l : List UInt8) (n : Nat) (hn : n < l.length) (h10 : n < 10) : badB (l.take (n + 1)) = ((decide (0 < n) && decide ((l.getD n 0).toNat = 0)) || (decide (n = 9) && decide (1 < (l.getD n 0).toNat))) := by
  unfold badB
  have hlen : (l.take (n + 1)).length = n + 1 := by rw [List.length_take]; omega
  rw [hlen, Nat.add_sub_cancel, take_getD _ _ _ (by omega)]
  have e1 : decide (10 < n + 1) = false := by simp; omega
  have e2 : decide (n + 1 = 10) = decide (n = 9) := by congr 1; simp
  have e3 : decide (1 < n + 1) = decide (0 < n) := by congr 1; simp
  rw [e1, e2, e3, Bool.false_or, Bool.or_comm]
theorem getL_good (l : List UInt8) (n : Nat) (h : Lead l n) (hn : n < l.length) (hc : (l.getD n 0).toNat < 128) (hb : badB (l.take (n + 1)) = false) : getL l = (valL (l.take (n + 1)), n + 1, 0) := by
  unfold getL
  rw [firstI_at l n h hn hc]
  simp only [hb]
  rfl
theorem getL_bad (l : List UInt8) (n : Nat) (h : Lead l n) (hn : n < l.length) (hc : (l.getD n 0).toNat < 128) (hb : badB (l.take (n + 1)) = true) : (getL l).2.2 ≠ 0 := by
  unfold getL
  rw [firstI_at l n h hn hc]
  simp only [hb, if_true]
  decide
theorem valL_drop (l : List UInt8) (i : Nat) (hi : i < l.length) : valL (l.drop i) = (l.getD i 0).toNat % 128 + 128 * valL (l.drop (i + 1)) := by
  rw [List.drop_eq_getElem_cons hi, valL]
  simp [List.getD_eq_getElem?_getD, List.getElem?_eq_getElem hi]
theorem valL_drop_le (l : List UInt8) (i : Nat) : valL (l.drop i) ≤ valL l := by
  induction i generalizing l with
  | zero => exact Nat.le_refl _
  | succ i ih =>
    cases l with
    | nil => simp
    | cons c r =>
      rw [List.drop_succ_cons, valL]
      have := ih r
      omega
/-- what Get answers: of a number it and how many bytes; else noughts and an error -/
def AnsG (l : List UInt8) (e : Ending) : Prop := ∃ ec : Int, e = .returned (.tuple #[.int .u64 ((getL l).1 : Int), .int .i64 ((getL l).2.1 : Int), .int .i64 ec]) ∧ (ec = 0 ↔ (getL l).2.2 = 0)
theorem ansG_err (l : List UInt8) (ec : Int) (h : (getL l).2.2 ≠ 0) (he : ec ≠ 0) : AnsG l (.returned (.tuple #[.int .u64 0, .int .i64 0, .int .i64 ec])) := by
  obtain ⟨h1, h2⟩ := getL_err l h
  exact ⟨ec, by rw [h1, h2]; rfl, fun h0 => absurd h0 he, fun h0 => absurd h0 h⟩
theorem u64_mix (V y : Nat) : Value.int .u64 ((V : Int) * 128 + (y : Int) % 128) = .int .u64 ((y % 128 + 128 * V : Nat) : Int) := by congr 1; omega
theorem byt_getD {w : World} {b o : Nat} {l : List UInt8} (h : Byt w (some ⟨b, o, none⟩) l) (i : Nat) (hi : i < l.length) : w.cell? ⟨b, o + i, none⟩ = some (.int .u8 ((l.getD i 0).toNat : Int)) := by
  obtain ⟨b', o', h1, h2, h3⟩ := h (by intro h0; rw [h0] at hi; simp at hi)
  injection h1 with h1
  injection h1 with h1 h4
  subst h1
  subst h4
  rw [h3 i hi]
  simp [List.getD_eq_getElem?_getD, List.getElem?_eq_getElem hi]
set_option maxHeartbeats 4000000 in
set_option maxRecDepth 100000 in
theorem refget_any (ao : Option Addr) (l : List UInt8) (m c : Nat) (w : World) (h : Byt w ao l) (hlm : l.length = m) (hc : m ≤ c) (hcc : c ≤ 9223372036854775807) :
    Calls Tryz.prog 64 #[.slice ao m c] w fun e w' => AnsG l e ∧ w = w' := by
  have H := Lib.hid h
  have HL := Lib.hid hlm
  clear h hlm
  go_enter Tryz.func64, Tryz.ntmps64
  go_wp2_with fail
  go_loopw [5] (fun vi wr => ∃ i : Nat, i ≤ 10 ∧ i ≤ m ∧ vi = .int .i64 i ∧ wr = w ∧ Hid (Lead l i)) (fun vi _ => 10 - (RowKit.intOf vi).toNat)
  case atStart => exact ⟨0, by omega, by omega, rfl, rfl, fun j hj => absurd hj (Nat.not_lt_zero _)⟩
  case round =>
    obtain ⟨i, hi, him, rfl, rfl, hL⟩ := hrel
    by_cases h1 : i < m
    · obtain ⟨b, o, rfl⟩ : ∃ b o, ao = some ⟨b, o, none⟩ := by
        obtain ⟨b, o, h1, _⟩ := H.out (by intro h0; have := HL.out; rw [h0] at this; simp at this; omega)
        exact ⟨b, o, h1⟩
      have d1 := byt_getD H.out i (by have := HL.out; omega)
      obtain ⟨x, hx⟩ : ∃ x, x = (l.getD i 0).toNat := ⟨_, rfl⟩
      rw [← hx] at d1
      have HX := Lib.hid hx
      have x256 : x < 256 := by rw [hx]; exact (l.getD i 0).toNat_lt
      clear hx
      have q1 : (0 : Int) ≤ (i : Int) := by omega
      have q2 : (i : Int) < (m : Int) := by omega
      by_cases h2 : i < 10
      · by_cases h3 : 128 ≤ x
        · have t1 : decide ((128 : Int) ≤ (x : Int)) = true := by simp; omega
          have t2 : decide ((i : Int) < 10) = true := by simp; omega
          go_wp2_with fail
          go_roundw
          case rel =>
            refine ⟨i + 1, by omega, by omega, by go_num, trivial, fun j hj => ?_⟩
            rcases Nat.lt_or_ge j i with h4 | h4
            · exact hL.out j h4
            · obtain rfl : j = i := by omega
              rw [← HX.out]
              exact h3
          case measure => simp [RowKit.intOf]; omega
        · have t1 : decide ((128 : Int) ≤ (x : Int)) = false := by simp; omega
          have t2 : decide ((i : Int) < 10) = true := by simp; omega
          have t3 : ((i : Int) == 10) = false := by simp; omega
          have t4 : ((i : Int) == (m : Int)) = false := by simp; omega
          have hbad := bad_at l i (by have := HL.out; omega) h2
          rw [← HX.out] at hbad
          have hlt : (l.getD i 0).toNat < 128 := by rw [← HX.out]; omega
          have HBAD := Lib.hid hbad
          have HLT := Lib.hid hlt
          clear hbad hlt
          by_cases c0 : i = 0
          · have hb : badB (l.take (i + 1)) = false := by rw [HBAD.out]; simp; omega
            have hg := getL_good l i hL.out (by have := HL.out; omega) HLT.out hb
            have hval := (getL_again l _ _ hg).2.2.1
            have HV := Lib.hid hval
            have HG := Lib.hid hg
            have t5 : decide (0 < i) = false := by simp; omega
            have t7 : ((i : Int) == 9) = false := by simp; omega
            clear hb hg hval
            repeat (first | clear c0 | clear c1 | clear c2 | clear c3)
            go_wp2_with fail
            go_loopw [6, 7] (fun vx vi w2 => ∃ t : Nat, t ≤ i + 1 ∧ vi = .int .i64 ((t : Int) - 1) ∧ vx = .int .u64 (valL ((l.take (i + 1)).drop t) : Int) ∧ w2 = wr) (fun _ vi _ => ((RowKit.intOf vi) + 1).toNat)
            case atStart =>
              refine ⟨i + 1, Nat.le_refl _, by congr 1; omega, ?_, rfl⟩
              rw [List.drop_of_length_le (by rw [List.length_take]; omega)]
              rfl
            case round =>
              obtain ⟨t, ht, rfl, rfl, rfl⟩ := hrel
              by_cases h9 : 0 < t
              · obtain ⟨k, rfl⟩ : ∃ k, t = k + 1 := ⟨t - 1, by omega⟩
                have d2 := byt_getD H.out k (by have := HL.out; omega)
                have hstep := valL_drop (l.take (i + 1)) k (by rw [List.length_take]; have := HL.out; omega)
                rw [take_getD _ _ _ (by omega)] at hstep
                have hle := valL_drop_le (l.take (i + 1)) k
                have hvv := HV.out
                obtain ⟨y, hy⟩ : ∃ y, y = (l.getD k 0).toNat := ⟨_, rfl⟩
                have y256 : y < 256 := by rw [hy]; exact (l.getD k 0).toNat_lt
                rw [← hy] at d2 hstep
                have HS := Lib.hid hstep
                generalize hV : valL ((l.take (i + 1)).drop (k + 1)) = V at *
                have e1 : (((k + 1 : Nat) : Int) - 1) = (k : Int) := by omega
                rw [e1]
                have q3 : (0 : Int) ≤ (k : Int) := by omega
                have q4 : (k : Int) < (m : Int) := by omega
                have z1 : IntKind.u64.wrap ((V : Int) * 128) = (V : Int) * 128 := by rw [IntKind.wrap]; simp [IntKind.bits, IntKind.signed]; omega
                have z2 : IntKind.u64.wrap ((V : Int) * 128 + (y : Int) % 128) = (V : Int) * 128 + (y : Int) % 128 := by rw [IntKind.wrap]; simp [IntKind.bits, IntKind.signed]; omega
                have z3 : IntKind.u64.wrap ((y : Int) % 128) = (y : Int) % 128 := by rw [IntKind.wrap]; simp [IntKind.bits, IntKind.signed]; omega
                clear hy hstep hle hvv e1
                go_wp2_with fail
                go_roundw
                case rel => exact ⟨k, by omega, rfl, by rw [HS.out]; exact u64_mix V y, trivial⟩
                case measure => simp [RowKit.intOf]
              · obtain rfl : t = 0 := by omega
                have e0 : (((0 : Nat) : Int) - 1) = -1 := rfl
                rw [e0, List.drop_zero]
                obtain ⟨V, hV⟩ : ∃ V, V = valL (l.take (i + 1)) := ⟨_, rfl⟩
                rw [← hV]
                have HVV := Lib.hid hV
                have z4 : IntKind.i64.wrap ((i : Int) + 1) = (i : Int) + 1 := IntWalk.i64_in _ (by omega)
                clear hV
                go_wp2_with fail
                go_ret3
                exact ⟨⟨0, by rw [HG.out, ← HVV.out]; rfl, fun _ => by rw [HG.out], fun _ => rfl⟩, rfl⟩
          by_cases c1 : x = 0
          · have hb : badB (l.take (i + 1)) = true := by rw [HBAD.out]; simp; omega
            have hans := Lib.hid (ansG_err l 21 (getL_bad l i hL.out (by have := HL.out; omega) HLT.out hb) (by decide))
            have t5 : decide (0 < i) = true := by simp; omega
            have t6 : ((x : Int) == 0) = true := by simp; omega
            clear hb HBAD
            repeat (first | clear c0 | clear c1 | clear c2 | clear c3)
            go_wp2_with fail
            go_ret3
            exact ⟨hans.out, rfl⟩
          by_cases c2 : i = 9
          · by_cases c3 : 1 < x
            · have hb : badB (l.take (i + 1)) = true := by rw [HBAD.out]; simp; omega
              have hans := Lib.hid (ansG_err l 21 (getL_bad l i hL.out (by have := HL.out; omega) HLT.out hb) (by decide))
              have t5 : decide (0 < i) = true := by simp; omega
              have t6 : ((x : Int) == 0) = false := by simp; omega
              have t7 : ((i : Int) == 9) = true := by simp; omega
              have t8 : decide ((1 : Int) < (x : Int)) = true := by simp; omega
              clear hb HBAD
              repeat (first | clear c0 | clear c1 | clear c2 | clear c3)
              go_wp2_with fail
              go_ret3
              exact ⟨hans.out, rfl⟩
            · have hb : badB (l.take (i + 1)) = false := by rw [HBAD.out]; simp; omega
              have hg := getL_good l i hL.out (by have := HL.out; omega) HLT.out hb
              have hval := (getL_again l _ _ hg).2.2.1
              have HV := Lib.hid hval
              have HG := Lib.hid hg
              have t5 : decide (0 < i) = true := by simp; omega
              have t6 : ((x : Int) == 0) = false := by simp; omega
              have t7 : ((i : Int) == 9) = true := by simp; omega
              have t8 : decide ((1 : Int) < (x : Int)) = false := by simp; omega
              clear hb hg hval
              repeat (first | clear c0 | clear c1 | clear c2 | clear c3)
              go_wp2_with fail
              go_loopw [6, 7] (fun vx vi w2 => ∃ t : Nat, t ≤ i + 1 ∧ vi = .int .i64 ((t : Int) - 1) ∧ vx = .int .u64 (valL ((l.take (i + 1)).drop t) : Int) ∧ w2 = wr) (fun _ vi _ => ((RowKit.intOf vi) + 1).toNat)
              case atStart =>
                refine ⟨i + 1, Nat.le_refl _, by congr 1; omega, ?_, rfl⟩
                rw [List.drop_of_length_le (by rw [List.length_take]; omega)]
                rfl
              case round =>
                obtain ⟨t, ht, rfl, rfl, rfl⟩ := hrel
                by_cases h9 : 0 < t
                · obtain ⟨k, rfl⟩ : ∃ k, t = k + 1 := ⟨t - 1, by omega⟩
                  have d2 := byt_getD H.out k (by have := HL.out; omega)
                  have hstep := valL_drop (l.take (i + 1)) k (by rw [List.length_take]; have := HL.out; omega)
                  rw [take_getD _ _ _ (by omega)] at hstep
                  have hle := valL_drop_le (l.take (i + 1)) k
                  have hvv := HV.out
                  obtain ⟨y, hy⟩ : ∃ y, y = (l.getD k 0).toNat := ⟨_, rfl⟩
                  have y256 : y < 256 := by rw [hy]; exact (l.getD k 0).toNat_lt
                  rw [← hy] at d2 hstep
                  have HS := Lib.hid hstep
                  generalize hV : valL ((l.take (i + 1)).drop (k + 1)) = V at *
                  have e1 : (((k + 1 : Nat) : Int) - 1) = (k : Int) := by omega
                  rw [e1]
                  have q3 : (0 : Int) ≤ (k : Int) := by omega
                  have q4 : (k : Int) < (m : Int) := by omega
                  have z1 : IntKind.u64.wrap ((V : Int) * 128) = (V : Int) * 128 := by rw [IntKind.wrap]; simp [IntKind.bits, IntKind.signed]; omega
                  have z2 : IntKind.u64.wrap ((V : Int) * 128 + (y : Int) % 128) = (V : Int) * 128 + (y : Int) % 128 := by rw [IntKind.wrap]; simp [IntKind.bits, IntKind.signed]; omega
                  have z3 : IntKind.u64.wrap ((y : Int) % 128) = (y : Int) % 128 := by rw [IntKind.wrap]; simp [IntKind.bits, IntKind.signed]; omega
                  clear hy hstep hle hvv e1
                  go_wp2_with fail
                  go_roundw
                  case rel => exact ⟨k, by omega, rfl, by rw [HS.out]; exact u64_mix V y, trivial⟩
                  case measure => simp [RowKit.intOf]
                · obtain rfl : t = 0 := by omega
                  have e0 : (((0 : Nat) : Int) - 1) = -1 := rfl
                  rw [e0, List.drop_zero]
                  obtain ⟨V, hV⟩ : ∃ V, V = valL (l.take (i + 1)) := ⟨_, rfl⟩
                  rw [← hV]
                  have HVV := Lib.hid hV
                  have z4 : IntKind.i64.wrap ((i : Int) + 1) = (i : Int) + 1 := IntWalk.i64_in _ (by omega)
                  clear hV
                  go_wp2_with fail
                  go_ret3
                  exact ⟨⟨0, by rw [HG.out, ← HVV.out]; rfl, fun _ => by rw [HG.out], fun _ => rfl⟩, rfl⟩
          · have hb : badB (l.take (i + 1)) = false := by rw [HBAD.out]; simp; omega
            have hg := getL_good l i hL.out (by have := HL.out; omega) HLT.out hb
            have hval := (getL_again l _ _ hg).2.2.1
            have HV := Lib.hid hval
            have HG := Lib.hid hg
            have t5 : decide (0 < i) = true := by simp; omega
            have t6 : ((x : Int) == 0) = false := by simp; omega
            have t7 : ((i : Int) == 9) = false := by simp; omega
            clear hb hg hval
            repeat (first | clear c0 | clear c1 | clear c2 | clear c3)
            go_wp2_with fail
            go_loopw [6, 7] (fun vx vi w2 => ∃ t : Nat, t ≤ i + 1 ∧ vi = .int .i64 ((t : Int) - 1) ∧ vx = .int .u64 (valL ((l.take (i + 1)).drop t) : Int) ∧ w2 = wr) (fun _ vi _ => ((RowKit.intOf vi) + 1).toNat)
            case atStart =>
              refine ⟨i + 1, Nat.le_refl _, by congr 1; omega, ?_, rfl⟩
              rw [List.drop_of_length_le (by rw [List.length_take]; omega)]
              rfl
            case round =>
              obtain ⟨t, ht, rfl, rfl, rfl⟩ := hrel
              by_cases h9 : 0 < t
              · obtain ⟨k, rfl⟩ : ∃ k, t = k + 1 := ⟨t - 1, by omega⟩
                have d2 := byt_getD H.out k (by have := HL.out; omega)
                have hstep := valL_drop (l.take (i + 1)) k (by rw [List.length_take]; have := HL.out; omega)
                rw [take_getD _ _ _ (by omega)] at hstep
                have hle := valL_drop_le (l.take (i + 1)) k
                have hvv := HV.out
                obtain ⟨y, hy⟩ : ∃ y, y = (l.getD k 0).toNat := ⟨_, rfl⟩
                have y256 : y < 256 := by rw [hy]; exact (l.getD k 0).toNat_lt
                rw [← hy] at d2 hstep
                have HS := Lib.hid hstep
                generalize hV : valL ((l.take (i + 1)).drop (k + 1)) = V at *
                have e1 : (((k + 1 : Nat) : Int) - 1) = (k : Int) := by omega
                rw [e1]
                have q3 : (0 : Int) ≤ (k : Int) := by omega
                have q4 : (k : Int) < (m : Int) := by omega
                have z1 : IntKind.u64.wrap ((V : Int) * 128) = (V : Int) * 128 := by rw [IntKind.wrap]; simp [IntKind.bits, IntKind.signed]; omega
                have z2 : IntKind.u64.wrap ((V : Int) * 128 + (y : Int) % 128) = (V : Int) * 128 + (y : Int) % 128 := by rw [IntKind.wrap]; simp [IntKind.bits, IntKind.signed]; omega
                have z3 : IntKind.u64.wrap ((y : Int) % 128) = (y : Int) % 128 := by rw [IntKind.wrap]; simp [IntKind.bits, IntKind.signed]; omega
                clear hy hstep hle hvv e1
                go_wp2_with fail
                go_roundw
                case rel => exact ⟨k, by omega, rfl, by rw [HS.out]; exact u64_mix V y, trivial⟩
                case measure => simp [RowKit.intOf]
              · obtain rfl : t = 0 := by omega
                have e0 : (((0 : Nat) : Int) - 1) = -1 := rfl
                rw [e0, List.drop_zero]
                obtain ⟨V, hV⟩ : ∃ V, V = valL (l.take (i + 1)) := ⟨_, rfl⟩
                rw [← hV]
                have HVV := Lib.hid hV
                have z4 : IntKind.i64.wrap ((i : Int) + 1) = (i : Int) + 1 := IntWalk.i64_in _ (by omega)
                clear hV
                go_wp2_with fail
                go_ret3
                exact ⟨⟨0, by rw [HG.out, ← HVV.out]; rfl, fun _ => by rw [HG.out], fun _ => rfl⟩, rfl⟩
      · obtain rfl : i = 10 := by omega
        have t2 : decide ((10 : Int) < 10) = false := by simp
        have hans := Lib.hid (ansG_err l 21 (getL_ten l hL.out) (by decide))
        go_wp2_with fail
        go_ret3
        exact ⟨hans.out, rfl⟩
    · obtain rfl : i = m := by omega
      by_cases h2 : i = 10
      · have t3 : ((i : Int) == 10) = true := by simp; omega
        have hans := Lib.hid (ansG_err l 21 (getL_ten l (by have := hL.out; rwa [h2] at this)) (by decide))
        clear h2
        go_wp2_with fail
        go_ret3
        exact ⟨hans.out, rfl⟩
      · have t3 : ((i : Int) == 10) = false := by simp; omega
        have hans := Lib.hid (ansG_err l 20 (getL_all l (by rw [HL.out]; exact hL.out)) (by decide))
        clear h2
        go_wp2_with fail
        go_ret3
        exact ⟨hans.out, rfl⟩
end Go.Proofs.YtekaboomhljdoaaGreatDoor.Sh.Vg
namespace Go.Proofs.YtekaboomhljdoaaGreatDoor.Pc
open Go.Proofs.YtekaboomhljdoaaGreatDoor.Fr Go.Proofs.YtekaboomhljdoaaGreatDoor.Lb Go.Proofs.YtekaboomhljdoaaGreatDoor.Cr
/-- all that is so of a record that is read -/
theorem next_facts (b : List UInt8) (h : (nextL b).1 = 0) : ∃ x n, getL (b.drop 2) = (x, n, 0) ∧ nextL b = (0, b.getD 1 0, (b.drop (2 + n)).take x, 2 + n + x + 4) ∧ b.getD 0 0 = 165 ∧ (1 ≤ (b.getD 1 0).toNat ∧ (b.getD 1 0).toNat ≤ 4) ∧ 2 + n + x + 4 ≤ b.length ∧ x ≤ 8192 ∧ recB (b.getD 1 0, (b.drop (2 + n)).take x) = b.take (2 + n + x + 4) := by
  obtain ⟨a1, a2, a3⟩ := next_again b h
  have hb0 : (bndL b).1 = 0 := by
    by_cases h1 : (bndL b).1 = 0
    · exact h1
    · rw [nextL, if_pos h1] at h; exact absurd h h1
  have h165 : b.getD 0 0 = 165 := by
    by_cases h1 : b.getD 0 0 = 165
    · exact h1
    · rw [nextL, if_neg (fun h' => h' hb0), if_pos h1] at h; simp at h
  have hk : 1 ≤ (b.getD 1 0).toNat ∧ (b.getD 1 0).toNat ≤ 4 := by
    by_cases h1 : 1 ≤ (b.getD 1 0).toNat ∧ (b.getD 1 0).toNat ≤ 4
    · exact h1
    · rw [nextL, if_neg (fun h' => h' hb0), if_neg (fun h' => h' h165), if_pos h1] at h; simp at h
  have hr : rightL (b.take ((bndL b).2.2 + 4)) = true := by
    cases h1 : rightL (b.take ((bndL b).2.2 + 4)) with
    | true => rfl
    | false => rw [nextL, if_neg (fun h' => h' hb0), if_neg (fun h' => h' h165), if_neg (fun h' => h' hk), if_pos h1] at h; simp at h
  have hn : nextL b = (0, b.getD 1 0, (b.drop (bndL b).2.1).take ((bndL b).2.2 - (bndL b).2.1), (bndL b).2.2 + 4) := by
    rw [nextL, if_neg (fun h' => h' hb0), if_neg (fun h' => h' h165), if_neg (fun h' => h' hk), if_neg (by rw [hr]; simp)]
  obtain ⟨x, n, hg, hbd, hl, hx⟩ := bnd_parts b hb0
  rw [hbd] at hn
  simp only at hn
  rw [show 2 + n + x - (2 + n) = x by omega] at hn
  rw [hn] at a1
  simp only at a1
  exact ⟨x, n, hg, hn, h165, hk, hl, hx, a1.symm⟩
theorem no_mark (b : List UInt8) (h : b.getD 0 0 ≠ 165) : (nextL b).1 ≠ 0 := fun h0 => by
  obtain ⟨x, n, h1, h2, h3, h4, h5, h6, h7⟩ := next_facts b h0
  exact h h3
theorem no_kind (b : List UInt8) (h : ¬ (1 ≤ (b.getD 1 0).toNat ∧ (b.getD 1 0).toNat ≤ 4)) : (nextL b).1 ≠ 0 := fun h0 => by
  obtain ⟨x, n, h1, h2, h3, h4, h5, h6, h7⟩ := next_facts b h0
  exact h h4
theorem no_two (b : List UInt8) (h : b.length < 2) : (nextL b).1 ≠ 0 := fun h0 => by
  obtain ⟨x, n, h1, h2, h3, h4, h5, h6, h7⟩ := next_facts b h0
  omega
theorem no_leb (b : List UInt8) (h : (getL (b.drop 2)).2.2 ≠ 0) : (nextL b).1 ≠ 0 := fun h0 => by
  obtain ⟨x, n, h1, h2, h3, h4, h5, h6, h7⟩ := next_facts b h0
  rw [h1] at h
  exact h rfl
theorem no_much (b : List UInt8) (h : 8192 < (getL (b.drop 2)).1) : (nextL b).1 ≠ 0 := fun h0 => by
  obtain ⟨x, n, h1, h2, h3, h4, h5, h6, h7⟩ := next_facts b h0
  rw [h1] at h
  simp only at h
  omega
theorem no_end (b : List UInt8) (x n : Nat) (hg : getL (b.drop 2) = (x, n, 0)) (h : b.length < 2 + n + x + 4) : (nextL b).1 ≠ 0 := fun h0 => by
  obtain ⟨x', n', h1, h2, h3, h4, h5, h6, h7⟩ := next_facts b h0
  rw [hg] at h1
  simp only [Prod.mk.injEq, and_true] at h1
  obtain ⟨rfl, rfl⟩ := h1
  omega
theorem no_same (b : List UInt8) (x n : Nat) (hg : getL (b.drop 2) = (x, n, 0)) (h : recB (b.getD 1 0, (b.drop (2 + n)).take x) ≠ b.take (2 + n + x + 4)) : (nextL b).1 ≠ 0 := fun h0 => by
  obtain ⟨x', n', h1, h2, h3, h4, h5, h6, h7⟩ := next_facts b h0
  rw [hg] at h1
  simp only [Prod.mk.injEq, and_true] at h1
  obtain ⟨rfl, rfl⟩ := h1
  exact h h7
theorem yes_same (b : List UInt8) (x n : Nat) (hx : x ≤ 8192) (hk : 1 ≤ (b.getD 1 0).toNat ∧ (b.getD 1 0).toNat ≤ 4) (hl : 2 + n + x + 4 ≤ b.length) (h : recB (b.getD 1 0, (b.drop (2 + n)).take x) = b.take (2 + n + x + 4)) : nextL b = (0, b.getD 1 0, (b.drop (2 + n)).take x, 2 + n + x + 4) := by
  have hd : ((b.drop (2 + n)).take x).length ≤ 8192 := by rw [List.length_take]; omega
  have h1 := next_rec (b.getD 1 0, (b.drop (2 + n)).take x) ⟨hd, hk⟩ (b.drop (2 + n + x + 4))
  rw [h, List.take_append_drop, List.length_take, Nat.min_eq_left hl] at h1
  exact h1
end Go.Proofs.YtekaboomhljdoaaGreatDoor.Pc
namespace Go.Proofs.YtekaboomhljdoaaGreatDoor.Sh
open Lb Go.Proofs.YtekaboomhljdoaaGreatDoor.Pc Go.RowKit Go.Lib
open Go.Proofs.YtekaboomhljdoaaGreatDoor.Dk hiding Blk made_any size_any below_chain
/-- what the document's Next answers -/
def AnsX (w : World) (b : List UInt8) (e : Ending) (w' : World) : Prop :=
  Below w.heap.size w w' ∧ ((∃ k d z v, Fr.nextL b = (0, k, d, z) ∧ e = .returned (.tuple #[.agg #[.int .i64 (k.toNat : Int), .string (keyS (k.toNat : Nat) d), v], .int .i64 (z : Int), .int .i64 0]) ∧ Own w' w.heap.size v d)
    ∨ ((Fr.nextL b).1 ≠ 0 ∧ ∃ ec : Int, ec ≠ 0 ∧ e = .returned (.tuple #[.agg #[.int .i64 0, .string ⟨#[]⟩, .slice none 0 0], .int .i64 0, .int .i64 ec])))
end Go.Proofs.YtekaboomhljdoaaGreatDoor.Sh
namespace Go.Proofs.YtekaboomhljdoaaGreatDoor.Sh
open Lb Go.Proofs.YtekaboomhljdoaaGreatDoor.Pc Go.RowKit Go.Lib
open Go.Proofs.YtekaboomhljdoaaGreatDoor.Dk hiding Blk made_any size_any below_chain

theorem ansX_no {w w' : World} {b : List UInt8} {e : Ending} (h : (Fr.nextL b).1 ≠ 0) (hb : Below w.heap.size w w') (ec : Int) (hec : ec ≠ 0) (he : e = .returned (.tuple #[.agg #[.int .i64 0, .string ⟨#[]⟩, .slice none 0 0], .int .i64 0, .int .i64 ec])) : AnsX w b e w' := ⟨hb, .inr ⟨h, ec, hec, he⟩⟩
theorem step_appm {w : World} {ops : Array Oper} {o : Oper} {a : Act} {K : Act → World → Prop} {Q : Exit → Act → World → Prop} {E : Prop} (hgd : o.guard = none) (s x : Operand)
    (ho : o.op = .call { callee := .builtin .append, args := #[s, x], argTypes := #[24, 24] })
    (base : Nat) (v : Value) (l : List UInt8) (hs : a.eval s = v) (hown : Own w base v [])
    (ad : Addr) (m c : Nat) (hx : a.eval x = .slice (some ad) m c) (hr : Byt w (some ad) l) (hm : l.length = m)
    (h47 : m ≤ 140737488355328) (hbase : base ≤ w.heap.size)
    (h : ∀ v' w', Own w' base v' l → w.grownBy w' v.ownBlock → K (a.put o.dst v') w') :
    if Region.wanted o (yielded ops a.tmps) = true then Oper.wp Tryz.prog o a w K Q else E := by
  subst hm
  refine step_app (t := 24) (e := 5) hgd s x ho Tryz.underlying24 info5 base v [] l hs hown ad c hx hr (by simpa using h47) hbase (fun v' w' h1 h2 => h v' w' (by unfold Own; simpa using h1) h2)
theorem own_setne {w : World} {B g i : Nat} {v : Value} {l : List UInt8} {cs : List Value} (h : Own w B v l) (hb : Blk w g cs 29) (u : Value) : Own (w.setCell ⟨g, i, none⟩ u) B v l := by
  obtain ⟨h1, h2 | ⟨g', cap, cur, e, hB, hg, rest⟩⟩ := h
  · exact ⟨h1, Or.inl h2⟩
  · refine ⟨h1, Or.inr ⟨g', cap, cur, e, hB, (heap_setCell_other w _ g' u (fun e2 => ?_)).trans hg, rest⟩⟩
    have e3 : g' = g := e2
    rw [e3, show w.heap[g]? = _ from hb] at hg
    injection hg with hg
    injection hg with _ hg
    exact absurd hg (by decide)
theorem blk_grown {w w' : World} {g k : Nat} {cs : List Value} {t : TypeId} (h : Blk w g cs t) (hg : w.grownBy w' (some k)) (hne : g ≠ k) : Blk w' g cs t := (hg.block g h.lt (fun e => hne (by injection e))).trans h
/-- the record on its way: its kind and data are there -/
def Bx15 (W1 : World) (k : Int) (x : Nat) (D : List UInt8) (wx : World) (g : Nat) (a9 : Option Addr) (c9 : Nat) : Prop :=
  Blk wx g [.int .i64 k, .string ⟨#[]⟩, .slice a9 x c9] 29 ∧ Own wx W1.heap.size (.slice a9 x c9) D ∧ Below W1.heap.size W1 wx ∧ W1.heap.size ≤ g
theorem bx_new {W1 w5 : World} {kk : Int} {x : Nat} {D : List UInt8} {a9 : Option Addr} {c9 : Nat} (h : Own w5 W1.heap.size (.slice a9 x c9) D) (hb : Below W1.heap.size W1 w5) : Hid (Bx15 W1 kk x D (w5.alloc (.cells #[.int .i64 kk, .string ⟨#[]⟩, .slice a9 x c9] 29)) w5.heap.size a9 c9) :=
  ⟨Blk.new w5 [.int .i64 kk, .string ⟨#[]⟩, .slice a9 x c9] 29 _ rfl, own_later h (al1 _ _), hb.alloc hb.size _, hb.size⟩
theorem bx_set {W1 w5 : World} {kk : Int} {x g : Nat} {D : List UInt8} {a9 : Option Addr} {c9 : Nat} (h : Own w5 W1.heap.size (.slice a9 x c9) D) (hb : Below W1.heap.size W1 w5) (hx : Blk w5 g [.int .i64 0, .string ⟨#[]⟩, .slice none 0 0] 29) (hg : W1.heap.size ≤ g) : Hid (Bx15 W1 kk x D (((w5.setCell ⟨g, 0, none⟩ (.int .i64 kk)).setCell ⟨g, 1, none⟩ (.string ⟨#[]⟩)).setCell ⟨g, 2, none⟩ (.slice a9 x c9)) g a9 c9) :=
  ⟨((hx.set 0 _).set 1 _).set 2 _, own_setne (own_setne (own_setne h hx _) (hx.set 0 _) _) ((hx.set 0 _).set 1 _) _, ((hb.setCell hg _).setCell hg _).setCell hg _, hg⟩
set_option maxHeartbeats 8000000 in
set_option maxRecDepth 100000 in
theorem refnext_any (ao : Option Addr) (b : List UInt8) (n c : Nat) (w : World) (h : Byt w ao b) (hn : ao = none → c = 0) (hb : b.length = n) (hc : n ≤ c) (hc2 : c ≤ 9223372036854775807) (hbig : n ≤ 100000) :
    Calls Tryz.prog 44 #[.slice ao n c] w (AnsX w b) := by
  have B0 := Lib.hid (al1 w (.cells #[.int .i64 0, .string ⟨#[]⟩, .slice none 0 0] 29))
  have YB : Hid (Blk (w.alloc (.cells #[.int .i64 0, .string ⟨#[]⟩, .slice none 0 0] 29)) w.heap.size [.int .i64 0, .string ⟨#[]⟩, .slice none 0 0] 29) := Blk.new w [.int .i64 0, .string ⟨#[]⟩, .slice none 0 0] 29 w.heap.size rfl
  have H0 := Lib.hid (h.below B0.out)
  have HB := Lib.hid hb
  have HN := Lib.hid hn
  clear h hn hb
  have SZ : Hid (w.heap.size + 1 = (w.alloc (.cells #[.int .i64 0, .string ⟨#[]⟩, .slice none 0 0] 29)).heap.size) := by show _ = _; simp
  go_enter Tryz.func44, Tryz.ntmps44
  have y0 := keep29 YB.out
  have f0 := YB.out.frozen 0
  have f1 := YB.out.frozen 1
  have f2 := YB.out.frozen 2
  have yl := YB.out.lt
  by_cases hn0 : n = 0
  · subst hn0
    have RN : Hid ((Fr.nextL b).1 ≠ 0) := by
      have : b = [] := List.eq_nil_of_length_eq_zero HB.out
      rw [this]
      exact next_empty
    go_wp2_with fail
    refine bodyPost_ret (results_row_tmp2 rfl _ _ w.heap.size 29 _ _ _ _ rfl rfl rfl YB.out Tryz.underlying29 rfl (size29 _ _ _)) rfl ?_
    exact ansX_no RN.out B0.out 20 (by decide) rfl
  have bn := HB.out
  obtain ⟨bb, oo, rfl, hlt, hcell⟩ := H0.out (by intro h0; rw [h0] at bn; simp at bn; omega)
  have d0 := hcell 0 (by omega)
  rw [Nat.add_zero] at d0
  have G0 : Hid (b.getD 0 0 = b[0]'(by omega)) := by show _ = _; simp [List.getD, show 0 < b.length by omega]
  obtain ⟨m0, hm0⟩ : ∃ m, m = b[0]'(by omega) := ⟨_, rfl⟩
  rw [← hm0] at d0 G0
  have q2 : (0 : Int) < (n : Int) := by omega
  have q20 : ((n : Int) == 0) = false := by simp; omega
  have HC := Lib.hid hcell
  have HLT := Lib.hid hlt
  clear hcell hlt hm0 bn
  cases hmk : ((m0.toNat : Int) == 165) with
  | false =>
    have hne : m0 ≠ 165 := fun h => by rw [h] at hmk; exact absurd hmk (by decide)
    have RN : Hid ((Fr.nextL b).1 ≠ 0) := no_mark b (by rw [G0.out]; exact hne)
    have hm1 : ¬ ((m0.toNat : Int) = 165) := by simpa using hmk
    have hm2 : decide ((m0.toNat : Int) = 165) = false := by simpa using hmk
    have hm3 : ¬ (m0.toNat = 165) := by omega
    have hm4 : decide (m0.toNat = 165) = false := by simpa using hm3
    clear hne
    go_wp2_with fail
    refine bodyPost_ret (results_row_tmp2 rfl _ _ w.heap.size 29 _ _ _ _ rfl rfl rfl YB.out Tryz.underlying29 rfl (size29 _ _ _)) rfl ?_
    exact ansX_no RN.out B0.out 120 (by decide) rfl
  | true =>
    have he : m0 = 165 := by
      apply UInt8.toNat_inj.1
      have : (m0.toNat : Int) = 165 := by simpa using hmk
      show m0.toNat = 165
      omega
    have G2 : Hid (b.getD 0 0 = 165) := by show _ = _; rw [G0.out]; exact he
    subst he
    by_cases hn1 : n = 1
    · subst hn1
      have RN : Hid ((Fr.nextL b).1 ≠ 0) := no_two b (by rw [HB.out]; decide)
      go_wp2_with fail
      refine bodyPost_ret (results_row_tmp2 rfl _ _ w.heap.size 29 _ _ _ _ rfl rfl rfl YB.out Tryz.underlying29 rfl (size29 _ _ _)) rfl ?_
      exact ansX_no RN.out B0.out 20 (by decide) rfl
    have bn := HB.out
    have d1 := HC.out 1 (by omega)
    have G1 : Hid (b.getD 1 0 = b[1]'(by omega)) := by show _ = _; simp [List.getD, show 1 < b.length by omega]
    obtain ⟨k, hk⟩ : ∃ m, m = b[1]'(by omega) := ⟨_, rfl⟩
    rw [← hk] at d1 G1
    have kl := k.toNat_lt
    have k1 : IntKind.i64.wrap (k.toNat : Int) = (k.toNat : Int) := wrap_in _ (by omega) (by omega)
    have q1 : (1 : Int) < (n : Int) := by omega
    have z1 : decide ((1 : Int) < (n : Int)) = true := by simp; omega
    have CK := Lib.hid (fun (W : World) => refkind_any (k.toNat : Int) W)
    clear hk bn
    cases hkb : kindB (k.toNat : Int) with
    | false =>
      have RN : Hid ((Fr.nextL b).1 ≠ 0) := no_kind b (by
        rw [G1.out]
        intro hh
        rw [(kindB_nat _).2 hh] at hkb
        cases hkb)
      go_wp2_with fail
      refine (CK.out _).mono ?_
      rw [hkb]
      rintro e w2 ⟨rfl, rfl⟩
      go_wp2_with fail
      refine bodyPost_ret (results_row_tmp2 rfl _ _ w.heap.size 29 _ _ _ _ rfl rfl rfl YB.out Tryz.underlying29 rfl (size29 _ _ _)) rfl ?_
      exact ansX_no RN.out B0.out 120 (by decide) rfl
    | true =>
      have GK : Hid (1 ≤ (b.getD 1 0).toNat ∧ (b.getD 1 0).toNat ≤ 4) := by
        show _ ∧ _
        rw [G1.out]
        exact (kindB_nat _).1 hkb
      obtain ⟨ad, s1, s2, s3⟩ := slice_from (some ⟨bb, oo, none⟩) n c 2 b (by omega) HB.out.symm HN.out hc
      have dl : (b.drop 2).length = n - 2 := by rw [List.length_drop, HB.out]
      have CG := Lib.hid (Vg.refget_any ad (b.drop 2) (n - 2) (c - 2) _ (s2 _ H0.out) dl (by omega) (by omega))
      have e22 : ((2 : Nat) : Int) = 2 := rfl
      rw [e22] at s1
      clear s2 s3 dl e22
      go_wp2_with fail
      refine (CK.out _).mono ?_
      rw [hkb]
      rintro e w2 ⟨rfl, rfl⟩
      clear hkb CK
      generalize w.alloc (.cells #[.int .i64 0, .string ⟨#[]⟩, .slice none 0 0] 29) = W1 at *
      go_wp2_with fail
      refine CG.out.mono ?_
      rintro e w3 ⟨⟨ec, rfl, hec⟩, rfl⟩
      clear CG s1
      obtain ⟨x, m, er, hg⟩ : ∃ x m er, getL (b.drop 2) = (x, m, er) := ⟨_, _, _, rfl⟩
      rw [hg] at hec ⊢
      simp only at hec ⊢
      have RET : Hid (∀ ec : Int, ec ≠ 0 → (Fr.nextL b).1 ≠ 0 → AnsX w b (.returned (.tuple #[.agg #[.int .i64 0, .string ⟨#[]⟩, .slice none 0 0], .int .i64 0, .int .i64 ec])) (((W1.setCell ⟨w.heap.size, 0, none⟩ (.int .i64 0)).setCell ⟨w.heap.size, 1, none⟩ (.string ⟨#[]⟩)).setCell ⟨w.heap.size, 2, none⟩ (.slice none 0 0))) := fun ec h1 h2 => ansX_no h2 (((B0.out.setCell (Nat.le_refl _) _).setCell (Nat.le_refl _) _).setCell (Nat.le_refl _) _) ec h1 rfl
      by_cases her : er = 0
      case neg =>
        have RN : Hid ((Fr.nextL b).1 ≠ 0) := no_leb b (by rw [hg]; exact her)
        have h0 : ¬ ec = 0 := fun h => her (hec.1 h)
        have e0 : (ec == 0) = false := by simpa using h0
        have e1 : decide (ec = 0) = false := by simpa using h0
        clear hec hg
        by_cases h20 : ec = 20
        · subst h20
          go_wp2_with fail
          refine bodyPost_ret (results_row_tmp2 rfl _ _ w.heap.size 29 _ _ _ _ rfl rfl rfl (((YB.out.set 0 (.int .i64 0)).set 1 (.string ⟨#[]⟩)).set 2 (.slice none 0 0)) Tryz.underlying29 rfl (size29 _ _ _)) rfl ?_
          exact RET.out 20 (by decide) RN.out
        · have e2 : (ec == 20) = false := by simpa using h20
          go_wp2_with fail
          refine bodyPost_ret (results_row_tmp2 rfl _ _ w.heap.size 29 _ _ _ _ rfl rfl rfl (((YB.out.set 0 (.int .i64 0)).set 1 (.string ⟨#[]⟩)).set 2 (.slice none 0 0)) Tryz.underlying29 rfl (size29 _ _ _)) rfl ?_
          exact RET.out 120 (by decide) RN.out
      subst her
      obtain rfl : ec = 0 := hec.2 rfl
      have HG := Lib.hid hg
      obtain ⟨ga1, ga2, ga3, _⟩ := getL_again _ _ _ hg
      rw [List.length_drop, HB.out] at ga2
      clear hec hg
      by_cases hx : 8192 < x
      · have RN : Hid ((Fr.nextL b).1 ≠ 0) := no_much b (by rw [HG.out]; exact hx)
        have e1 : decide ((8192 : Int) < (x : Int)) = true := by simp; omega
        go_wp2_with fail
        refine bodyPost_ret (results_row_tmp2 rfl _ _ w.heap.size 29 _ _ _ _ rfl rfl rfl (((YB.out.set 0 (.int .i64 0)).set 1 (.string ⟨#[]⟩)).set 2 (.slice none 0 0)) Tryz.underlying29 rfl (size29 _ _ _)) rfl ?_
        exact RET.out 120 (by decide) RN.out
      have e1 : decide ((8192 : Int) < (x : Int)) = false := by simp; omega
      have wx : IntKind.i64.wrap (x : Int) = (x : Int) := wrap_in _ (by omega) (by omega)
      obtain ⟨p, hp⟩ : ∃ p, p = 2 + m := ⟨_, rfl⟩
      obtain ⟨q, hq⟩ : ∃ q, q = p + x := ⟨_, rfl⟩
      obtain ⟨z, hz⟩ : ∃ z, z = q + 4 := ⟨_, rfl⟩
      have HP := Lib.hid hp
      have HQ := Lib.hid hq
      have HZ := Lib.hid hz
      have pI : (2 : Int) + (m : Int) = (p : Int) := by omega
      have qI : (p : Int) + (x : Int) = (q : Int) := by omega
      have zI : (q : Int) + 4 = (z : Int) := by omega
      by_cases hzn : z ≤ n
      case neg =>
        have RN : Hid ((Fr.nextL b).1 ≠ 0) := no_end b x m HG.out (by rw [HB.out]; omega)
        have e3 : decide ((n : Int) < (z : Int)) = true := by simp; omega
        clear hp hq hz
        go_wp2_with fail
        refine bodyPost_ret (results_row_tmp2 rfl _ _ w.heap.size 29 _ _ _ _ rfl rfl rfl (((YB.out.set 0 (.int .i64 0)).set 1 (.string ⟨#[]⟩)).set 2 (.slice none 0 0)) Tryz.underlying29 rfl (size29 _ _ _)) rfl ?_
        exact RET.out 20 (by decide) RN.out
      have e3 : decide ((n : Int) < (z : Int)) = false := by simp; omega
      have e3n : decide (n < z) = false := by simp; omega
      have sb := fun W => slice_be bb oo n c p q x (by omega) (by omega) (by omega) hc W
      have st := fun W => slice_to (some ⟨bb, oo, none⟩) n c z (by omega) W
      have dlen : ((b.drop p).take x).length = x := by rw [List.length_take, List.length_drop, HB.out]; omega
      obtain ⟨D, hD⟩ : ∃ D, D = (b.drop p).take x := ⟨_, rfl⟩
      rw [← hD] at dlen
      have HD := Lib.hid hD
      have HDL := Lib.hid dlen
      have BD : Hid (∀ W, Below W1.heap.size W1 W → Byt W (some ⟨bb, oo + p, none⟩) D) := fun W hW => by rw [hD]; exact ((H0.out.below hW).drop p).take x
      have x47 : x ≤ 140737488355328 := by omega
      clear hp hq hz hD dlen
      go_wp2_with fail
      obtain ⟨kk, hkk⟩ : ∃ kk : Int, kk = (k.toNat : Int) := ⟨_, rfl⟩
      have HKK := Lib.hid hkk
      rw [← hkk] at k1 d1 ⊢
      clear hkk
      have wp1 : IntKind.i64.wrap ((2 : Int) + (m : Int)) = (p : Int) := by rw [pI]; exact wrap_in _ (by omega) (by omega)
      have wp2 : IntKind.i64.wrap (p : Int) = (p : Int) := wrap_in _ (by omega) (by omega)
      have sp0 : (0 : Int) ≤ (p : Int) := by omega
      have sp1 : (p : Int) ≤ (q : Int) := by omega
      have sp2 : (q : Int) ≤ (c : Int) := by omega
      have hAB : Hid (Below W1.heap.size W1 ((W1.alloc (.cells #[.int .i64 0, .string ⟨#[]⟩, .slice none 0 0] 29)).alloc (.cells #[] 5)).drew) := (below_chain (al1 W1 (.cells #[.int .i64 0, .string ⟨#[]⟩, .slice none 0 0] 29)) (al1 _ (.cells #[] 5))).drew
      have hBB : Hid (Below W1.heap.size W1 ((W1.alloc (.cells #[] 5)).alloc (.cells #[.int .i64 0, .string ⟨#[]⟩, .slice none 0 0] 29)).drew) := (below_chain (al1 W1 (.cells #[] 5)) (al1 _ (.cells #[.int .i64 0, .string ⟨#[]⟩, .slice none 0 0] 29))).drew
      have hCB : Hid (Below W1.heap.size W1 (W1.alloc (.cells #[] 5)).drew) := (al1 W1 (.cells #[] 5)).drew
      have OA : Hid (Own ((W1.alloc (.cells #[.int .i64 0, .string ⟨#[]⟩, .slice none 0 0] 29)).alloc (.cells #[] 5)).drew W1.heap.size (.slice (some ⟨W1.heap.size + 1, 0, none⟩) 0 0) []) := by
        have h := own_lit (W1.alloc (.cells #[.int .i64 0, .string ⟨#[]⟩, .slice none 0 0] 29)) [] W1.heap.size (by simp) (by simp)
        have e : (W1.alloc (.cells #[.int .i64 0, .string ⟨#[]⟩, .slice none 0 0] 29)).heap.size = W1.heap.size + 1 := by simp
        rw [e] at h
        exact h
      have OC : Hid (Own (W1.alloc (.cells #[] 5)).drew W1.heap.size (.slice (some ⟨W1.heap.size, 0, none⟩) 0 0) []) := own_lit W1 [] W1.heap.size (Nat.le_refl _) (by simp)
      have OB : Hid (Own ((W1.alloc (.cells #[] 5)).alloc (.cells #[.int .i64 0, .string ⟨#[]⟩, .slice none 0 0] 29)).drew W1.heap.size (.slice (some ⟨W1.heap.size, 0, none⟩) 0 0) []) := own_later (own_lit W1 [] W1.heap.size (Nat.le_refl _) (by simp)) (al1 _ (.cells #[.int .i64 0, .string ⟨#[]⟩, .slice none 0 0] 29)).drew
      have XA : Hid (Blk ((W1.alloc (.cells #[.int .i64 0, .string ⟨#[]⟩, .slice none 0 0] 29)).alloc (.cells #[] 5)).drew W1.heap.size [.int .i64 0, .string ⟨#[]⟩, .slice none 0 0] 29) := ((Blk.new W1 [.int .i64 0, .string ⟨#[]⟩, .slice none 0 0] 29 _ rfl).alloc _).drew
      have XB : Hid (Blk ((W1.alloc (.cells #[] 5)).alloc (.cells #[.int .i64 0, .string ⟨#[]⟩, .slice none 0 0] 29)).drew (W1.heap.size + 1) [.int .i64 0, .string ⟨#[]⟩, .slice none 0 0] 29) := (Blk.new (W1.alloc (.cells #[] 5)) [.int .i64 0, .string ⟨#[]⟩, .slice none 0 0] 29 _ (by simp)).drew
      have BX : Hid (∀ W, Below W1.heap.size W1 W → W.cell? ⟨bb, oo + 1, none⟩ = some (.int .u8 kk)) := fun W hW => (hW.cell (p := ⟨bb, oo + 1, none⟩) HLT.out).trans d1
      have GA : Hid (∀ w5 : World, ((W1.alloc (.cells #[.int .i64 0, .string ⟨#[]⟩, .slice none 0 0] 29)).alloc (.cells #[] 5)).drew.grownBy w5 (some (W1.heap.size + 1)) → Below W1.heap.size W1 w5 ∧ Blk w5 W1.heap.size [.int .i64 0, .string ⟨#[]⟩, .slice none 0 0] 29) := fun w5 g5 => ⟨hAB.out.grown g5 hAB.out.size (fun q hq => by cases hq; exact Nat.le_succ _), blk_grown XA.out g5 (by omega)⟩
      have GB : Hid (∀ w5 : World, ((W1.alloc (.cells #[] 5)).alloc (.cells #[.int .i64 0, .string ⟨#[]⟩, .slice none 0 0] 29)).drew.grownBy w5 (some W1.heap.size) → Below W1.heap.size W1 w5 ∧ Blk w5 (W1.heap.size + 1) [.int .i64 0, .string ⟨#[]⟩, .slice none 0 0] 29) := fun w5 g5 => ⟨hBB.out.grown g5 hBB.out.size (fun q hq => by cases hq; exact Nat.le_refl _), blk_grown XB.out g5 (by omega)⟩
      have GC : Hid (∀ w5 : World, (W1.alloc (.cells #[] 5)).drew.grownBy w5 (some W1.heap.size) → Below W1.heap.size W1 w5 ∧ True) := fun w5 g5 => ⟨hCB.out.grown g5 hCB.out.size (fun q hq => by cases hq; exact Nat.le_refl _), trivial⟩
      go_cut [9] from 64 to 75 (fun s9 wx => ∃ g a9 c9, s9 = .pointer (some ⟨g, 0, none⟩) ∧ Hid (Bx15 W1 kk x D wx g a9 c9))
      case first =>
        go_region_held3 (fun W => W.cell? ⟨bb, oo + 1, none⟩ = some (.int .u8 kk))
          (first | go_keep | exact d1 | (exact BX.out _ (((X5.out.1.setCell (Nat.le_refl _) _).setCell (Nat.le_refl _) _).setCell (Nat.le_refl _) _)) | (exact BX.out _ (((X5.out.1.setCell (Nat.le_succ _) _).setCell (Nat.le_succ _) _).setCell (Nat.le_succ _) _)) | (exact BX.out _ (X5.out.1.alloc X5.out.1.size _)) | (exact BX.out _ ((((X5.out.1.alloc X5.out.1.size _).setCell X5.out.1.size _).setCell X5.out.1.size _).setCell X5.out.1.size _)))
          (first
            | (refine step_appm rfl (.tmp 68) (.tmp 73) rfl W1.heap.size (.slice (some ⟨W1.heap.size + 1, 0, none⟩) 0 0) D rfl OA.out ⟨bb, oo + p, none⟩ x (c - p) rfl (BD.out _ hAB.out) HDL.out x47 hAB.out.size ?_
               intro v5 w5 own5 grow5
               have X5 := Lib.hid (GA.out _ grow5)
               have x0 := keep29 X5.out.2
               have e0 := X5.out.2.frozen 0
               have e1 := X5.out.2.frozen 1
               have e2 := X5.out.2.frozen 2
               have lx := X5.out.2.lt
               have d1 := BX.out _ X5.out.1
               obtain ⟨a9, c9, rfl, _, _, _, _⟩ := own_byt own5
               rw [HDL.out] at own5 ⊢)
            | (refine step_appm rfl (.tmp 68) (.tmp 73) rfl W1.heap.size (.slice (some ⟨W1.heap.size, 0, none⟩) 0 0) D rfl OB.out ⟨bb, oo + p, none⟩ x (c - p) rfl (BD.out _ hBB.out) HDL.out x47 hBB.out.size ?_
               intro v5 w5 own5 grow5
               have X5 := Lib.hid (GB.out _ grow5)
               have x0 := keep29 X5.out.2
               have e0 := X5.out.2.frozen 0
               have e1 := X5.out.2.frozen 1
               have e2 := X5.out.2.frozen 2
               have lx := X5.out.2.lt
               have d1 := BX.out _ X5.out.1
               obtain ⟨a9, c9, rfl, _, _, _, _⟩ := own_byt own5
               rw [HDL.out] at own5 ⊢)
            | (refine step_appm rfl (.tmp 68) (.tmp 73) rfl W1.heap.size (.slice (some ⟨W1.heap.size, 0, none⟩) 0 0) D rfl OC.out ⟨bb, oo + p, none⟩ x (c - p) rfl (BD.out _ hCB.out) HDL.out x47 hCB.out.size ?_
               intro v5 w5 own5 grow5
               have X5 := Lib.hid (GC.out _ grow5)
               have d1 := BX.out _ X5.out.1
               obtain ⟨a9, c9, rfl, _, _, _, _⟩ := own_byt own5
               rw [HDL.out] at own5 ⊢))
        all_goals
          go_wp2_with fail
          go_meet
          first
            | exact ⟨_, a9, c9, rfl, bx_new own5 X5.out.1⟩
            | exact ⟨_, a9, c9, rfl, bx_set own5 X5.out.1 X5.out.2 (Nat.le_refl _)⟩
            | exact ⟨_, a9, c9, rfl, bx_set own5 X5.out.1 X5.out.2 (Nat.le_succ _)⟩
      case rest =>
        obtain ⟨g, a9, c9, rfl, HX⟩ := hcut
        obtain ⟨X5, O5, B5, hg5⟩ := HX.out
        clear HX GA GB GC OA OB OC XA XB hAB hBB hCB
        obtain ⟨_, _, h9, hc9, hd9, y9, n9⟩ := own_byt O5
        rw [HDL.out] at h9 hc9
        cases h9
        obtain ⟨R, hR⟩ : ∃ R, R = Fr.frL k D := ⟨_, rfl⟩
        have HR := Lib.hid hR
        have CW : Hid (∀ W, Below wc.heap.size wc W → Calls Tryz.prog 28 #[.int .i64 kk, .slice a9 x c9] W fun e w' => Below W.heap.size W w' ∧ ∃ v, e = .returned v ∧ Own w' W.heap.size v R) := fun W hW => by
          have h := refwrite_any12 kk a9 D x c9 W (y9.below hW) n9 HDL.out (by omega)
          rw [show kb kk = k by rw [HKK.out]; exact kb_nat k, ← hR] at h
          exact h
        have CO : Hid (∀ W, Below wc.heap.size wc W → Calls Tryz.prog 24 #[.int .i64 kk, .slice a9 x c9] W fun e w' => e = .returned (.string (keyS kk D)) ∧ Below W.heap.size W w') := fun W hW => refof_any kk a9 D x c9 W (y9.below hW) n9 HDL.out (by omega)
        have KK5 : Hid (∀ W, Below wc.heap.size wc W → W.cell? ⟨g, 0, none⟩ = some (.int .i64 kk) ∧ W.cell? ⟨g, 2, none⟩ = some (.slice a9 x c9)) := fun W hW => ⟨(X5.low hW).cell 0, (X5.low hW).cell 2⟩
        have ltk : (b.take z).length = z := by rw [List.length_take, HB.out]; omega
        obtain ⟨T, hT⟩ : ∃ T, T = b.take z := ⟨_, rfl⟩
        rw [← hT] at ltk
        have HT := Lib.hid hT
        have CS : Hid (∀ W, Below wc.heap.size wc W → ∀ a6 c6, Byt W a6 R → (a6 = none → c6 = 0) → Calls Tryz.prog 43 #[.slice a6 R.length c6, .slice (some ⟨bb, oo, none⟩) z c] W fun e w' => e = .returned (.bool (decide (R = T))) ∧ W = w') := fun W hW a6 c6 h6 n6 => by
          have h := Cr.same_any a6 (some ⟨bb, oo, none⟩) R T c6 c W h6 (by rw [hT]; exact ((H0.out.below B5).below hW).take z) n6 (fun h => by cases h)
          rw [ltk] at h
          exact h
        obtain ⟨sm, hsm⟩ : ∃ sm : Bool, sm = decide (R = T) := ⟨_, rfl⟩
        rw [← hsm] at CS
        have HSM := Lib.hid hsm
        obtain ⟨rl, hrl⟩ : ∃ rl, rl = R.length := ⟨_, rfl⟩
        have HRL := Lib.hid hrl
        rw [← hrl] at CS
        have X5h := Lib.hid X5
        have O5h := Lib.hid O5
        have B5h := Lib.hid B5
        have G5 := Lib.hid hg5
        have BQ := Lib.hid (Below.refl wc.heap.size wc).drew
        obtain ⟨k0, k2⟩ := KK5.out wc (Below.refl _ _)
        have st0 : (0 : Int) ≤ (z : Int) := by omega
        have st1 : (z : Int) ≤ (c : Int) := by omega
        have wp3 : IntKind.i64.wrap (z : Int) = (z : Int) := wrap_in _ (by omega) (by omega)
        have wp4 : IntKind.i64.wrap ((q : Int) + 4) = (z : Int) := by rw [zI]; exact wp3
        clear X5 O5 B5 hg5 hR hT hsm hrl y9 n9 hc9 hd9 y0 f0 f1 f2 yl
        go_wp2_with fail
        go_region_held3 (fun W => W.cell? ⟨g, 0, none⟩ = some (.int .i64 kk) ∧ W.cell? ⟨g, 2, none⟩ = some (.slice a9 x c9))
          (first | go_keep | exact ⟨k0, k2⟩)
          (first
            | (go_at_call 28
               (with_reducible refine (CW.out _ BQ.out).mono ?_)
               rintro e w6 ⟨b6, v6, rfl, ob6⟩
               have BQ := Lib.hid (BQ.out.trans (b6.mono BQ.out.size))
               obtain ⟨k0, k2⟩ := KK5.out _ BQ.out
               obtain ⟨a6, c6, rfl, _, _, y6, n6⟩ := own_byt ob6
               rw [← HRL.out] at ob6 ⊢
               have CS6 := Lib.hid (CS.out _ BQ.out a6 c6 y6 n6)
               clear y6 n6)
            | (go_at_call 43
               (with_reducible refine CS6.out.mono ?_)
               rintro e w7 ⟨rfl, rfl⟩))
        have Q6 := Lib.hid (below_chain B5h.out BQ.out)
        have B6 := Lib.hid (below_chain B0.out Q6.out)
        have YB6 := Lib.hid (YB.out.low Q6.out)
        have X6 := Lib.hid (X5h.out.low BQ.out)
        have O6 := Lib.hid (own_later O5h.out BQ.out)
        have CO6 := Lib.hid (CO.out _ BQ.out)
        have y0 := keep29 YB6.out
        have f0 := YB6.out.frozen 0
        have f1 := YB6.out.frozen 1
        have f2 := YB6.out.frozen 2
        have yl := YB6.out.lt
        have ng : Hid (w.heap.size ≠ g) := by
          show _ ≠ _
          have := SZ.out
          have := G5.out
          omega
        clear CS6 CW CS CO KK5 k0 k2 ob6 b6
        cases sm with
        | false =>
          have RN : Hid ((Fr.nextL b).1 ≠ 0) := no_same b x m HG.out (by
            have h := of_decide_eq_false HSM.out.symm
            rw [HR.out, HT.out, HD.out, HP.out] at h
            rw [G1.out, show 2 + m + x + 4 = z by have := HP.out; have := HQ.out; have := HZ.out; omega]
            exact h)
          go_wp2_with fail
          refine bodyPost_ret (results_row_tmp2 rfl _ _ w.heap.size 29 _ _ _ _ rfl rfl rfl (((YB6.out.set 0 (.int .i64 0)).set 1 (.string ⟨#[]⟩)).set 2 (.slice none 0 0)) Tryz.underlying29 rfl (size29 _ _ _)) rfl ?_
          exact ansX_no RN.out (((B6.out.setCell (Nat.le_refl _) _).setCell (Nat.le_refl _) _).setCell (Nat.le_refl _) _) 120 (by decide) rfl
        | true =>
          have RY : Hid (Fr.nextL b = (0, k, D, z)) := by
            show _ = _
            have h := of_decide_eq_true HSM.out.symm
            rw [HR.out, HT.out, HD.out, HP.out] at h
            have hz : 2 + m + x + 4 = z := by have := HP.out; have := HQ.out; have := HZ.out; omega
            have h2 := yes_same b x m (by omega) GK.out (by rw [HB.out, hz]; exact hzn) (by rw [G1.out, hz]; exact h)
            rw [h2, G1.out, hz, HD.out, HP.out]
          obtain ⟨K, hK⟩ : ∃ K, K = keyS kk D := ⟨_, rfl⟩
          have HKS := Lib.hid hK
          rw [← hK] at CO6
          have x0 := keep29 X6.out
          clear hK
          go_wp2_with fail
          refine CO6.out.mono ?_
          rintro e w8 ⟨rfl, b8⟩
          have B8 := Lib.hid (below_chain B6.out b8)
          have YB8 := Lib.hid (YB6.out.low b8)
          have X8 := Lib.hid (X6.out.low b8)
          have O8 := Lib.hid (own_later O6.out b8)
          have x1 := keep29 X8.out
          have e1x := X8.out.frozen 1
          have lx := X8.out.lt
          have y8 := keep29 YB8.out
          have f08 := YB8.out.frozen 0
          have f18 := YB8.out.frozen 1
          have f28 := YB8.out.frozen 2
          have yl8 := YB8.out.lt
          have ng1 : ¬ w.heap.size = g := ng.out
          have ng2 : ¬ g = w.heap.size := fun h => ng.out h.symm
          clear b8 CO6 x0 y0 f0 f1 f2 yl
          go_wp2_with fail
          refine bodyPost_ret (results_row_tmp2 rfl _ _ w.heap.size 29 _ _ _ _ rfl rfl rfl ((((YB8.out.other (a := ⟨g, 1, none⟩) (.string K) ng.out).set 0 (.int .i64 kk)).set 1 (.string K)).set 2 (.slice a9 x c9)) Tryz.underlying29 rfl (size29 _ _ _)) rfl ?_
          have lw : w.heap.size < W1.heap.size := by have := SZ.out; omega
          have lg : w.heap.size ≤ g := by have := G5.out; omega
          refine ⟨(((B8.out.setCell lg _).setCell (Nat.le_refl _) _).setCell (Nat.le_refl _) _).setCell (Nat.le_refl _) _, .inl ⟨k, D, z, .slice a9 x c9, RY.out, by rw [HKS.out, HKK.out]; rfl, ?_⟩⟩
          exact (own_setfar (own_setfar (own_setfar (own_setne O8.out X8.out _) _ _ lw) _ _ lw) _ _ lw).low (Nat.le_of_lt lw)
end Go.Proofs.YtekaboomhljdoaaGreatDoor.Sh
namespace Go.Proofs.YtekaboomhljdoaaGreatDoor.Sh
open Lb Go.Proofs.YtekaboomhljdoaaGreatDoor.Pc Go.RowKit Go.Lib
open Go.Proofs.YtekaboomhljdoaaGreatDoor.Dk hiding Blk made_any size_any below_chain
set_option maxHeartbeats 4000000 in
set_option maxRecDepth 100000 in
theorem refscan_any (ao : Option Addr) (b : List UInt8) (n c : Nat) (w : World) (h : Byt w ao b) (hn : ao = none → c = 0) (hb : b.length = n) (hc : n ≤ c) (hc2 : c ≤ 9223372036854775807) (hbig : n ≤ 100000) :
    Calls Tryz.prog 18 #[.slice ao n c] w (AnsS b w) := by
  have H0 := Lib.hid h
  have HN := Lib.hid hn
  have HB := Lib.hid hb
  have CM := Lib.hid (come_start b)
  clear h hn hb
  go_enter Tryz.func18, Tryz.ntmps18
  go_wp2_with fail
  go_loopw [5, 6, 7] (fun v5 v6 v7 wr => ∃ (rs : List Rcd) (ps : List Int) (p f : Nat), v7 = .int .i64 p ∧ p ≤ n ∧ Hid (OwnG 0 w.heap.size wr rs v5) ∧ Hid (OwnZ wr w.heap.size v6 ps) ∧ Hid (Below w.heap.size w wr) ∧ Hid (Come b rs ps p f)) (fun _ _ v7 _ => n - (RowKit.intOf v7).toNat)
  case atStart => exact ⟨[], [], 0, b.length + 1, rfl, by omega, ownf_nil _ _ _, World.ownsRow_nil _ _ _ _, Below.refl _ _, CM.out⟩
  case round =>
    obtain ⟨rs, ps, p, f, rfl, hp, hF, hZ, hB, hC⟩ := hrel
    obtain ⟨ao', sl, by', nn'⟩ := slice_from ao n c p b hp HB.out.symm HN.out hc
    have C21 := Lib.hid (refnext_any ao' (b.drop p) (n - p) (c - p) wr (by' wr (H0.out.below hB.out)) nn' (by rw [List.length_drop, HB.out]) (by omega) (by omega) (by omega))
    clear by' nn'
    go_wp2_with fail
    refine C21.out.mono ?_
    rintro e w1 ⟨b1, ⟨kx, dx, zx, v, hx, rfl, ho⟩ | ⟨h0, ec, hec, rfl⟩⟩
    · have h0 : (Fr.nextL (b.drop p)).1 = 0 := by rw [hx]
      obtain ⟨rfl, rfl, rfl⟩ : (Fr.nextL (b.drop p)).2.1 = kx ∧ (Fr.nextL (b.drop p)).2.2.1 = dx ∧ (Fr.nextL (b.drop p)).2.2.2 = zx := by rw [hx]; exact ⟨rfl, rfl, rfl⟩
      clear hx
      obtain ⟨g, hcn, hq1, hq2⟩ := come_next hC.out h0
      rw [HB.out] at hq2
      obtain ⟨k, hk⟩ : ∃ k, k = (Fr.nextL (b.drop p)).2.1 := ⟨_, rfl⟩
      obtain ⟨d, hd⟩ : ∃ d, d = (Fr.nextL (b.drop p)).2.2.1 := ⟨_, rfl⟩
      obtain ⟨m, hm⟩ : ∃ m, m = (Fr.nextL (b.drop p)).2.2.2 := ⟨_, rfl⟩
      rw [← hk, ← hd, ← hm] at hcn
      rw [← hd] at ho
      rw [← hm] at hq1 hq2
      rw [← hk, ← hd, ← hm]
      have CN := Lib.hid hcn
      have O1 : Hid (Own w1 wr.heap.size v d) := ho
      obtain ⟨K, hK⟩ : ∃ K, K = keyS (k.toNat : Nat) d := ⟨_, rfl⟩
      rw [← hK]
      have HK := Lib.hid hK
      have F1 := Lib.hid (ownf_below hF.out b1)
      have Z1 : Hid (OwnZ w1 w.heap.size u6 ps) := row_below hZ.out b1
      have B1 := Lib.hid (hB.out.trans (b1.mono hB.out.size))
      obtain ⟨a3, c3, rfl, hc3, hcm3, hy3, hn3⟩ := own_byt O1.out
      obtain ⟨q, hq⟩ : ∃ q, q = d.length := ⟨_, rfl⟩
      have HQ := Lib.hid hq
      rw [← hq] at O1 ⊢
      have DK : Hid (DatK 0 w1 (.slice a3 q c3) d) := datK_low O1.out (Nat.zero_le _)
      have bt1 := al1 w1 (.cells #[.int .i64 (k.toNat : Int), .string K, .slice a3 q c3] 29)
      have bt2 := al1 (w1.alloc (.cells #[.int .i64 (k.toNat : Int), .string K, .slice a3 q c3] 29)) (.cells #[.int .i64 (k.toNat : Int), .string K, .slice a3 q c3] 29)
      have bt := below_chain bt1 bt2
      have F2 := Lib.hid (ownf_below F1.out bt)
      have Z2 : Hid (OwnZ ((w1.alloc (.cells #[.int .i64 (k.toNat : Int), .string K, .slice a3 q c3] 29)).alloc (.cells #[.int .i64 (k.toNat : Int), .string K, .slice a3 q c3] 29)) w.heap.size u6 ps) := row_below Z1.out bt
      have B2 := Lib.hid (below_chain B1.out bt)
      have D2 := Lib.hid (datK_below DK.out bt)
      have KB : Hid (Blk ((w1.alloc (.cells #[.int .i64 (k.toNat : Int), .string K, .slice a3 q c3] 29)).alloc (.cells #[.int .i64 (k.toNat : Int), .string K, .slice a3 q c3] 29)) (w1.heap.size + 1) (recC (k, d) (.slice a3 q c3)) 29) := by
        show Blk _ _ _ _
        have hc : recC (k, d) (.slice a3 q c3) = [.int .i64 (k.toNat : Int), .string K, .slice a3 q c3] := by rw [HK.out]; rfl
        rw [hc]
        exact Blk.new _ [.int .i64 (k.toNat : Int), .string K, .slice a3 q c3] 29 _ (by simp)
      have hrl := CN.out.2.2.2.1
      have hpl := CN.out.2.2.2.2
      rw [List.length_append, List.length_singleton] at hrl hpl
      have p1 : rs.length + 1 ≤ 1000000000 := by omega
      have p2 : (ps.length + 1) * 8 ≤ 140737488355328 := by omega
      have P3 := Lib.hid B2.out.size
      have Q1 := Lib.hid p1
      have Q2 := Lib.hid p2
      have i1 : (p : Int) + (m : Int) ≤ 1000000 := by omega
      clear hcn ho hk hd hm hK h0 C21 b1 hF hZ hB hC hq bt1 bt2 bt hy3 hn3 hc3 hcm3 hrl hpl p1 p2
      go_wp2_with (first
        | (at_builtin; refine wpl_appf rfl (.tmp 24) (.tmp 26) rfl 0 w.heap.size (Nat.zero_le _) u5 (.slice a3 q c3) rs (k, d) rfl F2.out D2.out (w1.heap.size + 1) (by rfl) KB.out Q1.out P3.out ?_; intro v1 w2 F3 g3
           have FF := Lib.hid (scan_one F2.out Z2.out B2.out P3.out F3 g3 (p : Int)); clear F3 g3)
        | (at_builtin; refine wpl_appz_len (t := 42) (e := 3) rfl (.tmp 28) (.tmp 30) rfl Tryz.underlying42 info3 w.heap.size u6 ps [(p : Int)] rfl FF.out.2.1 (some ⟨w2.heap.size, 0, none⟩) 1 1 (by rfl) FF.out.2.2.2.1 (fun h => by cases h) rfl Q2.out FF.out.2.2.2.2 ?_; intro v2 w3 Z3 g3
           have GG := Lib.hid (scan_two FF.out.1 FF.out.2.1 FF.out.2.2.1 FF.out.2.2.2.2 g3); clear g3))
      go_roundw
      case rel => exact ⟨_, _, p + m, g, by go_num, hq2, GG.out.1, Z3, GG.out.2, CN.out⟩
      case measure => simp [RowKit.intOf]; omega
    · have CE := Lib.hid (come_end hC.out h0)
      have F1 := Lib.hid (ownf_below hF.out b1)
      have Z1 : Hid (OwnZ w1 w.heap.size u6 ps) := row_below hZ.out b1
      have B1 := Lib.hid (hB.out.trans (b1.mono hB.out.size))
      have e1 : (ec == 0) = false := by simpa using hec
      have e2 : decide (ec = 0) = false := by simpa using hec
      clear h0 C21 b1 hF hZ hB hC
      go_wp2_with fail
      go_ret3
      exact ansS CE.out (below_chain B1.out (al1 _ _)) u5 u6 rfl (ownf_below F1.out (al1 _ _)) (row_below Z1.out (al1 _ _))
end Go.Proofs.YtekaboomhljdoaaGreatDoor.Sh
namespace Go.Proofs.YtekaboomhljdoaaGreatDoor.Sh
open Lb Go.Proofs.YtekaboomhljdoaaGreatDoor.Pc Go.RowKit Go.Lib
open Go.Proofs.YtekaboomhljdoaaGreatDoor.Dk hiding Blk made_any size_any below_chain

theorem flat_secs (l : List UInt8) (N a : Nat) (hl : l.length = 256 * N) : ∀ m, a + m ≤ N → flat (fun i => (secs l N).getD i []) a m = (l.drop (256 * a)).take (256 * m)
  | 0, _ => by simp [flat_zero]
  | m + 1, h => by
    rw [flat_succ, flat_secs l N a hl m (by omega)]
    have e : (secs l N).getD (a + m) [] = (l.drop (256 * (a + m))).take 256 := by
      rw [List.getD, List.getElem?_eq_getElem (by rw [secs_len]; omega)]
      simp [secs, secN]
    rw [e, show 256 * (m + 1) = 256 * m + 256 by omega, List.take_add, List.drop_drop, show 256 * a + 256 * m = 256 * (a + m) by omega]
theorem load_at (w : World) (b o : Nat) (l : List UInt8) (N M c : Nat) (h : Byt w (some ⟨b, o, none⟩) l) (hl : l.length = M) (hM : M = 256 * N) (h1 : 1 ≤ N) (h2 : N ≤ 4096) (hc : M ≤ c) (hc2 : c ≤ 9223372036854775807) : Calls Tryz.prog 11 #[.slice (some ⟨b, o, none⟩) M c, .int .i64 0] w fun e w' => Below w.heap.size w w' ∧ ∃ g sa mb S, e = .returned (.tuple #[.pointer (some ⟨g, 0, none⟩), .int .i64 0]) ∧ w.heap.size ≤ g ∧ w.heap.size ≤ sa ∧ w.heap.size ≤ mb ∧ Dev w' g sa mb 0 N (fun i => (secs l N).getD i []) S true 0 := by
  refine Calls.mono (load_ok b o c N M l 0 w h hl hM h1 h2 (Nat.zero_le _) hc hc2) ?_
  rintro e w' ⟨hb, g, sa, mb, rfl, k1, k2, k3, hd⟩
  exact ⟨hb, g, sa, mb, _, rfl, k1, k2, k3, dev_made (low := 0) hd (secs_len _ _) h1 h2⟩
theorem room_pac {B : Nat} {w : World} {p g a : Nat} {rs : List Rcd} (h : Pac B w p g a rs false) : Calls Tryz.prog 20 #[.pointer (some ⟨p, 0, none⟩)] w fun e w' => e = .returned (.int .i64 (16384 - (((allR rs).length : Nat) : Int))) ∧ w' = w := by
  obtain ⟨vr, vp, h1, _⟩ := h.row
  have hf := h.fit
  exact (room_any h1 (by omega) (by omega)).mono fun e w' hh => ⟨by rw [hh.1]; rfl, hh.2⟩
theorem frw_one {W : World} {r : Rcd} {a : Option Addr} {c : Nat} (hy : Byt W a r.2) (hn : a = none → c = 0) (hc : r.2.length ≤ c) (hcc : c ≤ 9223372036854775807) : Frw (W.alloc (.cells #[.int .i64 (r.1.toNat : Int), .string (keyS (r.1.toNat : Nat) r.2), .slice a r.2.length c] 29)) (some ⟨W.heap.size, 0, none⟩) [r] := fun _ => by
  have hb := Blk.new W [.int .i64 (r.1.toNat : Int), .string (keyS (r.1.toNat : Nat) r.2), .slice a r.2.length c] 29 _ rfl
  refine ⟨W.heap.size, 0, rfl, by simp, fun j x hx => ?_⟩
  obtain ⟨hj, rfl⟩ := List.getElem?_eq_some_iff.1 hx
  obtain rfl : j = 0 := by simp at hj; omega
  exact ⟨a, c, hb.cell 0, hb.cell 1, hb.cell 2, hy.below (al1 W _), hn, hc, hcc⟩
set_option maxHeartbeats 8000000 in
set_option maxRecDepth 100000 in
theorem reads_law (ao : Option Addr) (b : List UInt8) (n c : Nat) (at_ : Int) (a0 a1 : Addr) (w : World) (hE : Env w a0 a1) (h : Byt w ao b) (hn : ao = none → c = 0) (hb : b.length = n) (hc : n ≤ c) (hc2 : c ≤ 9223372036854775807) (h0 : -9223372036854775808 ≤ at_) (h1 : at_ ≤ 9223372036854775807) :
    Calls Tryz.prog 4 #[.slice ao n c, .int .i64 at_] w fun e w' => e = .returned (.bool true) ∧ Below w.heap.size w w' := by
  have E0 := Lib.hid hE
  have CH := Lib.hid (fun W (hb : Below w.heap.size w W) => heads_any a0 a1 W (hE.below hb))
  have B0 := Lib.hid (Below.refl w.heap.size w)
  have CHW := Lib.hid (CH.out _ B0.out)
  clear hE
  by_cases g1 : 16384 ≤ n
  case neg =>
    have d1 : decide ((n : Int) < 16384) = true := by simp; omega
    clear h hn hb hc hc2 h0 h1 g1
    go_enter Tryz.func4, Tryz.ntmps4
    go_wp2_with fail
    refine CHW.out.mono ?_
    rintro e w1 ⟨rfl, b1⟩
    go_wp2_with fail
    go_ret
    exact ⟨rfl, b1⟩
  have d1 : decide ((n : Int) < 16384) = false := by simp; omega
  by_cases g2 : n ≤ 17920
  case neg =>
    have d2 : decide ((17920 : Int) < (n : Int)) = true := by simp; omega
    clear h hn hb hc hc2 h0 h1 g1 g2
    go_enter Tryz.func4, Tryz.ntmps4
    go_wp2_with fail
    refine CHW.out.mono ?_
    rintro e w1 ⟨rfl, b1⟩
    go_wp2_with fail
    go_ret
    exact ⟨rfl, b1⟩
  have d2 : decide ((17920 : Int) < (n : Int)) = false := by simp; omega
  by_cases g3 : n % 256 = 0
  case neg =>
    have d3 : ((n : Int) % 256 == 0) = false := by simp; omega
    have d4 : (((n : Int).tmod 256) == 0) = false := by rw [Int.tmod_eq_emod_of_nonneg (by omega)]; exact d3
    have d5 : decide ((n : Int) % 256 = 0) = false := by simp; omega
    have d6 : ¬ ((n : Int) % 256 = 0) := by omega
    have q0 : (0 : Int) ≤ (n : Int) := by omega
    clear h hn hb hc hc2 h0 h1 g1 g2 g3
    go_enter Tryz.func4, Tryz.ntmps4
    go_wp2_with fail
    all_goals try (exfalso; omega)
    refine CHW.out.mono ?_
    rintro e w1 ⟨rfl, b1⟩
    go_wp2_with fail
    go_ret
    exact ⟨rfl, b1⟩
  obtain ⟨N, hN⟩ : ∃ N, n = 256 * N := ⟨n / 256, by omega⟩
  have d3 : ((n : Int) % 256 == 0) = true := by simp; omega
  have d4 : (((n : Int).tmod 256) == 0) = true := by rw [Int.tmod_eq_emod_of_nonneg (by omega)]; exact d3
  have d5 : decide ((n : Int) % 256 = 0) = true := by simp; omega
  have d6 : (n : Int) % 256 = 0 := by omega
  have q0 : (0 : Int) ≤ (n : Int) := by omega
  have nN : (n : Int) / 256 = (N : Int) := by omega
  have nN2 : (n : Int).tdiv 256 = (N : Int) := by rw [Int.tdiv_eq_ediv_of_nonneg (by omega)]; exact nN
  have N1 : 64 ≤ N := by omega
  have N2 : N ≤ 70 := by omega
  obtain ⟨bb, oo, rfl, hlt, _⟩ := h (by intro h0; rw [h0] at hb; simp at hb; omega)
  have CL := Lib.hid (load_at w bb oo b N n c h hb hN (by omega) (by omega) hc hc2)
  have H0 := Lib.hid h
  have HB := Lib.hid hb
  have HN := Lib.hid hN
  clear h hn hb hN hlt CHW
  go_enter Tryz.func4, Tryz.ntmps4
  go_wp2_with fail
  all_goals try (exfalso; omega)
  refine CL.out.mono ?_
  rintro e w2 ⟨b2, g, sa, mb, S, rfl, h2, h3, h4, hd⟩
  obtain ⟨V, hV⟩ : ∃ V : Nat → List UInt8, V = fun i => (secs b N).getD i [] := ⟨_, rfl⟩
  rw [← hV] at hd
  have HVV := Lib.hid hV
  have B2 := Lib.hid b2
  have D2 := Lib.hid hd
  clear b2 h2 h3 h4 hd hV CL
  by_cases hin : 0 ≤ at_ ∧ at_ ≤ (N : Int) - 64
  case neg =>
    have CO := Lib.hid (open_out D2.out at_ (by unfold withinB; simp; omega))
    have CHW := Lib.hid (fun (W : World) (hW : Below w2.heap.size w2 W) => CH.out _ (below_chain B2.out hW))
    rcases (show at_ < 0 ∨ (0 ≤ at_ ∧ (N : Int) - 64 < at_) by omega) with z1 | ⟨z1, z2⟩
    · have e1 : decide (at_ < 0) = true := by simp; omega
      clear hin D2
      go_wp2_with fail
      all_goals try (exfalso; omega)
      refine CO.out.mono ?_
      rintro e w3 ⟨rfl, b3⟩
      have B3 := Lib.hid b3
      clear b3 CO
      go_wp2_with fail
      all_goals try (exfalso; omega)
      refine (CHW.out _ B3.out).mono ?_
      rintro e w4 ⟨rfl, b4⟩
      go_wp2_with fail
      go_ret
      exact ⟨rfl, below_chain (below_chain B2.out B3.out) b4⟩
    · have e1 : decide (at_ < 0) = false := by simp; omega
      have e2 : decide ((N : Int) - 64 < at_) = true := by simp; omega
      clear hin D2
      go_wp2_with fail
      all_goals try (exfalso; omega)
      refine CO.out.mono ?_
      rintro e w3 ⟨rfl, b3⟩
      have B3 := Lib.hid b3
      clear b3 CO
      go_wp2_with fail
      all_goals try (exfalso; omega)
      refine (CHW.out _ B3.out).mono ?_
      rintro e w4 ⟨rfl, b4⟩
      go_wp2_with fail
      go_ret
      exact ⟨rfl, below_chain (below_chain B2.out B3.out) b4⟩
  obtain ⟨a, rfl⟩ : ∃ a : Nat, at_ = (a : Int) := ⟨at_.toNat, by omega⟩
  have haN : a + 64 ≤ N := by omega
  have e1 : decide ((a : Int) < 0) = false := by simp
  have e2 : decide ((N : Int) - 64 < (a : Int)) = false := by simp; omega
  have CO := Lib.hid (open_ok D2.out haN a0 a1 (E0.out.below B2.out))
  obtain ⟨F, hF⟩ : ∃ F, F = flat V a 64 := ⟨_, rfl⟩
  have HF : Hid (F = (b.drop (256 * a)).take 16384) := by
    show _ = _
    rw [hF, HVV.out, flat_secs b N a (by rw [HB.out, HN.out]) 64 haN]
  obtain ⟨sa1, sa2, sa3, sa4⟩ := scan_again F
  have FL : F.length = 16384 := by rw [HF.out, List.length_take, List.length_drop, HB.out]; have := HN.out; omega
  obtain ⟨rs, hrs⟩ : ∃ rs, rs = (Fr.scanL F).1 := ⟨_, rfl⟩
  obtain ⟨en, hen⟩ : ∃ en, en = (allR rs).length := ⟨_, rfl⟩
  have HH : Hid (Hold V a rs) := by show (flat V a 64).take _ = _; rw [← hF, hrs]; exact sa3
  rw [← hF, ← hrs] at CO
  obtain ⟨p, hp⟩ : ∃ p, p = 256 * a := ⟨_, rfl⟩
  obtain ⟨NN, hNN⟩ : ∃ NN, NN = 16384 := ⟨_, rfl⟩
  obtain ⟨q, hq⟩ : ∃ q, q = p + NN := ⟨_, rfl⟩
  have qn : q ≤ n := by have := HN.out; omega
  have CS : Hid (∀ W, Below w2.heap.size w2 W → Calls Tryz.prog 18 #[.slice (some ⟨bb, oo + p, none⟩) NN (c - p)] W (AnsS F W)) := fun W hW => by
    have hy : Byt W (some ⟨bb, oo + p, none⟩) F := by rw [HF.out, hp]; exact ((H0.out.below (below_chain B2.out hW)).drop _).take _
    exact refscan_any _ F NN (c - p) W hy (fun h => by cases h) (by rw [FL, hNN]) (by omega) (by omega) (by omega)
  have ANS : Hid ((Fr.scanL F).1 = rs ∧ (Fr.scanL F).2.1 = offs 0 rs ∧ (Fr.scanL F).2.2 = en) := ⟨hrs.symm, by rw [hrs]; exact sa1, by rw [hen, hrs]; exact sa2⟩
  have GD : Hid (∀ r ∈ rs, GoodR r) := by rw [hrs]; exact sa4
  have EN : en ≤ 16384 := by
    have h := congrArg List.length sa3
    rw [List.length_take, FL, ← hrs] at h
    omega
  have sl := fun W => slice_be bb oo n c p q NN hq.symm (by have := HN.out; omega) qn hc W
  have aI : (a : Int) * 256 = (p : Int) := by omega
  have pI : (p : Int) + 16384 = (q : Int) := by omega
  have HNN := Lib.hid hNN
  have HEN := Lib.hid hen
  have ap : (p : Int) ≤ 100000 := by omega
  have aq : (a : Int) ≤ 100 := by omega
  have aqc : (q : Int) ≤ (n : Int) := by omega
  have apq : (p : Int) ≤ (q : Int) := by omega
  have p00 : (0 : Int) ≤ (p : Int) := by omega
  clear hF hrs hen hp hq hNN sa1 sa2 sa3 sa4 FL hin
  go_wp2_with fail
  all_goals try (exfalso; omega)
  refine CO.out.mono ?_
  rintro e w3 ⟨b3, pk, rfl, hpk⟩
  have P3 := Lib.hid hpk
  have B3 := Lib.hid b3
  have D3 := Lib.hid (D2.out.later b3)
  have CR := Lib.hid (records_any hpk)
  clear b3 hpk CO D2
  go_wp2_with fail
  all_goals try (exfalso; omega)
  refine CR.out.mono ?_
  rintro e w4 ⟨b4, u, vv, rfl, hu, hv⟩
  have B4 := Lib.hid (below_chain B3.out b4)
  have P4 := Lib.hid (P3.out.later b4)
  have D4 := Lib.hid (D3.out.later b4)
  obtain ⟨m, hm⟩ : ∃ m, m = rs.length := ⟨_, rfl⟩
  have HM := Lib.hid hm
  have RL : m ≤ 3000 := by rw [hm]; exact many rs P4.out.fit
  obtain ⟨au, cu, rfl, hcu, hdu, fu, _⟩ := ownf_read hu
  obtain ⟨az, cz, rfl, hcz, hdz, zu, _⟩ := own_zrw hv
  rw [offs_len] at hcz ⊢
  rw [← hm] at hcu hcz ⊢
  have FU := Lib.hid fu
  have ZU := Lib.hid zu
  have CUs := Lib.hid (And.intro hcu (And.intro hdu (And.intro hcz hdz)))
  clear hu hv b4 fu zu CR hm hcu hdu hcz hdz P3 D3
  go_wp2_with fail
  all_goals try (exfalso; omega)
  have Bw2 : Hid (Below w2.heap.size w2 w4) := B4.out
  refine (CS.out _ Bw2.out).mono ?_
  rintro e w5 ⟨b5, us, vs, rfl, hus, hvs⟩
  obtain ⟨t1, t2, t3⟩ := ANS.out
  rw [t1] at hus
  rw [t2] at hvs
  rw [t3]
  have B5 := Lib.hid (below_chain Bw2.out b5)
  have P5 := Lib.hid (P4.out.later b5)
  have D5 := Lib.hid (D4.out.later b5)
  have FU5 := Lib.hid (FU.out.below b5)
  have ZU5 := Lib.hid (ZU.out.below b5)
  obtain ⟨a6, c6, rfl, h61, h62, f6, _⟩ := ownf_read hus
  obtain ⟨a7, c7, rfl, h71, h72, z7, _⟩ := own_zrw hvs
  rw [offs_len] at h71 ⊢
  have hm := HM.out
  rw [← hm] at h61 h71 ⊢
  obtain ⟨hcu, hdu, hcz, hdz⟩ := CUs.out
  have CSM := Lib.hid (recs_same au a6 rs m cu c6 w5 FU5.out f6 hm.symm hcu hdu h61)
  have CI := Lib.hid (fun (W : World) (hW : Below w5.heap.size w5 W) => ints_same az a7 (offs 0 rs) m cz c7 W (ZU5.out.below hW) (z7.below hW) (by rw [offs_len]; exact hm.symm) hcz hdz h71)
  have CRM := Lib.hid (fun (W : World) (hW : Below w5.heap.size w5 W) => room_pac (P5.out.later hW))
  rw [← HEN.out] at CRM
  clear hus hvs b5 t1 t2 t3 f6 z7 hm hcu hdu hcz hdz CUs ANS CS P4 D4 FU ZU B4 h61 h62 h71 h72
  go_wp2_with fail
  all_goals try (exfalso; omega)
  refine CSM.out.mono ?_
  rintro e w6 ⟨rfl, b6⟩
  have B6 := Lib.hid b6
  clear b6 CSM
  go_wp2_with fail
  all_goals try (exfalso; omega)
  refine (CI.out _ B6.out).mono ?_
  rintro e w7 ⟨rfl, b7⟩
  have B57 := Lib.hid (below_chain B6.out b7)
  clear b7 CI B6
  go_wp2_with fail
  all_goals try (exfalso; omega)
  refine (CRM.out _ B57.out).mono ?_
  rintro e w7 ⟨rfl, rfl⟩
  have P7 := Lib.hid (P5.out.later B57.out)
  have D7 := Lib.hid (D5.out.later B57.out)
  have B7 := Lib.hid (below_chain B2.out (below_chain B5.out B57.out))
  have FU7 := Lib.hid (FU5.out.below B57.out)
  have ZP7 := Lib.hid (ZU5.out.below B57.out)
  clear CRM P5 D5 B57 FU5 ZU5
  go_wp2_with fail
  all_goals try (exfalso; omega)
  go_loopw [15] (fun vi wr => ∃ j : Nat, j ≤ m ∧ vi = .int .i64 j ∧ Hid (Below w7.heap.size w7 wr)) (fun vi _ => m - (RowKit.intOf vi).toNat)
  case atStart => exact ⟨0, by omega, rfl, Below.refl _ _⟩
  case round =>
    obtain ⟨j, hj, rfl, hb⟩ := hrel
    by_cases hjn : j < m
    · obtain ⟨r, hr⟩ : ∃ r, rs[j]? = some r := ⟨_, List.getElem?_eq_getElem (by rw [← HM.out]; exact hjn)⟩
      obtain ⟨bp, op, rfl, hbp, hxp⟩ := ZP7.out (by intro h0; have h1 := congrArg List.length h0; rw [offs_len, ← HM.out] at h1; simp at h1; omega)
      have hxj := hxp j (by rw [offs_len, ← HM.out]; exact hjn)
      rw [(List.getElem?_eq_some_iff.1 (offs_get rs 0 j (by rw [← HM.out]; exact hjn))).2, Nat.zero_add] at hxj
      obtain ⟨of, hof⟩ : ∃ of, of = (allR (rs.take j)).length := ⟨_, rfl⟩
      rw [← hof] at hxj
      have p0 := (hb.out.cell (p := ⟨bp, op + j, none⟩) hbp).trans hxj
      have CRD := Lib.hid (pread_some (P7.out.later hb.out) (D7.out.later hb.out) HH.out haN a0 a1 (E0.out.below (below_chain B7.out hb.out)) j r hr of hof)
      have jI : (j : Int) < (m : Int) := by omega
      have j0 : (0 : Int) ≤ (j : Int) := by omega
      have HR := Lib.hid hr
      have HB := Lib.hid hb.out
      clear hr hxp hxj hof hb
      go_wp2_with fail
      refine CRD.out.mono ?_
      rintro e w8 ⟨b8, v8, rfl, ow8⟩
      obtain ⟨a9, c9, rfl, hc9, hd9, y9, n9⟩ := own_byt ow8
      obtain ⟨bk, ok, rfl, hbk, hxk⟩ := FU7.out (by intro h0; have h1 := congrArg List.length h0; rw [← HM.out] at h1; simp at h1; omega)
      obtain ⟨ra, rc, x0, x1, x2, ry, rn, rrc, rrcc⟩ := hxk j r HR.out
      have B78 := below_chain HB.out b8
      obtain ⟨kq, hkq⟩ : ∃ kq : Int, kq = (r.1.toNat : Int) := ⟨_, rfl⟩
      obtain ⟨KS, hKS⟩ : ∃ KS, KS = keyS (r.1.toNat : Nat) r.2 := ⟨_, rfl⟩
      obtain ⟨q, hq⟩ : ∃ q, q = r.2.length := ⟨_, rfl⟩
      rw [← hKS] at x1 ⊢
      rw [← hkq] at x0 ⊢
      rw [← hq] at x2 hc9 rrc ⊢
      have b9 := al1 w8 (.cells #[.int .i64 kq, .string KS, .slice a9 q c9] 29)
      have BXC := Blk.new w8 [.int .i64 kq, .string KS, .slice a9 q c9] 29 _ rfl
      obtain ⟨BX, hBX⟩ : ∃ BX, BX = w8.heap.size := ⟨_, rfl⟩
      have B79 := Lib.hid (below_chain B78 b9)
      have lBX : BX < (w8.alloc (.cells #[.int .i64 kq, .string KS, .slice a9 q c9] 29)).heap.size := by rw [hBX]; simp
      have KK : Hid (∀ W, Below (w8.alloc (.cells #[.int .i64 kq, .string KS, .slice a9 q c9] 29)).heap.size (w8.alloc (.cells #[.int .i64 kq, .string KS, .slice a9 q c9] 29)) W → W.cell? ⟨BX, 0, none⟩ = some (.int .i64 kq) ∧ W.cell? ⟨BX, 1, none⟩ = some (.string KS) ∧ W.cell? ⟨BX, 2, none⟩ = some (.slice a9 q c9) ∧ W.cell? ⟨bk, ok + j * 3, none⟩ = some (.int .i64 kq) ∧ W.cell? ⟨bk, ok + j * 3 + 1, none⟩ = some (.string KS) ∧ W.cell? ⟨bk, ok + j * 3 + 2, none⟩ = some (.slice ra q rc)) := fun W hW => by
        have hk2 := B79.out.trans (hW.mono B79.out.size)
        rw [hBX] at *
        exact ⟨(hW.cell (p := ⟨_, 0, none⟩) lBX).trans (BXC.cell 0), (hW.cell (p := ⟨_, 1, none⟩) lBX).trans (BXC.cell 1), (hW.cell (p := ⟨_, 2, none⟩) lBX).trans (BXC.cell 2), (hk2.cell (p := ⟨bk, ok + j * 3, none⟩) hbk).trans x0, (hk2.cell (p := ⟨bk, ok + j * 3 + 1, none⟩) hbk).trans x1, (hk2.cell (p := ⟨bk, ok + j * 3 + 2, none⟩) hbk).trans x2⟩
      have FA : Hid (∀ W, Below (w8.alloc (.cells #[.int .i64 kq, .string KS, .slice a9 q c9] 29)).heap.size (w8.alloc (.cells #[.int .i64 kq, .string KS, .slice a9 q c9] 29)) W → Frw (W.alloc (.cells #[.int .i64 kq, .string KS, .slice a9 q c9] 29)) (some ⟨W.heap.size, 0, none⟩) [r]) := fun W hW => by
        rw [hkq, hKS, hq]
        exact frw_one (y9.below (below_chain b9 hW)) n9 (by rw [← hq]; exact hc9) hd9
      have FB : Hid (∀ W, Below (w8.alloc (.cells #[.int .i64 kq, .string KS, .slice a9 q c9] 29)).heap.size (w8.alloc (.cells #[.int .i64 kq, .string KS, .slice a9 q c9] 29)) W → Frw (W.alloc (.cells #[.int .i64 kq, .string KS, .slice ra q rc] 29)) (some ⟨W.heap.size, 0, none⟩) [r]) := fun W hW => by
        rw [hkq, hKS, hq]
        exact frw_one (ry.below (B79.out.trans (hW.mono B79.out.size))) rn (by rw [← hq]; exact rrc) rrcc
      have CF : Hid (∀ W (v1 v2 : Option Addr), Frw W v1 [r] → Frw W v2 [r] → Calls Tryz.prog 17 #[.slice v1 1 1, .slice v2 1 1] W fun e w' => e = .returned (.bool true) ∧ Below W.heap.size W w') := fun W v1 v2 f1 f2 => recs_same v1 v2 [r] 1 1 1 W f1 f2 rfl (by decide) (by decide) (by decide)
      clear b8 b9 ow8 y9 n9 hc9 hd9 hxk ry rn rrc rrcc x0 x1 x2 hkq hKS hq BXC lBX B78 p0 CRD
      go_wp2_with fail
      generalize w8.alloc (.cells #[.int .i64 kq, .string KS, .slice a9 q c9] 29) = w9 at *
      rw [← hBX]
      obtain ⟨k0, k1, k2, k3, k4, k5⟩ := KK.out w9 (Below.refl _ _)
      have BQ := Lib.hid (Below.refl w9.heap.size w9).drew
      clear hBX
      have D1 : Hid (Below w9.heap.size w9 ((w9.alloc (.cells #[.int .i64 kq, .string KS, .slice a9 q c9] 29)).alloc (.cells #[.int .i64 kq, .string KS, .slice ra q rc] 29)).drew) := (below_chain (al1 w9 (.cells #[.int .i64 kq, .string KS, .slice a9 q c9] 29)) (al1 _ (.cells #[.int .i64 kq, .string KS, .slice ra q rc] 29))).drew
      have D2 : Hid (Below w9.heap.size w9 ((w9.alloc (.cells #[.int .i64 kq, .string KS, .slice ra q rc] 29)).alloc (.cells #[.int .i64 kq, .string KS, .slice a9 q c9] 29)).drew) := (below_chain (al1 w9 (.cells #[.int .i64 kq, .string KS, .slice ra q rc] 29)) (al1 _ (.cells #[.int .i64 kq, .string KS, .slice a9 q c9] 29))).drew
      have C1 := Lib.hid (CF.out ((w9.alloc (.cells #[.int .i64 kq, .string KS, .slice a9 q c9] 29)).alloc (.cells #[.int .i64 kq, .string KS, .slice ra q rc] 29)).drew (some ⟨w9.heap.size, 0, none⟩) (some ⟨w9.heap.size + 1, 0, none⟩) ((FA.out w9 (Below.refl _ _)).below (al1 _ _).drew) (by
        have h := FB.out (w9.alloc (.cells #[.int .i64 kq, .string KS, .slice a9 q c9] 29)) (al1 _ _)
        have e : (w9.alloc (.cells #[.int .i64 kq, .string KS, .slice a9 q c9] 29)).heap.size = w9.heap.size + 1 := by simp
        rw [e] at h
        exact h.below (Below.refl _ _).drew))
      have C2 := Lib.hid (CF.out ((w9.alloc (.cells #[.int .i64 kq, .string KS, .slice ra q rc] 29)).alloc (.cells #[.int .i64 kq, .string KS, .slice a9 q c9] 29)).drew (some ⟨w9.heap.size + 1, 0, none⟩) (some ⟨w9.heap.size, 0, none⟩) (by
        have h := FA.out (w9.alloc (.cells #[.int .i64 kq, .string KS, .slice ra q rc] 29)) (al1 _ _)
        have e : (w9.alloc (.cells #[.int .i64 kq, .string KS, .slice ra q rc] 29)).heap.size = w9.heap.size + 1 := by simp
        rw [e] at h
        exact h.below (Below.refl _ _).drew) ((FB.out w9 (Below.refl _ _)).below (al1 _ _).drew))
      clear FA FB CF BQ
      go_region_held3 (fun W => W.cell? ⟨BX, 0, none⟩ = some (.int .i64 kq) ∧ W.cell? ⟨BX, 1, none⟩ = some (.string KS) ∧ W.cell? ⟨BX, 2, none⟩ = some (.slice a9 q c9) ∧ W.cell? ⟨bk, ok + j * 3, none⟩ = some (.int .i64 kq) ∧ W.cell? ⟨bk, ok + j * 3 + 1, none⟩ = some (.string KS) ∧ W.cell? ⟨bk, ok + j * 3 + 2, none⟩ = some (.slice ra q rc))
        (first | go_keep | exact ⟨k0, k1, k2, k3, k4, k5⟩)
        ((go_at_call 17; first
          | ((with_reducible refine C1.out.mono ?_); rintro e w12 ⟨rfl, b12⟩; have B12 := Lib.hid (below_chain D1.out b12); obtain ⟨k0, k1, k2, k3, k4, k5⟩ := KK.out _ B12.out)
          | ((with_reducible refine C2.out.mono ?_); rintro e w12 ⟨rfl, b12⟩; have B12 := Lib.hid (below_chain D2.out b12); obtain ⟨k0, k1, k2, k3, k4, k5⟩ := KK.out _ B12.out)))
      all_goals
        clear b12 k0 k1 k2 k3 k4 k5 C1 C2 D1 D2 KK
        have B13 := Lib.hid (below_chain B79.out B12.out)
        go_wp2_with fail
        go_roundw
        case rel => exact ⟨j + 1, by omega, by go_num, B13.out⟩
        case measure => simp [RowKit.intOf]; omega
    · obtain rfl : j = m := by omega
      have B8 := Lib.hid (below_chain B7.out hb.out)
      have CHW := Lib.hid (CH.out _ B8.out)
      clear hb hjn hj B7 P7 D7 FU7 ZP7
      go_wp2_with fail
      refine CHW.out.mono ?_
      rintro e w14 ⟨rfl, b14⟩
      go_wp2_with fail
      go_ret
      exact ⟨rfl, below_chain B8.out b14⟩
end Go.Proofs.YtekaboomhljdoaaGreatDoor.Sh
namespace Go.Proofs.YtekaboomhljdoaaGreatDoor
namespace Sh
open Go.ChangeShapes Go.WideShapes Go.ChangeAt Go.RowKit Go.Lib Go.ChangeMaps

theorem reads_env (ao : Option Addr) (b : List UInt8) (c : Nat) (o : Int) (w : World) (hL : laidMetH Tryz.prog laidAll w) (h : Byt w ao b) (hn : ao = none → c = 0) (hc : b.length ≤ c) (hc2 : c ≤ 9223372036854775807) (h0 : -9223372036854775808 ≤ o) (h1 : o ≤ 9223372036854775807) :
    Calls Tryz.prog 4 #[.slice ao b.length c, .int .i64 o] w fun e w' => e = .returned (.bool true) ∧ Below w.heap.size w w' := by
  obtain ⟨a0, a1, hE⟩ := env_of hL
  exact reads_law ao b b.length c o a0 a1 w hE h hn rfl hc hc2 h0 h1
set_option maxRecDepth 100000 in
/-- WHAT THE WALK GIVES, for every argument and every memory that meets the row. -/
theorem packReads_contract (H : Type) (enc : TypeId × Value → H) (W : World) (base : Nat) (args : Array Value) (ds gs : List (DataW H)) (before : List MemPlace)
    (hval : ∀ (j : Nat) t v, Tryz.f4.params[j]? = some t → args[j]? = some v → Value.okWide Tryz.prog W .any base t v)
    (hW : DataW.Whole enc Tryz.prog Tryz.f4.params.toList Rows.packReadsSpec.vars false W args.toList ds gs before) 
    (hsz0 : (DataW.weightsEach Tryz.prog (Tryz.f4.params.toList ++ (OpenSpec.ofChange Rows.packReadsSpec).bare.plain.varTypes Tryz.prog) (ds ++ gs)).all (· ≤ reachBytes) = true) (hL : laidMetH Tryz.prog Rows.packReadsRow.laid W) :
    Calls Tryz.prog 4 args W fun e W' => ∃ v, e = .returned v ∧ Rows.packReadsSpec.post enc Tryz.prog Tryz.f4 false true false false W args v W' := by
  have hsz := hsz0
  clear hsz0
  have hW' := hW
  obtain ⟨p, q, hA0, hV, rfl, hfz, hnd⟩ := hW
  have hA : DataW.TrodAll enc Tryz.prog W 0 (fun _ => true) true Tryz.f4.params.toList args.toList ds p := hA0
  have hAk := hA
  clear hA0
  rw [Tryz.params4] at hA hval hsz
  obtain ⟨rfl, rfl⟩ := trodVars_none hV
  simp only [List.append_nil] at hW' hsz
  have hlt : ∀ x ∈ p, x.block < W.heap.size := fun x hx => by simpa using hW'.lt x hx
  obtain ⟨v0, vs0, d0, ds0, p0, q0, hargs, rfl, hp0, h0, r0⟩ := trodAll_cons hA
  obtain ⟨v1, vs1, d1, ds1, p1, q1, rfl, rfl, hp1, h1, r1⟩ := trodAll_cons r0
  obtain ⟨rfl, rfl, hpn⟩ := trodAll_nil r1
  obtain rfl : args = #[v0, v1] := by cases args; simp_all
  have hlt0 : ∀ x ∈ p0, x.block < W.heap.size := fun x hx => hlt x (by rw [hp0]; exact List.mem_append_left _ hx)
  have hltq0 : ∀ x ∈ q0, x.block < W.heap.size := fun x hx => hlt x (by rw [hp0]; exact List.mem_append_right _ hx)
  have hlt1 : ∀ x ∈ p1, x.block < W.heap.size := fun x hx => hltq0 x (by rw [hp1]; exact List.mem_append_left _ hx)
  have hltq1 : ∀ x ∈ q1, x.block < W.heap.size := fun x hx => hltq0 x (by rw [hp1]; exact List.mem_append_right _ hx)
  obtain ⟨ab, b, cb, rfl, hbc, hbm, hbr, hbn, e0⟩ := open_byt Tryz.underlying24 Tryz.underlying5 cells5 (hval 0 24 v0 rfl rfl) h0 hlt0
  have hbz := reach_byt hsz (j := 0) (d := d0) rfl rfl e0
  obtain ⟨n, rfl, rfl, rfl, ws1⟩ := open_int Tryz.underlying3 (hval 1 3 v1 rfl rfl) h1
  obtain ⟨hn0, hn1⟩ := bounds_i64 ws1
  refine (reads_env ab b cb n W hL hbr hbn hbc hbm hn0 hn1).mono fun e W' ⟨he, hb⟩ => ?_
  subst he
  exact ⟨_, rfl, _, _, _, [], p, [], hW', trodAll_mk1 (shut_bool Tryz.underlying4 _), below_trodAll laidOut hb _ _ _ _ (by kernel_rfl) hAk hlt, rfl, hb.frame _, fun h => by cases h⟩

theorem packReads_reads (os : Os) {H : Type} (enc : TypeId × Value → H) : ∃ places, DataW.whole enc Tryz.prog ((laidWorld os).forCall (fun _ _ => 0) ⟨#[], #[.slice none 0 0, .int .i64 0], []⟩).memory Tryz.f4.params.toList Rows.packReadsSpec.vars false (#[Value.slice none 0 0, Value.int .i64 0] : Array Value).toList 8 = some ([.nil, .lit (.int .i64 0)], [], places) :=
  ⟨[], by kernel_rfl⟩

set_option maxRecDepth 100000 in
theorem packReads_lifted (os : Os) (started : os.Started) (H : Type) (enc : TypeId × Value → H) (F : Stop.Interp) :
    ReturnsInHanded {} Tryz.checked os 4 .any ((OpenSpec.ofChange Rows.packReadsSpec).preRow enc Tryz.prog Tryz.f4 Rows.packReadsRow.domain false Rows.packReadsRow.laid) (((OpenSpec.ofChange Rows.packReadsSpec).at F).post enc Tryz.prog Tryz.f4 false true false false) := by
  obtain ⟨places, hx⟩ := packReads_reads os enc
  refine returnsInHanded_of_row (C := Tryz.checked) (s := OpenSpec.ofChange Rows.packReadsSpec) own started (by kernel_rfl) Tryz.func4 ?_ ?_
  · refine ⟨laidWorld os, fun _ _ => 0, ⟨#[], #[.slice none 0 0, .int .i64 0], []⟩, laidWorld_os os, laidWorld_shaped os _, rfl, (Input.okWide_of_okWideB (by kernel_rfl)).2, ?_, ?_⟩
    · exact OpenSpec.preRow_of_cond 8 hx (by kernel_rfl) (fun k hk => by cases hk) (by kernel_rfl) (laidWorld_met os _)
    · simp only [Assume.holds]
      exact ⟨by simp, by simp, fun _ => Modest.zero, by simp, by simp⟩
  intro W base args ds gs before hval hW _ _ hsz hL hsh _
  exact packReads_contract H enc W base args ds gs before hval hW hsz hL

theorem packReads_said : Rows.PackReadsSaid :=
  OpenClaim.holds_of_cond 4 Tryz.f4 rfl rfl rfl rfl rfl rfl rfl ⟨rfl, rfl, rfl, rfl, rfl⟩ rfl rfl rfl rfl rfl (by kernel_rfl) Tryz.func4 (by kernel_rfl)
    (of_decide_eq_true (by kernel_rfl)) (by unfold Func.isWrapper; first | (rw [if_pos (by decide +kernel)]; kernel_rfl) | (rw [if_neg (by decide +kernel)]; exact ⟨rfl, rfl⟩))
    (fun os started H enc _ F => by rw [OpenClaim.pre_eq_preRow]; exact packReads_lifted os started H enc F)
end Sh
theorem packReads_plain (f : FuncId) (fn : Func) (hf : Tryz.pinned.checked.prog.funcNamed Rows.packReadsRow.func = some f) (hfn : Tryz.pinned.checked.prog.funcs[f]? = some fn) :
    true = Tryz.pinned.checked.prog.looks [] ∧ ∀ (j : Nat) t, fn.params[j]? = some t → Tryz.pinned.checked.prog.wantsStandIn t = false := by
  obtain rfl : f = 4 := Option.some.inj ((show Tryz.prog.funcNamed Rows.packReadsRow.func = some 4 by kernel_rfl).symm.trans hf) |>.symm
  obtain rfl : fn = Tryz.f4 := (Option.some.inj (Tryz.func4.symm.trans hfn)).symm
  refine ⟨by kernel_rfl, fun j t ht => ?_⟩
  rw [Tryz.params4] at ht
  have hm : t ∈ [24, 3] := by simpa using Array.mem_of_getElem? ht
  have hall : ([24, 3].all fun u => !Tryz.prog.wantsStandIn u) = true := by kernel_rfl
  exact (show Tryz.prog.wantsStandIn t = false by simpa using List.all_eq_true.1 hall t hm)
/-- THE STATEMENT. -/
theorem packReads_card : Rows.PackReadsCardSaid :=
  Claim7.holds_tied_plain_at .later [] _ _ _ _ Sh.packReads_said (fun _ h => by cases h) (by kernel_rfl) (fun _ h => by cases h) packReads_row_tie rfl ⟨rfl, rfl⟩ (by kernel_rfl) rfl packReads_plain (by kernel_rfl)
end Go.Proofs.YtekaboomhljdoaaGreatDoor
