/-
  The contract of disk's Flush. Conditions: each law's own.
-/
import Derived.Test.YtohmdcbfffgheaaWk
namespace Go.Proofs.Ytohmdcbfffgheaa.Dk
open Go.RowKit Go.Lib Go.Maps
variable {w : World} {g sa mb : Nat} {S : List (List UInt8)} {low : Int} {k : Nat} {D : DataW Unit} {pw : Bool} {left nw : Int}
theorem secR_shape (v : Value) (y : DataW Unit × List MemPlace) (h : secR v = some y) : ∃ l : List UInt8, v = secV l := by
  unfold secR at h
  by_cases hx : ∃ m : List UInt8, v = secV m
  · exact hx
  · rw [dif_neg hx] at h
    cases h
theorem int_shape (key : Value) (kl : Lit) (h : keyOf Try.prog 3 key = some kl) : ∃ x, key = Value.int .i64 x := by
  obtain ⟨x, h1, _⟩ := Maps.keyOf_int_inv Try.underlying3 h
  exact ⟨x, h1⟩
theorem has_struck (D : DataW Unit) (x : Int) (lf : Lit → Bool) (h : ∀ z, lf z = Maps.has D z) (z : Lit) : (lf z && !z.sameKey (.int .i64 x)) = Maps.has (D.del (.int .i64 x)) z := by
  by_cases e : z = .int .i64 x
  · subst e
    rw [has_del_same, WideAt.sameKey_self (by trivial)]
    simp
  · rw [has_del_other e, sameKey_ne e, h z]
    simp
/-- what Read answers is not turned by settling -/
theorem secAt_settle {D : DataW Unit} {S : List (List UInt8)} (x : Nat) (l : List UInt8) (hx : x < S.length) (hh : Maps.has D (.int .i64 (x : Int)) = true) (ha : ∀ z, D.atKey (.int .i64 (x : Int)) z = .lit (.string l)) (i : Nat) :
    secAt (D.del (.int .i64 (x : Int))) (S.set x l) i = secAt D S i := by
  unfold secAt
  by_cases e : i = x
  · subst e
    rw [has_del_same, hh, ha]
    simp [hx]
  · have e2 : (i : Int) ≠ (x : Int) := fun h => e (by omega)
    rw [has_del_other (int_ne e2), atKey_del_other (int_ne e2), List.getElem?_set_ne (fun h => e h.symm)]
set_option maxRecDepth 100000 in
theorem flush_no (h : Dv w g (some ⟨sa, 0, none⟩) S.length S.length low (some mb) pw left nw) (z : Int) (hz : awakeE S.length pw = z) (h0 : z ≠ 0) : Calls Try.prog 18 #[.pointer (some ⟨g, 0, none⟩)] w fun e w' => e = .returned (.int .i64 z) ∧ w' = w := by
  have HF := Lib.hid (awake_any h)
  rw [hz] at HF
  have t1 : (z != 0) = true := by simpa using h0
  clear h hz h0
  go_enter Try.func18, Try.ntmps18
  go_wp2_with fail
  refine HF.out.mono ?_
  rintro e w1 ⟨rfl, rfl⟩
  go_wp2_with fail
  go_ret
  exact ⟨rfl, rfl⟩
set_option maxRecDepth 100000 in
theorem flush_dead (h : Dv w g (some ⟨sa, 0, none⟩) S.length S.length low (some mb) pw 0 nw) (hz : awakeE S.length pw = 0) : Calls Try.prog 18 #[.pointer (some ⟨g, 0, none⟩)] w fun e w' => e = .returned (.int .i64 91) ∧ w.grownBy w' (some g) ∧ Dv w' g (some ⟨sa, 0, none⟩) S.length S.length low (some mb) false 0 nw := by
  have HF := Lib.hid (awake_any h)
  rw [hz] at HF
  have HL := Lib.hid (lasts_dead h)
  clear h hz
  go_enter Try.func18, Try.ntmps18
  go_wp2_with fail
  refine HF.out.mono ?_
  rintro e w1 ⟨rfl, rfl⟩
  go_wp2_with fail
  refine HL.out.mono ?_
  rintro e w2 ⟨rfl, hg, hd⟩
  have HG := Lib.hid hg
  have HD := Lib.hid hd
  clear hg hd
  go_wp2_with fail
  go_ret
  exact ⟨rfl, HG.out, HD.out⟩
/-- what a loop over the cache has done -/
def Flushed (S : List (List UInt8)) (D : DataW Unit) (S1 : List (List UInt8)) (D1 : DataW Unit) : Prop := S1.length = S.length ∧ InD D1 S.length ∧ ∀ i : Nat, secAt D1 S1 i = secAt D S i
set_option maxHeartbeats 4000000 in
set_option maxRecDepth 100000 in
theorem flush_ok (h : DevS w g sa mb S low k D pw left nw) (hI : InD D S.length) (hz : awakeE S.length pw = 0) (hn : S.length ≤ 4096) (hl0 : left ≠ 0) (h0 : -1 ≤ left) (h1 : left ≤ 9223372036854775807) (h2 : 0 ≤ nw) (h3 : nw < 9223372036854775807) :
    Calls Try.prog 18 #[.pointer (some ⟨g, 0, none⟩)] w fun e w' => e = .returned (.int .i64 0) ∧ Fr w w' [g, sa, mb] ∧ ∃ S1 D1, Flushed S D S1 D1 ∧ (∀ z, Maps.has D1 z = false) ∧ DevS w' g sa mb S1 low k D1 pw (if 0 < left then left - 1 else left) (nw + 1) := by
  have HF := Lib.hid (awake_any h.dv)
  rw [hz] at HF
  have HL := Lib.hid (lasts_any h.dv hl0 h0 h1 h2 h3)
  generalize (if 0 < left then left - 1 else left) = lv at HL ⊢
  have HH := Lib.hid h
  have HI := Lib.hid hI
  have HN := Lib.hid hn
  clear h hI hz hn hl0 h0 h1 h2 h3
  go_enter Try.func18, Try.ntmps18
  go_wp2_with fail
  refine HF.out.mono ?_
  rintro e w1 ⟨rfl, rfl⟩
  clear HF
  go_wp2_with fail
  refine HL.out.mono ?_
  rintro e w2 ⟨rfl, hg, hd⟩
  clear HL
  have ap := HH.out.apart
  have HS2 : Hid (DevS w2 g sa mb S low k D pw lv (nw + 1)) := ⟨hd, blk_row HH.out.sec hg (fun e => by injection e with e; exact ap.2.1 e), HH.out.len, HH.out.map.kept hg (fun e => by injection e with e; exact ap.1 e.symm)⟩
  have HF2 := Lib.hid (fr_grown hg (N := [g, sa, mb]) (by simp))
  obtain ⟨_, _, c2, _, _, _⟩ := hd.cells
  have HLS : Hid (sa < w2.heap.size ∧ g < w2.heap.size ∧ mb < w2.heap.size) := ⟨HS2.out.sec.lt, Blk.lt HS2.out.dv, HS2.out.map.lt⟩
  have HMP := Lib.hid HS2.out.map
  clear hg hd ap
  go_wp2_with (first | (at_range; refine wpList_range_own _ rfl _ 59 rfl 3 66 lawI Try.underlying59 secR mb k D rfl HMP.out ?_; intro w3 hrg0 hg0 hs0))
  go_frame
  have hg3 := hg0
  obtain ⟨rr, hrr⟩ : ∃ rr, rr = w2.heap.size := ⟨_, rfl⟩
  rw [← hrr] at hrg0 ⊢
  have A0 : Hid (rr ≠ g ∧ rr ≠ sa ∧ rr ≠ mb ∧ w1.heap.size ≤ rr) := by
    have h1 := HLS.out
    have h2 := HF2.out.size
    exact ⟨by omega, by omega, by omega, by omega⟩
  have R0 : Hid (∃ S1 D1 lf cnt, Fr w1 w3 [g, sa, mb] ∧ Flushed S D S1 D1 ∧ DevS w3 g sa mb S1 low k D1 pw lv (nw + 1) ∧ w3.ranges Try.prog 3 secR mb rr k D1 lf cnt ∧ ∀ z, lf z = Maps.has D1 z) :=
    ⟨S, D, _, _, HF2.out.trans ⟨hg3.os, hg3.tape, hg3.output, hg3.size, fun i hi _ => hg3.block i hi (by simp)⟩, ⟨rfl, HI.out, fun _ => rfl⟩, HS2.out.kept (N := []) ⟨hg3.os, hg3.tape, hg3.output, hg3.size, fun i hi _ => hg3.block i hi (by simp)⟩ (by simp) (by simp) (by simp), hrg0, fun _ => rfl⟩
  clear hrg0 hg0 hg3 hs0 hrr HS2 HLS HMP HF2 HH c2
  go_loopw [4] (fun _ wr => Hid (∃ S1 D1 lf cnt, Fr w1 wr [g, sa, mb] ∧ Flushed S D S1 D1 ∧ DevS wr g sa mb S1 low k D1 pw lv (nw + 1) ∧ wr.ranges Try.prog 3 secR mb rr k D1 lf cnt ∧ ∀ z, lf z = Maps.has D1 z)) (fun _ wr => wr.rangeLeft mb rr)
  case atStart => exact R0
  case round =>
    obtain ⟨S1, D1, lf, cnt, hF, hFl, hD, hrg, hlf⟩ := hrel.out
    have HF3 := Lib.hid hF
    have HFL := Lib.hid hFl
    have HD3 := Lib.hid hD
    have HLF := Lib.hid hlf
    clear hF hFl hD hlf hrel
    go_wp2_with (first
      | (at_next; refine wpList_next_ranges _ rfl _ rfl 3 lawI secR (Value.int .i64) secV int_shape secR_shape mb rr k D1 lf cnt rfl hrg ?_ ?_))
    · intro hc0 hl0
      have hz2 : Hid (∀ z, Maps.has D1 z = false) := fun z => by rw [← HLF.out z]; exact hl0 z
      clear hl0
      go_wp2_with fail
      go_ret
      exact ⟨rfl, HF3.out, S1, D1, HFL.out, hz2.out, HD3.out⟩
    · intro x lz kl y ps w4 cnt4 hkey hlk hv hat hrg4 hlt hg4 hs4 hen
      obtain ⟨x', ex, rfl, _⟩ := Maps.keyOf_int_inv Try.underlying3 hkey
      injection ex with _ ex
      subst ex
      have hh : Maps.has D1 (.int .i64 x) = true := by rw [← HLF.out]; exact hlk
      obtain ⟨a1, a2, l, hl, ha⟩ := HFL.out.2.1.2 x hh
      obtain ⟨n, rfl⟩ := Int.eq_ofNat_of_zero_le a1
      have hlen := HFL.out.1
      have hn1 : n < S1.length := by rw [hlen]; omega
      have a0 := A0.out
      have hfr4 : Fr wr w4 [rr] := fr_grown hg4 (by simp)
      have hd4 : DevS w4 g sa mb S1 low k D1 pw lv (nw + 1) := HD3.out.kept hfr4 (by simp; exact fun e => a0.1 e.symm) (by simp; exact fun e => a0.2.1 e.symm) (by simp; exact fun e => a0.2.2.1 e.symm)
      have C1 := Lib.hid (settle_rng hd4 hrg4 a0.2.1 n hn1 (by rw [hlen]; exact HN.out) l hl hh (ha _))
      have hf4 : Hid (Fr w1 w4 [g, sa, mb]) := by
        refine ⟨hg4.os.trans HF3.out.os, hg4.tape.trans HF3.out.tape, hg4.output.trans HF3.out.output, Nat.le_trans HF3.out.size hg4.size, fun i hi hne => ?_⟩
        refine (hg4.block i (Nat.lt_of_lt_of_le hi HF3.out.size) (fun e => ?_)).trans (HF3.out.block i hi hne)
        injection e with e
        have := a0.2.2.2
        omega
      have hSA : Hid (∀ i : Nat, secAt (D1.del (.int .i64 (n : Int))) (S1.set n l) i = secAt D S i) := fun i => by rw [secAt_settle n l hn1 hh ha i]; exact HFL.out.2.2 i
      have hIN : Hid (InD (D1.del (.int .i64 (n : Int))) S.length) := HFL.out.2.1.settle (n : Int)
      have hLEN : Hid ((S1.set n l).length = S.length) := by show _ = _; rw [List.length_set, hlen]
      have hLT := Lib.hid hlt
      have HL0 := Lib.hid hrg
      clear hd4 hfr4 hg4 hs4 hkey hlk hv hat hrg4 hl ha hh a1 a2 a0 hn1 hlen hlt hrg
      go_wp2_with fail
      refine C1.out.mono ?_
      rintro e w5 ⟨rfl, hf5, hd5, cnt5, hr5, hle5⟩
      rw [strike_twice] at hr5
      have HREL : Hid (∃ S1 D1 lf cnt, Fr w1 w5 [g, sa, mb] ∧ Flushed S D S1 D1 ∧ DevS w5 g sa mb S1 low k D1 pw lv (nw + 1) ∧ w5.ranges Try.prog 3 secR mb rr k D1 lf cnt ∧ ∀ z, lf z = Maps.has D1 z) := by
        refine ⟨_, _, _, _, hf4.out.trans ⟨hf5.os, hf5.tape, hf5.output, hf5.size, fun i hi hne => hf5.block i hi (fun e => hne (by simp at e ⊢; exact .inr e))⟩, ⟨hLEN.out, hIN.out, hSA.out⟩, hd5, hr5, has_struck D1 _ lf HLF.out⟩
      have HM : Hid (w5.rangeLeft mb rr < wr.rangeLeft mb rr) := by
        show _ < _
        rw [hr5.left_eq, HL0.out.left_eq]
        have := hLT.out
        omega
      clear hf5 hd5 hr5 hle5
      go_wp2_with fail
      go_roundw
      case rel => exact HREL
      case measure => exact HM.out
end Go.Proofs.Ytohmdcbfffgheaa.Dk
