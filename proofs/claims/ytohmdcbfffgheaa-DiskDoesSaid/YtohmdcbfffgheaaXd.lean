/-
  Small laws on devices, and the contract of the page's own Ints, where two rows are the same. Conditions: each law's own.
-/
import Derived.Test.YtohmdcbfffgheaaXc
namespace Go.Proofs.Ytohmdcbfffgheaa.Dk
open Go.RowKit Go.Lib Go.Maps
variable {w : World} {g sa mb : Nat} {S : List (List UInt8)} {low : Int} {k : Nat} {D : DataW Unit} {pw : Bool} {left nw : Int}
/-- a device whose own cells alone are turned -/
theorem DevS.turn (h : DevS w g sa mb S low k D pw left nw) {w' : World} {low2 : Int} {pw2 : Bool} {left2 nw2 : Int} (hg : w.grownBy w' (some g)) (hd : Dv w' g (some ⟨sa, 0, none⟩) S.length S.length low2 (some mb) pw2 left2 nw2) : DevS w' g sa mb S low2 k D pw2 left2 nw2 := by
  obtain ⟨a1, a2, a3⟩ := h.apart
  refine ⟨hd, (fr_grown hg (N := [g]) (by simp)).blk h.sec (by simpa using a2), h.len, h.map.kept hg (fun e => by injection e with e; exact a1 e.symm)⟩
theorem DevS.later (h : DevS w g sa mb S low k D pw left nw) {w' : World} (hb : Below w.heap.size w w') : DevS w' g sa mb S low k D pw left nw := h.kept (fr_below hb []) (by simp) (by simp) (by simp)
theorem Own.block {w : World} {B : Nat} {v : Value} {l : List UInt8} (h : Own w B v l) (hl : l ≠ []) : ∃ g c, v = .slice (some ⟨g, 0, none⟩) l.length c ∧ B ≤ g ∧ g < w.heap.size ∧ l.length ≤ c ∧ c ≤ 9223372036854775807 := by
  obtain ⟨h1, ⟨_, h2⟩ | ⟨g, cap, cur, e1, e2, e3, e4, e5, e6⟩⟩ := h
  · exact absurd (List.eq_nil_of_length_eq_zero h2) hl
  · exact ⟨g, cap, e1, e2, (Array.getElem?_eq_some_iff.1 e3).1, e4, by unfold maxLen at e5; omega⟩
theorem secL_len (f : UInt8) : (secL f 256).length = 256 := by
  unfold secL
  rw [secTo_len]
  rfl
/-- the law's own sector of 256 bytes: in a new block -/
theorem sector_256 (f : UInt8) (w : World) : Calls Try.prog 12 #[.int .u8 (f.toNat : Int), .int .i64 256] w fun e w' => Below w.heap.size w w' ∧ ∃ b c, e = .returned (.slice (some ⟨b, 0, none⟩) 256 c) ∧ w.heap.size ≤ b ∧ Byt w' (some ⟨b, 0, none⟩) (secL f 256) ∧ 256 ≤ c ∧ c ≤ 9223372036854775807 := by
  refine (sector_any f 256 w).mono ?_
  rintro e w' ⟨hb, v, rfl, ho⟩
  obtain ⟨b, c, rfl, h1, _, h3, h4⟩ := ho.block (by intro h0; have := secL_len f; rw [h0] at this; simp at this)
  obtain ⟨ao, c2, e2, _, _, hr, _⟩ := own_byt ho
  rw [secL_len] at h3 e2 ⊢
  simp only [Value.slice.injEq, true_and] at e2
  rw [← e2.1] at hr
  exact ⟨hb, b, c, rfl, h1, hr, h3, h4⟩
/-- the cells at an address read as ints -/
def Zrw (w : World) (ao : Option Addr) (l : List Int) : Prop :=
  l ≠ [] → ∃ b o, ao = some ⟨b, o, none⟩ ∧ b < w.heap.size ∧ ∀ j (h : j < l.length), w.cell? ⟨b, o + j, none⟩ = some (.int .i64 l[j])
theorem Zrw.below {w w' : World} {ao : Option Addr} {l : List Int} (h : Zrw w ao l) (hb : Below w.heap.size w w') : Zrw w' ao l := fun hne => by
  obtain ⟨b, o, h1, h2, h3⟩ := h hne
  exact ⟨b, o, h1, Nat.lt_of_lt_of_le h2 hb.size, fun j hj => (hb.cell (p := ⟨b, o + j, none⟩) h2).trans (h3 j hj)⟩
theorem zrw_cellW {w : World} {ao : Option Addr} {l : List Int} (h : Zrw w ao l) (i : Nat) (hi : i < l.length) : ∃ b o, ao = some ⟨b, o, none⟩ ∧ b < w.heap.size ∧ w.cell? ⟨b, o + i, none⟩ = some (.int .i64 (l.getD i 0)) := by
  obtain ⟨b, o, h1, h2, h3⟩ := h (by intro h0; rw [h0] at hi; simp at hi)
  exact ⟨b, o, h1, h2, by rw [h3 i hi, List.getD_eq_getElem?_getD, List.getElem?_eq_getElem hi]; rfl⟩
/-- a row of ints of the call's own, read -/
theorem own_zrw {w : World} {base : Nat} {v : Value} {l : List Int} (h : w.ownsRow base 3 1 v l.length (l.map (Value.int .i64))) :
    ∃ ao c, v = .slice ao l.length c ∧ l.length ≤ c ∧ c ≤ 9223372036854775807 ∧ Zrw w ao l ∧ ∀ p, ao = some p → base ≤ p.block := by
  have hh := h
  obtain ⟨_, ⟨rfl, hl⟩ | ⟨g, cap, cur, rfl, hbg, hg, h1, h2, _⟩⟩ := h
  · have : l = [] := List.eq_nil_of_length_eq_zero hl
    subst this
    exact ⟨none, 0, rfl, Nat.le_refl _, by omega, fun h => absurd rfl h, fun p h => by cases h⟩
  · refine ⟨_, cap, rfl, h1, by unfold maxLen at h2; omega, fun _ => ⟨g, 0, rfl, (Array.getElem?_eq_some_iff.1 hg).1, fun j hj => ?_⟩, fun p h => by injection h with h; rw [← h]; exact hbg⟩
    have hc := hh.cells (g := g) rfl j (.int .i64 l[j]) (by simp [hj])
    rw [WideShapes.add_plain] at hc
    exact hc
set_option maxHeartbeats 1000000 in
set_option maxRecDepth 100000 in
theorem ints_same (ao bo : Option Addr) (l : List Int) (n c d : Nat) (w : World) (h1 : Zrw w ao l) (h2 : Zrw w bo l) (hl : l.length = n) (hc : n ≤ c) (hcc : c ≤ 9223372036854775807) (hd : n ≤ d) :
    Calls Try.prog 28 #[.slice ao n c, .slice bo n d] w fun e w' => e = .returned (.bool true) ∧ Below w.heap.size w w' := by
  have H1 := Lib.hid h1
  have H2 := Lib.hid h2
  have HL := Lib.hid hl
  clear h1 h2 hl
  go_enter Try.func28, Try.ntmps28
  go_wp2_with fail
  go_loopw [5] (fun vi wr => ∃ i : Nat, i ≤ n ∧ vi = .int .i64 i ∧ Hid (Below w.heap.size w wr)) (fun vi _ => n - (RowKit.intOf vi).toNat)
  case atStart => exact ⟨0, by omega, rfl, Below.refl _ w⟩
  case round =>
    obtain ⟨i, hi, rfl, hB⟩ := hrel
    by_cases hin : i < n
    · obtain ⟨b, o, rfl, hb, x0⟩ := zrw_cellW H1.out i (by have := HL.out; omega)
      obtain ⟨b2, o2, rfl, hb2, x2⟩ := zrw_cellW H2.out i (by have := HL.out; omega)
      have e0 := (hB.out.cell (p := ⟨b, o + i, none⟩) hb).trans x0
      have e2 := (hB.out.cell (p := ⟨b2, o2 + i, none⟩) hb2).trans x2
      have q1 : (0 : Int) ≤ (i : Int) := by omega
      have q2 : (i : Int) < (n : Int) := by omega
      have hB2 := Lib.hid hB.out.drew
      generalize l.getD i 0 = s at *
      clear x0 x2 hb hb2 hB
      go_wp2_with fail
      go_region
      generalize wr.drew = wd at *
      go_wp2_with fail
      go_roundw
      case rel => exact ⟨i + 1, by omega, by go_num, hB2⟩
      case measure => simp [RowKit.intOf]; omega
    · obtain rfl : i = n := by omega
      go_wp2_with fail
      go_ret
      exact ⟨rfl, hB.out⟩
/-- what Cached answers of a device whose cache has these sectors -/
theorem cached_is (h : DevS w g sa mb S low k D pw left nw) (h0 : S.length ≠ 0) (hk : k < 1000000) (L : List Int) (hL : ∀ ss : List Int, ss.Perm (intKeys D) → ss.mergeSort (fun x y => decide (x ≤ y)) = L) :
    Calls Try.prog 14 #[.pointer (some ⟨g, 0, none⟩)] w fun e w' => Below w.heap.size w w' ∧ ∃ ao c, e = .returned (.slice ao L.length c) ∧ L.length ≤ c ∧ c ≤ 9223372036854775807 ∧ Keep w' ao [g, sa, mb] L := by
  refine (cached_any h h0 hk).mono ?_
  rintro e w' ⟨hb, v, ss, rfl, hp, hrow, _⟩
  have e1 := hL ss hp
  have e2 : ss.length = L.length := by rw [← e1, List.length_mergeSort]
  rw [e1, e2] at hrow
  obtain ⟨ao, c, rfl, x1, x2, x3, x4⟩ := own_zrw (l := L) (by have : encZ = Value.int .i64 := rfl; rw [this] at hrow; exact hrow)
  refine ⟨hb, ao, c, rfl, x1, x2, fun hne => ?_⟩
  obtain ⟨b, o, y1, y2, y3⟩ := x3 hne
  have y4 := x4 _ y1
  have z1 := h.dv.lt
  have z2 := h.sec.lt
  have z3 := h.map.lt
  exact ⟨b, o, y1, y2, by simp; dsimp only at y4; omega, y3⟩
theorem Keep.later {w w' : World} {ao : Option Addr} {N : List Nat} {ks : List Int} (h : Keep w ao N ks) (hb : Below w.heap.size w w') : Keep w' ao N ks := fun hne => by
  obtain ⟨b, o, h1, h2, h3, h4⟩ := h hne
  exact ⟨b, o, h1, Nat.lt_of_lt_of_le h2 hb.size, h3, fun j hj => (hb.cell (p := ⟨b, o + j, none⟩) h2).trans (h4 j hj)⟩
theorem Keep.turn {w w' : World} {ao : Option Addr} {N : List Nat} {ks : List Int} (h : Keep w ao N ks) (hf : Fr w w' N) : Keep w' ao N ks := fun hne => by
  obtain ⟨b, o, h1, h2, h3, h4⟩ := h hne
  exact ⟨b, o, h1, Nat.lt_of_lt_of_le h2 hf.size, h3, fun j hj => (hf.cell (a := ⟨b, o + j, none⟩) h2 h3).trans (h4 j hj)⟩
theorem Keep.zrw {w : World} {ao : Option Addr} {N : List Nat} {ks : List Int} (h : Keep w ao N ks) : Zrw w ao ks := fun hne => by
  obtain ⟨b, o, h1, h2, _, h4⟩ := h hne
  exact ⟨b, o, h1, h2, h4⟩
end Go.Proofs.Ytohmdcbfffgheaa.Dk
