/-
  The contracts of obj's checks of rows: keys, numbers, names, what rises. Conditions: each law's own.
-/
import Derived.Test.YtcgbaiogbcodcaaGreatDoorOa
import Derived.Test.YtcgbaiogbcodcaaGreatDoorRi
import Derived.Test.YtcgbaiogbcodcaaGreatDoorPl
namespace Go.Proofs.YtcgbaiogbcodcaaGreatDoor.Sh
open Go.RowKit Go.Lib Lb

/-- what a check leaves: nothing where all is right, else what goes up -/
def Chk (w : World) (ok : Prop) (e : Ending) (w' : World) : Prop := Below w.heap.size w w' ∧ ((ok ∧ e = .returned (.tuple #[])) ∨ (¬ ok ∧ e = .panicked Wrong))
def AllTo {α : Type} (p : α → Prop) (l : List α) (i : Nat) : Prop := ∀ x ∈ l.take i, p x
theorem allTo_zero {α : Type} (p : α → Prop) (l : List α) : AllTo p l 0 := fun x hx => by simp at hx
theorem allTo_more {α : Type} {p : α → Prop} {l : List α} {i : Nat} {k : α} (h : AllTo p l i) (hk : l[i]? = some k) (ho : p k) : AllTo p l (i + 1) := by
  intro x hx
  rw [List.take_add_one, hk] at hx
  simp only [Option.toList_some, List.mem_append, List.mem_singleton] at hx
  rcases hx with hx | rfl
  · exact h x hx
  · exact ho
theorem allTo_all {α : Type} {p : α → Prop} {l : List α} (h : AllTo p l l.length) : ∀ x ∈ l, p x := fun x hx => h x (by rw [List.take_length]; exact hx)
theorem allTo_of {α : Type} {p : α → Prop} {l : List α} {n : Nat} (h : AllTo p l n) (hn : l.length = n) : ∀ x ∈ l, p x := allTo_all (by rw [hn]; exact h)

theorem need_q (w : World) : Calls Tryz.prog 91 #[.bool true] w fun e w' => e = .returned (.tuple #[]) ∧ w' = w := (need_yes w).mono fun _ _ h => ⟨h.1, h.2.symm⟩
set_option maxHeartbeats 1000000 in
set_option maxRecDepth 100000 in
theorem checknums_any (ao : Option Addr) (l : List Int) (n c : Nat) (lo : Int) (w : World) (h : Zrw w ao l) (hln : l.length = n) (hc : n ≤ c) (hcc : c ≤ 9223372036854775807) :
    Calls Tryz.prog 99 #[.slice ao n c, .int .i64 lo] w (Chk w (∀ x ∈ l, within x lo 1024)) := by
  have H := Lib.hid h
  have HL := Lib.hid hln
  have B0 := Lib.hid (Below.refl w.heap.size w)
  clear h hln
  go_enter Tryz.func99, Tryz.ntmps99
  go_wp2_with fail
  go_loopw [8] (fun vi wr => ∃ i : Nat, i ≤ n ∧ vi = .int .i64 i ∧ Hid (Below w.heap.size w wr) ∧ Hid (AllTo (fun x => within x lo 1024) l i)) (fun vi _ => n - (RowKit.intOf vi).toNat)
  case atStart => exact ⟨0, by omega, rfl, B0, allTo_zero _ _⟩
  case round =>
    obtain ⟨i, hi, rfl, hB, hT⟩ := hrel
    by_cases hin : i < n
    · obtain ⟨b, o, rfl, hb, hcell⟩ := zrw_cell H.out i (by have := HL.out; omega)
      obtain ⟨x, hx⟩ : ∃ x, l[i]? = some x := ⟨_, List.getElem?_eq_getElem (by have := HL.out; omega)⟩
      have HX := Lib.hid hx
      have d1 : wr.cell? ⟨b, o + i, none⟩ = some (.int .i64 x) := (hB.out.cell (p := ⟨b, o + i, none⟩) hb).trans (hcell i x hx)
      have q1 : (0 : Int) ≤ (i : Int) := by omega
      have q2 : (i : Int) < (n : Int) := by omega
      have CW := Lib.hid (withini_any x lo 1024 wr)
      clear hx hcell hb
      go_wp2_with fail
      refine CW.out.mono ?_
      rintro e w1 ⟨rfl, rfl⟩
      by_cases hw : within x lo 1024
      · have hT2 : Hid (AllTo (fun x => within x lo 1024) l (i + 1)) := allTo_more hT.out HX.out hw
        have t : decide (within x lo 1024) = true := by simpa using hw
        rw [t]
        clear hw t
        go_wp2_with fail
        refine (need_yes _).mono ?_
        rintro e w2 ⟨rfl, rfl⟩
        go_wp2_with fail
        go_roundw
        case rel => exact ⟨i + 1, by omega, by go_num, hB, hT2⟩
        case measure => simp [RowKit.intOf]; omega
      · have HF : Hid (¬ ∀ k ∈ l, within k lo 1024) := fun h0 => hw (h0 x (List.mem_of_getElem? HX.out))
        have t : decide (within x lo 1024) = false := by simpa using hw
        rw [t]
        clear hw t
        go_wp2_with fail
        refine (need_no _).mono ?_
        rintro e w2 ⟨rfl, rfl⟩
        exact ⟨rfl, hB.out, .inr ⟨HF.out, rfl⟩⟩
    · obtain rfl : i = n := by omega
      go_wp2_with fail
      go_end0
      exact ⟨hB.out, .inl ⟨allTo_of hT.out HL.out, rfl⟩⟩
/-- as far as i, each is above the one ahead of it -/
def RiseTo {α : Type} (lt : α → α → Bool) (l : List α) (i : Nat) : Prop := ∀ j x y, j + 1 < i → l[j]? = some x → l[j + 1]? = some y → lt x y = true
theorem riseTo_one {α : Type} (lt : α → α → Bool) (l : List α) : RiseTo lt l 1 := fun j x y h => by omega
theorem riseTo_more {α : Type} {lt : α → α → Bool} {l : List α} {j : Nat} {x y : α} (h : RiseTo lt l (j + 1)) (hx : l[j]? = some x) (hy : l[j + 1]? = some y) (hxy : lt x y = true) : RiseTo lt l (j + 2) := fun k a b hk ha hb => by
  rcases Nat.lt_or_ge (k + 1) (j + 1) with h1 | h1
  · exact h k a b h1 ha hb
  · obtain rfl : k = j := by omega
    rw [hx] at ha
    rw [hy] at hb
    injection ha with ha
    injection hb with hb
    rw [← ha, ← hb]
    exact hxy
theorem riseTo_all {α : Type} {lt : α → α → Bool} (o : Ords lt) {l : List α} {n : Nat} (h : RiseTo lt l n) (hn : l.length ≤ n) : SU lt l :=
  su_of_next lt o l fun i hi => h i l[i] l[i + 1] (by omega) (List.getElem?_eq_getElem _) (List.getElem?_eq_getElem _)
theorem riseTo_su {α : Type} {lt : α → α → Bool} {l : List α} {j : Nat} {x y : α} (h : SU lt l) (hx : l[j]? = some x) (hy : l[j + 1]? = some y) : lt x y = true := by
  obtain ⟨h1, rfl⟩ := List.getElem?_eq_some_iff.1 hx
  obtain ⟨h2, rfl⟩ := List.getElem?_eq_some_iff.1 hy
  exact su_next lt l h j h2
theorem srw_cells {w : World} {ao : Option Addr} {l : List ByteArray} (h : Srw w ao l) (i : Nat) (hi : i < l.length) : ∃ b o, ao = some ⟨b, o, none⟩ ∧ b < w.heap.size ∧ ∀ j y, l[j]? = some y → w.cell? ⟨b, o + j, none⟩ = some (.string y) := by
  obtain ⟨b, o, h1, h2, h3⟩ := h (by intro h0; rw [h0] at hi; simp at hi)
  refine ⟨b, o, h1, h2, fun j y hy => ?_⟩
  obtain ⟨hj, rfl⟩ := List.getElem?_eq_some_iff.1 hy
  exact h3 j hj
set_option maxHeartbeats 1000000 in
set_option maxRecDepth 100000 in
theorem checkrisings_any (ao : Option Addr) (l : List ByteArray) (n c : Nat) (w : World) (h : Srw w ao l) (hln : l.length = n) (hc : n ≤ c) (hcc : c ≤ 9223372036854775807) :
    Calls Tryz.prog 106 #[.slice ao n c] w (Chk w (SU ltB l)) := by
  have H := Lib.hid h
  have HL := Lib.hid hln
  have B0 := Lib.hid (Below.refl w.heap.size w)
  clear h hln
  go_enter Tryz.func106, Tryz.ntmps106
  go_wp2_with fail
  go_loopw [2] (fun vi wr => ∃ i : Nat, vi = .int .i64 (i : Nat) ∧ 1 ≤ i ∧ i ≤ n + 1 ∧ Hid (Below w.heap.size w wr) ∧ Hid (RiseTo ltB l i)) (fun vi _ => n + 1 - (RowKit.intOf vi).toNat)
  case atStart => exact ⟨1, rfl, by omega, by omega, B0, riseTo_one _ _⟩
  case round =>
    obtain ⟨i, rfl, hi1, hi, hB, hT⟩ := hrel
    by_cases hin : i < n
    · obtain ⟨j, hj⟩ : ∃ j, i = j + 1 := ⟨i - 1, by omega⟩
      obtain ⟨b, o, rfl, hb, hcell⟩ := srw_cells H.out i (by have := HL.out; omega)
      obtain ⟨x, hx⟩ : ∃ x, l[j]? = some x := ⟨_, List.getElem?_eq_getElem (by have := HL.out; omega)⟩
      obtain ⟨y, hy⟩ : ∃ y, l[i]? = some y := ⟨_, List.getElem?_eq_getElem (by have := HL.out; omega)⟩
      have HX := Lib.hid hx
      have HY := Lib.hid hy
      have d1 : wr.cell? ⟨b, o + j, none⟩ = some (.string x) := (hB.out.cell (p := ⟨b, o + j, none⟩) hb).trans (hcell j x hx)
      have d2 : wr.cell? ⟨b, o + i, none⟩ = some (.string y) := (hB.out.cell (p := ⟨b, o + i, none⟩) hb).trans (hcell i y hy)
      have q1 : (0 : Int) ≤ (i : Int) := by omega
      have q2 : (i : Int) < (n : Int) := by omega
      have q3 : IntKind.i64.wrap (j : Int) = (j : Int) := IntWalk.i64_in _ (by omega)
      have q4 : (i : Int) - 1 = (j : Int) := by omega
      have q5 : (0 : Int) ≤ (j : Int) := by omega
      have q6 : (j : Int) < (n : Int) := by omega
      have q7 : j < n := by omega
      have HJ := Lib.hid hj
      clear hx hcell hb hy hj
      obtain ⟨t, ht⟩ : ∃ t, t = Op.bytesLess x.toList y.toList := ⟨_, rfl⟩
      have HTT : Hid (ltB x y = t) := by show _ = _; rw [ht]; rfl
      have hBd := Lib.hid hB.out.drew
      go_wp2_with fail
      go_still_tail 10, (by kernel_rfl)
      change wpList _ _ _ _ _ wr.drew
      rw [← ht]
      clear ht
      generalize wr.drew = w3 at *
      cases t with
      | true =>
        have hT2 : Hid (RiseTo ltB l (i + 1)) := by
          show RiseTo _ _ _
          have e := HJ.out
          subst e
          exact riseTo_more hT.out HX.out HY.out HTT.out
        go_wp2_with fail
        refine (need_yes _).mono ?_
        rintro e w2 ⟨rfl, rfl⟩
        go_wp2_with fail
        go_roundw
        case rel => exact ⟨i + 1, by go_num, by omega, by omega, hBd, hT2⟩
        case measure => simp [RowKit.intOf]; omega
      | false =>
        have HF : Hid (¬ SU ltB l) := fun h0 => by
          have e := HJ.out
          subst e
          have := riseTo_su h0 HX.out HY.out
          rw [HTT.out] at this
          cases this
        go_wp2_with fail
        refine (need_no _).mono ?_
        rintro e w2 ⟨rfl, rfl⟩
        exact ⟨rfl, hBd.out, .inr ⟨HF.out, rfl⟩⟩
    · have hjn : n ≤ i := by omega
      go_wp2_with fail
      go_end0
      exact ⟨hB.out, .inl ⟨riseTo_all ords_B hT.out (by rw [HL.out]; exact hjn), rfl⟩⟩
/-- a name that may be -/
def nameOk (s : ByteArray) : Prop := Go.Proofs.YtcgbaiogbcodcaaGreatDoor.Nm.checkL s.data.toList = 0
set_option maxHeartbeats 1000000 in
set_option maxRecDepth 100000 in
theorem checknames_any (ao : Option Addr) (l : List ByteArray) (n c : Nat) (w : World) (h : Srw w ao l) (hln : l.length = n) (hc : n ≤ c) (hcc : c ≤ 9223372036854775807) :
    Calls Tryz.prog 98 #[.slice ao n c] w (Chk w ((∀ s ∈ l, nameOk s) ∧ SU ltB l)) := by
  have H := Lib.hid h
  have HL := Lib.hid hln
  have B0 := Lib.hid (Below.refl w.heap.size w)
  have CR := Lib.hid (fun W (hb : Below w.heap.size w W) => checkrisings_any ao l n c W (h.below hb) hln hc hcc)
  clear h hln
  go_enter Tryz.func98, Tryz.ntmps98
  go_wp2_with fail
  go_loopw [6] (fun vi wr => ∃ i : Nat, i ≤ n ∧ vi = .int .i64 i ∧ Hid (Below w.heap.size w wr) ∧ Hid (AllTo nameOk l i)) (fun vi _ => n - (RowKit.intOf vi).toNat)
  case atStart => exact ⟨0, by omega, rfl, B0, allTo_zero _ _⟩
  case round =>
    obtain ⟨i, hi, rfl, hB, hT⟩ := hrel
    by_cases hin : i < n
    · obtain ⟨b, o, x, rfl, hb, hx, hcell⟩ := srw_cell H.out i (by have := HL.out; omega)
      have HX := Lib.hid hx
      have d1 : wr.cell? ⟨b, o + i, none⟩ = some (.string x) := (hB.out.cell (p := ⟨b, o + i, none⟩) hb).trans hcell
      have CK := check_any x wr
      have q1 : (0 : Int) ≤ (i : Int) := by omega
      have q2 : (i : Int) < (n : Int) := by omega
      have HN : Hid (nameOk x ↔ Go.Proofs.YtcgbaiogbcodcaaGreatDoor.Nm.checkL x.data.toList = 0) := Iff.rfl
      obtain ⟨y, hy⟩ : ∃ y, y = Go.Proofs.YtcgbaiogbcodcaaGreatDoor.Nm.checkL x.data.toList := ⟨_, rfl⟩
      rw [← hy] at CK HN
      have CK := Lib.hid CK
      clear hx hcell hb hy
      go_wp2_with fail
      refine CK.out.mono ?_
      rintro e w1 ⟨rfl, hb1⟩
      have hB2 : Hid (Below w.heap.size w w1) := below_chain hB.out hb1
      clear hb1
      by_cases hy0 : y = 0
      · subst hy0
        have hT2 : Hid (AllTo nameOk l (i + 1)) := allTo_more hT.out HX.out (HN.out.2 rfl)
        go_wp2_with fail
        refine (need_yes _).mono ?_
        rintro e w2 ⟨rfl, rfl⟩
        go_wp2_with fail
        go_roundw
        case rel => exact ⟨i + 1, by omega, by go_num, hB2, hT2⟩
        case measure => simp [RowKit.intOf]; omega
      · have HF : Hid (¬ ((∀ s ∈ l, nameOk s) ∧ SU ltB l)) := fun h0 => hy0 (HN.out.1 (h0.1 x (List.mem_of_getElem? HX.out)))
        have t : (y == 0) = false := by simpa using hy0
        clear hy0
        go_wp2_with fail
        refine (need_no _).mono ?_
        rintro e w2 ⟨rfl, rfl⟩
        exact ⟨rfl, hB2.out, .inr ⟨HF.out, rfl⟩⟩
    · obtain rfl : i = n := by omega
      go_wp2_with fail
      refine (CR.out _ hB.out).mono ?_
      rintro e w2 ⟨hb2, ⟨hs, rfl⟩ | ⟨hs, rfl⟩⟩
      · have HS := Lib.hid hs
        have hB2 : Hid (Below w.heap.size w w2) := below_chain hB.out hb2
        clear hs hb2
        go_wp2_with fail
        go_end0
        exact ⟨hB2.out, .inl ⟨⟨allTo_of hT.out HL.out, HS.out⟩, rfl⟩⟩
      · exact ⟨rfl, below_chain hB.out hb2, .inr ⟨fun h0 => hs h0.2, rfl⟩⟩
end Go.Proofs.YtcgbaiogbcodcaaGreatDoor.Sh
