/-
  What a crash leaves of each sector; the rows of ints that the statement DiskKeeps keeps beside the device. Conditions: each law's own.
-/
import Derived.Test.YtohmdcbfffgheaaXh
import Derived.Test.YtohmdcbfffgheaaXf
namespace Go.Proofs.Ytohmdcbfffgheaa.Dk
open Go.RowKit Go.Lib Go.Maps
theorem settle_get {D : DataW Unit} {S : List (List UInt8)} {n : Nat} (hI : InD D n) (hn : n ≤ S.length) (x : Int) (j : Nat) :
    (settleS D S x)[j]? = (if x = (j : Int) then secAt D S j else S[j]?) ∧ secAt (settleD D x) (settleS D S x) j = secAt D S j := by
  by_cases hh : Maps.has D (.int .i64 x) = true
  · obtain ⟨h0, h1, l, hl, ha⟩ := hI.2 x hh
    obtain ⟨y, rfl⟩ : ∃ y : Nat, x = (y : Int) := ⟨x.toNat, by omega⟩
    have e : settleS D S (y : Int) = S.set y l := by
      unfold settleS
      rw [ha .nil]
      simp
    rw [e]
    refine ⟨?_, secAt_settle y l (by omega) hh ha j⟩
    by_cases hy : y = j
    · subst hy
      rw [if_pos rfl, List.getElem?_set_self (by omega), secAt, if_pos hh, ha]
    · rw [if_neg (by omega), List.getElem?_set_ne hy]
  · have hh2 : Maps.has D (.int .i64 x) = false := by simpa using hh
    rw [settleS_no hh2, settleD_no hh2]
    refine ⟨?_, rfl⟩
    by_cases hy : x = (j : Int)
    · subst hy
      rw [if_pos rfl, secAt, if_neg hh]
    · rw [if_neg hy]
/-- of each sector a crash leaves what the cache had of it, if it is kept, else what was in it -/
theorem settled_get : ∀ (ks : List Int) {D : DataW Unit} {S : List (List UInt8)} {n : Nat} (_ : InD D n) (_ : n ≤ S.length) (j : Nat), (settled S D ks).1[j]? = if (j : Int) ∈ ks then secAt D S j else S[j]?
  | [], _, _, _, _, _, _ => by simp [settled]
  | x :: ks, D, S, n, hI, hn, j => by
    have e : settled S D (x :: ks) = settled (settleS D S x) (settleD D x) ks := rfl
    obtain ⟨h1, h2⟩ := settle_get hI hn x j
    rw [e, settled_get ks (hI.settle x) (by rw [settleS_len]; exact hn) j, h1, h2]
    by_cases hx : x = (j : Int)
    · subst hx
      simp
    · rw [if_neg hx]
      have : ¬ (j : Int) = x := fun e => hx e.symm
      simp [this]
/-- the bytes that a number of DiskKeeps's rows stands for -/
def want (v : Int) : List UInt8 := if 0 < v then secL (UInt8.ofNat (v - 1).toNat) 256 else zeros
theorem zeros_len : zeros.length = 256 := List.length_replicate
theorem want_len (v : Int) : (want v).length = 256 := by
  unfold want
  split
  · exact secL_len _
  · exact zeros_len
/-- a row of ints of the statement's own -/
def zs (l : List Int) : List Value := l.map (Value.int .i64)
theorem mk32 (N : Nat) (hN : N ≤ 4096) (W : World) : ∃ W', (Instr.makeSlice 32 (.int .i64 (N : Int)) (.int .i64 (N : Int))).run Try.prog W = .ok (.slice (some ⟨W.heap.size, 0, none⟩) N N) W' ∧ Blk W' W.heap.size (zs (List.replicate N 0)) 3 ∧ W.grownBy W' none := by
  have info3d : (Try.prog.info? 3).map (fun i => (i.zero, i.size, i.bytes)) = some (some (.int .i64 0), 1, 8) := by kernel_rfl
  obtain ⟨i4, j0, j1, j2, j3⟩ := info_parts info3d
  obtain ⟨W', h1, h2, h3⟩ := run_make_full (P := Try.prog) (w := W) W.heap.size 32 3 i4 (.int .i64 0) 1 Try.underlying32 j0 j1 j2 .i64 .i64 N (by rw [j3]; omega) (by unfold maxLen; omega) (Nat.le_refl _)
  rw [made_one _ rfl] at h2
  have e : zs (List.replicate N 0) = List.replicate N (.int .i64 0) := by simp [zs]
  rw [e]
  exact ⟨W', h1, full_any h2, h3⟩
theorem zs_set (l : List Int) (i : Nat) (v : Int) : (zs l).set i (.int .i64 v) = zs (l.set i v) := by simp [zs, List.map_set]
theorem zs_get (l : List Int) (i : Nat) (v : Int) (h : l[i]? = some v) : (zs l)[i]? = some (.int .i64 v) := by simp [zs, h]
/-- the cache, told by a row of numbers -/
def RelC (D : DataW Unit) (S : List (List UInt8)) (C : List Int) (N lo : Nat) : Prop :=
  C.length = N ∧ ∀ j, j < N → ∃ v, C[j]? = some v ∧ 0 ≤ v ∧ v ≤ 256 ∧ (j < lo → v = 0) ∧ ((v = 0 ∧ Maps.has D (.int .i64 (j : Int)) = false) ∨ (0 < v ∧ Maps.has D (.int .i64 (j : Int)) = true ∧ secAt D S j = some (want v)))
theorem relC_put {D : DataW Unit} {S : List (List UInt8)} {C : List Int} {N lo : Nat} (h : RelC D S C N lo) (hD : IsMap D) (i : Nat) (f : UInt8) (hlo : lo ≤ i) : RelC (D.put (.int .i64 (i : Int)) (.lit (.string (secL f 256)))) S (C.set i (1 + (f.toNat : Int))) N lo := by
  have hk : WideAt.IsKeyLit (.int .i64 (i : Int)) := by trivial
  have hf : f.toNat < 256 := f.toNat_lt
  refine ⟨by rw [List.length_set]; exact h.1, fun j hj => ?_⟩
  by_cases e : i = j
  · subst e
    refine ⟨1 + (f.toNat : Int), by rw [List.getElem?_set_self (by rw [h.1]; exact hj)], by omega, by omega, fun h9 => by omega, .inr ⟨by omega, has_put_same hD hk _, ?_⟩⟩
    rw [secAt, if_pos (has_put_same hD hk _), atKey_put_same hD hk]
    have e1 : UInt8.ofNat (1 + (f.toNat : Int) - 1).toNat = f := by
      rw [show (1 + (f.toNat : Int) - 1).toNat = f.toNat by omega]
      simp
    rw [want, if_pos (by omega), e1]
  · obtain ⟨v, h1, h2, h3, h4, h5⟩ := h.2 j hj
    have hne : (j : Int) ≠ (i : Int) := by omega
    refine ⟨v, by rw [List.getElem?_set_ne e]; exact h1, h2, h3, h4, ?_⟩
    rw [has_put_other (int_ne hne), secAt, has_put_other (int_ne hne), atKey_put_other (int_ne hne)]
    exact h5
theorem relC_none (S : List (List UInt8)) (N lo : Nat) {D : DataW Unit} (hD : ∀ z, Maps.has D z = false) : RelC D S (List.replicate N 0) N lo :=
  ⟨List.length_replicate, fun j hj => ⟨0, by rw [List.getElem?_replicate, if_pos hj], by omega, by omega, fun _ => rfl, .inl ⟨rfl, hD _⟩⟩⟩
theorem relC_at {D : DataW Unit} {S : List (List UInt8)} {C : List Int} {N lo j : Nat} (h : RelC D S C N lo) (hj : j < N) {v : Int} (hv : C[j]? = some v) : secAt D S j = if 0 < v then some (want v) else S[j]? := by
  obtain ⟨v2, h1, h2, h3, h4, h5⟩ := h.2 j hj
  rw [hv] at h1
  injection h1 with h1
  subst h1
  rcases h5 with ⟨h5, h6⟩ | ⟨h5, h6, h7⟩
  · rw [if_neg (by omega), secAt, if_neg (by rw [h6]; decide)]
  · rw [if_pos h5, h7]
/-- the device and the row beside it -/
def KeepS (w : World) (g sa mb cb : Nat) (S : List (List UInt8)) (lo N : Nat) (C : List Int) (q : Nat) : Prop :=
  ∃ (k : Nat) (D : DataW Unit), DevS w g sa mb S (lo : Int) k D true (-1) (q : Int) ∧ k ≤ q ∧ InD D N ∧ RelC D S C N lo ∧ Blk w cb (zs C) 3
/-- what Write answers of a device that is not armed -/
theorem keep_write {w : World} {g sa mb cb : Nat} {S : List (List UInt8)} {lo N : Nat} {C : List Int} {q : Nat} (h : KeepS w g sa mb cb S lo N C q) (hS : S.length = N) (hN : 1 ≤ N) (hN2 : N ≤ 50) (hq : q ≤ 1000) (a : Int) (f : UInt8) (bb c : Nat) (hb : Byt w (some ⟨bb, 0, none⟩) (secL f 256)) (hbg : bb ≠ g) (hbm : bb ≠ mb) :
    Calls Try.prog 11 #[.pointer (some ⟨g, 0, none⟩), .int .i64 a, .slice (some ⟨bb, 0, none⟩) 256 c] w fun e w' => Fr w w' [g, mb] ∧
      ((∃ i : Nat, a = (i : Int) ∧ lo ≤ i ∧ i < N ∧ e = .returned (.int .i64 0) ∧ ∃ (k : Nat) (D : DataW Unit), DevS w' g sa mb S (lo : Int) k D true (-1) ((q + 1 : Nat) : Int) ∧ k ≤ q + 1 ∧ InD D N ∧ RelC D S (C.set i (1 + (f.toNat : Int))) N lo ∧ Blk w' cb (zs C) 3) ∨
       (∃ z : Int, z ≠ 0 ∧ e = .returned (.int .i64 z) ∧ KeepS w' g sa mb cb S lo N C q)) := by
  have h' := h
  obtain ⟨k, D, hd, hk, hI, hR, hB⟩ := h
  by_cases h1 : a < 0 ∨ (N : Int) ≤ a
  · have hf : foundE S.length true a = 90 := by
      unfold foundE awakeE
      rw [hS, if_neg (by omega : ¬ N = 0)]
      simp
      omega
    refine (write_no hd a (some ⟨bb, 0, none⟩) 256 c 90 hf (by omega)).mono ?_
    rintro e w' ⟨rfl, rfl⟩
    exact ⟨Fr.refl _ _, .inr ⟨90, by omega, rfl, h'⟩⟩
  · obtain ⟨i, rfl⟩ : ∃ i : Nat, a = (i : Int) := ⟨a.toNat, by omega⟩
    have hf : foundE S.length true (i : Int) = 0 := by
      unfold foundE awakeE
      rw [hS, if_neg (by omega : ¬ N = 0)]
      simp
      omega
    by_cases h2 : i < lo
    · refine (write_low hd (i : Int) (some ⟨bb, 0, none⟩) 256 c hf (by omega)).mono ?_
      rintro e w' ⟨rfl, rfl⟩
      exact ⟨Fr.refl _ _, .inr ⟨92, by omega, rfl, h'⟩⟩
    · refine (write_ok hd i bb 0 c (secL f 256) hf (by omega) (by omega) (by omega) hb (secL_len f) (by omega) (by omega) (by omega) (by omega) (by omega) (by omega) hbg hbm).mono ?_
      rintro e w' ⟨rfl, hfr, hd'⟩
      refine ⟨hfr, .inl ⟨i, rfl, by omega, by omega, rfl, k + 1, _, hd', by omega, hI.put i (by omega) _ (secL_len f), relC_put hR hI.1 i f (by omega), hfr.blk hB ?_⟩⟩
      have hc1 := blk_ne hB hd.dv (by decide)
      have hc2 : cb ≠ mb := fun e => by
        subst e
        obtain ⟨es, cl, h2, _⟩ := hd.map
        unfold Blk at hB
        rw [hB] at h2
        cases h2
      simp [hc1, hc2]
end Go.Proofs.Ytohmdcbfffgheaa.Dk
