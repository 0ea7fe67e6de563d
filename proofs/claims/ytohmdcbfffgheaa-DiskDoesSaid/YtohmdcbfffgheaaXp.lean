/-
  What ties the program's device to the page's: the same sectors, and what is written. No other condition.
-/
import Derived.Test.YtohmdcbfffgheaaXo
import Derived.Test.YtohmdcbfffgheaaXi
namespace Go.Proofs.Ytohmdcbfffgheaa.Dk
open Go.RowKit Go.Lib Go.Maps

/-- what the page's device reads -/
def rget (P : Nat → Option (List UInt8)) (S : List (List UInt8)) (j : Nat) : Option (List UInt8) := match P j with | some l => some l | none => S[j]?
theorem stepS_get (P : Nat → Option (List UInt8)) (S : List (List UInt8)) (i j : Nat) (hi : i < S.length) : (stepS S P i)[j]? = if i = j then rget P S j else S[j]? := by
  unfold stepS rget
  by_cases e : i = j
  · subst e
    rw [if_pos rfl]
    cases P i with
    | none => rfl
    | some s => simp [hi]
  · rw [if_neg e]
    cases P i with
    | none => rfl
    | some s => exact List.getElem?_set_ne e
theorem stepS_rget (P : Nat → Option (List UInt8)) (S : List (List UInt8)) (i j : Nat) (hi : i < S.length) : rget P (stepS S P i) j = rget P S j := by
  unfold rget
  cases h : P j with
  | some s => rfl
  | none =>
    show (stepS S P i)[j]? = S[j]?
    rw [stepS_get P S i j hi]
    split
    · next e => unfold rget; rw [h]
    · rfl
theorem flS_rget (P : Nat → Option (List UInt8)) (S : List (List UInt8)) (j : Nat) : ∀ i, i ≤ S.length → rget P (flS S P i) j = rget P S j
  | 0, _ => rfl
  | i + 1, h => by rw [flS, stepS_rget P _ i j (by rw [flS_len]; omega), flS_rget P S j i (by omega)]
theorem flS_get (P : Nat → Option (List UInt8)) (S : List (List UInt8)) (j : Nat) : ∀ i, i ≤ S.length → (flS S P i)[j]? = if j < i then rget P S j else S[j]?
  | 0, _ => rfl
  | i + 1, h => by
    rw [flS, stepS_get P _ i j (by rw [flS_len]; omega), flS_rget P S j i (by omega), flS_get P S j i (by omega)]
    by_cases e : i = j
    · subst e; simp
    · rw [if_neg e]
      by_cases e2 : j < i
      · rw [if_pos e2, if_pos (by omega)]
      · rw [if_neg e2, if_neg (by omega)]
theorem crStep_get (P : Nat → Option (List UInt8)) (S : List (List UInt8)) (k : Int) (j : Nat) (hj : j < S.length) : (crStep P S k)[j]? = (if k = (j : Int) then rget P S j else S[j]?) ∧ rget P (crStep P S k) j = rget P S j := by
  unfold crStep
  by_cases h : 0 ≤ k ∧ k < (S.length : Int)
  · rw [if_pos h]
    obtain ⟨i, rfl⟩ : ∃ i : Nat, k = (i : Int) := ⟨k.toNat, by omega⟩
    rw [Int.toNat_natCast, stepS_get P S i j (by omega), stepS_rget P S i j (by omega)]
    refine ⟨?_, rfl⟩
    by_cases e : i = j
    · subst e; simp
    · rw [if_neg e, if_neg (by omega)]
  · rw [if_neg h]
    refine ⟨?_, rfl⟩
    rw [if_neg (by omega)]
theorem crS_get (P : Nat → Option (List UInt8)) (j : Nat) : ∀ (ks : List Int) (S : List (List UInt8)) (_ : j < S.length), (crS P S ks)[j]? = if (j : Int) ∈ ks then rget P S j else S[j]?
  | [], S, _ => by simp [crS]
  | k :: ks, S, hj => by
    obtain ⟨h1, h2⟩ := crStep_get P S k j hj
    show (crS P (crStep P S k) ks)[j]? = _
    rw [crS_get P j ks (crStep P S k) (by rw [crStep_len]; exact hj), h1, h2]
    by_cases e : k = (j : Int)
    · subst e; simp
    · have : ¬ (j : Int) = k := fun x => e x.symm
      rw [if_neg e]
      simp [this]
/-- what the cache has of a sector -/
def mget (D : DataW Unit) (i : Nat) : Option (List UInt8) := if Maps.has D (.int .i64 (i : Int)) = true then (match D.atKey (.int .i64 (i : Int)) (.lit (.string zeros)) with | .lit (.string l) => some l | _ => none) else none
/-- the same is written -/
structure Tie (D : DataW Unit) (P : Nat → Option (List UInt8)) (N : Nat) : Prop where
  ind : InD D N
  eq : ∀ i, i < N → P i = mget D i
theorem mget_has {D : DataW Unit} {N i : Nat} (h : InD D N) (hh : Maps.has D (.int .i64 (i : Int)) = true) : ∃ l : List UInt8, l.length = 256 ∧ (∀ z, D.atKey (.int .i64 (i : Int)) z = .lit (.string l)) ∧ mget D i = some l := by
  obtain ⟨_, _, l, hl, ha⟩ := h.2 _ hh
  exact ⟨l, hl, ha, by rw [mget, if_pos hh, ha]⟩
theorem mget_no {D : DataW Unit} {i : Nat} (hh : Maps.has D (.int .i64 (i : Int)) = false) : mget D i = none := by rw [mget, if_neg (by simp [hh])]
theorem Tie.sec {D : DataW Unit} {P : Nat → Option (List UInt8)} {S : List (List UInt8)} (h : Tie D P S.length) {j : Nat} (hj : j < S.length) : secAt D S j = rget P S j := by
  unfold rget
  rw [h.eq j hj]
  cases hh : Maps.has D (.int .i64 (j : Int)) with
  | true =>
    obtain ⟨l, _, ha, hm⟩ := mget_has h.ind hh
    rw [hm, secAt, if_pos hh, ha]
  | false => rw [mget_no hh, secAt, if_neg (by simp [hh])]
theorem Tie.none {D : DataW Unit} {N : Nat} (h : InD D N) (hn : ∀ z, Maps.has D z = false) : Tie D (fun _ => none) N := ⟨h, fun _ _ => (mget_no (hn _)).symm⟩
theorem Tie.nil (N : Nat) : Tie (.map []) (fun _ => Option.none) N := Tie.none (InD.nil N) (fun _ => rfl)
theorem Tie.bel {D1 : DataW Unit} {N : Nat} (h : InD D1 N) (hn : ∀ z, Maps.has D1 z = false) (P : Nat → Option (List UInt8)) : Tie D1 (belP P N) N := ⟨h, fun i hi => by rw [mget_no (hn _), belP, if_pos hi]⟩
theorem Tie.put {D : DataW Unit} {P : Nat → Option (List UInt8)} {N : Nat} (h : Tie D P N) {i : Nat} (hi : i < N) {l : List UInt8} (hl : l.length = 256) : Tie (D.put (.int .i64 (i : Int)) (.lit (.string l))) (putP P i l) N := by
  have hk : WideAt.IsKeyLit (.int .i64 (i : Int)) := by trivial
  refine ⟨h.ind.put i hi l hl, fun j hj => ?_⟩
  by_cases e : j = i
  · subst e
    rw [putP, if_pos rfl, mget, if_pos (has_put_same h.ind.1 hk _), atKey_put_same h.ind.1 hk]
  · have hne : (j : Int) ≠ (i : Int) := by omega
    rw [putP, if_neg e, h.eq j hj, mget, mget, has_put_other (int_ne hne), atKey_put_other (int_ne hne)]
theorem list_ext {S T : List (List UInt8)} (hl : S.length = T.length) (h : ∀ j, j < T.length → S[j]? = T[j]?) : S = T := List.ext_getElem? fun j => by
  rcases Nat.lt_or_ge j T.length with hj | hj
  · exact h j hj
  · rw [List.getElem?_eq_none (by omega), List.getElem?_eq_none hj]
/-- both crashes leave the same sectors -/
theorem Tie.crash {D : DataW Unit} {P : Nat → Option (List UInt8)} {S : List (List UInt8)} (h : Tie D P S.length) (ks : List Int) : (settled S D ks).1 = crS P S ks :=
  list_ext (by rw [settled_len, crS_len]) fun j hj => by
    rw [crS_len] at hj
    rw [settled_get ks h.ind (Nat.le_refl _) j, crS_get P j ks S hj, h.sec hj]
/-- both flushes leave the same sectors -/
theorem Tie.flush {D D1 : DataW Unit} {P : Nat → Option (List UInt8)} {S S1 : List (List UInt8)} (h : Tie D P S.length) (hf : Flushed S D S1 D1) (hn : ∀ z, Maps.has D1 z = false) : S1 = flS S P S.length ∧ Tie D1 (belP P S.length) S.length := by
  obtain ⟨h1, h2, h3⟩ := hf
  refine ⟨list_ext (by rw [h1, flS_len]) fun j hj => ?_, Tie.bel h2 hn P⟩
  rw [flS_len] at hj
  have h4 := h3 j
  rw [secAt, if_neg (by simp [hn])] at h4
  rw [h4, flS_get P S j _ (Nat.le_refl _), if_pos hj, h.sec hj]
/-- the sectors that are written, rising -/
def keyL (P : Nat → Option (List UInt8)) (N : Nat) : List Int := ((List.range N).filter fun i => (P i).isSome).map fun i : Nat => (i : Int)
theorem keyL_succ (P : Nat → Option (List UInt8)) (i : Nat) : keyL P (i + 1) = keyL P i ++ (if (P i).isSome then [(i : Int)] else []) := by
  unfold keyL
  rw [List.range_succ, List.filter_append, List.map_append]
  cases h : (P i).isSome <;> simp [h]
theorem keyL_len (P : Nat → Option (List UInt8)) (N : Nat) : (keyL P N).length ≤ N := by
  unfold keyL
  rw [List.length_map]
  exact Nat.le_trans (List.length_filter_le _ _) (by simp)
theorem Tie.keys {w : World} {g sa mb : Nat} {S : List (List UInt8)} {low : Int} {k : Nat} {D : DataW Unit} {pw : Bool} {left wr : Int} (hd : DevS w g sa mb S low k D pw left wr) {P : Nat → Option (List UInt8)} {N : Nat} (h : Tie D P N) (ss : List Int) (hp : ss.Perm (intKeys D)) : ss.mergeSort (fun x y => decide (x ≤ y)) = keyL P N := by
  obtain ⟨es, hD, hpw, _⟩ := hd.map.entries lawI
  obtain ⟨es', hD', hko⟩ := hd.map.keysOf
  obtain rfl : es = es' := by rw [hD] at hD'; simpa using hD'
  have hnd : (keyL P N).Pairwise (fun x y => x < y) := by
    unfold keyL
    refine List.pairwise_map.2 (List.Pairwise.imp (R := fun a b : Nat => a < b) (fun {a b} hab => by omega) (List.Pairwise.filter _ List.pairwise_lt_range))
  have hm : ∀ x, x ∈ keyL P N ↔ has (.map es) (.int .i64 x) = true := fun x => by
    rw [← hD]
    unfold keyL
    simp only [List.mem_map, List.mem_filter, List.mem_range]
    constructor
    · rintro ⟨i, ⟨hi, hs⟩, rfl⟩
      rw [h.eq i hi] at hs
      cases hh : Maps.has D (.int .i64 (i : Int)) with
      | true => rfl
      | false => rw [mget_no hh] at hs; cases hs
    · intro hh
      obtain ⟨h0, h1, _⟩ := h.ind.2 x hh
      obtain ⟨i, rfl⟩ : ∃ i : Nat, x = (i : Int) := ⟨x.toNat, by omega⟩
      obtain ⟨l, _, _, hl⟩ := mget_has h.ind hh
      exact ⟨i, ⟨by omega, by rw [h.eq i (by omega), hl]; rfl⟩, rfl⟩
  have hperm : (keyL P N).Perm (intKeys D) := by
    rw [hD]
    exact perm_intKeys hpw (fun p hp => by obtain ⟨v, hv⟩ := hko p hp; obtain ⟨x, _, hx, _⟩ := Maps.keyOf_i64 Try.underlying3 hv; exact ⟨x, hx⟩) (hnd.imp (fun {a b} hab => by omega)) hm
  have hp2 : (ss.mergeSort (fun x y => decide (x ≤ y))).Perm (keyL P N) := (List.mergeSort_perm ss _).trans (hp.trans hperm.symm)
  have hs : (ss.mergeSort (fun x y => decide (x ≤ y))).Pairwise (fun x y => x ≤ y) := by
    have := List.pairwise_mergeSort (le := fun (x y : Int) => decide (x ≤ y)) (by intro a b c h1 h2; simp at *; omega) (by intro a b; simp; omega) ss
    simpa using this
  exact hp2.eq_of_pairwise (fun a b _ _ h1 h2 => by omega) hs (hnd.imp (fun {a b} hab => by omega))
end Go.Proofs.Ytohmdcbfffgheaa.Dk
