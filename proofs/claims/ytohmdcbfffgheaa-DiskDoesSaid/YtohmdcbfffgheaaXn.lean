/-
  The document's own page of layer 9: put over the relation; Flush. Conditions: each law's own.
-/
import Derived.Test.YtohmdcbfffgheaaXm
namespace Go.Proofs.Ytohmdcbfffgheaa.Dk
open Go.RowKit Go.Lib Go.Maps
variable {w : World} {A : List Nat} {g gi bb rb : Nat} {S : List (List UInt8)} {low : Int} {P : Nat → Option (List UInt8)} {dead armed : Bool} {left nw : Int}
/-- a sector that is written goes to its place -/
def stepS (S : List (List UInt8)) (P : Nat → Option (List UInt8)) (i : Nat) : List (List UInt8) := match P i with | some s => S.set i s | none => S
theorem stepS_len (S : List (List UInt8)) (P : Nat → Option (List UInt8)) (i : Nat) : (stepS S P i).length = S.length := by
  unfold stepS
  split <;> simp
theorem overl_take (n : Nat) : ∀ (vs cs : List Value) (o : Nat), (overl cs o vs).take n = overl (cs.take n) o vs
  | [], _, _ => rfl
  | v :: r, cs, o => by rw [overl, overl, overl_take n r, List.take_set]
theorem rput_any (h : RefS w A g gi bb rb S low P dead armed left nw) (i : Nat) (hi : i < S.length) :
    Calls Try.prog 44 #[.pointer (some ⟨g, 0, none⟩), .int .i64 (i : Int)] w fun e w' => e = .returned (.tuple #[]) ∧ Fr w w' [gi] ∧ RefS w' A g gi bb rb (stepS S P i) low P dead armed left nw := by
  obtain ⟨cap, c1, c2, d⟩ := h.dv
  obtain ⟨cs, i1, i2⟩ := h.im
  obtain ⟨rl, r1, r2, r3, r4⟩ := h.ro
  obtain ⟨n1, n2, n3, n4, n5, n6⟩ := h.ne
  cases hp : P i with
  | none =>
    obtain ⟨ao, n, c, y1, y2⟩ := r3 i hi
    have e1 : stepS S P i = S := by simp [stepS, hp]
    refine (put_not d h.bo r1 i hi (by rw [boL_get _ _ hi, hp]; rfl) y1 y2).mono ?_
    rintro e w' ⟨rfl, rfl⟩
    rw [e1]
    exact ⟨rfl, Fr.refl _ _, h⟩
  | some s =>
    obtain ⟨x0, b, o, c, x1, x2, x3⟩ := r4 i s hp hi
    have e1 : stepS S P i = S.set i s := by simp [stepS, hp]
    have hcs : 256 * S.length ≤ cs.length := by
      have e2 := congrArg List.length i2
      rw [flat_len S h.len, List.length_take] at e2
      omega
    have x3' := x3
    simp only [List.mem_cons, not_or] at x3'
    refine (put_has d i1 h.bo r1 i hi h.n2 rfl hcs (by rw [boL_get _ _ hi, hp]; rfl) x1 x0 (Nat.le_refl _) x2 n1 (fun e => n4 e.symm) (fun e => n5 e.symm) x3'.2.1).mono ?_
    rintro e w' ⟨rfl, hf, hi2⟩
    refine ⟨rfl, hf, ?_⟩
    rw [e1]
    refine ⟨⟨cap, by rw [List.length_set]; exact c1, c2, by rw [List.length_set]; exact hf.blk d (by simpa using n1)⟩, ⟨_, hi2, ?_⟩, by rw [List.length_set]; exact hf.blk h.bo (by simpa using fun e => n4 e.symm), ⟨rl, hf.blk r1 (by simpa using fun e => n5 e.symm), by rw [List.length_set]; exact r2, fun j hj => r3 j (by rw [List.length_set] at hj; exact hj), fun j t ht hj => ?_⟩, set_len h.len x0, by rw [List.length_set]; exact h.n1, by rw [List.length_set]; exact h.n2, h.ne, h.aw⟩
    · rw [List.length_set, overl_take, i2, show 256 * i = i * 256 by omega]
      exact flat_set h.len hi x0
    · rw [List.length_set] at hj
      obtain ⟨z0, b2, o2, c3, z1, z2, z3⟩ := r4 j t ht hj
      exact ⟨z0, b2, o2, c3, z1, byt_fr z2 hf (fun e => z3 (by simp at e; simp [e])), z3⟩
/-- what is written, without the sectors below i -/
def belP (P : Nat → Option (List UInt8)) (i : Nat) : Nat → Option (List UInt8) := fun j => if j < i then none else P j
/-- the sectors with the first i of what is written put to their place -/
def flS (S : List (List UInt8)) (P : Nat → Option (List UInt8)) : Nat → List (List UInt8)
  | 0 => S
  | i + 1 => stepS (flS S P i) P i
theorem flS_len (S : List (List UInt8)) (P : Nat → Option (List UInt8)) : ∀ i, (flS S P i).length = S.length
  | 0 => rfl
  | i + 1 => by rw [flS, stepS_len, flS_len S P i]
theorem boL_bel (N : Nat) (P : Nat → Option (List UInt8)) (i : Nat) : (boL N (belP P i)).set i (.bool false) = boL N (belP P (i + 1)) := by
  apply List.ext_getElem?
  intro j
  simp only [boL, List.getElem?_set, List.getElem?_map, List.length_map, List.length_range, belP]
  by_cases hj : j < N <;> by_cases hji : i = j
  · subst hji; simp [hj]
  · have e : (j < i + 1) = (j < i) := by simp; omega
    simp [hj, hji, e]
  · subst hji; simp [hj]
  · simp [hji, hj]
/-- a sector is no longer written -/
theorem RefS.cleared {i : Nat} (h : RefS w A g gi bb rb S low (belP P i) dead armed left nw) : RefS (w.setCell ⟨bb, i, none⟩ (.bool false)) A g gi bb rb S low (belP P (i + 1)) dead armed left nw := by
  obtain ⟨cap, c1, c2, d⟩ := h.dv
  obtain ⟨cs, i1, i2⟩ := h.im
  obtain ⟨rl, r1, r2, r3, r4⟩ := h.ro
  obtain ⟨n1, n2, n3, n4, n5, n6⟩ := h.ne
  have hf : Fr w (w.setCell ⟨bb, i, none⟩ (.bool false)) [bb] := fr_grown (gb_set w bb i _) (by simp)
  refine ⟨⟨cap, c1, c2, Blk.other d _ n2⟩, ⟨cs, Blk.other i1 _ n4, i2⟩, by rw [← boL_bel]; exact h.bo.set i _, ⟨rl, Blk.other r1 _ (fun e => n6 e.symm), r2, r3, fun j s hs hj => ?_⟩, h.len, h.n1, h.n2, h.ne, h.aw⟩
  have hs2 : belP P i j = some s := by
    unfold belP at hs ⊢
    split at hs
    · cases hs
    · rw [if_neg (by omega)]; exact hs
  obtain ⟨x0, b, o, c, x1, x2, x3⟩ := r4 j s hs2 hj
  exact ⟨x0, b, o, c, x1, byt_fr x2 hf (fun e => x3 (by simp at e; simp [e])), x3⟩
theorem stepS_bel (S : List (List UInt8)) (P : Nat → Option (List UInt8)) (i : Nat) : stepS S (belP P i) i = stepS S P i := by simp [stepS, belP]
set_option maxHeartbeats 4000000 in
set_option maxRecDepth 100000 in
theorem rflush_dead (h : RefS w A g gi bb rb S low P true armed left nw) : Calls Try.prog 19 #[.pointer (some ⟨g, 0, none⟩)] w fun e w' => e = .returned (.int .i64 91) ∧ w' = w := by
  obtain ⟨cap, k1, k2, d⟩ := h.dv
  have c4 : w.cell? ⟨g, 4, none⟩ = some (.bool true) := Blk.cell d 4
  clear h d k1 k2
  go_enter Try.func19, Try.ntmps19
  go_wp2_with fail
  go_ret
  exact ⟨rfl, rfl⟩
set_option maxHeartbeats 4000000 in
set_option maxRecDepth 100000 in
theorem rflush_off (h : RefS w A g gi bb rb S low P false true 0 nw) : Calls Try.prog 19 #[.pointer (some ⟨g, 0, none⟩)] w fun e w' => e = .returned (.int .i64 91) ∧ Fr w w' [g] ∧ RefS w' A g gi bb rb S low P true false 0 nw := by
  obtain ⟨cap, k1, k2, d⟩ := h.dv
  have c4 : w.cell? ⟨g, 4, none⟩ = some (.bool false) := Blk.cell d 4
  have HG := Lib.hid (goes_off d)
  have HH := Lib.hid h
  have HK := Lib.hid (And.intro k1 k2)
  clear h d k1 k2
  go_enter Try.func19, Try.ntmps19
  go_wp2_with fail
  refine HG.out.mono ?_
  rintro e w1 ⟨rfl, hg1, hd1⟩
  have HF := Lib.hid (show Fr w w1 [g] from fr_grown hg1 (by simp))
  have HD := Lib.hid hd1
  clear hg1 hd1
  go_wp2_with fail
  go_ret
  exact ⟨rfl, HF.out, HH.out.dvs HF.out ⟨_, HK.out.1, HK.out.2, HD.out⟩⟩
set_option maxHeartbeats 4000000 in
set_option maxRecDepth 100000 in
theorem rflush_go (h : RefS w A g gi bb rb S low P false armed left nw) {armed2 : Bool} {left2 nw2 : Int}
    (hgo : ∀ im bo ro, Rv w g im bo ro low false armed left nw → Calls Try.prog 41 #[.pointer (some ⟨g, 0, none⟩)] w fun e w' => e = .returned (.bool false) ∧ w.grownBy w' (some g) ∧ Rv w' g im bo ro low false armed2 left2 nw2) :
    Calls Try.prog 19 #[.pointer (some ⟨g, 0, none⟩)] w fun e w' => e = .returned (.int .i64 0) ∧ Fr w w' [g, gi, bb] ∧ RefS w' A g gi bb rb (flS S P S.length) low (belP P S.length) false armed2 left2 nw2 := by
  obtain ⟨cap, k1, k2, d⟩ := h.dv
  have c4 : w.cell? ⟨g, 4, none⟩ = some (.bool false) := Blk.cell d 4
  have HG := Lib.hid (hgo _ _ _ d)
  have HH := Lib.hid h
  have HK := Lib.hid (And.intro k1 k2)
  have hn2 := h.n2
  clear h d k1 k2 hgo
  go_enter Try.func19, Try.ntmps19
  go_wp2_with fail
  refine HG.out.mono ?_
  rintro e w1 ⟨rfl, hg1, hd1⟩
  have hf : Fr w w1 [g] := fr_grown hg1 (by simp)
  have HF : Hid (Fr w w1 [g, gi, bb]) := hf.wide (by simp)
  have HR : Hid (RefS w1 A g gi bb rb (flS S P 0) low (belP P 0) false armed2 left2 nw2) := by
    have h2 := HH.out.dvs hf ⟨_, HK.out.1, HK.out.2, hd1⟩
    have e : belP P 0 = P := by funext j; simp [belP]
    rw [e]
    exact h2
  clear hg1 hd1 hf
  go_wp2_with fail
  go_loopw [3] (fun vi wr => ∃ i : Nat, i ≤ S.length ∧ vi = .int .i64 i ∧ Hid (Fr w wr [g, gi, bb]) ∧ Hid (RefS wr A g gi bb rb (flS S P i) low (belP P i) false armed2 left2 nw2)) (fun vi _ => S.length - (RowKit.intOf vi).toNat)
  case atStart => exact ⟨0, by omega, rfl, HF, HR⟩
  case round =>
    obtain ⟨i, hi, rfl, hF, hR⟩ := hrel
    obtain ⟨cp, j1, j2, dd⟩ := hR.out.dv
    rw [flS_len] at dd
    have c2 : wr.cell? ⟨g, 2, none⟩ = some (.slice (some ⟨bb, 0, none⟩) S.length S.length) := Blk.cell dd 2
    clear dd j1 j2
    by_cases hin : i < S.length
    · have q1 : (0 : Int) ≤ (i : Int) := by omega
      have q2 : (i : Int) < (S.length : Int) := by omega
      have HP := Lib.hid (rput_any hR.out i (by rw [flS_len]; exact hin))
      clear hR
      go_wp2_with fail
      refine HP.out.mono ?_
      rintro e w2 ⟨rfl, hf2, hr2⟩
      rw [stepS_bel] at hr2
      have HF2 : Hid (Fr w w2 [g, gi, bb]) := hF.out.trans (hf2.wide (by simp))
      have HR2 : Hid (RefS w2 A g gi bb rb (flS S P (i + 1)) low (belP P i) false armed2 left2 nw2) := hr2
      obtain ⟨cp2, j1, j2, dd⟩ := hr2.dv
      rw [stepS_len, flS_len] at dd
      have e2 : w2.cell? ⟨g, 2, none⟩ = some (.slice (some ⟨bb, 0, none⟩) S.length S.length) := Blk.cell dd 2
      have e3 : w2.cell? ⟨bb, i, none⟩ = some (.bool (belP P i i).isSome) := (Blk.cell hr2.bo i).trans (boL_get _ _ (by rw [stepS_len, flS_len]; exact hin))
      have f3 := Blk.frozen hr2.bo i
      have HR3 : Hid (RefS (w2.setCell ⟨bb, i, none⟩ (.bool false)) A g gi bb rb (flS S P (i + 1)) low (belP P (i + 1)) false armed2 left2 nw2) := HR2.out.cleared
      have HF3 : Hid (Fr w (w2.setCell ⟨bb, i, none⟩ (.bool false)) [g, gi, bb]) := HF2.out.trans (fr_grown (gb_set w2 bb i _) (by simp))
      clear hf2 hr2 dd j1 j2 HF2 HR2
      go_wp2_with fail
      clear e2 e3 f3
      generalize w2.setCell ⟨bb, i, none⟩ (.bool false) = w3 at *
      go_wp2_with fail
      go_roundw
      case rel => exact ⟨i + 1, by omega, by go_num, HF3, HR3⟩
      case measure => simp [RowKit.intOf]; omega
    · obtain rfl : i = S.length := by omega
      go_wp2_with fail
      go_ret
      exact ⟨rfl, hF.out, hR.out⟩
end Go.Proofs.Ytohmdcbfffgheaa.Dk
