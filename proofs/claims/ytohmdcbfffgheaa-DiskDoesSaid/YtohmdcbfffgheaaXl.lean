/-
  The document's own page of layer 9: its device as one relation; Read. Conditions: each law's own.
-/
import Derived.Test.YtohmdcbfffgheaaXk
namespace Go.Proofs.Ytohmdcbfffgheaa.Dk
open Go.RowKit Go.Lib Go.Maps
/-- which sectors are written -/
def boL (N : Nat) (P : Nat → Option (List UInt8)) : List Value := (List.range N).map fun j => Value.bool (P j).isSome
/-- the page's device: its sectors, what is written and not flushed, away from the blocks A -/
structure RefS (w : World) (A : List Nat) (g gi bb rb : Nat) (S : List (List UInt8)) (low : Int) (P : Nat → Option (List UInt8)) (dead armed : Bool) (left nw : Int) : Prop where
  dv : ∃ cap, 256 * S.length ≤ cap ∧ cap ≤ 9223372036854775807 ∧ Rv w g (.slice (some ⟨gi, 0, none⟩) (256 * S.length) cap) (.slice (some ⟨bb, 0, none⟩) S.length S.length) (.slice (some ⟨rb, 0, none⟩) S.length S.length) low dead armed left nw
  im : ∃ cs, Blk w gi cs 5 ∧ cs.take (256 * S.length) = S.flatMap bs
  bo : Blk w bb (boL S.length P) 4
  ro : ∃ rl, Blk w rb rl 29 ∧ rl.length = S.length ∧ (∀ i, i < S.length → ∃ ao n c, rl[i]? = some (.slice ao n c) ∧ n ≤ 256) ∧
    ∀ i s, P i = some s → i < S.length → s.length = 256 ∧ ∃ b o c, rl[i]? = some (.slice (some ⟨b, o, none⟩) 256 c) ∧ Byt w (some ⟨b, o, none⟩) s ∧ b ∉ g :: gi :: bb :: rb :: A
  len : ∀ s ∈ S, s.length = 256
  n1 : 1 ≤ S.length
  n2 : S.length ≤ 4096
  ne : g ≠ gi ∧ g ≠ bb ∧ g ≠ rb ∧ gi ≠ bb ∧ gi ≠ rb ∧ bb ≠ rb
  aw : g ∉ A ∧ gi ∉ A ∧ bb ∉ A ∧ rb ∉ A
variable {w : World} {A : List Nat} {g gi bb rb : Nat} {S : List (List UInt8)} {low : Int} {P : Nat → Option (List UInt8)} {dead armed : Bool} {left nw : Int}
theorem byt_fr {w w' : World} {N : List Nat} {b o : Nat} {l : List UInt8} (h : Byt w (some ⟨b, o, none⟩) l) (hf : Fr w w' N) (hb : b ∉ N) : Byt w' (some ⟨b, o, none⟩) l := fun hne => by
  obtain ⟨b2, o2, h1, h2, h3⟩ := h hne
  injection h1 with h1
  injection h1 with h4 h5
  subst h4 h5
  exact ⟨b, o, rfl, Nat.lt_of_lt_of_le h2 hf.size, fun j hj => (hf.cell (a := ⟨b, o + j, none⟩) h2 hb).trans (h3 j hj)⟩
/-- it keeps what it is while other blocks change -/
theorem RefS.kept (h : RefS w A g gi bb rb S low P dead armed left nw) {w' : World} {N : List Nat} (hf : Fr w w' N) (hN : ∀ n ∈ N, n ∈ A) : RefS w' A g gi bb rb S low P dead armed left nw := by
  obtain ⟨cap, c1, c2, d⟩ := h.dv
  obtain ⟨cs, i1, i2⟩ := h.im
  obtain ⟨rl, r1, r2, r3, r4⟩ := h.ro
  obtain ⟨a1, a2, a3, a4⟩ := h.aw
  refine ⟨⟨cap, c1, c2, Fr.blk hf d (fun e => a1 (hN _ e))⟩, ⟨cs, hf.blk i1 (fun e => a2 (hN _ e)), i2⟩, hf.blk h.bo (fun e => a3 (hN _ e)), ⟨rl, hf.blk r1 (fun e => a4 (hN _ e)), r2, r3, fun i s hs hi => ?_⟩, h.len, h.n1, h.n2, h.ne, h.aw⟩
  obtain ⟨x0, b, o, c, x1, x2, x3⟩ := r4 i s hs hi
  exact ⟨x0, b, o, c, x1, byt_fr x2 hf (fun e => x3 (by simp [hN _ e])), x3⟩
theorem boL_get (N : Nat) (P : Nat → Option (List UInt8)) {i : Nat} (hi : i < N) : (boL N P)[i]? = some (.bool (P i).isSome) := by simp [boL, hi]
theorem flat_bs (S : List (List UInt8)) : S.flatMap bs = bs S.flatten := by simp [bs, List.flatMap, List.map_flatten]; rfl
theorem RefS.img (h : RefS w A g gi bb rb S low P dead armed left nw) : S.flatten.length = 256 * S.length ∧ Byt w (some ⟨gi, 0, none⟩) S.flatten := by
  obtain ⟨cs, i1, i2⟩ := h.im
  have e1 : S.flatten.length = 256 * S.length := by
    have := flat_len S h.len
    rw [flat_bs, bs_len] at this
    omega
  refine ⟨e1, fun _ => ⟨gi, 0, rfl, i1.lt, fun j hj => ?_⟩⟩
  rw [i1.cell, Nat.zero_add]
  have h2 : (cs.take (256 * S.length))[j]? = some (.int .u8 (S.flatten[j]).toNat) := by rw [i2, flat_bs, bs_get _ j hj]
  rw [List.getElem?_take] at h2
  split at h2
  · exact h2
  · cases h2
set_option maxHeartbeats 4000000 in
set_option maxRecDepth 100000 in
theorem rread_has (h : RefS w A g gi bb rb S low P false armed left nw) (i : Nat) (hi : i < S.length) (s : List UInt8) (hs : P i = some s) :
    Calls Try.prog 21 #[.pointer (some ⟨g, 0, none⟩), .int .i64 (i : Int)] w fun e w' => Below w.heap.size w w' ∧ ∃ v, e = .returned (.tuple #[v, .int .i64 0]) ∧ Own w' w.heap.size v s := by
  obtain ⟨cap, k1, k2, d⟩ := h.dv
  obtain ⟨rl, r1, r2, r3, r4⟩ := h.ro
  obtain ⟨x0, b, o, c, x1, x2, x3⟩ := r4 i s hs hi
  have hn2 := h.n2
  have B1 := (Below.refl w.heap.size w).alloc (Nat.le_refl _) (.cells #[] 5)
  have c4 : w.cell? ⟨g, 4, none⟩ = some (.bool false) := Blk.cell d 4
  have c2 : w.cell? ⟨g, 2, none⟩ = some (.slice (some ⟨bb, 0, none⟩) S.length S.length) := Blk.cell d 2
  have d2 : w.cell? ⟨bb, i, none⟩ = some (.bool true) := by rw [Blk.cell h.bo, boL_get _ _ hi, hs]; rfl
  have c3 : (w.alloc (.cells #[] 5)).cell? ⟨g, 3, none⟩ = some (.slice (some ⟨rb, 0, none⟩) S.length S.length) := (B1.cell (p := ⟨g, 3, none⟩) (Blk.lt d)).trans (Blk.cell d 3)
  have d3 : (w.alloc (.cells #[] 5)).cell? ⟨rb, i, none⟩ = some (.slice (some ⟨b, o, none⟩) 256 c) := (B1.cell (p := ⟨rb, i, none⟩) r1.lt).trans ((Blk.cell r1 i).trans x1)
  have HB : Hid (Byt (w.alloc (.cells #[] 5)) (some ⟨b, o, none⟩) s) := x2.below B1
  have HO := Lib.hid (own_none w)
  have HB1 := Lib.hid B1
  have HL : Hid (s.length = 256) := x0
  have u1 : (0 : Int) ≤ (i : Int) := by omega
  have u2 : (i : Int) < (S.length : Int) := by omega
  have u3 : decide ((i : Int) < 0) = false := by simp
  have u4 : decide ((S.length : Int) ≤ (i : Int)) = false := by simp; omega
  have pb : w.heap.size ≤ (w.alloc (.cells #[] 5)).heap.size := B1.size
  have p1 : ([] : List UInt8).length + 256 ≤ 140737488355328 := by simp
  generalize S.length = N at *
  clear h r1 r2 r3 r4 x0 x1 x2 x3 B1 d k1 k2 hs
  go_enter Try.func21, Try.ntmps21
  go_wp2_with (at_builtin; refine wpl_app_len (t := 29) (e := 5) rfl (.tmp 28) (.tmp 35) rfl Try.underlying29 info5 w.heap.size _ [] s rfl HO.out (some ⟨b, o, none⟩) 256 c rfl HB.out (fun e => by cases e) HL p1 pb ?_; intro v' w' hown' hgrow; have HG := Lib.hid hgrow; have HW := Lib.hid hown'; clear hown' hgrow)
  go_ret2
  exact ⟨HB1.out.grown HG.out HB1.out.size (fun k hk => (HO.out.lt k hk).1), v', rfl, HW.out⟩
set_option maxRecDepth 100000 in
theorem sl_mid (b m c i : Nat) (hp : 256 * i + 256 ≤ m) (hm : m ≤ c) (W : World) : (Instr.slice 29 (.slice (some ⟨b, 0, none⟩) m c) (some (.int .i64 ((i : Int) * 256))) (some (.int .i64 ((i : Int) * 256 + 256))) none).run Try.prog W = .ok (.slice (some ⟨b, 256 * i, none⟩) 256 (c - 256 * i)) W := by
  have hs := run_slice_lh (P := Try.prog) W 29 (some ⟨b, 0, none⟩) m c (by rw [Try.underlying29]; rfl) .i64 .i64 ((i : Int) * 256) ((i : Int) * 256 + 256) (by omega) (by omega) (by omega)
  rw [hs]
  have e1 : ((i : Int) * 256).toNat = 256 * i := by omega
  have e2 : ((i : Int) * 256 + 256).toNat = 256 * i + 256 := by omega
  have e3 : Try.prog.elem 29 = 5 := by kernel_rfl
  rw [e1, e2, e3]
  have h9 : ¬ c = 256 * i := by omega
  simp [Try.sizeOf5, sliced, Result.andThen, Addr.add, h9]
  omega
theorem flat_getE : ∀ (S : List (List UInt8)) (_ : ∀ s ∈ S, s.length = 256) (i : Nat) (hi : i < S.length) (j : Nat) (_ : j < 256), S.flatten[256 * i + j]? = S[i][j]?
  | [], _, i, hi, _, _ => by simp at hi
  | a :: r, h, 0, _, j, hj => by
    have ha := h a (by simp)
    rw [List.flatten_cons, List.getElem?_append_left (by omega)]
    simp
  | a :: r, h, i + 1, hi, j, hj => by
    have ha := h a (by simp)
    rw [List.flatten_cons, List.getElem?_append_right (by omega), ha, show 256 * (i + 1) + j - 256 = 256 * i + j by omega, flat_getE r (fun s hs => h s (by simp [hs])) i (by simpa using hi) j hj]
    simp
theorem RefS.sec (h : RefS w A g gi bb rb S low P dead armed left nw) (i : Nat) (hi : i < S.length) : Byt w (some ⟨gi, 256 * i, none⟩) S[i] := fun _ => by
  obtain ⟨e1, e2⟩ := h.img
  have hl : S[i].length = 256 := h.len _ (List.getElem_mem hi)
  have hne : S.flatten ≠ [] := fun h0 => by rw [h0] at e1; simp at e1; have := h.n1; omega
  obtain ⟨b2, o2, y1, y2, y3⟩ := e2 hne
  injection y1 with y1
  injection y1 with y4 y5
  subst y4 y5
  refine ⟨gi, 256 * i, rfl, y2, fun j hj => ?_⟩
  have h7 := flat_getE S h.len i hi j (by omega)
  rw [List.getElem?_eq_getElem (by omega), List.getElem?_eq_getElem hj] at h7
  injection h7 with h7
  have h8 := y3 (256 * i + j) (by omega)
  rw [h7, Nat.zero_add] at h8
  exact h8
set_option maxHeartbeats 4000000 in
set_option maxRecDepth 100000 in
theorem rread_raw (h : RefS w A g gi bb rb S low P false armed left nw) (i : Nat) (hi : i < S.length) (hs : P i = none) :
    Calls Try.prog 21 #[.pointer (some ⟨g, 0, none⟩), .int .i64 (i : Int)] w fun e w' => Below w.heap.size w w' ∧ ∃ v, e = .returned (.tuple #[v, .int .i64 0]) ∧ Own w' w.heap.size v S[i] := by
  obtain ⟨cap, k1, k2, d⟩ := h.dv
  have hn2 := h.n2
  have B1 := (Below.refl w.heap.size w).alloc (Nat.le_refl _) (.cells #[] 5)
  have c4 : w.cell? ⟨g, 4, none⟩ = some (.bool false) := Blk.cell d 4
  have c2 : w.cell? ⟨g, 2, none⟩ = some (.slice (some ⟨bb, 0, none⟩) S.length S.length) := Blk.cell d 2
  have d2 : w.cell? ⟨bb, i, none⟩ = some (.bool false) := by rw [Blk.cell h.bo, boL_get _ _ hi, hs]; rfl
  have c0 : (w.alloc (.cells #[] 5)).cell? ⟨g, 0, none⟩ = some (.slice (some ⟨gi, 0, none⟩) (256 * S.length) cap) := (B1.cell (p := ⟨g, 0, none⟩) (Blk.lt d)).trans (Blk.cell d 0)
  have HB : Hid (Byt (w.alloc (.cells #[] 5)) (some ⟨gi, 256 * i, none⟩) S[i]) := (h.sec i hi).below B1
  have HO := Lib.hid (own_none w)
  have HB1 := Lib.hid B1
  have HL : Hid (S[i].length = 256) := h.len _ (List.getElem_mem hi)
  have u1 : (0 : Int) ≤ (i : Int) := by omega
  have u2 : (i : Int) < (S.length : Int) := by omega
  have u3 : decide ((i : Int) < 0) = false := by simp
  have u4 : decide ((S.length : Int) ≤ (i : Int)) = false := by simp; omega
  have pb : w.heap.size ≤ (w.alloc (.cells #[] 5)).heap.size := B1.size
  have p1 : ([] : List UInt8).length + 256 ≤ 140737488355328 := by simp
  have m1 : IntKind.i64.wrap ((i : Int) * 256) = (i : Int) * 256 := IntWalk.i64_in _ (by omega)
  have m2 : IntKind.i64.wrap ((i : Int) * 256 + 256) = (i : Int) * 256 + 256 := IntWalk.i64_in _ (by omega)
  obtain ⟨M, hM⟩ : ∃ M, M = 256 * S.length := ⟨_, rfl⟩
  have sl : ∀ W : World, (Instr.slice 29 (.slice (some ⟨gi, 0, none⟩) M cap) (some (.int .i64 ((i : Int) * 256))) (some (.int .i64 ((i : Int) * 256 + 256))) none).run Try.prog W = .ok (.slice (some ⟨gi, 256 * i, none⟩) 256 (cap - 256 * i)) W := fun W => sl_mid gi M cap i (by omega) (by omega) W
  rw [← hM] at c0
  generalize S[i] = s at *
  generalize S.length = N at *
  generalize 256 * i = p at *
  generalize cap - p = cq at *
  clear h B1 d k1 k2 hs hM
  go_enter Try.func21, Try.ntmps21
  go_wp2_with (at_builtin; refine wpl_app_len (t := 29) (e := 5) rfl (.tmp 37) (.tmp 47) rfl Try.underlying29 info5 w.heap.size _ [] s rfl HO.out (some ⟨gi, p, none⟩) 256 cq rfl HB.out (fun e => by cases e) HL p1 pb ?_; intro v' w' hown' hgrow; have HG := Lib.hid hgrow; have HW := Lib.hid hown'; clear hown' hgrow)
  go_ret2
  exact ⟨HB1.out.grown HG.out HB1.out.size (fun k hk => (HO.out.lt k hk).1), v', rfl, HW.out⟩
end Go.Proofs.Ytohmdcbfffgheaa.Dk
