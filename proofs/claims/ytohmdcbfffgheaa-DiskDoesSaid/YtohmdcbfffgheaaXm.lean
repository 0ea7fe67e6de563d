/-
  The document's own page of layer 9: Write where it goes well. Conditions: each law's own.
-/
import Derived.Test.YtohmdcbfffgheaaXl
namespace Go.Proofs.Ytohmdcbfffgheaa.Dk
open Go.RowKit Go.Lib Go.Maps
variable {w : World} {A : List Nat} {g gi bb rb : Nat} {S : List (List UInt8)} {low : Int} {P : Nat → Option (List UInt8)} {dead armed : Bool} {left nw : Int}
theorem blk_same {w : World} {g : Nat} {cs ds : List Value} {t : TypeId} (h : Blk w g cs t) (k : Blk w g ds t) : cs = ds := by
  unfold Blk at h k
  rw [h] at k
  injection k with k
  injection k with k
  exact congrArg Array.toList k
/-- a sector put into what is written -/
def putP (P : Nat → Option (List UInt8)) (i : Nat) (l : List UInt8) : Nat → Option (List UInt8) := fun j => if j = i then some l else P j
theorem boL_set (N : Nat) (P : Nat → Option (List UInt8)) (i : Nat) (l : List UInt8) : (boL N P).set i (.bool true) = boL N (putP P i l) := by
  apply List.ext_getElem?
  intro j
  simp only [boL, List.getElem?_set, List.getElem?_map, List.length_map, List.length_range, putP]
  by_cases hj : j < N <;> by_cases hji : i = j
  · subst hji; simp [hj]
  · have : ¬ j = i := fun e => hji e.symm
    simp [hj, hji, this]
  · subst hji; simp [hj]
  · simp [hji, hj]
theorem RefS.wrote (h : RefS w A g gi bb rb S low P dead armed left nw) {w' : World} (hf : Fr w w' [g, bb, rb]) {rl : List Value} (r1 : Blk w rb rl 29) {i : Nat} (hi : i < S.length) {b c : Nat} (r1' : Blk w' rb (rl.set i (.slice (some ⟨b, 0, none⟩) 256 c)) 29)
    (hb' : Blk w' bb ((boL S.length P).set i (.bool true)) 4) {dead2 armed2 : Bool} {left2 nw2 : Int} (d' : ∀ im bo ro, Rv w g im bo ro low dead armed left nw → Rv w' g im bo ro low dead2 armed2 left2 nw2)
    {l : List UInt8} (hl : l.length = 256) (hbyt : Byt w' (some ⟨b, 0, none⟩) l) (hb : b ∉ g :: gi :: bb :: rb :: A) : RefS w' A g gi bb rb S low (putP P i l) dead2 armed2 left2 nw2 := by
  obtain ⟨cap, c1, c2, d⟩ := h.dv
  obtain ⟨cs, i1, i2⟩ := h.im
  obtain ⟨rl2, r0, r2, r3, r4⟩ := h.ro
  obtain rfl := blk_same r1 r0
  obtain ⟨n1, n2, n3, n4, n5, n6⟩ := h.ne
  refine ⟨⟨cap, c1, c2, d' _ _ _ d⟩, ⟨cs, hf.blk i1 (by simp; exact ⟨fun e => n1 e.symm, n4, n5⟩), i2⟩, by rw [← boL_set]; exact hb', ⟨_, r1', by rw [List.length_set]; exact r2, fun j hj => ?_, fun j s hs hj => ?_⟩, h.len, h.n1, h.n2, h.ne, h.aw⟩
  · by_cases hji : i = j
    · subst hji
      exact ⟨_, 256, c, List.getElem?_set_self (by omega), by omega⟩
    · rw [List.getElem?_set_ne hji]
      exact r3 j hj
  · by_cases hji : i = j
    · subst hji
      have hs2 : l = s := by simpa [putP] using hs
      subst hs2
      exact ⟨hl, b, 0, c, List.getElem?_set_self (by omega), hbyt, hb⟩
    · have hs2 : P j = some s := by simpa [putP, show ¬ j = i from fun e => hji e.symm] using hs
      obtain ⟨x0, b2, o2, c2, x1, x2, x3⟩ := r4 j s hs2 hj
      rw [List.getElem?_set_ne hji]
      simp only [List.mem_cons, not_or] at x3
      exact ⟨x0, b2, o2, c2, x1, byt_fr x2 hf (by simp; exact ⟨x3.1, x3.2.2.1, x3.2.2.2.1⟩), by simp only [List.mem_cons, not_or]; exact x3⟩
theorem Fr.wide {w w' : World} {N M : List Nat} (h : Fr w w' N) (hN : ∀ n ∈ N, n ∈ M) : Fr w w' M := ⟨h.os, h.tape, h.output, h.size, fun n hn hne => h.block n hn (fun e => hne (hN n e))⟩
theorem rv_same {w : World} {g : Nat} {im bo ro im2 bo2 ro2 : Value} {low : Int} {dead armed : Bool} {left nw : Int} (h : Rv w g im bo ro low dead armed left nw) (k : Rv w g im2 bo2 ro2 low dead armed left nw) : im = im2 ∧ bo = bo2 ∧ ro = ro2 := by
  have e := blk_same h k
  simp only [rvC, List.cons.injEq] at e
  exact ⟨e.1, e.2.2.1, e.2.2.2.1⟩
theorem RefS.dvs (h : RefS w A g gi bb rb S low P dead armed left nw) {w' : World} (hf : Fr w w' [g]) {dead2 armed2 : Bool} {left2 nw2 : Int}
    (d : ∃ cap, 256 * S.length ≤ cap ∧ cap ≤ 9223372036854775807 ∧ Rv w' g (.slice (some ⟨gi, 0, none⟩) (256 * S.length) cap) (.slice (some ⟨bb, 0, none⟩) S.length S.length) (.slice (some ⟨rb, 0, none⟩) S.length S.length) low dead2 armed2 left2 nw2) : RefS w' A g gi bb rb S low P dead2 armed2 left2 nw2 := by
  obtain ⟨cs, i1, i2⟩ := h.im
  obtain ⟨rl, r1, r2, r3, r4⟩ := h.ro
  obtain ⟨n1, n2, n3, n4, n5, n6⟩ := h.ne
  refine ⟨d, ⟨cs, hf.blk i1 (by simpa using fun e => n1 e.symm), i2⟩, hf.blk h.bo (by simpa using fun e => n2 e.symm), ⟨rl, hf.blk r1 (by simpa using fun e => n3 e.symm), r2, r3, fun i s hs hi => ?_⟩, h.len, h.n1, h.n2, h.ne, h.aw⟩
  obtain ⟨x0, b, o, c, x1, x2, x3⟩ := r4 i s hs hi
  exact ⟨x0, b, o, c, x1, byt_fr x2 hf (fun e => x3 (by simp at e; simp [e])), x3⟩
theorem own_row {w : World} {B : Nat} {v : Value} {l : List UInt8} (h : Own w B v l) (hl : l.length = 256) : ∃ b c, v = .slice (some ⟨b, 0, none⟩) 256 c ∧ Byt w (some ⟨b, 0, none⟩) l ∧ B ≤ b := by
  have hh : w.ownsRow B 5 1 v l.length (bs l) := h
  obtain ⟨_, ⟨rfl, h2⟩ | ⟨b, cap, cur, rfl, hbg, hg, h1, h2, _⟩⟩ := h
  · omega
  · refine ⟨b, cap, by rw [hl], fun _ => ⟨b, 0, rfl, (Array.getElem?_eq_some_iff.1 hg).1, fun j hj => ?_⟩, hbg⟩
    have hc := hh.cells (g := b) rfl j (.int .u8 (l[j]).toNat) (bs_get l j hj)
    rw [WideShapes.add_plain] at hc
    exact hc
set_option maxHeartbeats 4000000 in
set_option maxRecDepth 100000 in
theorem rwrite_go (h : RefS w A g gi bb rb S low P false armed left nw) (hA : ∀ a ∈ A, a < w.heap.size) {armed2 : Bool} {left2 nw2 : Int}
    (hgo : ∀ im bo ro, Rv w g im bo ro low false armed left nw → Calls Try.prog 41 #[.pointer (some ⟨g, 0, none⟩)] w fun e w' => e = .returned (.bool false) ∧ w.grownBy w' (some g) ∧ Rv w' g im bo ro low false armed2 left2 nw2)
    (i : Nat) (hi : i < S.length) (hlow : ¬ (i : Int) < low) (b o c : Nat) (l : List UInt8) (hl : l.length = 256) (hbyt : Byt w (some ⟨b, o, none⟩) l) (hb1 : b ≠ g) (hb2 : b ≠ bb) :
    Calls Try.prog 17 #[.pointer (some ⟨g, 0, none⟩), .int .i64 (i : Int), .slice (some ⟨b, o, none⟩) l.length c] w fun e w' => e = .returned (.int .i64 0) ∧ Fr w w' [g, bb, rb] ∧ RefS w' A g gi bb rb S low (putP P i l) false armed2 left2 nw2 := by
  obtain ⟨cap, k1, k2, d⟩ := h.dv
  obtain ⟨rl, r1, r2, r3, r4⟩ := h.ro
  obtain ⟨n1, n2, n3, n4, n5, n6⟩ := h.ne
  have c4 : w.cell? ⟨g, 4, none⟩ = some (.bool false) := Blk.cell d 4
  have c1 : w.cell? ⟨g, 1, none⟩ = some (.int .i64 low) := Blk.cell d 1
  have c2 : w.cell? ⟨g, 2, none⟩ = some (.slice (some ⟨bb, 0, none⟩) S.length S.length) := Blk.cell d 2
  have HG := Lib.hid (hgo _ _ _ d)
  have HH := Lib.hid h
  have HBY := Lib.hid hbyt
  have HR1 := Lib.hid r1
  have HL := Lib.hid hl
  have HAL := Lib.hid hA
  have HI := Lib.hid hi
  have HD := Lib.hid d
  have t1 : decide ((i : Int) < 0) = false := by simp
  have t2 : decide ((S.length : Int) ≤ (i : Int)) = false := by simp; omega
  have t3 : decide ((i : Int) < low) = false := by simpa using hlow
  have t4 : ((l.length : Int) != 256) = false := by rw [hl]; rfl
  have t5 : (l.length == 256) = true := by rw [hl]; rfl
  have u1 : (0 : Int) ≤ (i : Int) := by omega
  have u2 : (i : Int) < (S.length : Int) := by omega
  obtain ⟨old, hold⟩ : ∃ v, rl[i]? = some v := ⟨_, List.getElem?_eq_getElem (by omega)⟩
  have HOLD := Lib.hid hold
  clear h hgo hbyt r1 r2 r3 r4 hl hA hlow d k1 k2 hi hold
  go_enter Try.func17, Try.ntmps17
  go_wp2_with fail
  refine HG.out.mono ?_
  rintro e w1 ⟨rfl, hg1, hd1⟩
  have e2 : w1.cell? ⟨g, 2, none⟩ = some (.slice (some ⟨bb, 0, none⟩) S.length S.length) := Blk.cell hd1 2
  have hbo : Blk w1 bb (boL S.length P) 4 := blk_row HH.out.bo hg1 (fun e => by injection e with e; exact n2 e.symm)
  have f2 := Blk.frozen hbo i
  have e3 : w1.cell? ⟨bb, i, none⟩ = some (.bool (P i).isSome) := (Blk.cell hbo i).trans (boL_get _ _ HI.out)
  have HG1 := Lib.hid hg1
  have HD1 := Lib.hid hd1
  have HBO := Lib.hid hbo
  have HD2 : Hid (Rv (w1.setCell ⟨bb, i, none⟩ (.bool true)) g (.slice (some ⟨gi, 0, none⟩) (256 * S.length) cap) (.slice (some ⟨bb, 0, none⟩) S.length S.length) (.slice (some ⟨rb, 0, none⟩) S.length S.length) low false armed2 left2 nw2) := Blk.other hd1 _ n2
  have HB2 : Hid (Blk (w1.setCell ⟨bb, i, none⟩ (.bool true)) bb ((boL S.length P).set i (.bool true)) 4) := hbo.set i _
  have HF2 : Hid (Fr w (w1.setCell ⟨bb, i, none⟩ (.bool true)) [g, bb]) := (fr_grown hg1 (by simp)).trans (fr_grown (gb_set w1 bb i _) (by simp))
  clear hg1 hd1 hbo
  go_wp2_with fail
  clear e2 f2 e3
  generalize w1.setCell ⟨bb, i, none⟩ (.bool true) = w2 at *
  have HR2 : Hid (Blk w2 rb rl 29) := HF2.out.blk HR1.out (by simp; exact ⟨fun e => n3 e.symm, fun e => n6 e.symm⟩)
  have HY2 : Hid (Byt w2 (some ⟨b, o, none⟩) l) := byt_fr HBY.out HF2.out (by simp; exact ⟨hb1, hb2⟩)
  have BX : Hid (Below w2.heap.size w2 (w2.alloc (.cells #[] 5)).drew) := ((Below.refl w2.heap.size w2).alloc (Nat.le_refl _) _).drew
  have HR3 : Hid (Blk (w2.alloc (.cells #[] 5)).drew rb rl 29) := HR2.out.low BX.out
  have LIT : Hid (Byt (w2.alloc (.cells #[] 5)).drew (some ⟨b, o, none⟩) l) := HY2.out.below BX.out
  have OWN : Hid (Own (w2.alloc (.cells #[] 5)).drew w2.heap.size (.slice (some ⟨w2.heap.size, 0, none⟩) 0 0) []) := own_none w2
  have E0 : Hid (w2.cell? ⟨g, 3, none⟩ = some (.slice (some ⟨rb, 0, none⟩) S.length S.length)) := Blk.cell HD2.out 3
  have E3 : Hid ((w2.alloc (.cells #[] 5)).drew.cell? ⟨g, 3, none⟩ = some (.slice (some ⟨rb, 0, none⟩) S.length S.length)) := (BX.out.cell (p := ⟨g, 3, none⟩) HD2.out.lt).trans (Blk.cell HD2.out 3)
  have e0 : w2.cell? ⟨g, 3, none⟩ = some (.slice (some ⟨rb, 0, none⟩) S.length S.length) := E0.out
  have e0d : w2.drew.cell? ⟨g, 3, none⟩ = some (.slice (some ⟨rb, 0, none⟩) S.length S.length) := E0.out
  have e3 : (w2.alloc (.cells #[] 5)).drew.cell? ⟨g, 3, none⟩ = some (.slice (some ⟨rb, 0, none⟩) S.length S.length) := E3.out
  have m1 : g ≠ w2.heap.size := Nat.ne_of_lt HD2.out.lt
  have m2 : rb ≠ w2.heap.size := Nat.ne_of_lt HR2.out.lt
  have p1 : ([] : List UInt8).length + l.length ≤ 140737488355328 := by rw [HL.out]; simp
  have p2 : w2.heap.size ≤ (w2.alloc (.cells #[] 5)).drew.heap.size := BX.out.size
  go_region_held3 (fun w' => w'.cell? ⟨g, 3, none⟩ = some (.slice (some ⟨rb, 0, none⟩) S.length S.length))
    (first | go_keep | exact E0.out | exact E3.out | exact hgrow1.cell E3.out (fun e => by injection e with e; exact m1 e) | exact Blk.cell (Blk.other HD4.out _ n3) 3)
    ((refine step_app (t := 29) (e := 5) rfl (.tmp 49) (.tmp 50) rfl Try.underlying29 info5 w2.heap.size _ [] l rfl OWN.out ⟨b, o, none⟩ c rfl LIT.out p1 p2 ?_; intro v1 w3 hown1 hgrow1; have HD4 := Lib.hid (blk_row (HD2.out.low BX.out) hgrow1 (fun e => by injection e with e; exact m1 e)); have HR4 := Lib.hid (blk_row HR3.out hgrow1 (fun e => by injection e with e; exact m2 e)); have s1 : w3.cell? ⟨rb, i, none⟩ = some old := (Blk.cell HR4.out i).trans HOLD.out; have s2 := Blk.frozen HR4.out i; obtain ⟨b3, c3, rfl, hby3, hge3⟩ := own_row hown1 HL.out))
  have hF3 : Fr w w3 [g, bb, rb] := (HF2.out.wide (by simp)).trans (fr_below (BX.out.grown hgrow1 p2 (fun k hk => (OWN.out.lt k hk).1)) _)
  have HF4 : Hid (Fr w (w3.setCell ⟨rb, i, none⟩ (.slice (some ⟨b3, 0, none⟩) 256 c3)) [g, bb, rb]) := hF3.trans (fr_grown (gb_set w3 rb i _) (by simp))
  have HB3 : Blk w3 bb ((boL S.length P).set i (.bool true)) 4 := blk_row (HB2.out.low BX.out) hgrow1 (fun e => by injection e with e; exact Nat.ne_of_lt HB2.out.lt e)
  have HB4 : Hid (Blk (w3.setCell ⟨rb, i, none⟩ (.slice (some ⟨b3, 0, none⟩) 256 c3)) bb ((boL S.length P).set i (.bool true)) 4) := Blk.other HB3 _ n6
  have HR5 : Hid (Blk (w3.setCell ⟨rb, i, none⟩ (.slice (some ⟨b3, 0, none⟩) 256 c3)) rb (rl.set i (.slice (some ⟨b3, 0, none⟩) 256 c3)) 29) := HR4.out.set i _
  have HD5 : Hid (Blk (w3.setCell ⟨rb, i, none⟩ (.slice (some ⟨b3, 0, none⟩) 256 c3)) g (rvC (.slice (some ⟨gi, 0, none⟩) (256 * S.length) cap) (.slice (some ⟨bb, 0, none⟩) S.length S.length) (.slice (some ⟨rb, 0, none⟩) S.length S.length) low false armed2 left2 nw2) 77) := Blk.other HD4.out _ n3
  have hsz := HF2.out.size
  have hbN : b3 ∉ g :: gi :: bb :: rb :: A := by
    obtain ⟨cs, i1, i2⟩ := HH.out.im
    have y1 := HD.out.lt
    have y2 := i1.lt
    have y3 := HH.out.bo.lt
    have y4 := HR1.out.lt
    simp only [List.mem_cons, not_or]
    exact ⟨by omega, by omega, by omega, by omega, fun e => by have := HAL.out _ e; omega⟩
  have HY5 : Hid (Byt (w3.setCell ⟨rb, i, none⟩ (.slice (some ⟨b3, 0, none⟩) 256 c3)) (some ⟨b3, 0, none⟩) l) := byt_fr hby3 (fr_grown (gb_set w3 rb i _) (N := [rb]) (by simp)) (by simp only [List.mem_cons, not_or] at hbN; simp; exact hbN.2.2.2.1)
  clear s1 s2 hown1 hgrow1 hF3 HB3 hby3 HR4 HD4
  rename_i hHeld
  clear hHeld
  generalize w3.setCell ⟨rb, i, none⟩ (.slice (some ⟨b3, 0, none⟩) 256 c3) = w4 at *
  go_wp2_with fail
  go_ret
  refine ⟨rfl, HF4.out, HH.out.wrote HF4.out HR1.out HI.out HR5.out HB4.out (fun im bo ro hd => ?_) HL.out HY5.out hbN⟩
  obtain ⟨rfl, rfl, rfl⟩ := rv_same hd HD.out
  exact HD5.out
set_option maxHeartbeats 4000000 in
set_option maxRecDepth 100000 in
/-- the power goes at this very write -/
theorem rwrite_off (h : RefS w A g gi bb rb S low P false true 0 nw) (i : Nat) (hi : i < S.length) (hlow : ¬ (i : Int) < low) (ao : Option Addr) (c : Nat) (l : List UInt8) (hl : l.length = 256) :
    Calls Try.prog 17 #[.pointer (some ⟨g, 0, none⟩), .int .i64 (i : Int), .slice ao l.length c] w fun e w' => e = .returned (.int .i64 91) ∧ Fr w w' [g] ∧ RefS w' A g gi bb rb S low P true false 0 nw := by
  obtain ⟨cap, k1, k2, d⟩ := h.dv
  have c4 : w.cell? ⟨g, 4, none⟩ = some (.bool false) := Blk.cell d 4
  have c1 : w.cell? ⟨g, 1, none⟩ = some (.int .i64 low) := Blk.cell d 1
  have c2 : w.cell? ⟨g, 2, none⟩ = some (.slice (some ⟨bb, 0, none⟩) S.length S.length) := Blk.cell d 2
  have HG := Lib.hid (goes_off d)
  have HH := Lib.hid h
  have t1 : decide ((i : Int) < 0) = false := by simp
  have t2 : decide ((S.length : Int) ≤ (i : Int)) = false := by simp; omega
  have t3 : decide ((i : Int) < low) = false := by simpa using hlow
  have t4 : ((l.length : Int) != 256) = false := by rw [hl]; rfl
  have t5 : (l.length == 256) = true := by rw [hl]; rfl
  have u1 : (0 : Int) ≤ (i : Int) := by omega
  have u2 : (i : Int) < (S.length : Int) := by omega
  have HK := Lib.hid (And.intro k1 k2)
  clear h hl hlow d k1 k2 hi
  go_enter Try.func17, Try.ntmps17
  go_wp2_with fail
  refine HG.out.mono ?_
  rintro e w1 ⟨rfl, hg1, hd1⟩
  have HF := Lib.hid (show Fr w w1 [g] from fr_grown hg1 (by simp))
  have HD := Lib.hid hd1
  clear hg1 hd1
  go_wp2_with fail
  go_ret
  exact ⟨rfl, HF.out, HH.out.dvs HF.out ⟨_, HK.out.1, HK.out.2, HD.out⟩⟩
end Go.Proofs.Ytohmdcbfffgheaa.Dk
