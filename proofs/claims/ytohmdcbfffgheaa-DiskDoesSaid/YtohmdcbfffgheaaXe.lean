/-
  What must come at any rate of disk: the contract of the statements' own heads. No other condition.
-/
import Derived.Test.YtohmdcbfffgheaaXd
namespace Go.Proofs.Ytohmdcbfffgheaa.Dk
open Go.RowKit Go.Lib Go.Maps

def D1 (l1 : List UInt8) : DataW Unit := DataW.put (.map []) (.int .i64 ((1 : Nat) : Int)) (.lit (.string l1))
def D2 (l1 l2 : List UInt8) : DataW Unit := (D1 l1).put (.int .i64 ((2 : Nat) : Int)) (.lit (.string l2))
theorem keys_D2 (l1 l2 : List UInt8) (ss : List Int) (h : ss.Perm (intKeys (D2 l1 l2))) : ss.mergeSort (fun x y => decide (x ≤ y)) = [1, 2] := by
  have e : intKeys (D2 l1 l2) = [1, 2] := by rfl
  rw [e] at h
  have hp : (ss.mergeSort (fun x y => decide (x ≤ y))).Perm [1, 2] := (List.mergeSort_perm ss _).trans h
  have hs : (ss.mergeSort (fun x y => decide (x ≤ y))).Pairwise (fun x y => x ≤ y) := by
    have := List.pairwise_mergeSort (le := fun (x y : Int) => decide (x ≤ y)) (by intro a b c h1 h2; simp at *; omega) (by intro a b; simp; omega) ss
    simpa using this
  exact hp.eq_of_pairwise (fun a b _ _ h1 h2 => by omega) hs (by simp)
theorem settled_D2 (S : List (List UInt8)) (l1 l2 : List UInt8) : (settled S (D2 l1 l2) [2]).1 = S.set 2 l2 := by rfl
theorem inD_D2 {l1 l2 : List UInt8} (h1 : l1.length = 256) (h2 : l2.length = 256) : InD (D2 l1 l2) 4 := ((InD.nil 4).put 1 (by omega) l1 h1).put 2 (by omega) l2 h2
theorem img7 : (img [7] 1024).length = 1024 := img_len _ _ (by decide)
theorem s7_len : (secs (img [7] (256 * 4)) 4).length = 4 := secs_len _ _
theorem s7_get (j : Nat) (hj : j < 4) : ∃ s, (secs (img [7] (256 * 4)) 4)[j]? = some s ∧ s[0]? = some (if j = 0 then 7 else 0) := by
  refine ⟨_, by rw [secs, List.getElem?_map, List.getElem?_range hj]; rfl, ?_⟩
  rw [secN, List.getElem?_take_of_lt (by omega), List.getElem?_drop, img]
  by_cases h0 : j = 0
  · subst h0
    rfl
  · rw [if_neg h0, List.getElem?_append_right (by simp; omega), List.getElem?_replicate, if_pos (by simp; omega)]
theorem secL_head (f : UInt8) : (secL f 256)[0]? = some f := by
  simp [secL, secTo]
set_option maxHeartbeats 4000000 in
set_option maxRecDepth 100000 in
theorem heads_any (w : World) : Calls Try.prog 8 #[] w fun e w' => e = .returned (.bool true) ∧ Below w.heap.size w w' := by
  have B0 := Lib.hid ((Below.refl w.heap.size w).alloc (Nat.le_refl _) (.cells #[.int .u8 7] 5))
  have H0 : Hid (Byt (w.alloc (.cells #[.int .u8 7] 5)) (some ⟨w.heap.size, 0, none⟩) [7]) := fun _ => ⟨w.heap.size, 0, rfl, by simp, fun j hj => by
    obtain rfl : j = 0 := by simpa using hj
    rw [World.cell?_alloc_new]
    rfl⟩
  go_enter Try.func8, Try.ntmps8
  go_wp2_with fail
  generalize w.alloc (.cells #[.int .u8 7] 5) = w0 at *
  refine (new_ok 3 (some ⟨w.heap.size, 0, none⟩) [7] 1 1 w0 H0.out rfl (by decide)).mono ?_
  rintro e w1 ⟨hb1, ⟨h9, _⟩ | ⟨_, g, sa, mb, rfl, hg, hsa, hmb, hD⟩⟩
  · cases h9
  have hD1 : Hid (DevS w1 g sa mb (secs (img [7] (256 * 4)) 4) 1 0 (.map []) true (-1) 0) := hD
  have B1 := Lib.hid (below_chain B0.out hb1)
  have hge : w.heap.size ≤ g ∧ w.heap.size ≤ sa ∧ w.heap.size ≤ mb := by have := B0.out.size; omega
  have GE := Lib.hid hge
  clear hb1 hg hsa hmb hD hge B0 H0
  have SL := Lib.hid s7_len
  have SG := Lib.hid s7_get
  generalize secs (img [7] (256 * 4)) 4 = S at *
  go_wp2_with fail
  refine (new_ok 0 none [] 0 0 w1 (byt_nil _ _) rfl (by decide)).mono ?_
  rintro e w2 ⟨hb2, ⟨_, rfl⟩ | ⟨h9, _⟩⟩
  rotate_left
  · exact absurd h9 (by decide)
  have hD2 := Lib.hid (hD1.out.later hb2)
  have B2 := Lib.hid (below_chain B1.out hb2)
  clear hb2 hD1 B1
  go_wp2_with fail
  refine (size_any hD2.out.dv (by rw [SL.out]; omega)).mono ?_
  rintro e w3 ⟨rfl, q3, rfl⟩
  rw [SL.out]
  have B3 := Lib.hid (below_drewN B2.out q3)
  have hD3 := Lib.hid (hD2.out.later (below_drewN (Below.refl _ w2) q3))
  clear B2 hD2
  generalize World.drewN w2 q3 = w3 at *
  go_wp2_with fail
  -- a := d.Write(0, sector(1, 256))
  refine (sector_256 1 w3).mono ?_
  rintro e w4 ⟨hb4, b4, c4, rfl, hg4, hr4, hc4, hcc4⟩
  have hD4 := Lib.hid (hD3.out.later hb4)
  have B4 := Lib.hid (below_chain B3.out hb4)
  clear hb4 hg4 hr4 hc4 hcc4 hD3 B3
  go_wp2_with fail
  refine (write_low hD4.out 0 (some ⟨b4, 0, none⟩) 256 c4 (by rw [SL.out]; rfl) (by omega)).mono ?_
  rintro e w5 ⟨rfl, rfl⟩
  go_wp2_with fail
  -- b := d.Write(1, sector(1, 256))
  refine (sector_256 1 w5).mono ?_
  rintro e w6 ⟨hb6, b6, c6, rfl, hg6, hr6, hc6, hcc6⟩
  have hD6 := Lib.hid (hD4.out.later hb6)
  have hlt6 := Lib.hid (Nat.lt_of_lt_of_le hD4.out.dv.lt hg6)
  have hmt6 := Lib.hid (Nat.lt_of_lt_of_le hD4.out.map.lt hg6)
  have B6 := Lib.hid (below_chain B4.out hb6)
  have R6 := Lib.hid hr6
  clear hb6 hg6 hr6 hc6 hcc6 hD4 B4
  go_wp2_with fail
  refine (write_ok hD6.out 1 b6 0 c6 (secL 1 256) (by rw [SL.out]; rfl) (by rw [SL.out]; omega) (by rw [SL.out]; omega) (by omega) R6.out (secL_len 1) (by omega) (by omega) (by omega) (by omega) (by omega) (by omega) (by have := hlt6.out; omega) (by have := hmt6.out; omega)).mono ?_
  rintro e w7 ⟨rfl, hf7, hd7⟩
  have hD7 : Hid (DevS w7 g sa mb S 1 1 (D1 (secL 1 256)) true (-1) 1) := hd7
  have B7 := Lib.hid (B6.out.trans (hf7.below B6.out.size (by intro n hn; have := GE.out; simp at hn; omega)))
  clear hf7 hd7 hD6 B6 R6
  go_wp2_with fail
  -- c := d.Write(2, sector(2, 256))
  refine (sector_256 2 w7).mono ?_
  rintro e w8 ⟨hb8, b8, c8, rfl, hg8, hr8, hc8, hcc8⟩
  have hD8 := Lib.hid (hD7.out.later hb8)
  have hlt8 := Lib.hid (Nat.lt_of_lt_of_le hD7.out.dv.lt hg8)
  have hmt8 := Lib.hid (Nat.lt_of_lt_of_le hD7.out.map.lt hg8)
  have B8 := Lib.hid (below_chain B7.out hb8)
  have R8 := Lib.hid hr8
  clear hb8 hg8 hr8 hc8 hcc8 hD7 B7
  go_wp2_with fail
  refine (write_ok hD8.out 2 b8 0 c8 (secL 2 256) (by rw [SL.out]; rfl) (by rw [SL.out]; omega) (by rw [SL.out]; omega) (by omega) R8.out (secL_len 2) (by omega) (by omega) (by omega) (by omega) (by omega) (by omega) (by have := hlt8.out; omega) (by have := hmt8.out; omega)).mono ?_
  rintro e w9 ⟨rfl, hf9, hd9⟩
  have hD9 : Hid (DevS w9 g sa mb S 1 2 (D2 (secL 1 256) (secL 2 256)) true (-1) 2) := hd9
  have B9 := Lib.hid (B8.out.trans (hf9.below B8.out.size (by intro n hn; have := GE.out; simp at hn; omega)))
  clear hf9 hd9 hD8 B8 R8
  go_wp2_with fail
  -- l := d.Cached()
  refine (cached_is hD9.out (by rw [SL.out]; omega) (by omega) [1, 2] (keys_D2 _ _)).mono ?_
  rintro e w10 ⟨hb10, a10, c10, rfl, hc10, hcc10, hz10⟩
  have hD10 := Lib.hid (hD9.out.later hb10)
  have B10 := Lib.hid (below_chain B9.out hb10)
  have Z10 := Lib.hid hz10
  have KP : Hid (Keep (w10.alloc (.cells #[.int .i64 2] 3)) (some ⟨w10.heap.size, 0, none⟩) [sa, mb] [2]) := fun _ => by
    refine ⟨w10.heap.size, 0, rfl, by simp, ?_, fun j hj => ?_⟩
    · have h1 := hD10.out.sec.lt
      have h2 := hD10.out.map.lt
      simp
      omega
    · obtain rfl : j = 0 := by simpa using hj
      rw [World.cell?_alloc_new]
      rfl
  have AL := Lib.hid ((Below.refl w10.heap.size w10).alloc (Nat.le_refl _) (.cells #[.int .i64 2] 3))
  clear hb10 hz10 hD9 B9
  go_wp2_with fail
  generalize w10.alloc (.cells #[.int .i64 2] 3) = w11 at *
  have hD11 := Lib.hid (hD10.out.later AL.out)
  have B11 := Lib.hid (below_chain B10.out AL.out)
  have Z11 := Lib.hid (Z10.out.later AL.out)
  clear hD10 B10 Z10
  -- d.Crash([]int{2})
  refine (crash_any hD11.out (by rw [SL.out]; exact inD_D2 (secL_len 1) (secL_len 2)) (by rw [SL.out]; omega) (by rw [SL.out]; omega) (some ⟨w10.heap.size, 0, none⟩) [2] 1 KP.out (by intro x hx; simp at hx; omega) (by simp)).mono ?_
  rintro e w12 ⟨rfl, hf12, hd12⟩
  rw [settled_D2] at hd12
  have hD12 := Lib.hid hd12
  have B12 := Lib.hid (B11.out.trans (hf12.below B11.out.size (by intro n hn; have := GE.out; simp at hn; omega)))
  have Z12 := Lib.hid (Z11.out.turn hf12)
  clear hf12 hd12 hD11 B11 Z11 KP AL
  have SL2 : Hid ((S.set 2 (secL 2 256)).length = 4) := by show _ = _; rw [List.length_set]; exact SL.out
  have G0 : Hid (∃ s, (S.set 2 (secL 2 256))[0]? = some s ∧ s[0]? = some 7) := by
    obtain ⟨s, h1, h2⟩ := SG.out 0 (by omega)
    exact ⟨s, by rw [List.getElem?_set]; simpa using h1, h2⟩
  have G1 : Hid (∃ s, (S.set 2 (secL 2 256))[1]? = some s ∧ s[0]? = some 0) := by
    obtain ⟨s, h1, h2⟩ := SG.out 1 (by omega)
    exact ⟨s, by rw [List.getElem?_set]; simpa using h1, h2⟩
  have G2 : Hid ((S.set 2 (secL 2 256))[2]? = some (secL 2 256)) := by
    show _ = _
    rw [List.getElem?_set_self (by rw [SL.out]; omega)]
  generalize S.set 2 (secL 2 256) = T at *
  clear SL SG
  go_wp2_with fail
  -- _, g := d.Read(2)
  refine (read_no hD12.out 2 91 (by rw [SL2.out]; rfl) (by decide)).mono ?_
  rintro e w13 ⟨rfl, rfl⟩
  go_wp2_with fail
  -- d.Start()
  refine (start_any hD12.out.dv (by rw [SL2.out]; omega)).mono ?_
  rintro e w14 ⟨rfl, hg14, hd14⟩
  have hD14 := Lib.hid (hD12.out.turn hg14 hd14)
  have B14 := Lib.hid (B12.out.grown hg14 B12.out.size (fun k e => by injection e with e; have := GE.out; omega))
  have Z14 := Lib.hid (Z12.out.turn (fr_grown hg14 (by simp)))
  clear hg14 hd14 hD12 B12 Z12
  go_wp2_with fail
  -- x, h := d.Read(2)
  refine (read_raw hD14.out 2 (by rw [SL2.out]; omega) (by rw [SL2.out]; rfl) (by rw [SL2.out]; omega) _ G2.out rfl rfl).mono ?_
  rintro e w15 ⟨hb15, b15, rfl, _, hk15⟩
  have hD15 := Lib.hid (hD14.out.later hb15)
  have B15 := Lib.hid (below_chain B14.out hb15)
  have Z15 := Lib.hid (Z14.out.later hb15)
  have X15 : Hid (w15.cell? ⟨b15, 0, none⟩ = some (.int .u8 2)) := by
    show _ = _
    rw [hk15.cell]
    have h1 := secL_head 2
    rw [bs, List.getElem?_map, h1]
    rfl
  have L15 := Lib.hid hk15.lt
  clear hb15 hk15 hD14 B14 Z14
  go_wp2_with fail
  -- y, i := d.Read(1)
  obtain ⟨s1, g1, g2⟩ := G1.out
  refine (read_raw hD15.out 1 (by rw [SL2.out]; omega) (by rw [SL2.out]; rfl) (by rw [SL2.out]; omega) _ g1 rfl rfl).mono ?_
  rintro e w16 ⟨hb16, b16, rfl, _, hk16⟩
  have hD16 := Lib.hid (hD15.out.later hb16)
  have B16 := Lib.hid (below_chain B15.out hb16)
  have Z16 := Lib.hid (Z15.out.later hb16)
  have X16 : Hid (w16.cell? ⟨b15, 0, none⟩ = some (.int .u8 2)) := (hb16.cell (p := ⟨b15, 0, none⟩) L15.out).trans X15.out
  have L16a := Lib.hid (Nat.lt_of_lt_of_le L15.out hb16.size)
  have Y16 : Hid (w16.cell? ⟨b16, 0, none⟩ = some (.int .u8 0)) := by
    show _ = _
    rw [hk16.cell, bs, List.getElem?_map, g2]
    rfl
  have L16 := Lib.hid hk16.lt
  clear hb16 hk16 hD15 B15 Z15 X15 L15 g1 g2
  go_wp2_with fail
  -- w, j := d.Read(0)
  obtain ⟨s0, g1, g2⟩ := G0.out
  refine (read_raw hD16.out 0 (by rw [SL2.out]; omega) (by rw [SL2.out]; rfl) (by rw [SL2.out]; omega) _ g1 rfl rfl).mono ?_
  rintro e w17 ⟨hb17, b17, rfl, _, hk17⟩
  have hD17 := Lib.hid (hD16.out.later hb17)
  have B17 := Lib.hid (below_chain B16.out hb17)
  have Z17 := Lib.hid (Z16.out.later hb17)
  have x17 : w17.cell? ⟨b15, 0, none⟩ = some (.int .u8 2) := (hb17.cell (p := ⟨b15, 0, none⟩) L16a.out).trans X16.out
  have y17 : w17.cell? ⟨b16, 0, none⟩ = some (.int .u8 0) := (hb17.cell (p := ⟨b16, 0, none⟩) L16.out).trans Y16.out
  have v17 : w17.cell? ⟨b17, 0, none⟩ = some (.int .u8 7) := by
    rw [hk17.cell, bs, List.getElem?_map, g2]
    rfl
  have L17 := Lib.hid hk17.lt
  have AL := Lib.hid ((Below.refl w17.heap.size w17).alloc (Nat.le_refl _) (.cells #[.int .i64 1, .int .i64 2] 3))
  have la := L16a.out
  have lb := L16.out
  have hs17 := hb17.size
  have X18 : Hid ((w17.alloc (.cells #[.int .i64 1, .int .i64 2] 3)).cell? ⟨b15, 0, none⟩ = some (.int .u8 2)) := (AL.out.cell (p := ⟨b15, 0, none⟩) (by show b15 < _; omega)).trans x17
  have Y18 : Hid ((w17.alloc (.cells #[.int .i64 1, .int .i64 2] 3)).cell? ⟨b16, 0, none⟩ = some (.int .u8 0)) := (AL.out.cell (p := ⟨b16, 0, none⟩) (by show b16 < _; omega)).trans y17
  have V18 : Hid ((w17.alloc (.cells #[.int .i64 1, .int .i64 2] 3)).cell? ⟨b17, 0, none⟩ = some (.int .u8 7)) := (AL.out.cell (p := ⟨b17, 0, none⟩) hk17.lt).trans v17
  have N18 : Hid (Zrw (w17.alloc (.cells #[.int .i64 1, .int .i64 2] 3)) (some ⟨w17.heap.size, 0, none⟩) [1, 2]) := fun _ => by
    refine ⟨w17.heap.size, 0, rfl, by simp, fun j hj => ?_⟩
    rw [World.cell?_alloc_new]
    rcases (show j = 0 ∨ j = 1 by simp at hj; omega) with rfl | rfl <;> rfl
  have LX := Lib.hid (show b15 < w17.heap.size ∧ b16 < w17.heap.size ∧ b17 < w17.heap.size from ⟨by omega, by omega, hk17.lt⟩)
  clear hb17 hk17 hD16 B16 Z16 X16 Y16 L16 L16a g1 g2 x17 y17 v17 la lb hs17
  go_wp2_with fail
  refine (ints_same a10 (some ⟨w17.heap.size, 0, none⟩) [1, 2] 2 c10 2 _ (Z17.out.zrw.below AL.out) N18.out rfl hc10 hcc10 (by omega)).mono ?_
  rintro e w19 ⟨rfl, hb19⟩
  have hD19 := Lib.hid ((hD17.out.later AL.out).later hb19)
  have B19 := Lib.hid (below_chain (below_chain B17.out AL.out) hb19)
  have hsz := AL.out.size
  have hlx := LX.out
  have x19 : w19.cell? ⟨b15, 0, none⟩ = some (.int .u8 2) := (hb19.cell (p := ⟨b15, 0, none⟩) (by show b15 < _; omega)).trans X18.out
  have y19 : w19.cell? ⟨b16, 0, none⟩ = some (.int .u8 0) := (hb19.cell (p := ⟨b16, 0, none⟩) (by show b16 < _; omega)).trans Y18.out
  have v19 : w19.cell? ⟨b17, 0, none⟩ = some (.int .u8 7) := (hb19.cell (p := ⟨b17, 0, none⟩) (by show b17 < _; omega)).trans V18.out
  clear hb19 hsz hlx hD17 B17 Z17 AL X18 Y18 V18 N18 L17 LX
  go_wp2_with fail
  -- d.Writes()
  refine (writes_any hD19.out.dv).mono ?_
  rintro e w20 ⟨rfl, rfl⟩
  have e0 : (if T.length = 0 then (0 : Int) else 2) = 2 := by rw [if_neg (by rw [SL2.out]; omega)]
  rw [e0]
  clear e0
  go_wp2_with fail
  -- d.Image()
  refine (image_any hD19.out (by rw [SL2.out]; omega) (by rw [SL2.out]; omega)).mono ?_
  rintro e w21 ⟨hb21, v21, rfl, ho21⟩
  obtain ⟨a21, c21, rfl, _⟩ := own_byt ho21
  have FL : T.flatten.length = 1024 := by
    have := take_flat T hD19.out.len T.length (Nat.le_refl _)
    rw [List.take_length, SL2.out] at this
    exact this
  rw [FL]
  have B21 := Lib.hid (below_chain B19.out hb21)
  clear hb21 ho21 FL B19 hD19
  go_wp2_with fail
  go_ret
  exact ⟨rfl, B21.out⟩
end Go.Proofs.Ytohmdcbfffgheaa.Dk
