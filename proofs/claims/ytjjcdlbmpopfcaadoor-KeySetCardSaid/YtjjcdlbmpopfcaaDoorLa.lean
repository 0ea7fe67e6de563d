/-
  The contract of the laws' own heads. Condition: the tables of sha stand in memory.
-/
import Derived.Test.YtjjcdlbmpopfcaaDoorKz
import Derived.Test.YtjjcdlbmpopfcaaDoorKw
import Derived.Test.YtjjcdlbmpopfcaaDoorPm
namespace Go.Proofs.YtjjcdlbmpopfcaaDoor.Sh
open Go.RowKit Go.Lib

/-- the key of kind 0 and nothing -/
def K0 : ByteArray := ⟨#[54, 101, 51, 52, 48, 98, 57, 99, 102, 102, 98, 51, 55, 97, 57, 56, 57, 99, 97, 53, 52, 52, 101, 54, 98, 98, 55, 56, 48, 97, 50, 99, 55, 56, 57, 48, 49, 100, 51, 102, 98, 51, 51, 55, 51, 56, 55, 54, 56, 53, 49, 49, 97, 51, 48, 54, 49, 55, 97, 102, 97, 48, 49, 100]⟩
theorem k0_is : keyS 0 [] = K0 := by
  rw [keyS, show kb 0 = 0 from rfl, sum_nought]
  rfl
theorem k0_size : K0.size = 64 := by rfl
theorem k0_bytes : keyBytes K0.data.toList = some (sumS [0]) := by
  rw [← k0_is]
  show keyBytes (hexL (sumS (kb 0 :: []))) = _
  rw [show kb 0 = 0 from rfl]
  exact keyBytes_back _ (sumS_len _)
theorem k0_E : bytesE K0 = 0 := by rw [bytesE, k0_bytes]; rfl
theorem k0_L : bytesL K0 = sumS [0] := by rw [bytesL, k0_bytes]; rfl
theorem k0_from : fromS (sumS [0]) = K0 := by
  rw [fromS, if_pos (sumS_len _), ← k0_is]
  rfl
theorem k0_fromE : fromE (sumS [0]) = 0 := by rw [fromE, if_pos (sumS_len _)]
theorem kx_E : bytesE ⟨#[120]⟩ = 70 := by decide +kernel
set_option maxRecDepth 100000 in
theorem k0_slice (W : World) : (Instr.slice 24 (.string K0) none (some (.int .i64 8)) none).run Tryd.prog W = .ok (.string ⟨#[54, 101, 51, 52, 48, 98, 57, 99]⟩) W := by
  rfl

theorem srw_lit (w : World) (l : List ByteArray) : Srw (w.alloc (.cells (sts l).toArray 24)) (some ⟨w.heap.size, 0, none⟩) l := fun _ => by
  refine ⟨w.heap.size, 0, rfl, by simp, fun j hj => ?_⟩
  rw [World.cell?_alloc_new, Nat.zero_add, List.getElem?_toArray, ss_get l j hj]
theorem sort_any (ao : Option Addr) (l : List ByteArray) (n c : Nat) (w : World) (h : Srw w ao l) (hn : l.length = n) (hc : n ≤ c) (hcc : c ≤ 9223372036854775807) (hsz : ∀ s ∈ l, s.size ≤ maxLen) (h300 : n ≤ 300) :
    Calls Tryd.prog 19 #[.slice ao n c] w fun e w' => Below w.heap.size w w' ∧ ∃ v, e = .returned v ∧ OwnS w' w.heap.size v (sortU ltB l) := by
  subst hn
  have C := Lib.hid (rising_any ao l c w h hc hcc hsz h300)
  clear h
  go_enter Tryd.func19, Tryd.ntmps19
  go_wp2_with fail
  refine C.out.mono ?_
  rintro e w1 ⟨hb, v, rfl, ho⟩
  have HB := Lib.hid hb
  have HO := Lib.hid ho
  clear hb ho
  go_wp2_with fail
  go_ret
  exact ⟨HB.out, v, rfl, HO.out⟩
theorem bab : sortU ltB [⟨#[98]⟩, ⟨#[97]⟩, ⟨#[98]⟩] = [⟨#[97]⟩, ⟨#[98]⟩] := by decide +kernel
theorem find_b : find (⟨#[98]⟩ : ByteArray) [⟨#[97]⟩, ⟨#[98]⟩] = 1 := by decide +kernel
theorem find_e : find (⟨#[]⟩ : ByteArray) [] = -1 := rfl
set_option maxHeartbeats 4000000 in
set_option maxRecDepth 100000 in
theorem heads_any (w : World) (hl : Lay w) : Calls Tryd.prog 8 #[] w fun e w' => e = .returned (.bool true) ∧ Below w.heap.size w w' := by
  have C9 := Lib.hid (of_any 0 none [] 0 0 w hl (byt_nil _ _) (fun _ => rfl) rfl (by omega))
  rw [k0_is] at C9
  have sl := k0_slice
  have sz : (K0.size : Int) = 64 := by rw [k0_size]; rfl
  have CK := Lib.hid (fun W => bytes_any K0 W (by rw [k0_size]; omega))
  have CX := Lib.hid (fun W => bytes_any ⟨#[120]⟩ W (by decide))
  have kE := k0_E
  have HL := Lib.hid k0_L
  have HF := Lib.hid k0_from
  have HFE := Lib.hid k0_fromE
  have LS := Lib.hid (sumS_len [0])
  generalize K0 = K at *
  clear hl
  go_enter Tryd.func8, Tryd.ntmps8
  go_wp2_with fail
  refine C9.out.mono ?_
  rintro e w1 ⟨rfl, b1⟩
  have B1 := Lib.hid b1
  clear b1
  go_wp2_with fail
  refine (CK.out w1).mono ?_
  rintro e w2 ⟨b2, v2, rfl, o2⟩
  rw [HL.out] at o2
  rw [kE]
  obtain ⟨a2, c2, rfl, hc2, hcm2, hy2, hn2⟩ := own_byt o2
  rw [LS.out] at hc2 ⊢
  have C12 := Lib.hid (from_any a2 (sumS [0]) 32 c2 w2 hy2 LS.out hc2)
  rw [HF.out, HFE.out] at C12
  have B2 := Lib.hid (below_chain B1.out b2)
  clear b2 o2 hy2 hn2 hc2 hcm2
  go_wp2_with fail
  refine C12.out.mono ?_
  rintro e w3 ⟨rfl, b3⟩
  have B3 := Lib.hid (below_chain B2.out b3)
  clear b3
  go_wp2_with fail
  refine (CX.out w3).mono ?_
  rintro e w4 ⟨b4, v4, rfl, _⟩
  rw [kx_E]
  have B4 := Lib.hid (below_chain B3.out b4)
  clear b4
  go_wp2_with fail
  have C19 := Lib.hid (sort_any (some ⟨w4.heap.size, 0, none⟩) [⟨#[98]⟩, ⟨#[97]⟩, ⟨#[98]⟩] 3 3 _ (srw_lit w4 [⟨#[98]⟩, ⟨#[97]⟩, ⟨#[98]⟩]) rfl (by omega) (by omega) (by intro s hs; simp only [List.mem_cons, List.not_mem_nil, or_false] at hs; rcases hs with rfl | rfl | rfl <;> decide) (by omega))
  rw [bab] at C19
  have B5 := Lib.hid (below_alloc B4.out (.cells #[.string ⟨#[98]⟩, .string ⟨#[97]⟩, .string ⟨#[98]⟩] 24))
  refine C19.out.mono ?_
  rintro e w6 ⟨b6, v6, rfl, o6⟩
  obtain ⟨a6, c6, rfl, hc6, hcm6, hs6, hn6⟩ := own_srw o6
  have B6 := Lib.hid (below_chain B5.out b6)
  have S6 := Lib.hid hs6
  have hl2 : ([⟨#[97]⟩, ⟨#[98]⟩] : List ByteArray).length = 2 := rfl
  rw [hl2] at hc6 ⊢
  clear o6 hs6 b6 hl2
  go_wp2_with fail
  have C18 := Lib.hid (same_any a6 (some ⟨w6.heap.size, 0, none⟩) [⟨#[97]⟩, ⟨#[98]⟩] [⟨#[97]⟩, ⟨#[98]⟩] c6 2 _ (S6.out.below (below_alloc (Below.refl _ w6) (.cells #[.string ⟨#[97]⟩, .string ⟨#[98]⟩] 24))) (srw_lit w6 [⟨#[97]⟩, ⟨#[98]⟩]) hc6 hcm6 (by simp) (by omega))
  rw [decide_eq_true rfl] at C18
  have B7 := Lib.hid (below_alloc B6.out (.cells #[.string ⟨#[97]⟩, .string ⟨#[98]⟩] 24))
  refine C18.out.mono ?_
  rintro e w8 ⟨rfl, n8, hw8⟩
  have B8 : Hid (Below w.heap.size w w8) := by show Below _ _ _; rw [hw8]; exact below_drewN B7.out _
  clear hw8
  go_wp2_with fail
  have C21 := Lib.hid (find_any (some ⟨w8.heap.size, 0, none⟩) [⟨#[97]⟩, ⟨#[98]⟩] 2 ⟨#[98]⟩ _ (srw_lit w8 [⟨#[97]⟩, ⟨#[98]⟩]) (by simp) (by omega))
  rw [find_b] at C21
  have B9 := Lib.hid (below_alloc B8.out (.cells #[.string ⟨#[97]⟩, .string ⟨#[98]⟩] 24))
  refine C21.out.mono ?_
  rintro e w9 ⟨rfl, hw9⟩
  have B10 : Hid (Below w.heap.size w w9) := by show Below _ _ _; rw [hw9]; exact B9.out
  clear hw9
  go_wp2_with fail
  have C22 := Lib.hid (find_any none [] 0 ⟨#[]⟩ w9 (srw_nil _ _) (by simp) (by omega))
  rw [find_e] at C22
  refine C22.out.mono ?_
  rintro e w11 ⟨rfl, hw11⟩
  have B11 : Hid (Below w.heap.size w w11) := by show Below _ _ _; rw [hw11]; exact B10.out
  clear hw11
  go_wp2_with fail
  go_ret
  exact ⟨rfl, B11.out⟩
end Go.Proofs.YtjjcdlbmpopfcaaDoor.Sh
