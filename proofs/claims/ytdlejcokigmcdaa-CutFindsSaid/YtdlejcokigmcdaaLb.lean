/-
  The walks of the statements CutFinds and CutNoughts. No condition.
-/
import Derived.Test.YtdlejcokigmcdaaLa
namespace Go.Proofs.Ytdlejcokigmcdaa.Rb
open Go.ChangeShapes Go.WideShapes Go.ChangeAt Go.RowKit Go.Lib Go.ChangeMaps

set_option maxHeartbeats 2000000 in
set_option maxRecDepth 100000 in
theorem finds_law (ao : Option Addr) (l : List UInt8) (c : Nat) (w : World) (h : Byt w ao l) (hn : ao = none → c = 0) (hc : l.length ≤ c) (hc2 : c ≤ 9223372036854775807) :
    Calls Try.prog 5 #[.slice ao l.length c] w fun e w' => e = .returned (.bool true) ∧ Below w.heap.size w w' := by
  have C9 := Lib.hid heads_any
  by_cases hg : 12000 < l.length
  · have d1 : ((l.length : Int) > 12000) := by omega
    clear h
    go_enter Try.func5, Try.ntmps5
    go_wp2_with fail
    refine (C9.out _).mono ?_
    rintro e w1 ⟨rfl, b1⟩
    go_wp2_with fail
    go_ret
    exact ⟨rfl, b1⟩
  · have d1 : ¬ ((l.length : Int) > 12000) := by omega
    have hbig : l.length ≤ 1000000 := by omega
    have C10 := Lib.hid (fun W (hB : Below w.heap.size w W) => cuts_any ao l c W (h.below hB) hc hc2 hbig)
    have C12 := Lib.hid (fun W (hB : Below w.heap.size w W) => refcuts_any ao l c W (h.below hB) hc hc2 hbig)
    have C14 := Lib.hid (fun W (hB : Below w.heap.size w W) => split_any ao l c W (h.below hB) hn hc hc2 hbig)
    have C15 := Lib.hid (fun W (hB : Below w.heap.size w W) => refsplit_any ao l c W (h.below hB) hc hc2 hbig)
    have C16 := Lib.hid (fun W (hB : Below w.heap.size w W) => first_any ao l c W (h.below hB) hc hc2)
    have C17 := Lib.hid (fun W (hB : Below w.heap.size w W) => reffirst_below ao l c W (h.below hB) hc hc2)
    have B0 := Lib.hid (Below.refl w.heap.size w)
    have hEL := ends_size 0 l
    have hCL := chunks_count hit 0 l
    generalize ends hit 0 l = E at *
    generalize chunks hit l = R at *
    generalize first hit l = F at *
    obtain ⟨m, hm⟩ : ∃ m, m = E.length := ⟨_, rfl⟩
    rw [← hm] at hCL hEL
    have HM : Hid (E.length = m) := hm.symm
    have HR := Lib.hid hCL
    have CI := Lib.hid ints_same
    have CL := Lib.hid lists_same
    clear h hm hCL
    go_enter Try.func5, Try.ntmps5
    go_wp2_with fail
    refine (C10.out _ B0.out).mono ?_
    rintro e w1 ⟨b1, v, rfl, ho⟩
    obtain ⟨a1, c1, rfl, _, _, hir, _⟩ := own_irw ho
    rw [HM.out]
    have B1 := Lib.hid b1
    have I1 := Lib.hid hir
    clear b1 ho hir
    go_wp2_with fail
    refine (C12.out _ B1.out).mono ?_
    rintro e w2 ⟨b2, v, rfl, ho⟩
    obtain ⟨a2, c2, rfl, _, _, hir, _⟩ := own_irw ho
    rw [HM.out]
    have B2 := Lib.hid (below_chain B1.out b2)
    have J1 := Lib.hid (I1.out.below b2)
    have I2 := Lib.hid hir
    clear b2 ho hir I1
    go_wp2_with fail
    refine (CI.out m _ _ E _ _ _ J1.out I2.out HM.out (by omega)).mono ?_
    rintro e w3 ⟨rfl, b3⟩
    have B3 := Lib.hid (below_chain B2.out b3)
    clear b3 J1 I2
    go_wp2_with fail
    refine (C14.out _ B3.out).mono ?_
    rintro e w4 ⟨b4, k, rfl, hk, hr⟩
    rw [HR.out]
    have B4 := Lib.hid (below_chain B3.out b4)
    have R4 : Hid (RwG w4 (some ⟨k, 0, none⟩) R) := fun _ => ⟨k, rfl, hk, hr⟩
    clear b4 hk hr
    go_wp2_with fail
    refine (C15.out _ B4.out).mono ?_
    rintro e w5 ⟨b5, v, rfl, ho⟩
    obtain ⟨a5, c5, rfl, _, _, hr5⟩ := ownr_read ho
    rw [HR.out]
    have B5 := Lib.hid (below_chain B4.out b5)
    have R5 := Lib.hid (R4.out.below b5)
    have R6 := Lib.hid hr5
    clear b5 ho hr5 R4
    go_wp2_with fail
    refine (CL.out m _ _ R _ _ _ R5.out R6.out HR.out (by omega)).mono ?_
    rintro e w6 ⟨rfl, b6⟩
    have B6 := Lib.hid (below_chain B5.out b6)
    clear b6 R5 R6
    go_wp2_with fail
    refine (C16.out _ B6.out).mono ?_
    rintro e w7 ⟨rfl, b7⟩
    have B7 := Lib.hid (below_chain B6.out b7)
    clear b7
    go_wp2_with fail
    refine (C17.out _ B7.out).mono ?_
    rintro e w8 ⟨rfl, b8⟩
    have B8 := Lib.hid (below_chain B7.out b8)
    clear b8
    go_wp2_with fail
    refine (C9.out _).mono ?_
    rintro e w9 ⟨rfl, b9⟩
    have B9 := Lib.hid (below_chain B8.out b9)
    clear b9
    go_wp2_with fail
    go_ret
    exact ⟨rfl, B9.out⟩

set_option maxHeartbeats 2000000 in
set_option maxRecDepth 100000 in
theorem noughts_law (n : Int) (w : World) :
    Calls Try.prog 3 #[.int .i64 n] w fun e w' => e = .returned (.bool true) ∧ Below w.heap.size w w' := by
  have C9 := Lib.hid heads_any
  by_cases hn0 : n < 0
  · go_enter Try.func3, Try.ntmps3
    go_wp2_with fail
    refine (C9.out _).mono ?_
    rintro e w1 ⟨rfl, b1⟩
    go_wp2_with fail
    go_ret
    exact ⟨rfl, b1⟩
  · by_cases hn1 : n > 20000
    · go_enter Try.func3, Try.ntmps3
      go_wp2_with fail
      refine (C9.out _).mono ?_
      rintro e w1 ⟨rfl, b1⟩
      go_wp2_with fail
      go_ret
      exact ⟨rfl, b1⟩
    · obtain ⟨k, rfl⟩ : ∃ k : Nat, n = (k : Int) := ⟨n.toNat, by omega⟩
      have hk : k ≤ 20000 := by omega
      have mk := fun W => make_u8 k (by omega) W
      have BY0 : Byt (w.alloc (.cells (bs (List.replicate k 0)).toArray 5)) (some ⟨w.heap.size, 0, none⟩) (List.replicate k 0) := Blk.byt (Blk.new w (bs (List.replicate k 0)) 5 _ rfl)
      obtain ⟨hEl, hEg⟩ := ends_noughts hit hit_zero 0 k
      have C10 := Lib.hid (cuts_any _ (List.replicate k 0) k _ BY0 (by rw [List.length_replicate]; exact Nat.le_refl _) (by omega) (by rw [List.length_replicate]; omega))
      rw [List.length_replicate] at C10
      have B0 := Lib.hid ((Below.refl w.heap.size w).alloc (Nat.le_refl _) (.cells (bs (List.replicate k 0)).toArray 5))
      generalize (bs (List.replicate k 0)).toArray = Z at *
      generalize ends hit 0 (List.replicate k 0) = E at *
      obtain ⟨m, hm⟩ : ∃ m, m = E.length := ⟨_, rfl⟩
      have HM : Hid (E.length = m) := hm.symm
      have HG := Lib.hid hEg
      rw [← hm] at hEl
      have D1 : ((m : Int) == ((k : Int) + 2047) / 2048) = true := by simp; omega
      have D2 : (m : Int) ≤ 12 := by omega
      clear BY0 hEg hm hEl
      go_enter Try.func3, Try.ntmps3
      go_wp2_with fail
      refine C10.out.mono ?_
      rintro e w1 ⟨b1, v, rfl, ho⟩
      obtain ⟨a1, c1, rfl, _, _, hir, _⟩ := own_irw ho
      rw [HM.out]
      have B1 := Lib.hid (below_chain B0.out b1)
      have I1 := Lib.hid hir
      clear b1 ho hir
      go_wp2_with fail
      go_loop [4] (fun vi => ∃ (i : Nat), i ≤ m ∧ vi = .int .i64 i) (fun vi => m - (RowKit.intOf vi).toNat)
      case atStart => exact ⟨0, by omega, rfl⟩
      case round =>
        obtain ⟨i, hi, rfl⟩ := hrel
        by_cases hin : i < m
        · obtain ⟨b2, o2, rfl, _, hcell⟩ := I1.out (fun h0 => by have := HM.out; rw [h0] at this; simp at this; omega)
          have hiE : i < E.length := by rw [HM.out]; exact hin
          have d1 := hcell i hiE
          have hx := HG.out i E[i] (List.getElem?_eq_getElem hiE)
          generalize E[i] = x at *
          have e1 : ((x : Int) != min (k : Int) (2048 * ((i : Int) + 1))) = false := by simp; omega
          have q1 : (0 : Int) ≤ (i : Int) := by omega
          have q2 : (i : Int) < (m : Int) := by omega
          clear hx hiE hcell
          go_wp2_with fail
          go_round
          case rel => exact ⟨i + 1, by omega, by go_num⟩
          case measure => simp [RowKit.intOf]; omega
        · obtain rfl : i = m := by omega
          go_wp2_with fail
          refine (C9.out _).mono ?_
          rintro e w9 ⟨rfl, b9⟩
          have B9 := Lib.hid (below_chain B1.out b9)
          clear b9
          go_wp2_with fail
          go_ret
          exact ⟨rfl, B9.out⟩
end Go.Proofs.Ytdlejcokigmcdaa.Rb
