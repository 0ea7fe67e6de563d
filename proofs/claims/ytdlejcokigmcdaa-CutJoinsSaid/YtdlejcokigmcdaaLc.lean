/-
  The walk of the statement CutJoins. No condition.
-/
import Derived.Test.YtdlejcokigmcdaaLa
namespace Go.Proofs.Ytdlejcokigmcdaa.Rb
open Go.ChangeShapes Go.WideShapes Go.ChangeAt Go.RowKit Go.Lib Go.ChangeMaps

set_option maxHeartbeats 2000000 in
set_option maxRecDepth 100000 in
theorem joins_law (ao : Option Addr) (l : List UInt8) (c : Nat) (w : World) (h : Byt w ao l) (hn : ao = none → c = 0) (hc : l.length ≤ c) (hc2 : c ≤ 9223372036854775807) :
    Calls Try.prog 6 #[.slice ao l.length c] w fun e w' => e = .returned (.bool true) ∧ Below w.heap.size w w' := by
  have C9 := Lib.hid heads_any
  by_cases hg : 40000 < l.length
  · have d1 : ((l.length : Int) > 40000) := by omega
    clear h
    go_enter Try.func6, Try.ntmps6
    go_wp2_with fail
    refine (C9.out _).mono ?_
    rintro e w1 ⟨rfl, b1⟩
    go_wp2_with fail
    go_ret
    exact ⟨rfl, b1⟩
  · have d1 : ¬ ((l.length : Int) > 40000) := by omega
    have hbig : l.length ≤ 1000000 := by omega
    have HY := Lib.hid (fun W (hB : Below w.heap.size w W) => h.below hB)
    have C14 := Lib.hid (split_any ao l c w h hn hc hc2 hbig)
    have hsz := chunks_size hit l
    have hfl := chunks_flatten hit l
    have hcn := chunks_count hit 0 l
    have hes := ends_size 0 l
    generalize chunks hit l = R at *
    obtain ⟨m, hm⟩ : ∃ m, m = R.length := ⟨_, rfl⟩
    have hml : m ≤ l.length := by omega
    rw [← hm] at hsz
    have HM : Hid (R.length = m) := hm.symm
    have HS := Lib.hid hsz
    have HF := Lib.hid hfl
    have HN := Lib.hid hn
    have CJ := Lib.hid join_any
    have CS := Lib.hid same_any
    clear h hn hsz hfl hcn hes hm
    go_enter Try.func6, Try.ntmps6
    go_wp2_with fail
    refine C14.out.mono ?_
    rintro e w1 ⟨b1, k, rfl, hk, hr⟩
    rw [HM.out]
    have B1 := Lib.hid b1
    have HR := Lib.hid hr
    have HK := Lib.hid hk
    clear b1 hk hr
    go_wp2_with fail
    go_loop [4] (fun vi => ∃ (i : Nat), i ≤ m ∧ vi = .int .i64 i) (fun vi => m - (RowKit.intOf vi).toNat)
    case atStart => exact ⟨0, by omega, rfl⟩
    case round =>
      obtain ⟨i, hi, rfl⟩ := hrel
      by_cases hin : i < m
      · have hiR : i < R.length := by rw [HM.out]; exact hin
        obtain ⟨a1, c1, d1, y1, n1⟩ := HR.out i hiR
        obtain ⟨s1, s2, s3⟩ := HS.out i _ (List.getElem?_eq_getElem hiR)
        generalize (R[i]).length = x at *
        have e1 : decide ((x : Int) > 2048) = false := by simp; omega
        have e2 : ((x : Int) == 0) = false := by simp; omega
        have q1 : (0 : Int) ≤ (i : Int) := by omega
        have q2 : (i : Int) < (m : Int) := by omega
        have q3 : (m : Int) ≤ 1000000 := by omega
        by_cases hl : i + 1 < m
        · have e3 : decide ((x : Int) < 512) = false := by have := s3 hl; simp; omega
          clear s1 s2 s3 y1 n1 hiR hl
          go_wp2_with fail
          go_round
          case rel => exact ⟨i + 1, by omega, by go_num⟩
          case measure => simp [RowKit.intOf]; omega
        · have e4 : decide ((i : Int) < (m : Int) - 1) = false := by simp; omega
          by_cases hx : x < 512
          · have e3 : decide ((x : Int) < 512) = true := by simp; omega
            clear s1 s2 s3 y1 n1 hiR hl
            go_wp2_with fail
            go_round
            case rel => exact ⟨i + 1, by omega, by go_num⟩
            case measure => simp [RowKit.intOf]; omega
          · have e3 : decide ((x : Int) < 512) = false := by simp; omega
            clear s1 s2 s3 y1 n1 hiR hl
            go_wp2_with fail
            go_round
            case rel => exact ⟨i + 1, by omega, by go_num⟩
            case measure => simp [RowKit.intOf]; omega
      · obtain rfl : i = m := by omega
        have CJ1 := Lib.hid (CJ.out k i R w1 HR.out HM.out (by omega) HK.out (by rw [HF.out]; omega))
        rw [HF.out] at CJ1
        go_wp2_with fail
        refine CJ1.out.mono ?_
        rintro e w2 ⟨b2, v, rfl, ho⟩
        obtain ⟨a2, c2, rfl, _, _, hb2, hn2⟩ := own_byt ho
        have B2 := Lib.hid (below_chain B1.out b2)
        have C2 := Lib.hid (CS.out a2 ao l l c2 c w2 hb2 (HY.out _ B2.out) hn2 HN.out rfl)
        clear b2 ho hb2 hn2
        go_wp2_with fail
        refine C2.out.mono ?_
        rintro e w3 ⟨rfl, rfl⟩
        go_wp2_with fail
        refine (C9.out _).mono ?_
        rintro e w9 ⟨rfl, b9⟩
        have B9 := Lib.hid (below_chain B2.out b9)
        clear b9
        go_wp2_with fail
        go_ret
        exact ⟨rfl, B9.out⟩
end Go.Proofs.Ytdlejcokigmcdaa.Rb
