/-
  The walk of the statement FrameWrites. Conditions: frame's sentinels, sha's tables and errors.errorType stand in memory.
-/
import Derived.Test.YtmojhnekecbbiaaGreatDoorFx
namespace Go.Proofs.YtmojhnekecbbiaaGreatDoor.Sh
open Lb Go.RowKit Go.Lib

set_option maxHeartbeats 4000000 in
set_option maxRecDepth 100000 in
theorem writes_law (k : Int) (ks : ByteArray) (ao : Option Addr) (d : List UInt8) (n c : Nat) (m : Int) (a0 a1 : Addr) (w : World) (hE : Env w a0 a1) (h : Byt w ao d) (hn : ao = none → c = 0) (hd : d.length = n) (_ : n ≤ c) (_ : c ≤ 9223372036854775807) (hm0 : -9223372036854775808 ≤ m) (hm1 : m ≤ 9223372036854775807) :
    Calls Tryz.prog 3 #[.agg #[.int .i64 k, .string ks, .slice ao n c], .int .i64 m] w fun e w' => e = .returned (.bool true) ∧ Below w.heap.size w w' := by
  have B0 := Lib.hid (al1 w (.cells #[.int .i64 k, .string ks, .slice ao n c] 25))
  have YB := Lib.hid (box_law k ks ao n c w)
  have E0 := Lib.hid (hE.below B0.out)
  have H0 := Lib.hid (h.below B0.out)
  have HN := Lib.hid hn
  have HD := Lib.hid hd
  have CH := Lib.hid (fun W (hb : Below w.heap.size w W) => heads_any a0 a1 W (hE.below hb))
  clear hE h hn hd
  by_cases h9 : 9000 < n
  · have d1 : decide ((9000 : Int) < (n : Int)) = true := by simp; omega
    go_enter Tryz.func3, Tryz.ntmps3
    go_wp2_with fail
    refine (CH.out _ B0.out).mono ?_
    rintro e w1 ⟨rfl, b1⟩
    have B1 := Lib.hid (below_chain B0.out b1)
    clear b1
    go_wp2_with fail
    go_ret
    exact ⟨rfl, B1.out⟩
  · have d1 : decide ((9000 : Int) < (n : Int)) = false := by simp; omega
    have CP := Lib.hid (frput_any k ks ao d n c a0 a1 _ E0.out H0.out HN.out HD.out (by omega))
    have CR := Lib.hid (fun W (hb : Below (w.alloc (.cells #[.int .i64 k, .string ks, .slice ao n c] 25)).heap.size (w.alloc (.cells #[.int .i64 k, .string ks, .slice ao n c] 25)) W) => refput_any12 k ks ao d n c W (H0.out.below hb) HN.out HD.out (by omega))
    obtain ⟨E, hE⟩ : ∃ E, E = putE k ks d := ⟨_, rfl⟩
    obtain ⟨L, hL⟩ : ∃ L, L = (if putE k ks d = 0 then Fr.frL (kb k) d else []) := ⟨_, rfl⟩
    unfold AnsPut at CP CR
    rw [← hL, ← hE] at CP CR
    have CS := Lib.hid (frsize_any m hm0 hm1)
    have CZ := Lib.hid (refsize_any m hm0 hm1)
    obtain ⟨S, hS⟩ : ∃ S, S = sizeN m := ⟨_, rfl⟩
    rw [← hS] at CS CZ
    clear hE hL hS
    go_enter Tryz.func3, Tryz.ntmps3
    go_wp2_with fail
    generalize w.alloc (.cells #[.int .i64 k, .string ks, .slice ao n c] 25) = W1 at *
    have y1 := keep29 YB.out
    go_wp2_with fail
    refine CP.out.mono ?_
    rintro e w2 ⟨b2, v2, rfl, o2⟩
    obtain ⟨s2, c2, rfl, _, _, hy2, hn2⟩ := own_byt o2
    have Y2 := Lib.hid (YB.out.low b2)
    have B2 := Lib.hid b2
    have BW := Lib.hid (B0.out.trans (b2.mono B0.out.size))
    have hl2 := (CR.out w2 b2)
    obtain ⟨q, hq⟩ : ∃ q, q = L.length := ⟨_, rfl⟩
    rw [← hq]
    have HY2 := Lib.hid hy2
    have HN2 := Lib.hid hn2
    have HQ := Lib.hid hq
    have CR2 := Lib.hid hl2
    have y2 := keep29 Y2.out
    clear b2 o2 hy2 hn2 hl2 hq CR CP y1
    go_wp2_with fail
    refine CR2.out.mono ?_
    rintro e w3 ⟨b3, v3, rfl, o3⟩
    obtain ⟨s3, c3, rfl, _, _, hy3, hn3⟩ := own_byt o3
    have CM := Cr.same_any s2 s3 L L c2 c3 w3 (HY2.out.below b3) hy3 HN2.out hn3
    rw [← HQ.out] at CM ⊢
    rw [show decide (L = L) = true by simp] at CM
    have CM' := Lib.hid CM
    have BW3 := Lib.hid (below_chain BW.out b3)
    clear CM b3 o3 hy3 hn3 CR2
    go_wp2_with fail
    refine CM'.out.mono ?_
    rintro e w4 ⟨rfl, rfl⟩
    go_wp2_with fail
    refine (CS.out _).mono ?_
    rintro e w5 ⟨rfl, rfl⟩
    go_wp2_with fail
    refine (CZ.out _).mono ?_
    rintro e w6 ⟨rfl, b6⟩
    have BW6 := Lib.hid (below_chain BW3.out b6)
    clear b6
    go_wp2_with fail
    refine (CH.out _ BW6.out).mono ?_
    rintro e w7 ⟨rfl, b7⟩
    have BW7 := Lib.hid (below_chain BW6.out b7)
    clear b7
    go_wp2_with fail
    go_ret
    exact ⟨rfl, BW7.out⟩
end Go.Proofs.YtmojhnekecbbiaaGreatDoor.Sh
