/-
  The law of the statement DiskMakes. No other condition.
-/
import Derived.Test.YtohmdcbfffgheaaXg
namespace Go.Proofs.Ytohmdcbfffgheaa.Dk
open Go.RowKit Go.Lib Go.Maps
set_option maxRecDepth 100000 in
theorem bytes_same (ao bo : Option Addr) (l : List UInt8) (n c d : Nat) (w : World) (h1 : Byt w ao l) (h2 : Byt w bo l) (n1 : ao = none → c = 0) (n2 : bo = none → d = 0) (hl : l.length = n) :
    Calls Try.prog 22 #[.slice ao n c, .slice bo n d] w fun e w' => e = .returned (.bool true) ∧ w' = w := by
  have c1 := conv_byt (t := 29) (e := 5) (d := 9) (P := Try.prog) Try.underlying29 Try.underlying5 Try.underlying9 ao l c h1 n1
  have c2 := conv_byt (t := 29) (e := 5) (d := 9) (P := Try.prog) Try.underlying29 Try.underlying5 Try.underlying9 bo l d h2 n2
  rw [hl] at c1 c2
  clear h1 h2
  generalize l.toArray = x at *
  go_enter Try.func22, Try.ntmps22
  go_wp2_with fail
  go_ret
  exact ⟨by simp, rfl⟩
theorem secs_flat (l : List UInt8) (N : Nat) (hl : l.length = 256 * N) : (secs l N).flatten = l := by
  have h : ∀ k, k ≤ N → ((List.range k).map (secN l)).flatten = l.take (256 * k) := by
    intro k
    induction k with
    | zero => intro _; simp
    | succ k ih =>
      intro hk
      rw [List.range_succ, List.map_append, List.flatten_append, ih (by omega)]
      simp only [List.map_cons, List.map_nil, List.flatten_cons, List.flatten_nil, List.append_nil, secN]
      rw [show 256 * (k + 1) = 256 * k + 256 by omega, List.take_add]
  have h1 := h N (Nat.le_refl _)
  rw [List.take_of_length_le (by omega)] at h1
  exact h1
set_option maxHeartbeats 4000000 in
set_option maxRecDepth 100000 in
theorem makes_law (n : Int) (ao : Option Addr) (l : List UInt8) (c : Nat) (w : World) (h : Byt w ao l) (hnil : ao = none → c = 0) (n0 : -9223372036854775808 ≤ n) (n1 : n ≤ 9223372036854775807) :
    Calls Try.prog 5 #[.int .i64 n, .slice ao l.length c] w fun e w' => e = .returned (.bool true) ∧ Below w.heap.size w w' := by
  obtain ⟨m, hm⟩ : ∃ m, l.length = m := ⟨_, rfl⟩
  rw [hm]
  by_cases hbig : 30000 < m
  · have t1 : decide ((30000 : Int) < (m : Int)) = true := by simp; omega
    have t1' : decide (30000 < m) = true := by simp; omega
    clear h hm hnil
    go_enter Try.func5, Try.ntmps5
    go_wp2_with fail
    refine (heads_any w).mono ?_
    rintro e w1 ⟨rfl, hb⟩
    go_wp2_with fail
    go_ret
    exact ⟨rfl, hb⟩
  have t1 : decide ((30000 : Int) < (m : Int)) = false := by simp; omega
  have t1' : decide (30000 < m) = false := by simp; omega
  have H := Lib.hid h
  have HM := Lib.hid hm
  have HNL := Lib.hid hnil
  have hu : upTo m = (m + 255) / 256 := by unfold upTo; split <;> omega
  by_cases hbad : n < 0 ∨ n > 4096 - (upTo m : Int) ∨ upTo m + n.toNat = 0
  · -- both refuse
    have CN : Hid (Calls Try.prog 9 #[.int .i64 n, .slice ao m c] w fun e w' => e = .returned (.tuple #[.pointer none, .int .i64 2]) ∧ Below w.heap.size w w') := by
      by_cases h2 : n < 0 ∨ n > 4096 - (upTo m : Int)
      · exact (new_bad n ao m c h2 (by omega) n1).mono (by rintro e w1 ⟨rfl, rfl⟩; exact ⟨rfl, Below.refl _ _⟩)
      · obtain ⟨k, rfl⟩ : ∃ k : Nat, n = (k : Int) := ⟨n.toNat, by omega⟩
        refine (new_ok k ao l m c w h hm (by omega)).mono ?_
        rintro e w1 ⟨hb, ⟨_, rfl⟩ | ⟨h9, _⟩⟩
        · exact ⟨rfl, hb⟩
        · omega
    have CR : Hid (∀ W, Below w.heap.size w W → Calls Try.prog 33 #[.int .i64 n, .slice ao m c] W fun e w' => e = .returned (.tuple #[.pointer none, .int .i64 2]) ∧ Below W.heap.size W w') := fun W hW => by
      by_cases h2 : n < 0 ∨ 4096 < n
      · exact (refnew_bad n ao m c W h2).mono (by rintro e w1 ⟨rfl, rfl⟩; exact ⟨rfl, Below.refl _ _⟩)
      · obtain ⟨k, rfl⟩ : ∃ k : Nat, n = (k : Int) := ⟨n.toNat, by omega⟩
        refine (refnew_ok k ao l m c W (H.out.below hW) hnil hm (by omega) (by omega)).mono ?_
        rintro e w1 (⟨rfl, hb, _⟩ | ⟨h8, h9, _⟩)
        · exact ⟨rfl, hb⟩
        · omega
    clear h hm hnil hu hbad hbig
    go_enter Try.func5, Try.ntmps5
    go_wp2_with fail
    refine CN.out.mono ?_
    rintro e w1 ⟨rfl, hb1⟩
    have B1 := Lib.hid hb1
    clear hb1
    go_wp2_with fail
    refine (CR.out w1 B1.out).mono ?_
    rintro e w2 ⟨rfl, hb2⟩
    have B2 := Lib.hid (below_chain B1.out hb2)
    clear hb2
    go_wp2_with fail
    refine (heads_any w2).mono ?_
    rintro e w3 ⟨rfl, hb3⟩
    have B3 := Lib.hid (below_chain B2.out hb3)
    clear hb3
    go_wp2_with fail
    go_ret
    exact ⟨rfl, B3.out⟩
  · obtain ⟨k, rfl⟩ : ∃ k : Nat, n = (k : Int) := ⟨n.toNat, by omega⟩
    obtain ⟨q, hq⟩ : ∃ q, q = upTo m := ⟨_, rfl⟩
    obtain ⟨N, hN⟩ : ∃ N, N = q + k := ⟨_, rfl⟩
    have hN1 : 1 ≤ N := by omega
    have hN2 : N ≤ 4096 := by omega
    have CN := new_ok k ao l m c w h hm (by omega)
    have CR := fun W (hW : Below w.heap.size w W) => refnew_ok k ao l m c W (H.out.below hW) hnil hm (by omega) (by omega)
    rw [← hq, ← hN] at CN
    simp only [← hq, ← hN] at CR
    have CN2 := Lib.hid CN
    have CR2 := Lib.hid CR
    have hmN : m ≤ 256 * N := by omega
    have IL : Hid ((img l (256 * N)).length = 256 * N) := img_len _ _ (by omega)
    have e5 : ((m : Int) + 255) / 256 = (q : Int) := by omega
    have e6 : ((m : Int) + 255).tdiv 256 = (q : Int) := by rw [Int.tdiv_eq_ediv_of_nonneg (by omega)]; omega
    have e3 : (k : Int) + (q : Int) = (N : Int) := by omega
    have m0 : (0 : Int) ≤ (m : Int) := by omega
    have m1 : (m : Int) ≤ 30000 := by omega
    have x0 : (0 : Int) ≤ (q : Int) := by omega
    have x1 : (q : Int) ≤ 400 := by omega
    have k0 : (k : Int) ≤ 4096 := by omega
    have z1 : ((N : Int) == (k : Int) + (q : Int)) = true := by simp; omega
    have z2 : decide ((N : Int) = (k : Int) + (q : Int)) = true := by simp; omega
    have HN1 := Lib.hid hN1
    have HN2 := Lib.hid hN2
    clear h hm hnil hu hbad hbig hq hN CN CR hmN hN1 hN2
    go_enter Try.func5, Try.ntmps5
    go_wp2_with fail
    refine CN2.out.mono ?_
    rintro e w1 ⟨hb1, ⟨h9, _⟩ | ⟨_, g, sa, mb, rfl, hg, hsa, hmb, hD⟩⟩
    · exact absurd h9 (by have := HN1.out; omega)
    have D1 := Lib.hid hD
    have B1 := Lib.hid hb1
    clear hb1 hg hsa hmb hD CN2
    go_wp2_with fail
    refine (CR2.out w1 B1.out).mono ?_
    rintro e w2 (⟨_, _, h9⟩ | ⟨_, _, hb2, g2, bb, rb, v2, rfl, hg2, hR, ho2, _, _⟩)
    · exact absurd h9 (by have := HN1.out; have := HN2.out; omega)
    obtain ⟨a2, c2, rfl, hc2, hcc2, hy2, hn2⟩ := own_byt ho2
    rw [IL.out] at hR
    have D2 := Lib.hid (D1.out.later hb2)
    have B2 := Lib.hid (below_chain B1.out hb2)
    have R2 := Lib.hid hR
    have Y2 := Lib.hid hy2
    have NL2 := Lib.hid hn2
    have SLN : Hid ((secs (img l (256 * N)) N).length = N) := secs_len _ _
    have SFL : Hid ((secs (img l (256 * N)) N).flatten = img l (256 * N)) := secs_flat _ _ IL.out
    clear hb2 hR hy2 hn2 ho2 D1 B1 CR2 hc2 hcc2
    generalize secs (img l (256 * N)) N = S at *
    go_wp2_with fail
    refine (size_any D2.out.dv (by rw [SLN.out]; have := HN1.out; omega)).mono ?_
    rintro e w3 ⟨rfl, q3, rfl⟩
    rw [SLN.out]
    have hb3 := below_drewN (Below.refl w2.heap.size w2) q3
    have D3 := Lib.hid (D2.out.later hb3)
    have B3 := Lib.hid (below_chain B2.out hb3)
    have R3 : Hid (Rv (World.drewN w2 q3) g2 _ _ _ _ _ _ _ _) := Lib.hid (Blk.low R2.out hb3)
    have Y3 := Lib.hid (Y2.out.below hb3)
    clear hb3 D2 B2 R2 Y2
    generalize World.drewN w2 q3 = w3 at *
    go_wp2_with fail
    refine (image_any D3.out (by rw [SLN.out]; have := HN1.out; omega) (by rw [SLN.out]; exact HN2.out)).mono ?_
    rintro e w4 ⟨hb4, v4, rfl, ho4⟩
    rw [SFL.out] at ho4
    obtain ⟨a4, c4, rfl, hc4, hcc4, hy4, hn4⟩ := own_byt ho4
    rw [IL.out]
    have D4 := Lib.hid (D3.out.later hb4)
    have B4 := Lib.hid (below_chain B3.out hb4)
    have R4 : Hid (Rv w4 g2 _ _ _ _ _ _ _ _) := Lib.hid (Blk.low R3.out hb4)
    have Y4 := Lib.hid (Y3.out.below hb4)
    have Z4 := Lib.hid hy4
    have NL4 := Lib.hid hn4
    clear hb4 hy4 hn4 ho4 D3 B3 R3 Y3 hc4 hcc4
    go_wp2_with fail
    have R4' : Rv w4 g2 (.slice a2 (img l (256 * N)).length c2) (.slice (some ⟨bb, 0, none⟩) N N) (.slice (some ⟨rb, 0, none⟩) N N) q false false 0 0 := by rw [IL.out]; exact R4.out
    refine (rimage_any R4' Y4.out NL2.out (by rw [IL.out]; have := HN2.out; omega)).mono ?_
    rintro e w5 ⟨hb5, v5, rfl, ho5⟩
    clear R4'
    obtain ⟨a5, c5, rfl, hc5, hcc5, hy5, hn5⟩ := own_byt ho5
    rw [IL.out]
    have D5 := Lib.hid (D4.out.later hb5)
    have B5 := Lib.hid (below_chain B4.out hb5)
    have Z5 := Lib.hid (Z4.out.below hb5)
    have X5 := Lib.hid hy5
    have NL5 := Lib.hid hn5
    clear hb5 hy5 hn5 ho5 D4 B4 R4 Y4 Z4 hc5 hcc5
    go_wp2_with fail
    refine (bytes_same a4 a5 (img l (256 * N)) (256 * N) c4 c5 w5 Z5.out X5.out NL4.out NL5.out IL.out).mono ?_
    rintro e w6 ⟨rfl, rfl⟩
    go_wp2_with fail
    refine (cached_is D5.out (by rw [SLN.out]; have := HN1.out; omega) (by omega) [] (fun ss hp => by
      have : ss = [] := List.Perm.eq_nil hp
      rw [this]; simp)).mono ?_
    rintro e w7 ⟨hb7, a7, c7, rfl, _⟩
    have B7 := Lib.hid (below_chain B5.out hb7)
    clear hb7 B5
    go_wp2_with fail
    refine (heads_any w7).mono ?_
    rintro e w8 ⟨rfl, hb8⟩
    have B8 := Lib.hid (below_chain B7.out hb8)
    clear hb8
    go_wp2_with fail
    go_ret
    exact ⟨rfl, B8.out⟩
end Go.Proofs.Ytohmdcbfffgheaa.Dk
