/-
  The walk of the statement FrameSizes. Conditions: frame's sentinels, sha's tables and errors.errorType stand in memory.
-/
import Derived.Test.YtmojhnekecbbiaaDoorFk
namespace Go.Proofs.YtmojhnekecbbiaaDoor.Sh
open Lb Go.RowKit Go.Lib

theorem size_fr (k : Int) (d : List UInt8) (n : Nat) (h : d.length = n) (h8 : n ≤ 8192) : sizeN (n : Int) = ((Fr.frL (kb k) d).length : Nat) := by
  rw [Fr.frL_len, sizeN, if_neg (by omega), Int.toNat_natCast, h]
  omega
theorem kind_cases (k : Int) : kindB k = false ↔ k < 1 ∨ 4 < k := by unfold kindB; simp; omega
set_option maxHeartbeats 4000000 in
set_option maxRecDepth 100000 in
theorem sizes_law (k : Int) (ao : Option Addr) (d : List UInt8) (n c : Nat) (a0 a1 : Addr) (w : World) (hE : Env w a0 a1) (h : Byt w ao d) (hn : ao = none → c = 0) (hd : d.length = n) (_ : n ≤ c) (_ : c ≤ 9223372036854775807) :
    Calls Tryd.prog 3 #[.int .i64 k, .slice ao n c] w fun e w' => e = .returned (.bool true) ∧ Below w.heap.size w w' := by
  have E0 := Lib.hid hE
  have H0 := Lib.hid h
  have HN := Lib.hid hn
  have HD := Lib.hid hd
  have CH := Lib.hid (fun W (hb : Below w.heap.size w W) => heads_any a0 a1 W (hE.below hb))
  clear hE h hn hd
  by_cases h9 : 9000 < n
  · have d1 : decide ((9000 : Int) < (n : Int)) = true := by simp; omega
    go_enter Tryd.func3, Tryd.ntmps3
    go_wp2_with fail
    refine (CH.out w (Below.refl _ _)).mono ?_
    rintro e w1 ⟨rfl, b1⟩
    have B1 := Lib.hid b1
    clear b1
    go_wp2_with fail
    go_ret
    exact ⟨rfl, B1.out⟩
  · have d1 : decide ((9000 : Int) < (n : Int)) = false := by simp; omega
    have C8 := made_any k ao d n c w H0.out HN.out HD.out (by omega)
    have PM : kindB k = true → n ≤ 8192 → putE k (keyS k d) d = 0 := fun h1 h2 => put_made k d h1 (by rw [HD.out]; exact h2)
    have PK : kindB k = false → putE k (keyS k d) d = 120 := fun h1 => putE_kind h1
    have PL : 8192 < n → putE k (keyS k d) d = 120 := fun h1 => putE_long (by rw [HD.out]; exact h1)
    obtain ⟨K, hK⟩ : ∃ K, K = keyS k d := ⟨_, rfl⟩
    rw [← hK] at C8 PM PK PL
    have C8' := Lib.hid C8
    have HPM := Lib.hid PM
    have HPK := Lib.hid PK
    have HPL := Lib.hid PL
    clear C8 PM PK PL hK
    have bad : putE k K d = 120 → (decide (k < 1) = true ∨ (decide (k < 1) = false ∧ decide (4 < k) = true) ∨ (decide (k < 1) = false ∧ decide (4 < k) = false ∧ decide ((8192 : Int) < (n : Int)) = true)) → Calls Tryd.prog 3 #[.int .i64 k, .slice ao n c] w fun e w' => e = .returned (.bool true) ∧ Below w.heap.size w w' := by
      intro pe hh
      have PE := Lib.hid pe
      rcases hh with d2 | ⟨d2, d3⟩ | ⟨d2, d3, d4⟩
      all_goals
        go_enter Tryd.func3, Tryd.ntmps3
        go_wp2_with fail
        refine C8'.out.mono ?_
        rintro e w1 ⟨rfl, b1⟩
        have C7 := frput_any k K ao d n c a0 a1 w1 (E0.out.below b1) (H0.out.below b1) HN.out HD.out (by omega)
        unfold AnsPut at C7
        rw [PE.out] at C7
        have C7' := Lib.hid C7
        have B1 := Lib.hid b1
        clear C7 b1
        go_wp2_with fail
        refine C7'.out.mono ?_
        rintro e w2 ⟨b2, v2, rfl, o2⟩
        have o3 : Own w2 w1.heap.size v2 [] := o2
        obtain ⟨a2, c2, rfl, _, _, _, _⟩ := own_byt o3
        have B2 := Lib.hid (below_chain B1.out b2)
        clear b2 o2 o3 C7'
        go_wp2_with fail
        refine (CH.out _ B2.out).mono ?_
        rintro e w3 ⟨rfl, b3⟩
        have B3 := Lib.hid (below_chain B2.out b3)
        clear b3
        go_wp2_with fail
        go_ret
        exact ⟨rfl, B3.out⟩
    by_cases h1 : k < 1
    · exact bad (HPK.out ((kind_cases k).2 (Or.inl h1))) (Or.inl (by simp [h1]))
    by_cases h4 : 4 < k
    · exact bad (HPK.out ((kind_cases k).2 (Or.inr h4))) (Or.inr (Or.inl ⟨by simp; omega, by simp [h4]⟩))
    by_cases h8 : 8192 < n
    · exact bad (HPL.out h8) (Or.inr (Or.inr ⟨by simp; omega, by simp; omega, by simp; omega⟩))
    · have kt : kindB k = true := by
        cases hk : kindB k with
        | true => rfl
        | false => have := (kind_cases k).1 hk; omega
      have PE := Lib.hid (HPM.out kt (by omega))
      have d2 : decide (k < 1) = false := by simp; omega
      have d3 : decide (4 < k) = false := by simp; omega
      have d4 : decide ((8192 : Int) < (n : Int)) = false := by simp; omega
      have SZ := size_fr k d n HD.out (by omega)
      have C9 := fun W => frsize_any (n : Int) (by omega) (by omega) W
      rw [SZ] at C9
      obtain ⟨F, hF⟩ : ∃ F, F = Fr.frL (kb k) d := ⟨_, rfl⟩
      rw [← hF] at C9
      have HF := Lib.hid hF
      obtain ⟨m, hm⟩ : ∃ m, m = F.length := ⟨_, rfl⟩
      rw [← hm] at C9
      have HM := Lib.hid hm
      have C9' := Lib.hid C9
      clear C9 SZ hF hm bad kt h1 h4
      go_enter Tryd.func3, Tryd.ntmps3
      go_wp2_with fail
      refine C8'.out.mono ?_
      rintro e w1 ⟨rfl, b1⟩
      have C7 := frput_any k K ao d n c a0 a1 w1 (E0.out.below b1) (H0.out.below b1) HN.out HD.out (by omega)
      unfold AnsPut at C7
      rw [PE.out, ← HF.out] at C7
      have C7' := Lib.hid C7
      have B1 := Lib.hid b1
      clear C7 b1
      go_wp2_with fail
      refine C7'.out.mono ?_
      rintro e w2 ⟨b2, v2, rfl, o2⟩
      have o3 : Own w2 w1.heap.size v2 F := o2
      obtain ⟨a2, c2, rfl, _, _, _, _⟩ := own_byt o3
      have B2 := Lib.hid (below_chain B1.out b2)
      rw [← HM.out]
      clear b2 o2 o3 C7'
      go_wp2_with fail
      refine (C9'.out _).mono ?_
      rintro e w3 ⟨rfl, rfl⟩
      go_wp2_with fail
      refine (CH.out _ B2.out).mono ?_
      rintro e w4 ⟨rfl, b4⟩
      have B4 := Lib.hid (below_chain B2.out b4)
      clear b4
      go_wp2_with fail
      go_ret
      exact ⟨rfl, B4.out⟩
end Go.Proofs.YtmojhnekecbbiaaDoor.Sh
