/-
  The contract of slices' rotate at entries: two rows, one behind the other, exchanged. Conditions: each law's own.
-/
import Derived.Test.YtpcmminokhmkjaaDoorSb
namespace Go.Proofs.YtpcmminokhmkjaaDoor.St
open Go.Shelf Go.RowKit Go.Lib Go.Sort
theorem rot_more {d d1 : Array TE} {m i j : Nat} (hi : i ≤ m) (hij : j < i) (_hj : 0 < j) (h : ∀ k, d1[k]! = swpF d (m - i) m j k) : ∀ k, rotF d1 (m - (i - j)) m (m + j) k = rotF d (m - i) m (m + j) k := by
  intro k
  unfold rotF
  simp only [h]
  unfold swpF
  repeat' split
  all_goals first | (exfalso; omega) | rfl | (congr 1; omega)
theorem rot_less {d d1 : Array TE} {m i j : Nat} (hi : i ≤ m) (hij : i < j) (_h0 : 0 < i) (h : ∀ k, d1[k]! = swpF d (m - i) (m + (j - i)) i k) : ∀ k, rotF d1 (m - i) m (m + (j - i)) k = rotF d (m - i) m (m + j) k := by
  intro k
  unfold rotF
  simp only [h]
  unfold swpF
  repeat' split
  all_goals first | (exfalso; omega) | rfl | (congr 1; omega)
theorem rot_end {d d1 : Array TE} {m i : Nat} (hi : i ≤ m) (h : ∀ k, d1[k]! = swpF d (m - i) m i k) : ∀ k, d1[k]! = rotF d (m - i) m (m + i) k := by
  intro k
  rw [h]
  unfold rotF swpF
  repeat' split
  all_goals first | (exfalso; omega) | rfl | (congr 1; omega)
theorem permIn_wide {d d' : Array TE} {a b a' b' : Nat} (ha : a' ≤ a) (hb : b ≤ b') (hs : b' ≤ d.size) (h : PermIn a b d d') : PermIn a' b' d d' := permIn_mono d d' a b a' b' ha hb hs h
set_option maxHeartbeats 4000000 in
set_option maxRecDepth 1000000 in
theorem rotate_any (g : Nat) (cb : Array Value) (blk off cap a m b : Nat) (d0 d : Array TE) (w0 w : World) (R : RW w0 blk off d0) (hs : d0.size = d.size) (S : SW w0 blk off d w) (ham : a < m) (hmb : m < b) (hb : b ≤ d.size) (hsz : d.size < 4611686018427387904) :
    Calls Tryd.prog 57 #[.slice (some ⟨blk, off, none⟩) d.size cap, .int .i64 a, .int .i64 m, .int .i64 b, .func (.func g) #[] cb] w fun e w' => e = .returned (.tuple #[]) ∧ ∃ d', SW w0 blk off d' w' ∧ PermIn a b d d' ∧ ∀ k, d'[k]! = rotF d a m b k := by
  have S0 : Aside (SW w0 blk off d w) := S
  obtain ⟨N, hN⟩ : ∃ N, N = d.size := ⟨_, rfl⟩
  have HN : Aside (N = d.size) := hN
  rw [← hN] at hb hsz ⊢
  clear S hN
  have i0 : (m : Int) - (a : Int) = ((m - a : Nat) : Int) := by omega
  have j0 : (b : Int) - (m : Int) = ((b - m : Nat) : Int) := by omega
  go_enter Tryd.func57, Tryd.ntmps57
  go_wp2
  go_loopg [10, 11] (b - a) (fun kx s10 s11 wr => ∃ (i j : Nat) (dk : Array TE), s10 = .int .i64 i ∧ s11 = .int .i64 j ∧ 0 < i ∧ 0 < j ∧ i ≤ m - a ∧ j ≤ b - m ∧ i + j ≤ kx ∧ Aside (dk.size = N) ∧ Aside (SW w0 blk off dk wr) ∧ Aside (PermIn a b d dk) ∧ Aside (∀ k, rotF dk (m - i) m (m + j) k = rotF d a m b k))
  case atStart => exact ⟨m - a, b - m, d, rfl, rfl, by omega, by omega, Nat.le_refl _, Nat.le_refl _, by omega, HN.out.symm, S0, permIn_refl _ _ _, fun k => by rw [show m - (m - a) = a by omega, show m + (b - m) = b by omega]⟩
  case round =>
    clear S0
    obtain ⟨i, j, dk, rfl, rfl, hi, hj, hia, hjb, hkx, hds, S1, P1, V1⟩ := hrel
    have DL := HN.out
    obtain ⟨p, hp⟩ : ∃ p, p = m - i := ⟨_, rfl⟩
    have pI : (m : Int) - (i : Int) = (p : Int) := by omega
    rcases Nat.lt_trichotomy i j with hij | rfl | hij
    · have t1 : ((i : Int) == (j : Int)) = false := by simp; omega
      have t2 : decide ((j : Int) < (i : Int)) = false := by simp; omega
      obtain ⟨r, hr⟩ : ∃ r, r = m + (j - i) := ⟨_, rfl⟩
      have rI : (m : Int) + (j : Int) - (i : Int) = (r : Int) := by omega
      have HR := Lib.hid hr
      have C := swapRange_any g cb blk off cap p r i d0 dk w0 wr R (by rw [hds.out, hs, DL]) S1.out (by omega) (by rw [hds.out]; omega) (by rw [hds.out]; exact hsz)
      rw [hds.out] at C
      have CC := Lib.hid C
      have HP := Lib.hid hp
      clear C DL hp hr
      go_wp2_with fail
      refine CC.out.mono ?_
      rintro e w2 ⟨rfl, d2, S2, P2, V2⟩
      have S2' : Aside (SW w0 blk off d2 w2) := S2
      have P2' : Aside (PermIn a b d d2) := permIn_trans _ _ _ _ _ P1.out (permIn_wide (by have := HP.out; omega) (by first | (have := HR.out; omega) | omega) (by rw [hds.out]; exact hb) P2)
      have V2' : Aside (∀ k, rotF d2 (m - i) m (m + (j - i)) k = rotF d a m b k) := fun k => by rw [rot_less (by omega) hij hi (by rw [← HP.out, ← HR.out]; exact V2) k]; exact V1.out k
      have Z2 : Aside (d2.size = N) := by show _ = _; rw [P2.1]; exact hds.out
      have jI : (j : Int) - (i : Int) = ((j - i : Nat) : Int) := by omega
      clear CC S2 P2 V2 S1 P1 V1 hds
      go_wp2
      go_roundg (i + (j - i))
      case measure => omega
      case rel => exact ⟨i, j - i, d2, rfl, by rw [← jI], hi, by omega, hia, by omega, Nat.le_refl _, Z2, S2', P2', V2'⟩
    · have t1 : ((i : Int) == (i : Int)) = true := by simp
      have C := swapRange_any g cb blk off cap p m i d0 dk w0 wr R (by rw [hds.out, hs, DL]) S1.out (by omega) (by rw [hds.out]; omega) (by rw [hds.out]; exact hsz)
      rw [hds.out] at C
      have CC := Lib.hid C
      have HP := Lib.hid hp
      clear C DL hp
      go_wp2_with fail
      refine CC.out.mono ?_
      rintro e w2 ⟨rfl, d2, S2, P2, V2⟩
      have E2 : Aside (∃ d', SW w0 blk off d' w2 ∧ PermIn a b d d' ∧ ∀ k, d'[k]! = rotF d a m b k) := ⟨d2, S2, permIn_trans _ _ _ _ _ P1.out (permIn_wide (by have := HP.out; omega) (by first | (have := HR.out; omega) | omega) (by rw [hds.out]; exact hb) P2), fun k => by rw [rot_end (d := dk) (m := m) (i := i) (by omega) (by rw [← HP.out]; exact V2) k]; exact V1.out k⟩
      clear CC S2 P2 V2 S1 P1 V1 hds
      go_wp2
      go_end0
      exact ⟨rfl, E2.out⟩
    · have t1 : ((i : Int) == (j : Int)) = false := by simp; omega
      have t2 : decide ((j : Int) < (i : Int)) = true := by simp; omega
      have C := swapRange_any g cb blk off cap p m j d0 dk w0 wr R (by rw [hds.out, hs, DL]) S1.out (by omega) (by rw [hds.out]; omega) (by rw [hds.out]; exact hsz)
      rw [hds.out] at C
      have CC := Lib.hid C
      have HP := Lib.hid hp
      clear C DL hp
      go_wp2_with fail
      refine CC.out.mono ?_
      rintro e w2 ⟨rfl, d2, S2, P2, V2⟩
      have S2' : Aside (SW w0 blk off d2 w2) := S2
      have P2' : Aside (PermIn a b d d2) := permIn_trans _ _ _ _ _ P1.out (permIn_wide (by have := HP.out; omega) (by first | (have := HR.out; omega) | omega) (by rw [hds.out]; exact hb) P2)
      have V2' : Aside (∀ k, rotF d2 (m - (i - j)) m (m + j) k = rotF d a m b k) := fun k => by rw [rot_more (by omega) hij hj (by rw [← HP.out]; exact V2) k]; exact V1.out k
      have Z2 : Aside (d2.size = N) := by show _ = _; rw [P2.1]; exact hds.out
      have jI : (i : Int) - (j : Int) = ((i - j : Nat) : Int) := by omega
      clear CC S2 P2 V2 S1 P1 V1 hds
      go_wp2
      go_roundg (i - j + j)
      case measure => omega
      case rel => exact ⟨i - j, j, d2, by rw [← jI], rfl, by omega, hj, by omega, hjb, Nat.le_refl _, Z2, S2', P2', V2'⟩
end Go.Proofs.YtpcmminokhmkjaaDoor.St
