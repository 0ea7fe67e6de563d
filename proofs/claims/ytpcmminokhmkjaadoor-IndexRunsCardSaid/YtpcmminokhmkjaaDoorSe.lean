/-
  The contracts of slices' stableCmpFunc and SortStableFunc at entries: sorted by key, and stably. Conditions: each law's own.
-/
import Derived.Test.YtpcmminokhmkjaaDoorSd
import Derived.Test.YtpcmminokhmkjaaDoorPn
import Derived.Shelf.SlSortCmp.InsertionK
namespace Go.Proofs.YtpcmminokhmkjaaDoor.St
open Go.Shelf Go.RowKit Go.Lib Go.Sort
theorem j2_stop {bs n q A : Nat} {d : Array TE} (hA : A = q * (2 * bs)) (hn : n ≤ A + bs) (h : J2 ltT tgT bs n q d) : So ltT tgT A n d := by
  have e2 := m2 q bs
  have e3 := m3 q bs
  have e4 := m4 q bs
  have s1 := h.so1 (2 * q) (Nat.le_refl _)
  rw [e3, e4] at s1
  exact so_sub s1 (by omega) (by omega)
theorem j1_start {n : Nat} {d : Array TE} (h : ∀ k, k < n → tgT d[k]! = k) : J1 ltT tgT n 0 d := ⟨fun _ hr => absurd hr (Nat.not_lt_zero _), fun _ _ hr => absurd hr (Nat.not_lt_zero _), fun k _ hk => h k hk⟩
/-- a block, insertion sorted -/
theorem ins_any (g : Nat) (cb : Array Value) (eg : ∀ args w, (callFunc g args).run Tryd.prog w = .ok (.enter g args) w) (blk off cap N a b : Nat) (d0 d : Array TE) (w0 w : World) (hcmp : CmpLays Tryd.prog g cb encT 5 cfT blk off d0.size w0) (R : RW w0 blk off d0) (hN0 : d0.size = N) (hd : d.size = N) (S : SW w0 blk off d w) (hab : a ≤ b) (hb : b ≤ N) (hsz : N < 4611686018427387904) (ht : ∀ p q, a ≤ p → p < q → q < b → tgT d[p]! < tgT d[q]!) :
    Calls Tryd.prog 45 #[.slice (some ⟨blk, off, none⟩) N cap, .int .i64 a, .int .i64 b, .func (.func g) #[] cb] w fun e w' => e = .returned (.tuple #[]) ∧ ∃ d', SW w0 blk off d' w' ∧ PermIn a b d d' ∧ So ltT tgT a b d' := by
  subst hd
  have hC : CmpLays Tryd.prog g cb encT 5 cfT blk off d.size w := fun m os dk hdk x y => by
    obtain ⟨n0, os0, rfl⟩ := S
    rw [sortWorldK_on encT 5 w0 blk off n0 m d dk os0 os R.hblk hdk]
    exact hcmp _ _ dk (by omega) x y
  obtain ⟨hp, hs⟩ := ins_stable swoT d a b hab hb ht
  refine (AnyQ.insertionSortCmpFunc Tryd.insK45 5 Tryd.isAgg31 Tryd.sizeOf31 encT R.hk R.h1 cfT g cb blk off cap a b d w eg hC (S.holds R.hblk R.hH hN0.symm) (S.lt R.hblk) hab hb hsz).mono ?_
  rintro e w' ⟨rfl, n, os, rfl⟩
  rw [ltOf_cf]
  exact ⟨rfl, _, S.on R.hblk n _ os hp.1, hp, hs⟩
def InsC (g : Nat) (cb : Array Value) (blk off cap N : Nat) (w0 : World) : Prop :=
  ∀ (a b : Nat) (d : Array TE) (w : World), d.size = N → SW w0 blk off d w → a ≤ b → b ≤ N → (∀ p q, a ≤ p → p < q → q < b → tgT d[p]! < tgT d[q]!) →
    Calls Tryd.prog 45 #[.slice (some ⟨blk, off, none⟩) N cap, .int .i64 a, .int .i64 b, .func (.func g) #[] cb] w fun e w' => e = .returned (.tuple #[]) ∧ ∃ d', SW w0 blk off d' w' ∧ PermIn a b d d' ∧ So ltT tgT a b d'
set_option maxHeartbeats 8000000 in
set_option maxRecDepth 1000000 in
theorem stable_any (g : Nat) (cb : Array Value) (eg : ∀ args w, (callFunc g args).run Tryd.prog w = .ok (.enter g args) w) (blk off cap N : Nat) (d0 : Array TE) (w0 : World) (hcmp : CmpLays Tryd.prog g cb encT 5 cfT blk off d0.size w0) (R : RW w0 blk off d0) (hN0 : d0.size = N) (hsz : N < 2305843009213693952) (htag : ∀ k, k < N → tgT d0[k]! = k) (w : World) (S : SW w0 blk off d0 w) :
    Calls Tryd.prog 35 #[.slice (some ⟨blk, off, none⟩) N cap, .int .i64 N, .func (.func g) #[] cb] w fun e w' => e = .returned (.tuple #[]) ∧ ∃ d', SW w0 blk off d' w' ∧ PermIn 0 N d0 d' ∧ So ltT tgT 0 N d' := by
  have II : Hid (InsC g cb blk off cap N w0) := fun a b d w' hd S' hab hb ht => ins_any g cb eg blk off cap N a b d0 d w0 w' hcmp R hN0 hd S' hab hb (by omega) ht
  have MM : Hid (∀ fuel, MergeC 5 g cb blk off cap N w0 fuel) := symMerge_any 5 Tryd.sizeOf31 g cb eg blk off cap N d0 w0 hcmp R hN0 (by omega) (fun a m b d w' hd S' h1 h2 h3 => by subst hd; exact rotate_any g cb blk off cap a m b d0 d w0 w' R hN0 S' h1 h2 h3 (by omega))
  have S0 : Aside (SW w0 blk off d0 w) := S
  have J0 : Hid (J1 ltT tgT N 0 d0) := j1_start htag
  have DZ : Aside (d0.size = N) := hN0
  clear hcmp R S htag hN0 eg
  have P0 : Aside (PermIn 0 N d0 d0) := permIn_refl _ _ _
  go_enter Tryd.func35, Tryd.ntmps35
  go_wp2_with fail
  go_loopg [7, 8] N (fun kx s7 s8 wr => ∃ (q A B : Nat) (dk : Array TE), s7 = .int .i64 A ∧ s8 = .int .i64 B ∧ A ≤ N ∧ N - A ≤ kx ∧ B ≤ A + 20 ∧ A + 20 ≤ B ∧ Hid (A = q * 20) ∧ Aside (dk.size = N) ∧ Aside (SW w0 blk off dk wr) ∧ Aside (PermIn 0 N d0 dk) ∧ Hid (J1 ltT tgT N q dk))
  case atStart => exact ⟨0, 0, 20, d0, rfl, rfl, by omega, by omega, by omega, by omega, rfl, DZ, S0, P0, J0⟩
  case round =>
    clear S0 J0 P0
    obtain ⟨q, A, B, dk, rfl, rfl, hAN, hkx, hB1, hB2, HA, DK, S1, P1, JJ⟩ := hrel
    by_cases hlt : B ≤ N
    · have hltz : (B : Int) ≤ (N : Int) := by omega
      have hd1 : decide ((B : Int) ≤ (N : Int)) = true := decide_eq_true hltz
      have CI := Lib.hid (II.out A B dk wr DK.out S1.out (by omega) hlt (fun p r h1 h2 h3 => by
        have hA := HA.out
        rw [JJ.out.rest p (by omega) (by omega), JJ.out.rest r (by omega) (by omega)]; exact h2))
      go_wp2_with fail
      refine CI.out.mono ?_
      rintro e7 w7 ⟨rfl, d1, S7, P7, SO7⟩
      have S2 : Aside (SW w0 blk off d1 w7) := S7
      have hA := HA.out
      have JJ2 : Hid (J1 ltT tgT N (q + 1) d1) := j1_next (by omega) DK.out JJ.out (by rw [← hA, show (q + 1) * 20 = B by omega]; exact P7) (by rw [← hA, show (q + 1) * 20 = B by omega]; exact SO7)
      have P2 : Aside (PermIn 0 N d0 d1) := permIn_trans _ _ _ _ _ P1.out (permIn_wide (by omega) hlt (by rw [DK.out]; exact Nat.le_refl _) P7)
      have HA2 : Hid (B = (q + 1) * 20) := by show B = (q + 1) * 20; omega
      have DK2 : Aside (d1.size = N) := by show d1.size = N; rw [P7.1]; exact DK.out
      clear CI S7 P7 SO7 S1 P1 JJ hA HA DK
      go_wp2
      go_roundg (N - B)
      case measure => omega
      case rel => exact ⟨q + 1, B, B + 20, d1, rfl, by go_num, hlt, Nat.le_refl _, by omega, by omega, HA2, DK2, S2, P2, JJ2⟩
    · have hltz : ¬ (B : Int) ≤ (N : Int) := by omega
      have hd1 : decide ((B : Int) ≤ (N : Int)) = false := decide_eq_false hltz
      have CI := Lib.hid (II.out A N dk wr DK.out S1.out hAN (Nat.le_refl _) (fun p r h1 h2 h3 => by
        have hA := HA.out
        rw [JJ.out.rest p (by omega) (by omega), JJ.out.rest r (by omega) (by omega)]; exact h2))
      go_wp2_with fail
      refine CI.out.mono ?_
      rintro e7 w7 ⟨rfl, d1, S7, P7, SO7⟩
      have S2 : Aside (SW w0 blk off d1 w7) := S7
      have hA := HA.out
      have BB0 : Hid (BI ltT tgT 20 N d1) := j1_end (by omega) (by omega) DK.out JJ.out (by rw [← hA]; exact P7) (by rw [← hA]; exact SO7)
      have P2 : Aside (PermIn 0 N d0 d1) := permIn_trans _ _ _ _ _ P1.out (permIn_wide (by omega) (Nat.le_refl _) (by rw [DK.out]; exact Nat.le_refl _) P7)
      have DK2 : Aside (d1.size = N) := by show d1.size = N; rw [P7.1]; exact DK.out
      clear CI S7 P7 SO7 S1 P1 JJ hA HA DK hlt hltz hd1 hAN hkx hB1 hB2 II
      go_wp2_with fail
      go_loopg [6] N (fun kx s6 wr => ∃ (bs : Nat) (dk : Array TE), s6 = .int .i64 bs ∧ 0 < bs ∧ N - bs ≤ kx ∧ Aside (dk.size = N) ∧ Aside (SW w0 blk off dk wr) ∧ Aside (PermIn 0 N d0 dk) ∧ Hid (BI ltT tgT bs N dk))
      case atStart => exact ⟨20, d1, rfl, by omega, by omega, DK2, S2, P2, BB0⟩
      case round =>
        clear S2 P2 BB0 DK2
        obtain ⟨bs, dk, rfl, hbs, hkx, DK, S1, P1, BB⟩ := hrel
        by_cases hlt : bs < N
        · have hltz : (bs : Int) < (N : Int) := by omega
          obtain ⟨b2, hb2⟩ : ∃ x, x = 2 * bs := ⟨_, rfl⟩
          have b2I : (2 : Int) * (bs : Int) = (b2 : Int) := by omega
          have b2J : (bs : Int) * 2 = (b2 : Int) := by omega
          have b2a : b2 ≤ 2 * bs := by omega
          have b2b : 2 * bs ≤ b2 := by omega
          have HB := Lib.hid hb2
          have JS : Hid (J2 ltT tgT bs N 0 dk) := j2_start BB.out
          clear hb2 BB
          go_wp2_with fail
          go_loopg [7, 8] N (fun ky s7 s8 wr => ∃ (q A B : Nat) (dj : Array TE), s7 = .int .i64 A ∧ s8 = .int .i64 B ∧ A ≤ N ∧ N - A ≤ ky ∧ B ≤ A + b2 ∧ A + b2 ≤ B ∧ Hid (A = q * (2 * bs)) ∧ Aside (dj.size = N) ∧ Aside (SW w0 blk off dj wr) ∧ Aside (PermIn 0 N d0 dj) ∧ Hid (J2 ltT tgT bs N q dj))
          case atStart => exact ⟨0, 0, b2, dk, rfl, rfl, by omega, by omega, by omega, by omega, (Nat.zero_mul _).symm, DK, S1, P1, JS⟩
          case round =>
            clear S1 P1 JS DK
            obtain ⟨q, A, B, dj, rfl, rfl, hAN, hky, hB1, hB2, HA, DK, S1, P1, JJ⟩ := hrel
            obtain ⟨m, hm⟩ : ∃ x, x = A + bs := ⟨_, rfl⟩
            have mI : (A : Int) + (bs : Int) = (m : Int) := by omega
            have m1 : m ≤ A + bs := by omega
            have m2' : A + bs ≤ m := by omega
            have HM := Lib.hid hm
            clear hm
            by_cases hle : B ≤ N
            · have hlez : (B : Int) ≤ (N : Int) := by omega
              have hd1 : decide ((B : Int) ≤ (N : Int)) = true := decide_eq_true hlez
              obtain ⟨n, hn⟩ : ∃ x, x = B + b2 := ⟨_, rfl⟩
              have nI : (B : Int) + (b2 : Int) = (n : Int) := by omega
              have n1 : n ≤ B + b2 := by omega
              have n2 : B + b2 ≤ n := by omega
              clear hn
              obtain ⟨f1, f2, f3, f4⟩ := j2_pair (m := m) (e := B) HA.out HM.out (by have := HB.out; omega) (by omega) JJ.out
              have CM := Lib.hid (MM.out N A m B dj wr (by omega) DK.out S1.out (by omega) (by omega) hle f1 f2 f3)
              clear f1 f2 f3 f4
              go_wp2_with fail
              refine CM.out.mono ?_
              rintro e7 w7 ⟨rfl, d2, S7, P7, SO7⟩
              have S2 : Aside (SW w0 blk off d2 w7) := S7
              have eB : B = A + 2 * bs := by omega
              have JJ2 : Hid (J2 ltT tgT bs N (q + 1) d2) := j2_next HA.out (by omega) DK.out JJ.out (by rw [← eB]; exact P7) (by rw [← eB]; exact SO7)
              have HA2 : Hid (B = (q + 1) * (2 * bs)) := by show B = (q + 1) * (2 * bs); rw [Nat.add_mul, ← HA.out]; omega
              have P2 : Aside (PermIn 0 N d0 d2) := permIn_trans _ _ _ _ _ P1.out (permIn_wide (by omega) hle (by rw [DK.out]; exact Nat.le_refl _) P7)
              have DK2 : Aside (d2.size = N) := by show d2.size = N; rw [P7.1]; exact DK.out
              clear CM S7 P7 SO7 S1 P1 JJ HA DK eB
              go_wp2
              go_roundg (N - B)
              case measure => omega
              case rel => exact ⟨q + 1, B, n, d2, rfl, rfl, hle, Nat.le_refl _, n1, n2, HA2, DK2, S2, P2, JJ2⟩
            · have hlez : ¬ (B : Int) ≤ (N : Int) := by omega
              have hd1 : decide ((B : Int) ≤ (N : Int)) = false := decide_eq_false hlez
              by_cases hmn : m < N
              · have hmz : (m : Int) < (N : Int) := by omega
                have hd2 : decide ((m : Int) < (N : Int)) = true := decide_eq_true hmz
                obtain ⟨f1, f2, f3, f4⟩ := j2_pair (m := m) (e := N) HA.out HM.out (by have := HB.out; omega) (by omega) JJ.out
                have CM := Lib.hid (MM.out N A m N dj wr (by omega) DK.out S1.out (by omega) hmn (Nat.le_refl _) f1 f2 f3)
                clear f1 f2 f3 f4
                go_wp2_with fail
                refine CM.out.mono ?_
                rintro e7 w7 ⟨rfl, d2, S7, P7, SO7⟩
                have S2 : Aside (SW w0 blk off d2 w7) := S7
                have BB2 : Hid (BI ltT tgT b2 N d2) := by
                  show BI ltT tgT b2 N d2
                  rw [HB.out]
                  exact j2_end HA.out hAN (by omega) DK.out JJ.out P7 SO7
                have P2 : Aside (PermIn 0 N d0 d2) := permIn_trans _ _ _ _ _ P1.out (permIn_wide (by omega) (Nat.le_refl _) (by rw [DK.out]; exact Nat.le_refl _) P7)
                have DK2 : Aside (d2.size = N) := by show d2.size = N; rw [P7.1]; exact DK.out
                clear CM S7 P7 SO7 S1 P1 JJ HA DK
                go_wp2
                go_roundg (N - b2)
                case measure => omega
                case rel => exact ⟨b2, d2, rfl, by omega, Nat.le_refl _, DK2, S2, P2, BB2⟩
              · have hmz : ¬ (m : Int) < (N : Int) := by omega
                have hd2 : decide ((m : Int) < (N : Int)) = false := decide_eq_false hmz
                have BB2 : Hid (BI ltT tgT b2 N dj) := by
                  show BI ltT tgT b2 N dj
                  rw [HB.out]
                  exact j2_end HA.out hAN (by omega) DK.out JJ.out (permIn_refl _ _ _) (j2_stop HA.out (by omega) JJ.out)
                clear JJ HA
                go_wp2
                go_roundg (N - b2)
                case measure => omega
                case rel => exact ⟨b2, dj, rfl, by omega, Nat.le_refl _, DK, S1, P1, BB2⟩
        · have hltz : ¬ (bs : Int) < (N : Int) := by omega
          have RES : Aside (∃ d', SW w0 blk off d' wr ∧ PermIn 0 N d0 d' ∧ So ltT tgT 0 N d') := ⟨dk, S1.out, P1.out, bi_whole (by omega) BB.out⟩
          clear S1 P1 BB DK
          go_wp2
          exact ⟨rfl, _, results_none rfl _ _ _, rfl, RES.out⟩
end Go.Proofs.YtpcmminokhmkjaaDoor.St
