/-
  The contract of slices' symMerge at entries: two sorted rows, one behind the other, merged in place, and stably. Conditions: each law's own.
-/
import Derived.Test.YtpcmminokhmkjaaDoorSc
namespace Go.Proofs.YtpcmminokhmkjaaDoor.St
open Go.Shelf Go.RowKit Go.Lib Go.Sort
/-- one element moved to the right, so far -/
def leftF (d : Array TE) (a x k : Nat) : TE := if a ≤ k ∧ k < x then d[k + 1]! else if k = x then d[a]! else d[k]!
theorem leftF_zero (d : Array TE) (a k : Nat) : d[k]! = leftF d a a k := by
  unfold leftF
  rw [if_neg (by omega)]
  split
  · next h => rw [h]
  · rfl
theorem leftF_next {d dk : Array TE} {a x : Nat} (ha : a ≤ x) (hx : x + 1 < dk.size) (h : ∀ k, dk[k]! = leftF d a x k) : ∀ k, (swp dk x (x + 1))[k]! = leftF d a (x + 1) k := by
  intro k
  rw [swp_get dk (by omega) (by omega)]
  simp only [h]
  unfold leftF
  repeat' split
  all_goals first | (exfalso; omega) | rfl | (congr 1; omega)
def rightF (d : Array TE) (m x k : Nat) : TE := if k = x then d[m]! else if x < k ∧ k ≤ m then d[k - 1]! else d[k]!
theorem rightF_zero (d : Array TE) (m k : Nat) : d[k]! = rightF d m m k := by
  unfold rightF
  split
  · next h => rw [h]
  · rw [if_neg (by omega)]
theorem rightF_next {d dk : Array TE} {m x : Nat} (h0 : 0 < x) (ha : x ≤ m) (hx : m < dk.size) (h : ∀ k, dk[k]! = rightF d m x k) : ∀ k, (swp dk x (x - 1))[k]! = rightF d m (x - 1) k := by
  intro k
  rw [swp_get dk (by omega) (by omega)]
  simp only [h]
  unfold rightF
  repeat' split
  all_goals first | (exfalso; omega) | rfl | (congr 1; omega)
/-- what symMerge does, of rows of at most so many -/
def MergeC (k g : Nat) (cb : Array Value) (blk off cap N : Nat) (w0 : World) (fuel : Nat) : Prop :=
    ∀ (a m b : Nat) (d : Array TE) (w : World), b - a ≤ fuel → d.size = N → SWK encT k w0 blk off d w → a < m → m < b → b ≤ N → So ltT tgT a m d → So ltT tgT m b d → Tg tgT a m b d →
    Calls Tryd.prog 46 #[.slice (some ⟨blk, off, none⟩) N cap, .int .i64 a, .int .i64 m, .int .i64 b, .func (.func g) #[] cb] w fun e w' => e = .returned (.tuple #[]) ∧ ∃ d', SWK encT k w0 blk off d' w' ∧ PermIn a b d d' ∧ So ltT tgT a b d'
def RotC (k g : Nat) (cb : Array Value) (blk off cap N : Nat) (w0 : World) : Prop :=
    ∀ (a m b : Nat) (d : Array TE) (w : World), d.size = N → SWK encT k w0 blk off d w → a < m → m < b → b ≤ N → Calls Tryd.prog 57 #[.slice (some ⟨blk, off, none⟩) N cap, .int .i64 a, .int .i64 m, .int .i64 b, .func (.func g) #[] cb] w fun e w' => e = .returned (.tuple #[]) ∧ ∃ d', SWK encT k w0 blk off d' w' ∧ PermIn a b d d' ∧ ∀ i, d'[i]! = rotF d a m b i
set_option maxHeartbeats 8000000 in
set_option maxRecDepth 1000000 in
theorem merge_one (k : Nat) (zE : ∀ w, (Go.sizeOf 31).run Tryd.prog w = .ok k w) (g : Nat) (cb : Array Value) (eg : ∀ args w, (callFunc g args).run Tryd.prog w = .ok (.enter g args) w) (blk off cap N : Nat) (d0 : Array TE) (w0 : World) (hcmp : CmpLays Tryd.prog g cb encT k cfT blk off d0.size w0) (R : RowK encT k w0 blk off d0) (hN0 : d0.size = N) (hsz : N < 4611686018427387904)
    (HROT : RotC k g cb blk off cap N w0) (fuel : Nat) (ih : MergeC k g cb blk off cap N w0 fuel)
    (a m b : Nat) (d : Array TE) (w : World) (_hf : b - a ≤ fuel + 1) (hd : d.size = N) (S : SWK encT k w0 blk off d w) (h1 : a < m) (h2 : m < b) (h3 : b ≤ N) (s1 : So ltT tgT a m d) (s2 : So ltT tgT m b d) (tt : Tg tgT a m b d) (c1 : m = a + 1) :
    Calls Tryd.prog 46 #[.slice (some ⟨blk, off, none⟩) N cap, .int .i64 a, .int .i64 m, .int .i64 b, .func (.func g) #[] cb] w fun e w' => e = .returned (.tuple #[]) ∧ ∃ d', SWK encT k w0 blk off d' w' ∧ PermIn a b d d' ∧ So ltT tgT a b d' := by
  have IH := Lib.hid ih
  have HC : Aside (CmpLays Tryd.prog g cb encT k cfT blk off d0.size w0) := hcmp
  have HR := Lib.hid HROT
  have HN0 : Aside (d0.size = N) := hN0
  have DZ : Aside (d.size = N) := hd
  have S0 : Aside (SWK encT k w0 blk off d w) := S
  have SO1 := Lib.hid s1
  have SO2 := Lib.hid s2
  have TT := Lib.hid tt
  have mixed : Tryd.prog.follows Departure.mixedOrders = true := by kernel_rfl
  clear hcmp HROT hN0 hd S s1 s2 tt ih
  have t1 : (m : Int) - (a : Int) = 1 := by omega
  have ma := Lib.hid c1
  clear c1
  go_enter Tryd.func46, Tryd.ntmps46
  go_wp2_with fail
  go_loopg [10, 11] (b - m) (fun kx s10 s11 wr => ∃ (i j : Nat), s10 = .int .i64 i ∧ s11 = .int .i64 j ∧ m ≤ i ∧ i ≤ j ∧ j ≤ b ∧ j - i ≤ kx ∧ Aside (SWK encT k w0 blk off d wr) ∧ Aside (i = m ∨ ltT d[i - 1]! d[a]! = true) ∧ Aside (j = b ∨ ltT d[j]! d[a]! = false))
  case atStart => exact ⟨m, b, rfl, rfl, by omega, by omega, by omega, by omega, S0, .inl rfl, .inl rfl⟩
  case round =>
    clear S0
    obtain ⟨i, j, rfl, rfl, hmi, hij, hjb, hkx, S1, F1, F2⟩ := hrel
    by_cases hlt : i < j
    · have hltz : (i : Int) < (j : Int) := by omega
      obtain ⟨h, hh⟩ : ∃ h, h = (i + j) / 2 := ⟨_, rfl⟩
      have hI : ((i : Int) + (j : Int)) / 2 = (h : Int) := by omega
      have hw1 : IntKind.u64.wrap ((i : Int) + (j : Int)) = (i : Int) + (j : Int) := by rw [IntKind.wrap]; simp [IntKind.bits, IntKind.signed]; omega
      have hw2 : IntKind.i64.wrap (h : Int) = (h : Int) := by rw [IntKind.wrap_i64]; omega
      have hb1 : i ≤ h := by omega
      have hb2 : h < j := by omega
      clear hh
      cases hL1 : ltT d[h]! d[a]! with
      | true =>
        have F1' : Aside (h + 1 = m ∨ ltT d[h + 1 - 1]! d[a]! = true) := .inr (by rw [Nat.add_sub_cancel]; exact hL1)
        have ea1 : ((h : Int)).toNat = h := by omega
        have pa1 : (0 : Int) ≤ (h : Int) := by omega
        have ba1 : (h : Int) < (N : Int) := by omega
        have ra1 : IntKind.i64.wrap ((h : Int)) = (h : Int) := by rw [IntKind.wrap_i64]; omega
        have ec1 : ((a : Int)).toNat = a := by omega
        have pc1 : (0 : Int) ≤ (a : Int) := by omega
        have bc1 : (a : Int) < (N : Int) := by omega
        have rc1 : IntKind.i64.wrap ((a : Int)) = (a : Int) := by rw [IntKind.wrap_i64]; omega
        obtain ⟨x1, hx1⟩ : ∃ x, x = d[h]! := ⟨_, rfl⟩
        obtain ⟨y1, hy1⟩ : ∃ x, x = d[a]! := ⟨_, rfl⟩
        have l1a := S1.out.ld R (by rw [DZ.out, HN0.out]) Tryd.prog (h) (by rw [DZ.out]; omega)
        have l1b := S1.out.ld R (by rw [DZ.out, HN0.out]) Tryd.prog (a) (by rw [DZ.out]; omega)
        rw [← hx1] at l1a
        rw [← hy1] at l1b
        have hc1 := S1.out.cmp HC.out (by rw [DZ.out, HN0.out]) x1 y1
        have hv1 : cfT x1 y1 < 0 := by rw [hx1, hy1]; exact (cf_lt _ _).2 hL1
        have hd1 : decide (cfT x1 y1 < 0) = true := decide_eq_true hv1
        clear hx1 hy1
        go_wp2_with fail
        go_quiet_grown (first | (go_at_fn g; refine Calls.grown_of (hc1 _ _)))
        have S2 : Aside (SWK encT k w0 blk off d (grow (wr.drewN nq) osq)) := S1.out.grown nq osq
        clear l1a l1b hc1 S1
        generalize grow (wr.drewN nq) osq = w2 at S2 ⊢
        clear nq osq
        clear F1 hL1
        go_wp2
        go_roundg (j - (h + 1))
        case measure => omega
        case rel => exact ⟨h + 1, j, by go_num, rfl, by omega, by omega, hjb, Nat.le_refl _, S2, F1', F2⟩
      | false =>
        have F2' : Aside (h = b ∨ ltT d[h]! d[a]! = false) := .inr hL1
        have ea1 : ((h : Int)).toNat = h := by omega
        have pa1 : (0 : Int) ≤ (h : Int) := by omega
        have ba1 : (h : Int) < (N : Int) := by omega
        have ra1 : IntKind.i64.wrap ((h : Int)) = (h : Int) := by rw [IntKind.wrap_i64]; omega
        have ec1 : ((a : Int)).toNat = a := by omega
        have pc1 : (0 : Int) ≤ (a : Int) := by omega
        have bc1 : (a : Int) < (N : Int) := by omega
        have rc1 : IntKind.i64.wrap ((a : Int)) = (a : Int) := by rw [IntKind.wrap_i64]; omega
        obtain ⟨x1, hx1⟩ : ∃ x, x = d[h]! := ⟨_, rfl⟩
        obtain ⟨y1, hy1⟩ : ∃ x, x = d[a]! := ⟨_, rfl⟩
        have l1a := S1.out.ld R (by rw [DZ.out, HN0.out]) Tryd.prog (h) (by rw [DZ.out]; omega)
        have l1b := S1.out.ld R (by rw [DZ.out, HN0.out]) Tryd.prog (a) (by rw [DZ.out]; omega)
        rw [← hx1] at l1a
        rw [← hy1] at l1b
        have hc1 := S1.out.cmp HC.out (by rw [DZ.out, HN0.out]) x1 y1
        have hv1 : ¬ cfT x1 y1 < 0 := by rw [hx1, hy1]; exact fun hh => by rw [(cf_lt _ _).1 hh] at hL1; cases hL1
        have hd1 : decide (cfT x1 y1 < 0) = false := decide_eq_false hv1
        clear hx1 hy1
        go_wp2_with fail
        go_quiet_grown (first | (go_at_fn g; refine Calls.grown_of (hc1 _ _)))
        have S2 : Aside (SWK encT k w0 blk off d (grow (wr.drewN nq) osq)) := S1.out.grown nq osq
        clear l1a l1b hc1 S1
        generalize grow (wr.drewN nq) osq = w2 at S2 ⊢
        clear nq osq
        clear F2 hL1
        go_wp2
        go_roundg (h - i)
        case measure => omega
        case rel => exact ⟨i, h, rfl, rfl, hmi, by omega, by omega, Nat.le_refl _, S2, F1, F2'⟩
    · obtain rfl : i = j := by omega
      have P0 : Aside (PermIn a b d d) := permIn_refl _ _ _
      have V0 : Aside (∀ q, d[q]! = leftF d a a q) := leftF_zero d a
      clear hij hlt hkx
      go_wp2_with fail
      go_loopg [13] (i - 1 - a) (fun ky s13 w9 => ∃ (x : Nat) (dk : Array TE), s13 = .int .i64 x ∧ a ≤ x ∧ x + 1 ≤ i ∧ i - 1 - x ≤ ky ∧ Aside (dk.size = N) ∧ Aside (SWK encT k w0 blk off dk w9) ∧ Aside (PermIn a b d dk) ∧ Aside (∀ q, dk[q]! = leftF d a x q))
      case atStart => exact ⟨a, d, rfl, Nat.le_refl _, by omega, Nat.le_refl _, DZ, S1, P0, V0⟩
      case round =>
        clear S1 P0 V0
        obtain ⟨x, dk, rfl, hax, hxi, hky, DK, S1, P1, V1⟩ := hrel
        by_cases hlt : x + 1 < i
        · have hltz : (x : Int) < (i : Int) - 1 := by omega
          have P2 : Aside (PermIn a b d (swp dk x (x + 1))) := permIn_trans _ _ _ _ _ P1.out (swp_permIn dk a b x (x + 1) (by omega) (by omega) (by omega) (by omega) (by rw [DK.out]; exact h3))
          have V2 : Aside (∀ q, (swp dk x (x + 1))[q]! = leftF d a (x + 1) q) := leftF_next hax (by rw [DK.out]; omega) V1.out
          have DK2 : Aside ((swp dk x (x + 1)).size = N) := by show _ = _; rw [size_swp]; exact DK.out
          go_wp2_with fail
          have ea2 : ((x : Int)).toNat = x := by omega
          have pa2 : (0 : Int) ≤ (x : Int) := by omega
          have ba2 : (x : Int) < (N : Int) := by omega
          have ra2 : IntKind.i64.wrap ((x : Int)) = (x : Int) := by rw [IntKind.wrap_i64]; omega
          have ec2 : ((x : Int) + 1).toNat = x + 1 := by omega
          have pc2 : (0 : Int) ≤ (x : Int) + 1 := by omega
          have bc2 : (x : Int) + 1 < (N : Int) := by omega
          have rc2 : IntKind.i64.wrap ((x : Int) + 1) = (x : Int) + 1 := by rw [IntKind.wrap_i64]; omega
          have S2 : Aside (SWK encT k w0 blk off (swp dk (x) (x + 1)) ((wr.drew.setCells blk (off + (x) * k) (encT dk[x + 1]!)).setCells blk (off + (x + 1) * k) (encT dk[x]!))) := S1.out.swapped R (x) (x + 1) (by rw [DK.out]; omega) (by rw [DK.out]; omega)
          have l2a := S1.out.ld1 R (by rw [DK.out, HN0.out]) Tryd.prog (x) (by rw [DK.out]; omega)
          have l2b := S1.out.ld1 R (by rw [DK.out, HN0.out]) Tryd.prog (x + 1) (by rw [DK.out]; omega)
          have s2a := S1.out.st1 R (by rw [DK.out, HN0.out]) Tryd.prog (x) (by rw [DK.out]; omega) dk[x + 1]!
          have s2b := S1.out.st2 R (by rw [DK.out, HN0.out]) Tryd.prog (x) (x + 1) (by rw [DK.out]; omega) (by rw [DK.out]; omega) dk[x + 1]! dk[x]!
          have n2a : (encT dk[x]!).length = k := R.hk _
          have n2b : (encT dk[x + 1]!).length = k := R.hk _
          generalize encT dk[x]! = cI2 at S2 l2a s2b n2a
          generalize encT dk[x + 1]! = cJ2 at S2 l2b s2a s2b n2b
          clear S1
          go_wp2_with fail
          go_big_region_o
          clear l2a l2b s2a s2b
          generalize (wr.drew.setCells blk (off + (x) * k) cJ2).setCells blk (off + (x + 1) * k) cI2 = w2 at S2 ⊢
          clear P1 V1 DK
          go_wp2
          go_roundg (i - 1 - (x + 1))
          case measure => omega
          case rel => exact ⟨x + 1, swp dk x (x + 1), by go_num, by omega, by omega, Nat.le_refl _, DK2, S2, P2, V2⟩
        · have hltz : ¬ (x : Int) < (i : Int) - 1 := by omega
          have xi : x + 1 = i := by omega
          have SOE : Aside (So ltT tgT a b dk) := ins_left swoT (by have := ma.out; omega) hjb (by rw [← ma.out]; exact SO2.out) (fun q q1 q2 => TT.out a q (Nat.le_refl _) h1 (by have := ma.out; omega) q2) (by rw [← ma.out]; exact F1.out) F2.out (fun q => by
            rw [V1.out q]
            unfold leftF
            repeat' split
            all_goals first | (exfalso; omega) | rfl)
          go_wp2
          exact bodyPost_ret (results_none rfl _ _ _) rfl ⟨rfl, dk, S1.out, P1.out, SOE.out⟩
set_option maxHeartbeats 8000000 in
set_option maxRecDepth 1000000 in
theorem merge_last (k : Nat) (zE : ∀ w, (Go.sizeOf 31).run Tryd.prog w = .ok k w) (g : Nat) (cb : Array Value) (eg : ∀ args w, (callFunc g args).run Tryd.prog w = .ok (.enter g args) w) (blk off cap N : Nat) (d0 : Array TE) (w0 : World) (hcmp : CmpLays Tryd.prog g cb encT k cfT blk off d0.size w0) (R : RowK encT k w0 blk off d0) (hN0 : d0.size = N) (hsz : N < 4611686018427387904)
    (HROT : RotC k g cb blk off cap N w0) (fuel : Nat) (ih : MergeC k g cb blk off cap N w0 fuel)
    (a m b : Nat) (d : Array TE) (w : World) (_hf : b - a ≤ fuel + 1) (hd : d.size = N) (S : SWK encT k w0 blk off d w) (h1 : a < m) (h2 : m < b) (h3 : b ≤ N) (s1 : So ltT tgT a m d) (s2 : So ltT tgT m b d) (tt : Tg tgT a m b d) (c1 : ¬ m = a + 1) (c2 : b = m + 1) :
    Calls Tryd.prog 46 #[.slice (some ⟨blk, off, none⟩) N cap, .int .i64 a, .int .i64 m, .int .i64 b, .func (.func g) #[] cb] w fun e w' => e = .returned (.tuple #[]) ∧ ∃ d', SWK encT k w0 blk off d' w' ∧ PermIn a b d d' ∧ So ltT tgT a b d' := by
  have IH := Lib.hid ih
  have HC : Aside (CmpLays Tryd.prog g cb encT k cfT blk off d0.size w0) := hcmp
  have HR := Lib.hid HROT
  have HN0 : Aside (d0.size = N) := hN0
  have DZ : Aside (d.size = N) := hd
  have S0 : Aside (SWK encT k w0 blk off d w) := S
  have SO1 := Lib.hid s1
  have SO2 := Lib.hid s2
  have TT := Lib.hid tt
  have mixed : Tryd.prog.follows Departure.mixedOrders = true := by kernel_rfl
  clear hcmp HROT hN0 hd S s1 s2 tt ih
  have t1 : ((m : Int) - (a : Int) == 1) = false := by simp; omega
  have t2 : (b : Int) - (m : Int) = 1 := by omega
  have mb := Lib.hid c2
  clear c2
  go_enter Tryd.func46, Tryd.ntmps46
  go_wp2_with fail
  go_loopg [14, 15] (m - a) (fun kx s14 s15 wr => ∃ (i j : Nat), s14 = .int .i64 i ∧ s15 = .int .i64 j ∧ a ≤ i ∧ i ≤ j ∧ j ≤ m ∧ j - i ≤ kx ∧ Aside (SWK encT k w0 blk off d wr) ∧ Aside (i = a ∨ ltT d[m]! d[i - 1]! = false) ∧ Aside (j = m ∨ ltT d[m]! d[j]! = true))
  case atStart => exact ⟨a, m, rfl, rfl, by omega, by omega, by omega, by omega, S0, .inl rfl, .inl rfl⟩
  case round =>
    clear S0
    obtain ⟨i, j, rfl, rfl, hai, hij, hjm, hkx, S1, F1, F2⟩ := hrel
    by_cases hlt : i < j
    · have hltz : (i : Int) < (j : Int) := by omega
      obtain ⟨h, hh⟩ : ∃ h, h = (i + j) / 2 := ⟨_, rfl⟩
      have hI : ((i : Int) + (j : Int)) / 2 = (h : Int) := by omega
      have hw1 : IntKind.u64.wrap ((i : Int) + (j : Int)) = (i : Int) + (j : Int) := by rw [IntKind.wrap]; simp [IntKind.bits, IntKind.signed]; omega
      have hw2 : IntKind.i64.wrap (h : Int) = (h : Int) := by rw [IntKind.wrap_i64]; omega
      have hb1 : i ≤ h := by omega
      have hb2 : h < j := by omega
      clear hh
      cases hL1 : ltT d[m]! d[h]! with
      | false =>
        have F1' : Aside (h + 1 = a ∨ ltT d[m]! d[h + 1 - 1]! = false) := .inr (by rw [Nat.add_sub_cancel]; exact hL1)
        have ea1 : ((m : Int)).toNat = m := by omega
        have pa1 : (0 : Int) ≤ (m : Int) := by omega
        have ba1 : (m : Int) < (N : Int) := by omega
        have ra1 : IntKind.i64.wrap ((m : Int)) = (m : Int) := by rw [IntKind.wrap_i64]; omega
        have ec1 : ((h : Int)).toNat = h := by omega
        have pc1 : (0 : Int) ≤ (h : Int) := by omega
        have bc1 : (h : Int) < (N : Int) := by omega
        have rc1 : IntKind.i64.wrap ((h : Int)) = (h : Int) := by rw [IntKind.wrap_i64]; omega
        obtain ⟨x1, hx1⟩ : ∃ x, x = d[m]! := ⟨_, rfl⟩
        obtain ⟨y1, hy1⟩ : ∃ x, x = d[h]! := ⟨_, rfl⟩
        have l1a := S1.out.ld R (by rw [DZ.out, HN0.out]) Tryd.prog (m) (by rw [DZ.out]; omega)
        have l1b := S1.out.ld R (by rw [DZ.out, HN0.out]) Tryd.prog (h) (by rw [DZ.out]; omega)
        rw [← hx1] at l1a
        rw [← hy1] at l1b
        have hc1 := S1.out.cmp HC.out (by rw [DZ.out, HN0.out]) x1 y1
        have hv1 : ¬ cfT x1 y1 < 0 := by rw [hx1, hy1]; exact fun hh => by rw [(cf_lt _ _).1 hh] at hL1; cases hL1
        have hd1 : decide (cfT x1 y1 < 0) = false := decide_eq_false hv1
        clear hx1 hy1
        go_wp2_with fail
        go_quiet_grown (first | (go_at_fn g; refine Calls.grown_of (hc1 _ _)))
        have S2 : Aside (SWK encT k w0 blk off d (grow (wr.drewN nq) osq)) := S1.out.grown nq osq
        clear l1a l1b hc1 S1
        generalize grow (wr.drewN nq) osq = w2 at S2 ⊢
        clear nq osq
        clear F1 hL1
        go_wp2
        go_roundg (j - (h + 1))
        case measure => omega
        case rel => exact ⟨h + 1, j, by go_num, rfl, by omega, by omega, hjm, Nat.le_refl _, S2, F1', F2⟩
      | true =>
        have F2' : Aside (h = m ∨ ltT d[m]! d[h]! = true) := .inr hL1
        have ea1 : ((m : Int)).toNat = m := by omega
        have pa1 : (0 : Int) ≤ (m : Int) := by omega
        have ba1 : (m : Int) < (N : Int) := by omega
        have ra1 : IntKind.i64.wrap ((m : Int)) = (m : Int) := by rw [IntKind.wrap_i64]; omega
        have ec1 : ((h : Int)).toNat = h := by omega
        have pc1 : (0 : Int) ≤ (h : Int) := by omega
        have bc1 : (h : Int) < (N : Int) := by omega
        have rc1 : IntKind.i64.wrap ((h : Int)) = (h : Int) := by rw [IntKind.wrap_i64]; omega
        obtain ⟨x1, hx1⟩ : ∃ x, x = d[m]! := ⟨_, rfl⟩
        obtain ⟨y1, hy1⟩ : ∃ x, x = d[h]! := ⟨_, rfl⟩
        have l1a := S1.out.ld R (by rw [DZ.out, HN0.out]) Tryd.prog (m) (by rw [DZ.out]; omega)
        have l1b := S1.out.ld R (by rw [DZ.out, HN0.out]) Tryd.prog (h) (by rw [DZ.out]; omega)
        rw [← hx1] at l1a
        rw [← hy1] at l1b
        have hc1 := S1.out.cmp HC.out (by rw [DZ.out, HN0.out]) x1 y1
        have hv1 : cfT x1 y1 < 0 := by rw [hx1, hy1]; exact (cf_lt _ _).2 hL1
        have hd1 : decide (cfT x1 y1 < 0) = true := decide_eq_true hv1
        clear hx1 hy1
        go_wp2_with fail
        go_quiet_grown (first | (go_at_fn g; refine Calls.grown_of (hc1 _ _)))
        have S2 : Aside (SWK encT k w0 blk off d (grow (wr.drewN nq) osq)) := S1.out.grown nq osq
        clear l1a l1b hc1 S1
        generalize grow (wr.drewN nq) osq = w2 at S2 ⊢
        clear nq osq
        clear F2 hL1
        go_wp2
        go_roundg (h - i)
        case measure => omega
        case rel => exact ⟨i, h, rfl, rfl, hai, by omega, by omega, Nat.le_refl _, S2, F1, F2'⟩
    · obtain rfl : i = j := by omega
      have P0 : Aside (PermIn a b d d) := permIn_refl _ _ _
      have V0 : Aside (∀ q, d[q]! = rightF d m m q) := rightF_zero d m
      clear hij hlt hkx
      go_wp2_with fail
      go_loopg [17] (m - i) (fun ky s17 w9 => ∃ (x : Nat) (dk : Array TE), s17 = .int .i64 x ∧ i ≤ x ∧ x ≤ m ∧ x - i ≤ ky ∧ Aside (dk.size = N) ∧ Aside (SWK encT k w0 blk off dk w9) ∧ Aside (PermIn a b d dk) ∧ Aside (∀ q, dk[q]! = rightF d m x q))
      case atStart => exact ⟨m, d, rfl, hjm, Nat.le_refl _, Nat.le_refl _, DZ, S1, P0, V0⟩
      case round =>
        clear S1 P0 V0
        obtain ⟨x, dk, rfl, hix, hxm, hky, DK, S1, P1, V1⟩ := hrel
        by_cases hlt : i < x
        · have hltz : (i : Int) < (x : Int) := by omega
          have P2 : Aside (PermIn a b d (swp dk x (x - 1))) := permIn_trans _ _ _ _ _ P1.out (swp_permIn dk a b x (x - 1) (by omega) (by omega) (by omega) (by omega) (by rw [DK.out]; exact h3))
          have V2 : Aside (∀ q, (swp dk x (x - 1))[q]! = rightF d m (x - 1) q) := rightF_next (by omega) hxm (by rw [DK.out]; omega) V1.out
          have DK2 : Aside ((swp dk x (x - 1)).size = N) := by show _ = _; rw [size_swp]; exact DK.out
          obtain ⟨y, hy⟩ : ∃ y, x = y + 1 := ⟨x - 1, by omega⟩
          subst hy
          rw [Nat.add_sub_cancel] at P2 V2 DK2
          go_wp2_with fail
          have ea2 : ((y : Int) + 1).toNat = y + 1 := by omega
          have pa2 : (0 : Int) ≤ (y : Int) + 1 := by omega
          have ba2 : (y : Int) + 1 < (N : Int) := by omega
          have rb2 : IntKind.i64.wrap ((y : Int) + 1 - 1) = (y : Int) := by rw [IntKind.wrap_i64]; omega
          have ra2 : IntKind.i64.wrap ((y : Int) + 1) = (y : Int) + 1 := by rw [IntKind.wrap_i64]; omega
          have ec2 : ((y : Int)).toNat = y := by omega
          have pc2 : (0 : Int) ≤ (y : Int) := by omega
          have bc2 : (y : Int) < (N : Int) := by omega
          have rc2 : IntKind.i64.wrap ((y : Int)) = (y : Int) := by rw [IntKind.wrap_i64]; omega
          have S2 : Aside (SWK encT k w0 blk off (swp dk (y + 1) (y)) ((wr.drew.setCells blk (off + (y + 1) * k) (encT dk[y]!)).setCells blk (off + (y) * k) (encT dk[y + 1]!))) := S1.out.swapped R (y + 1) (y) (by rw [DK.out]; omega) (by rw [DK.out]; omega)
          have l2a := S1.out.ld1 R (by rw [DK.out, HN0.out]) Tryd.prog (y + 1) (by rw [DK.out]; omega)
          have l2b := S1.out.ld1 R (by rw [DK.out, HN0.out]) Tryd.prog (y) (by rw [DK.out]; omega)
          have s2a := S1.out.st1 R (by rw [DK.out, HN0.out]) Tryd.prog (y + 1) (by rw [DK.out]; omega) dk[y]!
          have s2b := S1.out.st2 R (by rw [DK.out, HN0.out]) Tryd.prog (y + 1) (y) (by rw [DK.out]; omega) (by rw [DK.out]; omega) dk[y]! dk[y + 1]!
          have n2a : (encT dk[y + 1]!).length = k := R.hk _
          have n2b : (encT dk[y]!).length = k := R.hk _
          generalize encT dk[y + 1]! = cI2 at S2 l2a s2b n2a
          generalize encT dk[y]! = cJ2 at S2 l2b s2a s2b n2b
          clear S1
          go_wp2_with fail
          go_big_region_o
          clear l2a l2b s2a s2b
          generalize (wr.drew.setCells blk (off + (y + 1) * k) cJ2).setCells blk (off + (y) * k) cI2 = w2 at S2 ⊢
          clear P1 V1 DK
          go_wp2
          go_roundg (y - i)
          case measure => omega
          case rel => exact ⟨y, swp dk (y + 1) y, by first | rfl | go_num | (congr 1; omega), by omega, by omega, Nat.le_refl _, DK2, S2, P2, V2⟩
        · have hltz : ¬ (i : Int) < (x : Int) := by omega
          obtain rfl : x = i := by omega
          have SOE : Aside (So ltT tgT a b dk) := by
            show So _ _ _ _ _
            rw [mb.out]
            exact ins_right swoT hai hjm SO1.out (fun q q1 q2 => TT.out q m q1 q2 (Nat.le_refl _) h2) F1.out F2.out (fun q => by rw [V1.out q]; rfl)
          go_wp2
          exact bodyPost_ret (results_none rfl _ _ _) rfl ⟨rfl, dk, S1.out, P1.out, SOE.out⟩
set_option maxHeartbeats 8000000 in
set_option maxRecDepth 1000000 in
theorem merge_a (k : Nat) (zE : ∀ w, (Go.sizeOf 31).run Tryd.prog w = .ok k w) (g : Nat) (cb : Array Value) (eg : ∀ args w, (callFunc g args).run Tryd.prog w = .ok (.enter g args) w) (blk off cap N : Nat) (d0 : Array TE) (w0 : World) (hcmp : CmpLays Tryd.prog g cb encT k cfT blk off d0.size w0) (R : RowK encT k w0 blk off d0) (hN0 : d0.size = N) (hsz : N < 4611686018427387904)
    (HROT : RotC k g cb blk off cap N w0) (fuel : Nat) (ih : MergeC k g cb blk off cap N w0 fuel)
    (a m b : Nat) (d : Array TE) (w : World) (_hf : b - a ≤ fuel + 1) (hd : d.size = N) (S : SWK encT k w0 blk off d w) (h1 : a < m) (h2 : m < b) (h3 : b ≤ N) (s1 : So ltT tgT a m d) (s2 : So ltT tgT m b d) (tt : Tg tgT a m b d) (_c1 : ¬ m = a + 1) (c2 : ¬ b = m + 1) (c3 : (a + b) / 2 < m) :
    Calls Tryd.prog 46 #[.slice (some ⟨blk, off, none⟩) N cap, .int .i64 a, .int .i64 m, .int .i64 b, .func (.func g) #[] cb] w fun e w' => e = .returned (.tuple #[]) ∧ ∃ d', SWK encT k w0 blk off d' w' ∧ PermIn a b d d' ∧ So ltT tgT a b d' := by
  have IH := Lib.hid ih
  have HC : Aside (CmpLays Tryd.prog g cb encT k cfT blk off d0.size w0) := hcmp
  have HR := Lib.hid HROT
  have HN0 : Aside (d0.size = N) := hN0
  have DZ : Aside (d.size = N) := hd
  have S0 : Aside (SWK encT k w0 blk off d w) := S
  have SO1 := Lib.hid s1
  have SO2 := Lib.hid s2
  have TT := Lib.hid tt
  have mixed : Tryd.prog.follows Departure.mixedOrders = true := by kernel_rfl
  clear hcmp HROT hN0 hd S s1 s2 tt ih
  obtain ⟨mid, hmid⟩ : ∃ x, x = (a + b) / 2 := ⟨_, rfl⟩
  have mI : ((a : Int) + (b : Int)) / 2 = (mid : Int) := by omega
  have mw1 : IntKind.u64.wrap ((a : Int) + (b : Int)) = (a : Int) + (b : Int) := by rw [IntKind.wrap]; simp [IntKind.bits, IntKind.signed]; omega
  have mw2 : IntKind.i64.wrap (mid : Int) = (mid : Int) := by rw [IntKind.wrap_i64]; omega
  obtain ⟨n, hn⟩ : ∃ x, x = mid + m := ⟨_, rfl⟩
  have nI : (mid : Int) + (m : Int) = (n : Int) := by omega
  have mid1 : 2 * mid ≤ a + b := by omega
  have mid2 : a + b ≤ 2 * mid + 1 := by omega
  have n1 : n ≤ mid + m := by omega
  have n2 : mid + m ≤ n := by omega
  obtain ⟨p, hp⟩ : ∃ x, x = n - 1 := ⟨_, rfl⟩
  have pI : (n : Int) - 1 = (p : Int) := by omega
  have p1' : p + 1 ≤ n := by omega
  have p2' : n ≤ p + 1 := by omega
  have hcm : mid < m := by omega
  have x0 : decide ((mid : Int) < (m : Int)) = true := by simp; omega
  obtain ⟨s0, hs0⟩ : ∃ x, x = n - b := ⟨_, rfl⟩
  have sI : (n : Int) - (b : Int) = (s0 : Int) := by omega
  have s01 : s0 + b ≤ n := by omega
  have s02 : n ≤ s0 + b := by omega
  clear hs0
  have t1 : ((m : Int) - (a : Int) == 1) = false := by simp; omega
  have t2 : ((b : Int) - (m : Int) == 1) = false := by simp; omega
  have c1' : a + 2 ≤ m := by omega
  have c2' : m + 2 ≤ b := by omega
  clear hmid hn hp _c1 c2 c3
  go_enter Tryd.func46, Tryd.ntmps46
  go_wp2_with fail
  go_loopg [20, 21] (mid - s0) (fun kx s20 s21 wr => ∃ (s r : Nat), s20 = .int .i64 s ∧ s21 = .int .i64 r ∧ s0 ≤ s ∧ s ≤ r ∧ r ≤ mid ∧ r - s ≤ kx ∧ Aside (SWK encT k w0 blk off d wr) ∧ Aside (s = s0 ∨ ltT d[n - s]! d[s - 1]! = false) ∧ Aside (r = mid ∨ ltT d[n - 1 - r]! d[r]! = true))
  case atStart => exact ⟨s0, mid, rfl, rfl, by omega, by omega, by omega, by omega, S0, .inl rfl, .inl rfl⟩
  case round =>
    clear S0
    obtain ⟨s, r, rfl, rfl, hs1, hsr, hr1, hkx, S1, F1, F2⟩ := hrel
    by_cases hlt : s < r
    · have hltz : (s : Int) < (r : Int) := by omega
      obtain ⟨h, hh⟩ : ∃ h, h = (s + r) / 2 := ⟨_, rfl⟩
      have hI : ((s : Int) + (r : Int)) / 2 = (h : Int) := by omega
      have hw1 : IntKind.u64.wrap ((s : Int) + (r : Int)) = (s : Int) + (r : Int) := by rw [IntKind.wrap]; simp [IntKind.bits, IntKind.signed]; omega
      have hw2 : IntKind.i64.wrap (h : Int) = (h : Int) := by rw [IntKind.wrap_i64]; omega
      have hb1 : s ≤ h := by omega
      have hb2 : h < r := by omega
      clear hh
      obtain ⟨u, hu⟩ : ∃ u, u = p - h := ⟨_, rfl⟩
      have uI : (p : Int) - (h : Int) = (u : Int) := by omega
      have hu1 : n - 1 - h = u := by omega
      have u1 : u < N := by omega
      clear hu
      have HU := Lib.hid hu1
      clear hu1
      cases hL1 : ltT d[u]! d[h]! with
      | false =>
        have F1' : Aside (h + 1 = s0 ∨ ltT d[n - (h + 1)]! d[h + 1 - 1]! = false) := .inr (by rw [Nat.add_sub_cancel, show n - (h + 1) = u by have := HU.out; omega]; exact hL1)
        have ea1 : ((u : Int)).toNat = u := by omega
        have pa1 : (0 : Int) ≤ (u : Int) := by omega
        have ba1 : (u : Int) < (N : Int) := by omega
        have ra1 : IntKind.i64.wrap ((u : Int)) = (u : Int) := by rw [IntKind.wrap_i64]; omega
        have ec1 : ((h : Int)).toNat = h := by omega
        have pc1 : (0 : Int) ≤ (h : Int) := by omega
        have bc1 : (h : Int) < (N : Int) := by omega
        have rc1 : IntKind.i64.wrap ((h : Int)) = (h : Int) := by rw [IntKind.wrap_i64]; omega
        obtain ⟨x1, hx1⟩ : ∃ x, x = d[u]! := ⟨_, rfl⟩
        obtain ⟨y1, hy1⟩ : ∃ x, x = d[h]! := ⟨_, rfl⟩
        have l1a := S1.out.ld R (by rw [DZ.out, HN0.out]) Tryd.prog (u) (by rw [DZ.out]; omega)
        have l1b := S1.out.ld R (by rw [DZ.out, HN0.out]) Tryd.prog (h) (by rw [DZ.out]; omega)
        rw [← hx1] at l1a
        rw [← hy1] at l1b
        have hc1 := S1.out.cmp HC.out (by rw [DZ.out, HN0.out]) x1 y1
        have hv1 : ¬ cfT x1 y1 < 0 := by rw [hx1, hy1]; exact fun hh => by rw [(cf_lt _ _).1 hh] at hL1; cases hL1
        have hd1 : decide (cfT x1 y1 < 0) = false := decide_eq_false hv1
        clear hx1 hy1
        go_wp2_with fail
        go_quiet_grown (first | (go_at_fn g; refine Calls.grown_of (hc1 _ _)))
        have S2 : Aside (SWK encT k w0 blk off d (grow (wr.drewN nq) osq)) := S1.out.grown nq osq
        clear l1a l1b hc1 S1
        generalize grow (wr.drewN nq) osq = w2 at S2 ⊢
        clear nq osq
        clear F1 hL1
        go_wp2
        go_roundg (r - (h + 1))
        case measure => omega
        case rel => exact ⟨h + 1, r, by go_num, rfl, by omega, by omega, hr1, Nat.le_refl _, S2, F1', F2⟩
      | true =>
        have F2' : Aside (h = mid ∨ ltT d[n - 1 - h]! d[h]! = true) := .inr (by rw [HU.out]; exact hL1)
        have ea1 : ((u : Int)).toNat = u := by omega
        have pa1 : (0 : Int) ≤ (u : Int) := by omega
        have ba1 : (u : Int) < (N : Int) := by omega
        have ra1 : IntKind.i64.wrap ((u : Int)) = (u : Int) := by rw [IntKind.wrap_i64]; omega
        have ec1 : ((h : Int)).toNat = h := by omega
        have pc1 : (0 : Int) ≤ (h : Int) := by omega
        have bc1 : (h : Int) < (N : Int) := by omega
        have rc1 : IntKind.i64.wrap ((h : Int)) = (h : Int) := by rw [IntKind.wrap_i64]; omega
        obtain ⟨x1, hx1⟩ : ∃ x, x = d[u]! := ⟨_, rfl⟩
        obtain ⟨y1, hy1⟩ : ∃ x, x = d[h]! := ⟨_, rfl⟩
        have l1a := S1.out.ld R (by rw [DZ.out, HN0.out]) Tryd.prog (u) (by rw [DZ.out]; omega)
        have l1b := S1.out.ld R (by rw [DZ.out, HN0.out]) Tryd.prog (h) (by rw [DZ.out]; omega)
        rw [← hx1] at l1a
        rw [← hy1] at l1b
        have hc1 := S1.out.cmp HC.out (by rw [DZ.out, HN0.out]) x1 y1
        have hv1 : cfT x1 y1 < 0 := by rw [hx1, hy1]; exact (cf_lt _ _).2 hL1
        have hd1 : decide (cfT x1 y1 < 0) = true := decide_eq_true hv1
        clear hx1 hy1
        go_wp2_with fail
        go_quiet_grown (first | (go_at_fn g; refine Calls.grown_of (hc1 _ _)))
        have S2 : Aside (SWK encT k w0 blk off d (grow (wr.drewN nq) osq)) := S1.out.grown nq osq
        clear l1a l1b hc1 S1
        generalize grow (wr.drewN nq) osq = w2 at S2 ⊢
        clear nq osq
        clear F2 hL1
        go_wp2
        go_roundg (h - s)
        case measure => omega
        case rel => exact ⟨s, h, rfl, rfl, hs1, by omega, by omega, Nat.le_refl _, S2, F1, F2'⟩
    · obtain rfl : s = r := by omega
      obtain ⟨e, he⟩ : ∃ e, e = n - s := ⟨_, rfl⟩
      have eI : (n : Int) - (s : Int) = (e : Int) := by omega
      have e1' : e + s ≤ n := by omega
      have e2' : n ≤ e + s := by omega
      have E1 : Hid (s = a ∨ e = b ∨ ltT d[e]! d[s - 1]! = false) := by
        rcases F1.out with f | f
        · exact .inr (.inl (by omega))
        · exact .inr (.inr (by rw [he]; exact f))
      have E2 : Hid (s = m ∨ e = m ∨ ltT d[e - 1]! d[s]! = true) := by
        rcases F2.out with f | f
        · exact .inr (.inl (by omega))
        · exact .inr (.inr (by rw [he, show n - s - 1 = n - 1 - s by omega]; exact f))
      clear F1 F2 hsr hlt hkx he
      rcases (show (s < m ∧ m < e) ∨ (mid ≤ s ∧ s ≤ mid ∧ e ≤ m ∧ m ≤ e) by omega) with ⟨r1, r2⟩ | ⟨r1, r2, r3, r4⟩
      · have x1 : decide ((s : Int) < (m : Int)) = true := decide_eq_true (by omega)
        have x2 : decide ((m : Int) < (e : Int)) = true := decide_eq_true (by omega)
        have CRT := Lib.hid (HR.out s m e d wr DZ.out S1.out r1 r2 (by omega))
        go_wp2_with fail
        refine CRT.out.mono ?_
        rintro e7 w7 ⟨rfl, d1, S7, P7, V7⟩
        have S7a : Aside (SWK encT k w0 blk off d1 w7) := S7
        obtain ⟨a1, a2, a3, a4, a5, a6, a7⟩ := halves swoT (d := d) (d1 := d1) (a := a) (m := m) (b := b) (s := s) (e := e) (mid := mid) (by omega) (by omega) (by omega) (by omega) (by omega) SO1.out SO2.out TT.out E1.out E2.out V7
        have PD1 : Hid (PermIn a b d d1) := permIn_wide (by omega) (by omega) (by rw [DZ.out]; exact h3) P7
        have A1 := Lib.hid a1
        have A2 := Lib.hid a2
        have T1 := Lib.hid a3
        have A3 := Lib.hid a4
        have A4 := Lib.hid a5
        have T2 := Lib.hid a6
        have HX := Lib.hid a7
        clear a1 a2 a3 a4 a5 a6 a7
        clear CRT S7 P7 V7 S1 E1 E2
        rcases (show (a < s ∧ s < mid) ∨ (s ≤ a ∧ a ≤ s) by omega) with ⟨p1, p2⟩ | ⟨p1, p2⟩
        · have u1 : decide ((a : Int) < (s : Int)) = true := decide_eq_true (by omega)
          have u2 : decide ((s : Int) < (mid : Int)) = true := decide_eq_true (by omega)
          have CLF := Lib.hid (IH.out a s mid d1 w7 (by omega) (by rw [PD1.out.1]; exact DZ.out) S7a.out p1 p2 (by omega) A1.out A2.out T1.out)
          go_wp2_with fail
          refine CLF.out.mono ?_
          rintro e8 w8 ⟨rfl, d2, S8, P8, SO8⟩
          have S8a : Aside (SWK encT k w0 blk off d2 w8) := S8
          have P3 := Lib.hid P8
          have SM := Lib.hid SO8
          have SE1 := Lib.hid (so_congr A3.out fun q q1 q2 => P8.2.1 q (.inr q1))
          have SE2 := Lib.hid (so_congr A4.out fun q q1 q2 => P8.2.1 q (.inr (by omega)))
          have TE : Hid (Tg tgT mid e b d2) := fun i j i1 i2 i3 i4 => by rw [P8.2.1 i (.inr i1), P8.2.1 j (.inr (by omega))]; exact T2.out i j i1 i2 i3 i4
          have PA := Lib.hid (permIn_trans _ _ _ _ _ PD1.out (permIn_wide (Nat.le_refl _) (by omega) (by rw [PD1.out.1, DZ.out]; exact h3) P8))
          clear CLF S8 P8 SO8 S7a
          rcases (show (mid < e ∧ e < b) ∨ (mid < e ∧ e ≤ b ∧ b ≤ e) by omega) with ⟨q1, q2⟩ | ⟨q1, q2, q3⟩
          · have v1 : decide ((mid : Int) < (e : Int)) = true := decide_eq_true (by omega)
            have v2 : decide ((e : Int) < (b : Int)) = true := decide_eq_true (by omega)
            have CR := Lib.hid (IH.out mid e b d2 w8 (by omega) (by rw [PA.out.1]; exact DZ.out) S8a.out q1 q2 h3 SE1.out SE2.out TE.out)
            go_wp2_with fail
            refine CR.out.mono ?_
            rintro e9 w9 ⟨rfl, d3, S9, P9, SO9⟩
            have RES : Aside (∃ d', SWK encT k w0 blk off d' w9 ∧ PermIn a b d d' ∧ So ltT tgT a b d') := ⟨d3, S9, permIn_trans _ _ _ _ _ PA.out (permIn_wide (by omega) (by omega) (by rw [PA.out.1, DZ.out]; exact h3) P9), whole (by omega) (by rw [PD1.out.1, DZ.out]; exact h3) HX.out P3.out SM.out P9 SO9⟩
            clear CR S9 P9 SO9
            clear SE1 SE2 TE PA PD1 HX P3 SM A1 A2 A3 A4 T1 T2 IH
            go_wp2
            exact ⟨rfl, _, results_none rfl _ _ _, rfl, RES.out⟩
          · have v1 : decide ((mid : Int) < (e : Int)) = true := decide_eq_true (by omega)
            have v2 : decide ((e : Int) < (b : Int)) = false := decide_eq_false (by omega)
            have SO9 : So ltT tgT mid b d2 := by
              have hE := SE1.out
              rw [show e = b by omega] at hE
              exact hE
            have RES : Aside (∃ d', SWK encT k w0 blk off d' w8 ∧ PermIn a b d d' ∧ So ltT tgT a b d') := ⟨d2, S8a.out, PA.out, whole (by omega) (by rw [PD1.out.1, DZ.out]; exact h3) HX.out P3.out SM.out (permIn_refl _ _ _) SO9⟩
            clear SO9
            clear SE1 SE2 TE PA PD1 HX P3 SM A1 A2 A3 A4 T1 T2 IH
            go_wp2
            exact ⟨rfl, _, results_none rfl _ _ _, rfl, RES.out⟩
        · have u1 : decide ((a : Int) < (s : Int)) = false := decide_eq_false (by omega)
          have SM : Hid (So ltT tgT a mid d1) := by
            show So _ _ _ _ _
            have hA2 := A2.out
            rw [show s = a by omega] at hA2
            exact hA2
          have P3 : Hid (PermIn a mid d1 d1) := permIn_refl _ _ _
          have SE1 := Lib.hid A3.out
          have SE2 := Lib.hid A4.out
          have TE := Lib.hid T2.out
          have PA := Lib.hid PD1.out
          obtain ⟨q1, q2, q3⟩ : (mid < e ∧ e ≤ b ∧ b ≤ e) := by omega
          have v1 : decide ((mid : Int) < (e : Int)) = true := decide_eq_true (by omega)
          have v2 : decide ((e : Int) < (b : Int)) = false := decide_eq_false (by omega)
          have SO9 : So ltT tgT mid b d1 := by
            have hE := SE1.out
            rw [show e = b by omega] at hE
            exact hE
          have RES : Aside (∃ d', SWK encT k w0 blk off d' w7 ∧ PermIn a b d d' ∧ So ltT tgT a b d') := ⟨d1, S7a.out, PA.out, whole (by omega) (by rw [PD1.out.1, DZ.out]; exact h3) HX.out P3.out SM.out (permIn_refl _ _ _) SO9⟩
          clear SO9
          clear SE1 SE2 TE PA PD1 HX P3 SM A1 A2 A3 A4 T1 T2 IH
          go_wp2
          exact ⟨rfl, _, results_none rfl _ _ _, rfl, RES.out⟩
      · have x1 : decide ((s : Int) < (m : Int)) = true := decide_eq_true (by omega)
        have x2 : decide ((m : Int) < (e : Int)) = false := decide_eq_false (by omega)
        have V7 : ∀ q, d[q]! = rotF d s m e q := fun q => by
          unfold rotF
          repeat' split
          all_goals first | rfl | (exfalso; omega) | (congr 1; omega)
        obtain ⟨a1, a2, a3, a4, a5, a6, a7⟩ := halves swoT (d := d) (d1 := d) (a := a) (m := m) (b := b) (s := s) (e := e) (mid := mid) (by omega) (by omega) (by omega) (by omega) (by omega) SO1.out SO2.out TT.out E1.out E2.out V7
        have PD1 : Hid (PermIn a b d d) := permIn_refl _ _ _
        have A1 := Lib.hid a1
        have A2 := Lib.hid a2
        have T1 := Lib.hid a3
        have A3 := Lib.hid a4
        have A4 := Lib.hid a5
        have T2 := Lib.hid a6
        have HX := Lib.hid a7
        clear a1 a2 a3 a4 a5 a6 a7
        clear V7 E1 E2
        obtain ⟨p1, p2, p3⟩ : (a < s ∧ s ≤ mid ∧ mid ≤ s) := by omega
        have u1 : decide ((a : Int) < (s : Int)) = true := decide_eq_true (by omega)
        have u2 : decide ((s : Int) < (mid : Int)) = false := decide_eq_false (by omega)
        have SM : Hid (So ltT tgT a mid d) := by
          show So _ _ _ _ _
          have hA1 := A1.out
          rw [show s = mid by omega] at hA1
          exact hA1
        have P3 : Hid (PermIn a mid d d) := permIn_refl _ _ _
        have SE1 := Lib.hid A3.out
        have SE2 := Lib.hid A4.out
        have TE := Lib.hid T2.out
        have PA := Lib.hid PD1.out
        obtain ⟨q1, q2⟩ : (mid < e ∧ e < b) := by omega
        have v1 : decide ((mid : Int) < (e : Int)) = true := decide_eq_true (by omega)
        have v2 : decide ((e : Int) < (b : Int)) = true := decide_eq_true (by omega)
        have CR := Lib.hid (IH.out mid e b d wr (by omega) (by rw [PA.out.1]; exact DZ.out) S1.out q1 q2 h3 SE1.out SE2.out TE.out)
        go_wp2_with fail
        refine CR.out.mono ?_
        rintro e9 w9 ⟨rfl, d3, S9, P9, SO9⟩
        have RES : Aside (∃ d', SWK encT k w0 blk off d' w9 ∧ PermIn a b d d' ∧ So ltT tgT a b d') := ⟨d3, S9, permIn_trans _ _ _ _ _ PA.out (permIn_wide (by omega) (by omega) (by rw [PA.out.1, DZ.out]; exact h3) P9), whole (by omega) (by rw [PD1.out.1, DZ.out]; exact h3) HX.out P3.out SM.out P9 SO9⟩
        clear CR S9 P9 SO9
        clear SE1 SE2 TE PA PD1 HX P3 SM A1 A2 A3 A4 T1 T2 IH
        go_wp2
        exact ⟨rfl, _, results_none rfl _ _ _, rfl, RES.out⟩
set_option maxHeartbeats 8000000 in
set_option maxRecDepth 1000000 in
theorem merge_b (k : Nat) (zE : ∀ w, (Go.sizeOf 31).run Tryd.prog w = .ok k w) (g : Nat) (cb : Array Value) (eg : ∀ args w, (callFunc g args).run Tryd.prog w = .ok (.enter g args) w) (blk off cap N : Nat) (d0 : Array TE) (w0 : World) (hcmp : CmpLays Tryd.prog g cb encT k cfT blk off d0.size w0) (R : RowK encT k w0 blk off d0) (hN0 : d0.size = N) (hsz : N < 4611686018427387904)
    (HROT : RotC k g cb blk off cap N w0) (fuel : Nat) (ih : MergeC k g cb blk off cap N w0 fuel)
    (a m b : Nat) (d : Array TE) (w : World) (_hf : b - a ≤ fuel + 1) (hd : d.size = N) (S : SWK encT k w0 blk off d w) (h1 : a < m) (h2 : m < b) (h3 : b ≤ N) (s1 : So ltT tgT a m d) (s2 : So ltT tgT m b d) (tt : Tg tgT a m b d) (c1 : ¬ m = a + 1) (c2 : ¬ b = m + 1) (c3 : m ≤ (a + b) / 2) :
    Calls Tryd.prog 46 #[.slice (some ⟨blk, off, none⟩) N cap, .int .i64 a, .int .i64 m, .int .i64 b, .func (.func g) #[] cb] w fun e w' => e = .returned (.tuple #[]) ∧ ∃ d', SWK encT k w0 blk off d' w' ∧ PermIn a b d d' ∧ So ltT tgT a b d' := by
  have IH := Lib.hid ih
  have HC : Aside (CmpLays Tryd.prog g cb encT k cfT blk off d0.size w0) := hcmp
  have HR := Lib.hid HROT
  have HN0 : Aside (d0.size = N) := hN0
  have DZ : Aside (d.size = N) := hd
  have S0 : Aside (SWK encT k w0 blk off d w) := S
  have SO1 := Lib.hid s1
  have SO2 := Lib.hid s2
  have TT := Lib.hid tt
  have mixed : Tryd.prog.follows Departure.mixedOrders = true := by kernel_rfl
  clear hcmp HROT hN0 hd S s1 s2 tt ih
  obtain ⟨mid, hmid⟩ : ∃ x, x = (a + b) / 2 := ⟨_, rfl⟩
  have mI : ((a : Int) + (b : Int)) / 2 = (mid : Int) := by omega
  have mw1 : IntKind.u64.wrap ((a : Int) + (b : Int)) = (a : Int) + (b : Int) := by rw [IntKind.wrap]; simp [IntKind.bits, IntKind.signed]; omega
  have mw2 : IntKind.i64.wrap (mid : Int) = (mid : Int) := by rw [IntKind.wrap_i64]; omega
  obtain ⟨n, hn⟩ : ∃ x, x = mid + m := ⟨_, rfl⟩
  have nI : (mid : Int) + (m : Int) = (n : Int) := by omega
  have mid1 : 2 * mid ≤ a + b := by omega
  have mid2 : a + b ≤ 2 * mid + 1 := by omega
  have n1 : n ≤ mid + m := by omega
  have n2 : mid + m ≤ n := by omega
  obtain ⟨p, hp⟩ : ∃ x, x = n - 1 := ⟨_, rfl⟩
  have pI : (n : Int) - 1 = (p : Int) := by omega
  have p1' : p + 1 ≤ n := by omega
  have p2' : n ≤ p + 1 := by omega
  have hcm : m ≤ mid := by omega
  have x0 : decide ((mid : Int) < (m : Int)) = false := by simp; omega
  have x0n : decide (mid < m) = false := decide_eq_false (by omega)
  have t1 : ((m : Int) - (a : Int) == 1) = false := by simp; omega
  have t2 : ((b : Int) - (m : Int) == 1) = false := by simp; omega
  have c1' : a + 2 ≤ m := by omega
  have c2' : m + 2 ≤ b := by omega
  clear hmid hn hp c1 c2 c3
  go_enter Tryd.func46, Tryd.ntmps46
  go_wp2_with fail
  go_loopg [20, 21] (m - a) (fun kx s20 s21 wr => ∃ (s r : Nat), s20 = .int .i64 s ∧ s21 = .int .i64 r ∧ a ≤ s ∧ s ≤ r ∧ r ≤ m ∧ r - s ≤ kx ∧ Aside (SWK encT k w0 blk off d wr) ∧ Aside (s = a ∨ ltT d[n - s]! d[s - 1]! = false) ∧ Aside (r = m ∨ ltT d[n - 1 - r]! d[r]! = true))
  case atStart => exact ⟨a, m, rfl, rfl, by omega, by omega, by omega, by omega, S0, .inl rfl, .inl rfl⟩
  case round =>
    clear S0
    obtain ⟨s, r, rfl, rfl, hs1, hsr, hr1, hkx, S1, F1, F2⟩ := hrel
    by_cases hlt : s < r
    · have hltz : (s : Int) < (r : Int) := by omega
      obtain ⟨h, hh⟩ : ∃ h, h = (s + r) / 2 := ⟨_, rfl⟩
      have hI : ((s : Int) + (r : Int)) / 2 = (h : Int) := by omega
      have hw1 : IntKind.u64.wrap ((s : Int) + (r : Int)) = (s : Int) + (r : Int) := by rw [IntKind.wrap]; simp [IntKind.bits, IntKind.signed]; omega
      have hw2 : IntKind.i64.wrap (h : Int) = (h : Int) := by rw [IntKind.wrap_i64]; omega
      have hb1 : s ≤ h := by omega
      have hb2 : h < r := by omega
      clear hh
      obtain ⟨u, hu⟩ : ∃ u, u = p - h := ⟨_, rfl⟩
      have uI : (p : Int) - (h : Int) = (u : Int) := by omega
      have hu1 : n - 1 - h = u := by omega
      have u1 : u < N := by omega
      clear hu
      have HU := Lib.hid hu1
      clear hu1
      cases hL1 : ltT d[u]! d[h]! with
      | false =>
        have F1' : Aside (h + 1 = a ∨ ltT d[n - (h + 1)]! d[h + 1 - 1]! = false) := .inr (by rw [Nat.add_sub_cancel, show n - (h + 1) = u by have := HU.out; omega]; exact hL1)
        have ea1 : ((u : Int)).toNat = u := by omega
        have pa1 : (0 : Int) ≤ (u : Int) := by omega
        have ba1 : (u : Int) < (N : Int) := by omega
        have ra1 : IntKind.i64.wrap ((u : Int)) = (u : Int) := by rw [IntKind.wrap_i64]; omega
        have ec1 : ((h : Int)).toNat = h := by omega
        have pc1 : (0 : Int) ≤ (h : Int) := by omega
        have bc1 : (h : Int) < (N : Int) := by omega
        have rc1 : IntKind.i64.wrap ((h : Int)) = (h : Int) := by rw [IntKind.wrap_i64]; omega
        obtain ⟨x1, hx1⟩ : ∃ x, x = d[u]! := ⟨_, rfl⟩
        obtain ⟨y1, hy1⟩ : ∃ x, x = d[h]! := ⟨_, rfl⟩
        have l1a := S1.out.ld R (by rw [DZ.out, HN0.out]) Tryd.prog (u) (by rw [DZ.out]; omega)
        have l1b := S1.out.ld R (by rw [DZ.out, HN0.out]) Tryd.prog (h) (by rw [DZ.out]; omega)
        rw [← hx1] at l1a
        rw [← hy1] at l1b
        have hc1 := S1.out.cmp HC.out (by rw [DZ.out, HN0.out]) x1 y1
        have hv1 : ¬ cfT x1 y1 < 0 := by rw [hx1, hy1]; exact fun hh => by rw [(cf_lt _ _).1 hh] at hL1; cases hL1
        have hd1 : decide (cfT x1 y1 < 0) = false := decide_eq_false hv1
        clear hx1 hy1
        go_wp2_with fail
        go_quiet_grown (first | (go_at_fn g; refine Calls.grown_of (hc1 _ _)))
        have S2 : Aside (SWK encT k w0 blk off d (grow (wr.drewN nq) osq)) := S1.out.grown nq osq
        clear l1a l1b hc1 S1
        generalize grow (wr.drewN nq) osq = w2 at S2 ⊢
        clear nq osq
        clear F1 hL1
        go_wp2
        go_roundg (r - (h + 1))
        case measure => omega
        case rel => exact ⟨h + 1, r, by go_num, rfl, by omega, by omega, hr1, Nat.le_refl _, S2, F1', F2⟩
      | true =>
        have F2' : Aside (h = m ∨ ltT d[n - 1 - h]! d[h]! = true) := .inr (by rw [HU.out]; exact hL1)
        have ea1 : ((u : Int)).toNat = u := by omega
        have pa1 : (0 : Int) ≤ (u : Int) := by omega
        have ba1 : (u : Int) < (N : Int) := by omega
        have ra1 : IntKind.i64.wrap ((u : Int)) = (u : Int) := by rw [IntKind.wrap_i64]; omega
        have ec1 : ((h : Int)).toNat = h := by omega
        have pc1 : (0 : Int) ≤ (h : Int) := by omega
        have bc1 : (h : Int) < (N : Int) := by omega
        have rc1 : IntKind.i64.wrap ((h : Int)) = (h : Int) := by rw [IntKind.wrap_i64]; omega
        obtain ⟨x1, hx1⟩ : ∃ x, x = d[u]! := ⟨_, rfl⟩
        obtain ⟨y1, hy1⟩ : ∃ x, x = d[h]! := ⟨_, rfl⟩
        have l1a := S1.out.ld R (by rw [DZ.out, HN0.out]) Tryd.prog (u) (by rw [DZ.out]; omega)
        have l1b := S1.out.ld R (by rw [DZ.out, HN0.out]) Tryd.prog (h) (by rw [DZ.out]; omega)
        rw [← hx1] at l1a
        rw [← hy1] at l1b
        have hc1 := S1.out.cmp HC.out (by rw [DZ.out, HN0.out]) x1 y1
        have hv1 : cfT x1 y1 < 0 := by rw [hx1, hy1]; exact (cf_lt _ _).2 hL1
        have hd1 : decide (cfT x1 y1 < 0) = true := decide_eq_true hv1
        clear hx1 hy1
        go_wp2_with fail
        go_quiet_grown (first | (go_at_fn g; refine Calls.grown_of (hc1 _ _)))
        have S2 : Aside (SWK encT k w0 blk off d (grow (wr.drewN nq) osq)) := S1.out.grown nq osq
        clear l1a l1b hc1 S1
        generalize grow (wr.drewN nq) osq = w2 at S2 ⊢
        clear nq osq
        clear F2 hL1
        go_wp2
        go_roundg (h - s)
        case measure => omega
        case rel => exact ⟨s, h, rfl, rfl, hs1, by omega, by omega, Nat.le_refl _, S2, F1, F2'⟩
    · obtain rfl : s = r := by omega
      obtain ⟨e, he⟩ : ∃ e, e = n - s := ⟨_, rfl⟩
      have eI : (n : Int) - (s : Int) = (e : Int) := by omega
      have e1' : e + s ≤ n := by omega
      have e2' : n ≤ e + s := by omega
      have E1 : Hid (s = a ∨ e = b ∨ ltT d[e]! d[s - 1]! = false) := by
        rcases F1.out with f | f
        · exact .inl f
        · exact .inr (.inr (by rw [he]; exact f))
      have E2 : Hid (s = m ∨ e = m ∨ ltT d[e - 1]! d[s]! = true) := by
        rcases F2.out with f | f
        · exact .inl f
        · exact .inr (.inr (by rw [he, show n - s - 1 = n - 1 - s by omega]; exact f))
      clear F1 F2 hsr hlt hkx he
      rcases (show (s < m ∧ m < e) ∨ (s ≤ m ∧ m ≤ s ∧ e ≤ mid ∧ mid ≤ e) by omega) with ⟨r1, r2⟩ | ⟨r1, r2, r3, r4⟩
      · have x1 : decide ((s : Int) < (m : Int)) = true := decide_eq_true (by omega)
        have x2 : decide ((m : Int) < (e : Int)) = true := decide_eq_true (by omega)
        have CRT := Lib.hid (HR.out s m e d wr DZ.out S1.out r1 r2 (by omega))
        go_wp2_with fail
        refine CRT.out.mono ?_
        rintro e7 w7 ⟨rfl, d1, S7, P7, V7⟩
        have S7a : Aside (SWK encT k w0 blk off d1 w7) := S7
        obtain ⟨a1, a2, a3, a4, a5, a6, a7⟩ := halves swoT (d := d) (d1 := d1) (a := a) (m := m) (b := b) (s := s) (e := e) (mid := mid) (by omega) (by omega) (by omega) (by omega) (by omega) SO1.out SO2.out TT.out E1.out E2.out V7
        have PD1 : Hid (PermIn a b d d1) := permIn_wide (by omega) (by omega) (by rw [DZ.out]; exact h3) P7
        have A1 := Lib.hid a1
        have A2 := Lib.hid a2
        have T1 := Lib.hid a3
        have A3 := Lib.hid a4
        have A4 := Lib.hid a5
        have T2 := Lib.hid a6
        have HX := Lib.hid a7
        clear a1 a2 a3 a4 a5 a6 a7
        clear CRT S7 P7 V7 S1 E1 E2
        rcases (show (a < s ∧ s < mid) ∨ (s ≤ a ∧ a ≤ s) by omega) with ⟨p1, p2⟩ | ⟨p1, p2⟩
        · have u1 : decide ((a : Int) < (s : Int)) = true := decide_eq_true (by omega)
          have u2 : decide ((s : Int) < (mid : Int)) = true := decide_eq_true (by omega)
          have CLF := Lib.hid (IH.out a s mid d1 w7 (by omega) (by rw [PD1.out.1]; exact DZ.out) S7a.out p1 p2 (by omega) A1.out A2.out T1.out)
          go_wp2_with fail
          refine CLF.out.mono ?_
          rintro e8 w8 ⟨rfl, d2, S8, P8, SO8⟩
          have S8a : Aside (SWK encT k w0 blk off d2 w8) := S8
          have P3 := Lib.hid P8
          have SM := Lib.hid SO8
          have SE1 := Lib.hid (so_congr A3.out fun q q1 q2 => P8.2.1 q (.inr q1))
          have SE2 := Lib.hid (so_congr A4.out fun q q1 q2 => P8.2.1 q (.inr (by omega)))
          have TE : Hid (Tg tgT mid e b d2) := fun i j i1 i2 i3 i4 => by rw [P8.2.1 i (.inr i1), P8.2.1 j (.inr (by omega))]; exact T2.out i j i1 i2 i3 i4
          have PA := Lib.hid (permIn_trans _ _ _ _ _ PD1.out (permIn_wide (Nat.le_refl _) (by omega) (by rw [PD1.out.1, DZ.out]; exact h3) P8))
          clear CLF S8 P8 SO8 S7a
          obtain ⟨q1, q2⟩ : (mid < e ∧ e < b) := by omega
          have v1 : decide ((mid : Int) < (e : Int)) = true := decide_eq_true (by omega)
          have v2 : decide ((e : Int) < (b : Int)) = true := decide_eq_true (by omega)
          have CR := Lib.hid (IH.out mid e b d2 w8 (by omega) (by rw [PA.out.1]; exact DZ.out) S8a.out q1 q2 h3 SE1.out SE2.out TE.out)
          go_wp2_with fail
          refine CR.out.mono ?_
          rintro e9 w9 ⟨rfl, d3, S9, P9, SO9⟩
          have RES : Aside (∃ d', SWK encT k w0 blk off d' w9 ∧ PermIn a b d d' ∧ So ltT tgT a b d') := ⟨d3, S9, permIn_trans _ _ _ _ _ PA.out (permIn_wide (by omega) (by omega) (by rw [PA.out.1, DZ.out]; exact h3) P9), whole (by omega) (by rw [PD1.out.1, DZ.out]; exact h3) HX.out P3.out SM.out P9 SO9⟩
          clear CR S9 P9 SO9
          clear SE1 SE2 TE PA PD1 HX P3 SM A1 A2 A3 A4 T1 T2 IH
          go_wp2
          exact ⟨rfl, _, results_none rfl _ _ _, rfl, RES.out⟩
        · have u1 : decide ((a : Int) < (s : Int)) = false := decide_eq_false (by omega)
          have SM : Hid (So ltT tgT a mid d1) := by
            show So _ _ _ _ _
            have hA2 := A2.out
            rw [show s = a by omega] at hA2
            exact hA2
          have P3 : Hid (PermIn a mid d1 d1) := permIn_refl _ _ _
          have SE1 := Lib.hid A3.out
          have SE2 := Lib.hid A4.out
          have TE := Lib.hid T2.out
          have PA := Lib.hid PD1.out
          rcases (show (mid < e ∧ e < b) ∨ (mid < e ∧ e ≤ b ∧ b ≤ e) by omega) with ⟨q1, q2⟩ | ⟨q1, q2, q3⟩
          · have v1 : decide ((mid : Int) < (e : Int)) = true := decide_eq_true (by omega)
            have v2 : decide ((e : Int) < (b : Int)) = true := decide_eq_true (by omega)
            have CR := Lib.hid (IH.out mid e b d1 w7 (by omega) (by rw [PA.out.1]; exact DZ.out) S7a.out q1 q2 h3 SE1.out SE2.out TE.out)
            go_wp2_with fail
            refine CR.out.mono ?_
            rintro e9 w9 ⟨rfl, d3, S9, P9, SO9⟩
            have RES : Aside (∃ d', SWK encT k w0 blk off d' w9 ∧ PermIn a b d d' ∧ So ltT tgT a b d') := ⟨d3, S9, permIn_trans _ _ _ _ _ PA.out (permIn_wide (by omega) (by omega) (by rw [PA.out.1, DZ.out]; exact h3) P9), whole (by omega) (by rw [PD1.out.1, DZ.out]; exact h3) HX.out P3.out SM.out P9 SO9⟩
            clear CR S9 P9 SO9
            clear SE1 SE2 TE PA PD1 HX P3 SM A1 A2 A3 A4 T1 T2 IH
            go_wp2
            exact ⟨rfl, _, results_none rfl _ _ _, rfl, RES.out⟩
          · have v1 : decide ((mid : Int) < (e : Int)) = true := decide_eq_true (by omega)
            have v2 : decide ((e : Int) < (b : Int)) = false := decide_eq_false (by omega)
            have SO9 : So ltT tgT mid b d1 := by
              have hE := SE1.out
              rw [show e = b by omega] at hE
              exact hE
            have RES : Aside (∃ d', SWK encT k w0 blk off d' w7 ∧ PermIn a b d d' ∧ So ltT tgT a b d') := ⟨d1, S7a.out, PA.out, whole (by omega) (by rw [PD1.out.1, DZ.out]; exact h3) HX.out P3.out SM.out (permIn_refl _ _ _) SO9⟩
            clear SO9
            clear SE1 SE2 TE PA PD1 HX P3 SM A1 A2 A3 A4 T1 T2 IH
            go_wp2
            exact ⟨rfl, _, results_none rfl _ _ _, rfl, RES.out⟩
      · have x1 : decide ((s : Int) < (m : Int)) = false := decide_eq_false (by omega)
        have V7 : ∀ q, d[q]! = rotF d s m e q := fun q => by
          unfold rotF
          repeat' split
          all_goals first | rfl | (exfalso; omega) | (congr 1; omega)
        obtain ⟨a1, a2, a3, a4, a5, a6, a7⟩ := halves swoT (d := d) (d1 := d) (a := a) (m := m) (b := b) (s := s) (e := e) (mid := mid) (by omega) (by omega) (by omega) (by omega) (by omega) SO1.out SO2.out TT.out E1.out E2.out V7
        have PD1 : Hid (PermIn a b d d) := permIn_refl _ _ _
        have A1 := Lib.hid a1
        have A2 := Lib.hid a2
        have T1 := Lib.hid a3
        have A3 := Lib.hid a4
        have A4 := Lib.hid a5
        have T2 := Lib.hid a6
        have HX := Lib.hid a7
        clear a1 a2 a3 a4 a5 a6 a7
        clear V7 E1 E2
        rcases (show (a < s ∧ s < mid) ∨ (a < s ∧ s ≤ mid ∧ mid ≤ s) by omega) with ⟨p1, p2⟩ | ⟨p1, p2, p3⟩
        · have u1 : decide ((a : Int) < (s : Int)) = true := decide_eq_true (by omega)
          have u2 : decide ((s : Int) < (mid : Int)) = true := decide_eq_true (by omega)
          have CLF := Lib.hid (IH.out a s mid d wr (by omega) (by rw [PD1.out.1]; exact DZ.out) S1.out p1 p2 (by omega) A1.out A2.out T1.out)
          go_wp2_with fail
          refine CLF.out.mono ?_
          rintro e8 w8 ⟨rfl, d2, S8, P8, SO8⟩
          have S8a : Aside (SWK encT k w0 blk off d2 w8) := S8
          have P3 := Lib.hid P8
          have SM := Lib.hid SO8
          have SE1 := Lib.hid (so_congr A3.out fun q q1 q2 => P8.2.1 q (.inr q1))
          have SE2 := Lib.hid (so_congr A4.out fun q q1 q2 => P8.2.1 q (.inr (by omega)))
          have TE : Hid (Tg tgT mid e b d2) := fun i j i1 i2 i3 i4 => by rw [P8.2.1 i (.inr i1), P8.2.1 j (.inr (by omega))]; exact T2.out i j i1 i2 i3 i4
          have PA := Lib.hid (permIn_trans _ _ _ _ _ PD1.out (permIn_wide (Nat.le_refl _) (by omega) (by rw [PD1.out.1, DZ.out]; exact h3) P8))
          clear CLF S8 P8 SO8 S1
          obtain ⟨q1, q2⟩ : (e ≤ mid ∧ mid ≤ e) := by omega
          have v1 : decide ((mid : Int) < (e : Int)) = false := decide_eq_false (by omega)
          have SO9 : So ltT tgT mid b d2 := by
            have hE := SE2.out
            rw [show e = mid by omega] at hE
            exact hE
          have RES : Aside (∃ d', SWK encT k w0 blk off d' w8 ∧ PermIn a b d d' ∧ So ltT tgT a b d') := ⟨d2, S8a.out, PA.out, whole (by omega) (by rw [PD1.out.1, DZ.out]; exact h3) HX.out P3.out SM.out (permIn_refl _ _ _) SO9⟩
          clear SO9
          clear SE1 SE2 TE PA PD1 HX P3 SM A1 A2 A3 A4 T1 T2 IH
          go_wp2
          exact ⟨rfl, _, results_none rfl _ _ _, rfl, RES.out⟩
        · have u1 : decide ((a : Int) < (s : Int)) = true := decide_eq_true (by omega)
          have u2 : decide ((s : Int) < (mid : Int)) = false := decide_eq_false (by omega)
          have SM : Hid (So ltT tgT a mid d) := by
            show So _ _ _ _ _
            have hA1 := A1.out
            rw [show s = mid by omega] at hA1
            exact hA1
          have P3 : Hid (PermIn a mid d d) := permIn_refl _ _ _
          have SE1 := Lib.hid A3.out
          have SE2 := Lib.hid A4.out
          have TE := Lib.hid T2.out
          have PA := Lib.hid PD1.out
          obtain ⟨q1, q2⟩ : (e ≤ mid ∧ mid ≤ e) := by omega
          have v1 : decide ((mid : Int) < (e : Int)) = false := decide_eq_false (by omega)
          have SO9 : So ltT tgT mid b d := by
            have hE := SE2.out
            rw [show e = mid by omega] at hE
            exact hE
          have RES : Aside (∃ d', SWK encT k w0 blk off d' wr ∧ PermIn a b d d' ∧ So ltT tgT a b d') := ⟨d, S1.out, PA.out, whole (by omega) (by rw [PD1.out.1, DZ.out]; exact h3) HX.out P3.out SM.out (permIn_refl _ _ _) SO9⟩
          clear SO9
          clear SE1 SE2 TE PA PD1 HX P3 SM A1 A2 A3 A4 T1 T2 IH
          go_wp2
          exact ⟨rfl, _, results_none rfl _ _ _, rfl, RES.out⟩
theorem symMerge_step (k : Nat) (zE : ∀ w, (Go.sizeOf 31).run Tryd.prog w = .ok k w) (g : Nat) (cb : Array Value) (eg : ∀ args w, (callFunc g args).run Tryd.prog w = .ok (.enter g args) w) (blk off cap N : Nat) (d0 : Array TE) (w0 : World) (hcmp : CmpLays Tryd.prog g cb encT k cfT blk off d0.size w0) (R : RowK encT k w0 blk off d0) (hN0 : d0.size = N) (hsz : N < 4611686018427387904)
    (HROT : RotC k g cb blk off cap N w0) (fuel : Nat) (ih : MergeC k g cb blk off cap N w0 fuel) : MergeC k g cb blk off cap N w0 (fuel + 1) := by
  intro a m b d w hf hd S h1 h2 h3 s1 s2 tt
  by_cases c1 : m = a + 1
  · exact merge_one k zE g cb eg blk off cap N d0 w0 hcmp R hN0 hsz HROT fuel ih a m b d w hf hd S h1 h2 h3 s1 s2 tt c1
  by_cases c2 : b = m + 1
  · exact merge_last k zE g cb eg blk off cap N d0 w0 hcmp R hN0 hsz HROT fuel ih a m b d w hf hd S h1 h2 h3 s1 s2 tt c1 c2
  rcases Nat.lt_or_ge ((a + b) / 2) m with c3 | c3
  · exact merge_a k zE g cb eg blk off cap N d0 w0 hcmp R hN0 hsz HROT fuel ih a m b d w hf hd S h1 h2 h3 s1 s2 tt c1 c2 c3
  · exact merge_b k zE g cb eg blk off cap N d0 w0 hcmp R hN0 hsz HROT fuel ih a m b d w hf hd S h1 h2 h3 s1 s2 tt c1 c2 c3
theorem symMerge_any (k : Nat) (zE : ∀ w, (Go.sizeOf 31).run Tryd.prog w = .ok k w) (g : Nat) (cb : Array Value) (eg : ∀ args w, (callFunc g args).run Tryd.prog w = .ok (.enter g args) w) (blk off cap N : Nat) (d0 : Array TE) (w0 : World) (hcmp : CmpLays Tryd.prog g cb encT k cfT blk off d0.size w0) (R : RowK encT k w0 blk off d0) (hN0 : d0.size = N) (hsz : N < 4611686018427387904)
    (HROT : RotC k g cb blk off cap N w0) : ∀ fuel, MergeC k g cb blk off cap N w0 fuel
  | 0 => fun a m b d w hf hd S h1 h2 h3 s1 s2 tt => absurd hf (by omega)
  | fuel + 1 => symMerge_step k zE g cb eg blk off cap N d0 w0 hcmp R hN0 hsz HROT fuel (symMerge_any k zE g cb eg blk off cap N d0 w0 hcmp R hN0 hsz HROT fuel)
end Go.Proofs.YtpcmminokhmkjaaDoor.St
