/-
  The contract of slices' CompactFunc at entries, under the equality of keys: of those of one key that stand together, the first is kept. Conditions: each law's own.
-/
import Derived.Test.YtpcmminokhmkjaaDoorSg
namespace Go.Proofs.YtpcmminokhmkjaaDoor.St
open Go.Shelf Go.RowKit Go.Lib Go.Sort
set_option maxHeartbeats 8000000 in
set_option maxRecDepth 1000000 in
theorem compact_k (k : Nat) (zE : ∀ w, (Go.sizeOf 31).run Tryd.prog w = .ok k w) (blk off cap N : Nat) (d : Array TE) (w0 w : World) (R : RowK encT k w0 blk off d) (hN : d.size = N) (hcap : N ≤ cap) (hsz : N < 2305843009213693952) (S : SWK encT k w0 blk off d w)
    (hclr : ∀ (W : World) (c : Nat) (dk : Array TE) (i : Nat) (ty : TypeId), dk.size = N → HoldsK encT k W blk off dk → i < N → (Builtin.clear_ #[22] ty #[.slice (some ⟨blk, off + i * k, none⟩) (N - i) c]).run Tryd.prog W = .ok (.tuple #[]) (W.setCells blk (off + i * k) (flatK encT k (Array.replicate (N - i) z0)).toList)) :
    Calls Tryd.prog 22 #[.slice (some ⟨blk, off, none⟩) N cap, .func (.func 23) #[] #[]] w fun e w' => ∃ d', SWK encT k w0 blk off d' w' ∧ e = .returned (.slice (some ⟨blk, off, none⟩) (kp d N).length cap) ∧ d'.size = N ∧ ∀ q, q < (kp d N).length → d'[q]! = (kp d N)[q]! := by
  have DZ : Aside (d.size = N) := hN
  have S0 : Aside (SWK encT k w0 blk off d w) := S
  have HCL := Lib.hid hclr
  have eg : ∀ args w, (callFunc 23 args).run Tryd.prog w = .ok (.enter 23 args) w := enters_of Tryd.func23 (by decide) rfl
  have mixed : Tryd.prog.follows Departure.mixedOrders = true := by kernel_rfl
  clear hN S hclr
  rcases Nat.lt_or_ge N 2 with h2 | h2
  · have hd2 : decide ((N : Int) < 2) = true := decide_eq_true (by omega)
    have KA : Hid (kp d N = (List.range N).map fun i => d[i]!) := kp_all fun q hq => by
      have : q = 0 := by omega
      subst this
      rfl
    have KL : Hid ((kp d N).length = N) := by show _ = _; rw [KA.out]; simp
    go_enter Tryd.func22, Tryd.ntmps22
    go_wp2
    go_ret
    exact ⟨d, S0.out, by rw [KL.out]; rfl, DZ.out, fun q hq => by rw [KL.out] at hq; rw [KA.out]; simp [hq]⟩
  have hd2 : decide ((N : Int) < 2) = false := decide_eq_false (by omega)
  go_enter Tryd.func22, Tryd.ntmps22
  go_wp2_with fail
  go_loopg [5] N (fun kx s5 wr => ∃ (i : Nat), s5 = .int .i64 i ∧ 1 ≤ i ∧ i ≤ N ∧ N - i ≤ kx ∧ Aside (SWK encT k w0 blk off d wr) ∧ Hid (∀ q, q < i → hd d q = true))
  case atStart => exact ⟨1, rfl, Nat.le_refl _, by omega, by omega, S0, fun q hq => by
    have : q = 0 := by omega
    subst this
    rfl⟩
  case round =>
    clear S0
    obtain ⟨i, rfl, hi1, hiN, hkx, S1, HA⟩ := hrel
    by_cases hlt : i < N
    · have hltz : (i : Int) < (N : Int) := by omega
      obtain ⟨p, hp⟩ : ∃ p, p = i - 1 := ⟨_, rfl⟩
      have pI : (i : Int) - 1 = (p : Int) := by omega
      have p1 : p + 1 ≤ i := by omega
      have p2 : i ≤ p + 1 := by omega
      have HP := Lib.hid hp
      clear hp
      have ea1 : ((i : Int)).toNat = i := by omega
      have pa1 : (0 : Int) ≤ (i : Int) := by omega
      have ba1 : (i : Int) < (N : Int) := by omega
      have ec1 : ((p : Int)).toNat = p := by omega
      have pc1 : (0 : Int) ≤ (p : Int) := by omega
      have bc1 : (p : Int) < (N : Int) := by omega
      have rc1 : IntKind.i64.wrap ((p : Int)) = (p : Int) := by rw [IntKind.wrap_i64]; omega
      obtain ⟨x1, hx1⟩ : ∃ x, x = d[i]! := ⟨_, rfl⟩
      obtain ⟨y1, hy1⟩ : ∃ x, x = d[p]! := ⟨_, rfl⟩
      have l1a := S1.out.ld R rfl Tryd.prog i (by rw [DZ.out]; omega)
      have l1b := S1.out.ld R rfl Tryd.prog p (by rw [DZ.out]; omega)
      rw [← hx1] at l1a
      rw [← hy1] at l1b
      have hc1 : ∀ n os, Calls Tryd.prog 23 #[.agg (encT x1).toArray, .agg (encT y1).toArray] (grow (wr.drewN n) os) fun e w' => e = .returned (.bool (x1.1.key.toList == y1.1.key.toList)) ∧ ∃ q os', w' = grow ((grow (wr.drewN n) os).drewN q) os' := fun n os => closure23 x1.1 y1.1 _
      have HD : Hid (hd d i = !(x1.1.key.toList == y1.1.key.toList)) := by
        show hd d i = _
        unfold hd
        rw [← HP.out, ← hx1, ← hy1, show (i == 0) = false by simp; omega, Bool.false_or]
      clear hx1 hy1
      cases hdup : (x1.1.key.toList == y1.1.key.toList) with
      | false =>
        rw [hdup] at hc1
        have HX : Hid (∀ q, q < i + 1 → hd d q = true) := fun q hq => by
          rcases Nat.lt_or_eq_of_le (Nat.le_of_lt_succ hq) with c | rfl
          · exact HA.out q c
          · rw [HD.out, hdup]; rfl
        clear HD hdup HA
        go_wp2_with fail
        go_quiet_grown (first | (go_at_fn 23; refine Calls.grown_of (hc1 _ _)))
        have S2 : Aside (SWK encT k w0 blk off d (grow (wr.drewN nq) osq)) := S1.out.grown nq osq
        clear l1a l1b hc1 S1
        generalize grow (wr.drewN nq) osq = w2 at S2 ⊢
        clear nq osq
        go_wp2
        go_roundg (N - (i + 1))
        case measure => omega
        case rel => exact ⟨i + 1, by go_num, by omega, by omega, Nat.le_refl _, S2, HX⟩
      | true =>
        rw [hdup] at hc1
        have CI : Hid (CInv d (i + 1) i d) := cinv_start HA.out (by rw [HD.out, hdup]; rfl)
        clear HD hdup HA
        have ra1 : IntKind.i64.wrap ((i : Int)) = (i : Int) := by rw [IntKind.wrap_i64]; omega
        go_wp2_with fail
        go_quiet_grown (first | (go_at_fn 23; refine Calls.grown_of (hc1 _ _)))
        have S2 : Aside (SWK encT k w0 blk off d (grow (wr.drewN nq) osq)) := S1.out.grown nq osq
        clear l1a l1b hc1 S1
        generalize grow (wr.drewN nq) osq = w2 at S2 ⊢
        clear nq osq pI p1 p2 HP ec1 pc1 bc1 rc1
        go_wp2_with fail
        have iI : ((N : Int) - (i : Int)) = ((N - i : Nat) : Int) := by omega
        have hci : i ≤ cap := by omega
        have st0 : i < i + 1 := Nat.lt_succ_self i
        go_loopg [5, 7] N (fun ky s5 s7 wr => ∃ (t j : Nat) (dk : Array TE), s5 = .int .i64 t ∧ s7 = .int .i64 j ∧ 1 ≤ j ∧ i + j ≤ N ∧ N - (i + j) ≤ ky ∧ t < i + j ∧ Aside (SWK encT k w0 blk off dk wr) ∧ Hid (CInv d (i + j) t dk))
        case atStart => exact ⟨i, 1, d, rfl, rfl, Nat.le_refl _, by omega, by omega, st0, S2, CI⟩
        case round =>
          clear S2 CI st0
          obtain ⟨t, j, dk, rfl, rfl, hj1, hij, hky, htj, S3, CI⟩ := hrel
          have DK : Aside (dk.size = N) := CI.out.size.trans DZ.out
          by_cases hlt2 : j < N - i
          · have hltz2 : (j : Int) < ((N - i : Nat) : Int) := by omega
            have hd3 : decide ((j : Int) < ((N - i : Nat) : Int)) = true := decide_eq_true hltz2
            obtain ⟨p, hp⟩ : ∃ p, p = j - 1 := ⟨_, rfl⟩
            have pI : (j : Int) - 1 = (p : Int) := by omega
            have p1 : p + 1 ≤ j := by omega
            have p2 : j ≤ p + 1 := by omega
            clear hp
            have ea2 : ((j : Int)).toNat = j := by omega
            have pa2 : (0 : Int) ≤ (j : Int) := by omega
            have ec1 : ((p : Int)).toNat = p := by omega
            have pc1 : (0 : Int) ≤ (p : Int) := by omega
            have bc1 : (p : Int) < ((N - i : Nat) : Int) := by omega
            have rc1 : IntKind.i64.wrap ((p : Int)) = (p : Int) := by rw [IntKind.wrap_i64]; omega
            have et1 : ((t : Int)).toNat = t := by omega
            have pt1 : (0 : Int) ≤ (t : Int) := by omega
            have bt1 : (t : Int) < (N : Int) := by omega
            obtain ⟨x1, hx1⟩ : ∃ x, x = d[i + j]! := ⟨_, rfl⟩
            obtain ⟨y1, hy1⟩ : ∃ x, x = d[i + p]! := ⟨_, rfl⟩
            have l1a := S3.out.ld R (CI.out.size) Tryd.prog (i + j) (by rw [DK.out]; omega)
            have l1b := S3.out.ld R (CI.out.size) Tryd.prog (i + p) (by rw [DK.out]; omega)
            rw [CI.out.high (i + j) (by omega), ← hx1, Nat.add_mul, ← Nat.add_assoc] at l1a
            rw [CI.out.high (i + p) (by omega), ← hy1, Nat.add_mul, ← Nat.add_assoc] at l1b
            have hc1 : ∀ n os, Calls Tryd.prog 23 #[.agg (encT x1).toArray, .agg (encT y1).toArray] (grow (wr.drewN n) os) fun e w' => e = .returned (.bool (x1.1.key.toList == y1.1.key.toList)) ∧ ∃ q os', w' = grow ((grow (wr.drewN n) os).drewN q) os' := fun n os => closure23 x1.1 y1.1 _
            have HD : Hid (hd d (i + j) = !(x1.1.key.toList == y1.1.key.toList)) := by
              show hd d (i + j) = _
              unfold hd
              rw [show i + j - 1 = i + p by omega, ← hx1, ← hy1, show (i + j == 0) = false by simp; omega, Bool.false_or]
            have HX : Hid (x1 = d[i + j]!) := hx1
            clear hx1 hy1
            cases hdup : (x1.1.key.toList == y1.1.key.toList) with
            | true =>
              rw [hdup] at hc1
              have CI2 : Hid (CInv d (i + (j + 1)) t dk) := show CInv d (i + j + 1) t dk from cinv_skip CI.out (by rw [HD.out, hdup]; rfl)
              clear HD hdup
              go_wp2_with fail
              go_quiet_grown (first | (go_at_fn 23; refine Calls.grown_of (hc1 _ _)))
              have S4 : Aside (SWK encT k w0 blk off dk (grow (wr.drewN nq) osq)) := S3.out.grown nq osq
              clear l1a l1b hc1 S3 CI
              generalize grow (wr.drewN nq) osq = w5 at S4 ⊢
              clear nq osq
              go_wp2
              go_roundg (N - (i + (j + 1)))
              case measure => omega
              case rel => exact ⟨t, j + 1, dk, rfl, by go_num, by omega, by omega, Nat.le_refl _, by omega, S4, CI2⟩
            | false =>
              rw [hdup] at hc1
              have CI2 : Hid (CInv d (i + (j + 1)) (t + 1) (layA dk t #[x1])) := by
                rw [HX.out]
                exact show CInv d (i + j + 1) (t + 1) _ from cinv_keep CI.out (by rw [HD.out, hdup]; rfl) (by rw [DZ.out]; omega)
              clear HD hdup
              go_wp2_with fail
              go_quiet_grown (first | (go_at_fn 23; refine Calls.grown_of (hc1 _ _)))
              have S4 : Aside (SWK encT k w0 blk off dk (grow (wr.drewN nq) osq)) := S3.out.grown nq osq
              clear l1a l1b hc1 S3
              generalize grow (wr.drewN nq) osq = w5 at S4 ⊢
              clear nq osq
              have l2a := S4.out.load R (CI.out.size) Tryd.prog (i + j) (by rw [DK.out]; omega)
              rw [CI.out.high (i + j) (by omega), ← HX.out, Nat.add_mul, ← Nat.add_assoc] at l2a
              have S5 : Aside (SWK encT k w0 blk off (layA dk t #[x1]) (w5.setCells blk (off + t * k) (encT x1))) := swk_put S4.out R t x1 (by rw [DK.out]; omega)
              have s2a := stores_of_holds Tryd.prog (S4.out.holds R.hblk R.hH CI.out.size) (t * k) (encT x1) (by rw [R.hk, size_flatK, DK.out]; have := Nat.mul_le_mul_right k (show t + 1 ≤ N by omega); rwa [Nat.add_mul, Nat.one_mul] at this) (R.h1 _)
              have nxa : (encT x1).length = k := R.hk _
              clear CI HX
              generalize encT x1 = cX at l2a S5 s2a nxa ⊢
              generalize layA dk t #[x1] = dk2 at S5 CI2 ⊢
              clear S4
              go_wp2
              generalize w5.setCells blk (off + t * k) cX = w6 at S5 ⊢
              go_roundg (N - (i + (j + 1)))
              case measure => omega
              case rel => exact ⟨t + 1, j + 1, dk2, by go_num, by go_num, by omega, by omega, Nat.le_refl _, by omega, S5, CI2⟩
          · have hltz2 : ¬ (j : Int) < ((N - i : Nat) : Int) := by omega
            have hd3 : decide ((j : Int) < ((N - i : Nat) : Int)) = false := decide_eq_false hltz2
            have et1 : ((t : Int)).toNat = t := by omega
            have pt1 : (0 : Int) ≤ (t : Int) := by omega
            have bt1 : (t : Int) < (N : Int) := by omega
            have bt3 : (t : Int) ≤ (N : Int) := by omega
            have tc : t ≤ cap := by omega
            have tcz : (t : Int) ≤ (cap : Int) := by omega
            have CE : Hid (CInv d N t dk) := by
              have := CI.out
              rwa [show i + j = N by omega] at this
            have hcl := fun ty => HCL.out wr (cap - t) dk t ty DK.out (S3.out.holds R.hblk R.hH CI.out.size) (by omega)
            have S5 : Aside (SWK encT k w0 blk off (layA dk t (Array.replicate (N - t) z0)) (wr.setCells blk (off + t * k) (flatK encT k (Array.replicate (N - t) z0)).toList)) := swk_lay S3.out R.hblk t _ (by rw [Array.size_replicate, DK.out]; omega)
            clear CI S3
            generalize (flatK encT k (Array.replicate (N - t) z0)).toList = cZ at hcl S5 ⊢
            go_wp2
            go_ret
            have L := CE.out.len
            refine ⟨_, S5.out, by rw [L]; rfl, by rw [size_layA]; exact DK.out, fun q hq => ?_⟩
            rw [L] at hq
            rw [get_layA _ _ _ _ (by rw [DK.out]; omega), if_neg (by omega)]
            have hq2 := CE.out.low q hq
            simpa using hq2
    · have hltz : ¬ (i : Int) < (N : Int) := by omega
      have eN : i = N := by omega
      have KA : Hid (kp d N = (List.range N).map fun i => d[i]!) := kp_all (by rw [← eN]; exact HA.out)
      have KL : Hid ((kp d N).length = N) := by show _ = _; rw [KA.out]; simp
      clear eN
      go_wp2
      go_ret
      exact ⟨d, S1.out, by rw [KL.out]; rfl, DZ.out, fun q hq => by rw [KL.out] at hq; rw [KA.out]; simp [hq]⟩
theorem compact_any (blk off cap N : Nat) (d : Array TE) (w0 w : World) (R : RW w0 blk off d) (hN : d.size = N) (hcap : N ≤ cap) (hsz : N < 2305843009213693952) (S : SW w0 blk off d w) :
    Calls Tryd.prog 22 #[.slice (some ⟨blk, off, none⟩) N cap, .func (.func 23) #[] #[]] w fun e w' => ∃ d', SW w0 blk off d' w' ∧ e = .returned (.slice (some ⟨blk, off, none⟩) (kp d N).length cap) ∧ d'.size = N ∧ ∀ q, q < (kp d N).length → d'[q]! = (kp d N)[q]! :=
  compact_k 5 Tryd.sizeOf31 blk off cap N d w0 w R hN hcap hsz S (fun W c dk i ty h1 h2 h3 => run_clear22 W blk off N c dk h1 h2 i h3 ty)
set_option maxRecDepth 100000 in
theorem compact_none (p : Option Addr) (cap : Nat) (fv : Value) (w : World) :
    Calls Tryd.prog 22 #[.slice p 0 cap, fv] w fun e w' => e = .returned (.slice p 0 cap) ∧ w' = w := by
  go_enter Tryd.func22, Tryd.ntmps22
  go_wp2
  go_ret
  exact ⟨rfl, rfl⟩
end Go.Proofs.YtpcmminokhmkjaaDoor.St
