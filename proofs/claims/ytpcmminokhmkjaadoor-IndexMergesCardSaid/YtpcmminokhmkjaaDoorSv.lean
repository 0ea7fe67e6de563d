/-
  The contract of the document's own Check. Conditions: each law's own.
-/
import Derived.Test.YtpcmminokhmkjaaDoorSo
import Derived.Test.YtpcmminokhmkjaaDoorLz
import Derived.Test.YtpcmminokhmkjaaDoorKy
namespace Go.Proofs.YtpcmminokhmkjaaDoor.St
open Go.Shelf Go.RowKit Go.Lib Go.Sort
theorem okE_no (k : ByteArray) (a b c d : Int) (h : ¬ (0 ≤ a ∧ a < 62 ∧ 0 ≤ b ∧ b < 16384 ∧ 1 ≤ c ∧ c ≤ 16384 ∧ 0 ≤ d ∧ d ≤ 2147483648)) : okE ⟨k, a, b, c, d⟩ = false := by
  unfold okE bnd
  rw [decide_eq_false, Bool.and_false]
  intro he
  injection he with _ h1 h2 h3 h4
  apply h
  omega
theorem okE_yes (k : ByteArray) (a b c d : Int) (hk : (Sh.keyBytes k.data.toList).isSome = true) (h1 : 0 ≤ a) (h2 : a < 62) (h3 : 0 ≤ b) (h4 : b < 16384) (h5 : 1 ≤ c) (h6 : c ≤ 16384) (h7 : 0 ≤ d) (h8 : d ≤ 2147483648) : okE ⟨k, a, b, c, d⟩ = true := by
  unfold okE bnd
  simp only
  rw [hk, decide_eq_true]
  · rfl
  · rw [show min (max a 0) 61 = a by omega, show min (max b 0) 16383 = b by omega, show min (max c 1) 16384 = c by omega, show min (max d 0) 2147483648 = d by omega]
attribute [local irreducible] Go.Region.wanted
set_option maxHeartbeats 40000000 in
set_option maxRecDepth 100000 in
theorem refcheck_some (b o n cap : Nat) (l : List Ent) (w : World) (hb : b < w.heap.size) (hc : ∀ j u, (cs l)[j]? = some u → w.cell? ⟨b, o + j, none⟩ = some u) (hn : l.length = n) (hn2 : n ≤ 1099511627776) (hk : ∀ i, i < n → l[i]!.key.size ≤ 9223372036854775807) :
    Calls Tryd.prog 26 #[.slice (some ⟨b, o, none⟩) n cap] w fun e w' => e = .returned (.bool (chk l)) ∧ Below w.heap.size w w' := by
  have HN := Lib.hid hn
  have HK := Lib.hid hk
  have HR := Lib.hid (fun (k : ByteArray) (hz : k.size ≤ 9223372036854775807) (W : World) => Sh.refcheck_key k W hz)
  have HC : Hid (∀ W, Below w.heap.size w W → ∀ i, i < n → ∀ c u, (encE l[i]!)[c]? = some u → W.cell? ⟨b, o + i * 5 + c, none⟩ = some u) := fun W hW i hi c u hu => by
    rw [hW.cell (p := ⟨b, o + i * 5 + c, none⟩) hb, Nat.add_assoc]
    exact hc _ _ (cs_get l i (by omega) c u hu)
  have mixed : Tryd.prog.follows Departure.mixedOrders = true := by kernel_rfl
  have G0 : Hid (Below w.heap.size w w) := Below.refl _ w
  have L0 : Hid (chkN l 0 = true) := rfl
  clear hn hk hc
  go_enter Tryd.func26, Tryd.ntmps26
  go_wp2_with fail
  go_loopg [3, 22] n (fun kx s3 s22 wr => ∃ (i : Nat), s3 = .int .i64 i ∧ i ≤ n ∧ n - i ≤ kx ∧ Hid (Below w.heap.size w wr) ∧ Hid (chkN l i = true) ∧ Hid (s22 = undef ∨ s22 = .bool false ∨ (s22 = .bool true ∧ 0 < i)))
  case atStart => exact ⟨0, rfl, Nat.zero_le _, by omega, G0, L0, .inl rfl⟩
  case round =>
    clear G0 L0
    obtain ⟨i, rfl, hin, hkx, G1, L1, H22⟩ := hrel
    have B1' := G1
    by_cases hlt : i < n
    · have hltz : (i : Int) < (n : Int) := by omega
      have hd1 : decide ((i : Int) < (n : Int)) = true := decide_eq_true hltz
      have hd2 : decide (i < n) = true := decide_eq_true hlt
      have pa1 : (0 : Int) ≤ (i : Int) := by omega
      have hcell := HC.out wr G1.out i hlt
      have hz := HK.out i hlt
      obtain ⟨x, hx⟩ : ∃ x, x = l[i]! := ⟨_, rfl⟩
      rw [← hx] at hcell hz
      have HX := Lib.hid hx
      clear hx
      have hR := HR.out x.key hz
      have hok : Hid (kP l i = (okE x && (i == 0 || kl l[i - 1]!.key x.key))) := by show _ = _; rw [kP, ← HX.out]
      obtain ⟨key, p1, p2, p3, p4⟩ := x
      simp only at hR
      have x0 := hcell 0 _ rfl
      have x1 := hcell 1 _ rfl
      have x2 := hcell 2 _ rfl
      have x3 := hcell 3 _ rfl
      have x4 := hcell 4 _ rfl
      simp only [Nat.add_zero] at x0
      clear hcell
      obtain ⟨W1, hW1⟩ : ∃ W1, W1 = wr.alloc (.cells #[.string key, .int .i64 p1, .int .i64 p2, .int .i64 p3, .int .i64 p4] 31) := ⟨_, rfl⟩
      have B1 : Hid (Below w.heap.size w W1) := by rw [hW1]; exact G1.out.alloc G1.out.size _
      have lt1 : wr.heap.size < W1.heap.size := by rw [hW1]; simp
      have CL : Hid (∀ j u, (encE ⟨key, p1, p2, p3, p4⟩)[j]? = some u → W1.cell? ⟨wr.heap.size, j, none⟩ = some u) := fun j u hj => by
        rw [hW1]
        simp only [encE] at hj
        rw [World.cell?_alloc_new]
        simpa using hj
      go_wp2_with fail
      rw [← hW1]
      clear hW1
      have bx : ∀ N os j u, (encE ⟨key, p1, p2, p3, p4⟩)[j]? = some u → (Lz.loo W1 N os).cell? ⟨wr.heap.size, j, none⟩ = some u := fun N os j u hj => by
        rw [(Lz.loo_below W1 N os).cell (p := ⟨wr.heap.size, j, none⟩) lt1]
        exact CL.out j u hj
      have y0 : ∀ N os, (Lz.loo W1 N os).cell? ⟨wr.heap.size, 0, none⟩ = some (.string key) := fun N os => bx N os 0 _ rfl
      have y1 : ∀ N os, (Lz.loo W1 N os).cell? ⟨wr.heap.size, 1, none⟩ = some (.int .i64 p1) := fun N os => bx N os 1 _ rfl
      have y2 : ∀ N os, (Lz.loo W1 N os).cell? ⟨wr.heap.size, 2, none⟩ = some (.int .i64 p2) := fun N os => bx N os 2 _ rfl
      have y3 : ∀ N os, (Lz.loo W1 N os).cell? ⟨wr.heap.size, 3, none⟩ = some (.int .i64 p3) := fun N os => bx N os 3 _ rfl
      have y4 : ∀ N os, (Lz.loo W1 N os).cell? ⟨wr.heap.size, 4, none⟩ = some (.int .i64 p4) := fun N os => bx N os 4 _ rfl
      clear bx x0 x1 x2 x3 x4 B1' G1 lt1 CL
      have hR : ∀ N os, Calls Tryd.prog 39 #[.string key] (Lz.loo W1 N os) fun e w' => e = .returned (.bool (Sh.keyBytes key.data.toList).isSome) ∧ Below (Lz.loo W1 N os).heap.size (Lz.loo W1 N os) w' := fun N os => hR _

      cases hK : (Sh.keyBytes key.data.toList).isSome with
      | false =>
        simp only [hK] at hR
        have KR := Lib.hid hR
        have ko : okE ⟨key, p1, p2, p3, p4⟩ = false := by unfold okE; simp only; rw [hK]; rfl
        clear hR
        rcases H22.out with rfl | rfl | ⟨rfl, h0⟩
        · clear H22
          have CK : Hid (chk l = false) := chk_no (by rw [HN.out]; exact hlt) (by rw [hok.out, ko]; rfl)
          clear hok ko hK
          refine Lz.wp_region_quiet_loo mixed (by kernel_rfl) ?_
          repeat (quiet_step ((go_at_call 39; refine Lz.calls_loo (KR.out _ _))))
          refine wpQuiet_nil ?_
          intro _ hw'
          obtain ⟨⟨nq, osq⟩, hw''⟩ := hw'
          subst hw''
          go_wp2_with fail
          go_ret
          exact ⟨by rw [CK.out]; rfl, Sh.below_chain B1.out (Lz.loo_below _ _ _)⟩
        · clear H22
          have CK : Hid (chk l = false) := chk_no (by rw [HN.out]; exact hlt) (by rw [hok.out, ko]; rfl)
          clear hok ko hK
          refine Lz.wp_region_quiet_loo mixed (by kernel_rfl) ?_
          repeat (quiet_step ((go_at_call 39; refine Lz.calls_loo (KR.out _ _))))
          refine wpQuiet_nil ?_
          intro _ hw'
          obtain ⟨⟨nq, osq⟩, hw''⟩ := hw'
          subst hw''
          go_wp2_with fail
          go_ret
          exact ⟨by rw [CK.out]; rfl, Sh.below_chain B1.out (Lz.loo_below _ _ _)⟩
        · clear H22
          obtain ⟨p, hp⟩ : ∃ p, p = i - 1 := ⟨_, rfl⟩
          have pI : (i : Int) - 1 = (p : Int) := by omega
          have q1 : p + 1 ≤ i := by omega
          have q2 : i ≤ p + 1 := by omega
          have hg0 : decide ((0 : Int) < (i : Int)) = true := decide_eq_true (by omega)
          have pc1 : (0 : Int) ≤ (p : Int) := by omega
          have pc2 : (p : Int) < (n : Int) := by omega
          have rc1 : IntKind.i64.wrap (p : Int) = (p : Int) := by rw [IntKind.wrap_i64]; omega
          have ec1 : ((p : Int)).toNat = p := by omega
          obtain ⟨pk, hpk⟩ : ∃ pk, pk = l[p]!.key := ⟨_, rfl⟩
          have z0 : ∀ N os, (Lz.loo W1 N os).cell? ⟨b, o + p * 5, none⟩ = some (.string pk) := fun N os => by
            have := HC.out (Lz.loo W1 N os) (Sh.below_chain B1.out (Lz.loo_below _ _ _)) p (by omega) 0 (.string pk) (by rw [hpk]; rfl)
            simpa using this
          clear hp hpk
          obtain ⟨bb, hle⟩ : ∃ bb, (Op.bytesLess key.toList pk.toList || key.toList == pk.toList) = bb := ⟨_, rfl⟩
          have CK : Hid (chk l = false) := chk_no (by rw [HN.out]; exact hlt) (by rw [hok.out, ko]; rfl)
          clear hok ko hK
          refine Lz.wp_region_quiet_loo mixed (by kernel_rfl) ?_
          repeat (quiet_step ((go_at_call 39; refine Lz.calls_loo (KR.out _ _))))
          refine wpQuiet_nil ?_
          intro _ hw'
          obtain ⟨⟨nq, osq⟩, hw''⟩ := hw'
          subst hw''
          go_wp2_with fail
          go_ret
          exact ⟨by rw [CK.out]; rfl, Sh.below_chain B1.out (Lz.loo_below _ _ _)⟩
      | true =>
        simp only [hK] at hR
        have KR := Lib.hid hR
        clear hR
        rcases Nat.eq_zero_or_pos i with h0 | h0
        · have hg0 : decide ((0 : Int) < (i : Int)) = false := decide_eq_false (by omega)
          have hg1 : decide (0 < i) = false := decide_eq_false (by omega)
          have ord0 : (i == 0) = true := by rw [h0]; rfl
          rw [ord0] at hok
          clear ord0
          by_cases c0 : p1 < 0
          · have d0 : decide (p1 < 0) = true := decide_eq_true c0
            have ko : okE ⟨key, p1, p2, p3, p4⟩ = false := okE_no _ _ _ _ _ (by omega)
            have CK : Hid (chk l = false) := chk_no (by rw [HN.out]; exact hlt) (by rw [hok.out, ko]; rfl)
            clear hok ko
            refine Lz.wp_region_quiet_loo mixed (by kernel_rfl) ?_
            repeat (quiet_step ((go_at_call 39; refine Lz.calls_loo (KR.out _ _))))
            refine wpQuiet_nil ?_
            intro _ hw'
            obtain ⟨⟨nq, osq⟩, hw''⟩ := hw'
            subst hw''
            go_wp2_with fail
            go_ret
            exact ⟨by rw [CK.out]; rfl, Sh.below_chain B1.out (Lz.loo_below _ _ _)⟩
          · have d0 : decide (p1 < 0) = false := decide_eq_false c0
            by_cases c1 : 62 ≤ p1
            · have d1 : decide (62 ≤ p1) = true := decide_eq_true c1
              have ko : okE ⟨key, p1, p2, p3, p4⟩ = false := okE_no _ _ _ _ _ (by omega)
              have CK : Hid (chk l = false) := chk_no (by rw [HN.out]; exact hlt) (by rw [hok.out, ko]; rfl)
              clear hok ko
              refine Lz.wp_region_quiet_loo mixed (by kernel_rfl) ?_
              repeat (quiet_step ((go_at_call 39; refine Lz.calls_loo (KR.out _ _))))
              refine wpQuiet_nil ?_
              intro _ hw'
              obtain ⟨⟨nq, osq⟩, hw''⟩ := hw'
              subst hw''
              go_wp2_with fail
              go_ret
              exact ⟨by rw [CK.out]; rfl, Sh.below_chain B1.out (Lz.loo_below _ _ _)⟩
            · have d1 : decide (62 ≤ p1) = false := decide_eq_false c1
              by_cases c2 : p2 < 0
              · have d2 : decide (p2 < 0) = true := decide_eq_true c2
                have ko : okE ⟨key, p1, p2, p3, p4⟩ = false := okE_no _ _ _ _ _ (by omega)
                have CK : Hid (chk l = false) := chk_no (by rw [HN.out]; exact hlt) (by rw [hok.out, ko]; rfl)
                clear hok ko
                refine Lz.wp_region_quiet_loo mixed (by kernel_rfl) ?_
                repeat (quiet_step ((go_at_call 39; refine Lz.calls_loo (KR.out _ _))))
                refine wpQuiet_nil ?_
                intro _ hw'
                obtain ⟨⟨nq, osq⟩, hw''⟩ := hw'
                subst hw''
                go_wp2_with fail
                go_ret
                exact ⟨by rw [CK.out]; rfl, Sh.below_chain B1.out (Lz.loo_below _ _ _)⟩
              · have d2 : decide (p2 < 0) = false := decide_eq_false c2
                by_cases c3 : 16384 ≤ p2
                · have d3 : decide (16384 ≤ p2) = true := decide_eq_true c3
                  have ko : okE ⟨key, p1, p2, p3, p4⟩ = false := okE_no _ _ _ _ _ (by omega)
                  have CK : Hid (chk l = false) := chk_no (by rw [HN.out]; exact hlt) (by rw [hok.out, ko]; rfl)
                  clear hok ko
                  refine Lz.wp_region_quiet_loo mixed (by kernel_rfl) ?_
                  repeat (quiet_step ((go_at_call 39; refine Lz.calls_loo (KR.out _ _))))
                  refine wpQuiet_nil ?_
                  intro _ hw'
                  obtain ⟨⟨nq, osq⟩, hw''⟩ := hw'
                  subst hw''
                  go_wp2_with fail
                  go_ret
                  exact ⟨by rw [CK.out]; rfl, Sh.below_chain B1.out (Lz.loo_below _ _ _)⟩
                · have d3 : decide (16384 ≤ p2) = false := decide_eq_false c3
                  by_cases c4 : p3 < 1
                  · have d4 : decide (p3 < 1) = true := decide_eq_true c4
                    have ko : okE ⟨key, p1, p2, p3, p4⟩ = false := okE_no _ _ _ _ _ (by omega)
                    have CK : Hid (chk l = false) := chk_no (by rw [HN.out]; exact hlt) (by rw [hok.out, ko]; rfl)
                    clear hok ko
                    refine Lz.wp_region_quiet_loo mixed (by kernel_rfl) ?_
                    repeat (quiet_step ((go_at_call 39; refine Lz.calls_loo (KR.out _ _))))
                    refine wpQuiet_nil ?_
                    intro _ hw'
                    obtain ⟨⟨nq, osq⟩, hw''⟩ := hw'
                    subst hw''
                    go_wp2_with fail
                    go_ret
                    exact ⟨by rw [CK.out]; rfl, Sh.below_chain B1.out (Lz.loo_below _ _ _)⟩
                  · have d4 : decide (p3 < 1) = false := decide_eq_false c4
                    by_cases c5 : 16384 < p3
                    · have d5 : decide (16384 < p3) = true := decide_eq_true c5
                      have ko : okE ⟨key, p1, p2, p3, p4⟩ = false := okE_no _ _ _ _ _ (by omega)
                      have CK : Hid (chk l = false) := chk_no (by rw [HN.out]; exact hlt) (by rw [hok.out, ko]; rfl)
                      clear hok ko
                      refine Lz.wp_region_quiet_loo mixed (by kernel_rfl) ?_
                      repeat (quiet_step ((go_at_call 39; refine Lz.calls_loo (KR.out _ _))))
                      refine wpQuiet_nil ?_
                      intro _ hw'
                      obtain ⟨⟨nq, osq⟩, hw''⟩ := hw'
                      subst hw''
                      go_wp2_with fail
                      go_ret
                      exact ⟨by rw [CK.out]; rfl, Sh.below_chain B1.out (Lz.loo_below _ _ _)⟩
                    · have d5 : decide (16384 < p3) = false := decide_eq_false c5
                      by_cases c6 : p4 < 0
                      · have d6 : decide (p4 < 0) = true := decide_eq_true c6
                        have ko : okE ⟨key, p1, p2, p3, p4⟩ = false := okE_no _ _ _ _ _ (by omega)
                        have CK : Hid (chk l = false) := chk_no (by rw [HN.out]; exact hlt) (by rw [hok.out, ko]; rfl)
                        clear hok ko
                        refine Lz.wp_region_quiet_loo mixed (by kernel_rfl) ?_
                        repeat (quiet_step ((go_at_call 39; refine Lz.calls_loo (KR.out _ _))))
                        refine wpQuiet_nil ?_
                        intro _ hw'
                        obtain ⟨⟨nq, osq⟩, hw''⟩ := hw'
                        subst hw''
                        go_wp2_with fail
                        go_ret
                        exact ⟨by rw [CK.out]; rfl, Sh.below_chain B1.out (Lz.loo_below _ _ _)⟩
                      · have d6 : decide (p4 < 0) = false := decide_eq_false c6
                        by_cases c7 : 2147483648 < p4
                        · have d7 : decide (2147483648 < p4) = true := decide_eq_true c7
                          have ko : okE ⟨key, p1, p2, p3, p4⟩ = false := okE_no _ _ _ _ _ (by omega)
                          have CK : Hid (chk l = false) := chk_no (by rw [HN.out]; exact hlt) (by rw [hok.out, ko]; rfl)
                          clear hok ko
                          refine Lz.wp_region_quiet_loo mixed (by kernel_rfl) ?_
                          repeat (quiet_step ((go_at_call 39; refine Lz.calls_loo (KR.out _ _))))
                          refine wpQuiet_nil ?_
                          intro _ hw'
                          obtain ⟨⟨nq, osq⟩, hw''⟩ := hw'
                          subst hw''
                          go_wp2_with fail
                          go_ret
                          exact ⟨by rw [CK.out]; rfl, Sh.below_chain B1.out (Lz.loo_below _ _ _)⟩
                        · have d7 : decide (2147483648 < p4) = false := decide_eq_false c7
                          have ko : okE ⟨key, p1, p2, p3, p4⟩ = true := okE_yes _ _ _ _ _ hK (by omega) (by omega) (by omega) (by omega) (by omega) (by omega) (by omega) (by omega)
                          have CK : Hid (chkN l (i + 1) = true) := by show _ = _; rw [chkN_succ, L1.out, hok.out, ko]; rfl
                          clear hok ko
                          refine Lz.wp_region_quiet_loo mixed (by kernel_rfl) ?_
                          repeat (quiet_step ((go_at_call 39; refine Lz.calls_loo (KR.out _ _))))
                          refine wpQuiet_nil ?_
                          intro _ hw'
                          obtain ⟨⟨nq, osq⟩, hw''⟩ := hw'
                          subst hw''
                          have B2 : Hid (Below w.heap.size w (Lz.loo W1 nq osq)) := Sh.below_chain B1.out (Lz.loo_below _ _ _)
                          generalize Lz.loo W1 nq osq = w2 at B2 ⊢
                          go_wp2_with fail
                          go_roundg (n - (i + 1))
                          case measure => omega
                          case rel => exact ⟨i + 1, by go_num, by omega, Nat.le_refl _, B2, CK, .inr (.inl rfl)⟩
        · have ord0 : (i == 0) = false := by simp; omega
          rw [ord0] at hok
          clear ord0
          obtain ⟨p, hp⟩ : ∃ p, p = i - 1 := ⟨_, rfl⟩
          have pI : (i : Int) - 1 = (p : Int) := by omega
          have q1 : p + 1 ≤ i := by omega
          have q2 : i ≤ p + 1 := by omega
          have hg0 : decide ((0 : Int) < (i : Int)) = true := decide_eq_true (by omega)
          have pc1 : (0 : Int) ≤ (p : Int) := by omega
          have pc2 : (p : Int) < (n : Int) := by omega
          have rc1 : IntKind.i64.wrap (p : Int) = (p : Int) := by rw [IntKind.wrap_i64]; omega
          have ec1 : ((p : Int)).toNat = p := by omega
          obtain ⟨pk, hpk⟩ : ∃ pk, pk = l[p]!.key := ⟨_, rfl⟩
          have z0 : ∀ N os, (Lz.loo W1 N os).cell? ⟨b, o + p * 5, none⟩ = some (.string pk) := fun N os => by
            have := HC.out (Lz.loo W1 N os) (Sh.below_chain B1.out (Lz.loo_below _ _ _)) p (by omega) 0 (.string pk) (by rw [hpk]; rfl)
            simpa using this
          rw [← hp, ← hpk] at hok
          have hle : (Op.bytesLess key.toList pk.toList || key.toList == pk.toList) = !kl pk key := le_kl key pk
          clear hp hpk
          cases hkl : kl pk key with
          | false =>
            rw [hkl] at hle hok
            have CK : Hid (chk l = false) := chk_no (by rw [HN.out]; exact hlt) (by rw [hok.out]; simp)
            clear hok hK
            refine Lz.wp_region_quiet_loo mixed (by kernel_rfl) ?_
            repeat (quiet_step ((go_at_call 39; refine Lz.calls_loo (KR.out _ _))))
            refine wpQuiet_nil ?_
            intro _ hw'
            obtain ⟨⟨nq, osq⟩, hw''⟩ := hw'
            subst hw''
            go_wp2_with fail
            go_ret
            exact ⟨by rw [CK.out]; rfl, Sh.below_chain B1.out (Lz.loo_below _ _ _)⟩
          | true =>
            rw [hkl] at hle hok
            by_cases c0 : p1 < 0
            · have d0 : decide (p1 < 0) = true := decide_eq_true c0
              have ko : okE ⟨key, p1, p2, p3, p4⟩ = false := okE_no _ _ _ _ _ (by omega)
              have CK : Hid (chk l = false) := chk_no (by rw [HN.out]; exact hlt) (by rw [hok.out, ko]; rfl)
              clear hok ko
              refine Lz.wp_region_quiet_loo mixed (by kernel_rfl) ?_
              repeat (quiet_step ((go_at_call 39; refine Lz.calls_loo (KR.out _ _))))
              refine wpQuiet_nil ?_
              intro _ hw'
              obtain ⟨⟨nq, osq⟩, hw''⟩ := hw'
              subst hw''
              go_wp2_with fail
              go_ret
              exact ⟨by rw [CK.out]; rfl, Sh.below_chain B1.out (Lz.loo_below _ _ _)⟩
            · have d0 : decide (p1 < 0) = false := decide_eq_false c0
              by_cases c1 : 62 ≤ p1
              · have d1 : decide (62 ≤ p1) = true := decide_eq_true c1
                have ko : okE ⟨key, p1, p2, p3, p4⟩ = false := okE_no _ _ _ _ _ (by omega)
                have CK : Hid (chk l = false) := chk_no (by rw [HN.out]; exact hlt) (by rw [hok.out, ko]; rfl)
                clear hok ko
                refine Lz.wp_region_quiet_loo mixed (by kernel_rfl) ?_
                repeat (quiet_step ((go_at_call 39; refine Lz.calls_loo (KR.out _ _))))
                refine wpQuiet_nil ?_
                intro _ hw'
                obtain ⟨⟨nq, osq⟩, hw''⟩ := hw'
                subst hw''
                go_wp2_with fail
                go_ret
                exact ⟨by rw [CK.out]; rfl, Sh.below_chain B1.out (Lz.loo_below _ _ _)⟩
              · have d1 : decide (62 ≤ p1) = false := decide_eq_false c1
                by_cases c2 : p2 < 0
                · have d2 : decide (p2 < 0) = true := decide_eq_true c2
                  have ko : okE ⟨key, p1, p2, p3, p4⟩ = false := okE_no _ _ _ _ _ (by omega)
                  have CK : Hid (chk l = false) := chk_no (by rw [HN.out]; exact hlt) (by rw [hok.out, ko]; rfl)
                  clear hok ko
                  refine Lz.wp_region_quiet_loo mixed (by kernel_rfl) ?_
                  repeat (quiet_step ((go_at_call 39; refine Lz.calls_loo (KR.out _ _))))
                  refine wpQuiet_nil ?_
                  intro _ hw'
                  obtain ⟨⟨nq, osq⟩, hw''⟩ := hw'
                  subst hw''
                  go_wp2_with fail
                  go_ret
                  exact ⟨by rw [CK.out]; rfl, Sh.below_chain B1.out (Lz.loo_below _ _ _)⟩
                · have d2 : decide (p2 < 0) = false := decide_eq_false c2
                  by_cases c3 : 16384 ≤ p2
                  · have d3 : decide (16384 ≤ p2) = true := decide_eq_true c3
                    have ko : okE ⟨key, p1, p2, p3, p4⟩ = false := okE_no _ _ _ _ _ (by omega)
                    have CK : Hid (chk l = false) := chk_no (by rw [HN.out]; exact hlt) (by rw [hok.out, ko]; rfl)
                    clear hok ko
                    refine Lz.wp_region_quiet_loo mixed (by kernel_rfl) ?_
                    repeat (quiet_step ((go_at_call 39; refine Lz.calls_loo (KR.out _ _))))
                    refine wpQuiet_nil ?_
                    intro _ hw'
                    obtain ⟨⟨nq, osq⟩, hw''⟩ := hw'
                    subst hw''
                    go_wp2_with fail
                    go_ret
                    exact ⟨by rw [CK.out]; rfl, Sh.below_chain B1.out (Lz.loo_below _ _ _)⟩
                  · have d3 : decide (16384 ≤ p2) = false := decide_eq_false c3
                    by_cases c4 : p3 < 1
                    · have d4 : decide (p3 < 1) = true := decide_eq_true c4
                      have ko : okE ⟨key, p1, p2, p3, p4⟩ = false := okE_no _ _ _ _ _ (by omega)
                      have CK : Hid (chk l = false) := chk_no (by rw [HN.out]; exact hlt) (by rw [hok.out, ko]; rfl)
                      clear hok ko
                      refine Lz.wp_region_quiet_loo mixed (by kernel_rfl) ?_
                      repeat (quiet_step ((go_at_call 39; refine Lz.calls_loo (KR.out _ _))))
                      refine wpQuiet_nil ?_
                      intro _ hw'
                      obtain ⟨⟨nq, osq⟩, hw''⟩ := hw'
                      subst hw''
                      go_wp2_with fail
                      go_ret
                      exact ⟨by rw [CK.out]; rfl, Sh.below_chain B1.out (Lz.loo_below _ _ _)⟩
                    · have d4 : decide (p3 < 1) = false := decide_eq_false c4
                      by_cases c5 : 16384 < p3
                      · have d5 : decide (16384 < p3) = true := decide_eq_true c5
                        have ko : okE ⟨key, p1, p2, p3, p4⟩ = false := okE_no _ _ _ _ _ (by omega)
                        have CK : Hid (chk l = false) := chk_no (by rw [HN.out]; exact hlt) (by rw [hok.out, ko]; rfl)
                        clear hok ko
                        refine Lz.wp_region_quiet_loo mixed (by kernel_rfl) ?_
                        repeat (quiet_step ((go_at_call 39; refine Lz.calls_loo (KR.out _ _))))
                        refine wpQuiet_nil ?_
                        intro _ hw'
                        obtain ⟨⟨nq, osq⟩, hw''⟩ := hw'
                        subst hw''
                        go_wp2_with fail
                        go_ret
                        exact ⟨by rw [CK.out]; rfl, Sh.below_chain B1.out (Lz.loo_below _ _ _)⟩
                      · have d5 : decide (16384 < p3) = false := decide_eq_false c5
                        by_cases c6 : p4 < 0
                        · have d6 : decide (p4 < 0) = true := decide_eq_true c6
                          have ko : okE ⟨key, p1, p2, p3, p4⟩ = false := okE_no _ _ _ _ _ (by omega)
                          have CK : Hid (chk l = false) := chk_no (by rw [HN.out]; exact hlt) (by rw [hok.out, ko]; rfl)
                          clear hok ko
                          refine Lz.wp_region_quiet_loo mixed (by kernel_rfl) ?_
                          repeat (quiet_step ((go_at_call 39; refine Lz.calls_loo (KR.out _ _))))
                          refine wpQuiet_nil ?_
                          intro _ hw'
                          obtain ⟨⟨nq, osq⟩, hw''⟩ := hw'
                          subst hw''
                          go_wp2_with fail
                          go_ret
                          exact ⟨by rw [CK.out]; rfl, Sh.below_chain B1.out (Lz.loo_below _ _ _)⟩
                        · have d6 : decide (p4 < 0) = false := decide_eq_false c6
                          by_cases c7 : 2147483648 < p4
                          · have d7 : decide (2147483648 < p4) = true := decide_eq_true c7
                            have ko : okE ⟨key, p1, p2, p3, p4⟩ = false := okE_no _ _ _ _ _ (by omega)
                            have CK : Hid (chk l = false) := chk_no (by rw [HN.out]; exact hlt) (by rw [hok.out, ko]; rfl)
                            clear hok ko
                            refine Lz.wp_region_quiet_loo mixed (by kernel_rfl) ?_
                            repeat (quiet_step ((go_at_call 39; refine Lz.calls_loo (KR.out _ _))))
                            refine wpQuiet_nil ?_
                            intro _ hw'
                            obtain ⟨⟨nq, osq⟩, hw''⟩ := hw'
                            subst hw''
                            go_wp2_with fail
                            go_ret
                            exact ⟨by rw [CK.out]; rfl, Sh.below_chain B1.out (Lz.loo_below _ _ _)⟩
                          · have d7 : decide (2147483648 < p4) = false := decide_eq_false c7
                            have ko : okE ⟨key, p1, p2, p3, p4⟩ = true := okE_yes _ _ _ _ _ hK (by omega) (by omega) (by omega) (by omega) (by omega) (by omega) (by omega) (by omega)
                            have CK : Hid (chkN l (i + 1) = true) := by show _ = _; rw [chkN_succ, L1.out, hok.out, ko]; rfl
                            clear hok ko
                            refine Lz.wp_region_quiet_loo mixed (by kernel_rfl) ?_
                            repeat (quiet_step ((go_at_call 39; refine Lz.calls_loo (KR.out _ _))))
                            refine wpQuiet_nil ?_
                            intro _ hw'
                            obtain ⟨⟨nq, osq⟩, hw''⟩ := hw'
                            subst hw''
                            have B2 : Hid (Below w.heap.size w (Lz.loo W1 nq osq)) := Sh.below_chain B1.out (Lz.loo_below _ _ _)
                            generalize Lz.loo W1 nq osq = w2 at B2 ⊢
                            go_wp2_with fail
                            go_roundg (n - (i + 1))
                            case measure => omega
                            case rel => exact ⟨i + 1, by go_num, by omega, Nat.le_refl _, B2, CK, .inr (.inr ⟨rfl, by omega⟩)⟩
    · have hltz : ¬ (i : Int) < (n : Int) := by omega
      have hd1 : decide ((i : Int) < (n : Int)) = false := decide_eq_false hltz
      have hd2 : decide (i < n) = false := decide_eq_false hlt
      have eN : Hid (chk l = true) := by
        show chk l = true
        unfold chk
        rw [HN.out, show n = i by omega]
        exact L1.out
      go_wp2_with fail
      go_ret
      exact ⟨by rw [eN.out]; rfl, G1.out⟩
end Go.Proofs.YtpcmminokhmkjaaDoor.St
