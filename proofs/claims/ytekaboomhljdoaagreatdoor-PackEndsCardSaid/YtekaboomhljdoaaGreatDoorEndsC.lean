/-
  THE STATEMENT PackEnds (P13.2, P13.3): of at most 30 contents of at most 8000 bytes, appended as far as they fit to a pack over sectors that old records fill, of whatever lengths: behind a flush a pack that is opened anew has just the records that were appended; the rows read behind the call as before.
  Conditions: none.
-/
import Derived.Test.YtekaboomhljdoaaGreatDoorPkN
import Derived.Test.YtekaboomhljdoaaGreatDoorCards
import Derived.Test.YtekaboomhljdoaaGreatDoorWl
namespace Go.Proofs.YtekaboomhljdoaaGreatDoor.Sh
open Lb Go.Proofs.YtekaboomhljdoaaGreatDoor.Pc Go.RowKit Go.Lib
open Go.Proofs.YtekaboomhljdoaaGreatDoor.Dk hiding Blk made_any size_any below_chain
def sliceN : Value → Nat
  | .slice _ n _ => n
  | _ => 0

theorem wpl_slice {P : Program} {w : World} {ops : Array Oper} {rest : List Oper} {o : Oper} {a : Act} {Q : Exit → Act → World → Prop} (hgd : o.guard = none) (x y : Operand) (ho : o.op = .slice 24 x none (some y) none)
    (ao : Option Addr) (len c N : Nat) (u : Value) (hx : a.eval x = .slice ao len c) (hy : a.eval y = u) (hrun : ∀ W, (Instr.sliceAt 24 (.slice ao len c) none (some u) none).run P W = .ok (.slice ao N c) W)
    (h : wpList P ops Q rest (a.put o.dst (.slice ao N c)) w) : wpList P ops Q (o :: rest) a w := by
  refine wpList_plain hgd fun K' hK' => ?_
  have hr := hrun w
  unfold Oper.wp
  simp [execOp, ho, hx, hy, hr, Result.andThen]
  exact hK' _ _ h
set_option maxRecDepth 100000 in
theorem sliceAt_to (ao : Option Addr) (len c n : Nat) (hn : n ≤ c) (W : World) :
    (Instr.sliceAt 24 (.slice ao len c) none (some (.int .i64 (n : Int))) none).run Tryz.prog W = .ok (.slice ao n c) W := by
  rw [← slice_to ao len c n hn W]
  unfold Instr.sliceAt
  simp [run_underlying, Tryz.underlying24, Result.andThen]
end Go.Proofs.YtekaboomhljdoaaGreatDoor.Sh
namespace Go.Proofs.YtekaboomhljdoaaGreatDoor.Sh
open Lb Go.Proofs.YtekaboomhljdoaaGreatDoor.Pc Go.RowKit Go.Lib
open Go.Proofs.YtekaboomhljdoaaGreatDoor.Dk hiding Blk made_any size_any below_chain
set_option maxHeartbeats 8000000 in
set_option maxRecDepth 100000 in
theorem ends_law (ao1 ao2 : Option Addr) (l1 l2 : List (List UInt8)) (n1 n2 c1 c2 : Nat) (a0 a1 : Addr) (w : World) (hE : Env w a0 a1) (h1 : Rws2 w ao1 l1) (h2 : Rws2 w ao2 l2) (e1 : l1.length = n1) (e2 : l2.length = n2) (hs1 : ∀ x ∈ l1, x.length ≤ 140737488351232) :
    Calls Tryz.prog 3 #[.slice ao1 n1 c1, .slice ao2 n2 c2] w fun e w' => e = .returned (.bool true) ∧ Below w.heap.size w w' := by
  have E0 := Lib.hid hE
  have CH := Lib.hid (fun W (hb : Below w.heap.size w W) => heads_any a0 a1 W (hE.below hb))
  have B0 := Lib.hid (Below.refl w.heap.size w)
  clear hE
  by_cases g1 : n1 ≤ 60
  case neg =>
    have d1 : decide ((60 : Int) < (n1 : Int)) = true := by simp; omega
    clear h1 h2 e1 e2 hs1 g1
    go_enter Tryz.func3, Tryz.ntmps3
    go_wp2_with fail
    refine (CH.out _ B0.out).mono ?_
    rintro e w1 ⟨rfl, b1⟩
    go_wp2_with fail
    go_ret
    exact ⟨rfl, b1⟩
  by_cases g2 : n2 ≤ 30
  case neg =>
    have d1 : decide ((60 : Int) < (n1 : Int)) = false := by simp; omega
    have d2 : decide ((30 : Int) < (n2 : Int)) = true := by simp; omega
    clear h1 h2 e1 e2 hs1 g1 g2
    go_enter Tryz.func3, Tryz.ntmps3
    go_wp2_with fail
    refine (CH.out _ B0.out).mono ?_
    rintro e w1 ⟨rfl, b1⟩
    go_wp2_with fail
    go_ret
    exact ⟨rfl, b1⟩
  have d1 : decide ((60 : Int) < (n1 : Int)) = false := by simp; omega
  have d2 : decide ((30 : Int) < (n2 : Int)) = false := by simp; omega
  have H1 := Lib.hid h1
  have H2 := Lib.hid h2
  have EL1 := Lib.hid e1
  have EL2 := Lib.hid e2
  have HS1 := Lib.hid hs1
  have OI : Hid (Own (w.alloc (.cells #[] 5)) w.heap.size (.slice (some ⟨w.heap.size, 0, none⟩) 0 0) []) := own_lit w [] w.heap.size (Nat.le_refl _) (by simp)
  have A1 := Lib.hid (al1 w (.cells #[] 5))
  clear h1 h2 e1 e2 hs1
  go_enter Tryz.func3, Tryz.ntmps3
  go_wp2_with fail
  generalize w.alloc (.cells #[] 5) = w1 at *
  go_loopw [5, 6] (fun v vi wr => ∃ (i n c : Nat) (a : Option Addr) (l : List UInt8), v = .slice a n c ∧ vi = .int .i64 i ∧ i ≤ n1 ∧ l.length = n ∧ n ≤ 30000 ∧ Hid (Own wr w.heap.size (.slice a n c) l) ∧ Hid (Below w.heap.size w wr)) (fun _ vi _ => n1 - (RowKit.intOf vi).toNat)
  case atStart => exact ⟨0, 0, 0, _, [], rfl, rfl, by omega, rfl, by omega, OI.out, A1.out⟩
  case round =>
    obtain ⟨i, n, c, a, l, rfl, rfl, hi, hl, hn, hO, hb⟩ := hrel
    rcases (show (i < n1 ∧ n < 16384) ∨ (i = n1 ∨ (i < n1 ∧ 16384 ≤ n)) by omega) with ⟨hin, hln⟩ | hx
    · obtain ⟨b, o, d, aj, cj, rfl, hbl, hd, hc, hy, hjn, hjc, hjm, hdo⟩ := rws_at H1.out (i := i) (by have := EL1.out; omega)
      have d0 := (hb.out.cell (p := ⟨b, o + i, none⟩) hbl).trans hc
      have inI : (i : Int) < n1 := by omega
      have t1 : decide ((i : Int) < (n1 : Int)) = true := by simp; omega
      have t2 : decide ((n : Int) < 16384) = true := by simp; omega
      have i0 : (0 : Int) ≤ (i : Int) := by omega
      obtain ⟨m, hm⟩ : ∃ m, m = d.length := ⟨_, rfl⟩
      rw [← hm] at d0 hjc
      have HMD := Lib.hid hm
      have HY := Lib.hid (hy.below hb.out)
      have HJN := Lib.hid hjn
      have PL := Lib.hid (putD_len d)
      have CM := Lib.hid (made_far 1 aj d m cj wr (hy.below hb.out) hjn hm.symm (by rw [hm]; exact HS1.out d (List.mem_of_getElem? hd)))
      have HB := Lib.hid hb.out
      have HO := Lib.hid hO.out
      have HL := Lib.hid hl
      clear hd hc hy hjn hjc hjm hdo hm hb hO hl
      obtain ⟨Kx, hKx⟩ : ∃ Kx, Kx = keyS 1 d := ⟨_, rfl⟩
      have HKX := Lib.hid hKx
      rw [← hKx] at CM
      clear hKx
      go_wp2_with fail
      refine CM.out.mono ?_
      rintro e w4 ⟨rfl, b4⟩
      have CP := Lib.hid (refput_far 1 Kx aj d m cj w4 (HY.out.below b4) HJN.out HMD.out.symm)
      have O4 := Lib.hid (own_later HO.out b4)
      have B4 := Lib.hid (below_chain HB.out b4)
      clear b4 CM HO HB
      go_wp2_with fail
      refine CP.out.mono ?_
      rintro e w5 ⟨b5, vb, rfl, ob⟩
      have O5 := Lib.hid (own_later O4.out b5)
      have B5 := Lib.hid (below_chain B4.out b5)
      have OB := Lib.hid ob
      have PW := Lib.hid (putE_two 1 Kx d)
      obtain ⟨E, hEE⟩ : ∃ E, E = putE 1 Kx d := ⟨_, rfl⟩
      have HEE := Lib.hid hEE
      rw [← hEE] at OB ⊢
      have P5 := Lib.hid B5.out.size
      clear ob b5 CP hEE O4 B4
      rcases (show E = 0 ∨ E = 120 by rw [HEE.out]; exact PW.out) with e0 | e0
      · rw [if_pos e0] at OB
        subst e0
        obtain ⟨a3, c3, hvb, hc3, _, hy3, hn3⟩ := own_byt OB.out
        have LB : Hid ((Fr.frL (kb 1) d).length ≤ 9000) := by
          have := PL.out
          unfold putD at this
          rw [← HKX.out, ← HEE.out, if_pos rfl] at this
          exact this
        obtain ⟨R, hR⟩ : ∃ R, R = Fr.frL (kb 1) d := ⟨_, rfl⟩
        rw [← hR] at hvb hy3 LB
        obtain ⟨k, hk⟩ : ∃ k, k = R.length := ⟨_, rfl⟩
        rw [← hk] at hvb
        have HK : Hid (R.length = k) := hk.symm
        have HY3 := Lib.hid hy3
        have HN3 := Lib.hid hn3
        have BND : Hid (l.length + k ≤ 140737488355328) := by
          have := LB.out
          show _ ≤ _
          have := HL.out
          omega
        subst hvb
        clear hy3 hn3 hc3 hR hk
        have O5' : Hid (w5.ownsRow w.heap.size 5 1 (.slice a n c) l.length (bs l)) := O5.out
        go_wp2_with (at_builtin; refine wpl_app_len (t := 24) (e := 5) rfl (.tmp 53) (.tmp 54) rfl Tryz.underlying24 info5 w.heap.size _ l R rfl O5'.out a3 k c3 rfl HY3.out HN3.out HK.out BND.out P5.out ?_; intro v6 w6 hown6 hgrow6)
        have b6 := B5.out.grown hgrow6 P5.out (fun q hq => (O5.out.lt q hq).1)
        obtain ⟨a6, c6, rfl, hc6, _, hy6, hn6⟩ := own_byt hown6
        have O6 := Lib.hid hown6
        have B6 := Lib.hid b6
        have L6 : (l ++ R).length = n + k := by rw [List.length_append, HL.out, HK.out]
        have K6 : n + k ≤ 30000 := by have := LB.out; have := HK.out; omega
        rw [L6] at O6 ⊢
        clear hown6 hgrow6 b6 hc6 hy6 hn6 O5 O5' B5 OB LB BND HY3 HN3
        go_roundw
        case rel => exact ⟨i + 1, n + k, c6, a6, l ++ R, rfl, by go_num, by omega, L6, K6, (show Hid (Own w6 w.heap.size _ _) from (by show w6.ownsRow _ _ _ _ _ _; rw [L6]; exact O6.out)), B6⟩
        case measure => simp [RowKit.intOf]; omega
      · subst e0
        go_wp2_with fail
        go_roundw
        case rel => exact ⟨i + 1, n, c, a, l, rfl, by go_num, by omega, HL.out, by omega, O5, B5⟩
        case measure => simp [RowKit.intOf]; omega
    · have HB := Lib.hid hb.out
      have HO := Lib.hid hO.out
      have HL := Lib.hid hl
      clear hb hO hl
      have t12 : ((n1 : Int) ≤ (i : Int) ∧ n1 ≤ i) ∨ ((i : Int) < (n1 : Int) ∧ i < n1 ∧ (16384 : Int) ≤ (n : Int) ∧ 16384 ≤ n) := by omega
      clear hx hi
      rcases t12 with ⟨t1, t2⟩ | ⟨t1, t2, t3, t4⟩
      all_goals go_wp2_with fail
      all_goals try (exfalso; omega)
      all_goals
        clear H1 HS1 EL1
        go_loopw [5] (fun v wr2 => ∃ (n c : Nat) (a : Option Addr) (l : List UInt8), v = .slice a n c ∧ l.length = n ∧ n ≤ 30000 ∧ Hid (Own wr2 w.heap.size (.slice a n c) l) ∧ Hid (Below w.heap.size w wr2)) (fun v _ => 16384 - sliceN v)
        case atStart => exact ⟨n, c, a, l, rfl, HL.out, hn, HO, HB⟩
        case round =>
          obtain ⟨n', c', a', l', rfl, hl, hn', hO, hb⟩ := hrel
          by_cases hln : n' < 16384
          · have hI : (n' : Int) < 16384 := by omega
            have ha := al1 wr (.cells #[.int .u8 165] 5)
            have LIT : Hid (Own (wr.alloc (.cells #[.int .u8 165] 5)) wr.heap.size (.slice (some ⟨wr.heap.size, 0, none⟩) 1 1) [165]) := own_lit wr [165] wr.heap.size (Nat.le_refl _) (by simp)
            have O2 : Hid ((wr.alloc (.cells #[.int .u8 165] 5)).ownsRow w.heap.size 5 1 (.slice a' n' c') l'.length (bs l')) := own_later hO.out ha
            have B2 := Lib.hid (below_chain hb.out ha)
            have P2 : Hid (w.heap.size ≤ (wr.alloc (.cells #[.int .u8 165] 5)).heap.size) := B2.out.size
            have LB : Hid (Byt (wr.alloc (.cells #[.int .u8 165] 5)) (some ⟨wr.heap.size, 0, none⟩) [165]) := by
              obtain ⟨a3, c3, hv, _, _, hy, _⟩ := own_byt LIT.out
              cases hv
              exact hy
            have BND : Hid (l'.length + 1 ≤ 140737488355328) := by show _ ≤ _; omega
            have HL' := Lib.hid hl
            clear hb hO ha hl
            go_wp2_with (at_builtin; refine wpl_app_len (t := 24) (e := 5) rfl (.tmp 59) (.tmp 60) rfl Tryz.underlying24 info5 w.heap.size _ l' [165] rfl O2.out (some ⟨wr.heap.size, 0, none⟩) 1 1 rfl LB.out (fun h => by cases h) (show Hid ([165].length = 1) from rfl) BND.out P2.out ?_; intro v6 w6 hown6 hgrow6)
            have b6 := B2.out.grown hgrow6 P2.out (fun q hq => (O2.out.lt q hq).1)
            obtain ⟨a6, c6, rfl, _, _, _, _⟩ := own_byt hown6
            have O6 := Lib.hid hown6
            have B6 := Lib.hid b6
            have L6 : (l' ++ [165]).length = n' + 1 := by rw [List.length_append, HL'.out]; rfl
            rw [L6] at O6 ⊢
            clear hown6 hgrow6 b6 O2 B2 LIT LB BND P2
            go_roundw
            case rel => exact ⟨n' + 1, c6, a6, l' ++ [165], rfl, L6, by omega, (show Hid (Own w6 w.heap.size _ _) from (by show w6.ownsRow _ _ _ _ _ _; rw [L6]; exact O6.out)), B6⟩
            case measure => simp [sliceN]; omega
          · obtain ⟨g0, cc, hv, hg1, hg2, hcc1, hcc2⟩ := own_block hO.out (by intro h0; rw [h0] at hl; simp at hl; omega)
            obtain ⟨a3, c3, hv3, _, _, hy3, _⟩ := own_byt hO.out
            simp only [Value.slice.injEq] at hv hv3
            obtain ⟨rfl, -, rfl⟩ := hv
            obtain ⟨rfl, -, rfl⟩ := hv3
            obtain ⟨NN, hNN⟩ : ∃ NN, NN = 16384 := ⟨_, rfl⟩
            have hlt : (l'.take NN).length = NN := by rw [List.length_take]; omega
            have CL := Lib.hid (load64 wr g0 (l'.take NN) c' (hy3.take NN) (by omega) (by rw [hlt]; exact hNN) hcc2)
            rw [hlt] at CL
            have SL := fun W => sliceAt_to (some ⟨g0, 0, none⟩) n' c' NN (by omega) W
            have hNI : ((NN : Nat) : Int) = 16384 := by omega
            rw [hNI] at SL
            have SLH := Lib.hid SL
            clear SL
            have HNN := Lib.hid hNN
            have HNI := Lib.hid hNI
            have BB := Lib.hid hb.out
            have nI : (16384 : Int) ≤ (n' : Int) := by omega
            have nN : 16384 ≤ n' := by omega
            have HCL := CL
            clear CL
            clear hO hb hl hlt hy3 hg1 hg2 hcc1 hln hNN hNI
            go_wp2_with (refine wpl_slice rfl (.tmp 63) (.const (.int .i64 16384)) rfl (some ⟨g0, 0, none⟩) n' c' NN (.int .i64 16384) rfl rfl SLH.out ?_)
            all_goals try (exfalso; omega)
            refine HCL.out.mono ?_
            rintro e w2 ⟨b2, g, sa, mb, V, S, rfl, h1, h2, h3, hd⟩
            have B2 := Lib.hid (below_chain BB.out b2)
            have BG : Hid (w.heap.size ≤ g ∧ w.heap.size ≤ sa ∧ w.heap.size ≤ mb) := by have := BB.out.size; exact ⟨by omega, by omega, by omega⟩
            have CF := Lib.hid (show Calls Tryz.prog 12 #[.pointer (some ⟨g, 0, none⟩), .int .i64 0] w2 (AnsP w2 g 0 []) from fresh_ok (a := 0) hd (by decide) (by decide))
            have D2 := Lib.hid hd
            clear b2 h1 h2 h3 hd HCL BB SLH nI nN
            go_wp2_with fail
            refine CF.out.mono ?_
            rintro e w3 ⟨b3, p, rfl, hp⟩
            have S3 : Hid (Pst w.heap.size w3 g sa mb p 0 64 0 V S true (65 * 0) [] false) := ⟨D2.out.later b3, hp.lower B2.out.size, hold_nil _ _, BG.out, by decide⟩
            have B3 := Lib.hid (below_chain B2.out b3)
            clear b3 hp CF D2 B2
            go_wp2_with fail
            go_loopw [13, 14] (fun v vi wr => ∃ i : Nat, i ≤ n2 ∧ vi = .int .i64 i ∧ Hid (K3 w w.heap.size g sa mb p S v wr i)) (fun _ vi _ => n2 - (RowKit.intOf vi).toNat)
            case atStart => exact ⟨0, by omega, rfl, V, [], S3.out, ⟨owno_nil _ _, fun q hq => by cases hq⟩, B3.out, .inl rfl⟩
            case round =>
              obtain ⟨i, hi, rfl, hK⟩ := hrel
              by_cases hin : i < n2
              · obtain ⟨V', rs, hS, hQ, hb, hE⟩ := hK.out
                obtain ⟨b, o, d, aj, cj, rfl, hbl, hd, hc, hy, hjn, hjc, hjm, hdo⟩ := rws_at H2.out (i := i) (by have := EL2.out; omega)
                have d0 := (hb.cell (p := ⟨b, o + i, none⟩) hbl).trans hc
                have inI : (i : Int) < n2 := by omega
                have i65 : Hid (65 * i ≤ 900000) := by show _ ≤ _; omega
                obtain ⟨n, hn⟩ : ∃ n, n = d.length := ⟨_, rfl⟩
                rw [← hn] at d0 hjc
                have HND := Lib.hid hn
                by_cases hlen : n ≤ 8000
                case neg =>
                  have t1 : decide ((8000 : Int) < (n : Int)) = true := by simp; omega
                  have CHW := Lib.hid (CH.out _ hb)
                  have HB := Lib.hid hb
                  clear hK hS hQ hb hE hd hc hy hjn hdo hn hlen
                  go_wp2_with fail
                  refine CHW.out.mono ?_
                  rintro e w4 ⟨rfl, b4⟩
                  go_wp2_with fail
                  go_ret
                  exact ⟨rfl, below_chain HB.out b4⟩
                have t1 : decide ((8000 : Int) < (n : Int)) = false := by simp; omega
                have n63 : Hid (n ≤ 9223372036854775807) := by show _ ≤ _; omega
                have n1M : Hid (n ≤ 1000000) := by show _ ≤ _; omega
                have n81 : Hid (d.length ≤ 8192) := by show _ ≤ _; omega
                have HS := Lib.hid hS
                have HQ := Lib.hid hQ
                have HB := Lib.hid hb
                have HE := Lib.hid hE
                have HY := Lib.hid hy
                have HJN := Lib.hid hjn
                have CM := Lib.hid (made_any 2 aj d n cj wr (hy.below hb) hjn hn.symm (by omega))
                have HDO := Lib.hid hdo
                have D00 := Lib.hid hc
                have HV := Lib.hid (fun j (hj : j < 64) => hS.dev.vl (0 + j) (by omega))
                clear hK hS hQ hb hE hd hc hy hjn hdo hn
                obtain ⟨Kx, hKx⟩ : ∃ Kx, Kx = keyS 2 d := ⟨_, rfl⟩
                have HKX := Lib.hid hKx
                rw [← hKx] at CM
                clear hKx
                go_wp2_with fail
                refine CM.out.mono ?_
                rintro e w4 ⟨rfl, b4⟩
                have S4 := Lib.hid (HS.out.later b4)
                have Q4 := Lib.hid (HQ.out.later HS.out.pac.lt b4)
                have B4 := Lib.hid (below_chain HB.out b4)
                have CA := Lib.hid (append_some S4.out Q4.out (by decide) i65.out a0 a1 (E0.out.below B4.out) (k := 2) (ks := Kx) ((HY.out.below HB.out).below b4) (n := n) (c := cj) HJN.out HND.out.symm n63.out (by rw [HKX.out]; exact put_made 2 d rfl n81.out))
                clear CM b4 HS HQ HB
                go_wp2_with fail
                refine CA.out.mono ?_
                rintro e w5 hU
                obtain ⟨z, f, he, hK4⟩ := k4_of B4.out HE.out HV.out hU
                subst he
                clear CA S4 Q4 B4 hU HE HV
                rcases hK4 with ⟨rfl, V5, rs5, hS5, hQ5, hb5, hE5⟩ | ⟨rfl, hK5⟩
                · have S5 := Lib.hid hS5
                  have Q5 := Lib.hid hQ5
                  have B5 := Lib.hid hb5
                  have E5 := Lib.hid hE5
                  have CM := Lib.hid (made_any 2 aj d n cj w5 (HY.out.below B5.out) HJN.out HND.out.symm n1M.out)
                  rw [← HKX.out] at CM
                  have d5 := (B5.out.cell (p := ⟨b, o + i, none⟩) hbl).trans (show w.cell? ⟨b, o + i, none⟩ = _ from D00.out)
                  rw [← HND.out] at d5
                  clear hS5 hQ5 hb5 hE5
                  go_wp2_with fail
                  refine CM.out.mono ?_
                  rintro e w6 ⟨rfl, b6⟩
                  have b7 := al1 w6 (.cells #[.int .i64 2, .string Kx, .slice aj n cj] 29)
                  have b67 := below_chain b6 b7
                  have S7 := Lib.hid (S5.out.later b67)
                  have Q7 := Lib.hid (Q5.out.later S5.out.pac.lt b67)
                  have B7 := Lib.hid (below_chain B5.out b67)
                  have KB : Hid (Blk (w6.alloc (.cells #[.int .i64 2, .string Kx, .slice aj n cj] 29)) w6.heap.size (recC (2, d) (.slice aj n cj)) 29) := by
                    show Blk _ _ _ _
                    have hc : recC (2, d) (.slice aj n cj) = [.int .i64 2, .string Kx, .slice aj n cj] := by rw [HKX.out]; rfl
                    rw [hc]
                    exact Blk.new _ [.int .i64 2, .string Kx, .slice aj n cj] 29 _ rfl
                  have D7 : Hid (DatO w.heap.size (w6.alloc (.cells #[.int .i64 2, .string Kx, .slice aj n cj] 29)) (.slice aj n cj) d) := by
                    have := datO_below HDO.out B7.out
                    rw [← HND.out] at this
                    exact this
                  have L7 : Hid (rs5.length + 1 ≤ 1000000000) := len_one (many _ S5.out.pac.fit)
                  have P7 := Lib.hid B7.out.size
                  clear CM b6 b7 b67 S5 Q5 B5 d5
                  go_wp2_with (at_builtin; refine wpl_appo2 rfl (.tmp 104) (.tmp 110) rfl w.heap.size u13 (.slice aj n cj) rs5 (2, d) rfl Q7.out.own D7.out w6.heap.size (by rfl) KB.out L7.out P7.out ?_; intro v8 w8 O8 g8 N8)
                  have K8 := Lib.hid (k3_next (Nat.le_refl _) S7.out E5.out Q7.out B7.out P7.out O8 g8 N8)
                  clear O8 g8 N8 S7 Q7 B7 KB D7 L7 P7
                  go_roundw
                  case rel => exact ⟨i + 1, by omega, by go_num, K8.out⟩
                  case measure => simp [RowKit.intOf]; omega
                · have K8 := Lib.hid hK5
                  clear hK5
                  go_wp2_with fail
                  go_roundw
                  case rel => exact ⟨i + 1, by omega, by go_num, K8.out⟩
                  case measure => simp [RowKit.intOf]; omega
              · obtain rfl : i = n2 := by omega
                obtain ⟨V1, rs, hS, hQ, hb, hE⟩ := hK.out
                have HS := Lib.hid hS
                have HQ := Lib.hid hQ
                have HB := Lib.hid hb
                have HE := Lib.hid hE
                have m1 : 65 * i ≤ 900000 := by omega
                have CFL := Lib.hid (flush_dev hS.dev m1)
                clear hK hS hQ hb hE m1 hin hi
                go_wp2_with fail
                refine CFL.out.mono ?_
                rintro e w4 ⟨rfl, hF, S1, hS1, hd⟩
                obtain ⟨hs, hb4⟩ := HS.out.dev_turn hF hd HS.out.hold
                have O4 := Lib.hid (HQ.out.dev HS.out hF).own
                have B4 := Lib.hid (HB.out.trans hb4)
                have SC : Hid (rs = [] ∨ (Fr.scanL (flat V1 0 64)).1 = rs) := endd_scan (flat_len (fun j hj => HS.out.dev.vl (0 + j) (by omega))) HS.out.pac.good HS.out.hold HE.out
                have RL : Hid (rs.length ≤ 3000) := many rs HS.out.pac.fit
                have CO := Lib.hid (show Calls Tryz.prog 15 #[.pointer (some ⟨g, 0, none⟩), .int .i64 0] w4 (AnsP w4 g 0 (Fr.scanL (flat V1 0 64)).1) from open_ok hs.dev (by decide) a0 a1 (E0.out.below B4.out))
                obtain ⟨sc, hsc⟩ : ∃ sc, sc = (Fr.scanL (flat V1 0 64)).1 := ⟨_, rfl⟩
                rw [← hsc] at SC CO
                clear hsc CFL HS HQ HB HE hF hS1 hd hs hb4
                go_wp2_with fail
                refine CO.out.mono ?_
                rintro e w9 ⟨b9, qq, rfl, hq⟩
                have O9 := Lib.hid (owno_below O4.out b9)
                have B9 := Lib.hid (below_chain B4.out b9)
                have CR := Lib.hid (records_any hq)
                clear CO b9 hq O4 B4
                go_wp2_with fail
                refine CR.out.mono ?_
                rintro e w10 ⟨b10, u, vv, rfl, hu, _⟩
                obtain ⟨au, cu, rfl, hcu, hdu, fu, _⟩ := ownf_read hu
                obtain ⟨ak, ck, hkv, hck, hdk, fk, _⟩ := ownf_read (owno_f (owno_below O9.out b10))
                have FU := Lib.hid fu
                have FK := Lib.hid fk
                have B10 := Lib.hid (below_chain B9.out b10)
                subst hkv
                clear hu b10 fu fk CR O9 B9
                rcases SC.out with h0 | h0
                · subst h0
                  have CHW := Lib.hid (CH.out _ B10.out)
                  clear SC FU FK RL hcu hdu hck hdk
                  go_wp2_with fail
                  refine CHW.out.mono ?_
                  rintro e w14 ⟨rfl, b14⟩
                  go_wp2_with fail
                  go_ret
                  exact ⟨rfl, below_chain B10.out b14⟩
                · subst h0
                  obtain ⟨nk, hnk⟩ : ∃ nk, nk = sc.length := ⟨_, rfl⟩
                  have HNK := Lib.hid hnk
                  rw [← hnk] at hcu hck ⊢
                  have CS := Lib.hid (recs_same au ak sc nk cu ck w10 FU.out FK.out hnk.symm hcu hdu hck)
                  clear hnk SC FU FK RL hcu hdu hck hdk
                  by_cases hz : nk = 0
                  · subst hz
                    have CHW := Lib.hid (CH.out _ B10.out)
                    go_wp2_with fail
                    refine CHW.out.mono ?_
                    rintro e w14 ⟨rfl, b14⟩
                    go_wp2_with fail
                    go_ret
                    exact ⟨rfl, below_chain B10.out b14⟩
                  · have z1 : decide ((nk : Int) = 0) = false := by simp; omega
                    have z2 : ¬ ((nk : Int) = 0) := by omega
                    go_wp2_with fail
                    refine CS.out.mono ?_
                    rintro e w13 ⟨rfl, b13⟩
                    have B13 := Lib.hid (below_chain B10.out b13)
                    have CHW := Lib.hid (CH.out _ B13.out)
                    clear b13 CS
                    go_wp2_with fail
                    refine CHW.out.mono ?_
                    rintro e w14 ⟨rfl, b14⟩
                    go_wp2_with fail
                    go_ret
                    exact ⟨rfl, below_chain B13.out b14⟩
end Go.Proofs.YtekaboomhljdoaaGreatDoor.Sh
namespace Go.Proofs.YtekaboomhljdoaaGreatDoor
namespace Sh
open Go.ChangeShapes Go.WideShapes Go.ChangeAt Go.RowKit Go.Lib Go.ChangeMaps

theorem ends_env (ao1 ao2 : Option Addr) (l1 l2 : List (List UInt8)) (c1 c2 : Nat) (w : World) (hL : laidMetH Tryz.prog laidAll w) (h1 : Rws2 w ao1 l1) (h2 : Rws2 w ao2 l2) (hs : ∀ x ∈ l1, x.length ≤ 140737488351232) :
    Calls Tryz.prog 3 #[.slice ao1 l1.length c1, .slice ao2 l2.length c2] w fun e w' => e = .returned (.bool true) ∧ Below w.heap.size w w' := by
  obtain ⟨a0, a1, hE⟩ := env_of hL
  exact ends_law ao1 ao2 l1 l2 l1.length l2.length c1 c2 a0 a1 w hE h1 h2 rfl rfl hs
set_option maxRecDepth 100000 in
/-- WHAT THE WALK GIVES, for every argument and every memory that meets the row. -/
theorem packEnds_contract (H : Type) (enc : TypeId × Value → H) (W : World) (base : Nat) (args : Array Value) (ds gs : List (DataW H)) (before : List MemPlace)
    (hval : ∀ (j : Nat) t v, Tryz.f3.params[j]? = some t → args[j]? = some v → Value.okWide Tryz.prog W .any base t v)
    (hW : DataW.Whole enc Tryz.prog Tryz.f3.params.toList Rows.packEndsSpec.vars false W args.toList ds gs before) 
    (hsz0 : (DataW.weightsEach Tryz.prog (Tryz.f3.params.toList ++ (OpenSpec.ofChange Rows.packEndsSpec).bare.plain.varTypes Tryz.prog) (ds ++ gs)).all (· ≤ reachBytes) = true) (hL : laidMetH Tryz.prog Rows.packEndsRow.laid W) :
    Calls Tryz.prog 3 args W fun e W' => ∃ v, e = .returned v ∧ Rows.packEndsSpec.post enc Tryz.prog Tryz.f3 false true false false W args v W' := by
  have hsz := hsz0
  clear hsz0
  have hW' := hW
  obtain ⟨p, q, hA0, hV, rfl, hfz, hnd⟩ := hW
  have hA : DataW.TrodAll enc Tryz.prog W 0 (fun _ => true) true Tryz.f3.params.toList args.toList ds p := hA0
  have hAk := hA
  clear hA0
  rw [Tryz.params3] at hA hval hsz
  obtain ⟨rfl, rfl⟩ := trodVars_none hV
  simp only [List.append_nil] at hW' hsz
  have hlt : ∀ x ∈ p, x.block < W.heap.size := fun x hx => by simpa using hW'.lt x hx
  obtain ⟨v0, vs0, d0, ds0, p0, q0, hargs, rfl, hp0, h0, r0⟩ := trodAll_cons hA
  obtain ⟨v1, vs1, d1, ds1, p1, q1, rfl, rfl, hp1, h1, r1⟩ := trodAll_cons r0
  obtain ⟨rfl, rfl, hpn⟩ := trodAll_nil r1
  obtain rfl : args = #[v0, v1] := by cases args; simp_all
  have hlt0 : ∀ x ∈ p0, x.block < W.heap.size := fun x hx => hlt x (by rw [hp0]; exact List.mem_append_left _ hx)
  have hltq0 : ∀ x ∈ q0, x.block < W.heap.size := fun x hx => hlt x (by rw [hp0]; exact List.mem_append_right _ hx)
  have hlt1 : ∀ x ∈ p1, x.block < W.heap.size := fun x hx => hltq0 x (by rw [hp1]; exact List.mem_append_left _ hx)
  have hltq1 : ∀ x ∈ q1, x.block < W.heap.size := fun x hx => hltq0 x (by rw [hp1]; exact List.mem_append_right _ hx)
  obtain ⟨ax, x, cx, rfl, hxr, hxl⟩ := open_rows_far (hval 0 22 v0 rfl rfl) h0 hlt0 (List.all_eq_true.2 fun n hn => List.all_eq_true.1 hsz n (DataW.weights_mem_each (j := 0) rfl rfl n hn))
  obtain ⟨ay, y, cy, rfl, hyr⟩ := open_rows (hval 1 22 v1 rfl rfl) h1 hlt1
  refine (ends_env ax ay x y cx cy W hL hxr hyr hxl).mono fun e W' ⟨he, hb⟩ => ?_
  subst he
  exact ⟨_, rfl, _, _, _, [], p, [], hW', trodAll_mk1 (shut_bool Tryz.underlying4 _), below_trodAll laidOut hb _ _ _ _ (by kernel_rfl) hAk hlt, rfl, hb.frame _, fun h => by cases h⟩

theorem packEnds_reads (os : Os) {H : Type} (enc : TypeId × Value → H) : ∃ places, DataW.whole enc Tryz.prog ((laidWorld os).forCall (fun _ _ => 0) ⟨#[], #[.slice none 0 0, .slice none 0 0], []⟩).memory Tryz.f3.params.toList Rows.packEndsSpec.vars false (#[Value.slice none 0 0, Value.slice none 0 0] : Array Value).toList 8 = some ([.nil, .nil], [], places) :=
  ⟨[], by kernel_rfl⟩

set_option maxRecDepth 100000 in
theorem packEnds_lifted (os : Os) (started : os.Started) (H : Type) (enc : TypeId × Value → H) (F : Stop.Interp) :
    ReturnsInHanded {} Tryz.checked os 3 .any ((OpenSpec.ofChange Rows.packEndsSpec).preRow enc Tryz.prog Tryz.f3 Rows.packEndsRow.domain false Rows.packEndsRow.laid) (((OpenSpec.ofChange Rows.packEndsSpec).at F).post enc Tryz.prog Tryz.f3 false true false false) := by
  obtain ⟨places, hx⟩ := packEnds_reads os enc
  refine returnsInHanded_of_row (C := Tryz.checked) (s := OpenSpec.ofChange Rows.packEndsSpec) own started (by kernel_rfl) Tryz.func3 ?_ ?_
  · refine ⟨laidWorld os, fun _ _ => 0, ⟨#[], #[.slice none 0 0, .slice none 0 0], []⟩, laidWorld_os os, laidWorld_shaped os _, rfl, (Input.okWide_of_okWideB (by kernel_rfl)).2, ?_, ?_⟩
    · exact OpenSpec.preRow_of_cond 8 hx (by kernel_rfl) (fun k hk => by cases hk) (by kernel_rfl) (laidWorld_met os _)
    · simp only [Assume.holds]
      exact ⟨by simp, by simp, fun _ => Modest.zero, by simp, by simp⟩
  intro W base args ds gs before hval hW _ _ hsz hL hsh _
  exact packEnds_contract H enc W base args ds gs before hval hW hsz hL

theorem packEnds_said : Rows.PackEndsSaid :=
  OpenClaim.holds_of_cond 3 Tryz.f3 rfl rfl rfl rfl rfl rfl rfl ⟨rfl, rfl, rfl, rfl, rfl⟩ rfl rfl rfl rfl rfl (by kernel_rfl) Tryz.func3 (by kernel_rfl)
    (of_decide_eq_true (by kernel_rfl)) (by unfold Func.isWrapper; first | (rw [if_pos (by decide +kernel)]; kernel_rfl) | (rw [if_neg (by decide +kernel)]; exact ⟨rfl, rfl⟩))
    (fun os started H enc _ F => by rw [OpenClaim.pre_eq_preRow]; exact packEnds_lifted os started H enc F)
end Sh
theorem packEnds_plain (f : FuncId) (fn : Func) (hf : Tryz.pinned.checked.prog.funcNamed Rows.packEndsRow.func = some f) (hfn : Tryz.pinned.checked.prog.funcs[f]? = some fn) :
    true = Tryz.pinned.checked.prog.looks [] ∧ ∀ (j : Nat) t, fn.params[j]? = some t → Tryz.pinned.checked.prog.wantsStandIn t = false := by
  obtain rfl : f = 3 := Option.some.inj ((show Tryz.prog.funcNamed Rows.packEndsRow.func = some 3 by kernel_rfl).symm.trans hf) |>.symm
  obtain rfl : fn = Tryz.f3 := (Option.some.inj (Tryz.func3.symm.trans hfn)).symm
  refine ⟨by kernel_rfl, fun j t ht => ?_⟩
  rw [Tryz.params3] at ht
  have hm : t ∈ [22, 22] := by simpa using Array.mem_of_getElem? ht
  have hall : ([22, 22].all fun u => !Tryz.prog.wantsStandIn u) = true := by kernel_rfl
  exact (show Tryz.prog.wantsStandIn t = false by simpa using List.all_eq_true.1 hall t hm)
/-- THE STATEMENT. -/
theorem packEnds_card : Rows.PackEndsCardSaid :=
  Claim7.holds_tied_plain_at .later [] _ _ _ _ Sh.packEnds_said (fun _ h => by cases h) (by kernel_rfl) (fun _ h => by cases h) packEnds_row_tie rfl ⟨rfl, rfl⟩ (by kernel_rfl) rfl packEnds_plain (by kernel_rfl)
end Go.Proofs.YtekaboomhljdoaaGreatDoor
