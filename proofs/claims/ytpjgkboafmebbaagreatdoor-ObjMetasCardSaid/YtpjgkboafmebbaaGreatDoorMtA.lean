/-
  The contract of the document's own test of a node. Conditions: each law's own.
-/
import Derived.Test.YtpjgkboafmebbaaGreatDoorRi
import Derived.StillTailTactics
import Derived.BigQuiet
import Derived.Deep.QuietTactic
import Derived.Test.YtpjgkboafmebbaaGreatDoorOc
import Derived.Test.YtpjgkboafmebbaaGreatDoorOl
import Derived.Laws.ResultCell
import Derived.Test.YtpjgkboafmebbaaGreatDoorNa
import Derived.Test.YtpjgkboafmebbaaGreatDoorOd
namespace Go.Proofs.YtpjgkboafmebbaaGreatDoor.Sh
open Go.RowKit Go.Lib Lb
attribute [local irreducible] Go.wpStill Go.stOp Go.Region.wanted
set_option maxHeartbeats 2000000 in
set_option maxRecDepth 100000 in
theorem pageok_any (an ak : Option Addr) (a : List Int) (k : List ByteArray) (n q cn ck : Nat) (w : World) (h1 : Zrw w an a) (h2 : Srw w ak k) (ha : a.length = n) (hk : k.length = q) (hc : n ≤ cn) (hcc : cn ≤ 9223372036854775807) (hd : q ≤ ck) (_ : ck ≤ 9223372036854775807) (hsz : ∀ s ∈ k, s.size ≤ 9223372036854775807) :
    Calls Tryz.prog 53 #[.agg #[.slice an n cn, .slice ak q ck]] w (Tells w (OkPage ⟨a, k⟩)) := by
  have H1 := Lib.hid h1
  have H2 := Lib.hid h2
  have HA := Lib.hid ha
  have HK := Lib.hid hk
  have HZ := Lib.hid hsz
  have CW := Lib.hid (fun y W => within_any y 1 1024 W)
  have B0 : Hid (Below w.heap.size w (w.alloc (.cells #[.slice an n cn, .slice ak q ck] 33))) := (Below.refl _ w).alloc (Nat.le_refl _) _
  have K0 : Hid (Blk (w.alloc (.cells #[.slice an n cn, .slice ak q ck] 33)) w.heap.size [.slice an n cn, .slice ak q ck] 33) := Blk.new w [.slice an n cn, .slice ak q ck] 33 _ rfl
  have c0 := K0.out.cell 0
  have c1 := K0.out.cell 1
  simp only [List.getElem?_cons_zero, List.getElem?_cons_succ] at c0 c1
  clear h1 h2 ha hk hsz
  by_cases h32 : 32 < n
  · have t1 : decide (32 < n) = true := by simp; omega
    have t2 : decide ((32 : Int) < (n : Int)) = true := by simp; omega
    have HF : Hid (¬ OkPage ⟨a, k⟩) := fun h0 => by have := h0.most; have := HA.out; simp only at *; omega
    clear h32
    go_enter Tryz.func53, Tryz.ntmps53
    go_wp2_with fail
    go_ret
    exact ⟨⟨false, rfl, by simp [HF.out]⟩, B0.out⟩
  · have t1 : decide (32 < n) = false := by simp; omega
    have t2 : decide ((32 : Int) < (n : Int)) = false := by simp; omega
    have H32 := Lib.hid (Nat.le_of_not_lt h32)
    clear h32
    by_cases hq : q = n
    · subst hq
      have t3 : ((q : Int) != (q : Int)) = false := by simp
      go_enter Tryz.func53, Tryz.ntmps53
      go_wp2_with fail
      generalize w.alloc (.cells #[.slice an q cn, .slice ak q ck] 33) = wa at *
      go_loopw [3] (fun vi wr => ∃ i : Nat, i ≤ q ∧ vi = .int .i64 i ∧ Hid (Below w.heap.size w wr) ∧ Hid (Blk wr w.heap.size [.slice an q cn, .slice ak q ck] 33) ∧ Hid (PageTo a k i)) (fun vi _ => q - (RowKit.intOf vi).toNat)
      case atStart => exact ⟨0, by omega, rfl, B0.out, K0.out, pageTo_zero _ _⟩
      case round =>
        obtain ⟨i, hi, rfl, hB, hK, hT⟩ := hrel
        have c0 := hK.out.cell 0
        have c1 := hK.out.cell 1
        simp only [List.getElem?_cons_zero, List.getElem?_cons_succ] at c0 c1
        by_cases hin : i < q
        · have q1 : (0 : Int) ≤ (i : Int) := by omega
          have q2 : (i : Int) < (q : Int) := by omega
          obtain ⟨b, o, rfl, hb, hcell⟩ := zrw_cell H1.out i (by have := HA.out; omega)
          obtain ⟨b2, o2, s, rfl, hb2, hs, hcell2⟩ := srw_cell H2.out i (by have := HK.out; omega)
          obtain ⟨y, hy⟩ : ∃ y, a[i]? = some y := ⟨_, List.getElem?_eq_getElem (by have := HA.out; omega)⟩
          have d1 : wr.cell? ⟨b, o + i, none⟩ = some (.int .i64 y) := (hB.out.cell (p := ⟨b, o + i, none⟩) hb).trans (hcell i y hy)
          have d2 : wr.cell? ⟨b2, o2 + i, none⟩ = some (.string s) := (hB.out.cell (p := ⟨b2, o2 + i, none⟩) hb2).trans hcell2
          have d3 := Lib.hid (fun j z (hz : a[j]? = some z) => (hB.out.cell (p := ⟨b, o + j, none⟩) hb).trans (hcell j z hz))
          have HY := Lib.hid hy
          have HS := Lib.hid hs
          have CY := Lib.hid (fun W => CW.out y W)
          have ck := fun W => refcheck_key s W (HZ.out s (List.mem_of_getElem? hs))
          clear hy hs hcell hcell2 hb hb2 c0 c1
          have c0 := hK.out.cell 0
          have c1 := hK.out.cell 1
          simp only [List.getElem?_cons_zero, List.getElem?_cons_succ] at c0 c1
          by_cases hw : within y 1 1024
          rotate_left
          · have hwt : decide (within y 1 1024) = false := by simpa using hw
            rw [hwt] at CY
            have HW := Lib.hid hw
            have HF : Hid (¬ OkPage ⟨a, k⟩) := fun h0 => HW.out (h0.nums y (List.mem_of_getElem? HY.out))
            clear hw hwt CW ck d3
            go_wp2_with fail
            go_quiet ((go_at_call 82; with_reducible exact Calls.quiet_of_same (CY.out _)))
            generalize hwv : wr.drewN nq = wv at *
            have hB2 : Hid (Below w.heap.size w wv) := by show Below _ _ _; rw [← hwv]; exact below_drewN hB.out _
            clear hwv
            go_wp2_with fail
            go_ret
            exact ⟨⟨false, rfl, by simp [HF.out]⟩, hB2.out⟩
          · have hwt : decide (within y 1 1024) = true := by simpa using hw
            rw [hwt] at CY
            have HW := Lib.hid hw
            clear hw hwt CW
            by_cases h0 : 0 < i
            rotate_left
            · have t6 : decide (0 < i) = false := by simpa using h0
              have t7 : decide ((0 : Int) < (i : Int)) = false := by simp; omega
              have I0 := Lib.hid h0
              have CK := Lib.hid ck
              clear h0 d3 ck
              go_wp2_with fail
              refine wp_region_still_tail 31 (by kernel_rfl) (by kernel_rfl) ?_
              simp only [List.take_succ_cons, List.take_zero, List.drop_succ_cons, List.drop_zero]
              repeat still_step
              still_call (CY.out _)
              repeat still_step
              refine wpStill_nil ?_
              change wpList _ _ _ _ _ wr.drew
              have hBd := Lib.hid hB.out.drew
              have hKd : Hid (Blk wr.drew w.heap.size [.slice (some ⟨b, o, none⟩) q cn, .slice (some ⟨b2, o2, none⟩) q ck] 33) := hK.out.drew
              clear c0 c1 d1 d2 hB hK
              generalize wr.drew = wd at *
              cases hkb : (keyBytes s.data.toList).isSome with
              | true =>
                rw [hkb] at CK
                have HT2 : Hid (PageTo a k (i + 1)) := pageTo_more hT.out HY.out HS.out HW.out hkb (fun j z hj => by have := I0.out; omega)
                go_wp2_with fail
                refine (CK.out _).mono ?_
                rintro e w2 ⟨rfl, b1⟩
                have BZ := Lib.hid (below_chain hBd.out b1)
                have KZ := Lib.hid (hKd.out.low b1)
                clear CK b1
                go_wp2_with fail
                go_roundw
                case rel => exact ⟨i + 1, by omega, by go_num, BZ, KZ, HT2⟩
                case measure => simp [RowKit.intOf]; omega
              | false =>
                rw [hkb] at CK
                have HF : Hid (¬ OkPage ⟨a, k⟩) := fun h0 => by have := h0.keys s (List.mem_of_getElem? HS.out); unfold keyOk at this; rw [hkb] at this; cases this
                go_wp2_with fail
                refine (CK.out _).mono ?_
                rintro e w2 ⟨rfl, b1⟩
                have BZ := Lib.hid (below_chain hBd.out b1)
                clear CK b1
                go_wp2_with fail
                go_ret
                exact ⟨⟨false, rfl, by simp [HF.out]⟩, BZ.out⟩
            · obtain ⟨j, hj⟩ : ∃ j, i = j + 1 := ⟨i - 1, by omega⟩
              obtain ⟨z, hz⟩ : ∃ z, a[j]? = some z := ⟨_, List.getElem?_eq_getElem (by have := HA.out; omega)⟩
              have d4 := d3.out j z hz
              have HZz := Lib.hid hz
              have CK := Lib.hid ck
              have t6 : decide (0 < i) = true := by simp; omega
              have t7 : decide ((0 : Int) < (i : Int)) = true := by simp; omega
              have w2 : IntKind.i64.wrap (j : Int) = (j : Int) := IntWalk.i64_in _ (by omega)
              have w4 : (i : Int) - 1 = (j : Int) := by omega
              have q3 : (0 : Int) ≤ (j : Int) := by omega
              have q4 : (j : Int) < (q : Int) := by omega
              have q5 : j < q := by omega
              have HJ := Lib.hid hj
              clear hj
              clear hz d3 ck h0
              by_cases hyz : y ≤ z
              · have t5 : decide (y ≤ z) = true := by simpa using hyz
                have HYZ := Lib.hid hyz
                have HF : Hid (¬ OkPage ⟨a, k⟩) := fun h0 => by have e := HJ.out; subst e; have h1 := su_next ltI a h0.rising j (by have := (List.getElem?_eq_some_iff.1 HY.out).1; exact this); rw [(List.getElem?_eq_some_iff.1 HY.out).2, (List.getElem?_eq_some_iff.1 HZz.out).2] at h1; have h2 : z < y := by simpa [ltI] using h1
                                                                have := HYZ.out; omega
                clear hyz CK
                go_wp2_with fail
                go_quiet ((go_at_call 82; with_reducible exact Calls.quiet_of_same (CY.out _)))
                generalize hwv : wr.drewN nq = wv at *
                have hB2 : Hid (Below w.heap.size w wv) := by show Below _ _ _; rw [← hwv]; exact below_drewN hB.out _
                clear hwv
                go_wp2_with fail
                go_ret
                exact ⟨⟨false, rfl, by simp [HF.out]⟩, hB2.out⟩
              · have t5 : decide (y ≤ z) = false := by simpa using hyz
                have HYZ := Lib.hid hyz
                clear hyz
                go_wp2_with fail
                refine wp_region_still_tail 31 (by kernel_rfl) (by kernel_rfl) ?_
                simp only [List.take_succ_cons, List.take_zero, List.drop_succ_cons, List.drop_zero]
                repeat still_step
                still_call (CY.out _)
                repeat still_step
                refine wpStill_nil ?_
                change wpList _ _ _ _ _ wr.drew
                have hBd := Lib.hid hB.out.drew
                have hKd : Hid (Blk wr.drew w.heap.size [.slice (some ⟨b, o, none⟩) q cn, .slice (some ⟨b2, o2, none⟩) q ck] 33) := hK.out.drew
                clear c0 c1 d1 d2 d4 hB hK
                generalize wr.drew = wd at *
                cases hkb : (keyBytes s.data.toList).isSome with
                | true =>
                  rw [hkb] at CK
                  have HT2 : Hid (PageTo a k (i + 1)) := by
                    show PageTo _ _ _
                    have e := HJ.out
                    subst e
                    exact pageTo_more hT.out HY.out HS.out HW.out hkb (rise_one HZz.out (by have := HYZ.out; omega))
                  go_wp2_with fail
                  refine (CK.out _).mono ?_
                  rintro e w2 ⟨rfl, b1⟩
                  have BZ := Lib.hid (below_chain hBd.out b1)
                  have KZ := Lib.hid (hKd.out.low b1)
                  clear CK b1
                  go_wp2_with fail
                  go_roundw
                  case rel => exact ⟨i + 1, by omega, by go_num, BZ, KZ, HT2⟩
                  case measure => simp [RowKit.intOf]; omega
                | false =>
                  rw [hkb] at CK
                  have HF : Hid (¬ OkPage ⟨a, k⟩) := fun h0 => by have := h0.keys s (List.mem_of_getElem? HS.out); unfold keyOk at this; rw [hkb] at this; cases this
                  go_wp2_with fail
                  refine (CK.out _).mono ?_
                  rintro e w2 ⟨rfl, b1⟩
                  have BZ := Lib.hid (below_chain hBd.out b1)
                  clear CK b1
                  go_wp2_with fail
                  go_ret
                  exact ⟨⟨false, rfl, by simp [HF.out]⟩, BZ.out⟩
        · obtain rfl : i = q := by omega
          go_wp2_with fail
          go_ret
          exact ⟨⟨true, rfl, by simp; exact pageTo_all (by rw [HA.out]; exact hT.out) (by rw [HA.out]; exact H32.out) (by rw [HA.out]; exact HK.out)⟩, hB.out⟩
    · have t3 : ((q : Int) != (n : Int)) = true := by simp; omega
      have t4 : (q == n) = false := by simp; omega
      have HF : Hid (¬ OkPage ⟨a, k⟩) := fun h0 => by have h1 := h0.same; have := HA.out; have := HK.out; simp only at h1; omega
      go_enter Tryz.func53, Tryz.ntmps53
      go_wp2_with fail
      go_ret
      exact ⟨⟨false, rfl, by simp [HF.out]⟩, B0.out⟩
end Go.Proofs.YtpjgkboafmebbaaGreatDoor.Sh
namespace Go.Proofs.YtpjgkboafmebbaaGreatDoor.Sh
open Go.RowKit Go.Lib Lb
set_option maxHeartbeats 4000000 in
set_option maxRecDepth 100000 in
theorem refputpage_any (an ak : Option Addr) (a : List Int) (k : List ByteArray) (n q cn ck : Nat) (w : World) (h1 : Zrw w an a) (h2 : Srw w ak k) (ha : a.length = n) (hk : k.length = q) (hc : n ≤ cn) (hcc : cn ≤ 9223372036854775807) (hd : q ≤ ck) (hdd : ck ≤ 9223372036854775807) (hsz : ∀ s ∈ k, s.size ≤ 9223372036854775807) :
    Calls Tryz.prog 24 #[.agg #[.slice an n cn, .slice ak q ck]] w (Gives w (OkPage ⟨a, k⟩) (pageL ⟨a, k⟩) 80) := by
  have H1 := Lib.hid h1
  have H2 := Lib.hid h2
  have HA := Lib.hid ha
  have HK := Lib.hid hk
  have HZ := Lib.hid hsz
  have B0 : Hid (Below w.heap.size w (w.alloc (.cells #[.slice an n cn, .slice ak q ck] 33))) := (Below.refl _ w).alloc (Nat.le_refl _) _
  have K0 : Hid (Blk (w.alloc (.cells #[.slice an n cn, .slice ak q ck] 33)) w.heap.size [.slice an n cn, .slice ak q ck] 33) := Blk.new w [.slice an n cn, .slice ak q ck] 33 _ rfl
  have RT := Lib.hid (pageok_any an ak a k n q cn ck (w.alloc (.cells #[.slice an n cn, .slice ak q ck] 33)) (h1.below B0.out) (h2.below B0.out) ha hk hc hcc hd hdd hsz)
  have c0 := K0.out.cell 0
  have c1 := K0.out.cell 1
  simp only [List.getElem?_cons_zero, List.getElem?_cons_succ] at c0 c1
  clear h1 h2 ha hk hsz
  go_enter Tryz.func24, Tryz.ntmps24
  go_wp2_with fail
  refine RT.out.mono ?_
  rintro e w1 ⟨⟨b, rfl, hbb⟩, hb1⟩
  have HBB := Lib.hid hbb
  have B1 : Hid (Below w.heap.size w w1) := below_chain B0.out hb1
  have K1 := Lib.hid (K0.out.low hb1)
  clear c0 c1 hbb hb1
  have c0 := K1.out.cell 0
  have c1 := K1.out.cell 1
  simp only [List.getElem?_cons_zero, List.getElem?_cons_succ] at c0 c1
  cases b with
  | false =>
    have HF : Hid (¬ OkPage ⟨a, k⟩) := fun h0 => by have := HBB.out.2 h0; cases this
    go_wp2_with fail
    go_ret2
    exact ⟨B1.out, .inr ⟨HF.out, rfl⟩⟩
  | true =>
    have HT : Hid (OkPage ⟨a, k⟩) := HBB.out.1 rfl
    have hn32 : n ≤ 32 := by have := HT.out.most; have := HA.out; simp only at *; omega
    have hqn : q = n := by have := HT.out.same; have := HA.out; have := HK.out; simp only at *; omega
    subst hqn
    have CN := Lib.hid (refnum_any (q : Int) (by omega) (by omega) w1)
    clear HBB RT K0 B0
    have G1 := Lib.hid (World.block_lt_of_cell? w1 _ c1)
    go_wp2_with fail
    refine CN.out.mono ?_
    rintro e w4 ⟨b2, v4, rfl, o4⟩
    have B4 := Lib.hid (below_chain B1.out b2)
    have K4 := Lib.hid (K1.out.low b2)
    have O4 : Hid (Own w4 (w.heap.size + 1) v4 (numL (q : Int))) := Own.low o4 G1.out
    have L4 : Hid ((numL (q : Int)).length ≤ 10) := (numL_len (q : Int)).2
    generalize hHD : numL (q : Int) = HD at *
    clear o4 b2 B1 K1 c0 c1 CN
    go_wp2_with fail
    go_loopw [4, 5] (fun vb vi wr => ∃ i : Nat, i ≤ q ∧ vi = .int .i64 i ∧ Hid (Below w.heap.size w wr) ∧ Hid (Blk wr w.heap.size [.slice an q cn, .slice ak q ck] 33) ∧ Hid (Own wr (w.heap.size + 1) vb (HD ++ (a.take i).flatMap numL)) ∧ Hid ((HD ++ (a.take i).flatMap numL).length ≤ 10 + 10 * i)) (fun _ vi _ => q - (RowKit.intOf vi).toNat)
    case atStart => exact ⟨0, by omega, rfl, B4.out, K4.out, by show Own _ _ _ _; simpa using O4.out, by show _ ≤ _; simpa using L4.out⟩
    case round =>
      obtain ⟨i, hi, rfl, hB, hK, hO, hL⟩ := hrel
      have c0 := hK.out.cell 0
      have c1 := hK.out.cell 1
      simp only [List.getElem?_cons_zero, List.getElem?_cons_succ] at c0 c1
      by_cases hin : i < q
      · obtain ⟨b, o, rfl, hb, hcell⟩ := zrw_cell H1.out i (by have := HA.out; omega)
        obtain ⟨x, hx⟩ : ∃ y, a[i]? = some y := ⟨_, List.getElem?_eq_getElem (by have := HA.out; omega)⟩
        have HX := Lib.hid hx
        have d1 : wr.cell? ⟨b, o + i, none⟩ = some (.int .i64 x) := (hB.out.cell (p := ⟨b, o + i, none⟩) hb).trans (hcell i x hx)
        have XW := HT.out.nums x (List.mem_of_getElem? hx)
        have CK := Lib.hid (refnum_any x (by unfold within at XW; omega) (by unfold within at XW; omega) wr)
        have q1 : (0 : Int) ≤ (i : Int) := by omega
        have q2 : (i : Int) < (q : Int) := by omega
        clear hx hcell hb XW
        go_wp2_with fail
        refine CK.out.mono ?_
        rintro e w2 ⟨b1, v2, rfl, o2⟩
        obtain ⟨g2, p2, rfl, z1, z2, z3, z4, z5⟩ := own_some o2 (numL_len x).1
        have O2 := Lib.hid (own_below hO.out b1)
        have B2 := Lib.hid (below_chain hB.out b1)
        have K2 := Lib.hid (hK.out.low b1)
        have HS : Hid ((a.take (i + 1)).flatMap numL = (a.take i).flatMap numL ++ numL x) := by
          show _ = _
          rw [List.take_add_one, HX.out]
          simp
        have Z5 := Lib.hid z5
        have KL := numL_len x
        obtain ⟨kl, hkl⟩ : ∃ kl, kl = numL x := ⟨_, rfl⟩
        rw [← hkl] at HS Z5 KL z3 ⊢
        obtain ⟨acc, hacc⟩ : ∃ acc, acc = HD ++ (a.take i).flatMap numL := ⟨_, rfl⟩
        rw [← hacc] at O2 hL
        have p3 : acc.length + kl.length ≤ 140737488355328 := by have := hL.out; omega
        have hL2 : Hid ((acc ++ kl).length ≤ 10 + 10 * (i + 1)) := by show _ ≤ _; rw [List.length_append]; have := hL.out; omega
        have HACC := Lib.hid hacc
        obtain ⟨kn, hkn⟩ : ∃ kn, kl.length = kn := ⟨_, rfl⟩
        have HKN := Lib.hid hkn
        rw [hkn] at p3 z3 ⊢
        clear o2 z5 hkl hacc hO hL b1 KL hkn
        go_wp2_with (at_builtin; refine wpl_app_len (t := 36) (e := 5) rfl (.tmp 21) (.tmp 27) rfl Tryz.underlying36 info5 (w.heap.size + 1) _ acc kl rfl O2.out (some ⟨g2, 0, none⟩) kn p2 rfl Z5.out (fun h => by cases h) HKN p3 K2.out.lt ?_; intro v' w' hown' hgrow)
        have B5 := Lib.hid (B2.out.grown hgrow B2.out.size (fun k hk => Nat.le_of_succ_le (O2.out.lt k hk).1))
        have K5 : Hid (Blk w' w.heap.size [.slice (some ⟨b, o, none⟩) q cn, .slice ak q ck] 33) := (hgrow.block _ K2.out.lt (own_ne O2.out (Nat.lt_succ_self _))).trans K2.out
        refine ⟨⟨i + 1, by omega, by go_num, B5.out, K5.out, ?_, ?_⟩, by simp [RowKit.intOf]; omega⟩
        · show Own _ _ _ _
          rw [HS.out, ← List.append_assoc, ← HACC.out]
          exact hown'
        · show _ ≤ _
          rw [HS.out, ← List.append_assoc, ← HACC.out]
          exact hL2.out
      · obtain rfl : i = q := by omega
        have HD2 : Hid (HD ++ (a.take i).flatMap numL = HD ++ a.flatMap numL) := by
          show _ = _
          rw [← HA.out, List.take_length]
        have hO2 := hO.out
        rw [HD2.out] at hO2
        have hL2 := hL.out
        rw [HD2.out] at hL2
        have hHD2 : HD ++ a.flatMap numL = HD ++ a.flatMap numL := rfl
        have O6 := Lib.hid hO2
        have L6 : Hid ((HD ++ a.flatMap numL).length ≤ 330) := by show _ ≤ _; omega
        have EQ : Hid (pageL ⟨a, k⟩ = (HD ++ a.flatMap numL) ++ k.flatMap keyL) := by
          show _ = _
          rw [pageL, HA.out, hHD, List.append_assoc]
        obtain ⟨E, hE⟩ : ∃ E, E = HD ++ a.flatMap numL := ⟨_, rfl⟩
        rw [← hE] at O6 L6 EQ
        clear hO2 hL2 hHD2 HD2 hO hL hE
        go_wp2_with fail
        go_loopw [4, 6] (fun vb vi wr => ∃ j : Nat, j ≤ i ∧ vi = .int .i64 j ∧ Hid (Below w.heap.size w wr) ∧ Hid (Blk wr w.heap.size [.slice an i cn, .slice ak i ck] 33) ∧ Hid (Own wr (w.heap.size + 1) vb (E ++ (k.take j).flatMap keyL)) ∧ Hid ((E ++ (k.take j).flatMap keyL).length ≤ 330 + 32 * j)) (fun _ vi _ => i - (RowKit.intOf vi).toNat)
        case atStart => exact ⟨0, by omega, rfl, hB, hK, by show Own _ _ _ _; simpa using O6.out, by show _ ≤ _; simpa using L6.out⟩
        case round =>
          obtain ⟨j, hj, rfl, hC, hJ, hP, hM⟩ := hrel
          have x0 := hJ.out.cell 0
          have x1 := hJ.out.cell 1
          simp only [List.getElem?_cons_zero, List.getElem?_cons_succ] at x0 x1
          by_cases hjn : j < i
          · obtain ⟨b, o, x, rfl, hb, hx, hcell⟩ := srw_cell H2.out j (by have := HK.out; omega)
            have HX := Lib.hid hx
            have d1 : wr.cell? ⟨b, o + j, none⟩ = some (.string x) := (hC.out.cell (p := ⟨b, o + j, none⟩) hb).trans hcell
            have CK := Lib.hid (refkey_any x wr (HZ.out x (List.mem_of_getElem? hx)))
            have X32 := Lib.hid (key_of x (HT.out.keys x (List.mem_of_getElem? hx))).1
            have q1 : (0 : Int) ≤ (j : Int) := by omega
            have q2 : (j : Int) < (i : Int) := by omega
            clear hx hcell hb
            go_wp2_with fail
            refine CK.out.mono ?_
            rintro e w2 ⟨b1, v2, rfl, o2⟩
            obtain ⟨g2, p2, rfl, z1, z2, z3, z4, z5⟩ := own_some o2 (by rw [X32.out]; decide)
            rw [X32.out] at z3
            have O2 := Lib.hid (own_below hP.out b1)
            have B2 := Lib.hid (below_chain hC.out b1)
            have K2 := Lib.hid (hJ.out.low b1)
            have p3 : (E ++ (k.take j).flatMap keyL).length + 32 ≤ 140737488355328 := by have := hM.out; omega
            have HS : Hid ((k.take (j + 1)).flatMap keyL = (k.take j).flatMap keyL ++ keyL x) := by
              show _ = _
              rw [List.take_add_one, HX.out]
              simp
            have Z5 := Lib.hid z5
            obtain ⟨kl, hkl⟩ : ∃ kl, kl = keyL x := ⟨_, rfl⟩
            rw [← hkl] at HS X32 Z5 ⊢
            obtain ⟨acc, hacc⟩ : ∃ acc, acc = E ++ (k.take j).flatMap keyL := ⟨_, rfl⟩
            rw [← hacc] at O2 hM p3
            have hL2 : Hid ((acc ++ kl).length ≤ 330 + 32 * (j + 1)) := by show _ ≤ _; rw [List.length_append, X32.out]; have := hM.out; omega
            have HACC := Lib.hid hacc
            rw [X32.out]
            clear o2 z5 hkl hacc hP hM b1
            go_wp2_with (at_builtin; refine wpl_app_len (t := 36) (e := 5) rfl (.tmp 36) (.tmp 42) rfl Tryz.underlying36 info5 (w.heap.size + 1) _ acc kl rfl O2.out (some ⟨g2, 0, none⟩) 32 p2 rfl Z5.out (fun h => by cases h) X32 p3 K2.out.lt ?_; intro v' w' hown' hgrow)
            have B5 := Lib.hid (B2.out.grown hgrow B2.out.size (fun k hk => Nat.le_of_succ_le (O2.out.lt k hk).1))
            have K5 : Hid (Blk w' w.heap.size [.slice an i cn, .slice (some ⟨b, o, none⟩) i ck] 33) := (hgrow.block _ K2.out.lt (own_ne O2.out (Nat.lt_succ_self _))).trans K2.out
            refine ⟨⟨j + 1, by omega, by go_num, B5.out, K5.out, ?_, ?_⟩, by simp [RowKit.intOf]; omega⟩
            · show Own _ _ _ _
              rw [HS.out, ← List.append_assoc, ← HACC.out]
              exact hown'
            · show _ ≤ _
              rw [HS.out, ← List.append_assoc, ← HACC.out]
              exact hL2.out
          · obtain rfl : j = i := by omega
            have HE : Hid (E ++ (k.take j).flatMap keyL = pageL ⟨a, k⟩) := by
              show _ = _
              rw [EQ.out, List.take_of_length_le (by rw [HK.out]; exact Nat.le_refl _)]
            go_wp2_with fail
            go_ret2
            exact ⟨hC.out, .inl ⟨HT.out, _, rfl, by rw [← HE.out]; exact Own.low hP.out (Nat.le_succ _)⟩⟩
end Go.Proofs.YtpjgkboafmebbaaGreatDoor.Sh
namespace Go.Proofs.YtpjgkboafmebbaaGreatDoor.Sh
open Go.RowKit Go.Lib Lb

section
variable {P : Program} {t e : TypeId}
/-- one element appended to a row of the call's own, as one step of a region that draws -/
theorem step_one {w : World} {ops : Array Oper} {o : Oper} {a : Act} {K : Act → World → Prop} {Q : Exit → Act → World → Prop} {E : Prop} (hgd : o.guard = none) (s x : Operand)
    (ho : o.op = .call { callee := .builtin .append, args := #[s, x], argTypes := #[t, t] })
    (ht : P.underlying t = some (.slice e)) {z : Value} {size bytes : Nat} (hinf : (P.info? e).map (fun i => (i.zero, i.size, i.bytes)) = some (some z, size, bytes)) (hzs : z.cells.size = size) (hsz : 0 < size)
    (base : Nat) (v : Value) (n : Nat) (xs : List Value) (hs : a.eval s = v) (hown : w.ownsRow base e size v n xs)
    (g : Nat) (cs : List Value) (hx : a.eval x = .slice (some ⟨g, 0, none⟩) 1 1) (hb : Blk w g cs e) (hl : cs.length = size) (h1 : ∀ u ∈ cs, u.oneCell' = true)
    (hn : n + 1 ≤ 1000000) (hby : bytes ≤ 1000) (hbase : base ≤ w.heap.size)
    (h : ∀ v' w', w'.ownsRow base e size v' (n + 1) (xs ++ cs) → w.grownBy w' v.ownBlock → K (a.put o.dst v') w') :
    if Region.wanted o (yielded ops a.tmps) = true then Oper.wp P o a w K Q else E := by
  have hw : Region.wanted o (yielded ops a.tmps) = true := by simp [Region.wanted, hgd]
  rw [if_pos hw]
  obtain ⟨i0, hi, hz0, hz1, hz2⟩ := info_parts hinf
  have hmul : (n + 1) * bytes ≤ 1000000 * 1000 := Nat.mul_le_mul hn hby
  refine wp_append_own w s x t ho base e i0 z size bytes ht hi hz0 hz1 hz2 hzs hsz v n xs hs hown ⟨g, 0, none⟩ 1 1 cs hx (by omega) (fun j u hj => ?_) h1 (by unfold maxLen; omega) (by omega) hbase (fun v' w' h2 h3 _ => h v' w' h2 h3)
  rw [WideShapes.add_plain, Nat.zero_add, hb.cell]
  exact hj
end
/-- what the reader of a page gives -/
def GetsPage (w : World) (l : List UInt8) (e : Ending) (w' : World) : Prop :=
  Below w.heap.size w w' ∧ ((getPage l = none ∧ e = .returned (.tuple #[.agg #[.slice none 0 0, .slice none 0 0], .int .i64 80])) ∨
    ∃ x u v, getPage l = some x ∧ e = .returned (.tuple #[.agg #[u, v], .int .i64 0]) ∧ OwnG 3 1 cellsI w.heap.size w' x.nums u ∧ OwnS w' w.heap.size v x.keys)
theorem page_head (l l1 : List UInt8) (n : Nat) (d1 : Bool) (h1 : stepR (pNum 32) 0 l false = ((n : Int), l1, d1)) :
    (d1 = true → pPage l = none) ∧ (d1 = false → pPage l = match pRow (pNum 1024) n l1 with | none => none | some (a, r) => match pRow pKey n r with | none => none | some (k, s) => some (⟨a, k⟩, s)) := by
  unfold pPage pMap pSeq
  constructor
  · intro hd
    rw [step_bad (p := pNum 32) (z := 0) (l := l) (by rw [h1]; exact hd)]
    rfl
  · intro hd
    have k1 := (step_ok (p := pNum 32) (z := 0) (l := l) (b := false) (by rw [h1]; exact hd)).2
    rw [h1] at k1
    rw [k1]
    simp only [Int.toNat_natCast]
    cases pRow (pNum 1024) n l1 with
    | none => rfl
    | some u =>
      obtain ⟨a, r⟩ := u
      simp only
      cases pRow pKey n r with
      | none => rfl
      | some u => rfl
def PHead (l l1 : List UInt8) (n : Nat) (d1 : Bool) : Prop := (d1 = true → pPage l = none) ∧ (d1 = false → pPage l = match pRow (pNum 1024) n l1 with | none => none | some (a, r) => match pRow pKey n r with | none => none | some (k, s) => some (⟨a, k⟩, s))
theorem page_step1 {l l1 lr l3 : List UInt8} {n i : Nat} {d1 d3 : Bool} {A : List Int} {k : Int} (HH : PHead l l1 n d1)
    (HN : d1 = false ∧ pRow (pNum 1024) i l1 = some (A, lr)) (HK : (k, l3, d3) = stepR (pNum 1024) 0 lr false) (hin : i < n) : if d3 = true then pPage l = none else d1 = false ∧ pRow (pNum 1024) (i + 1) l1 = some (A ++ [k], l3) := by
  cases d3 with
  | true =>
    rw [if_pos rfl, HH.2 HN.1, row_none (pNum 1024) l1 (i + 1) n (by rw [row_snoc, HN.2]; simp only; rw [step_bad (p := pNum 1024) (z := 0) (l := lr) (by rw [← HK])]) hin]
  | false =>
    rw [if_neg (by decide)]
    have h := (step_ok (p := pNum 1024) (z := 0) (l := lr) (b := false) (by rw [← HK])).2
    rw [← HK] at h
    exact ⟨HN.1, by rw [row_snoc, HN.2]; simp only; rw [h]⟩
theorem page_step2 {l l1 l2 lr l3 : List UInt8} {n i : Nat} {d1 d3 : Bool} {A : List Int} {P : List ByteArray} {k : ByteArray} (HH : PHead l l1 n d1) (HA : d1 = false ∧ pRow (pNum 1024) n l1 = some (A, l2))
    (HN : pRow pKey i l2 = some (P, lr)) (HK : (k, l3, d3) = stepR pKey ⟨#[]⟩ lr false) (hin : i < n) : if d3 = true then pPage l = none else pRow pKey (i + 1) l2 = some (P ++ [k], l3) := by
  cases d3 with
  | true =>
    rw [if_pos rfl, HH.2 HA.1, HA.2]
    simp only
    rw [row_none pKey l2 (i + 1) n (by rw [row_snoc, HN]; simp only; rw [step_bad (p := pKey) (z := ⟨#[]⟩) (l := lr) (by rw [← HK])]) hin]
  | false =>
    rw [if_neg (by decide)]
    have h := (step_ok (p := pKey) (z := ⟨#[]⟩) (l := lr) (b := false) (by rw [← HK])).2
    rw [← HK] at h
    rw [row_snoc, HN]; simp only; rw [h]
theorem size33 : (Tryz.prog.info? 33).map (·.size) = some 2 := by kernel_rfl
theorem cells_oneI {x : Int} : ∀ u ∈ ([.int .i64 x] : List Value), u.oneCell' = true := by
  intro u hu
  simp only [List.mem_singleton] at hu
  subst hu
  rfl
theorem ownG_snoc {w : World} {B : Nat} {v : Value} {A : List Int} {k : Int} (h : w.ownsRow B 3 1 v (A.length + 1) (A.flatMap cellsI ++ [.int .i64 k])) : OwnG 3 1 cellsI B w (A ++ [k]) v := by
  unfold OwnG
  rw [flat_snoc, List.length_append]
  exact h
theorem row_ne {w : World} {B e size n k : Nat} {v : Value} {xs : List Value} (h : w.ownsRow B e size v n xs) (hk : k < B) : some k ≠ v.ownBlock := fun e => by
  have := (h.lt k e.symm).1
  omega
theorem rowOwn_kept {w w' : World} {B e size n : Nat} {v : Value} {xs : List Value} {k : Option Nat} (h : w.ownsRow B e size v n xs) (hg : w.grownBy w' k) (hb : ∀ b c, v.ownBlock = some b → k = some c → b ≠ c) : w'.ownsRow B e size v n xs :=
  World.ownsRow.kept h hg (by
    cases hv : v.ownBlock with
    | none => exact .inl rfl
    | some j => exact .inr fun e => hb j j hv e.symm rfl)
theorem ownG_new (w : World) (x : Int) (g : Nat) (hg : g = w.heap.size) : Blk (w.alloc (.cells #[.int .i64 x] 3)) g [.int .i64 x] 3 := Blk.new w [.int .i64 x] 3 g hg
set_option maxHeartbeats 4000000 in
set_option maxRecDepth 100000 in
theorem getpage_any (ao : Option Addr) (l : List UInt8) (m c : Nat) (w : World) (hb : Byt w ao l) (hn : ao = none → c = 0) (hl : l.length = m) (hc : m ≤ c) (hm : c ≤ 9223372036854775807) (h47 : m ≤ 140737488355328) (hf : ∀ a, ao = some a → a.block < w.heap.size) :
    Calls Tryz.prog 26 #[.slice ao m c] w (GetsPage w l) := by
  obtain ⟨wa, hwa⟩ : ∃ wa, wa = w.alloc (.cells #[.slice none 0 0, .slice none 0 0] 33) := ⟨_, rfl⟩
  have sa : wa.heap.size = w.heap.size + 1 := by rw [hwa]; simp
  have B1 : Below w.heap.size w wa := by rw [hwa]; exact (Below.refl _ w).alloc (Nat.le_refl _) _
  have KA : Blk wa w.heap.size [.slice none 0 0, .slice none 0 0] 33 := by rw [hwa]; exact Blk.new w [.slice none 0 0, .slice none 0 0] 33 _ rfl
  obtain ⟨wb, hwb⟩ : ∃ wb, wb = wa.alloc (.cells #[.slice ao m c, .bool false] 99) := ⟨_, rfl⟩
  have sb : wb.heap.size = w.heap.size + 2 := by rw [hwb]; simp [sa]
  have RB0 := rd_new wa ao l m c (w.heap.size + 1) sa.symm (hb.below B1) hn hl hc hm h47 (fun a ha => by have := hf a ha; omega)
  rw [← hwb] at RB0
  have B2 : Below w.heap.size w wb := by rw [hwb]; exact B1.alloc (by omega) _
  have KB : Blk wb w.heap.size [.slice none 0 0, .slice none 0 0] 33 := by rw [hwb]; exact KA.alloc _
  obtain ⟨gX, hgX⟩ : ∃ gX, gX = w.heap.size + 2 := ⟨_, rfl⟩
  obtain ⟨wc, hwc⟩ : ∃ wc, wc = wb.alloc (.cells #[.slice none 0 0, .slice none 0 0] 33) := ⟨_, rfl⟩
  have sc : wc.heap.size = gX + 1 := by rw [hwc]; simp [sb, hgX]
  have B3 : Hid (Below w.heap.size w wc) := by show Below _ _ _; rw [hwc]; exact B2.alloc (by omega) _
  have KC : Hid (Blk wc w.heap.size [.slice none 0 0, .slice none 0 0] 33) := by show Blk _ _ _ _; rw [hwc]; exact KB.alloc _
  have XC : Hid (Blk wc gX [.slice none 0 0, .slice none 0 0] 33) := by show Blk _ _ _ _; rw [hwc]; exact Blk.new wb [.slice none 0 0, .slice none 0 0] 33 _ (by omega)
  have RB := Lib.hid (RB0.grown (w' := wc) (by rw [hwc]; exact (Below.refl _ wb).alloc (Nat.le_refl _) _))
  have C1 := Lib.hid (rnum_any (w.heap.size + 1) l false ao m c 32 wc RB.out (by decide))
  have GX := Lib.hid hgX
  have SC := Lib.hid sc
  have eX : Hid (w.heap.size + 1 + 1 = gX) := by show _ = _; omega
  clear KA B1 hb hn hl hc hm h47 hf RB0 B2 KB sc hgX
  go_enter Tryz.func26, Tryz.ntmps26
  go_wp2_with fail
  rw [← hwa, ← hwb, ← hwc, eX.out]
  clear hwa hwb hwc sa sb eX
  refine C1.out.mono ?_
  rintro e w1 ⟨rfl, h1, ao1, m1, c1, R1⟩
  have AN : AnsR wc (w.heap.size + 1) (.int .i64 (stepR (pNum 32) 0 l false).1) (stepR (pNum 32) 0 l false).2.1 (stepR (pNum 32) 0 l false).2.2 (.returned (.int .i64 (stepR (pNum 32) 0 l false).1)) w1 := ⟨rfl, h1, ao1, m1, c1, R1⟩
  have gx0 := GX.out
  have sc0 := SC.out
  have B5 := Lib.hid (AN.below B3.out (by omega) (by omega))
  have K5 := Lib.hid (AN.kept KC.out (by omega))
  have X5 := Lib.hid (AN.kept XC.out (by omega))
  have R5 := Lib.hid R1
  obtain ⟨⟨n', l1, d1⟩, hs1⟩ : ∃ z : Int × List UInt8 × Bool, z = stepR (pNum 32) 0 l false := ⟨_, rfl⟩
  obtain ⟨n, hn1, hn2⟩ := num_step 32 l false
  rw [← hs1] at hn1 R5 ⊢
  simp only at hn1 R5 ⊢
  subst hn1
  have HH : Hid (PHead l l1 n d1) := page_head l l1 n d1 hs1.symm
  clear AN h1 R1 C1 KC XC B3 RB hs1 SC sc0 gx0
  go_wp2_with fail
  go_loopw [7] (fun vi wr => ∃ (i : Nat) (lr : List UInt8) (bad : Bool) (A : List Int) (v : Value) (ar : Option Addr) (mr cr : Nat), i ≤ n ∧ vi = .int .i64 i ∧ Hid (Below w.heap.size w wr) ∧ Hid (Blk wr w.heap.size [.slice none 0 0, .slice none 0 0] 33) ∧ Hid (Blk wr gX [v, .slice none 0 0] 33) ∧ Hid (Rd wr (w.heap.size + 1) lr bad ar mr cr) ∧ Hid (OwnG 3 1 cellsI (gX + 1) wr A v) ∧ Hid (A.length = i) ∧ Hid (if bad = true then pPage l = none else d1 = false ∧ pRow (pNum 1024) i l1 = some (A, lr))) (fun vi _ => n - (RowKit.intOf vi).toNat)
  case atStart =>
    refine ⟨0, l1, d1, [], .slice none 0 0, ao1, m1, c1, by omega, rfl, B5.out, K5.out, X5.out, R5.out, World.ownsRow_nil _ _ _ _, rfl, ?_⟩
    show ite _ _ _
    cases hd : d1 with
    | true => rw [if_pos rfl]; exact HH.out.1 hd
    | false => rw [if_neg (by decide)]; exact ⟨rfl, rfl⟩
  case round =>
    obtain ⟨i, lr, bad, A, v, ar, mr, cr, hi, rfl, hB, hK, hX, hR, hO, hP, hI⟩ := hrel
    have c0 := hR.out.blk.cell 0
    have c1 := hR.out.blk.cell 1
    have x0 := hX.out.cell 0
    have x1 := hX.out.cell 1
    have y0 := hK.out.cell 0
    have y1 := hK.out.cell 1
    have f0 := hK.out.frozen 0
    have f1 := hK.out.frozen 1
    simp only [List.getElem?_cons_zero, List.getElem?_cons_succ] at c0 c1 x0 x1 y0 y1
    cases bad with
    | true =>
      have HN := Lib.hid hI.out
      rw [if_pos rfl] at HN
      have HE : Hid (getPage l = none) := by show _ = _; rw [getPage, whole, HN.out]
      clear hI hO hP hR
      by_cases hn0 : 0 < n
      · have q0 : (0 : Int) < (n : Int) := by omega
        by_cases hin : i < n
        · have q2 : (i : Int) < (n : Int) := by omega
          go_wp2_with fail
          refine wp_loop_rounds 1 ?_
          rw [rounds_succ]
          go_wp2_with fail
          exact bodyPost_ret (results_row_tmp rfl _ _ w.heap.size 33 _ _ _ rfl rfl (set_two hK.out _ _) Tryz.underlying33 rfl size33) rfl ⟨below_set (below_set hB.out hB.out.size (Nat.le_refl _) _) (by simp; exact hB.out.size) (Nat.le_refl _) _, .inl ⟨HE.out, rfl⟩⟩
        · obtain rfl : i = n := by omega
          go_wp2_with fail
          refine wp_loop_rounds 1 ?_
          rw [rounds_succ]
          go_wp2_with fail
          exact bodyPost_ret (results_row_tmp rfl _ _ w.heap.size 33 _ _ _ rfl rfl (set_two hK.out _ _) Tryz.underlying33 rfl size33) rfl ⟨below_set (below_set hB.out hB.out.size (Nat.le_refl _) _) (by simp; exact hB.out.size) (Nat.le_refl _) _, .inl ⟨HE.out, rfl⟩⟩
      · obtain rfl : n = 0 := by omega
        obtain rfl : i = 0 := by omega
        go_wp2_with fail
        refine wp_loop_rounds 1 ?_
        rw [rounds_succ]
        go_wp2_with fail
        exact bodyPost_ret (results_row_tmp rfl _ _ w.heap.size 33 _ _ _ rfl rfl (set_two hK.out _ _) Tryz.underlying33 rfl size33) rfl ⟨below_set (below_set hB.out hB.out.size (Nat.le_refl _) _) (by simp; exact hB.out.size) (Nat.le_refl _) _, .inl ⟨HE.out, rfl⟩⟩
    | false =>
      have HN := Lib.hid hI.out
      rw [if_neg (by decide)] at HN
      by_cases hin : i < n
      · have q2 : (i : Int) < (n : Int) := by omega
        have CK := Lib.hid (rnum_any (w.heap.size + 1) lr false ar mr cr 1024 wr.drew (hR.out.grown (Below.refl _ wr).drew) (by decide))
        rw [show ((1024 : Nat) : Int) = 1024 from rfl] at CK
        obtain ⟨⟨k, l3, d3⟩, hs3⟩ : ∃ z : Int × List UInt8 × Bool, z = stepR (pNum 1024) 0 lr false := ⟨_, rfl⟩
        rw [← hs3] at CK
        simp only at CK
        have HK := Lib.hid hs3
        have p1 : A.length + 1 ≤ 1000000 := by rw [hP.out]; omega
        have GL := hX.out.lt
        have GX0 : w.heap.size + 1 < gX := by have := GX.out; omega
        clear hs3 hI
        go_wp2_with fail
        have fx := hX.out.frozen 0
        have z1 : wr.drew.cell? ⟨gX, 0, none⟩ = some v := x0
        go_region_law (first
          | (go_simp
             go_at_call 46; (with_reducible refine CK.out.mono ?_); rintro e w4 ⟨rfl, h1, ao3, m3, c3, R7⟩
             have X7 := Lib.hid (blk_grown (w := wr.drew) hX.out h1 (by omega))
             have X9 := Lib.hid (X7.out.alloc (.cells #[.int .i64 k] 3))
             have N9 := Lib.hid (ownG_new w4 k w4.heap.size rfl)
             have O7 := Lib.hid (World.ownsRow.alloc (row_kept (w := wr.drew) hO.out h1 (by omega)) (.cells #[.int .i64 k] 3))
             have p2 : gX + 1 ≤ (w4.alloc (.cells #[.int .i64 k] 3)).heap.size := by have : wr.heap.size ≤ w4.heap.size := h1.size; simp; omega
             have z2 := X7.out.cell 0
             have z3 := X9.out.cell 0
             simp only [List.getElem?_cons_zero] at z2 z3)
          | (refine step_one (t := 28) (e := 3) rfl (.tmp 28) (.tmp 31) rfl Tryz.underlying28 infoI rfl (by decide) (gX + 1) v A.length (A.flatMap cellsI) (by simp [Act.eval]) O7.out w4.heap.size [.int .i64 k] (by simp [Act.eval]) N9.out rfl cells_oneI p1 (by decide) p2 ?_; intro v5 w5 o5 g5
             have o6 := ownG_snoc o5
             obtain ⟨ao5, c5, rfl⟩ := ownG_slice o6
             have X8 := Lib.hid (blk_row X9.out g5 (row_ne O7.out (Nat.lt_succ_self _)))
             have e1 := X8.out.cell 0
             have e2 := X8.out.frozen 0
             simp only [List.getElem?_cons_zero] at e1))
        all_goals
          have far5 : ∀ b, v.ownBlock = some b → gX < b := fun b hb => (O7.out.lt b hb).1
          have RZ := Lib.hid (((R7.grown ((Below.refl _ w4).alloc (Nat.le_refl _) (.cells #[.int .i64 k] 3))).row g5 (fun b hb => by have := far5 b hb; omega)).row (grownBy_setCell w5 gX 0 (.slice ao5 (A ++ [k]).length c5)) (fun b hb => by injection hb with hb; omega))
          have KZ := Lib.hid ((blk_row ((blk_grown (w := wr.drew) hK.out h1 (by omega)).alloc (.cells #[.int .i64 k] 3)) g5 (row_ne O7.out (by omega))).other (a := ⟨gX, 0, none⟩) (.slice ao5 (A ++ [k]).length c5) (by show w.heap.size ≠ gX; omega))
          have XZ : Hid (Blk (w5.setCell ⟨gX, 0, none⟩ (.slice ao5 (A ++ [k]).length c5)) gX [.slice ao5 (A ++ [k]).length c5, .slice none 0 0] 33) := by show Blk _ _ _ _; have := X8.out.set 0 (.slice ao5 (A ++ [k]).length c5); simpa using this
          have OZ : Hid (OwnG 3 1 cellsI (gX + 1) (w5.setCell ⟨gX, 0, none⟩ (.slice ao5 (A ++ [k]).length c5)) (A ++ [k]) (.slice ao5 (A ++ [k]).length c5)) := ownG_set o6 (Nat.lt_succ_self _) _
          have BZ : Hid (Below w.heap.size w (w5.setCell ⟨gX, 0, none⟩ (.slice ao5 (A ++ [k]).length c5))) := by
            have q1 : Below w.heap.size w w4 := (hB.out.drew).grown h1 hB.out.size (fun b hb => by injection hb with hb; omega)
            have q2 := (q1.alloc q1.size (.cells #[.int .i64 k] 3)).grown g5 (q1.alloc q1.size (.cells #[.int .i64 k] 3)).size (fun b hb => by have := far5 b hb; omega)
            exact q2.setCell (p := ⟨gX, 0, none⟩) (by show w.heap.size ≤ gX; omega) _
          have IZ := Lib.hid (page_step1 HH.out HN.out HK.out hin)
          have LZ : Hid ((A ++ [k]).length = i + 1) := by show _ = _; rw [← hP.out]; simp
          have hL : (A ++ [k]).length = A.length + 1 := by simp
          rw [hL] at BZ KZ XZ RZ OZ
          clear o5 o6 g5 R7 h1 far5 O7 X8 X9 X7 e1 e2 z1 z2 z3 p1 p2 N9 hL
          go_wp2_with fail
          go_roundw
          case rel => exact ⟨i + 1, l3, d3, A ++ [k], _, ao3, m3, c3, by omega, by go_num, BZ, KZ, XZ, RZ, OZ, LZ, IZ⟩
          case measure => simp [RowKit.intOf]; omega
      · obtain rfl : i = n := by omega
        obtain ⟨va, ca, rfl⟩ := ownG_slice hO.out
        obtain ⟨lA, hlA⟩ : ∃ lA, lA = lr := ⟨_, rfl⟩
        rw [← hlA] at HN hR
        have FA := Lib.hid (fun b hb => (hO.out.lt b hb).2 : ∀ b, (Value.slice va A.length ca).ownBlock = some b → b < wr.heap.size)
        obtain ⟨gM, hgM⟩ : ∃ gM, gM = wr.heap.size := ⟨_, rfl⟩
        have GXM : Hid (gX < gM) := by show _ < _; rw [hgM]; exact hX.out.lt
        have SM : Hid (gM ≤ wr.heap.size) := by show _ ≤ _; omega
        rw [← hgM] at FA
        clear hI hgM hlA c0 c1 x0 x1 y0 y1 f0 f1
        go_wp2_with fail
        go_loopw [8] (fun vi wr => ∃ (j : Nat) (lr : List UInt8) (bad : Bool) (P : List ByteArray) (v : Value) (ar : Option Addr) (mr cr : Nat), j ≤ i ∧ vi = .int .i64 j ∧ Hid (Below w.heap.size w wr) ∧ Hid (Blk wr w.heap.size [.slice none 0 0, .slice none 0 0] 33) ∧ Hid (Blk wr gX [.slice va A.length ca, v] 33) ∧ Hid (Rd wr (w.heap.size + 1) lr bad ar mr cr) ∧ Hid (OwnG 3 1 cellsI (gX + 1) wr A (.slice va A.length ca)) ∧ Hid (OwnS wr gM v P) ∧ Hid (P.length = j) ∧ Hid (gM ≤ wr.heap.size) ∧ Hid (if bad = true then pPage l = none else pRow pKey j lA = some (P, lr))) (fun vi _ => i - (RowKit.intOf vi).toNat)
        case atStart => exact ⟨0, lA, false, [], .slice none 0 0, ar, mr, cr, by omega, rfl, hB.out, hK.out, hX.out, hR.out, hO.out, World.ownsRow_nil _ _ _ _, rfl, SM.out, rfl⟩
        case round =>
          clear hB hK hX hR hO SM
          obtain ⟨j, lr, bad, P, v, ar, mr, cr, hj, rfl, hB, hK, hX, hR, hO, hS, hP2, hM, hI⟩ := hrel
          have c0 := hR.out.blk.cell 0
          have c1 := hR.out.blk.cell 1
          have x0 := hX.out.cell 0
          have x1 := hX.out.cell 1
          have y0 := hK.out.cell 0
          have y1 := hK.out.cell 1
          have f0 := hK.out.frozen 0
          have f1 := hK.out.frozen 1
          simp only [List.getElem?_cons_zero, List.getElem?_cons_succ] at c0 c1 x0 x1 y0 y1
          cases bad with
          | true =>
            have HN := Lib.hid hI.out
            rw [if_pos rfl] at HN
            have HE : Hid (getPage l = none) := by show _ = _; rw [getPage, whole, HN.out]
            clear hI hO hS hP hP2 hR
            by_cases hji : j < i
            · have q2 : (j : Int) < (i : Int) := by omega
              go_wp2_with fail
              exact bodyPost_ret (results_row_tmp rfl _ _ w.heap.size 33 _ _ _ rfl rfl (set_two hK.out _ _) Tryz.underlying33 rfl size33) rfl ⟨below_set (below_set hB.out hB.out.size (Nat.le_refl _) _) (by simp; exact hB.out.size) (Nat.le_refl _) _, .inl ⟨HE.out, rfl⟩⟩
            · obtain rfl : j = i := by omega
              go_wp2_with fail
              exact bodyPost_ret (results_row_tmp rfl _ _ w.heap.size 33 _ _ _ rfl rfl (set_two hK.out _ _) Tryz.underlying33 rfl size33) rfl ⟨below_set (below_set hB.out hB.out.size (Nat.le_refl _) _) (by simp; exact hB.out.size) (Nat.le_refl _) _, .inl ⟨HE.out, rfl⟩⟩
          | false =>
            have HN2 := Lib.hid hI.out
            rw [if_neg (by decide)] at HN2
            by_cases hji : j < i
            · have q2 : (j : Int) < (i : Int) := by omega
              have CK := Lib.hid (rkey_any (w.heap.size + 1) lr false ar mr cr wr.drew (hR.out.grown (Below.refl _ wr).drew))
              obtain ⟨⟨k, l3, d3⟩, hs3⟩ : ∃ z : ByteArray × List UInt8 × Bool, z = stepR pKey ⟨#[]⟩ lr false := ⟨_, rfl⟩
              rw [← hs3] at CK
              simp only at CK
              have HK := Lib.hid hs3
              have p1 : (P.length + [k].length) * 16 ≤ 140737488355328 := by rw [hP2.out]; simp; omega
              have GL := hX.out.lt
              have GX0 : w.heap.size + 1 < gX := by have := GX.out; omega
              have GM0 := GXM.out
              have GM1 := hM.out
              clear hs3 hI
              go_wp2_with fail
              have fx := hX.out.frozen 1
              have z1 : wr.drew.cell? ⟨gX, 1, none⟩ = some v := x1
              go_region_law (first
                | (go_simp
                   go_at_call 48; (with_reducible refine CK.out.mono ?_); rintro e w4 ⟨rfl, h1, ao3, m3, c3, R7⟩
                   have X7 := Lib.hid (blk_grown (w := wr.drew) hX.out h1 (by omega))
                   have X9 := Lib.hid (X7.out.alloc (.cells #[.string k] 47))
                   have O7 := Lib.hid (World.ownsRow.alloc (owns_kept (w := wr.drew) hS.out h1 (by omega)) (.cells #[.string k] 47))
                   have p2 : gM ≤ (w4.alloc (.cells #[.string k] 47)).heap.size := by have : wr.heap.size ≤ w4.heap.size := h1.size; simp; omega
                   have z2 := X7.out.cell 1
                   have z3 := X9.out.cell 1
                   simp only [List.getElem?_cons_zero, List.getElem?_cons_succ] at z2 z3)
                | (refine step_apps (t := 31) (e := 47) rfl (.tmp 47) (.tmp 50) rfl Tryz.underlying31 infoS gM v P [k] (by simp [Act.eval]) O7.out ⟨w4.heap.size, 0, none⟩ 1 (by simp [Act.eval]) (srw_one w4 k) p1 p2 ?_; intro v5 w5 o5 g5
                   obtain ⟨ao5, c5, rfl, _, _, _, _⟩ := own_srw o5
                   have X8 := Lib.hid (blk_row X9.out g5 (owns_ne O7.out GM0))
                   have e1 := X8.out.cell 1
                   have e2 := X8.out.frozen 1
                   simp only [List.getElem?_cons_zero, List.getElem?_cons_succ] at e1))
              all_goals
                have hL : (P ++ [k]).length = P.length + 1 := by simp
                have o6 : OwnS w5 gM (.slice ao5 (P.length + 1) c5) (P ++ [k]) := by rw [← hL]; exact o5
                have far5 : ∀ b, v.ownBlock = some b → gM ≤ b := fun b hb => (O7.out.lt b hb).1
                have RZ := Lib.hid (((R7.grown ((Below.refl _ w4).alloc (Nat.le_refl _) (.cells #[.string k] 47))).row g5 (fun b hb => by have := far5 b hb; omega)).row (grownBy_setCell w5 gX 1 (.slice ao5 (P.length + 1) c5)) (fun b hb => by injection hb with hb; omega))
                have KZ := Lib.hid ((blk_row ((blk_grown (w := wr.drew) hK.out h1 (by omega)).alloc (.cells #[.string k] 47)) g5 (owns_ne O7.out (by omega))).other (a := ⟨gX, 1, none⟩) (.slice ao5 (P.length + 1) c5) (by show w.heap.size ≠ gX; omega))
                have XZ : Hid (Blk (w5.setCell ⟨gX, 1, none⟩ (.slice ao5 (P.length + 1) c5)) gX [.slice va A.length ca, .slice ao5 (P.length + 1) c5] 33) := by show Blk _ _ _ _; have := X8.out.set 1 (.slice ao5 (P.length + 1) c5); simpa using this
                have OZ : Hid (OwnS (w5.setCell ⟨gX, 1, none⟩ (.slice ao5 (P.length + 1) c5)) gM (.slice ao5 (P.length + 1) c5) (P ++ [k])) := ownsRow_setCell_below o6 (a := ⟨gX, 1, none⟩) GM0 _
                have AZ : Hid (OwnG 3 1 cellsI (gX + 1) (w5.setCell ⟨gX, 1, none⟩ (.slice ao5 (P.length + 1) c5)) A (.slice va A.length ca)) := by
                  have q1 := World.ownsRow.alloc (row_kept (w := wr.drew) hO.out h1 (by omega)) (.cells #[.string k] 47)
                  exact ownG_set (rowOwn_kept q1 g5 (fun b c hb hc => by have := FA.out b hb; have := far5 c hc; omega)) (Nat.lt_succ_self _) _
                have BZ : Hid (Below w.heap.size w (w5.setCell ⟨gX, 1, none⟩ (.slice ao5 (P.length + 1) c5))) := by
                  have q1 : Below w.heap.size w w4 := (hB.out.drew).grown h1 hB.out.size (fun b hb => by injection hb with hb; omega)
                  have q2 := (q1.alloc q1.size (.cells #[.string k] 47)).grown g5 (q1.alloc q1.size (.cells #[.string k] 47)).size (fun b hb => by have := far5 b hb; omega)
                  exact q2.setCell (p := ⟨gX, 1, none⟩) (by show w.heap.size ≤ gX; omega) _
                have MZ : Hid (gM ≤ (w5.setCell ⟨gX, 1, none⟩ (.slice ao5 (P.length + 1) c5)).heap.size) := by
                  show _ ≤ _
                  have := g5.size
                  simp
                  omega
                have IZ := Lib.hid (page_step2 HH.out HN.out HN2.out HK.out hji)
                have LZ : Hid ((P ++ [k]).length = j + 1) := by show _ = _; rw [hL, hP2.out]
                clear o5 o6 g5 R7 h1 far5 O7 X8 X9 X7 e1 e2 z1 z2 z3 hL p1 p2
                go_wp2_with fail
                go_roundw
                case rel => exact ⟨j + 1, l3, d3, P ++ [k], _, ao3, m3, c3, by omega, by go_num, BZ, KZ, XZ, RZ, AZ, OZ, LZ, MZ, IZ⟩
                case measure => simp [RowKit.intOf]; omega
            · obtain rfl : j = i := by omega
              have HR : Hid (pPage l = some (⟨A, P⟩, lr)) := by show _ = _; rw [HH.out.2 HN.out.1, HN.out.2]; simp only; rw [HN2.out]
              obtain ⟨ap, cp, rfl, hp1, hp2, hp3, _⟩ := own_srw hS.out
              obtain ⟨aq, cq, hqe, hq1, hq2, _, hq3⟩ := ownG_zrw hO.out
              injection hqe with hqa hqb hqc
              subst hqa
              subst hqc
              have hsz : ∀ s ∈ P, s.size ≤ 9223372036854775807 := fun s hs => by
                have hk := ((law_row law_key j lA P lr).1 HN2.out).1.2 s hs
                have := key_size s hk
                omega
              by_cases hm : 0 < mr
              · have t0 : decide (0 < mr) = true := by simpa using hm
                have t1 : decide ((0 : Int) < (mr : Int)) = true := by simp; omega
                have hne : lr ≠ [] := fun h => by have := hR.out.len; rw [h] at this; simp at this; omega
                have HE : Hid (getPage l = none) := by
                  show _ = _
                  rw [getPage, whole, HR.out]
                  simp only
                  rw [if_neg (fun h => hne h.1)]
                clear hI hm hq1 hq2 hq3 hqb
                go_wp2_with fail
                exact bodyPost_ret (results_row_tmp rfl _ _ w.heap.size 33 _ _ _ rfl rfl (set_two hK.out _ _) Tryz.underlying33 rfl size33) rfl ⟨below_set (below_set hB.out hB.out.size (Nat.le_refl _) _) (by simp; exact hB.out.size) (Nat.le_refl _) _, .inl ⟨HE.out, rfl⟩⟩
              · have hm0 : mr = 0 := by omega
                subst hm0
                have hnil : lr = [] := List.eq_nil_of_length_eq_zero hR.out.len
                have RO := Lib.hid (pageok_any va ap A P A.length P.length ca cp wr hq3 hp3 rfl rfl hq1 hq2 hp1 hp2 hsz)
                clear hI hm hsz hp3 hq1 hq2 hq3 hqb
                go_wp2_with fail
                refine RO.out.mono ?_
                rintro e w4 ⟨⟨b, rfl, hbb⟩, hb4⟩
                have K7 := Lib.hid (hK.out.low hb4)
                have X7 := Lib.hid (hX.out.low hb4)
                have B7 := Lib.hid (below_chain hB.out hb4)
                have O7 := Lib.hid (owns_below hS.out hb4)
                have A7 := Lib.hid (ownG_below hO.out hb4)
                have HBB := Lib.hid hbb
                have gx := X7.out.lt
                have GX0 : w.heap.size + 1 < gX := by have := GX.out; omega
                have GM0 := GXM.out
                clear c0 c1 x0 x1 y0 y1 f0 f1 hbb hb4
                have y0 := K7.out.cell 0
                have y1 := K7.out.cell 1
                have f0 := K7.out.frozen 0
                have f1 := K7.out.frozen 1
                have x0 := X7.out.cell 0
                have x1 := X7.out.cell 1
                simp only [List.getElem?_cons_zero, List.getElem?_cons_succ] at x0 x1 y0 y1
                cases b with
                | false =>
                  have HE : Hid (getPage l = none) := by
                    show _ = _
                    rw [getPage, whole, HR.out]
                    simp only
                    rw [if_neg (fun h => by have := HBB.out.2 h.2; cases this)]
                  go_wp2_with fail
                  exact bodyPost_ret (results_row_tmp rfl _ _ w.heap.size 33 _ _ _ rfl rfl (set_two K7.out _ _) Tryz.underlying33 rfl size33) rfl ⟨below_set (below_set B7.out B7.out.size (Nat.le_refl _) _) (by simp; exact B7.out.size) (Nat.le_refl _) _, .inl ⟨HE.out, rfl⟩⟩
                | true =>
                  have HE : Hid (getPage l = some ⟨A, P⟩) := by
                    show _ = _
                    rw [getPage, whole, HR.out]
                    simp only
                    rw [if_pos ⟨hnil, HBB.out.1 rfl⟩]
                  have AZ := OwnG.low (ownG_set (ownG_set A7.out (show w.heap.size < gX + 1 by omega) (i := 0) (.slice va A.length ca)) (show w.heap.size < gX + 1 by omega) (i := 1) (.slice ap P.length cp)) (show w.heap.size ≤ gX + 1 by omega)
                  have SZ := OwnS.low (ownsRow_setCell_below (ownsRow_setCell_below O7.out (a := ⟨w.heap.size, 0, none⟩) (show w.heap.size < gM by omega) (.slice va A.length ca)) (a := ⟨w.heap.size, 1, none⟩) (show w.heap.size < gM by omega) (.slice ap P.length cp)) (show w.heap.size ≤ gM by omega)
                  go_wp2_with fail
                  exact bodyPost_ret (results_row_tmp rfl _ _ w.heap.size 33 _ _ _ rfl rfl (set_two K7.out _ _) Tryz.underlying33 rfl size33) rfl ⟨below_set (below_set B7.out B7.out.size (Nat.le_refl _) _) (by simp; exact B7.out.size) (Nat.le_refl _) _, .inr ⟨⟨A, P⟩, _, _, HE.out, rfl, AZ, SZ⟩⟩
end Go.Proofs.YtpjgkboafmebbaaGreatDoor.Sh
namespace Go.Proofs.YtpjgkboafmebbaaGreatDoor.Nm
open Go.RowKit Go.Lib

/-- a rune's later bytes, and what is asked of it -/
def tailR (l : List UInt8) (n least : Nat) : Nat → Nat → Int → Int × Nat × Bool
  | 0, _, x => if x < least then (65533, 1, false) else if 1114111 < x then (65533, 1, false) else if 55296 ≤ x then (if x < 57344 then (65533, 1, false) else (x, n, true)) else (x, n, true)
  | f + 1, i, x => if (l.getD i 0).toNat < 128 then (65533, 1, false) else if 192 ≤ (l.getD i 0).toNat then (65533, 1, false) else tailR l n least f (i + 1) (x * 64 + (l.getD i 0).toNat - 128)
/-- the reading -/
def runeR (l : List UInt8) : Int × Nat × Bool :=
  if (l.getD 0 0).toNat < 128 then ((l.getD 0 0).toNat, 1, true)
  else if (l.getD 0 0).toNat < 194 then (65533, 1, false)
  else if (l.getD 0 0).toNat < 224 then (if l.length < 2 then (65533, 1, false) else tailR l 2 128 1 1 ((l.getD 0 0).toNat - 192))
  else if (l.getD 0 0).toNat < 240 then (if l.length < 3 then (65533, 1, false) else tailR l 3 2048 2 1 ((l.getD 0 0).toNat - 224))
  else if (l.getD 0 0).toNat < 245 then (if l.length < 4 then (65533, 1, false) else tailR l 4 65536 3 1 ((l.getD 0 0).toNat - 240))
  else (65533, 1, false)

theorem strayL_beq (l : List UInt8) : strayL l = ((decodeL l).1 == 65533 && (decodeL l).2 == 1) := by
  unfold strayL
  obtain ⟨a, n⟩ := decodeL l
  rw [Bool.eq_iff_iff]
  simp
theorem pair3 {a n m : Nat} {x : Int} {b : Bool} (h1 : x = (a : Nat)) (h2 : m = n) (h3 : b = !(a == 65533 && n == 1)) :
    (x, m, b) = (((a, n).1 : Int), (a, n).2, !((a, n).1 == 65533 && (a, n).2 == 1)) := by
  subst h1 h2 h3
  rfl

theorem dN1 (n c0 c1 c2 c3 : Nat) (h : c0 < 128) : decodeN n c0 c1 c2 c3 = (c0, 1) := by
  unfold decodeN
  rw [if_pos h]
theorem dNbad (n c0 c1 c2 c3 : Nat) (h : (128 ≤ c0 ∧ c0 < 194) ∨ (245 ≤ c0 ∧ c0 < 256)) (b1 : c1 < 256) : decodeN n c0 c1 c2 c3 = (65533, 1) := by
  unfold decodeN
  rw [if_neg (by omega)]
  repeat' split
  all_goals first
    | rfl
    | (exfalso; omega)
set_option maxRecDepth 100000 in
theorem dN2 (n c0 c1 c2 c3 : Nat) (h : 194 ≤ c0 ∧ c0 < 224) : decodeN n c0 c1 c2 c3 = if 1 < n ∧ c1 / 64 = 2 then ((c0 - 192) * 64 + (c1 - 128), 2) else (65533, 1) := by
  unfold decodeN
  rw [if_neg (by omega)]
  by_cases k : 1 < n ∧ c1 / 64 = 2
  · rw [if_pos ⟨by omega, k⟩, if_pos k, if_pos (by omega)]
    exact Prod.ext (by simp only; omega) rfl
  · rw [if_neg (fun q => k q.2), if_neg k, if_neg (by omega), if_neg (by omega)]
set_option maxRecDepth 100000 in
theorem dN3 (n c0 c1 c2 c3 : Nat) (h : 224 ≤ c0 ∧ c0 < 240) : decodeN n c0 c1 c2 c3 = if (1 < n ∧ c1 / 64 = 2) ∧ (2 < n ∧ c2 / 64 = 2) ∧ 2048 ≤ (c0 - 224) * 4096 + (c1 - 128) * 64 + (c2 - 128) ∧ ((c0 - 224) * 4096 + (c1 - 128) * 64 + (c2 - 128) < 55296 ∨ 57344 ≤ (c0 - 224) * 4096 + (c1 - 128) * 64 + (c2 - 128)) then ((c0 - 224) * 4096 + (c1 - 128) * 64 + (c2 - 128), 3) else (65533, 1) := by
  unfold decodeN
  rw [if_neg (by omega), if_neg (by omega)]
  by_cases k : (1 < n ∧ c1 / 64 = 2) ∧ (2 < n ∧ c2 / 64 = 2)
  · have e : c0 % 16 * 4096 + c1 % 64 * 64 + c2 % 64 = (c0 - 224) * 4096 + (c1 - 128) * 64 + (c2 - 128) := by omega
    rw [if_pos ⟨by omega, k⟩, e]
    generalize hz : (c0 - 224) * 4096 + (c1 - 128) * 64 + (c2 - 128) = z
    have hz : z ≤ 65535 := by omega
    by_cases q : z ≥ 2048 ∧ (z < 55296 ∨ 57344 ≤ z ∧ z ≤ 1114111)
    · rw [if_pos q, if_pos ⟨k.1, k.2, by omega⟩]
    · rw [if_neg q, if_neg (by omega)]
  · rw [if_neg (fun q => k q.2), if_neg (by omega), if_neg (fun q => k ⟨q.1, q.2.1⟩)]
set_option maxRecDepth 100000 in
theorem dN4 (n c0 c1 c2 c3 : Nat) (h : 240 ≤ c0 ∧ c0 < 245) : decodeN n c0 c1 c2 c3 = if (1 < n ∧ c1 / 64 = 2) ∧ (2 < n ∧ c2 / 64 = 2) ∧ (3 < n ∧ c3 / 64 = 2) ∧ 65536 ≤ (c0 - 240) * 262144 + (c1 - 128) * 4096 + (c2 - 128) * 64 + (c3 - 128) ∧ (c0 - 240) * 262144 + (c1 - 128) * 4096 + (c2 - 128) * 64 + (c3 - 128) ≤ 1114111 then ((c0 - 240) * 262144 + (c1 - 128) * 4096 + (c2 - 128) * 64 + (c3 - 128), 4) else (65533, 1) := by
  unfold decodeN
  rw [if_neg (by omega), if_neg (by omega), if_neg (by omega)]
  by_cases k : (1 < n ∧ c1 / 64 = 2) ∧ (2 < n ∧ c2 / 64 = 2) ∧ (3 < n ∧ c3 / 64 = 2)
  · have e : c0 % 8 * 262144 + c1 % 64 * 4096 + c2 % 64 * 64 + c3 % 64 = (c0 - 240) * 262144 + (c1 - 128) * 4096 + (c2 - 128) * 64 + (c3 - 128) := by omega
    rw [if_pos ⟨by omega, k⟩, e]
    generalize (c0 - 240) * 262144 + (c1 - 128) * 4096 + (c2 - 128) * 64 + (c3 - 128) = z
    by_cases q : z ≥ 65536 ∧ (z < 55296 ∨ 57344 ≤ z ∧ z ≤ 1114111)
    · rw [if_pos q, if_pos ⟨k.1, k.2.1, k.2.2, by omega⟩]
    · rw [if_neg q, if_neg (by omega)]
  · rw [if_neg (fun q => k q.2), if_neg (fun q => k ⟨q.1, q.2.1, q.2.2.1⟩)]

theorem bad3 : ((65533 : Int), 1, false) = ((((65533, 1) : Nat × Nat).1 : Int), ((65533, 1) : Nat × Nat).2, !(((65533, 1) : Nat × Nat).1 == 65533 && ((65533, 1) : Nat × Nat).2 == 1)) := rfl

set_option maxHeartbeats 4000000 in
set_option maxRecDepth 100000 in
theorem runeR_eq (l : List UInt8) : runeR l = (((decodeL l).1 : Int), (decodeL l).2, !strayL l) := by
  have b0 := (l.getD 0 0).toNat_lt
  have b1 := (l.getD 1 0).toNat_lt
  have b2 := (l.getD 2 0).toNat_lt
  have b3 := (l.getD 3 0).toNat_lt
  rw [strayL_beq, decodeL_N]
  unfold runeR
  simp only [tailR]
  generalize (l.getD 0 0).toNat = c0 at *
  generalize (l.getD 1 0).toNat = c1 at *
  generalize (l.getD 2 0).toNat = c2 at *
  generalize (l.getD 3 0).toNat = c3 at *
  generalize l.length = n at *
  by_cases k0 : c0 < 128
  · rw [if_pos k0, dN1 _ _ _ _ _ k0]
    exact pair3 rfl rfl (by simp; omega)
  rw [if_neg k0]
  by_cases k1 : c0 < 194
  · rw [if_pos k1, dNbad _ _ _ _ _ (by omega) b1]
    exact bad3
  rw [if_neg k1]
  by_cases k2 : c0 < 224
  · rw [if_pos k2, dN2 _ _ _ _ _ (by omega)]
    clear k0
    by_cases q : 1 < n ∧ c1 / 64 = 2
    · rw [if_pos q, if_neg (by omega), if_neg (by omega), if_neg (by omega), if_neg (by omega), if_neg (by omega), if_neg (by omega)]
      exact pair3 (by omega) rfl (by simp)
    · rw [if_neg q, ← bad3]
      repeat' split
      all_goals first
        | rfl
        | (exfalso; omega)
  rw [if_neg k2]
  by_cases k3 : c0 < 240
  · rw [if_pos k3]
    have hd := dN3 n c0 c1 c2 c3 (by omega)
    generalize decodeN n c0 c1 c2 c3 = d at hd ⊢
    clear k0 k1
    split at hd
    · rename_i q
      subst hd
      rw [if_neg (by omega), if_neg (by omega), if_neg (by omega), if_neg (by omega), if_neg (by omega), if_neg (by omega), if_neg (by omega)]
      rcases q.2.2.2 with r | r
      · rw [if_neg (by omega)]
        exact pair3 (by omega) rfl (by simp)
      · rw [if_pos (by omega), if_neg (by omega)]
        exact pair3 (by omega) rfl (by simp)
    · rename_i q
      subst hd
      rw [← bad3]
      repeat' split
      all_goals first
        | rfl
        | (exfalso; omega)
  rw [if_neg k3]
  by_cases k4 : c0 < 245
  · rw [if_pos k4]
    have hd := dN4 n c0 c1 c2 c3 (by omega)
    generalize decodeN n c0 c1 c2 c3 = d at hd ⊢
    clear k0 k1 k2
    split at hd
    · rename_i q
      subst hd
      rw [if_neg (by omega), if_neg (by omega), if_neg (by omega), if_neg (by omega), if_neg (by omega), if_neg (by omega), if_neg (by omega), if_neg (by omega), if_neg (by omega), if_pos (by omega), if_neg (by omega)]
      exact pair3 (by omega) rfl (by simp)
    · rename_i q
      subst hd
      rw [← bad3]
      by_cases g1 : n < 4
      · rw [if_pos g1]
      rw [if_neg g1]
      by_cases g2 : c1 < 128
      · rw [if_pos g2]
      rw [if_neg g2]
      by_cases g3 : 192 ≤ c1
      · rw [if_pos g3]
      rw [if_neg g3]
      by_cases g4 : c2 < 128
      · rw [if_pos g4]
      rw [if_neg g4]
      by_cases g5 : 192 ≤ c2
      · rw [if_pos g5]
      rw [if_neg g5]
      by_cases g6 : c3 < 128
      · rw [if_pos g6]
      rw [if_neg g6]
      by_cases g7 : 192 ≤ c3
      · rw [if_pos g7]
      rw [if_neg g7]
      by_cases g8 : ((((c0 : Int) - 240) * 64 + c1 - 128) * 64 + c2 - 128) * 64 + c3 - 128 < (65536 : Nat)
      · rw [if_pos g8]
      rw [if_neg g8, if_pos (by omega)]
  rw [if_neg k4, dNbad _ _ _ _ _ (by omega) b1]
  exact bad3
theorem getD_at (s : ByteArray) (i : Nat) (h : i < s.size) : s.data.toList.getD i 0 = s[i]'h := by
  rw [List.getD_eq_getElem?_getD, List.getElem?_eq_getElem (by rw [Array.length_toList]; exact h)]
  rfl
/-- what a rune's reading is told as -/
def told3 (z : Int × Nat × Bool) : Value := .tuple #[.int .i64 z.1, .int .i64 (z.2.1 : Nat), .bool z.2.2]

set_option maxRecDepth 100000 in
theorem rune_one (s : ByteArray) (h0 : 0 < s.size) (w : World) (hc : (s[0]'h0).toNat < 128) :
    Calls Tryz.prog 135 #[.string s] w fun e w' => e = .returned (told3 (((s[0]'h0).toNat : Int), 1, true)) ∧ w = w' := by
  go_enter Tryz.func135, Tryz.ntmps135
  go_wp2_with fail
  go_ret3
  exact ⟨rfl, rfl⟩
set_option maxRecDepth 100000 in
theorem rune_bad (s : ByteArray) (h0 : 0 < s.size) (w : World) (h1 : 128 ≤ (s[0]'h0).toNat) (hc : (s[0]'h0).toNat < 194 ∨ 245 ≤ (s[0]'h0).toNat) :
    Calls Tryz.prog 135 #[.string s] w fun e w' => e = .returned (told3 (65533, 1, false)) ∧ w = w' := by
  have hb : (s[0]'h0).toNat < 256 := (s[0]'h0).toNat_lt
  rcases hc with hc | hc
  all_goals
    go_enter Tryz.func135, Tryz.ntmps135
    go_wp2_with fail
    all_goals go_ret3
    all_goals exact ⟨rfl, rfl⟩

set_option maxHeartbeats 4000000 in
set_option maxRecDepth 100000 in
theorem rune_m2 (s : ByteArray) (h0 : 0 < s.size) (w : World) (k1 : 194 ≤ (s[0]'h0).toNat) (k2 : (s[0]'h0).toNat < 224)
    (z : Int × Nat × Bool) (hz : z = if s.size < 2 then (65533, 1, false) else tailR s.data.toList 2 128 1 1 ((s[0]'h0).toNat - 192)) :
    Calls Tryz.prog 135 #[.string s] w fun e w' => e = .returned (told3 z) ∧ w = w' := by
  have HG := Lib.hid (fun k (h : k < s.size) => (getD_at s k h : s.data.toList.getD k 0 = s[k]'h))
  by_cases hl : s.size < 2
  · rw [if_pos hl] at hz
    have HZ := Lib.hid hz
    clear hz HG
    go_enter Tryz.func135, Tryz.ntmps135
    go_wp2_with fail
    all_goals go_ret3
    all_goals exact ⟨by rw [HZ.out]; rfl, rfl⟩
  rw [if_neg hl] at hz
  have HZ := Lib.hid hz
  clear hz
  go_enter Tryz.func135, Tryz.ntmps135
  go_wp2_with fail
  go_loop [7, 9] (fun vx vi => ∃ (i f : Nat) (x : Int), vx = .int .i64 x ∧ vi = .int .i64 i ∧ 1 ≤ i ∧ i + f = 2 ∧ 0 ≤ x ∧ ((i = 1 ∧ x < 32) ∨ (i = 2 ∧ x < 2048) ∨ (i = 3 ∧ x < 131072) ∨ (i = 4 ∧ x < 8388608)) ∧ Hid (z = tailR s.data.toList 2 128 f i x)) (fun _ vi => 2 - (RowKit.intOf vi).toNat)
  case atStart => exact ⟨1, _, _, rfl, rfl, by omega, rfl, by omega, by omega, HZ.out⟩
  case round =>
    obtain ⟨i, f, x, rfl, rfl, hi, hif, hx0, hx, hh⟩ := hrel
    by_cases hin : i < 2
    · obtain ⟨f, rfl⟩ : ∃ g, f = g + 1 := ⟨f - 1, by omega⟩
      have his : i < s.size := by omega
      have hz := hh.out
      rw [tailR, HG.out i his] at hz
      have hb : (s[i]'his).toNat < 256 := (s[i]'his).toNat_lt
      by_cases d1 : (s[i]'his).toNat < 128
      · rw [if_pos d1] at hz
        have HZ := Lib.hid hz
        clear hz hh
        go_wp2_with fail
        all_goals go_ret3
        all_goals exact ⟨by rw [HZ.out]; rfl, rfl⟩
      · rw [if_neg d1] at hz
        by_cases d2 : 192 ≤ (s[i]'his).toNat
        · rw [if_pos d2] at hz
          have HZ := Lib.hid hz
          clear hz hh
          go_wp2_with fail
          all_goals go_ret3
          all_goals exact ⟨by rw [HZ.out]; rfl, rfl⟩
        · rw [if_neg d2] at hz
          have HZ := Lib.hid hz
          clear hz hh
          go_wp2_with fail
          exact ⟨⟨_, _, _, _, _, ⟨i + 1, f, _, rfl, rfl, by omega, by omega, by omega, by omega, HZ⟩, rfl, rfl, rfl, rfl, by first | rfl | (congr 1; omega)⟩, by simp [RowKit.intOf]; omega⟩
    · obtain rfl : f = 0 := by omega
      obtain rfl : i = 2 := by omega
      have hz := hh.out
      rw [tailR] at hz
      by_cases d1 : x < (128 : Nat)
      · rw [if_pos d1] at hz
        have HZ := Lib.hid hz
        have d1' : x < 128 := d1
        clear hz hh d1
        go_wp2_with fail
        all_goals go_ret3
        all_goals exact ⟨by rw [HZ.out]; rfl, rfl⟩
      rw [if_neg d1] at hz
      have d1' : 128 ≤ x := Int.not_lt.1 d1
      clear d1
      by_cases d2 : 1114111 < x
      · rw [if_pos d2] at hz
        have HZ := Lib.hid hz
        clear hz hh
        go_wp2_with fail
        all_goals go_ret3
        all_goals exact ⟨by rw [HZ.out]; rfl, rfl⟩
      rw [if_neg d2] at hz
      by_cases d3 : 55296 ≤ x
      · rw [if_pos d3] at hz
        by_cases d4 : x < 57344
        · rw [if_pos d4] at hz
          have HZ := Lib.hid hz
          clear hz hh
          go_wp2_with fail
          all_goals go_ret3
          all_goals exact ⟨by rw [HZ.out]; rfl, rfl⟩
        · rw [if_neg d4] at hz
          have HZ := Lib.hid hz
          clear hz hh
          go_wp2_with fail
          all_goals go_ret3
          all_goals exact ⟨by rw [HZ.out]; rfl, rfl⟩
      · rw [if_neg d3] at hz
        have HZ := Lib.hid hz
        clear hz hh
        go_wp2_with fail
        all_goals go_ret3
        all_goals exact ⟨by rw [HZ.out]; rfl, rfl⟩

set_option maxHeartbeats 4000000 in
set_option maxRecDepth 100000 in
theorem rune_m3 (s : ByteArray) (h0 : 0 < s.size) (w : World) (k1 : 224 ≤ (s[0]'h0).toNat) (k2 : (s[0]'h0).toNat < 240)
    (z : Int × Nat × Bool) (hz : z = if s.size < 3 then (65533, 1, false) else tailR s.data.toList 3 2048 2 1 ((s[0]'h0).toNat - 224)) :
    Calls Tryz.prog 135 #[.string s] w fun e w' => e = .returned (told3 z) ∧ w = w' := by
  have HG := Lib.hid (fun k (h : k < s.size) => (getD_at s k h : s.data.toList.getD k 0 = s[k]'h))
  by_cases hl : s.size < 3
  · rw [if_pos hl] at hz
    have HZ := Lib.hid hz
    clear hz HG
    go_enter Tryz.func135, Tryz.ntmps135
    go_wp2_with fail
    all_goals go_ret3
    all_goals exact ⟨by rw [HZ.out]; rfl, rfl⟩
  rw [if_neg hl] at hz
  have HZ := Lib.hid hz
  clear hz
  go_enter Tryz.func135, Tryz.ntmps135
  go_wp2_with fail
  go_loop [7, 9] (fun vx vi => ∃ (i f : Nat) (x : Int), vx = .int .i64 x ∧ vi = .int .i64 i ∧ 1 ≤ i ∧ i + f = 3 ∧ 0 ≤ x ∧ ((i = 1 ∧ x < 32) ∨ (i = 2 ∧ x < 2048) ∨ (i = 3 ∧ x < 131072) ∨ (i = 4 ∧ x < 8388608)) ∧ Hid (z = tailR s.data.toList 3 2048 f i x)) (fun _ vi => 3 - (RowKit.intOf vi).toNat)
  case atStart => exact ⟨1, _, _, rfl, rfl, by omega, rfl, by omega, by omega, HZ.out⟩
  case round =>
    obtain ⟨i, f, x, rfl, rfl, hi, hif, hx0, hx, hh⟩ := hrel
    by_cases hin : i < 3
    · obtain ⟨f, rfl⟩ : ∃ g, f = g + 1 := ⟨f - 1, by omega⟩
      have his : i < s.size := by omega
      have hz := hh.out
      rw [tailR, HG.out i his] at hz
      have hb : (s[i]'his).toNat < 256 := (s[i]'his).toNat_lt
      by_cases d1 : (s[i]'his).toNat < 128
      · rw [if_pos d1] at hz
        have HZ := Lib.hid hz
        clear hz hh
        go_wp2_with fail
        all_goals go_ret3
        all_goals exact ⟨by rw [HZ.out]; rfl, rfl⟩
      · rw [if_neg d1] at hz
        by_cases d2 : 192 ≤ (s[i]'his).toNat
        · rw [if_pos d2] at hz
          have HZ := Lib.hid hz
          clear hz hh
          go_wp2_with fail
          all_goals go_ret3
          all_goals exact ⟨by rw [HZ.out]; rfl, rfl⟩
        · rw [if_neg d2] at hz
          have HZ := Lib.hid hz
          clear hz hh
          go_wp2_with fail
          exact ⟨⟨_, _, _, _, _, ⟨i + 1, f, _, rfl, rfl, by omega, by omega, by omega, by omega, HZ⟩, rfl, rfl, rfl, rfl, by first | rfl | (congr 1; omega)⟩, by simp [RowKit.intOf]; omega⟩
    · obtain rfl : f = 0 := by omega
      obtain rfl : i = 3 := by omega
      have hz := hh.out
      rw [tailR] at hz
      by_cases d1 : x < (2048 : Nat)
      · rw [if_pos d1] at hz
        have HZ := Lib.hid hz
        have d1' : x < 2048 := d1
        clear hz hh d1
        go_wp2_with fail
        all_goals go_ret3
        all_goals exact ⟨by rw [HZ.out]; rfl, rfl⟩
      rw [if_neg d1] at hz
      have d1' : 2048 ≤ x := Int.not_lt.1 d1
      clear d1
      by_cases d2 : 1114111 < x
      · rw [if_pos d2] at hz
        have HZ := Lib.hid hz
        clear hz hh
        go_wp2_with fail
        all_goals go_ret3
        all_goals exact ⟨by rw [HZ.out]; rfl, rfl⟩
      rw [if_neg d2] at hz
      by_cases d3 : 55296 ≤ x
      · rw [if_pos d3] at hz
        by_cases d4 : x < 57344
        · rw [if_pos d4] at hz
          have HZ := Lib.hid hz
          clear hz hh
          go_wp2_with fail
          all_goals go_ret3
          all_goals exact ⟨by rw [HZ.out]; rfl, rfl⟩
        · rw [if_neg d4] at hz
          have HZ := Lib.hid hz
          clear hz hh
          go_wp2_with fail
          all_goals go_ret3
          all_goals exact ⟨by rw [HZ.out]; rfl, rfl⟩
      · rw [if_neg d3] at hz
        have HZ := Lib.hid hz
        clear hz hh
        go_wp2_with fail
        all_goals go_ret3
        all_goals exact ⟨by rw [HZ.out]; rfl, rfl⟩

set_option maxHeartbeats 4000000 in
set_option maxRecDepth 100000 in
theorem rune_m4 (s : ByteArray) (h0 : 0 < s.size) (w : World) (k1 : 240 ≤ (s[0]'h0).toNat) (k2 : (s[0]'h0).toNat < 245)
    (z : Int × Nat × Bool) (hz : z = if s.size < 4 then (65533, 1, false) else tailR s.data.toList 4 65536 3 1 ((s[0]'h0).toNat - 240)) :
    Calls Tryz.prog 135 #[.string s] w fun e w' => e = .returned (told3 z) ∧ w = w' := by
  have HG := Lib.hid (fun k (h : k < s.size) => (getD_at s k h : s.data.toList.getD k 0 = s[k]'h))
  by_cases hl : s.size < 4
  · rw [if_pos hl] at hz
    have HZ := Lib.hid hz
    clear hz HG
    go_enter Tryz.func135, Tryz.ntmps135
    go_wp2_with fail
    all_goals go_ret3
    all_goals exact ⟨by rw [HZ.out]; rfl, rfl⟩
  rw [if_neg hl] at hz
  have HZ := Lib.hid hz
  clear hz
  go_enter Tryz.func135, Tryz.ntmps135
  go_wp2_with fail
  go_loop [7, 9] (fun vx vi => ∃ (i f : Nat) (x : Int), vx = .int .i64 x ∧ vi = .int .i64 i ∧ 1 ≤ i ∧ i + f = 4 ∧ 0 ≤ x ∧ ((i = 1 ∧ x < 32) ∨ (i = 2 ∧ x < 2048) ∨ (i = 3 ∧ x < 131072) ∨ (i = 4 ∧ x < 8388608)) ∧ Hid (z = tailR s.data.toList 4 65536 f i x)) (fun _ vi => 4 - (RowKit.intOf vi).toNat)
  case atStart => exact ⟨1, _, _, rfl, rfl, by omega, rfl, by omega, by omega, HZ.out⟩
  case round =>
    obtain ⟨i, f, x, rfl, rfl, hi, hif, hx0, hx, hh⟩ := hrel
    by_cases hin : i < 4
    · obtain ⟨f, rfl⟩ : ∃ g, f = g + 1 := ⟨f - 1, by omega⟩
      have his : i < s.size := by omega
      have hz := hh.out
      rw [tailR, HG.out i his] at hz
      have hb : (s[i]'his).toNat < 256 := (s[i]'his).toNat_lt
      by_cases d1 : (s[i]'his).toNat < 128
      · rw [if_pos d1] at hz
        have HZ := Lib.hid hz
        clear hz hh
        go_wp2_with fail
        all_goals go_ret3
        all_goals exact ⟨by rw [HZ.out]; rfl, rfl⟩
      · rw [if_neg d1] at hz
        by_cases d2 : 192 ≤ (s[i]'his).toNat
        · rw [if_pos d2] at hz
          have HZ := Lib.hid hz
          clear hz hh
          go_wp2_with fail
          all_goals go_ret3
          all_goals exact ⟨by rw [HZ.out]; rfl, rfl⟩
        · rw [if_neg d2] at hz
          have HZ := Lib.hid hz
          clear hz hh
          go_wp2_with fail
          exact ⟨⟨_, _, _, _, _, ⟨i + 1, f, _, rfl, rfl, by omega, by omega, by omega, by omega, HZ⟩, rfl, rfl, rfl, rfl, by first | rfl | (congr 1; omega)⟩, by simp [RowKit.intOf]; omega⟩
    · obtain rfl : f = 0 := by omega
      obtain rfl : i = 4 := by omega
      have hz := hh.out
      rw [tailR] at hz
      by_cases d1 : x < (65536 : Nat)
      · rw [if_pos d1] at hz
        have HZ := Lib.hid hz
        have d1' : x < 65536 := d1
        clear hz hh d1
        go_wp2_with fail
        all_goals go_ret3
        all_goals exact ⟨by rw [HZ.out]; rfl, rfl⟩
      rw [if_neg d1] at hz
      have d1' : 65536 ≤ x := Int.not_lt.1 d1
      clear d1
      by_cases d2 : 1114111 < x
      · rw [if_pos d2] at hz
        have HZ := Lib.hid hz
        clear hz hh
        go_wp2_with fail
        all_goals go_ret3
        all_goals exact ⟨by rw [HZ.out]; rfl, rfl⟩
      rw [if_neg d2] at hz
      by_cases d3 : 55296 ≤ x
      · rw [if_pos d3] at hz
        by_cases d4 : x < 57344
        · rw [if_pos d4] at hz
          have HZ := Lib.hid hz
          clear hz hh
          go_wp2_with fail
          all_goals go_ret3
          all_goals exact ⟨by rw [HZ.out]; rfl, rfl⟩
        · rw [if_neg d4] at hz
          have HZ := Lib.hid hz
          clear hz hh
          go_wp2_with fail
          all_goals go_ret3
          all_goals exact ⟨by rw [HZ.out]; rfl, rfl⟩
      · rw [if_neg d3] at hz
        have HZ := Lib.hid hz
        clear hz hh
        go_wp2_with fail
        all_goals go_ret3
        all_goals exact ⟨by rw [HZ.out]; rfl, rfl⟩

theorem rune_any (s : ByteArray) (h0 : 0 < s.size) (w : World) :
    Calls Tryz.prog 135 #[.string s] w fun e w' => e = .returned (told3 (runeR s.data.toList)) ∧ w = w' := by
  have hl : s.data.toList.length = s.size := (size_eq s).symm
  unfold runeR
  rw [getD_at s 0 h0, hl]
  by_cases k0 : (s[0]'h0).toNat < 128
  · rw [if_pos k0]
    exact rune_one s h0 w k0
  rw [if_neg k0]
  by_cases k1 : (s[0]'h0).toNat < 194
  · rw [if_pos k1]
    exact rune_bad s h0 w (by omega) (Or.inl k1)
  rw [if_neg k1]
  by_cases k2 : (s[0]'h0).toNat < 224
  · rw [if_pos k2]
    exact rune_m2 s h0 w (by omega) k2 _ rfl
  rw [if_neg k2]
  by_cases k3 : (s[0]'h0).toNat < 240
  · rw [if_pos k3]
    exact rune_m3 s h0 w (by omega) k3 _ rfl
  rw [if_neg k3]
  by_cases k4 : (s[0]'h0).toNat < 245
  · rw [if_pos k4]
    exact rune_m4 s h0 w (by omega) k4 _ rfl
  rw [if_neg k4]
  exact rune_bad s h0 w (by omega) (Or.inr (by omega))
/-- the document's reading, in one word -/
theorem rune_said (s : ByteArray) (h0 : 0 < s.size) (w : World) :
    Calls Tryz.prog 135 #[.string s] w fun e w' => e = .returned (.tuple #[.int .i64 (decodeL s.data.toList).1, .int .i64 (decodeL s.data.toList).2, .bool (!strayL s.data.toList)]) ∧ w = w' := by
  refine (rune_any s h0 w).mono fun e w' ⟨he, hw⟩ => ⟨?_, hw⟩
  rw [he, runeR_eq]
  rfl
theorem ckr_nil (s : ByteArray) (w : World) (h : s.toList.isEmpty = true) :
    Calls Tryz.prog 116 #[.string s] w fun e w' => e = .returned (.int .i64 206) ∧ w = w' := by
  go_enter Tryz.func116, Tryz.ntmps116
  go_wp2_with fail
  all_goals go_ret
  all_goals exact ⟨rfl, rfl⟩
theorem ckr_long (s : ByteArray) (w : World) (h : s.toList.isEmpty = false) (h1 : 100 < s.size) :
    Calls Tryz.prog 116 #[.string s] w fun e w' => e = .returned (.int .i64 208) ∧ w = w' := by
  go_enter Tryz.func116, Tryz.ntmps116
  go_wp2_with fail
  all_goals go_ret
  all_goals exact ⟨rfl, rfl⟩
theorem ckr_dot (s : ByteArray) (w : World) (h : s.toList.isEmpty = false) (h1 : ¬ 100 < s.size) (h2 : s.toList = [46] ∨ s.toList = [46, 46]) :
    Calls Tryz.prog 116 #[.string s] w fun e w' => e = .returned (.int .i64 206) ∧ w = w' := by
  rcases h2 with h2 | h2
  · have e1 : (s.toList == [46]) = true := by rw [h2]; rfl
    clear h2
    go_enter Tryz.func116, Tryz.ntmps116
    go_wp2_with fail
    all_goals go_ret
    all_goals exact ⟨rfl, rfl⟩
  · have e1 : (s.toList == [46]) = false := by rw [h2]; rfl
    have e2 : (s.toList == [46, 46]) = true := by rw [h2]; rfl
    clear h2
    go_enter Tryz.func116, Tryz.ntmps116
    go_wp2_with fail
    all_goals go_ret
    all_goals exact ⟨rfl, rfl⟩

set_option maxHeartbeats 2000000 in
set_option maxRecDepth 100000 in
theorem ckr_loop (s : ByteArray) (w : World) (h : s.toList.isEmpty = false) (h1 : ¬ 100 < s.size) (e1 : (s.toList == [46]) = false) (e2 : (s.toList == [46, 46]) = false) (z : Int) (hz : Hid (z = if badL s.size s.data.toList then 206 else 0)) :
    Calls Tryz.prog 116 #[.string s] w fun e w' => e = .returned (.int .i64 z) ∧ w = w' := by
  go_enter Tryz.func116, Tryz.ntmps116
  go_wp2_with fail
  go_loop [3] (fun vi => ∃ (i fuel : Nat), vi = .int .i64 i ∧ i ≤ s.size ∧ s.size ≤ i + fuel ∧ Hid (z = if badL fuel (s.data.toList.drop i) then 206 else 0))
    (fun vi => s.size - (RowKit.intOf vi).toNat)
  case atStart => exact ⟨0, s.size, rfl, by omega, by omega, hz⟩
  case round =>
    obtain ⟨i, fuel, rfl, hi, hfu, hh⟩ := hrel
    by_cases hia : i < s.size
    · obtain ⟨f, rfl⟩ : ∃ f, fuel = f + 1 := ⟨fuel - 1, by omega⟩
      have hn := hh.out
      rw [badL, if_neg (drop_ne s i hia), drop_drop'] at hn
      clear hh
      have sa : (s.extract i s.size).size = s.size - i := by rw [size_eq, extract_drop, List.length_drop, ← size_eq]
      have ca := fun W => rune_said (s.extract i s.size) (by omega) W
      rw [extract_drop] at ca
      have wa := width_le _ (drop_ne s i hia)
      have pa := decodeL_width (s.data.toList.drop i)
      rw [List.length_drop, ← size_eq] at wa
      obtain ⟨p, hp⟩ : ∃ p, p = decodeL (s.data.toList.drop i) := ⟨_, rfl⟩
      rw [← hp] at ca wa pa hn
      cases hst : strayL (s.data.toList.drop i) with
      | true =>
        rw [hst] at ca hn
        obtain rfl : z = 206 := by rw [hn]; simp
        have CA := Lib.hid ca
        clear ca hp sa hn hst
        go_wp2_with fail
        refine (CA.out _).mono ?_
        rintro e w2 ⟨rfl, rfl⟩
        go_wp2_with fail
        all_goals go_ret
        all_goals exact ⟨rfl, rfl⟩
      | false =>
        rw [hst] at ca hn
        have CA := Lib.hid ca
        clear ca hp sa hst
        by_cases r47 : p.1 = 47
        · obtain rfl : z = 206 := by rw [hn, r47]; rfl
          have e47 : ((p.1 : Int) == 47) = true := by simp [r47]
          clear hn r47
          go_wp2_with fail
          refine (CA.out _).mono ?_
          rintro e w2 ⟨rfl, rfl⟩
          go_wp2_with fail
          all_goals go_ret
          all_goals exact ⟨rfl, rfl⟩
        · have e47 : ((p.1 : Int) == 47) = false := by simp; omega
          by_cases r0 : p.1 = 0
          · obtain rfl : z = 206 := by rw [hn, r0]; rfl
            have e0 : ((p.1 : Int) == 0) = true := by simp [r0]
            clear hn r0 r47
            go_wp2_with fail
            refine (CA.out _).mono ?_
            rintro e w2 ⟨rfl, rfl⟩
            go_wp2_with fail
            all_goals go_ret
            all_goals exact ⟨rfl, rfl⟩
          · have e0 : ((p.1 : Int) == 0) = false := by simp; omega
            rw [decide_eq_false r47, decide_eq_false r0] at hn
            have HN : Hid (z = if badL f (s.data.toList.drop (i + p.2)) then 206 else 0) := hn
            clear hn r0 r47
            go_wp2_with fail
            refine (CA.out _).mono ?_
            rintro e w2 ⟨rfl, rfl⟩
            go_wp2_with fail
            go_round
            case rel => exact ⟨i + p.2, f, by go_num, by omega, by omega, HN⟩
            case measure => simp [RowKit.intOf]; omega
    · obtain rfl : z = 0 := by
        have := hh.out
        rw [drop_all s i hia, badL_nil] at this
        exact this
      clear hh
      go_wp2_with fail
      go_ret
      exact ⟨rfl, rfl⟩

theorem check_ref (s : ByteArray) (w : World) :
    Calls Tryz.prog 116 #[.string s] w fun e w' => e = .returned (.int .i64 (checkL s.data.toList)) ∧ w = w' := by
  unfold checkL
  have hl : s.data.toList.length = s.size := (size_eq s).symm
  have ht : s.toList = s.data.toList := toList_data s
  by_cases h0 : s.data.toList = []
  · rw [if_pos h0]
    exact ckr_nil s w (by rw [ht, h0]; rfl)
  · have he : s.toList.isEmpty = false := by rw [ht]; simpa using h0
    rw [if_neg h0, hl]
    by_cases h1 : 100 < s.size
    · rw [if_pos h1]
      exact ckr_long s w he h1
    · rw [if_neg h1]
      by_cases h2 : s.data.toList = [46] ∨ s.data.toList = [46, 46]
      · rw [if_pos h2]
        exact ckr_dot s w he h1 (by rw [ht]; exact h2)
      · rw [if_neg h2]
        exact ckr_loop s w he h1 (by rw [ht]; simpa using fun h => h2 (Or.inl h)) (by rw [ht]; simpa using fun h => h2 (Or.inr h)) _ (by show _ = _; rfl)
end Go.Proofs.YtpjgkboafmebbaaGreatDoor.Nm
namespace Go.Proofs.YtpjgkboafmebbaaGreatDoor.Sh
end Go.Proofs.YtpjgkboafmebbaaGreatDoor.Sh
namespace Go.Proofs.YtpjgkboafmebbaaGreatDoor.Sh
open Go.RowKit Go.Lib Lb
theorem le_B {x y : ByteArray} : (Op.bytesLess y.toList x.toList || y.toList == x.toList) = !ltB x y := by
  unfold ltB
  cases h : Op.bytesLess x.toList y.toList with
  | true =>
    have h1 : Op.bytesLess y.toList x.toList = false := by
      cases h2 : Op.bytesLess y.toList x.toList with
      | false => rfl
      | true => have := bl_tr _ _ _ h h2; rw [bl_irr] at this; cases this
    have h2 : (y.toList == x.toList) = false := by
      cases h3 : y.toList == x.toList with
      | false => rfl
      | true => have e := eq_of_beq h3; rw [e, bl_irr] at h; cases h
    rw [h1, h2]; rfl
  | false =>
    by_cases e : y.toList = x.toList
    · rw [e]; simp
    · have h1 : Op.bytesLess y.toList x.toList = true := by
        rcases bl_tot _ _ e with h2 | h2
        · exact h2
        · rw [h] at h2; cases h2
      rw [h1]; rfl
set_option maxHeartbeats 2000000 in
set_option maxRecDepth 100000 in
theorem rising_any (ao : Option Addr) (l : List ByteArray) (n c : Nat) (w : World) (h : Srw w ao l) (hln : l.length = n) (hc : n ≤ c) (hcc : c ≤ 9223372036854775807) :
    Calls Tryz.prog 85 #[.slice ao n c] w (Tells w ((∀ s ∈ l, nameOk s) ∧ SU ltB l)) := by
  have H := Lib.hid h
  have HL := Lib.hid hln
  have B0 := Lib.hid (Below.refl w.heap.size w)
  have CN := Lib.hid (fun s W => (Nm.check_ref s W).mono (fun e w' (h : e = .returned (.int .i64 (Nm.checkL s.data.toList)) ∧ W = w') => (⟨h.1, h.2.symm⟩ : e = .returned (.int .i64 (Nm.checkL s.data.toList)) ∧ w' = W)))
  clear h hln
  go_enter Tryz.func85, Tryz.ntmps85
  go_wp2_with fail
  go_loopw [3] (fun vi wr => ∃ i : Nat, i ≤ n ∧ vi = .int .i64 (i : Nat) ∧ Hid (Below w.heap.size w wr) ∧ Hid (AllTo nameOk l i) ∧ Hid (RiseTo ltB l i)) (fun vi _ => n - (RowKit.intOf vi).toNat)
  case atStart => exact ⟨0, by omega, rfl, B0, allTo_zero _ _, fun j x y h => by omega⟩
  case round =>
    obtain ⟨i, hi, rfl, hB, hA, hT⟩ := hrel
    by_cases hin : i < n
    · obtain ⟨b, o, rfl, hb, hcell⟩ := srw_cells H.out i (by have := HL.out; omega)
      obtain ⟨y, hy⟩ : ∃ y, l[i]? = some y := ⟨_, List.getElem?_eq_getElem (by have := HL.out; omega)⟩
      have HY := Lib.hid hy
      have d2 : wr.cell? ⟨b, o + i, none⟩ = some (.string y) := (hB.out.cell (p := ⟨b, o + i, none⟩) hb).trans (hcell i y hy)
      have d3 := Lib.hid (fun j z (hz : l[j]? = some z) => (hB.out.cell (p := ⟨b, o + j, none⟩) hb).trans (hcell j z hz))
      have q1 : (0 : Int) ≤ (i : Int) := by omega
      have q2 : (i : Int) < (n : Int) := by omega
      have CY := Lib.hid (fun W => CN.out y W)
      have HN : Hid (nameOk y ↔ Nm.checkL y.data.toList = 0) := Iff.rfl
      obtain ⟨z, hz⟩ : ∃ z, z = Nm.checkL y.data.toList := ⟨_, rfl⟩
      rw [← hz] at CY HN
      clear hz hy hcell hb
      by_cases hz0 : z = 0
      rotate_left
      · have t1 : (z != 0) = true := by simpa using hz0
        have HF : Hid (¬ ((∀ s ∈ l, nameOk s) ∧ SU ltB l)) := fun h0 => hz0 (HN.out.1 (h0.1 y (List.mem_of_getElem? HY.out)))
        clear hz0 d3
        go_wp2_with fail
        go_quiet ((go_at_call 116; with_reducible exact Calls.quiet_of_same (CY.out _)))
        generalize hwv : wr.drewN nq = wv at *
        have hB2 : Hid (Below w.heap.size w wv) := by show Below _ _ _; rw [← hwv]; exact below_drewN hB.out _
        clear hwv
        go_wp2_with fail
        go_ret
        exact ⟨⟨false, rfl, by simp [HF.out]⟩, hB2.out⟩
      · subst hz0
        have hA2 : Hid (AllTo nameOk l (i + 1)) := allTo_more hA.out HY.out (HN.out.2 rfl)
        by_cases h0 : 0 < i
        rotate_left
        · have t6 : decide (0 < i) = false := by simpa using h0
          have t7 : decide ((0 : Int) < (i : Int)) = false := by simp; omega
          have hT2 : Hid (RiseTo ltB l (i + 1)) := fun j x y h => by omega
          clear h0 d3
          go_wp2_with fail
          go_quiet ((go_at_call 116; with_reducible exact Calls.quiet_of_same (CY.out _)))
          generalize hwv : wr.drewN nq = wv at *
          have hB2 : Hid (Below w.heap.size w wv) := by show Below _ _ _; rw [← hwv]; exact below_drewN hB.out _
          clear hwv d2 hB
          go_wp2_with fail
          go_roundw
          case rel => exact ⟨i + 1, by omega, by go_num, hB2, hA2, hT2⟩
          case measure => simp [RowKit.intOf]; omega
        · obtain ⟨j, hj⟩ : ∃ j, i = j + 1 := ⟨i - 1, by omega⟩
          obtain ⟨x, hx⟩ : ∃ x, l[j]? = some x := ⟨_, List.getElem?_eq_getElem (by have := HL.out; omega)⟩
          have d4 := d3.out j x hx
          have HX := Lib.hid hx
          have t6 : decide (0 < i) = true := by simp; omega
          have t7 : decide ((0 : Int) < (i : Int)) = true := by simp; omega
          have w2 : IntKind.i64.wrap (j : Int) = (j : Int) := IntWalk.i64_in _ (by omega)
          have w4 : (i : Int) - 1 = (j : Int) := by omega
          have q3 : (0 : Int) ≤ (j : Int) := by omega
          have q4 : (j : Int) < (n : Int) := by omega
          have q5 : j < n := by omega
          have HJ := Lib.hid hj
          obtain ⟨t, ht⟩ : ∃ t, t = !ltB x y := ⟨_, rfl⟩
          have HTT := Lib.hid ht
          have t8 : (Op.bytesLess y.toList x.toList || y.toList == x.toList) = t := by rw [ht]; exact le_B
          clear hj hx d3 h0 ht
          cases t with
          | true =>
            have HF : Hid (¬ ((∀ s ∈ l, nameOk s) ∧ SU ltB l)) := fun h0 => by
              have e := HJ.out
              subst e
              have h1 := su_next ltB l h0.2 j (by have := (List.getElem?_eq_some_iff.1 HY.out).1; exact this)
              rw [(List.getElem?_eq_some_iff.1 HY.out).2, (List.getElem?_eq_some_iff.1 HX.out).2] at h1
              have h2 := HTT.out
              rw [h1] at h2
              cases h2
            go_wp2_with fail
            go_quiet ((go_at_call 116; with_reducible exact Calls.quiet_of_same (CY.out _)))
            generalize hwv : wr.drewN nq = wv at *
            have hB2 : Hid (Below w.heap.size w wv) := by show Below _ _ _; rw [← hwv]; exact below_drewN hB.out _
            clear hwv
            go_wp2_with fail
            go_ret
            exact ⟨⟨false, rfl, by simp [HF.out]⟩, hB2.out⟩
          | false =>
            have hT2 : Hid (RiseTo ltB l (i + 1)) := by
              show RiseTo _ _ _
              have e := HJ.out
              subst e
              exact riseTo_more hT.out HX.out HY.out (by have := HTT.out; simpa using this.symm)
            go_wp2_with fail
            go_quiet ((go_at_call 116; with_reducible exact Calls.quiet_of_same (CY.out _)))
            generalize hwv : wr.drewN nq = wv at *
            have hB2 : Hid (Below w.heap.size w wv) := by show Below _ _ _; rw [← hwv]; exact below_drewN hB.out _
            clear hwv d2 d4 hB
            go_wp2_with fail
            go_roundw
            case rel => exact ⟨i + 1, by omega, by go_num, hB2, hA2, hT2⟩
            case measure => simp [RowKit.intOf]; omega
    · have hjn : i = n := by omega
      have HJN := Lib.hid hjn
      clear hjn
      go_wp2_with fail
      go_ret
      exact ⟨⟨true, rfl, by simp only [true_iff]; exact ⟨allTo_of hA.out (by rw [HJN.out]; exact HL.out), riseTo_all ords_B hT.out (by rw [HL.out, HJN.out]; exact Nat.le_refl _)⟩⟩, hB.out⟩
set_option maxHeartbeats 2000000 in
set_option maxRecDepth 100000 in
theorem listok_any (o : Bool) (sv zv : Option Addr) (ls : List ByteArray) (lz : List Int) (n sc m zc : Nat) (w : World) (hs : Srw w sv ls) (hls : ls.length = n) (hsc : n ≤ sc) (hscc : sc ≤ 9223372036854775807)
    (hz : Zrw w zv lz) (hlz : lz.length = m) (hzc : m ≤ zc) (_ : zc ≤ 9223372036854775807) :
    Calls Tryz.prog 49 #[.agg #[.bool o, .slice sv n sc, .slice zv m zc]] w (Tells w (OkList ltB nameOk ⟨o, ls, lz⟩)) := by
  have HS := Lib.hid hls
  have HZ := Lib.hid hlz
  have H2 := Lib.hid hz
  have CW := Lib.hid (fun y W => within_any y 0 1024 W)
  have B0 : Hid (Below w.heap.size w (w.alloc (.cells #[.bool o, .slice sv n sc, .slice zv m zc] 30))) := (Below.refl _ w).alloc (Nat.le_refl _) _
  have K0 : Hid (Blk (w.alloc (.cells #[.bool o, .slice sv n sc, .slice zv m zc] 30)) w.heap.size [.bool o, .slice sv n sc, .slice zv m zc] 30) := Blk.new w [.bool o, .slice sv n sc, .slice zv m zc] 30 _ rfl
  have CR := Lib.hid (rising_any sv ls n sc (w.alloc (.cells #[.bool o, .slice sv n sc, .slice zv m zc] 30)) (hs.below B0.out) hls hsc hscc)
  have x0 := K0.out.cell 0
  have x1 := K0.out.cell 1
  have x2 := K0.out.cell 2
  simp only [List.getElem?_cons_zero, List.getElem?_cons_succ] at x0 x1 x2
  clear hs hls hz hlz
  by_cases h256 : 256 < n
  · have t1 : decide (256 < n) = true := by simp; omega
    have t2 : decide ((256 : Int) < (n : Int)) = true := by simp; omega
    have HF : Hid (¬ OkList ltB nameOk ⟨o, ls, lz⟩) := fun h0 => by have := h0.most; have := HS.out; simp only at *; omega
    clear h256
    go_enter Tryz.func49, Tryz.ntmps49
    go_wp2_with fail
    go_ret
    exact ⟨⟨false, rfl, by simp [HF.out]⟩, B0.out⟩
  · have t1 : decide (256 < n) = false := by simp; omega
    have t2 : decide ((256 : Int) < (n : Int)) = false := by simp; omega
    have H256 := Lib.hid (Nat.le_of_not_lt h256)
    clear h256
    go_enter Tryz.func49, Tryz.ntmps49
    go_wp2_with fail
    refine CR.out.mono ?_
    clear CR
    rintro e w1 ⟨⟨t, rfl, ht⟩, hb⟩
    have B1 := Lib.hid (below_chain B0.out hb)
    have K1 := Lib.hid (K0.out.low hb)
    have HT := Lib.hid ht
    clear x0 x1 x2 ht hb B0 K0
    have x0 := K1.out.cell 0
    have x1 := K1.out.cell 1
    have x2 := K1.out.cell 2
    simp only [List.getElem?_cons_zero, List.getElem?_cons_succ] at x0 x1 x2
    cases t with
    | false =>
      have HF : Hid (¬ OkList ltB nameOk ⟨o, ls, lz⟩) := fun h0 => by have := HT.out.2 ⟨h0.names, h0.rising⟩; cases this
      go_wp2_with fail
      go_ret
      exact ⟨⟨false, rfl, by simp [HF.out]⟩, B1.out⟩
    | true =>
      by_cases hq : m = n
      rotate_left
      · have t3 : ((m : Int) != (n : Int)) = true := by simp; omega
        have t4 : (m == n) = false := by simp; omega
        have HF : Hid (¬ OkList ltB nameOk ⟨o, ls, lz⟩) := fun h0 => by have h1 := h0.same; have := HS.out; have := HZ.out; simp only at h1; omega
        go_wp2_with fail
        go_ret
        exact ⟨⟨false, rfl, by simp [HF.out]⟩, B1.out⟩
      · subst hq
        have t3 : ((m : Int) != (m : Int)) = false := by simp
        go_wp2_with fail
        go_loopw [3] (fun vi wr => ∃ i : Nat, i ≤ m ∧ vi = .int .i64 i ∧ Hid (Below w.heap.size w wr) ∧ Hid (Blk wr w.heap.size [.bool o, .slice sv m sc, .slice zv m zc] 30) ∧ Hid (AllTo (fun x => within x 0 1024 ∧ (o = true → x ≠ 0)) lz i)) (fun vi _ => m - (RowKit.intOf vi).toNat)
        case atStart => exact ⟨0, by omega, rfl, B1.out, K1.out, allTo_zero _ _⟩
        case round =>
          obtain ⟨i, hi, rfl, hB, hK, hA⟩ := hrel
          have x0 := hK.out.cell 0
          have x1 := hK.out.cell 1
          have x2 := hK.out.cell 2
          simp only [List.getElem?_cons_zero, List.getElem?_cons_succ] at x0 x1 x2
          by_cases hin : i < m
          · have q1 : (0 : Int) ≤ (i : Int) := by omega
            have q2 : (i : Int) < (m : Int) := by omega
            obtain ⟨b, oo, rfl, hb, hcell⟩ := zrw_cell H2.out i (by have := HZ.out; omega)
            obtain ⟨y, hy⟩ : ∃ y, lz[i]? = some y := ⟨_, List.getElem?_eq_getElem (by have := HZ.out; omega)⟩
            have d1 : wr.cell? ⟨b, oo + i, none⟩ = some (.int .i64 y) := (hB.out.cell (p := ⟨b, oo + i, none⟩) hb).trans (hcell i y hy)
            have HY := Lib.hid hy
            have CY := Lib.hid (fun W => CW.out y W)
            clear hy hcell hb
            by_cases hw : within y 0 1024
            rotate_left
            · have hwt : decide (within y 0 1024) = false := by simpa using hw
              rw [hwt] at CY
              have HW := Lib.hid hw
              have HF : Hid (¬ OkList ltB nameOk ⟨o, ls, lz⟩) := fun h0 => HW.out (h0.nums y (List.mem_of_getElem? HY.out))
              clear hw hwt CW
              go_wp2_with fail
              refine (CY.out _).mono ?_
              rintro e w2 ⟨rfl, rfl⟩
              go_wp2_with fail
              go_ret
              exact ⟨⟨false, rfl, by simp [HF.out]⟩, hB.out⟩
            · have hwt : decide (within y 0 1024) = true := by simpa using hw
              rw [hwt] at CY
              have HW := Lib.hid hw
              clear hw hwt
              cases o with
              | false =>
                have hA2 : Hid (AllTo (fun x => within x 0 1024 ∧ (false = true → x ≠ 0)) lz (i + 1)) := allTo_more hA.out HY.out ⟨HW.out, fun h => by cases h⟩
                go_wp2_with fail
                refine (CY.out _).mono ?_
                rintro e w2 ⟨rfl, rfl⟩
                go_wp2_with fail
                go_roundw
                case rel => exact ⟨i + 1, by omega, by go_num, hB, hK, hA2⟩
                case measure => simp [RowKit.intOf]; omega
              | true =>
                by_cases hy0 : y = 0
                · have t5 : (y == 0) = true := by simpa using hy0
                  have HF : Hid (¬ OkList ltB nameOk ⟨true, ls, lz⟩) := fun h0 => h0.opq rfl (hy0 ▸ List.mem_of_getElem? HY.out)
                  clear hy0
                  go_wp2_with fail
                  refine (CY.out _).mono ?_
                  rintro e w2 ⟨rfl, rfl⟩
                  go_wp2_with fail
                  go_ret
                  exact ⟨⟨false, rfl, by simp [HF.out]⟩, hB.out⟩
                · have t5 : (y == 0) = false := by simpa using hy0
                  have hA2 : Hid (AllTo (fun x => within x 0 1024 ∧ (true = true → x ≠ 0)) lz (i + 1)) := allTo_more hA.out HY.out ⟨HW.out, fun _ => hy0⟩
                  clear hy0
                  go_wp2_with fail
                  refine (CY.out _).mono ?_
                  rintro e w2 ⟨rfl, rfl⟩
                  go_wp2_with fail
                  go_roundw
                  case rel => exact ⟨i + 1, by omega, by go_num, hB, hK, hA2⟩
                  case measure => simp [RowKit.intOf]; omega
          · obtain rfl : i = m := by omega
            have AL := Lib.hid (allTo_of hA.out HZ.out)
            have OK : Hid (OkList ltB nameOk ⟨o, ls, lz⟩) :=
              { most := by have := H256.out; have := HS.out; show ls.length ≤ 256; omega
                names := (HT.out.1 trivial).1, rising := (HT.out.1 trivial).2
                same := by show lz.length = ls.length; rw [HZ.out, HS.out]
                nums := fun x hx => (AL.out x hx).1
                opq := fun h h0 => (AL.out 0 h0).2 h rfl }
            go_wp2_with fail
            go_ret
            exact ⟨⟨true, rfl, by simp only [true_iff]; exact OK.out⟩, hB.out⟩
end Go.Proofs.YtpjgkboafmebbaaGreatDoor.Sh
namespace Go.Proofs.YtpjgkboafmebbaaGreatDoor.Sh
open Go.RowKit Go.Lib Lb
theorem own_of_blk {w : World} {B g : Nat} {l : List UInt8} (h : Blk w g (bs l) 5) (hB : B ≤ g) (hl : l.length ≤ 9223372036854775807) : Own w B (.slice (some ⟨g, 0, none⟩) l.length l.length) l :=
  ⟨by simp [bs], .inr ⟨g, l.length, _, rfl, hB, h, Nat.le_refl _, by unfold maxLen; omega, by simp [bs], List.take_of_length_le (by simp [bs])⟩⟩
theorem textL_len (s : ByteArray) (h : s.data.toList.length ≤ 100) : 1 ≤ (textL s).length ∧ (textL s).length ≤ 110 := by
  have h1 := putL_len s.data.toList.length
  unfold textL dataL
  rw [List.length_append]
  omega
set_option maxHeartbeats 4000000 in
set_option maxRecDepth 100000 in
theorem refputlisting_any (o : Bool) (sv zv : Option Addr) (ls : List ByteArray) (lz : List Int) (n sc m zc : Nat) (w : World) (hs : Srw w sv ls) (hls : ls.length = n) (hsc : n ≤ sc) (hscc : sc ≤ 9223372036854775807)
    (hz : Zrw w zv lz) (hlz : lz.length = m) (hzc : m ≤ zc) (hzcc : zc ≤ 9223372036854775807) :
    Calls Tryz.prog 20 #[.agg #[.bool o, .slice sv n sc, .slice zv m zc]] w (Gives w (OkList ltB nameOk ⟨o, ls, lz⟩) (listL ⟨o, ls, lz⟩) 80) := by
  have HS := Lib.hid hls
  have HZ := Lib.hid hlz
  have H1 := Lib.hid hs
  have H2 := Lib.hid hz
  have B0 : Hid (Below w.heap.size w (w.alloc (.cells #[.bool o, .slice sv n sc, .slice zv m zc] 30))) := (Below.refl _ w).alloc (Nat.le_refl _) _
  have K0 : Hid (Blk (w.alloc (.cells #[.bool o, .slice sv n sc, .slice zv m zc] 30)) w.heap.size [.bool o, .slice sv n sc, .slice zv m zc] 30) := Blk.new w [.bool o, .slice sv n sc, .slice zv m zc] 30 _ rfl
  have RT := Lib.hid (listok_any o sv zv ls lz n sc m zc (w.alloc (.cells #[.bool o, .slice sv n sc, .slice zv m zc] 30)) (hs.below B0.out) hls hsc hscc (hz.below B0.out) hlz hzc hzcc)
  have x0 := K0.out.cell 0
  have x1 := K0.out.cell 1
  have x2 := K0.out.cell 2
  simp only [List.getElem?_cons_zero, List.getElem?_cons_succ] at x0 x1 x2
  clear hs hls hz hlz
  go_enter Tryz.func20, Tryz.ntmps20
  go_wp2_with fail
  refine RT.out.mono ?_
  rintro e w1 ⟨⟨b, rfl, hbb⟩, hb1⟩
  have HBB := Lib.hid hbb
  have B1 := Lib.hid (below_chain B0.out hb1)
  have K1 := Lib.hid (K0.out.low hb1)
  clear x0 x1 x2 hbb hb1
  have x0 := K1.out.cell 0
  have x1 := K1.out.cell 1
  have x2 := K1.out.cell 2
  simp only [List.getElem?_cons_zero, List.getElem?_cons_succ] at x0 x1 x2
  cases b with
  | false =>
    have HF : Hid (¬ OkList ltB nameOk ⟨o, ls, lz⟩) := fun h0 => by have := HBB.out.2 h0; cases this
    go_wp2_with fail
    go_ret2
    exact ⟨B1.out, .inr ⟨HF.out, rfl⟩⟩
  | true =>
    have HT : Hid (OkList ltB nameOk ⟨o, ls, lz⟩) := HBB.out.1 rfl
    have hn256 : n ≤ 256 := by have := HT.out.most; have := HS.out; simp only at *; omega
    have hmn : m = n := by have := HT.out.same; have := HS.out; have := HZ.out; simp only at *; omega
    subst hmn
    clear HBB RT K0 B0
    have G1 := Lib.hid (World.block_lt_of_cell? w1 _ x1)
    obtain ⟨f, hf⟩ : ∃ f : UInt8, f = if o = true then 1 else 0 := ⟨_, rfl⟩
    obtain ⟨wx, hwx⟩ : ∃ wx, wx = w1.alloc (.cells #[.int .u8 (f.toNat : Int)] 5) := ⟨_, rfl⟩
    have BN : Blk (w1.alloc (.cells #[.int .u8 0] 5)) w1.heap.size [.int .u8 0] 5 := Blk.new w1 [.int .u8 0] 5 _ rfl
    have KX0 := K1.out.alloc (.cells #[.int .u8 0] 5)
    have GB : w.heap.size + 1 ≤ w1.heap.size := by have := G1.out; simp only at this; omega
    have BX : Hid (Below w.heap.size w wx) := by
      show Below _ _ _
      rw [hwx]
      exact below_alloc B1.out _
    have KX : Hid (Blk wx w.heap.size [.bool o, .slice sv m sc, .slice zv m zc] 30) := by
      show Blk _ _ _ _
      rw [hwx]
      exact K1.out.alloc _
    have OX : Hid (Own wx (w.heap.size + 1) (.slice (some ⟨w1.heap.size, 0, none⟩) 1 1) [f]) := by
      show Own _ _ _ _
      refine own_of_blk (l := [f]) ?_ GB (by simp)
      rw [hwx]
      exact Blk.new w1 [.int .u8 (f.toNat : Int)] 5 _ rfl
    have CN := Lib.hid (refnum_any (m : Int) (by omega) (by omega) wx)
    have FL : Hid (flagL o = [f]) := by
      show _ = _
      rw [hf]
      cases o with
      | true => exact num_1
      | false => exact num_0
    have b0 := BN.cell 0
    have fb := BN.frozen 0
    have z1 := KX.out.cell 1
    have y0 := KX0.cell 0
    simp only [List.getElem?_cons_zero, List.getElem?_cons_succ] at b0 z1 y0
    clear BN KX0 B1 K1 GB
    cases o with
    | false =>
      simp only [Bool.false_eq_true, if_false] at hf
      rw [hf] at hwx
      clear hf
      simp only [UInt8.toNat_ofNat, Nat.reducePow, Nat.reduceMod, Int.cast_ofNat_Int] at hwx
      rw [hwx] at z1
      go_wp2_with fail
      rw [← hwx]
      clear hwx z1 b0 fb x0 x1 x2 y0
      generalize w1.heap.size = gb at *
      clear G1
      refine CN.out.mono ?_
      rintro e w4 ⟨b2, v4, rfl, o4⟩
      obtain ⟨g2, p2, rfl, z1, z2, z3, z4, z5⟩ := own_some o4 (numL_len (m : Int)).1
      have B4 := Lib.hid (below_chain BX.out b2)
      have K4 := Lib.hid (KX.out.low b2)
      have O4 := Lib.hid (own_below OX.out b2)
      have Z5 := Lib.hid z5
      have KL := numL_len (m : Int)
      obtain ⟨kl, hkl⟩ : ∃ kl, kl = numL (m : Int) := ⟨_, rfl⟩
      have HKL := Lib.hid hkl
      rw [← hkl] at KL Z5 z3 ⊢
      obtain ⟨kn, hkn⟩ : ∃ kn, kl.length = kn := ⟨_, rfl⟩
      have HKN := Lib.hid hkn
      rw [hkn] at z3 KL ⊢
      have p3 : [f].length + kn ≤ 140737488355328 := by simp; omega
      have hL2 : Hid (([f] ++ kl).length ≤ 11) := by show _ ≤ _; rw [List.length_append, hkn]; simp; omega
      clear o4 b2 BX KX CN OX z5 hkl hkn KL
      go_wp2_with (at_builtin; refine wpl_app_len (t := 36) (e := 5) rfl (.tmp 15) (.tmp 19) rfl Tryz.underlying36 info5 (w.heap.size + 1) _ [f] kl rfl O4.out (some ⟨g2, 0, none⟩) kn p2 rfl Z5.out (fun h => by cases h) HKN p3 K4.out.lt ?_; intro v' w' hown' hgrow)
      have B5 := Lib.hid (B4.out.grown hgrow B4.out.size (fun k hk => Nat.le_of_succ_le (O4.out.lt k hk).1))
      have K5 := Lib.hid (blk_row K4.out hgrow (own_ne O4.out (Nat.lt_succ_self _)))
      have O5 : Hid (Own w' (w.heap.size + 1) v' ([f] ++ kl)) := hown'
      obtain ⟨HD, hHD⟩ : ∃ HD, HD = [f] ++ kl := ⟨_, rfl⟩
      have HHD := Lib.hid hHD
      rw [← hHD] at O5 hL2
      clear hgrow hown' B4 K4 O4 Z5 HKN p3 hHD z1 z2 z3 z4
      go_loopw [4, 5] (fun vb vi wr => ∃ i : Nat, i ≤ m ∧ vi = .int .i64 i ∧ Hid (Below w.heap.size w wr) ∧ Hid (Blk wr w.heap.size [.bool false, .slice sv m sc, .slice zv m zc] 30) ∧ Hid (Own wr (w.heap.size + 1) vb (HD ++ (ls.take i).flatMap textL)) ∧ Hid ((HD ++ (ls.take i).flatMap textL).length ≤ 11 + 110 * i)) (fun _ vi _ => m - (RowKit.intOf vi).toNat)
      case atStart => exact ⟨0, by omega, rfl, B5.out, K5.out, by show Own _ _ _ _; simpa using O5.out, by show _ ≤ _; simpa using hL2.out⟩
      case round =>
        obtain ⟨i, hi, rfl, hB, hK, hO, hL⟩ := hrel
        have c1 := hK.out.cell 1
        have c2 := hK.out.cell 2
        simp only [List.getElem?_cons_zero, List.getElem?_cons_succ] at c1 c2
        by_cases hin : i < m
        · obtain ⟨b, o, x, rfl, hb, hx, hcell⟩ := srw_cell H1.out i (by have := HS.out; omega)
          have HX := Lib.hid hx
          have d1 : wr.cell? ⟨b, o + i, none⟩ = some (.string x) := (hB.out.cell (p := ⟨b, o + i, none⟩) hb).trans hcell
          have XL := nameOk_len x (HT.out.names x (List.mem_of_getElem? hx))
          have TL := textL_len x XL
          obtain ⟨cq, W, hcv, hW, hr⟩ := conv_text x wr
          have CK := Lib.hid (refbytes2_any _ x.data.toList x.data.toList.length cq W hr (fun h => by cases h) rfl (by omega))
          have HW := Lib.hid hW
          have q1 : (0 : Int) ≤ (i : Int) := by omega
          have q2 : (i : Int) < (m : Int) := by omega
          obtain ⟨xl, hxl⟩ : ∃ xl, xl = x.data.toList.length := ⟨_, rfl⟩
          rw [← hxl] at hcv CK
          obtain ⟨kl, hkl⟩ : ∃ kl, kl = textL x := ⟨_, rfl⟩
          have CK2 : Hid (Calls Tryz.prog 44 #[.slice (some ⟨wr.heap.size, 0, none⟩) xl cq] W fun e w' => Below W.heap.size W w' ∧ ∃ v, e = .returned v ∧ Own w' W.heap.size v kl) := by show Calls _ _ _ _ _; rw [hkl]; exact CK.out
          have HS2 : Hid ((ls.take (i + 1)).flatMap textL = (ls.take i).flatMap textL ++ kl) := by
            show _ = _
            rw [List.take_add_one, HX.out, hkl]
            simp
          rw [← hkl] at TL
          clear hx hcell hb XL hW hr CK hxl hkl
          go_wp2_with fail
          refine CK2.out.mono ?_
          rintro e w2 ⟨b1, v2, rfl, o2⟩
          obtain ⟨g2, p2, rfl, z1, z2, z3, z4, z5⟩ := own_some o2 TL.1
          have b3 := below_chain HW.out b1
          have O2 := Lib.hid (own_below hO.out b3)
          have B2 := Lib.hid (below_chain hB.out b3)
          have K2 := Lib.hid (hK.out.low b3)
          have Z5 := Lib.hid z5
          obtain ⟨acc, hacc⟩ : ∃ acc, acc = HD ++ (ls.take i).flatMap textL := ⟨_, rfl⟩
          rw [← hacc] at O2 hL
          have p3 : acc.length + kl.length ≤ 140737488355328 := by have := hL.out; omega
          have hL3 : Hid ((acc ++ kl).length ≤ 11 + 110 * (i + 1)) := by show _ ≤ _; rw [List.length_append]; have := hL.out; omega
          have HACC := Lib.hid hacc
          obtain ⟨kn, hkn⟩ : ∃ kn, kl.length = kn := ⟨_, rfl⟩
          have HKN := Lib.hid hkn
          rw [hkn] at p3 z3 ⊢
          clear o2 z5 hacc hO hL b1 TL hkn b3 hcv CK2
          go_wp2_with (at_builtin; refine wpl_app_len (t := 36) (e := 5) rfl (.tmp 28) (.tmp 35) rfl Tryz.underlying36 info5 (w.heap.size + 1) _ acc kl rfl O2.out (some ⟨g2, 0, none⟩) kn p2 rfl Z5.out (fun h => by cases h) HKN p3 K2.out.lt ?_; intro v' w' hown' hgrow)
          have B5 := Lib.hid (B2.out.grown hgrow B2.out.size (fun k hk => Nat.le_of_succ_le (O2.out.lt k hk).1))
          have K5 := Lib.hid (blk_row K2.out hgrow (own_ne O2.out (Nat.lt_succ_self _)))
          refine ⟨⟨i + 1, by omega, by go_num, B5.out, K5.out, ?_, ?_⟩, by simp [RowKit.intOf]; omega⟩
          · show Own _ _ _ _
            rw [HS2.out, ← List.append_assoc, ← HACC.out]
            exact hown'
          · show _ ≤ _
            rw [HS2.out, ← List.append_assoc, ← HACC.out]
            exact hL3.out
        · obtain rfl : i = m := by omega
          have HD2 : Hid (HD ++ (ls.take i).flatMap textL = HD ++ ls.flatMap textL) := by
            show _ = _
            rw [← HS.out, List.take_length]
          have hO2 := hO.out
          rw [HD2.out] at hO2
          have hL2 := hL.out
          rw [HD2.out] at hL2
          have O6 := Lib.hid hO2
          have L6 : Hid ((HD ++ ls.flatMap textL).length ≤ 28171) := by show _ ≤ _; omega
          have EQ : Hid (listL ⟨false, ls, lz⟩ = (HD ++ ls.flatMap textL) ++ lz.flatMap numL) := by
            show _ = _
            rw [listL, FL.out, HS.out, HHD.out, ← HKL.out]
            simp only [List.append_assoc]
          obtain ⟨E, hE⟩ : ∃ E, E = HD ++ ls.flatMap textL := ⟨_, rfl⟩
          rw [← hE] at O6 L6 EQ
          clear hO2 hL2 HD2 hO hL hE
          go_wp2_with fail
          go_loopw [4, 6] (fun vb vi wr => ∃ j : Nat, j ≤ i ∧ vi = .int .i64 j ∧ Hid (Below w.heap.size w wr) ∧ Hid (Blk wr w.heap.size [.bool false, .slice sv i sc, .slice zv i zc] 30) ∧ Hid (Own wr (w.heap.size + 1) vb (E ++ (lz.take j).flatMap numL)) ∧ Hid ((E ++ (lz.take j).flatMap numL).length ≤ 28171 + 10 * j)) (fun _ vi _ => i - (RowKit.intOf vi).toNat)
          case atStart => exact ⟨0, by omega, rfl, hB, hK, by show Own _ _ _ _; simpa using O6.out, by show _ ≤ _; simpa using L6.out⟩
          case round =>
            obtain ⟨j, hj, rfl, hC, hJ, hP, hM⟩ := hrel
            have y1 := hJ.out.cell 1
            have y2 := hJ.out.cell 2
            simp only [List.getElem?_cons_zero, List.getElem?_cons_succ] at y1 y2
            by_cases hjn : j < i
            · obtain ⟨b, o, rfl, hb, hcell⟩ := zrw_cell H2.out j (by have := HZ.out; omega)
              obtain ⟨x, hx⟩ : ∃ y, lz[j]? = some y := ⟨_, List.getElem?_eq_getElem (by have := HZ.out; omega)⟩
              have HX := Lib.hid hx
              have d1 : wr.cell? ⟨b, o + j, none⟩ = some (.int .i64 x) := (hC.out.cell (p := ⟨b, o + j, none⟩) hb).trans (hcell j x hx)
              have XW := HT.out.nums x (List.mem_of_getElem? hx)
              have CK := Lib.hid (refnum_any x (by unfold within at XW; omega) (by unfold within at XW; omega) wr)
              have q1 : (0 : Int) ≤ (j : Int) := by omega
              have q2 : (j : Int) < (i : Int) := by omega
              clear hx hcell hb XW
              go_wp2_with fail
              refine CK.out.mono ?_
              rintro e w2 ⟨b1, v2, rfl, o2⟩
              obtain ⟨g2, p2, rfl, z1, z2, z3, z4, z5⟩ := own_some o2 (numL_len x).1
              have O2 := Lib.hid (own_below hP.out b1)
              have B2 := Lib.hid (below_chain hC.out b1)
              have K2 := Lib.hid (hJ.out.low b1)
              have HS3 : Hid ((lz.take (j + 1)).flatMap numL = (lz.take j).flatMap numL ++ numL x) := by
                show _ = _
                rw [List.take_add_one, HX.out]
                simp
              have Z5 := Lib.hid z5
              have KL := numL_len x
              obtain ⟨kl, hkl⟩ : ∃ kl, kl = numL x := ⟨_, rfl⟩
              rw [← hkl] at HS3 Z5 KL z3 ⊢
              obtain ⟨acc, hacc⟩ : ∃ acc, acc = E ++ (lz.take j).flatMap numL := ⟨_, rfl⟩
              rw [← hacc] at O2 hM
              have p3 : acc.length + kl.length ≤ 140737488355328 := by have := hM.out; omega
              have hL2 : Hid ((acc ++ kl).length ≤ 28171 + 10 * (j + 1)) := by show _ ≤ _; rw [List.length_append]; have := hM.out; omega
              have HACC := Lib.hid hacc
              obtain ⟨kn, hkn⟩ : ∃ kn, kl.length = kn := ⟨_, rfl⟩
              have HKN := Lib.hid hkn
              rw [hkn] at p3 z3 ⊢
              clear o2 z5 hkl hacc hP hM b1 KL hkn
              go_wp2_with (at_builtin; refine wpl_app_len (t := 36) (e := 5) rfl (.tmp 44) (.tmp 50) rfl Tryz.underlying36 info5 (w.heap.size + 1) _ acc kl rfl O2.out (some ⟨g2, 0, none⟩) kn p2 rfl Z5.out (fun h => by cases h) HKN p3 K2.out.lt ?_; intro v' w' hown' hgrow)
              have B5 := Lib.hid (B2.out.grown hgrow B2.out.size (fun k hk => Nat.le_of_succ_le (O2.out.lt k hk).1))
              have K5 := Lib.hid (blk_row K2.out hgrow (own_ne O2.out (Nat.lt_succ_self _)))
              refine ⟨⟨j + 1, by omega, by go_num, B5.out, K5.out, ?_, ?_⟩, by simp [RowKit.intOf]; omega⟩
              · show Own _ _ _ _
                rw [HS3.out, ← List.append_assoc, ← HACC.out]
                exact hown'
              · show _ ≤ _
                rw [HS3.out, ← List.append_assoc, ← HACC.out]
                exact hL2.out
            · obtain rfl : j = i := by omega
              have HE : Hid (E ++ (lz.take j).flatMap numL = listL ⟨false, ls, lz⟩) := by
                show _ = _
                rw [EQ.out, List.take_of_length_le (by rw [HZ.out]; exact Nat.le_refl _)]
              go_wp2_with fail
              go_ret2
              exact ⟨hC.out, .inl ⟨HT.out, _, rfl, by rw [← HE.out]; exact Own.low hP.out (Nat.le_succ _)⟩⟩
    | true =>
      simp only [if_true] at hf
      rw [hf] at hwx
      clear hf
      simp only [UInt8.toNat_ofNat, Nat.reducePow, Nat.reduceMod, Int.cast_ofNat_Int] at hwx
      rw [hwx] at z1
      go_wp2_with fail
      rw [← hwx]
      clear hwx z1 b0 fb x0 x1 x2 y0
      generalize w1.heap.size = gb at *
      clear G1
      refine CN.out.mono ?_
      rintro e w4 ⟨b2, v4, rfl, o4⟩
      obtain ⟨g2, p2, rfl, z1, z2, z3, z4, z5⟩ := own_some o4 (numL_len (m : Int)).1
      have B4 := Lib.hid (below_chain BX.out b2)
      have K4 := Lib.hid (KX.out.low b2)
      have O4 := Lib.hid (own_below OX.out b2)
      have Z5 := Lib.hid z5
      have KL := numL_len (m : Int)
      obtain ⟨kl, hkl⟩ : ∃ kl, kl = numL (m : Int) := ⟨_, rfl⟩
      have HKL := Lib.hid hkl
      rw [← hkl] at KL Z5 z3 ⊢
      obtain ⟨kn, hkn⟩ : ∃ kn, kl.length = kn := ⟨_, rfl⟩
      have HKN := Lib.hid hkn
      rw [hkn] at z3 KL ⊢
      have p3 : [f].length + kn ≤ 140737488355328 := by simp; omega
      have hL2 : Hid (([f] ++ kl).length ≤ 11) := by show _ ≤ _; rw [List.length_append, hkn]; simp; omega
      clear o4 b2 BX KX CN OX z5 hkl hkn KL
      go_wp2_with (at_builtin; refine wpl_app_len (t := 36) (e := 5) rfl (.tmp 15) (.tmp 19) rfl Tryz.underlying36 info5 (w.heap.size + 1) _ [f] kl rfl O4.out (some ⟨g2, 0, none⟩) kn p2 rfl Z5.out (fun h => by cases h) HKN p3 K4.out.lt ?_; intro v' w' hown' hgrow)
      have B5 := Lib.hid (B4.out.grown hgrow B4.out.size (fun k hk => Nat.le_of_succ_le (O4.out.lt k hk).1))
      have K5 := Lib.hid (blk_row K4.out hgrow (own_ne O4.out (Nat.lt_succ_self _)))
      have O5 : Hid (Own w' (w.heap.size + 1) v' ([f] ++ kl)) := hown'
      obtain ⟨HD, hHD⟩ : ∃ HD, HD = [f] ++ kl := ⟨_, rfl⟩
      have HHD := Lib.hid hHD
      rw [← hHD] at O5 hL2
      clear hgrow hown' B4 K4 O4 Z5 HKN p3 hHD z1 z2 z3 z4
      go_loopw [4, 5] (fun vb vi wr => ∃ i : Nat, i ≤ m ∧ vi = .int .i64 i ∧ Hid (Below w.heap.size w wr) ∧ Hid (Blk wr w.heap.size [.bool true, .slice sv m sc, .slice zv m zc] 30) ∧ Hid (Own wr (w.heap.size + 1) vb (HD ++ (ls.take i).flatMap textL)) ∧ Hid ((HD ++ (ls.take i).flatMap textL).length ≤ 11 + 110 * i)) (fun _ vi _ => m - (RowKit.intOf vi).toNat)
      case atStart => exact ⟨0, by omega, rfl, B5.out, K5.out, by show Own _ _ _ _; simpa using O5.out, by show _ ≤ _; simpa using hL2.out⟩
      case round =>
        obtain ⟨i, hi, rfl, hB, hK, hO, hL⟩ := hrel
        have c1 := hK.out.cell 1
        have c2 := hK.out.cell 2
        simp only [List.getElem?_cons_zero, List.getElem?_cons_succ] at c1 c2
        by_cases hin : i < m
        · obtain ⟨b, o, x, rfl, hb, hx, hcell⟩ := srw_cell H1.out i (by have := HS.out; omega)
          have HX := Lib.hid hx
          have d1 : wr.cell? ⟨b, o + i, none⟩ = some (.string x) := (hB.out.cell (p := ⟨b, o + i, none⟩) hb).trans hcell
          have XL := nameOk_len x (HT.out.names x (List.mem_of_getElem? hx))
          have TL := textL_len x XL
          obtain ⟨cq, W, hcv, hW, hr⟩ := conv_text x wr
          have CK := Lib.hid (refbytes2_any _ x.data.toList x.data.toList.length cq W hr (fun h => by cases h) rfl (by omega))
          have HW := Lib.hid hW
          have q1 : (0 : Int) ≤ (i : Int) := by omega
          have q2 : (i : Int) < (m : Int) := by omega
          obtain ⟨xl, hxl⟩ : ∃ xl, xl = x.data.toList.length := ⟨_, rfl⟩
          rw [← hxl] at hcv CK
          obtain ⟨kl, hkl⟩ : ∃ kl, kl = textL x := ⟨_, rfl⟩
          have CK2 : Hid (Calls Tryz.prog 44 #[.slice (some ⟨wr.heap.size, 0, none⟩) xl cq] W fun e w' => Below W.heap.size W w' ∧ ∃ v, e = .returned v ∧ Own w' W.heap.size v kl) := by show Calls _ _ _ _ _; rw [hkl]; exact CK.out
          have HS2 : Hid ((ls.take (i + 1)).flatMap textL = (ls.take i).flatMap textL ++ kl) := by
            show _ = _
            rw [List.take_add_one, HX.out, hkl]
            simp
          rw [← hkl] at TL
          clear hx hcell hb XL hW hr CK hxl hkl
          go_wp2_with fail
          refine CK2.out.mono ?_
          rintro e w2 ⟨b1, v2, rfl, o2⟩
          obtain ⟨g2, p2, rfl, z1, z2, z3, z4, z5⟩ := own_some o2 TL.1
          have b3 := below_chain HW.out b1
          have O2 := Lib.hid (own_below hO.out b3)
          have B2 := Lib.hid (below_chain hB.out b3)
          have K2 := Lib.hid (hK.out.low b3)
          have Z5 := Lib.hid z5
          obtain ⟨acc, hacc⟩ : ∃ acc, acc = HD ++ (ls.take i).flatMap textL := ⟨_, rfl⟩
          rw [← hacc] at O2 hL
          have p3 : acc.length + kl.length ≤ 140737488355328 := by have := hL.out; omega
          have hL3 : Hid ((acc ++ kl).length ≤ 11 + 110 * (i + 1)) := by show _ ≤ _; rw [List.length_append]; have := hL.out; omega
          have HACC := Lib.hid hacc
          obtain ⟨kn, hkn⟩ : ∃ kn, kl.length = kn := ⟨_, rfl⟩
          have HKN := Lib.hid hkn
          rw [hkn] at p3 z3 ⊢
          clear o2 z5 hacc hO hL b1 TL hkn b3 hcv CK2
          go_wp2_with (at_builtin; refine wpl_app_len (t := 36) (e := 5) rfl (.tmp 28) (.tmp 35) rfl Tryz.underlying36 info5 (w.heap.size + 1) _ acc kl rfl O2.out (some ⟨g2, 0, none⟩) kn p2 rfl Z5.out (fun h => by cases h) HKN p3 K2.out.lt ?_; intro v' w' hown' hgrow)
          have B5 := Lib.hid (B2.out.grown hgrow B2.out.size (fun k hk => Nat.le_of_succ_le (O2.out.lt k hk).1))
          have K5 := Lib.hid (blk_row K2.out hgrow (own_ne O2.out (Nat.lt_succ_self _)))
          refine ⟨⟨i + 1, by omega, by go_num, B5.out, K5.out, ?_, ?_⟩, by simp [RowKit.intOf]; omega⟩
          · show Own _ _ _ _
            rw [HS2.out, ← List.append_assoc, ← HACC.out]
            exact hown'
          · show _ ≤ _
            rw [HS2.out, ← List.append_assoc, ← HACC.out]
            exact hL3.out
        · obtain rfl : i = m := by omega
          have HD2 : Hid (HD ++ (ls.take i).flatMap textL = HD ++ ls.flatMap textL) := by
            show _ = _
            rw [← HS.out, List.take_length]
          have hO2 := hO.out
          rw [HD2.out] at hO2
          have hL2 := hL.out
          rw [HD2.out] at hL2
          have O6 := Lib.hid hO2
          have L6 : Hid ((HD ++ ls.flatMap textL).length ≤ 28171) := by show _ ≤ _; omega
          have EQ : Hid (listL ⟨true, ls, lz⟩ = (HD ++ ls.flatMap textL) ++ lz.flatMap numL) := by
            show _ = _
            rw [listL, FL.out, HS.out, HHD.out, ← HKL.out]
            simp only [List.append_assoc]
          obtain ⟨E, hE⟩ : ∃ E, E = HD ++ ls.flatMap textL := ⟨_, rfl⟩
          rw [← hE] at O6 L6 EQ
          clear hO2 hL2 HD2 hO hL hE
          go_wp2_with fail
          go_loopw [4, 6] (fun vb vi wr => ∃ j : Nat, j ≤ i ∧ vi = .int .i64 j ∧ Hid (Below w.heap.size w wr) ∧ Hid (Blk wr w.heap.size [.bool true, .slice sv i sc, .slice zv i zc] 30) ∧ Hid (Own wr (w.heap.size + 1) vb (E ++ (lz.take j).flatMap numL)) ∧ Hid ((E ++ (lz.take j).flatMap numL).length ≤ 28171 + 10 * j)) (fun _ vi _ => i - (RowKit.intOf vi).toNat)
          case atStart => exact ⟨0, by omega, rfl, hB, hK, by show Own _ _ _ _; simpa using O6.out, by show _ ≤ _; simpa using L6.out⟩
          case round =>
            obtain ⟨j, hj, rfl, hC, hJ, hP, hM⟩ := hrel
            have y1 := hJ.out.cell 1
            have y2 := hJ.out.cell 2
            simp only [List.getElem?_cons_zero, List.getElem?_cons_succ] at y1 y2
            by_cases hjn : j < i
            · obtain ⟨b, o, rfl, hb, hcell⟩ := zrw_cell H2.out j (by have := HZ.out; omega)
              obtain ⟨x, hx⟩ : ∃ y, lz[j]? = some y := ⟨_, List.getElem?_eq_getElem (by have := HZ.out; omega)⟩
              have HX := Lib.hid hx
              have d1 : wr.cell? ⟨b, o + j, none⟩ = some (.int .i64 x) := (hC.out.cell (p := ⟨b, o + j, none⟩) hb).trans (hcell j x hx)
              have XW := HT.out.nums x (List.mem_of_getElem? hx)
              have CK := Lib.hid (refnum_any x (by unfold within at XW; omega) (by unfold within at XW; omega) wr)
              have q1 : (0 : Int) ≤ (j : Int) := by omega
              have q2 : (j : Int) < (i : Int) := by omega
              clear hx hcell hb XW
              go_wp2_with fail
              refine CK.out.mono ?_
              rintro e w2 ⟨b1, v2, rfl, o2⟩
              obtain ⟨g2, p2, rfl, z1, z2, z3, z4, z5⟩ := own_some o2 (numL_len x).1
              have O2 := Lib.hid (own_below hP.out b1)
              have B2 := Lib.hid (below_chain hC.out b1)
              have K2 := Lib.hid (hJ.out.low b1)
              have HS3 : Hid ((lz.take (j + 1)).flatMap numL = (lz.take j).flatMap numL ++ numL x) := by
                show _ = _
                rw [List.take_add_one, HX.out]
                simp
              have Z5 := Lib.hid z5
              have KL := numL_len x
              obtain ⟨kl, hkl⟩ : ∃ kl, kl = numL x := ⟨_, rfl⟩
              rw [← hkl] at HS3 Z5 KL z3 ⊢
              obtain ⟨acc, hacc⟩ : ∃ acc, acc = E ++ (lz.take j).flatMap numL := ⟨_, rfl⟩
              rw [← hacc] at O2 hM
              have p3 : acc.length + kl.length ≤ 140737488355328 := by have := hM.out; omega
              have hL2 : Hid ((acc ++ kl).length ≤ 28171 + 10 * (j + 1)) := by show _ ≤ _; rw [List.length_append]; have := hM.out; omega
              have HACC := Lib.hid hacc
              obtain ⟨kn, hkn⟩ : ∃ kn, kl.length = kn := ⟨_, rfl⟩
              have HKN := Lib.hid hkn
              rw [hkn] at p3 z3 ⊢
              clear o2 z5 hkl hacc hP hM b1 KL hkn
              go_wp2_with (at_builtin; refine wpl_app_len (t := 36) (e := 5) rfl (.tmp 44) (.tmp 50) rfl Tryz.underlying36 info5 (w.heap.size + 1) _ acc kl rfl O2.out (some ⟨g2, 0, none⟩) kn p2 rfl Z5.out (fun h => by cases h) HKN p3 K2.out.lt ?_; intro v' w' hown' hgrow)
              have B5 := Lib.hid (B2.out.grown hgrow B2.out.size (fun k hk => Nat.le_of_succ_le (O2.out.lt k hk).1))
              have K5 := Lib.hid (blk_row K2.out hgrow (own_ne O2.out (Nat.lt_succ_self _)))
              refine ⟨⟨j + 1, by omega, by go_num, B5.out, K5.out, ?_, ?_⟩, by simp [RowKit.intOf]; omega⟩
              · show Own _ _ _ _
                rw [HS3.out, ← List.append_assoc, ← HACC.out]
                exact hown'
              · show _ ≤ _
                rw [HS3.out, ← List.append_assoc, ← HACC.out]
                exact hL2.out
            · obtain rfl : j = i := by omega
              have HE : Hid (E ++ (lz.take j).flatMap numL = listL ⟨true, ls, lz⟩) := by
                show _ = _
                rw [EQ.out, List.take_of_length_le (by rw [HZ.out]; exact Nat.le_refl _)]
              go_wp2_with fail
              go_ret2
              exact ⟨hC.out, .inl ⟨HT.out, _, rfl, by rw [← HE.out]; exact Own.low hP.out (Nat.le_succ _)⟩⟩
end Go.Proofs.YtpjgkboafmebbaaGreatDoor.Sh
namespace Go.Proofs.YtpjgkboafmebbaaGreatDoor.Sh
open Go.RowKit Go.Lib Lb
theorem byte_at0 (s : ByteArray) (i : Nat) (h : i < s.size) : s.data.toList[i]? = some (s[i]'h) := by
  rw [List.getElem?_eq_getElem (by rw [Array.length_toList]; exact h)]
  rfl
/-- what plain tells -/
def PlainR (s : ByteArray) (e : Ending) : Prop := ∃ b : Bool, e = .returned (.bool b) ∧ (b = true ↔ 0 ∉ s.data.toList)
set_option maxHeartbeats 1000000 in
set_option maxRecDepth 100000 in
theorem plain_any (s : ByteArray) (w : World) (hs : s.size ≤ 9223372036854775807) :
    Calls Tryz.prog 83 #[.string s] w fun e w' => PlainR s e ∧ w' = w := by
  go_enter Tryz.func83, Tryz.ntmps83
  go_wp2_with fail
  go_loop [3] (fun vi => ∃ i : Nat, vi = .int .i64 (i : Nat) ∧ i ≤ s.size ∧ Hid (AllTo (fun c => c ≠ 0) s.data.toList i)) (fun vi => s.size - (RowKit.intOf vi).toNat)
  case atStart => exact ⟨0, rfl, by omega, allTo_zero _ _⟩
  case round =>
    obtain ⟨i, rfl, hi, hA⟩ := hrel
    by_cases hin : i < s.size
    · have HC := Lib.hid (byte_at0 s i hin)
      have hb : (s[i]'hin).toNat < 256 := (s[i]'hin).toNat_lt
      have q1 : (0 : Int) ≤ (i : Int) := by omega
      have q2 : (i : Int) < (s.size : Int) := by omega
      by_cases h0 : (s[i]'hin).toNat = 0
      · have t1 : (((s[i]'hin).toNat : Int) == 0) = true := by simp [h0]
        have HF : Hid (¬ 0 ∉ s.data.toList) := fun h => h (by
          have e : s[i]'hin = 0 := UInt8.toNat_inj.1 h0
          rw [← e]
          exact List.mem_of_getElem? HC.out)
        clear h0
        go_wp2_with fail
        go_ret
        exact ⟨⟨false, rfl, by simp only [Bool.false_eq_true, false_iff]; exact HF.out⟩, rfl⟩
      · have t1 : (((s[i]'hin).toNat : Int) == 0) = false := by simp [h0]
        have hA2 : Hid (AllTo (fun c => c ≠ 0) s.data.toList (i + 1)) := allTo_more hA.out HC.out (fun e => h0 (by rw [e]; rfl))
        clear h0
        go_wp2_with fail
        go_round
        case rel => exact ⟨i + 1, by go_num, by omega, hA2⟩
        case measure => simp [RowKit.intOf]; omega
    · have hjn : i = s.size := by omega
      have HJ := Lib.hid hjn
      clear hjn
      go_wp2_with fail
      go_ret
      exact ⟨⟨true, rfl, by simp only [true_iff]; exact fun h => allTo_of hA.out (by rw [HJ.out, Array.length_toList]; rfl) 0 h rfl⟩, rfl⟩
/-- what the document's refs tells -/
def RefsR (w : World) (l : List RefP) (e : Ending) (w' : World) : Prop :=
  Below w.heap.size w w' ∧ (((l.length ≤ 128 ∧ ∀ x ∈ l, okRef x) ∧ e = .returned (.tuple #[.int .i64 (l.map (·.n)).sum, .bool true])) ∨ (¬ (l.length ≤ 128 ∧ ∀ x ∈ l, okRef x) ∧ e = .returned (.tuple #[.int .i64 0, .bool false])))
set_option maxHeartbeats 8000000 in
set_option maxRecDepth 100000 in
theorem refs_any (ao : Option Addr) (l : List RefP) (n c : Nat) (w : World) (h : Rrw w ao l) (hln : l.length = n) (hc : n ≤ c) (_ : c ≤ 9223372036854775807) :
    Calls Tryz.prog 84 #[.slice ao n c] w (RefsR w l) := by
  have H := Lib.hid h
  have HL := Lib.hid hln
  have B0 := Lib.hid (Below.refl w.heap.size w)
  clear h hln
  by_cases h128 : n ≤ 128
  rotate_left
  · have t1 : decide ((128 : Int) < (n : Int)) = true := by simp; omega
    have t2 : decide (128 < n) = true := by simp; omega
    have HF : Hid (¬ (l.length ≤ 128 ∧ ∀ x ∈ l, okRef x)) := fun h0 => by have := h0.1; have := HL.out; omega
    clear h128
    go_enter Tryz.func84, Tryz.ntmps84
    go_wp2_with fail
    go_ret2
    exact ⟨B0.out, .inr ⟨HF.out, rfl⟩⟩
  have t1 : decide ((128 : Int) < (n : Int)) = false := by simp; omega
  have t2 : decide (128 < n) = false := by simp; omega
  have H128 := Lib.hid h128
  clear h128
  go_enter Tryz.func84, Tryz.ntmps84
  go_wp2_with fail
  go_loopw [4, 5] (fun vs vi wr => ∃ (i : Nat) (z : Int), i ≤ n ∧ vi = .int .i64 i ∧ vs = .int .i64 z ∧ 0 ≤ z ∧ z ≤ 32768 * (i : Int) ∧ Hid (z = sumTo l i) ∧ Hid (Below w.heap.size w wr) ∧ Hid (AllTo okRef l i)) (fun _ vi _ => n - (RowKit.intOf vi).toNat)
  case atStart => exact ⟨0, 0, by omega, rfl, rfl, by omega, by omega, rfl, B0, allTo_zero _ _⟩
  case round =>
    obtain ⟨i, z, hi, rfl, rfl, z0, z1, hZ, hB, hT⟩ := hrel
    have n128 := H128.out
    by_cases hin : i < n
    · obtain ⟨bb, o, x, rfl, hb, hx, x0, x1, x2, x3, x4⟩ := rrw_cell H.out i (by have := HL.out; omega)
      have HX := Lib.hid hx
      have d0 := (hB.out.cell (p := ⟨bb, o + i * 4, none⟩) hb).trans x0
      have d1 := (hB.out.cell (p := ⟨bb, o + i * 4 + 1, none⟩) hb).trans x1
      have d2 := (hB.out.cell (p := ⟨bb, o + i * 4 + 2, none⟩) hb).trans x2
      have d3 := (hB.out.cell (p := ⟨bb, o + i * 4 + 3, none⟩) hb).trans x3
      have q1 : (0 : Int) ≤ (i : Int) := by omega
      have q2 : (i : Int) < (n : Int) := by omega
      clear hx x0 x1 x2 x3 hb
      have CR := Lib.hid (fun W => refcheck_key x.key W x4)
      have KX : Hid (Blk (wr.alloc (.cells #[.string x.key, .int .i64 x.lower, .int .i64 x.off, .int .i64 x.n] 49)) wr.heap.size [.string x.key, .int .i64 x.lower, .int .i64 x.off, .int .i64 x.n] 49) := Blk.new wr [.string x.key, .int .i64 x.lower, .int .i64 x.off, .int .i64 x.n] 49 _ rfl
      have hB1 := Lib.hid (hB.out.alloc hB.out.size (.cells #[.string x.key, .int .i64 x.lower, .int .i64 x.off, .int .i64 x.n] 49))
      have k0 := KX.out.cell 0
      simp only [List.getElem?_cons_zero] at k0
      go_wp2_with fail
      clear d0 d1 d2 d3 k0
      generalize wr.alloc (.cells #[.string x.key, .int .i64 x.lower, .int .i64 x.off, .int .i64 x.n] 49) = ws at *
      refine (CR.out ws).mono ?_
      clear CR
      rintro e w2 ⟨rfl, hb2⟩
      have hB2 := Lib.hid (below_chain hB1.out hb2)
      have KX2 := Lib.hid (KX.out.low hb2)
      clear hb2 hB1 KX
      generalize wr.heap.size = gx at *
      have y0 := KX2.out.cell 0
      have y1 := KX2.out.cell 1
      have y2 := KX2.out.cell 2
      have y3 := KX2.out.cell 3
      simp only [List.getElem?_cons_zero, List.getElem?_cons_succ] at y0 y1 y2 y3
      have KE := Lib.hid (key_empty x.key)
      obtain ⟨kk, ll, oo, nn⟩ := x
      dsimp only at *
      cases hkb : (keyBytes kk.data.toList).isSome with
      | true =>
        have HKB : Hid (keyOk kk) := hkb
        have hne : kk ≠ noKey := fun e => noKey_not (e ▸ HKB.out)
        have te : kk.toList.isEmpty = false := by rw [KE.out]; simpa using hne
        have HNE := Lib.hid hne
        clear hne hkb
        by_cases ha : ll = 0
        rotate_left
        · have ta : (ll == 0) = false := by simpa using ha
          have HF : Hid (¬ (l.length ≤ 128 ∧ ∀ x ∈ l, okRef x)) := fun h0 => by
            have h1 := h0.2 _ (List.mem_of_getElem? HX.out)
            rcases h1 with ⟨p1, p2, p3, p4⟩ | ⟨p1, p2, p3, p4⟩
            · simp only at p1 p2 p3 p4
              exact ha p2
            · simp only at p1 p2 p3 p4
              exact HNE.out p1
          clear ha
          go_wp2_with fail
          go_ret2
          exact ⟨hB2.out, .inr ⟨HF.out, rfl⟩⟩
        subst ha
        by_cases hb : oo = 0
        rotate_left
        · have ta : (oo == 0) = false := by simpa using hb
          have HF : Hid (¬ (l.length ≤ 128 ∧ ∀ x ∈ l, okRef x)) := fun h0 => by
            have h1 := h0.2 _ (List.mem_of_getElem? HX.out)
            rcases h1 with ⟨p1, p2, p3, p4⟩ | ⟨p1, p2, p3, p4⟩
            · simp only at p1 p2 p3 p4
              exact hb p3
            · simp only at p1 p2 p3 p4
              exact HNE.out p1
          clear hb
          go_wp2_with fail
          go_ret2
          exact ⟨hB2.out, .inr ⟨HF.out, rfl⟩⟩
        subst hb
        have CW := Lib.hid (fun W => within_any nn 1 2048 W)
        by_cases hw : within nn 1 2048
        rotate_left
        · rw [decide_eq_false hw] at CW
          have HF : Hid (¬ (l.length ≤ 128 ∧ ∀ x ∈ l, okRef x)) := fun h0 => by
            have h1 := h0.2 _ (List.mem_of_getElem? HX.out)
            rcases h1 with ⟨p1, p2, p3, p4⟩ | ⟨p1, p2, p3, p4⟩
            · simp only at p1 p2 p3 p4
              exact hw p4
            · simp only at p1 p2 p3 p4
              exact HNE.out p1
          clear hw
          go_wp2_with fail
          refine (CW.out _).mono ?_
          rintro e w4 ⟨rfl, rfl⟩
          go_wp2_with fail
          go_ret2
          exact ⟨hB2.out, .inr ⟨HF.out, rfl⟩⟩
        rw [decide_eq_true hw] at CW
        have hs : okRef ⟨kk, 0, 0, nn⟩ := .inl ⟨HKB.out, rfl, rfl, hw⟩
        have hT2 : Hid (AllTo okRef l (i + 1)) := allTo_more hT.out HX.out hs
        obtain ⟨s0, s1⟩ := sumTo_le hT2.out
        have hsm := sumTo_more HX.out
        rw [← hZ.out] at hsm
        simp only at hsm
        have HSM := Lib.hid hsm
        have r1 : 0 ≤ z + nn := by omega
        have r2 : z + nn ≤ 32768 * ((i + 1 : Nat) : Int) := by omega
        have r3 : z + nn ≤ 4194304 := by omega
        have r4 : IntKind.i64.wrap (z + nn) = z + nn := IntWalk.i64_in _ (by omega)
        clear hs s0 s1 hsm
        clear hw
        go_wp2_with fail
        refine (CW.out _).mono ?_
        rintro e w4 ⟨rfl, rfl⟩
        go_wp2_with fail
        go_roundw
        case rel => exact ⟨i + 1, z + nn, by omega, by go_num, rfl, r1, r2, HSM.out.symm, hB2, hT2⟩
        case measure => simp [RowKit.intOf]; omega
      | false =>
        have HKB : Hid (¬ keyOk kk) := fun h0 => by unfold keyOk at h0; rw [hkb] at h0; cases h0
        clear hkb
        by_cases he : kk = noKey
        rotate_left
        · have te : kk.toList.isEmpty = false := by rw [KE.out]; simpa using he
          have HF : Hid (¬ (l.length ≤ 128 ∧ ∀ x ∈ l, okRef x)) := fun h0 => by
            have h1 := h0.2 _ (List.mem_of_getElem? HX.out)
            rcases h1 with ⟨p1, p2, p3, p4⟩ | ⟨p1, p2, p3, p4⟩
            · simp only at p1 p2 p3 p4
              exact HKB.out p1
            · simp only at p1 p2 p3 p4
              exact he p1
          clear he
          go_wp2_with fail
          go_ret2
          exact ⟨hB2.out, .inr ⟨HF.out, rfl⟩⟩
        have te : kk.toList.isEmpty = true := by rw [KE.out]; simpa using he
        have HEK := Lib.hid he
        clear he
        have CA := Lib.hid (fun W => within_any ll 1 512 W)
        by_cases hw0 : within ll 1 512
        rotate_left
        · rw [decide_eq_false hw0] at CA
          have HF : Hid (¬ (l.length ≤ 128 ∧ ∀ x ∈ l, okRef x)) := fun h0 => by
            have h1 := h0.2 _ (List.mem_of_getElem? HX.out)
            rcases h1 with ⟨p1, p2, p3, p4⟩ | ⟨p1, p2, p3, p4⟩
            · simp only at p1 p2 p3 p4
              exact HKB.out p1
            · simp only at p1 p2 p3 p4
              exact hw0 p2
          clear hw0
          go_wp2_with fail
          refine (CA.out _).mono ?_
          rintro e w4 ⟨rfl, rfl⟩
          go_wp2_with fail
          go_ret2
          exact ⟨hB2.out, .inr ⟨HF.out, rfl⟩⟩
        rw [decide_eq_true hw0] at CA
        have CB := Lib.hid (fun W => within_any oo 0 32768 W)
        by_cases hw1 : within oo 0 32768
        rotate_left
        · rw [decide_eq_false hw1] at CB
          have HF : Hid (¬ (l.length ≤ 128 ∧ ∀ x ∈ l, okRef x)) := fun h0 => by
            have h1 := h0.2 _ (List.mem_of_getElem? HX.out)
            rcases h1 with ⟨p1, p2, p3, p4⟩ | ⟨p1, p2, p3, p4⟩
            · simp only at p1 p2 p3 p4
              exact HKB.out p1
            · simp only at p1 p2 p3 p4
              exact hw1 p3
          clear hw1 hw0
          go_wp2_with fail
          refine (CA.out _).mono ?_
          rintro e w4 ⟨rfl, rfl⟩
          go_wp2_with fail
          refine (CB.out _).mono ?_
          rintro e w4 ⟨rfl, rfl⟩
          go_wp2_with fail
          go_ret2
          exact ⟨hB2.out, .inr ⟨HF.out, rfl⟩⟩
        rw [decide_eq_true hw1] at CB
        have CC := Lib.hid (fun W => within_any nn 1 32768 W)
        by_cases hw2 : within nn 1 32768
        rotate_left
        · rw [decide_eq_false hw2] at CC
          have HF : Hid (¬ (l.length ≤ 128 ∧ ∀ x ∈ l, okRef x)) := fun h0 => by
            have h1 := h0.2 _ (List.mem_of_getElem? HX.out)
            rcases h1 with ⟨p1, p2, p3, p4⟩ | ⟨p1, p2, p3, p4⟩
            · simp only at p1 p2 p3 p4
              exact HKB.out p1
            · simp only at p1 p2 p3 p4
              exact hw2 p4
          clear hw2 hw0 hw1
          go_wp2_with fail
          refine (CA.out _).mono ?_
          rintro e w4 ⟨rfl, rfl⟩
          go_wp2_with fail
          refine (CB.out _).mono ?_
          rintro e w4 ⟨rfl, rfl⟩
          go_wp2_with fail
          refine (CC.out _).mono ?_
          rintro e w4 ⟨rfl, rfl⟩
          go_wp2_with fail
          go_ret2
          exact ⟨hB2.out, .inr ⟨HF.out, rfl⟩⟩
        rw [decide_eq_true hw2] at CC
        have hs : okRef ⟨kk, ll, oo, nn⟩ := .inr ⟨HEK.out, hw0, hw1, hw2⟩
        have hT2 : Hid (AllTo okRef l (i + 1)) := allTo_more hT.out HX.out hs
        obtain ⟨s0, s1⟩ := sumTo_le hT2.out
        have hsm := sumTo_more HX.out
        rw [← hZ.out] at hsm
        simp only at hsm
        have HSM := Lib.hid hsm
        have r1 : 0 ≤ z + nn := by omega
        have r2 : z + nn ≤ 32768 * ((i + 1 : Nat) : Int) := by omega
        have r3 : z + nn ≤ 4194304 := by omega
        have r4 : IntKind.i64.wrap (z + nn) = z + nn := IntWalk.i64_in _ (by omega)
        clear hs s0 s1 hsm
        clear hw0 hw1 hw2
        go_wp2_with fail
        refine (CA.out _).mono ?_
        rintro e w4 ⟨rfl, rfl⟩
        go_wp2_with fail
        refine (CB.out _).mono ?_
        rintro e w4 ⟨rfl, rfl⟩
        go_wp2_with fail
        refine (CC.out _).mono ?_
        rintro e w4 ⟨rfl, rfl⟩
        go_wp2_with fail
        go_roundw
        case rel => exact ⟨i + 1, z + nn, by omega, by go_num, rfl, r1, r2, HSM.out.symm, hB2, hT2⟩
        case measure => simp [RowKit.intOf]; omega
    · obtain rfl : i = n := by omega
      have HE : Hid ((l.map (·.n)).sum = z) := by
        show _ = _
        rw [hZ.out, sumTo, List.take_of_length_le (by rw [HL.out]; exact Nat.le_refl _)]
      go_wp2_with fail
      go_ret2
      exact ⟨hB.out, .inl ⟨⟨by rw [HL.out]; exact H128.out, allTo_of hT.out HL.out⟩, by rw [HE.out]; rfl⟩⟩
end Go.Proofs.YtpjgkboafmebbaaGreatDoor.Sh
namespace Go.Proofs.YtpjgkboafmebbaaGreatDoor.Sh
open Go.RowKit Go.Lib Lb
theorem ownT_srw {w : World} {B : Nat} {v : Value} {l : List ByteArray} (h : OwnT w B v l) : ∃ ao c, v = .slice ao l.length c ∧ l.length ≤ c ∧ c ≤ 9223372036854775807 ∧ Srw w ao l := by
  obtain ⟨ao, c, h1, h2, h3, h4, _⟩ := own_srw h
  exact ⟨ao, c, h1, h2, h3, h4⟩
set_option maxHeartbeats 16000000 in
set_option maxRecDepth 100000 in
theorem metaok_any (k a b d : Int) (t : ByteArray) (av rv : Option Addr) (an ac rn rc : Nat) (la : List (ByteArray × List UInt8)) (lr : List RefP) (w : World) (ht : t.size ≤ 9223372036854775807)
    (ha : Arw w av la) (hla : la.length = an) (hac : an ≤ ac) (_ : ac ≤ 9223372036854775807) (hr : Rrw w rv lr) (hlr : lr.length = rn) (hrc : rn ≤ rc) (hrcc : rc ≤ 9223372036854775807) :
    Calls Tryz.prog 42 #[.agg #[.int .i64 k, .int .i64 a, .int .i64 b, .int .i64 d, .string t, .slice av an ac, .slice rv rn rc]] w (Tells w (OkMeta ltB nameOk ⟨k, a, b, d, t, la, lr⟩)) := by
  have HA := Lib.hid ha
  have HLA := Lib.hid hla
  have HLR := Lib.hid hlr
  have CP := Lib.hid (fun W => plain_any t W ht)
  have CRF := Lib.hid (fun W (h : Below w.heap.size w W) => refs_any rv lr rn rc W (hr.below h) hlr hrc hrcc)
  have B0 : Hid (Below w.heap.size w (w.alloc (.cells #[.int .i64 k, .int .i64 a, .int .i64 b, .int .i64 d, .string t, .slice av an ac, .slice rv rn rc] 26))) := (Below.refl _ w).alloc (Nat.le_refl _) _
  have K0 : Hid (Blk (w.alloc (.cells #[.int .i64 k, .int .i64 a, .int .i64 b, .int .i64 d, .string t, .slice av an ac, .slice rv rn rc] 26)) w.heap.size [.int .i64 k, .int .i64 a, .int .i64 b, .int .i64 d, .string t, .slice av an ac, .slice rv rn rc] 26) := Blk.new w [.int .i64 k, .int .i64 a, .int .i64 b, .int .i64 d, .string t, .slice av an ac, .slice rv rn rc] 26 _ rfl
  have x0 := K0.out.cell 0
  have x1 := K0.out.cell 1
  have x2 := K0.out.cell 2
  have x3 := K0.out.cell 3
  have x4 := K0.out.cell 4
  have x5 := K0.out.cell 5
  simp only [List.getElem?_cons_zero, List.getElem?_cons_succ] at x0 x1 x2 x3 x4 x5
  have KE := Lib.hid (key_empty t)
  have HTS := Lib.hid ht
  clear ha hla hr hlr hrc hrcc ht
  have CA := Lib.hid (fun W => within_any k 1 3 W)
  by_cases hw0 : within k 1 3
  rotate_left
  · rw [decide_eq_false hw0] at CA
    have HF : Hid (¬ OkMeta ltB nameOk ⟨k, a, b, d, t, la, lr⟩) := fun h0 => hw0 h0.kind
    clear hw0
    go_enter Tryz.func42, Tryz.ntmps42
    go_wp2_with fail
    refine (CA.out _).mono ?_
    rintro e w4 ⟨rfl, rfl⟩
    go_wp2_with fail
    go_ret
    exact ⟨⟨false, rfl, by simp only [Bool.false_eq_true, false_iff]; exact HF.out⟩, B0.out⟩
  rw [decide_eq_true hw0] at CA
  have CB := Lib.hid (fun W => within_any a 0 4095 W)
  by_cases hw1 : within a 0 4095
  rotate_left
  · rw [decide_eq_false hw1] at CB
    have HF : Hid (¬ OkMeta ltB nameOk ⟨k, a, b, d, t, la, lr⟩) := fun h0 => hw1 h0.mode
    clear hw0 hw1
    go_enter Tryz.func42, Tryz.ntmps42
    go_wp2_with fail
    refine (CA.out _).mono ?_
    rintro e w4 ⟨rfl, rfl⟩
    go_wp2_with fail
    refine (CB.out _).mono ?_
    rintro e w4 ⟨rfl, rfl⟩
    go_wp2_with fail
    go_ret
    exact ⟨⟨false, rfl, by simp only [Bool.false_eq_true, false_iff]; exact HF.out⟩, B0.out⟩
  rw [decide_eq_true hw1] at CB
  have CC := Lib.hid (fun W => within_any b 0 64 W)
  by_cases hw2 : within b 0 64
  rotate_left
  · rw [decide_eq_false hw2] at CC
    have HF : Hid (¬ OkMeta ltB nameOk ⟨k, a, b, d, t, la, lr⟩) := fun h0 => hw2 h0.links
    clear hw0 hw1 hw2
    go_enter Tryz.func42, Tryz.ntmps42
    go_wp2_with fail
    refine (CA.out _).mono ?_
    rintro e w4 ⟨rfl, rfl⟩
    go_wp2_with fail
    refine (CB.out _).mono ?_
    rintro e w4 ⟨rfl, rfl⟩
    go_wp2_with fail
    refine (CC.out _).mono ?_
    rintro e w4 ⟨rfl, rfl⟩
    go_wp2_with fail
    go_ret
    exact ⟨⟨false, rfl, by simp only [Bool.false_eq_true, false_iff]; exact HF.out⟩, B0.out⟩
  rw [decide_eq_true hw2] at CC
  have CD := Lib.hid (fun W => within_any d 0 32768 W)
  by_cases hw3 : within d 0 32768
  rotate_left
  · rw [decide_eq_false hw3] at CD
    have HF : Hid (¬ OkMeta ltB nameOk ⟨k, a, b, d, t, la, lr⟩) := fun h0 => hw3 h0.size
    clear hw0 hw1 hw2 hw3
    go_enter Tryz.func42, Tryz.ntmps42
    go_wp2_with fail
    refine (CA.out _).mono ?_
    rintro e w4 ⟨rfl, rfl⟩
    go_wp2_with fail
    refine (CB.out _).mono ?_
    rintro e w4 ⟨rfl, rfl⟩
    go_wp2_with fail
    refine (CC.out _).mono ?_
    rintro e w4 ⟨rfl, rfl⟩
    go_wp2_with fail
    refine (CD.out _).mono ?_
    rintro e w4 ⟨rfl, rfl⟩
    go_wp2_with fail
    go_ret
    exact ⟨⟨false, rfl, by simp only [Bool.false_eq_true, false_iff]; exact HF.out⟩, B0.out⟩
  rw [decide_eq_true hw3] at CD
  have W0 := Lib.hid hw0
  have W1 := Lib.hid hw1
  have W2 := Lib.hid hw2
  have W3 := Lib.hid hw3
  clear hw0 hw1 hw2 hw3
  by_cases h8 : 8 < an
  · have t1 : decide ((8 : Int) < (an : Int)) = true := by simp; omega
    have t2 : decide (8 < an) = true := by simp; omega
    have HF : Hid (¬ OkMeta ltB nameOk ⟨k, a, b, d, t, la, lr⟩) := fun h0 => by have := h0.most; have := HLA.out; simp only at *; omega
    clear h8
    go_enter Tryz.func42, Tryz.ntmps42
    go_wp2_with fail
    refine (CA.out _).mono ?_
    rintro e w4 ⟨rfl, rfl⟩
    go_wp2_with fail
    refine (CB.out _).mono ?_
    rintro e w4 ⟨rfl, rfl⟩
    go_wp2_with fail
    refine (CC.out _).mono ?_
    rintro e w4 ⟨rfl, rfl⟩
    go_wp2_with fail
    refine (CD.out _).mono ?_
    rintro e w4 ⟨rfl, rfl⟩
    go_wp2_with fail
    go_ret
    exact ⟨⟨false, rfl, by simp only [Bool.false_eq_true, false_iff]; exact HF.out⟩, B0.out⟩
  have t1 : decide ((8 : Int) < (an : Int)) = false := by simp; omega
  have t2 : decide (8 < an) = false := by simp; omega
  have H8 := Lib.hid (Nat.le_of_not_lt h8)
  clear h8
  by_cases hk3 : k = 3
  · have u1 : (k == 3) = true := by simpa using hk3
    have u2 : (k != 3) = false := by simp [hk3]
    have K3 := Lib.hid hk3
    have CT := Lib.hid (fun W => within_any (t.size : Int) 1 1000 W)
    by_cases hw : within (t.size : Int) 1 1000
    rotate_left
    · rw [decide_eq_false hw] at CT
      have HF : Hid (¬ OkMeta ltB nameOk ⟨k, a, b, d, t, la, lr⟩) := fun h0 => hw (by have h1 := h0.target; simp only at h1; rw [if_pos hk3] at h1; unfold within; omega)
      clear hw hk3
      go_enter Tryz.func42, Tryz.ntmps42
      go_wp2_with fail
      refine (CA.out _).mono ?_
      rintro e w4 ⟨rfl, rfl⟩
      go_wp2_with fail
      refine (CB.out _).mono ?_
      rintro e w4 ⟨rfl, rfl⟩
      go_wp2_with fail
      refine (CC.out _).mono ?_
      rintro e w4 ⟨rfl, rfl⟩
      go_wp2_with fail
      refine (CD.out _).mono ?_
      rintro e w4 ⟨rfl, rfl⟩
      go_wp2_with fail
      refine (CT.out _).mono ?_
      rintro e w4 ⟨rfl, rfl⟩
      go_wp2_with fail
      go_ret
      exact ⟨⟨false, rfl, by simp only [Bool.false_eq_true, false_iff]; exact HF.out⟩, B0.out⟩
    rw [decide_eq_true hw] at CT
    have HW := Lib.hid hw
    clear hw hk3
    go_enter Tryz.func42, Tryz.ntmps42
    go_wp2_with fail
    refine (CA.out _).mono ?_
    rintro e w4 ⟨rfl, rfl⟩
    go_wp2_with fail
    refine (CB.out _).mono ?_
    rintro e w4 ⟨rfl, rfl⟩
    go_wp2_with fail
    refine (CC.out _).mono ?_
    rintro e w4 ⟨rfl, rfl⟩
    go_wp2_with fail
    refine (CD.out _).mono ?_
    rintro e w4 ⟨rfl, rfl⟩
    go_wp2_with fail
    refine (CT.out _).mono ?_
    rintro e w4 ⟨rfl, rfl⟩
    go_wp2_with fail
    refine (CP.out _).mono ?_
    rintro e w4 ⟨⟨bp, rfl, hp⟩, rfl⟩
    have HPP := Lib.hid hp
    clear hp
    cases bp with
    | false =>
      have HF : Hid (¬ OkMeta ltB nameOk ⟨k, a, b, d, t, la, lr⟩) := fun h0 => by have h1 := h0.target; simp only at h1; rw [if_pos K3.out] at h1; have := HPP.out.2 h1.2.2; cases this
      go_wp2_with fail
      go_ret
      exact ⟨⟨false, rfl, by simp only [Bool.false_eq_true, false_iff]; exact HF.out⟩, B0.out⟩
    | true =>
      have TG : Hid (if k = 3 then 1 ≤ t.size ∧ t.size ≤ 1000 ∧ 0 ∉ t.data.toList else t = noKey) := by
        show ite _ _ _
        rw [if_pos K3.out]
        have h1 := HW.out
        unfold within at h1
        exact ⟨by omega, by omega, HPP.out.1 rfl⟩
      go_wp2_with fail
      clear x0 x1 x2 x3 x4 x5
      generalize w.alloc (.cells #[.int .i64 k, .int .i64 a, .int .i64 b, .int .i64 d, .string t, .slice av an ac, .slice rv rn rc] 26) = wa at *
      have gw := K0.out.lt
      have GW := Lib.hid gw
      clear gw
      go_loopw [3, 4] (fun v vi wr => ∃ (i : Nat) (P : List ByteArray), i ≤ an ∧ vi = .int .i64 i ∧ Hid (P = (la.take i).map (·.1)) ∧ P.length = i ∧ Hid (OwnT wr (w.heap.size + 1) v P) ∧ Hid (Below w.heap.size w wr) ∧ Hid (Blk wr w.heap.size [.int .i64 k, .int .i64 a, .int .i64 b, .int .i64 d, .string t, .slice av an ac, .slice rv rn rc] 26) ∧ Hid (AllTo (fun a => a.2.length ≤ 256) la i)) (fun _ vi _ => an - (RowKit.intOf vi).toNat)
      case atStart => exact ⟨0, [], by omega, rfl, rfl, rfl, World.ownsRow_nil _ _ _ _, B0.out, K0.out, allTo_zero _ _⟩
      case round =>
        obtain ⟨i, P, hi, rfl, hP, hPl, hO, hB, hK, hT⟩ := hrel
        have n8 := H8.out
        have z0 := hK.out.cell 0
        have z3 := hK.out.cell 3
        have z5 := hK.out.cell 5
        have z6 := hK.out.cell 6
        simp only [List.getElem?_cons_zero, List.getElem?_cons_succ] at z0 z3 z5 z6
        by_cases hin : i < an
        · obtain ⟨bb, o, x, rfl, hb, hx, x0, x1, ad, m, cc, x2, x3, x4, x5, x6, x7⟩ := arw_cell HA.out i (by have := HLA.out; omega)
          have HX := Lib.hid hx
          have d0 := (hB.out.cell (p := ⟨bb, o + i * 2, none⟩) hb).trans x0
          have d1 := (hB.out.cell (p := ⟨bb, o + i * 2 + 1, none⟩) hb).trans x2
          have q1 : (0 : Int) ≤ (i : Int) := by omega
          have q2 : (i : Int) < (an : Int) := by omega
          have HM := Lib.hid x3
          have hsz := hB.out.size
          have p1 : (P.length + [x.1].length) * 16 ≤ 140737488355328 := by simp; omega
          have gk := hK.out.lt
          have GK := Lib.hid gk
          clear hx x0 x2 x6 x7 x3 gk
          have HBB := Lib.hid hb
          clear hb
          have CE : Hid ((wr.alloc (.cells #[.string x.1] 9)).cell? ⟨bb, o + i * 2 + 1, none⟩ = some (.slice ad m cc)) := (((Below.refl _ wr).alloc (Nat.le_refl _) (.cells #[.string x.1] 9)).cell (p := ⟨bb, o + i * 2 + 1, none⟩) (by have := HBB.out; show bb < wr.heap.size; omega)).trans d1
          have hT3 := Lib.hid (fun (h : m ≤ 256) => (allTo_more hT.out HX.out (by rw [HM.out]; exact h) : AllTo (fun a : ByteArray × List UInt8 => a.2.length ≤ 256) la (i + 1)))
          have HF0 : Hid (256 < m → ¬ OkMeta ltB nameOk ⟨k, a, b, d, t, la, lr⟩) := fun h h0 => by have := h0.values x (List.mem_of_getElem? HX.out); have := HM.out; omega
          have hP2 : Hid (P ++ [x.1] = (la.take (i + 1)).map (·.1)) := by show _ = _; rw [hP.out]; exact names_more HX.out
          have hl2 : (P ++ [x.1]).length = i + 1 := by simp [hPl]
          clear d1
          by_cases hm : 256 < m
          · have r1 : decide ((256 : Int) < (m : Int)) = true := by simp; omega
            have r2 : decide (256 < m) = true := by simp; omega
            have HF := Lib.hid (HF0.out hm)
            clear hm
            go_wp2_with (
              at_builtin
              refine wpl_apps (t := 27) (e := 9) rfl (.tmp 68) (.tmp 75) rfl Tryz.underlying27 infoT (w.heap.size + 1) u3 P [x.1] rfl (World.ownsRow.alloc hO.out _) (some ⟨wr.heap.size, 0, none⟩) 1 rfl (srw_one9 wr x.1) (fun h => by cases h) p1 (by have := GK.out; simp; omega) ?_
              intro v' w' hown' hgrow
              have hK2 := Lib.hid (blk_row (hK.out.alloc (.cells #[.string x.1] 9)) hgrow (row_ne hO.out (Nat.lt_succ_self _)))
              have e5 := hK2.out.cell 5
              have d1 : w'.cell? ⟨bb, o + i * 2 + 1, none⟩ = some (.slice ad m cc) := hgrow.cell CE.out (row_ne hO.out (Nat.lt_succ_of_lt HBB.out))
              simp only [List.getElem?_cons_zero, List.getElem?_cons_succ] at e5
              have hB2 : Hid (Below w.heap.size w w') := (hB.out.alloc hsz (.cells #[.string x.1] 9)).grown hgrow (hB.out.alloc hsz (.cells #[.string x.1] 9)).size (fun k hk => Nat.le_of_succ_le (hO.out.lt k hk).1)
              clear hown' hgrow p1 d0 z0 z3 z5 z6)
            go_ret
            exact ⟨⟨false, rfl, by simp only [Bool.false_eq_true, false_iff]; exact HF.out⟩, hB2.out⟩
          · have r1 : decide ((256 : Int) < (m : Int)) = false := by simp; omega
            have r2 : decide (256 < m) = false := by simp; omega
            have hT2 : Hid (AllTo (fun a : ByteArray × List UInt8 => a.2.length ≤ 256) la (i + 1)) := hT3.out (Nat.le_of_not_lt hm)
            clear hm
            go_wp2_with (
              at_builtin
              refine wpl_apps (t := 27) (e := 9) rfl (.tmp 68) (.tmp 75) rfl Tryz.underlying27 infoT (w.heap.size + 1) u3 P [x.1] rfl (World.ownsRow.alloc hO.out _) (some ⟨wr.heap.size, 0, none⟩) 1 rfl (srw_one9 wr x.1) (fun h => by cases h) p1 (by have := GK.out; simp; omega) ?_
              intro v' w' hown' hgrow
              have hK2 := Lib.hid (blk_row (hK.out.alloc (.cells #[.string x.1] 9)) hgrow (row_ne hO.out (Nat.lt_succ_self _)))
              have e5 := hK2.out.cell 5
              have d1 : w'.cell? ⟨bb, o + i * 2 + 1, none⟩ = some (.slice ad m cc) := hgrow.cell CE.out (row_ne hO.out (Nat.lt_succ_of_lt HBB.out))
              simp only [List.getElem?_cons_zero, List.getElem?_cons_succ] at e5
              have hB2 : Hid (Below w.heap.size w w') := (hB.out.alloc hsz (.cells #[.string x.1] 9)).grown hgrow (hB.out.alloc hsz (.cells #[.string x.1] 9)).size (fun k hk => Nat.le_of_succ_le (hO.out.lt k hk).1)
              have O2 : Hid (OwnT w' (w.heap.size + 1) v' (P ++ [x.1])) := hown'
              clear hown' hgrow p1 d0 z0 z3 z5 z6)
            go_roundw
            case rel => exact ⟨i + 1, P ++ [x.1], by omega, by go_num, hP2, hl2, O2, hB2, hK2, hT2⟩
            case measure => simp [RowKit.intOf]; omega
        · obtain rfl : i = an := by omega
          obtain ⟨a5, c5, rfl, y1, y2, y3⟩ := ownT_srw hO.out
          have Y3 := Lib.hid y3
          have hP2 : P = la.map (·.1) := by rw [hP.out, List.take_of_length_le (by rw [HLA.out]; exact Nat.le_refl _)]
          have HP := Lib.hid hP2
          have HT := Lib.hid (allTo_of hT.out HLA.out)
          have CR := Lib.hid (CRF.out wr hB.out)
          have HPL := Lib.hid hPl
          rw [hPl] at y1 ⊢
          clear hP2 y3 hP hPl
          go_wp2_with fail
          refine CR.out.mono ?_
          clear CR
          rintro e w2 ⟨hb2, hcs⟩
          have HB2 := Lib.hid (below_chain hB.out hb2)
          have KK2 := Lib.hid (hK.out.low hb2)
          have CN := Lib.hid (rising_any a5 P i c5 w2 (Y3.out.below hb2) HPL.out y1 y2)
          clear hb2 z0 z3 z5 z6 Y3
          rcases hcs with ⟨hok, rfl⟩ | ⟨hno, rfl⟩
          · have HOK := Lib.hid hok
            obtain ⟨S, hS⟩ : ∃ S, S = (lr.map (·.n)).sum := ⟨_, rfl⟩
            have HS := Lib.hid hS
            rw [← hS]
            clear hok hS
            go_wp2_with fail
            refine CN.out.mono ?_
            rintro e w3 ⟨⟨bq, rfl, hq⟩, hb3⟩
            have HB3 := Lib.hid (below_chain HB2.out hb3)
            have KK3 := Lib.hid (KK2.out.low hb3)
            have HQ := Lib.hid hq
            have z0 := KK3.out.cell 0
            have z3 := KK3.out.cell 3
            simp only [List.getElem?_cons_zero, List.getElem?_cons_succ] at z0 z3
            clear hq hb3 CN
            cases bq with
            | false =>
              have HF : Hid (¬ OkMeta ltB nameOk ⟨k, a, b, d, t, la, lr⟩) := fun h0 => by have := HQ.out.2 (by rw [HP.out]; exact ⟨fun s hs => by obtain ⟨q, hq, rfl⟩ := List.mem_map.1 hs; exact h0.names q hq, h0.rising⟩); cases this
              go_wp2_with fail
              go_ret
              exact ⟨⟨false, rfl, by simp only [Bool.false_eq_true, false_iff]; exact HF.out⟩, HB3.out⟩
            | true =>
              by_cases hsd : S = d
              rotate_left
              · have v1 : (S == d) = false := by simpa using hsd
                have HF : Hid (¬ OkMeta ltB nameOk ⟨k, a, b, d, t, la, lr⟩) := fun h0 => hsd (by rw [HS.out]; exact h0.sum)
                clear hsd
                go_wp2_with fail
                go_ret
                exact ⟨⟨false, rfl, by simp only [Bool.false_eq_true, false_iff]; exact HF.out⟩, HB3.out⟩
              have v1 : (S == d) = true := by simpa using hsd
              have HSD := Lib.hid hsd
              clear hsd
              have OKM : Hid ((k = 3 → d = 0) → OkMeta ltB nameOk ⟨k, a, b, d, t, la, lr⟩) := fun h3 =>
                { kind := W0.out, mode := W1.out, links := W2.out, size := W3.out, target := TG.out
                  most := by have := H8.out; have := HLA.out; show la.length ≤ 8; omega
                  values := HT.out
                  names := fun q hq => (HQ.out.1 rfl).1 q.1 (by rw [HP.out]; exact List.mem_map_of_mem hq)
                  rising := by have := (HQ.out.1 rfl).2; rw [HP.out] at this; exact this
                  many := HOK.out.1
                  refs := HOK.out.2
                  sum := by rw [← HS.out]; exact HSD.out
                  link := h3 }
              by_cases hd0 : d = 0
              rotate_left
              · have v2 : (d == 0) = false := by simpa using hd0
                have HF : Hid (¬ OkMeta ltB nameOk ⟨k, a, b, d, t, la, lr⟩) := fun h0 => hd0 (h0.link K3.out)
                clear hd0
                go_wp2_with fail
                go_ret
                exact ⟨⟨false, rfl, by simp only [Bool.false_eq_true, false_iff]; exact HF.out⟩, HB3.out⟩
              have v2 : (d == 0) = true := by simpa using hd0
              have OK2 := Lib.hid (OKM.out fun _ => hd0)
              clear hd0
              go_wp2_with fail
              go_ret
              exact ⟨⟨true, rfl, by simp only [true_iff]; exact OK2.out⟩, HB3.out⟩
          · have HNO := Lib.hid hno
            have HF : Hid (¬ OkMeta ltB nameOk ⟨k, a, b, d, t, la, lr⟩) := fun h0 => HNO.out ⟨h0.many, h0.refs⟩
            clear hno
            go_wp2_with fail
            refine CN.out.mono ?_
            rintro e w3 ⟨⟨bq, rfl, hq⟩, hb3⟩
            have HB3 := Lib.hid (below_chain HB2.out hb3)
            clear hb3 CN hq
            cases bq
            all_goals
              go_wp2_with fail
              go_ret
              exact ⟨⟨false, rfl, by simp only [Bool.false_eq_true, false_iff]; exact HF.out⟩, HB3.out⟩
  · have u1 : (k == 3) = false := by simpa using hk3
    have u2 : (k != 3) = true := by simp [hk3]
    have K3 := Lib.hid hk3
    clear hk3
    by_cases ht0 : t = noKey
    rotate_left
    · have te : t.toList.isEmpty = false := by rw [KE.out]; simpa using ht0
      have HF : Hid (¬ OkMeta ltB nameOk ⟨k, a, b, d, t, la, lr⟩) := fun h0 => by have h1 := h0.target; simp only at h1; rw [if_neg K3.out] at h1; exact ht0 h1
      clear ht0
      go_enter Tryz.func42, Tryz.ntmps42
      go_wp2_with fail
      refine (CA.out _).mono ?_
      rintro e w4 ⟨rfl, rfl⟩
      go_wp2_with fail
      refine (CB.out _).mono ?_
      rintro e w4 ⟨rfl, rfl⟩
      go_wp2_with fail
      refine (CC.out _).mono ?_
      rintro e w4 ⟨rfl, rfl⟩
      go_wp2_with fail
      refine (CD.out _).mono ?_
      rintro e w4 ⟨rfl, rfl⟩
      go_wp2_with fail
      go_ret
      exact ⟨⟨false, rfl, by simp only [Bool.false_eq_true, false_iff]; exact HF.out⟩, B0.out⟩
    have te : t.toList.isEmpty = true := by rw [KE.out]; simpa using ht0
    have TG : Hid (if k = 3 then 1 ≤ t.size ∧ t.size ≤ 1000 ∧ 0 ∉ t.data.toList else t = noKey) := by
      show ite _ _ _
      rw [if_neg K3.out]
      exact ht0
    clear ht0
    go_enter Tryz.func42, Tryz.ntmps42
    go_wp2_with fail
    refine (CA.out _).mono ?_
    rintro e w4 ⟨rfl, rfl⟩
    go_wp2_with fail
    refine (CB.out _).mono ?_
    rintro e w4 ⟨rfl, rfl⟩
    go_wp2_with fail
    refine (CC.out _).mono ?_
    rintro e w4 ⟨rfl, rfl⟩
    go_wp2_with fail
    refine (CD.out _).mono ?_
    rintro e w4 ⟨rfl, rfl⟩
    go_wp2_with fail
    clear x0 x1 x2 x3 x4 x5
    generalize w.alloc (.cells #[.int .i64 k, .int .i64 a, .int .i64 b, .int .i64 d, .string t, .slice av an ac, .slice rv rn rc] 26) = wa at *
    have gw := K0.out.lt
    have GW := Lib.hid gw
    clear gw
    go_loopw [3, 4] (fun v vi wr => ∃ (i : Nat) (P : List ByteArray), i ≤ an ∧ vi = .int .i64 i ∧ Hid (P = (la.take i).map (·.1)) ∧ P.length = i ∧ Hid (OwnT wr (w.heap.size + 1) v P) ∧ Hid (Below w.heap.size w wr) ∧ Hid (Blk wr w.heap.size [.int .i64 k, .int .i64 a, .int .i64 b, .int .i64 d, .string t, .slice av an ac, .slice rv rn rc] 26) ∧ Hid (AllTo (fun a => a.2.length ≤ 256) la i)) (fun _ vi _ => an - (RowKit.intOf vi).toNat)
    case atStart => exact ⟨0, [], by omega, rfl, rfl, rfl, World.ownsRow_nil _ _ _ _, B0.out, K0.out, allTo_zero _ _⟩
    case round =>
      obtain ⟨i, P, hi, rfl, hP, hPl, hO, hB, hK, hT⟩ := hrel
      have n8 := H8.out
      have z0 := hK.out.cell 0
      have z3 := hK.out.cell 3
      have z5 := hK.out.cell 5
      have z6 := hK.out.cell 6
      simp only [List.getElem?_cons_zero, List.getElem?_cons_succ] at z0 z3 z5 z6
      by_cases hin : i < an
      · obtain ⟨bb, o, x, rfl, hb, hx, x0, x1, ad, m, cc, x2, x3, x4, x5, x6, x7⟩ := arw_cell HA.out i (by have := HLA.out; omega)
        have HX := Lib.hid hx
        have d0 := (hB.out.cell (p := ⟨bb, o + i * 2, none⟩) hb).trans x0
        have d1 := (hB.out.cell (p := ⟨bb, o + i * 2 + 1, none⟩) hb).trans x2
        have q1 : (0 : Int) ≤ (i : Int) := by omega
        have q2 : (i : Int) < (an : Int) := by omega
        have HM := Lib.hid x3
        have hsz := hB.out.size
        have p1 : (P.length + [x.1].length) * 16 ≤ 140737488355328 := by simp; omega
        have gk := hK.out.lt
        have GK := Lib.hid gk
        clear hx x0 x2 x6 x7 x3 gk
        have HBB := Lib.hid hb
        clear hb
        have CE : Hid ((wr.alloc (.cells #[.string x.1] 9)).cell? ⟨bb, o + i * 2 + 1, none⟩ = some (.slice ad m cc)) := (((Below.refl _ wr).alloc (Nat.le_refl _) (.cells #[.string x.1] 9)).cell (p := ⟨bb, o + i * 2 + 1, none⟩) (by have := HBB.out; show bb < wr.heap.size; omega)).trans d1
        have hT3 := Lib.hid (fun (h : m ≤ 256) => (allTo_more hT.out HX.out (by rw [HM.out]; exact h) : AllTo (fun a : ByteArray × List UInt8 => a.2.length ≤ 256) la (i + 1)))
        have HF0 : Hid (256 < m → ¬ OkMeta ltB nameOk ⟨k, a, b, d, t, la, lr⟩) := fun h h0 => by have := h0.values x (List.mem_of_getElem? HX.out); have := HM.out; omega
        have hP2 : Hid (P ++ [x.1] = (la.take (i + 1)).map (·.1)) := by show _ = _; rw [hP.out]; exact names_more HX.out
        have hl2 : (P ++ [x.1]).length = i + 1 := by simp [hPl]
        clear d1
        by_cases hm : 256 < m
        · have r1 : decide ((256 : Int) < (m : Int)) = true := by simp; omega
          have r2 : decide (256 < m) = true := by simp; omega
          have HF := Lib.hid (HF0.out hm)
          clear hm
          go_wp2_with (
            at_builtin
            refine wpl_apps (t := 27) (e := 9) rfl (.tmp 68) (.tmp 75) rfl Tryz.underlying27 infoT (w.heap.size + 1) u3 P [x.1] rfl (World.ownsRow.alloc hO.out _) (some ⟨wr.heap.size, 0, none⟩) 1 rfl (srw_one9 wr x.1) (fun h => by cases h) p1 (by have := GK.out; simp; omega) ?_
            intro v' w' hown' hgrow
            have hK2 := Lib.hid (blk_row (hK.out.alloc (.cells #[.string x.1] 9)) hgrow (row_ne hO.out (Nat.lt_succ_self _)))
            have e5 := hK2.out.cell 5
            have d1 : w'.cell? ⟨bb, o + i * 2 + 1, none⟩ = some (.slice ad m cc) := hgrow.cell CE.out (row_ne hO.out (Nat.lt_succ_of_lt HBB.out))
            simp only [List.getElem?_cons_zero, List.getElem?_cons_succ] at e5
            have hB2 : Hid (Below w.heap.size w w') := (hB.out.alloc hsz (.cells #[.string x.1] 9)).grown hgrow (hB.out.alloc hsz (.cells #[.string x.1] 9)).size (fun k hk => Nat.le_of_succ_le (hO.out.lt k hk).1)
            clear hown' hgrow p1 d0 z0 z3 z5 z6)
          go_ret
          exact ⟨⟨false, rfl, by simp only [Bool.false_eq_true, false_iff]; exact HF.out⟩, hB2.out⟩
        · have r1 : decide ((256 : Int) < (m : Int)) = false := by simp; omega
          have r2 : decide (256 < m) = false := by simp; omega
          have hT2 : Hid (AllTo (fun a : ByteArray × List UInt8 => a.2.length ≤ 256) la (i + 1)) := hT3.out (Nat.le_of_not_lt hm)
          clear hm
          go_wp2_with (
            at_builtin
            refine wpl_apps (t := 27) (e := 9) rfl (.tmp 68) (.tmp 75) rfl Tryz.underlying27 infoT (w.heap.size + 1) u3 P [x.1] rfl (World.ownsRow.alloc hO.out _) (some ⟨wr.heap.size, 0, none⟩) 1 rfl (srw_one9 wr x.1) (fun h => by cases h) p1 (by have := GK.out; simp; omega) ?_
            intro v' w' hown' hgrow
            have hK2 := Lib.hid (blk_row (hK.out.alloc (.cells #[.string x.1] 9)) hgrow (row_ne hO.out (Nat.lt_succ_self _)))
            have e5 := hK2.out.cell 5
            have d1 : w'.cell? ⟨bb, o + i * 2 + 1, none⟩ = some (.slice ad m cc) := hgrow.cell CE.out (row_ne hO.out (Nat.lt_succ_of_lt HBB.out))
            simp only [List.getElem?_cons_zero, List.getElem?_cons_succ] at e5
            have hB2 : Hid (Below w.heap.size w w') := (hB.out.alloc hsz (.cells #[.string x.1] 9)).grown hgrow (hB.out.alloc hsz (.cells #[.string x.1] 9)).size (fun k hk => Nat.le_of_succ_le (hO.out.lt k hk).1)
            have O2 : Hid (OwnT w' (w.heap.size + 1) v' (P ++ [x.1])) := hown'
            clear hown' hgrow p1 d0 z0 z3 z5 z6)
          go_roundw
          case rel => exact ⟨i + 1, P ++ [x.1], by omega, by go_num, hP2, hl2, O2, hB2, hK2, hT2⟩
          case measure => simp [RowKit.intOf]; omega
      · obtain rfl : i = an := by omega
        obtain ⟨a5, c5, rfl, y1, y2, y3⟩ := ownT_srw hO.out
        have Y3 := Lib.hid y3
        have hP2 : P = la.map (·.1) := by rw [hP.out, List.take_of_length_le (by rw [HLA.out]; exact Nat.le_refl _)]
        have HP := Lib.hid hP2
        have HT := Lib.hid (allTo_of hT.out HLA.out)
        have CR := Lib.hid (CRF.out wr hB.out)
        have HPL := Lib.hid hPl
        rw [hPl] at y1 ⊢
        clear hP2 y3 hP hPl
        go_wp2_with fail
        refine CR.out.mono ?_
        clear CR
        rintro e w2 ⟨hb2, hcs⟩
        have HB2 := Lib.hid (below_chain hB.out hb2)
        have KK2 := Lib.hid (hK.out.low hb2)
        have CN := Lib.hid (rising_any a5 P i c5 w2 (Y3.out.below hb2) HPL.out y1 y2)
        clear hb2 z0 z3 z5 z6 Y3
        rcases hcs with ⟨hok, rfl⟩ | ⟨hno, rfl⟩
        · have HOK := Lib.hid hok
          obtain ⟨S, hS⟩ : ∃ S, S = (lr.map (·.n)).sum := ⟨_, rfl⟩
          have HS := Lib.hid hS
          rw [← hS]
          clear hok hS
          go_wp2_with fail
          refine CN.out.mono ?_
          rintro e w3 ⟨⟨bq, rfl, hq⟩, hb3⟩
          have HB3 := Lib.hid (below_chain HB2.out hb3)
          have KK3 := Lib.hid (KK2.out.low hb3)
          have HQ := Lib.hid hq
          have z0 := KK3.out.cell 0
          have z3 := KK3.out.cell 3
          simp only [List.getElem?_cons_zero, List.getElem?_cons_succ] at z0 z3
          clear hq hb3 CN
          cases bq with
          | false =>
            have HF : Hid (¬ OkMeta ltB nameOk ⟨k, a, b, d, t, la, lr⟩) := fun h0 => by have := HQ.out.2 (by rw [HP.out]; exact ⟨fun s hs => by obtain ⟨q, hq, rfl⟩ := List.mem_map.1 hs; exact h0.names q hq, h0.rising⟩); cases this
            go_wp2_with fail
            go_ret
            exact ⟨⟨false, rfl, by simp only [Bool.false_eq_true, false_iff]; exact HF.out⟩, HB3.out⟩
          | true =>
            by_cases hsd : S = d
            rotate_left
            · have v1 : (S == d) = false := by simpa using hsd
              have HF : Hid (¬ OkMeta ltB nameOk ⟨k, a, b, d, t, la, lr⟩) := fun h0 => hsd (by rw [HS.out]; exact h0.sum)
              clear hsd
              go_wp2_with fail
              go_ret
              exact ⟨⟨false, rfl, by simp only [Bool.false_eq_true, false_iff]; exact HF.out⟩, HB3.out⟩
            have v1 : (S == d) = true := by simpa using hsd
            have HSD := Lib.hid hsd
            clear hsd
            have OKM : Hid ((k = 3 → d = 0) → OkMeta ltB nameOk ⟨k, a, b, d, t, la, lr⟩) := fun h3 =>
              { kind := W0.out, mode := W1.out, links := W2.out, size := W3.out, target := TG.out
                most := by have := H8.out; have := HLA.out; show la.length ≤ 8; omega
                values := HT.out
                names := fun q hq => (HQ.out.1 rfl).1 q.1 (by rw [HP.out]; exact List.mem_map_of_mem hq)
                rising := by have := (HQ.out.1 rfl).2; rw [HP.out] at this; exact this
                many := HOK.out.1
                refs := HOK.out.2
                sum := by rw [← HS.out]; exact HSD.out
                link := h3 }
            have OK2 := Lib.hid (OKM.out fun h => absurd h K3.out)
            go_wp2_with fail
            go_ret
            exact ⟨⟨true, rfl, by simp only [true_iff]; exact OK2.out⟩, HB3.out⟩
        · have HNO := Lib.hid hno
          have HF : Hid (¬ OkMeta ltB nameOk ⟨k, a, b, d, t, la, lr⟩) := fun h0 => HNO.out ⟨h0.many, h0.refs⟩
          clear hno
          go_wp2_with fail
          refine CN.out.mono ?_
          rintro e w3 ⟨⟨bq, rfl, hq⟩, hb3⟩
          have HB3 := Lib.hid (below_chain HB2.out hb3)
          clear hb3 CN hq
          cases bq
          all_goals
            go_wp2_with fail
            go_ret
            exact ⟨⟨false, rfl, by simp only [Bool.false_eq_true, false_iff]; exact HF.out⟩, HB3.out⟩
end Go.Proofs.YtpjgkboafmebbaaGreatDoor.Sh
