/-
  The contract of the document's own GetListing. Conditions: each law's own.
-/
import Derived.Test.YtpjgkboafmebbaaGreatDoorRi
import Derived.StillTailTactics
import Derived.BigQuiet
import Derived.Deep.QuietTactic
import Derived.Test.YtpjgkboafmebbaaGreatDoorOc
import Derived.Test.YtpjgkboafmebbaaGreatDoorOl
import Derived.Laws.ResultCell
import Derived.Test.YtpjgkboafmebbaaGreatDoorNa
import Derived.Test.YtpjgkboafmebbaaGreatDoorOd
import Derived.Test.YtpjgkboafmebbaaGreatDoorOf
namespace Go.Proofs.YtpjgkboafmebbaaGreatDoor.Sh
open Go.RowKit Go.Lib Lb
attribute [local irreducible] Go.wpStill Go.stOp Go.Region.wanted
set_option maxHeartbeats 2000000 in
set_option maxRecDepth 100000 in
theorem pageok_any (an ak : Option Addr) (a : List Int) (k : List ByteArray) (n q cn ck : Nat) (w : World) (h1 : Zrw w an a) (h2 : Srw w ak k) (ha : a.length = n) (hk : k.length = q) (hc : n ≤ cn) (hcc : cn ≤ 9223372036854775807) (hd : q ≤ ck) (_ : ck ≤ 9223372036854775807) (hsz : ∀ s ∈ k, s.size ≤ 9223372036854775807) :
    Calls Tryz.prog 53 #[.agg #[.slice an n cn, .slice ak q ck]] w (Tells w (OkPage ⟨a, k⟩)) := by
  have H1 := Lib.hid h1
  have H2 := Lib.hid h2
  have HA := Lib.hid ha
  have HK := Lib.hid hk
  have HZ := Lib.hid hsz
  have CW := Lib.hid (fun y W => within_any y 1 1024 W)
  have B0 : Hid (Below w.heap.size w (w.alloc (.cells #[.slice an n cn, .slice ak q ck] 33))) := (Below.refl _ w).alloc (Nat.le_refl _) _
  have K0 : Hid (Blk (w.alloc (.cells #[.slice an n cn, .slice ak q ck] 33)) w.heap.size [.slice an n cn, .slice ak q ck] 33) := Blk.new w [.slice an n cn, .slice ak q ck] 33 _ rfl
  have c0 := K0.out.cell 0
  have c1 := K0.out.cell 1
  simp only [List.getElem?_cons_zero, List.getElem?_cons_succ] at c0 c1
  clear h1 h2 ha hk hsz
  by_cases h32 : 32 < n
  · have t1 : decide (32 < n) = true := by simp; omega
    have t2 : decide ((32 : Int) < (n : Int)) = true := by simp; omega
    have HF : Hid (¬ OkPage ⟨a, k⟩) := fun h0 => by have := h0.most; have := HA.out; simp only at *; omega
    clear h32
    go_enter Tryz.func53, Tryz.ntmps53
    go_wp2_with fail
    go_ret
    exact ⟨⟨false, rfl, by simp [HF.out]⟩, B0.out⟩
  · have t1 : decide (32 < n) = false := by simp; omega
    have t2 : decide ((32 : Int) < (n : Int)) = false := by simp; omega
    have H32 := Lib.hid (Nat.le_of_not_lt h32)
    clear h32
    by_cases hq : q = n
    · subst hq
      have t3 : ((q : Int) != (q : Int)) = false := by simp
      go_enter Tryz.func53, Tryz.ntmps53
      go_wp2_with fail
      generalize w.alloc (.cells #[.slice an q cn, .slice ak q ck] 33) = wa at *
      go_loopw [3] (fun vi wr => ∃ i : Nat, i ≤ q ∧ vi = .int .i64 i ∧ Hid (Below w.heap.size w wr) ∧ Hid (Blk wr w.heap.size [.slice an q cn, .slice ak q ck] 33) ∧ Hid (PageTo a k i)) (fun vi _ => q - (RowKit.intOf vi).toNat)
      case atStart => exact ⟨0, by omega, rfl, B0.out, K0.out, pageTo_zero _ _⟩
      case round =>
        obtain ⟨i, hi, rfl, hB, hK, hT⟩ := hrel
        have c0 := hK.out.cell 0
        have c1 := hK.out.cell 1
        simp only [List.getElem?_cons_zero, List.getElem?_cons_succ] at c0 c1
        by_cases hin : i < q
        · have q1 : (0 : Int) ≤ (i : Int) := by omega
          have q2 : (i : Int) < (q : Int) := by omega
          obtain ⟨b, o, rfl, hb, hcell⟩ := zrw_cell H1.out i (by have := HA.out; omega)
          obtain ⟨b2, o2, s, rfl, hb2, hs, hcell2⟩ := srw_cell H2.out i (by have := HK.out; omega)
          obtain ⟨y, hy⟩ : ∃ y, a[i]? = some y := ⟨_, List.getElem?_eq_getElem (by have := HA.out; omega)⟩
          have d1 : wr.cell? ⟨b, o + i, none⟩ = some (.int .i64 y) := (hB.out.cell (p := ⟨b, o + i, none⟩) hb).trans (hcell i y hy)
          have d2 : wr.cell? ⟨b2, o2 + i, none⟩ = some (.string s) := (hB.out.cell (p := ⟨b2, o2 + i, none⟩) hb2).trans hcell2
          have d3 := Lib.hid (fun j z (hz : a[j]? = some z) => (hB.out.cell (p := ⟨b, o + j, none⟩) hb).trans (hcell j z hz))
          have HY := Lib.hid hy
          have HS := Lib.hid hs
          have CY := Lib.hid (fun W => CW.out y W)
          have ck := fun W => refcheck_key s W (HZ.out s (List.mem_of_getElem? hs))
          clear hy hs hcell hcell2 hb hb2 c0 c1
          have c0 := hK.out.cell 0
          have c1 := hK.out.cell 1
          simp only [List.getElem?_cons_zero, List.getElem?_cons_succ] at c0 c1
          by_cases hw : within y 1 1024
          rotate_left
          · have hwt : decide (within y 1 1024) = false := by simpa using hw
            rw [hwt] at CY
            have HW := Lib.hid hw
            have HF : Hid (¬ OkPage ⟨a, k⟩) := fun h0 => HW.out (h0.nums y (List.mem_of_getElem? HY.out))
            clear hw hwt CW ck d3
            go_wp2_with fail
            go_quiet ((go_at_call 82; with_reducible exact Calls.quiet_of_same (CY.out _)))
            generalize hwv : wr.drewN nq = wv at *
            have hB2 : Hid (Below w.heap.size w wv) := by show Below _ _ _; rw [← hwv]; exact below_drewN hB.out _
            clear hwv
            go_wp2_with fail
            go_ret
            exact ⟨⟨false, rfl, by simp [HF.out]⟩, hB2.out⟩
          · have hwt : decide (within y 1 1024) = true := by simpa using hw
            rw [hwt] at CY
            have HW := Lib.hid hw
            clear hw hwt CW
            by_cases h0 : 0 < i
            rotate_left
            · have t6 : decide (0 < i) = false := by simpa using h0
              have t7 : decide ((0 : Int) < (i : Int)) = false := by simp; omega
              have I0 := Lib.hid h0
              have CK := Lib.hid ck
              clear h0 d3 ck
              go_wp2_with fail
              refine wp_region_still_tail 31 (by kernel_rfl) (by kernel_rfl) ?_
              simp only [List.take_succ_cons, List.take_zero, List.drop_succ_cons, List.drop_zero]
              repeat still_step
              still_call (CY.out _)
              repeat still_step
              refine wpStill_nil ?_
              change wpList _ _ _ _ _ wr.drew
              have hBd := Lib.hid hB.out.drew
              have hKd : Hid (Blk wr.drew w.heap.size [.slice (some ⟨b, o, none⟩) q cn, .slice (some ⟨b2, o2, none⟩) q ck] 33) := hK.out.drew
              clear c0 c1 d1 d2 hB hK
              generalize wr.drew = wd at *
              cases hkb : (keyBytes s.data.toList).isSome with
              | true =>
                rw [hkb] at CK
                have HT2 : Hid (PageTo a k (i + 1)) := pageTo_more hT.out HY.out HS.out HW.out hkb (fun j z hj => by have := I0.out; omega)
                go_wp2_with fail
                refine (CK.out _).mono ?_
                rintro e w2 ⟨rfl, b1⟩
                have BZ := Lib.hid (below_chain hBd.out b1)
                have KZ := Lib.hid (hKd.out.low b1)
                clear CK b1
                go_wp2_with fail
                go_roundw
                case rel => exact ⟨i + 1, by omega, by go_num, BZ, KZ, HT2⟩
                case measure => simp [RowKit.intOf]; omega
              | false =>
                rw [hkb] at CK
                have HF : Hid (¬ OkPage ⟨a, k⟩) := fun h0 => by have := h0.keys s (List.mem_of_getElem? HS.out); unfold keyOk at this; rw [hkb] at this; cases this
                go_wp2_with fail
                refine (CK.out _).mono ?_
                rintro e w2 ⟨rfl, b1⟩
                have BZ := Lib.hid (below_chain hBd.out b1)
                clear CK b1
                go_wp2_with fail
                go_ret
                exact ⟨⟨false, rfl, by simp [HF.out]⟩, BZ.out⟩
            · obtain ⟨j, hj⟩ : ∃ j, i = j + 1 := ⟨i - 1, by omega⟩
              obtain ⟨z, hz⟩ : ∃ z, a[j]? = some z := ⟨_, List.getElem?_eq_getElem (by have := HA.out; omega)⟩
              have d4 := d3.out j z hz
              have HZz := Lib.hid hz
              have CK := Lib.hid ck
              have t6 : decide (0 < i) = true := by simp; omega
              have t7 : decide ((0 : Int) < (i : Int)) = true := by simp; omega
              have w2 : IntKind.i64.wrap (j : Int) = (j : Int) := IntWalk.i64_in _ (by omega)
              have w4 : (i : Int) - 1 = (j : Int) := by omega
              have q3 : (0 : Int) ≤ (j : Int) := by omega
              have q4 : (j : Int) < (q : Int) := by omega
              have q5 : j < q := by omega
              have HJ := Lib.hid hj
              clear hj
              clear hz d3 ck h0
              by_cases hyz : y ≤ z
              · have t5 : decide (y ≤ z) = true := by simpa using hyz
                have HYZ := Lib.hid hyz
                have HF : Hid (¬ OkPage ⟨a, k⟩) := fun h0 => by have e := HJ.out; subst e; have h1 := su_next ltI a h0.rising j (by have := (List.getElem?_eq_some_iff.1 HY.out).1; exact this); rw [(List.getElem?_eq_some_iff.1 HY.out).2, (List.getElem?_eq_some_iff.1 HZz.out).2] at h1; have h2 : z < y := by simpa [ltI] using h1
                                                                have := HYZ.out; omega
                clear hyz CK
                go_wp2_with fail
                go_quiet ((go_at_call 82; with_reducible exact Calls.quiet_of_same (CY.out _)))
                generalize hwv : wr.drewN nq = wv at *
                have hB2 : Hid (Below w.heap.size w wv) := by show Below _ _ _; rw [← hwv]; exact below_drewN hB.out _
                clear hwv
                go_wp2_with fail
                go_ret
                exact ⟨⟨false, rfl, by simp [HF.out]⟩, hB2.out⟩
              · have t5 : decide (y ≤ z) = false := by simpa using hyz
                have HYZ := Lib.hid hyz
                clear hyz
                go_wp2_with fail
                refine wp_region_still_tail 31 (by kernel_rfl) (by kernel_rfl) ?_
                simp only [List.take_succ_cons, List.take_zero, List.drop_succ_cons, List.drop_zero]
                repeat still_step
                still_call (CY.out _)
                repeat still_step
                refine wpStill_nil ?_
                change wpList _ _ _ _ _ wr.drew
                have hBd := Lib.hid hB.out.drew
                have hKd : Hid (Blk wr.drew w.heap.size [.slice (some ⟨b, o, none⟩) q cn, .slice (some ⟨b2, o2, none⟩) q ck] 33) := hK.out.drew
                clear c0 c1 d1 d2 d4 hB hK
                generalize wr.drew = wd at *
                cases hkb : (keyBytes s.data.toList).isSome with
                | true =>
                  rw [hkb] at CK
                  have HT2 : Hid (PageTo a k (i + 1)) := by
                    show PageTo _ _ _
                    have e := HJ.out
                    subst e
                    exact pageTo_more hT.out HY.out HS.out HW.out hkb (rise_one HZz.out (by have := HYZ.out; omega))
                  go_wp2_with fail
                  refine (CK.out _).mono ?_
                  rintro e w2 ⟨rfl, b1⟩
                  have BZ := Lib.hid (below_chain hBd.out b1)
                  have KZ := Lib.hid (hKd.out.low b1)
                  clear CK b1
                  go_wp2_with fail
                  go_roundw
                  case rel => exact ⟨i + 1, by omega, by go_num, BZ, KZ, HT2⟩
                  case measure => simp [RowKit.intOf]; omega
                | false =>
                  rw [hkb] at CK
                  have HF : Hid (¬ OkPage ⟨a, k⟩) := fun h0 => by have := h0.keys s (List.mem_of_getElem? HS.out); unfold keyOk at this; rw [hkb] at this; cases this
                  go_wp2_with fail
                  refine (CK.out _).mono ?_
                  rintro e w2 ⟨rfl, b1⟩
                  have BZ := Lib.hid (below_chain hBd.out b1)
                  clear CK b1
                  go_wp2_with fail
                  go_ret
                  exact ⟨⟨false, rfl, by simp [HF.out]⟩, BZ.out⟩
        · obtain rfl : i = q := by omega
          go_wp2_with fail
          go_ret
          exact ⟨⟨true, rfl, by simp; exact pageTo_all (by rw [HA.out]; exact hT.out) (by rw [HA.out]; exact H32.out) (by rw [HA.out]; exact HK.out)⟩, hB.out⟩
    · have t3 : ((q : Int) != (n : Int)) = true := by simp; omega
      have t4 : (q == n) = false := by simp; omega
      have HF : Hid (¬ OkPage ⟨a, k⟩) := fun h0 => by have h1 := h0.same; have := HA.out; have := HK.out; simp only at h1; omega
      go_enter Tryz.func53, Tryz.ntmps53
      go_wp2_with fail
      go_ret
      exact ⟨⟨false, rfl, by simp [HF.out]⟩, B0.out⟩
end Go.Proofs.YtpjgkboafmebbaaGreatDoor.Sh
namespace Go.Proofs.YtpjgkboafmebbaaGreatDoor.Sh
open Go.RowKit Go.Lib Lb
set_option maxHeartbeats 4000000 in
set_option maxRecDepth 100000 in
theorem refputpage_any (an ak : Option Addr) (a : List Int) (k : List ByteArray) (n q cn ck : Nat) (w : World) (h1 : Zrw w an a) (h2 : Srw w ak k) (ha : a.length = n) (hk : k.length = q) (hc : n ≤ cn) (hcc : cn ≤ 9223372036854775807) (hd : q ≤ ck) (hdd : ck ≤ 9223372036854775807) (hsz : ∀ s ∈ k, s.size ≤ 9223372036854775807) :
    Calls Tryz.prog 24 #[.agg #[.slice an n cn, .slice ak q ck]] w (Gives w (OkPage ⟨a, k⟩) (pageL ⟨a, k⟩) 80) := by
  have H1 := Lib.hid h1
  have H2 := Lib.hid h2
  have HA := Lib.hid ha
  have HK := Lib.hid hk
  have HZ := Lib.hid hsz
  have B0 : Hid (Below w.heap.size w (w.alloc (.cells #[.slice an n cn, .slice ak q ck] 33))) := (Below.refl _ w).alloc (Nat.le_refl _) _
  have K0 : Hid (Blk (w.alloc (.cells #[.slice an n cn, .slice ak q ck] 33)) w.heap.size [.slice an n cn, .slice ak q ck] 33) := Blk.new w [.slice an n cn, .slice ak q ck] 33 _ rfl
  have RT := Lib.hid (pageok_any an ak a k n q cn ck (w.alloc (.cells #[.slice an n cn, .slice ak q ck] 33)) (h1.below B0.out) (h2.below B0.out) ha hk hc hcc hd hdd hsz)
  have c0 := K0.out.cell 0
  have c1 := K0.out.cell 1
  simp only [List.getElem?_cons_zero, List.getElem?_cons_succ] at c0 c1
  clear h1 h2 ha hk hsz
  go_enter Tryz.func24, Tryz.ntmps24
  go_wp2_with fail
  refine RT.out.mono ?_
  rintro e w1 ⟨⟨b, rfl, hbb⟩, hb1⟩
  have HBB := Lib.hid hbb
  have B1 : Hid (Below w.heap.size w w1) := below_chain B0.out hb1
  have K1 := Lib.hid (K0.out.low hb1)
  clear c0 c1 hbb hb1
  have c0 := K1.out.cell 0
  have c1 := K1.out.cell 1
  simp only [List.getElem?_cons_zero, List.getElem?_cons_succ] at c0 c1
  cases b with
  | false =>
    have HF : Hid (¬ OkPage ⟨a, k⟩) := fun h0 => by have := HBB.out.2 h0; cases this
    go_wp2_with fail
    go_ret2
    exact ⟨B1.out, .inr ⟨HF.out, rfl⟩⟩
  | true =>
    have HT : Hid (OkPage ⟨a, k⟩) := HBB.out.1 rfl
    have hn32 : n ≤ 32 := by have := HT.out.most; have := HA.out; simp only at *; omega
    have hqn : q = n := by have := HT.out.same; have := HA.out; have := HK.out; simp only at *; omega
    subst hqn
    have CN := Lib.hid (refnum_any (q : Int) (by omega) (by omega) w1)
    clear HBB RT K0 B0
    have G1 := Lib.hid (World.block_lt_of_cell? w1 _ c1)
    go_wp2_with fail
    refine CN.out.mono ?_
    rintro e w4 ⟨b2, v4, rfl, o4⟩
    have B4 := Lib.hid (below_chain B1.out b2)
    have K4 := Lib.hid (K1.out.low b2)
    have O4 : Hid (Own w4 (w.heap.size + 1) v4 (numL (q : Int))) := Own.low o4 G1.out
    have L4 : Hid ((numL (q : Int)).length ≤ 10) := (numL_len (q : Int)).2
    generalize hHD : numL (q : Int) = HD at *
    clear o4 b2 B1 K1 c0 c1 CN
    go_wp2_with fail
    go_loopw [4, 5] (fun vb vi wr => ∃ i : Nat, i ≤ q ∧ vi = .int .i64 i ∧ Hid (Below w.heap.size w wr) ∧ Hid (Blk wr w.heap.size [.slice an q cn, .slice ak q ck] 33) ∧ Hid (Own wr (w.heap.size + 1) vb (HD ++ (a.take i).flatMap numL)) ∧ Hid ((HD ++ (a.take i).flatMap numL).length ≤ 10 + 10 * i)) (fun _ vi _ => q - (RowKit.intOf vi).toNat)
    case atStart => exact ⟨0, by omega, rfl, B4.out, K4.out, by show Own _ _ _ _; simpa using O4.out, by show _ ≤ _; simpa using L4.out⟩
    case round =>
      obtain ⟨i, hi, rfl, hB, hK, hO, hL⟩ := hrel
      have c0 := hK.out.cell 0
      have c1 := hK.out.cell 1
      simp only [List.getElem?_cons_zero, List.getElem?_cons_succ] at c0 c1
      by_cases hin : i < q
      · obtain ⟨b, o, rfl, hb, hcell⟩ := zrw_cell H1.out i (by have := HA.out; omega)
        obtain ⟨x, hx⟩ : ∃ y, a[i]? = some y := ⟨_, List.getElem?_eq_getElem (by have := HA.out; omega)⟩
        have HX := Lib.hid hx
        have d1 : wr.cell? ⟨b, o + i, none⟩ = some (.int .i64 x) := (hB.out.cell (p := ⟨b, o + i, none⟩) hb).trans (hcell i x hx)
        have XW := HT.out.nums x (List.mem_of_getElem? hx)
        have CK := Lib.hid (refnum_any x (by unfold within at XW; omega) (by unfold within at XW; omega) wr)
        have q1 : (0 : Int) ≤ (i : Int) := by omega
        have q2 : (i : Int) < (q : Int) := by omega
        clear hx hcell hb XW
        go_wp2_with fail
        refine CK.out.mono ?_
        rintro e w2 ⟨b1, v2, rfl, o2⟩
        obtain ⟨g2, p2, rfl, z1, z2, z3, z4, z5⟩ := own_some o2 (numL_len x).1
        have O2 := Lib.hid (own_below hO.out b1)
        have B2 := Lib.hid (below_chain hB.out b1)
        have K2 := Lib.hid (hK.out.low b1)
        have HS : Hid ((a.take (i + 1)).flatMap numL = (a.take i).flatMap numL ++ numL x) := by
          show _ = _
          rw [List.take_add_one, HX.out]
          simp
        have Z5 := Lib.hid z5
        have KL := numL_len x
        obtain ⟨kl, hkl⟩ : ∃ kl, kl = numL x := ⟨_, rfl⟩
        rw [← hkl] at HS Z5 KL z3 ⊢
        obtain ⟨acc, hacc⟩ : ∃ acc, acc = HD ++ (a.take i).flatMap numL := ⟨_, rfl⟩
        rw [← hacc] at O2 hL
        have p3 : acc.length + kl.length ≤ 140737488355328 := by have := hL.out; omega
        have hL2 : Hid ((acc ++ kl).length ≤ 10 + 10 * (i + 1)) := by show _ ≤ _; rw [List.length_append]; have := hL.out; omega
        have HACC := Lib.hid hacc
        obtain ⟨kn, hkn⟩ : ∃ kn, kl.length = kn := ⟨_, rfl⟩
        have HKN := Lib.hid hkn
        rw [hkn] at p3 z3 ⊢
        clear o2 z5 hkl hacc hO hL b1 KL hkn
        go_wp2_with (at_builtin; refine wpl_app_len (t := 36) (e := 5) rfl (.tmp 21) (.tmp 27) rfl Tryz.underlying36 info5 (w.heap.size + 1) _ acc kl rfl O2.out (some ⟨g2, 0, none⟩) kn p2 rfl Z5.out (fun h => by cases h) HKN p3 K2.out.lt ?_; intro v' w' hown' hgrow)
        have B5 := Lib.hid (B2.out.grown hgrow B2.out.size (fun k hk => Nat.le_of_succ_le (O2.out.lt k hk).1))
        have K5 : Hid (Blk w' w.heap.size [.slice (some ⟨b, o, none⟩) q cn, .slice ak q ck] 33) := (hgrow.block _ K2.out.lt (own_ne O2.out (Nat.lt_succ_self _))).trans K2.out
        refine ⟨⟨i + 1, by omega, by go_num, B5.out, K5.out, ?_, ?_⟩, by simp [RowKit.intOf]; omega⟩
        · show Own _ _ _ _
          rw [HS.out, ← List.append_assoc, ← HACC.out]
          exact hown'
        · show _ ≤ _
          rw [HS.out, ← List.append_assoc, ← HACC.out]
          exact hL2.out
      · obtain rfl : i = q := by omega
        have HD2 : Hid (HD ++ (a.take i).flatMap numL = HD ++ a.flatMap numL) := by
          show _ = _
          rw [← HA.out, List.take_length]
        have hO2 := hO.out
        rw [HD2.out] at hO2
        have hL2 := hL.out
        rw [HD2.out] at hL2
        have hHD2 : HD ++ a.flatMap numL = HD ++ a.flatMap numL := rfl
        have O6 := Lib.hid hO2
        have L6 : Hid ((HD ++ a.flatMap numL).length ≤ 330) := by show _ ≤ _; omega
        have EQ : Hid (pageL ⟨a, k⟩ = (HD ++ a.flatMap numL) ++ k.flatMap keyL) := by
          show _ = _
          rw [pageL, HA.out, hHD, List.append_assoc]
        obtain ⟨E, hE⟩ : ∃ E, E = HD ++ a.flatMap numL := ⟨_, rfl⟩
        rw [← hE] at O6 L6 EQ
        clear hO2 hL2 hHD2 HD2 hO hL hE
        go_wp2_with fail
        go_loopw [4, 6] (fun vb vi wr => ∃ j : Nat, j ≤ i ∧ vi = .int .i64 j ∧ Hid (Below w.heap.size w wr) ∧ Hid (Blk wr w.heap.size [.slice an i cn, .slice ak i ck] 33) ∧ Hid (Own wr (w.heap.size + 1) vb (E ++ (k.take j).flatMap keyL)) ∧ Hid ((E ++ (k.take j).flatMap keyL).length ≤ 330 + 32 * j)) (fun _ vi _ => i - (RowKit.intOf vi).toNat)
        case atStart => exact ⟨0, by omega, rfl, hB, hK, by show Own _ _ _ _; simpa using O6.out, by show _ ≤ _; simpa using L6.out⟩
        case round =>
          obtain ⟨j, hj, rfl, hC, hJ, hP, hM⟩ := hrel
          have x0 := hJ.out.cell 0
          have x1 := hJ.out.cell 1
          simp only [List.getElem?_cons_zero, List.getElem?_cons_succ] at x0 x1
          by_cases hjn : j < i
          · obtain ⟨b, o, x, rfl, hb, hx, hcell⟩ := srw_cell H2.out j (by have := HK.out; omega)
            have HX := Lib.hid hx
            have d1 : wr.cell? ⟨b, o + j, none⟩ = some (.string x) := (hC.out.cell (p := ⟨b, o + j, none⟩) hb).trans hcell
            have CK := Lib.hid (refkey_any x wr (HZ.out x (List.mem_of_getElem? hx)))
            have X32 := Lib.hid (key_of x (HT.out.keys x (List.mem_of_getElem? hx))).1
            have q1 : (0 : Int) ≤ (j : Int) := by omega
            have q2 : (j : Int) < (i : Int) := by omega
            clear hx hcell hb
            go_wp2_with fail
            refine CK.out.mono ?_
            rintro e w2 ⟨b1, v2, rfl, o2⟩
            obtain ⟨g2, p2, rfl, z1, z2, z3, z4, z5⟩ := own_some o2 (by rw [X32.out]; decide)
            rw [X32.out] at z3
            have O2 := Lib.hid (own_below hP.out b1)
            have B2 := Lib.hid (below_chain hC.out b1)
            have K2 := Lib.hid (hJ.out.low b1)
            have p3 : (E ++ (k.take j).flatMap keyL).length + 32 ≤ 140737488355328 := by have := hM.out; omega
            have HS : Hid ((k.take (j + 1)).flatMap keyL = (k.take j).flatMap keyL ++ keyL x) := by
              show _ = _
              rw [List.take_add_one, HX.out]
              simp
            have Z5 := Lib.hid z5
            obtain ⟨kl, hkl⟩ : ∃ kl, kl = keyL x := ⟨_, rfl⟩
            rw [← hkl] at HS X32 Z5 ⊢
            obtain ⟨acc, hacc⟩ : ∃ acc, acc = E ++ (k.take j).flatMap keyL := ⟨_, rfl⟩
            rw [← hacc] at O2 hM p3
            have hL2 : Hid ((acc ++ kl).length ≤ 330 + 32 * (j + 1)) := by show _ ≤ _; rw [List.length_append, X32.out]; have := hM.out; omega
            have HACC := Lib.hid hacc
            rw [X32.out]
            clear o2 z5 hkl hacc hP hM b1
            go_wp2_with (at_builtin; refine wpl_app_len (t := 36) (e := 5) rfl (.tmp 36) (.tmp 42) rfl Tryz.underlying36 info5 (w.heap.size + 1) _ acc kl rfl O2.out (some ⟨g2, 0, none⟩) 32 p2 rfl Z5.out (fun h => by cases h) X32 p3 K2.out.lt ?_; intro v' w' hown' hgrow)
            have B5 := Lib.hid (B2.out.grown hgrow B2.out.size (fun k hk => Nat.le_of_succ_le (O2.out.lt k hk).1))
            have K5 : Hid (Blk w' w.heap.size [.slice an i cn, .slice (some ⟨b, o, none⟩) i ck] 33) := (hgrow.block _ K2.out.lt (own_ne O2.out (Nat.lt_succ_self _))).trans K2.out
            refine ⟨⟨j + 1, by omega, by go_num, B5.out, K5.out, ?_, ?_⟩, by simp [RowKit.intOf]; omega⟩
            · show Own _ _ _ _
              rw [HS.out, ← List.append_assoc, ← HACC.out]
              exact hown'
            · show _ ≤ _
              rw [HS.out, ← List.append_assoc, ← HACC.out]
              exact hL2.out
          · obtain rfl : j = i := by omega
            have HE : Hid (E ++ (k.take j).flatMap keyL = pageL ⟨a, k⟩) := by
              show _ = _
              rw [EQ.out, List.take_of_length_le (by rw [HK.out]; exact Nat.le_refl _)]
            go_wp2_with fail
            go_ret2
            exact ⟨hC.out, .inl ⟨HT.out, _, rfl, by rw [← HE.out]; exact Own.low hP.out (Nat.le_succ _)⟩⟩
end Go.Proofs.YtpjgkboafmebbaaGreatDoor.Sh
namespace Go.Proofs.YtpjgkboafmebbaaGreatDoor.Sh
open Go.RowKit Go.Lib Lb

section
variable {P : Program} {t e : TypeId}
/-- one element appended to a row of the call's own, as one step of a region that draws -/
theorem step_one {w : World} {ops : Array Oper} {o : Oper} {a : Act} {K : Act → World → Prop} {Q : Exit → Act → World → Prop} {E : Prop} (hgd : o.guard = none) (s x : Operand)
    (ho : o.op = .call { callee := .builtin .append, args := #[s, x], argTypes := #[t, t] })
    (ht : P.underlying t = some (.slice e)) {z : Value} {size bytes : Nat} (hinf : (P.info? e).map (fun i => (i.zero, i.size, i.bytes)) = some (some z, size, bytes)) (hzs : z.cells.size = size) (hsz : 0 < size)
    (base : Nat) (v : Value) (n : Nat) (xs : List Value) (hs : a.eval s = v) (hown : w.ownsRow base e size v n xs)
    (g : Nat) (cs : List Value) (hx : a.eval x = .slice (some ⟨g, 0, none⟩) 1 1) (hb : Blk w g cs e) (hl : cs.length = size) (h1 : ∀ u ∈ cs, u.oneCell' = true)
    (hn : n + 1 ≤ 1000000) (hby : bytes ≤ 1000) (hbase : base ≤ w.heap.size)
    (h : ∀ v' w', w'.ownsRow base e size v' (n + 1) (xs ++ cs) → w.grownBy w' v.ownBlock → K (a.put o.dst v') w') :
    if Region.wanted o (yielded ops a.tmps) = true then Oper.wp P o a w K Q else E := by
  have hw : Region.wanted o (yielded ops a.tmps) = true := by simp [Region.wanted, hgd]
  rw [if_pos hw]
  obtain ⟨i0, hi, hz0, hz1, hz2⟩ := info_parts hinf
  have hmul : (n + 1) * bytes ≤ 1000000 * 1000 := Nat.mul_le_mul hn hby
  refine wp_append_own w s x t ho base e i0 z size bytes ht hi hz0 hz1 hz2 hzs hsz v n xs hs hown ⟨g, 0, none⟩ 1 1 cs hx (by omega) (fun j u hj => ?_) h1 (by unfold maxLen; omega) (by omega) hbase (fun v' w' h2 h3 _ => h v' w' h2 h3)
  rw [WideShapes.add_plain, Nat.zero_add, hb.cell]
  exact hj
end
/-- what the reader of a page gives -/
def GetsPage (w : World) (l : List UInt8) (e : Ending) (w' : World) : Prop :=
  Below w.heap.size w w' ∧ ((getPage l = none ∧ e = .returned (.tuple #[.agg #[.slice none 0 0, .slice none 0 0], .int .i64 80])) ∨
    ∃ x u v, getPage l = some x ∧ e = .returned (.tuple #[.agg #[u, v], .int .i64 0]) ∧ OwnG 3 1 cellsI w.heap.size w' x.nums u ∧ OwnS w' w.heap.size v x.keys)
theorem page_head (l l1 : List UInt8) (n : Nat) (d1 : Bool) (h1 : stepR (pNum 32) 0 l false = ((n : Int), l1, d1)) :
    (d1 = true → pPage l = none) ∧ (d1 = false → pPage l = match pRow (pNum 1024) n l1 with | none => none | some (a, r) => match pRow pKey n r with | none => none | some (k, s) => some (⟨a, k⟩, s)) := by
  unfold pPage pMap pSeq
  constructor
  · intro hd
    rw [step_bad (p := pNum 32) (z := 0) (l := l) (by rw [h1]; exact hd)]
    rfl
  · intro hd
    have k1 := (step_ok (p := pNum 32) (z := 0) (l := l) (b := false) (by rw [h1]; exact hd)).2
    rw [h1] at k1
    rw [k1]
    simp only [Int.toNat_natCast]
    cases pRow (pNum 1024) n l1 with
    | none => rfl
    | some u =>
      obtain ⟨a, r⟩ := u
      simp only
      cases pRow pKey n r with
      | none => rfl
      | some u => rfl
def PHead (l l1 : List UInt8) (n : Nat) (d1 : Bool) : Prop := (d1 = true → pPage l = none) ∧ (d1 = false → pPage l = match pRow (pNum 1024) n l1 with | none => none | some (a, r) => match pRow pKey n r with | none => none | some (k, s) => some (⟨a, k⟩, s))
theorem page_step1 {l l1 lr l3 : List UInt8} {n i : Nat} {d1 d3 : Bool} {A : List Int} {k : Int} (HH : PHead l l1 n d1)
    (HN : d1 = false ∧ pRow (pNum 1024) i l1 = some (A, lr)) (HK : (k, l3, d3) = stepR (pNum 1024) 0 lr false) (hin : i < n) : if d3 = true then pPage l = none else d1 = false ∧ pRow (pNum 1024) (i + 1) l1 = some (A ++ [k], l3) := by
  cases d3 with
  | true =>
    rw [if_pos rfl, HH.2 HN.1, row_none (pNum 1024) l1 (i + 1) n (by rw [row_snoc, HN.2]; simp only; rw [step_bad (p := pNum 1024) (z := 0) (l := lr) (by rw [← HK])]) hin]
  | false =>
    rw [if_neg (by decide)]
    have h := (step_ok (p := pNum 1024) (z := 0) (l := lr) (b := false) (by rw [← HK])).2
    rw [← HK] at h
    exact ⟨HN.1, by rw [row_snoc, HN.2]; simp only; rw [h]⟩
theorem page_step2 {l l1 l2 lr l3 : List UInt8} {n i : Nat} {d1 d3 : Bool} {A : List Int} {P : List ByteArray} {k : ByteArray} (HH : PHead l l1 n d1) (HA : d1 = false ∧ pRow (pNum 1024) n l1 = some (A, l2))
    (HN : pRow pKey i l2 = some (P, lr)) (HK : (k, l3, d3) = stepR pKey ⟨#[]⟩ lr false) (hin : i < n) : if d3 = true then pPage l = none else pRow pKey (i + 1) l2 = some (P ++ [k], l3) := by
  cases d3 with
  | true =>
    rw [if_pos rfl, HH.2 HA.1, HA.2]
    simp only
    rw [row_none pKey l2 (i + 1) n (by rw [row_snoc, HN]; simp only; rw [step_bad (p := pKey) (z := ⟨#[]⟩) (l := lr) (by rw [← HK])]) hin]
  | false =>
    rw [if_neg (by decide)]
    have h := (step_ok (p := pKey) (z := ⟨#[]⟩) (l := lr) (b := false) (by rw [← HK])).2
    rw [← HK] at h
    rw [row_snoc, HN]; simp only; rw [h]
theorem size33 : (Tryz.prog.info? 33).map (·.size) = some 2 := by kernel_rfl
theorem cells_oneI {x : Int} : ∀ u ∈ ([.int .i64 x] : List Value), u.oneCell' = true := by
  intro u hu
  simp only [List.mem_singleton] at hu
  subst hu
  rfl
theorem ownG_snoc {w : World} {B : Nat} {v : Value} {A : List Int} {k : Int} (h : w.ownsRow B 3 1 v (A.length + 1) (A.flatMap cellsI ++ [.int .i64 k])) : OwnG 3 1 cellsI B w (A ++ [k]) v := by
  unfold OwnG
  rw [flat_snoc, List.length_append]
  exact h
theorem row_ne {w : World} {B e size n k : Nat} {v : Value} {xs : List Value} (h : w.ownsRow B e size v n xs) (hk : k < B) : some k ≠ v.ownBlock := fun e => by
  have := (h.lt k e.symm).1
  omega
theorem rowOwn_kept {w w' : World} {B e size n : Nat} {v : Value} {xs : List Value} {k : Option Nat} (h : w.ownsRow B e size v n xs) (hg : w.grownBy w' k) (hb : ∀ b c, v.ownBlock = some b → k = some c → b ≠ c) : w'.ownsRow B e size v n xs :=
  World.ownsRow.kept h hg (by
    cases hv : v.ownBlock with
    | none => exact .inl rfl
    | some j => exact .inr fun e => hb j j hv e.symm rfl)
theorem ownG_new (w : World) (x : Int) (g : Nat) (hg : g = w.heap.size) : Blk (w.alloc (.cells #[.int .i64 x] 3)) g [.int .i64 x] 3 := Blk.new w [.int .i64 x] 3 g hg
set_option maxHeartbeats 4000000 in
set_option maxRecDepth 100000 in
theorem getpage_any (ao : Option Addr) (l : List UInt8) (m c : Nat) (w : World) (hb : Byt w ao l) (hn : ao = none → c = 0) (hl : l.length = m) (hc : m ≤ c) (hm : c ≤ 9223372036854775807) (h47 : m ≤ 140737488355328) (hf : ∀ a, ao = some a → a.block < w.heap.size) :
    Calls Tryz.prog 26 #[.slice ao m c] w (GetsPage w l) := by
  obtain ⟨wa, hwa⟩ : ∃ wa, wa = w.alloc (.cells #[.slice none 0 0, .slice none 0 0] 33) := ⟨_, rfl⟩
  have sa : wa.heap.size = w.heap.size + 1 := by rw [hwa]; simp
  have B1 : Below w.heap.size w wa := by rw [hwa]; exact (Below.refl _ w).alloc (Nat.le_refl _) _
  have KA : Blk wa w.heap.size [.slice none 0 0, .slice none 0 0] 33 := by rw [hwa]; exact Blk.new w [.slice none 0 0, .slice none 0 0] 33 _ rfl
  obtain ⟨wb, hwb⟩ : ∃ wb, wb = wa.alloc (.cells #[.slice ao m c, .bool false] 99) := ⟨_, rfl⟩
  have sb : wb.heap.size = w.heap.size + 2 := by rw [hwb]; simp [sa]
  have RB0 := rd_new wa ao l m c (w.heap.size + 1) sa.symm (hb.below B1) hn hl hc hm h47 (fun a ha => by have := hf a ha; omega)
  rw [← hwb] at RB0
  have B2 : Below w.heap.size w wb := by rw [hwb]; exact B1.alloc (by omega) _
  have KB : Blk wb w.heap.size [.slice none 0 0, .slice none 0 0] 33 := by rw [hwb]; exact KA.alloc _
  obtain ⟨gX, hgX⟩ : ∃ gX, gX = w.heap.size + 2 := ⟨_, rfl⟩
  obtain ⟨wc, hwc⟩ : ∃ wc, wc = wb.alloc (.cells #[.slice none 0 0, .slice none 0 0] 33) := ⟨_, rfl⟩
  have sc : wc.heap.size = gX + 1 := by rw [hwc]; simp [sb, hgX]
  have B3 : Hid (Below w.heap.size w wc) := by show Below _ _ _; rw [hwc]; exact B2.alloc (by omega) _
  have KC : Hid (Blk wc w.heap.size [.slice none 0 0, .slice none 0 0] 33) := by show Blk _ _ _ _; rw [hwc]; exact KB.alloc _
  have XC : Hid (Blk wc gX [.slice none 0 0, .slice none 0 0] 33) := by show Blk _ _ _ _; rw [hwc]; exact Blk.new wb [.slice none 0 0, .slice none 0 0] 33 _ (by omega)
  have RB := Lib.hid (RB0.grown (w' := wc) (by rw [hwc]; exact (Below.refl _ wb).alloc (Nat.le_refl _) _))
  have C1 := Lib.hid (rnum_any (w.heap.size + 1) l false ao m c 32 wc RB.out (by decide))
  have GX := Lib.hid hgX
  have SC := Lib.hid sc
  have eX : Hid (w.heap.size + 1 + 1 = gX) := by show _ = _; omega
  clear KA B1 hb hn hl hc hm h47 hf RB0 B2 KB sc hgX
  go_enter Tryz.func26, Tryz.ntmps26
  go_wp2_with fail
  rw [← hwa, ← hwb, ← hwc, eX.out]
  clear hwa hwb hwc sa sb eX
  refine C1.out.mono ?_
  rintro e w1 ⟨rfl, h1, ao1, m1, c1, R1⟩
  have AN : AnsR wc (w.heap.size + 1) (.int .i64 (stepR (pNum 32) 0 l false).1) (stepR (pNum 32) 0 l false).2.1 (stepR (pNum 32) 0 l false).2.2 (.returned (.int .i64 (stepR (pNum 32) 0 l false).1)) w1 := ⟨rfl, h1, ao1, m1, c1, R1⟩
  have gx0 := GX.out
  have sc0 := SC.out
  have B5 := Lib.hid (AN.below B3.out (by omega) (by omega))
  have K5 := Lib.hid (AN.kept KC.out (by omega))
  have X5 := Lib.hid (AN.kept XC.out (by omega))
  have R5 := Lib.hid R1
  obtain ⟨⟨n', l1, d1⟩, hs1⟩ : ∃ z : Int × List UInt8 × Bool, z = stepR (pNum 32) 0 l false := ⟨_, rfl⟩
  obtain ⟨n, hn1, hn2⟩ := num_step 32 l false
  rw [← hs1] at hn1 R5 ⊢
  simp only at hn1 R5 ⊢
  subst hn1
  have HH : Hid (PHead l l1 n d1) := page_head l l1 n d1 hs1.symm
  clear AN h1 R1 C1 KC XC B3 RB hs1 SC sc0 gx0
  go_wp2_with fail
  go_loopw [7] (fun vi wr => ∃ (i : Nat) (lr : List UInt8) (bad : Bool) (A : List Int) (v : Value) (ar : Option Addr) (mr cr : Nat), i ≤ n ∧ vi = .int .i64 i ∧ Hid (Below w.heap.size w wr) ∧ Hid (Blk wr w.heap.size [.slice none 0 0, .slice none 0 0] 33) ∧ Hid (Blk wr gX [v, .slice none 0 0] 33) ∧ Hid (Rd wr (w.heap.size + 1) lr bad ar mr cr) ∧ Hid (OwnG 3 1 cellsI (gX + 1) wr A v) ∧ Hid (A.length = i) ∧ Hid (if bad = true then pPage l = none else d1 = false ∧ pRow (pNum 1024) i l1 = some (A, lr))) (fun vi _ => n - (RowKit.intOf vi).toNat)
  case atStart =>
    refine ⟨0, l1, d1, [], .slice none 0 0, ao1, m1, c1, by omega, rfl, B5.out, K5.out, X5.out, R5.out, World.ownsRow_nil _ _ _ _, rfl, ?_⟩
    show ite _ _ _
    cases hd : d1 with
    | true => rw [if_pos rfl]; exact HH.out.1 hd
    | false => rw [if_neg (by decide)]; exact ⟨rfl, rfl⟩
  case round =>
    obtain ⟨i, lr, bad, A, v, ar, mr, cr, hi, rfl, hB, hK, hX, hR, hO, hP, hI⟩ := hrel
    have c0 := hR.out.blk.cell 0
    have c1 := hR.out.blk.cell 1
    have x0 := hX.out.cell 0
    have x1 := hX.out.cell 1
    have y0 := hK.out.cell 0
    have y1 := hK.out.cell 1
    have f0 := hK.out.frozen 0
    have f1 := hK.out.frozen 1
    simp only [List.getElem?_cons_zero, List.getElem?_cons_succ] at c0 c1 x0 x1 y0 y1
    cases bad with
    | true =>
      have HN := Lib.hid hI.out
      rw [if_pos rfl] at HN
      have HE : Hid (getPage l = none) := by show _ = _; rw [getPage, whole, HN.out]
      clear hI hO hP hR
      by_cases hn0 : 0 < n
      · have q0 : (0 : Int) < (n : Int) := by omega
        by_cases hin : i < n
        · have q2 : (i : Int) < (n : Int) := by omega
          go_wp2_with fail
          refine wp_loop_rounds 1 ?_
          rw [rounds_succ]
          go_wp2_with fail
          exact bodyPost_ret (results_row_tmp rfl _ _ w.heap.size 33 _ _ _ rfl rfl (set_two hK.out _ _) Tryz.underlying33 rfl size33) rfl ⟨below_set (below_set hB.out hB.out.size (Nat.le_refl _) _) (by simp; exact hB.out.size) (Nat.le_refl _) _, .inl ⟨HE.out, rfl⟩⟩
        · obtain rfl : i = n := by omega
          go_wp2_with fail
          refine wp_loop_rounds 1 ?_
          rw [rounds_succ]
          go_wp2_with fail
          exact bodyPost_ret (results_row_tmp rfl _ _ w.heap.size 33 _ _ _ rfl rfl (set_two hK.out _ _) Tryz.underlying33 rfl size33) rfl ⟨below_set (below_set hB.out hB.out.size (Nat.le_refl _) _) (by simp; exact hB.out.size) (Nat.le_refl _) _, .inl ⟨HE.out, rfl⟩⟩
      · obtain rfl : n = 0 := by omega
        obtain rfl : i = 0 := by omega
        go_wp2_with fail
        refine wp_loop_rounds 1 ?_
        rw [rounds_succ]
        go_wp2_with fail
        exact bodyPost_ret (results_row_tmp rfl _ _ w.heap.size 33 _ _ _ rfl rfl (set_two hK.out _ _) Tryz.underlying33 rfl size33) rfl ⟨below_set (below_set hB.out hB.out.size (Nat.le_refl _) _) (by simp; exact hB.out.size) (Nat.le_refl _) _, .inl ⟨HE.out, rfl⟩⟩
    | false =>
      have HN := Lib.hid hI.out
      rw [if_neg (by decide)] at HN
      by_cases hin : i < n
      · have q2 : (i : Int) < (n : Int) := by omega
        have CK := Lib.hid (rnum_any (w.heap.size + 1) lr false ar mr cr 1024 wr.drew (hR.out.grown (Below.refl _ wr).drew) (by decide))
        rw [show ((1024 : Nat) : Int) = 1024 from rfl] at CK
        obtain ⟨⟨k, l3, d3⟩, hs3⟩ : ∃ z : Int × List UInt8 × Bool, z = stepR (pNum 1024) 0 lr false := ⟨_, rfl⟩
        rw [← hs3] at CK
        simp only at CK
        have HK := Lib.hid hs3
        have p1 : A.length + 1 ≤ 1000000 := by rw [hP.out]; omega
        have GL := hX.out.lt
        have GX0 : w.heap.size + 1 < gX := by have := GX.out; omega
        clear hs3 hI
        go_wp2_with fail
        have fx := hX.out.frozen 0
        have z1 : wr.drew.cell? ⟨gX, 0, none⟩ = some v := x0
        go_region_law (first
          | (go_simp
             go_at_call 46; (with_reducible refine CK.out.mono ?_); rintro e w4 ⟨rfl, h1, ao3, m3, c3, R7⟩
             have X7 := Lib.hid (blk_grown (w := wr.drew) hX.out h1 (by omega))
             have X9 := Lib.hid (X7.out.alloc (.cells #[.int .i64 k] 3))
             have N9 := Lib.hid (ownG_new w4 k w4.heap.size rfl)
             have O7 := Lib.hid (World.ownsRow.alloc (row_kept (w := wr.drew) hO.out h1 (by omega)) (.cells #[.int .i64 k] 3))
             have p2 : gX + 1 ≤ (w4.alloc (.cells #[.int .i64 k] 3)).heap.size := by have : wr.heap.size ≤ w4.heap.size := h1.size; simp; omega
             have z2 := X7.out.cell 0
             have z3 := X9.out.cell 0
             simp only [List.getElem?_cons_zero] at z2 z3)
          | (refine step_one (t := 28) (e := 3) rfl (.tmp 28) (.tmp 31) rfl Tryz.underlying28 infoI rfl (by decide) (gX + 1) v A.length (A.flatMap cellsI) (by simp [Act.eval]) O7.out w4.heap.size [.int .i64 k] (by simp [Act.eval]) N9.out rfl cells_oneI p1 (by decide) p2 ?_; intro v5 w5 o5 g5
             have o6 := ownG_snoc o5
             obtain ⟨ao5, c5, rfl⟩ := ownG_slice o6
             have X8 := Lib.hid (blk_row X9.out g5 (row_ne O7.out (Nat.lt_succ_self _)))
             have e1 := X8.out.cell 0
             have e2 := X8.out.frozen 0
             simp only [List.getElem?_cons_zero] at e1))
        all_goals
          have far5 : ∀ b, v.ownBlock = some b → gX < b := fun b hb => (O7.out.lt b hb).1
          have RZ := Lib.hid (((R7.grown ((Below.refl _ w4).alloc (Nat.le_refl _) (.cells #[.int .i64 k] 3))).row g5 (fun b hb => by have := far5 b hb; omega)).row (grownBy_setCell w5 gX 0 (.slice ao5 (A ++ [k]).length c5)) (fun b hb => by injection hb with hb; omega))
          have KZ := Lib.hid ((blk_row ((blk_grown (w := wr.drew) hK.out h1 (by omega)).alloc (.cells #[.int .i64 k] 3)) g5 (row_ne O7.out (by omega))).other (a := ⟨gX, 0, none⟩) (.slice ao5 (A ++ [k]).length c5) (by show w.heap.size ≠ gX; omega))
          have XZ : Hid (Blk (w5.setCell ⟨gX, 0, none⟩ (.slice ao5 (A ++ [k]).length c5)) gX [.slice ao5 (A ++ [k]).length c5, .slice none 0 0] 33) := by show Blk _ _ _ _; have := X8.out.set 0 (.slice ao5 (A ++ [k]).length c5); simpa using this
          have OZ : Hid (OwnG 3 1 cellsI (gX + 1) (w5.setCell ⟨gX, 0, none⟩ (.slice ao5 (A ++ [k]).length c5)) (A ++ [k]) (.slice ao5 (A ++ [k]).length c5)) := ownG_set o6 (Nat.lt_succ_self _) _
          have BZ : Hid (Below w.heap.size w (w5.setCell ⟨gX, 0, none⟩ (.slice ao5 (A ++ [k]).length c5))) := by
            have q1 : Below w.heap.size w w4 := (hB.out.drew).grown h1 hB.out.size (fun b hb => by injection hb with hb; omega)
            have q2 := (q1.alloc q1.size (.cells #[.int .i64 k] 3)).grown g5 (q1.alloc q1.size (.cells #[.int .i64 k] 3)).size (fun b hb => by have := far5 b hb; omega)
            exact q2.setCell (p := ⟨gX, 0, none⟩) (by show w.heap.size ≤ gX; omega) _
          have IZ := Lib.hid (page_step1 HH.out HN.out HK.out hin)
          have LZ : Hid ((A ++ [k]).length = i + 1) := by show _ = _; rw [← hP.out]; simp
          have hL : (A ++ [k]).length = A.length + 1 := by simp
          rw [hL] at BZ KZ XZ RZ OZ
          clear o5 o6 g5 R7 h1 far5 O7 X8 X9 X7 e1 e2 z1 z2 z3 p1 p2 N9 hL
          go_wp2_with fail
          go_roundw
          case rel => exact ⟨i + 1, l3, d3, A ++ [k], _, ao3, m3, c3, by omega, by go_num, BZ, KZ, XZ, RZ, OZ, LZ, IZ⟩
          case measure => simp [RowKit.intOf]; omega
      · obtain rfl : i = n := by omega
        obtain ⟨va, ca, rfl⟩ := ownG_slice hO.out
        obtain ⟨lA, hlA⟩ : ∃ lA, lA = lr := ⟨_, rfl⟩
        rw [← hlA] at HN hR
        have FA := Lib.hid (fun b hb => (hO.out.lt b hb).2 : ∀ b, (Value.slice va A.length ca).ownBlock = some b → b < wr.heap.size)
        obtain ⟨gM, hgM⟩ : ∃ gM, gM = wr.heap.size := ⟨_, rfl⟩
        have GXM : Hid (gX < gM) := by show _ < _; rw [hgM]; exact hX.out.lt
        have SM : Hid (gM ≤ wr.heap.size) := by show _ ≤ _; omega
        rw [← hgM] at FA
        clear hI hgM hlA c0 c1 x0 x1 y0 y1 f0 f1
        go_wp2_with fail
        go_loopw [8] (fun vi wr => ∃ (j : Nat) (lr : List UInt8) (bad : Bool) (P : List ByteArray) (v : Value) (ar : Option Addr) (mr cr : Nat), j ≤ i ∧ vi = .int .i64 j ∧ Hid (Below w.heap.size w wr) ∧ Hid (Blk wr w.heap.size [.slice none 0 0, .slice none 0 0] 33) ∧ Hid (Blk wr gX [.slice va A.length ca, v] 33) ∧ Hid (Rd wr (w.heap.size + 1) lr bad ar mr cr) ∧ Hid (OwnG 3 1 cellsI (gX + 1) wr A (.slice va A.length ca)) ∧ Hid (OwnS wr gM v P) ∧ Hid (P.length = j) ∧ Hid (gM ≤ wr.heap.size) ∧ Hid (if bad = true then pPage l = none else pRow pKey j lA = some (P, lr))) (fun vi _ => i - (RowKit.intOf vi).toNat)
        case atStart => exact ⟨0, lA, false, [], .slice none 0 0, ar, mr, cr, by omega, rfl, hB.out, hK.out, hX.out, hR.out, hO.out, World.ownsRow_nil _ _ _ _, rfl, SM.out, rfl⟩
        case round =>
          clear hB hK hX hR hO SM
          obtain ⟨j, lr, bad, P, v, ar, mr, cr, hj, rfl, hB, hK, hX, hR, hO, hS, hP2, hM, hI⟩ := hrel
          have c0 := hR.out.blk.cell 0
          have c1 := hR.out.blk.cell 1
          have x0 := hX.out.cell 0
          have x1 := hX.out.cell 1
          have y0 := hK.out.cell 0
          have y1 := hK.out.cell 1
          have f0 := hK.out.frozen 0
          have f1 := hK.out.frozen 1
          simp only [List.getElem?_cons_zero, List.getElem?_cons_succ] at c0 c1 x0 x1 y0 y1
          cases bad with
          | true =>
            have HN := Lib.hid hI.out
            rw [if_pos rfl] at HN
            have HE : Hid (getPage l = none) := by show _ = _; rw [getPage, whole, HN.out]
            clear hI hO hS hP hP2 hR
            by_cases hji : j < i
            · have q2 : (j : Int) < (i : Int) := by omega
              go_wp2_with fail
              exact bodyPost_ret (results_row_tmp rfl _ _ w.heap.size 33 _ _ _ rfl rfl (set_two hK.out _ _) Tryz.underlying33 rfl size33) rfl ⟨below_set (below_set hB.out hB.out.size (Nat.le_refl _) _) (by simp; exact hB.out.size) (Nat.le_refl _) _, .inl ⟨HE.out, rfl⟩⟩
            · obtain rfl : j = i := by omega
              go_wp2_with fail
              exact bodyPost_ret (results_row_tmp rfl _ _ w.heap.size 33 _ _ _ rfl rfl (set_two hK.out _ _) Tryz.underlying33 rfl size33) rfl ⟨below_set (below_set hB.out hB.out.size (Nat.le_refl _) _) (by simp; exact hB.out.size) (Nat.le_refl _) _, .inl ⟨HE.out, rfl⟩⟩
          | false =>
            have HN2 := Lib.hid hI.out
            rw [if_neg (by decide)] at HN2
            by_cases hji : j < i
            · have q2 : (j : Int) < (i : Int) := by omega
              have CK := Lib.hid (rkey_any (w.heap.size + 1) lr false ar mr cr wr.drew (hR.out.grown (Below.refl _ wr).drew))
              obtain ⟨⟨k, l3, d3⟩, hs3⟩ : ∃ z : ByteArray × List UInt8 × Bool, z = stepR pKey ⟨#[]⟩ lr false := ⟨_, rfl⟩
              rw [← hs3] at CK
              simp only at CK
              have HK := Lib.hid hs3
              have p1 : (P.length + [k].length) * 16 ≤ 140737488355328 := by rw [hP2.out]; simp; omega
              have GL := hX.out.lt
              have GX0 : w.heap.size + 1 < gX := by have := GX.out; omega
              have GM0 := GXM.out
              have GM1 := hM.out
              clear hs3 hI
              go_wp2_with fail
              have fx := hX.out.frozen 1
              have z1 : wr.drew.cell? ⟨gX, 1, none⟩ = some v := x1
              go_region_law (first
                | (go_simp
                   go_at_call 48; (with_reducible refine CK.out.mono ?_); rintro e w4 ⟨rfl, h1, ao3, m3, c3, R7⟩
                   have X7 := Lib.hid (blk_grown (w := wr.drew) hX.out h1 (by omega))
                   have X9 := Lib.hid (X7.out.alloc (.cells #[.string k] 47))
                   have O7 := Lib.hid (World.ownsRow.alloc (owns_kept (w := wr.drew) hS.out h1 (by omega)) (.cells #[.string k] 47))
                   have p2 : gM ≤ (w4.alloc (.cells #[.string k] 47)).heap.size := by have : wr.heap.size ≤ w4.heap.size := h1.size; simp; omega
                   have z2 := X7.out.cell 1
                   have z3 := X9.out.cell 1
                   simp only [List.getElem?_cons_zero, List.getElem?_cons_succ] at z2 z3)
                | (refine step_apps (t := 31) (e := 47) rfl (.tmp 47) (.tmp 50) rfl Tryz.underlying31 infoS gM v P [k] (by simp [Act.eval]) O7.out ⟨w4.heap.size, 0, none⟩ 1 (by simp [Act.eval]) (srw_one w4 k) p1 p2 ?_; intro v5 w5 o5 g5
                   obtain ⟨ao5, c5, rfl, _, _, _, _⟩ := own_srw o5
                   have X8 := Lib.hid (blk_row X9.out g5 (owns_ne O7.out GM0))
                   have e1 := X8.out.cell 1
                   have e2 := X8.out.frozen 1
                   simp only [List.getElem?_cons_zero, List.getElem?_cons_succ] at e1))
              all_goals
                have hL : (P ++ [k]).length = P.length + 1 := by simp
                have o6 : OwnS w5 gM (.slice ao5 (P.length + 1) c5) (P ++ [k]) := by rw [← hL]; exact o5
                have far5 : ∀ b, v.ownBlock = some b → gM ≤ b := fun b hb => (O7.out.lt b hb).1
                have RZ := Lib.hid (((R7.grown ((Below.refl _ w4).alloc (Nat.le_refl _) (.cells #[.string k] 47))).row g5 (fun b hb => by have := far5 b hb; omega)).row (grownBy_setCell w5 gX 1 (.slice ao5 (P.length + 1) c5)) (fun b hb => by injection hb with hb; omega))
                have KZ := Lib.hid ((blk_row ((blk_grown (w := wr.drew) hK.out h1 (by omega)).alloc (.cells #[.string k] 47)) g5 (owns_ne O7.out (by omega))).other (a := ⟨gX, 1, none⟩) (.slice ao5 (P.length + 1) c5) (by show w.heap.size ≠ gX; omega))
                have XZ : Hid (Blk (w5.setCell ⟨gX, 1, none⟩ (.slice ao5 (P.length + 1) c5)) gX [.slice va A.length ca, .slice ao5 (P.length + 1) c5] 33) := by show Blk _ _ _ _; have := X8.out.set 1 (.slice ao5 (P.length + 1) c5); simpa using this
                have OZ : Hid (OwnS (w5.setCell ⟨gX, 1, none⟩ (.slice ao5 (P.length + 1) c5)) gM (.slice ao5 (P.length + 1) c5) (P ++ [k])) := ownsRow_setCell_below o6 (a := ⟨gX, 1, none⟩) GM0 _
                have AZ : Hid (OwnG 3 1 cellsI (gX + 1) (w5.setCell ⟨gX, 1, none⟩ (.slice ao5 (P.length + 1) c5)) A (.slice va A.length ca)) := by
                  have q1 := World.ownsRow.alloc (row_kept (w := wr.drew) hO.out h1 (by omega)) (.cells #[.string k] 47)
                  exact ownG_set (rowOwn_kept q1 g5 (fun b c hb hc => by have := FA.out b hb; have := far5 c hc; omega)) (Nat.lt_succ_self _) _
                have BZ : Hid (Below w.heap.size w (w5.setCell ⟨gX, 1, none⟩ (.slice ao5 (P.length + 1) c5))) := by
                  have q1 : Below w.heap.size w w4 := (hB.out.drew).grown h1 hB.out.size (fun b hb => by injection hb with hb; omega)
                  have q2 := (q1.alloc q1.size (.cells #[.string k] 47)).grown g5 (q1.alloc q1.size (.cells #[.string k] 47)).size (fun b hb => by have := far5 b hb; omega)
                  exact q2.setCell (p := ⟨gX, 1, none⟩) (by show w.heap.size ≤ gX; omega) _
                have MZ : Hid (gM ≤ (w5.setCell ⟨gX, 1, none⟩ (.slice ao5 (P.length + 1) c5)).heap.size) := by
                  show _ ≤ _
                  have := g5.size
                  simp
                  omega
                have IZ := Lib.hid (page_step2 HH.out HN.out HN2.out HK.out hji)
                have LZ : Hid ((P ++ [k]).length = j + 1) := by show _ = _; rw [hL, hP2.out]
                clear o5 o6 g5 R7 h1 far5 O7 X8 X9 X7 e1 e2 z1 z2 z3 hL p1 p2
                go_wp2_with fail
                go_roundw
                case rel => exact ⟨j + 1, l3, d3, P ++ [k], _, ao3, m3, c3, by omega, by go_num, BZ, KZ, XZ, RZ, AZ, OZ, LZ, MZ, IZ⟩
                case measure => simp [RowKit.intOf]; omega
            · obtain rfl : j = i := by omega
              have HR : Hid (pPage l = some (⟨A, P⟩, lr)) := by show _ = _; rw [HH.out.2 HN.out.1, HN.out.2]; simp only; rw [HN2.out]
              obtain ⟨ap, cp, rfl, hp1, hp2, hp3, _⟩ := own_srw hS.out
              obtain ⟨aq, cq, hqe, hq1, hq2, _, hq3⟩ := ownG_zrw hO.out
              injection hqe with hqa hqb hqc
              subst hqa
              subst hqc
              have hsz : ∀ s ∈ P, s.size ≤ 9223372036854775807 := fun s hs => by
                have hk := ((law_row law_key j lA P lr).1 HN2.out).1.2 s hs
                have := key_size s hk
                omega
              by_cases hm : 0 < mr
              · have t0 : decide (0 < mr) = true := by simpa using hm
                have t1 : decide ((0 : Int) < (mr : Int)) = true := by simp; omega
                have hne : lr ≠ [] := fun h => by have := hR.out.len; rw [h] at this; simp at this; omega
                have HE : Hid (getPage l = none) := by
                  show _ = _
                  rw [getPage, whole, HR.out]
                  simp only
                  rw [if_neg (fun h => hne h.1)]
                clear hI hm hq1 hq2 hq3 hqb
                go_wp2_with fail
                exact bodyPost_ret (results_row_tmp rfl _ _ w.heap.size 33 _ _ _ rfl rfl (set_two hK.out _ _) Tryz.underlying33 rfl size33) rfl ⟨below_set (below_set hB.out hB.out.size (Nat.le_refl _) _) (by simp; exact hB.out.size) (Nat.le_refl _) _, .inl ⟨HE.out, rfl⟩⟩
              · have hm0 : mr = 0 := by omega
                subst hm0
                have hnil : lr = [] := List.eq_nil_of_length_eq_zero hR.out.len
                have RO := Lib.hid (pageok_any va ap A P A.length P.length ca cp wr hq3 hp3 rfl rfl hq1 hq2 hp1 hp2 hsz)
                clear hI hm hsz hp3 hq1 hq2 hq3 hqb
                go_wp2_with fail
                refine RO.out.mono ?_
                rintro e w4 ⟨⟨b, rfl, hbb⟩, hb4⟩
                have K7 := Lib.hid (hK.out.low hb4)
                have X7 := Lib.hid (hX.out.low hb4)
                have B7 := Lib.hid (below_chain hB.out hb4)
                have O7 := Lib.hid (owns_below hS.out hb4)
                have A7 := Lib.hid (ownG_below hO.out hb4)
                have HBB := Lib.hid hbb
                have gx := X7.out.lt
                have GX0 : w.heap.size + 1 < gX := by have := GX.out; omega
                have GM0 := GXM.out
                clear c0 c1 x0 x1 y0 y1 f0 f1 hbb hb4
                have y0 := K7.out.cell 0
                have y1 := K7.out.cell 1
                have f0 := K7.out.frozen 0
                have f1 := K7.out.frozen 1
                have x0 := X7.out.cell 0
                have x1 := X7.out.cell 1
                simp only [List.getElem?_cons_zero, List.getElem?_cons_succ] at x0 x1 y0 y1
                cases b with
                | false =>
                  have HE : Hid (getPage l = none) := by
                    show _ = _
                    rw [getPage, whole, HR.out]
                    simp only
                    rw [if_neg (fun h => by have := HBB.out.2 h.2; cases this)]
                  go_wp2_with fail
                  exact bodyPost_ret (results_row_tmp rfl _ _ w.heap.size 33 _ _ _ rfl rfl (set_two K7.out _ _) Tryz.underlying33 rfl size33) rfl ⟨below_set (below_set B7.out B7.out.size (Nat.le_refl _) _) (by simp; exact B7.out.size) (Nat.le_refl _) _, .inl ⟨HE.out, rfl⟩⟩
                | true =>
                  have HE : Hid (getPage l = some ⟨A, P⟩) := by
                    show _ = _
                    rw [getPage, whole, HR.out]
                    simp only
                    rw [if_pos ⟨hnil, HBB.out.1 rfl⟩]
                  have AZ := OwnG.low (ownG_set (ownG_set A7.out (show w.heap.size < gX + 1 by omega) (i := 0) (.slice va A.length ca)) (show w.heap.size < gX + 1 by omega) (i := 1) (.slice ap P.length cp)) (show w.heap.size ≤ gX + 1 by omega)
                  have SZ := OwnS.low (ownsRow_setCell_below (ownsRow_setCell_below O7.out (a := ⟨w.heap.size, 0, none⟩) (show w.heap.size < gM by omega) (.slice va A.length ca)) (a := ⟨w.heap.size, 1, none⟩) (show w.heap.size < gM by omega) (.slice ap P.length cp)) (show w.heap.size ≤ gM by omega)
                  go_wp2_with fail
                  exact bodyPost_ret (results_row_tmp rfl _ _ w.heap.size 33 _ _ _ rfl rfl (set_two K7.out _ _) Tryz.underlying33 rfl size33) rfl ⟨below_set (below_set B7.out B7.out.size (Nat.le_refl _) _) (by simp; exact B7.out.size) (Nat.le_refl _) _, .inr ⟨⟨A, P⟩, _, _, HE.out, rfl, AZ, SZ⟩⟩
end Go.Proofs.YtpjgkboafmebbaaGreatDoor.Sh
namespace Go.Proofs.YtpjgkboafmebbaaGreatDoor.Nm
open Go.RowKit Go.Lib

/-- a rune's later bytes, and what is asked of it -/
def tailR (l : List UInt8) (n least : Nat) : Nat → Nat → Int → Int × Nat × Bool
  | 0, _, x => if x < least then (65533, 1, false) else if 1114111 < x then (65533, 1, false) else if 55296 ≤ x then (if x < 57344 then (65533, 1, false) else (x, n, true)) else (x, n, true)
  | f + 1, i, x => if (l.getD i 0).toNat < 128 then (65533, 1, false) else if 192 ≤ (l.getD i 0).toNat then (65533, 1, false) else tailR l n least f (i + 1) (x * 64 + (l.getD i 0).toNat - 128)
/-- the reading -/
def runeR (l : List UInt8) : Int × Nat × Bool :=
  if (l.getD 0 0).toNat < 128 then ((l.getD 0 0).toNat, 1, true)
  else if (l.getD 0 0).toNat < 194 then (65533, 1, false)
  else if (l.getD 0 0).toNat < 224 then (if l.length < 2 then (65533, 1, false) else tailR l 2 128 1 1 ((l.getD 0 0).toNat - 192))
  else if (l.getD 0 0).toNat < 240 then (if l.length < 3 then (65533, 1, false) else tailR l 3 2048 2 1 ((l.getD 0 0).toNat - 224))
  else if (l.getD 0 0).toNat < 245 then (if l.length < 4 then (65533, 1, false) else tailR l 4 65536 3 1 ((l.getD 0 0).toNat - 240))
  else (65533, 1, false)

theorem strayL_beq (l : List UInt8) : strayL l = ((decodeL l).1 == 65533 && (decodeL l).2 == 1) := by
  unfold strayL
  obtain ⟨a, n⟩ := decodeL l
  rw [Bool.eq_iff_iff]
  simp
theorem pair3 {a n m : Nat} {x : Int} {b : Bool} (h1 : x = (a : Nat)) (h2 : m = n) (h3 : b = !(a == 65533 && n == 1)) :
    (x, m, b) = (((a, n).1 : Int), (a, n).2, !((a, n).1 == 65533 && (a, n).2 == 1)) := by
  subst h1 h2 h3
  rfl

theorem dN1 (n c0 c1 c2 c3 : Nat) (h : c0 < 128) : decodeN n c0 c1 c2 c3 = (c0, 1) := by
  unfold decodeN
  rw [if_pos h]
theorem dNbad (n c0 c1 c2 c3 : Nat) (h : (128 ≤ c0 ∧ c0 < 194) ∨ (245 ≤ c0 ∧ c0 < 256)) (b1 : c1 < 256) : decodeN n c0 c1 c2 c3 = (65533, 1) := by
  unfold decodeN
  rw [if_neg (by omega)]
  repeat' split
  all_goals first
    | rfl
    | (exfalso; omega)
set_option maxRecDepth 100000 in
theorem dN2 (n c0 c1 c2 c3 : Nat) (h : 194 ≤ c0 ∧ c0 < 224) : decodeN n c0 c1 c2 c3 = if 1 < n ∧ c1 / 64 = 2 then ((c0 - 192) * 64 + (c1 - 128), 2) else (65533, 1) := by
  unfold decodeN
  rw [if_neg (by omega)]
  by_cases k : 1 < n ∧ c1 / 64 = 2
  · rw [if_pos ⟨by omega, k⟩, if_pos k, if_pos (by omega)]
    exact Prod.ext (by simp only; omega) rfl
  · rw [if_neg (fun q => k q.2), if_neg k, if_neg (by omega), if_neg (by omega)]
set_option maxRecDepth 100000 in
theorem dN3 (n c0 c1 c2 c3 : Nat) (h : 224 ≤ c0 ∧ c0 < 240) : decodeN n c0 c1 c2 c3 = if (1 < n ∧ c1 / 64 = 2) ∧ (2 < n ∧ c2 / 64 = 2) ∧ 2048 ≤ (c0 - 224) * 4096 + (c1 - 128) * 64 + (c2 - 128) ∧ ((c0 - 224) * 4096 + (c1 - 128) * 64 + (c2 - 128) < 55296 ∨ 57344 ≤ (c0 - 224) * 4096 + (c1 - 128) * 64 + (c2 - 128)) then ((c0 - 224) * 4096 + (c1 - 128) * 64 + (c2 - 128), 3) else (65533, 1) := by
  unfold decodeN
  rw [if_neg (by omega), if_neg (by omega)]
  by_cases k : (1 < n ∧ c1 / 64 = 2) ∧ (2 < n ∧ c2 / 64 = 2)
  · have e : c0 % 16 * 4096 + c1 % 64 * 64 + c2 % 64 = (c0 - 224) * 4096 + (c1 - 128) * 64 + (c2 - 128) := by omega
    rw [if_pos ⟨by omega, k⟩, e]
    generalize hz : (c0 - 224) * 4096 + (c1 - 128) * 64 + (c2 - 128) = z
    have hz : z ≤ 65535 := by omega
    by_cases q : z ≥ 2048 ∧ (z < 55296 ∨ 57344 ≤ z ∧ z ≤ 1114111)
    · rw [if_pos q, if_pos ⟨k.1, k.2, by omega⟩]
    · rw [if_neg q, if_neg (by omega)]
  · rw [if_neg (fun q => k q.2), if_neg (by omega), if_neg (fun q => k ⟨q.1, q.2.1⟩)]
set_option maxRecDepth 100000 in
theorem dN4 (n c0 c1 c2 c3 : Nat) (h : 240 ≤ c0 ∧ c0 < 245) : decodeN n c0 c1 c2 c3 = if (1 < n ∧ c1 / 64 = 2) ∧ (2 < n ∧ c2 / 64 = 2) ∧ (3 < n ∧ c3 / 64 = 2) ∧ 65536 ≤ (c0 - 240) * 262144 + (c1 - 128) * 4096 + (c2 - 128) * 64 + (c3 - 128) ∧ (c0 - 240) * 262144 + (c1 - 128) * 4096 + (c2 - 128) * 64 + (c3 - 128) ≤ 1114111 then ((c0 - 240) * 262144 + (c1 - 128) * 4096 + (c2 - 128) * 64 + (c3 - 128), 4) else (65533, 1) := by
  unfold decodeN
  rw [if_neg (by omega), if_neg (by omega), if_neg (by omega)]
  by_cases k : (1 < n ∧ c1 / 64 = 2) ∧ (2 < n ∧ c2 / 64 = 2) ∧ (3 < n ∧ c3 / 64 = 2)
  · have e : c0 % 8 * 262144 + c1 % 64 * 4096 + c2 % 64 * 64 + c3 % 64 = (c0 - 240) * 262144 + (c1 - 128) * 4096 + (c2 - 128) * 64 + (c3 - 128) := by omega
    rw [if_pos ⟨by omega, k⟩, e]
    generalize (c0 - 240) * 262144 + (c1 - 128) * 4096 + (c2 - 128) * 64 + (c3 - 128) = z
    by_cases q : z ≥ 65536 ∧ (z < 55296 ∨ 57344 ≤ z ∧ z ≤ 1114111)
    · rw [if_pos q, if_pos ⟨k.1, k.2.1, k.2.2, by omega⟩]
    · rw [if_neg q, if_neg (by omega)]
  · rw [if_neg (fun q => k q.2), if_neg (fun q => k ⟨q.1, q.2.1, q.2.2.1⟩)]

theorem bad3 : ((65533 : Int), 1, false) = ((((65533, 1) : Nat × Nat).1 : Int), ((65533, 1) : Nat × Nat).2, !(((65533, 1) : Nat × Nat).1 == 65533 && ((65533, 1) : Nat × Nat).2 == 1)) := rfl

set_option maxHeartbeats 4000000 in
set_option maxRecDepth 100000 in
theorem runeR_eq (l : List UInt8) : runeR l = (((decodeL l).1 : Int), (decodeL l).2, !strayL l) := by
  have b0 := (l.getD 0 0).toNat_lt
  have b1 := (l.getD 1 0).toNat_lt
  have b2 := (l.getD 2 0).toNat_lt
  have b3 := (l.getD 3 0).toNat_lt
  rw [strayL_beq, decodeL_N]
  unfold runeR
  simp only [tailR]
  generalize (l.getD 0 0).toNat = c0 at *
  generalize (l.getD 1 0).toNat = c1 at *
  generalize (l.getD 2 0).toNat = c2 at *
  generalize (l.getD 3 0).toNat = c3 at *
  generalize l.length = n at *
  by_cases k0 : c0 < 128
  · rw [if_pos k0, dN1 _ _ _ _ _ k0]
    exact pair3 rfl rfl (by simp; omega)
  rw [if_neg k0]
  by_cases k1 : c0 < 194
  · rw [if_pos k1, dNbad _ _ _ _ _ (by omega) b1]
    exact bad3
  rw [if_neg k1]
  by_cases k2 : c0 < 224
  · rw [if_pos k2, dN2 _ _ _ _ _ (by omega)]
    clear k0
    by_cases q : 1 < n ∧ c1 / 64 = 2
    · rw [if_pos q, if_neg (by omega), if_neg (by omega), if_neg (by omega), if_neg (by omega), if_neg (by omega), if_neg (by omega)]
      exact pair3 (by omega) rfl (by simp)
    · rw [if_neg q, ← bad3]
      repeat' split
      all_goals first
        | rfl
        | (exfalso; omega)
  rw [if_neg k2]
  by_cases k3 : c0 < 240
  · rw [if_pos k3]
    have hd := dN3 n c0 c1 c2 c3 (by omega)
    generalize decodeN n c0 c1 c2 c3 = d at hd ⊢
    clear k0 k1
    split at hd
    · rename_i q
      subst hd
      rw [if_neg (by omega), if_neg (by omega), if_neg (by omega), if_neg (by omega), if_neg (by omega), if_neg (by omega), if_neg (by omega)]
      rcases q.2.2.2 with r | r
      · rw [if_neg (by omega)]
        exact pair3 (by omega) rfl (by simp)
      · rw [if_pos (by omega), if_neg (by omega)]
        exact pair3 (by omega) rfl (by simp)
    · rename_i q
      subst hd
      rw [← bad3]
      repeat' split
      all_goals first
        | rfl
        | (exfalso; omega)
  rw [if_neg k3]
  by_cases k4 : c0 < 245
  · rw [if_pos k4]
    have hd := dN4 n c0 c1 c2 c3 (by omega)
    generalize decodeN n c0 c1 c2 c3 = d at hd ⊢
    clear k0 k1 k2
    split at hd
    · rename_i q
      subst hd
      rw [if_neg (by omega), if_neg (by omega), if_neg (by omega), if_neg (by omega), if_neg (by omega), if_neg (by omega), if_neg (by omega), if_neg (by omega), if_neg (by omega), if_pos (by omega), if_neg (by omega)]
      exact pair3 (by omega) rfl (by simp)
    · rename_i q
      subst hd
      rw [← bad3]
      by_cases g1 : n < 4
      · rw [if_pos g1]
      rw [if_neg g1]
      by_cases g2 : c1 < 128
      · rw [if_pos g2]
      rw [if_neg g2]
      by_cases g3 : 192 ≤ c1
      · rw [if_pos g3]
      rw [if_neg g3]
      by_cases g4 : c2 < 128
      · rw [if_pos g4]
      rw [if_neg g4]
      by_cases g5 : 192 ≤ c2
      · rw [if_pos g5]
      rw [if_neg g5]
      by_cases g6 : c3 < 128
      · rw [if_pos g6]
      rw [if_neg g6]
      by_cases g7 : 192 ≤ c3
      · rw [if_pos g7]
      rw [if_neg g7]
      by_cases g8 : ((((c0 : Int) - 240) * 64 + c1 - 128) * 64 + c2 - 128) * 64 + c3 - 128 < (65536 : Nat)
      · rw [if_pos g8]
      rw [if_neg g8, if_pos (by omega)]
  rw [if_neg k4, dNbad _ _ _ _ _ (by omega) b1]
  exact bad3
theorem getD_at (s : ByteArray) (i : Nat) (h : i < s.size) : s.data.toList.getD i 0 = s[i]'h := by
  rw [List.getD_eq_getElem?_getD, List.getElem?_eq_getElem (by rw [Array.length_toList]; exact h)]
  rfl
/-- what a rune's reading is told as -/
def told3 (z : Int × Nat × Bool) : Value := .tuple #[.int .i64 z.1, .int .i64 (z.2.1 : Nat), .bool z.2.2]

set_option maxRecDepth 100000 in
theorem rune_one (s : ByteArray) (h0 : 0 < s.size) (w : World) (hc : (s[0]'h0).toNat < 128) :
    Calls Tryz.prog 135 #[.string s] w fun e w' => e = .returned (told3 (((s[0]'h0).toNat : Int), 1, true)) ∧ w = w' := by
  go_enter Tryz.func135, Tryz.ntmps135
  go_wp2_with fail
  go_ret3
  exact ⟨rfl, rfl⟩
set_option maxRecDepth 100000 in
theorem rune_bad (s : ByteArray) (h0 : 0 < s.size) (w : World) (h1 : 128 ≤ (s[0]'h0).toNat) (hc : (s[0]'h0).toNat < 194 ∨ 245 ≤ (s[0]'h0).toNat) :
    Calls Tryz.prog 135 #[.string s] w fun e w' => e = .returned (told3 (65533, 1, false)) ∧ w = w' := by
  have hb : (s[0]'h0).toNat < 256 := (s[0]'h0).toNat_lt
  rcases hc with hc | hc
  all_goals
    go_enter Tryz.func135, Tryz.ntmps135
    go_wp2_with fail
    all_goals go_ret3
    all_goals exact ⟨rfl, rfl⟩

set_option maxHeartbeats 4000000 in
set_option maxRecDepth 100000 in
theorem rune_m2 (s : ByteArray) (h0 : 0 < s.size) (w : World) (k1 : 194 ≤ (s[0]'h0).toNat) (k2 : (s[0]'h0).toNat < 224)
    (z : Int × Nat × Bool) (hz : z = if s.size < 2 then (65533, 1, false) else tailR s.data.toList 2 128 1 1 ((s[0]'h0).toNat - 192)) :
    Calls Tryz.prog 135 #[.string s] w fun e w' => e = .returned (told3 z) ∧ w = w' := by
  have HG := Lib.hid (fun k (h : k < s.size) => (getD_at s k h : s.data.toList.getD k 0 = s[k]'h))
  by_cases hl : s.size < 2
  · rw [if_pos hl] at hz
    have HZ := Lib.hid hz
    clear hz HG
    go_enter Tryz.func135, Tryz.ntmps135
    go_wp2_with fail
    all_goals go_ret3
    all_goals exact ⟨by rw [HZ.out]; rfl, rfl⟩
  rw [if_neg hl] at hz
  have HZ := Lib.hid hz
  clear hz
  go_enter Tryz.func135, Tryz.ntmps135
  go_wp2_with fail
  go_loop [7, 9] (fun vx vi => ∃ (i f : Nat) (x : Int), vx = .int .i64 x ∧ vi = .int .i64 i ∧ 1 ≤ i ∧ i + f = 2 ∧ 0 ≤ x ∧ ((i = 1 ∧ x < 32) ∨ (i = 2 ∧ x < 2048) ∨ (i = 3 ∧ x < 131072) ∨ (i = 4 ∧ x < 8388608)) ∧ Hid (z = tailR s.data.toList 2 128 f i x)) (fun _ vi => 2 - (RowKit.intOf vi).toNat)
  case atStart => exact ⟨1, _, _, rfl, rfl, by omega, rfl, by omega, by omega, HZ.out⟩
  case round =>
    obtain ⟨i, f, x, rfl, rfl, hi, hif, hx0, hx, hh⟩ := hrel
    by_cases hin : i < 2
    · obtain ⟨f, rfl⟩ : ∃ g, f = g + 1 := ⟨f - 1, by omega⟩
      have his : i < s.size := by omega
      have hz := hh.out
      rw [tailR, HG.out i his] at hz
      have hb : (s[i]'his).toNat < 256 := (s[i]'his).toNat_lt
      by_cases d1 : (s[i]'his).toNat < 128
      · rw [if_pos d1] at hz
        have HZ := Lib.hid hz
        clear hz hh
        go_wp2_with fail
        all_goals go_ret3
        all_goals exact ⟨by rw [HZ.out]; rfl, rfl⟩
      · rw [if_neg d1] at hz
        by_cases d2 : 192 ≤ (s[i]'his).toNat
        · rw [if_pos d2] at hz
          have HZ := Lib.hid hz
          clear hz hh
          go_wp2_with fail
          all_goals go_ret3
          all_goals exact ⟨by rw [HZ.out]; rfl, rfl⟩
        · rw [if_neg d2] at hz
          have HZ := Lib.hid hz
          clear hz hh
          go_wp2_with fail
          exact ⟨⟨_, _, _, _, _, ⟨i + 1, f, _, rfl, rfl, by omega, by omega, by omega, by omega, HZ⟩, rfl, rfl, rfl, rfl, by first | rfl | (congr 1; omega)⟩, by simp [RowKit.intOf]; omega⟩
    · obtain rfl : f = 0 := by omega
      obtain rfl : i = 2 := by omega
      have hz := hh.out
      rw [tailR] at hz
      by_cases d1 : x < (128 : Nat)
      · rw [if_pos d1] at hz
        have HZ := Lib.hid hz
        have d1' : x < 128 := d1
        clear hz hh d1
        go_wp2_with fail
        all_goals go_ret3
        all_goals exact ⟨by rw [HZ.out]; rfl, rfl⟩
      rw [if_neg d1] at hz
      have d1' : 128 ≤ x := Int.not_lt.1 d1
      clear d1
      by_cases d2 : 1114111 < x
      · rw [if_pos d2] at hz
        have HZ := Lib.hid hz
        clear hz hh
        go_wp2_with fail
        all_goals go_ret3
        all_goals exact ⟨by rw [HZ.out]; rfl, rfl⟩
      rw [if_neg d2] at hz
      by_cases d3 : 55296 ≤ x
      · rw [if_pos d3] at hz
        by_cases d4 : x < 57344
        · rw [if_pos d4] at hz
          have HZ := Lib.hid hz
          clear hz hh
          go_wp2_with fail
          all_goals go_ret3
          all_goals exact ⟨by rw [HZ.out]; rfl, rfl⟩
        · rw [if_neg d4] at hz
          have HZ := Lib.hid hz
          clear hz hh
          go_wp2_with fail
          all_goals go_ret3
          all_goals exact ⟨by rw [HZ.out]; rfl, rfl⟩
      · rw [if_neg d3] at hz
        have HZ := Lib.hid hz
        clear hz hh
        go_wp2_with fail
        all_goals go_ret3
        all_goals exact ⟨by rw [HZ.out]; rfl, rfl⟩

set_option maxHeartbeats 4000000 in
set_option maxRecDepth 100000 in
theorem rune_m3 (s : ByteArray) (h0 : 0 < s.size) (w : World) (k1 : 224 ≤ (s[0]'h0).toNat) (k2 : (s[0]'h0).toNat < 240)
    (z : Int × Nat × Bool) (hz : z = if s.size < 3 then (65533, 1, false) else tailR s.data.toList 3 2048 2 1 ((s[0]'h0).toNat - 224)) :
    Calls Tryz.prog 135 #[.string s] w fun e w' => e = .returned (told3 z) ∧ w = w' := by
  have HG := Lib.hid (fun k (h : k < s.size) => (getD_at s k h : s.data.toList.getD k 0 = s[k]'h))
  by_cases hl : s.size < 3
  · rw [if_pos hl] at hz
    have HZ := Lib.hid hz
    clear hz HG
    go_enter Tryz.func135, Tryz.ntmps135
    go_wp2_with fail
    all_goals go_ret3
    all_goals exact ⟨by rw [HZ.out]; rfl, rfl⟩
  rw [if_neg hl] at hz
  have HZ := Lib.hid hz
  clear hz
  go_enter Tryz.func135, Tryz.ntmps135
  go_wp2_with fail
  go_loop [7, 9] (fun vx vi => ∃ (i f : Nat) (x : Int), vx = .int .i64 x ∧ vi = .int .i64 i ∧ 1 ≤ i ∧ i + f = 3 ∧ 0 ≤ x ∧ ((i = 1 ∧ x < 32) ∨ (i = 2 ∧ x < 2048) ∨ (i = 3 ∧ x < 131072) ∨ (i = 4 ∧ x < 8388608)) ∧ Hid (z = tailR s.data.toList 3 2048 f i x)) (fun _ vi => 3 - (RowKit.intOf vi).toNat)
  case atStart => exact ⟨1, _, _, rfl, rfl, by omega, rfl, by omega, by omega, HZ.out⟩
  case round =>
    obtain ⟨i, f, x, rfl, rfl, hi, hif, hx0, hx, hh⟩ := hrel
    by_cases hin : i < 3
    · obtain ⟨f, rfl⟩ : ∃ g, f = g + 1 := ⟨f - 1, by omega⟩
      have his : i < s.size := by omega
      have hz := hh.out
      rw [tailR, HG.out i his] at hz
      have hb : (s[i]'his).toNat < 256 := (s[i]'his).toNat_lt
      by_cases d1 : (s[i]'his).toNat < 128
      · rw [if_pos d1] at hz
        have HZ := Lib.hid hz
        clear hz hh
        go_wp2_with fail
        all_goals go_ret3
        all_goals exact ⟨by rw [HZ.out]; rfl, rfl⟩
      · rw [if_neg d1] at hz
        by_cases d2 : 192 ≤ (s[i]'his).toNat
        · rw [if_pos d2] at hz
          have HZ := Lib.hid hz
          clear hz hh
          go_wp2_with fail
          all_goals go_ret3
          all_goals exact ⟨by rw [HZ.out]; rfl, rfl⟩
        · rw [if_neg d2] at hz
          have HZ := Lib.hid hz
          clear hz hh
          go_wp2_with fail
          exact ⟨⟨_, _, _, _, _, ⟨i + 1, f, _, rfl, rfl, by omega, by omega, by omega, by omega, HZ⟩, rfl, rfl, rfl, rfl, by first | rfl | (congr 1; omega)⟩, by simp [RowKit.intOf]; omega⟩
    · obtain rfl : f = 0 := by omega
      obtain rfl : i = 3 := by omega
      have hz := hh.out
      rw [tailR] at hz
      by_cases d1 : x < (2048 : Nat)
      · rw [if_pos d1] at hz
        have HZ := Lib.hid hz
        have d1' : x < 2048 := d1
        clear hz hh d1
        go_wp2_with fail
        all_goals go_ret3
        all_goals exact ⟨by rw [HZ.out]; rfl, rfl⟩
      rw [if_neg d1] at hz
      have d1' : 2048 ≤ x := Int.not_lt.1 d1
      clear d1
      by_cases d2 : 1114111 < x
      · rw [if_pos d2] at hz
        have HZ := Lib.hid hz
        clear hz hh
        go_wp2_with fail
        all_goals go_ret3
        all_goals exact ⟨by rw [HZ.out]; rfl, rfl⟩
      rw [if_neg d2] at hz
      by_cases d3 : 55296 ≤ x
      · rw [if_pos d3] at hz
        by_cases d4 : x < 57344
        · rw [if_pos d4] at hz
          have HZ := Lib.hid hz
          clear hz hh
          go_wp2_with fail
          all_goals go_ret3
          all_goals exact ⟨by rw [HZ.out]; rfl, rfl⟩
        · rw [if_neg d4] at hz
          have HZ := Lib.hid hz
          clear hz hh
          go_wp2_with fail
          all_goals go_ret3
          all_goals exact ⟨by rw [HZ.out]; rfl, rfl⟩
      · rw [if_neg d3] at hz
        have HZ := Lib.hid hz
        clear hz hh
        go_wp2_with fail
        all_goals go_ret3
        all_goals exact ⟨by rw [HZ.out]; rfl, rfl⟩

set_option maxHeartbeats 4000000 in
set_option maxRecDepth 100000 in
theorem rune_m4 (s : ByteArray) (h0 : 0 < s.size) (w : World) (k1 : 240 ≤ (s[0]'h0).toNat) (k2 : (s[0]'h0).toNat < 245)
    (z : Int × Nat × Bool) (hz : z = if s.size < 4 then (65533, 1, false) else tailR s.data.toList 4 65536 3 1 ((s[0]'h0).toNat - 240)) :
    Calls Tryz.prog 135 #[.string s] w fun e w' => e = .returned (told3 z) ∧ w = w' := by
  have HG := Lib.hid (fun k (h : k < s.size) => (getD_at s k h : s.data.toList.getD k 0 = s[k]'h))
  by_cases hl : s.size < 4
  · rw [if_pos hl] at hz
    have HZ := Lib.hid hz
    clear hz HG
    go_enter Tryz.func135, Tryz.ntmps135
    go_wp2_with fail
    all_goals go_ret3
    all_goals exact ⟨by rw [HZ.out]; rfl, rfl⟩
  rw [if_neg hl] at hz
  have HZ := Lib.hid hz
  clear hz
  go_enter Tryz.func135, Tryz.ntmps135
  go_wp2_with fail
  go_loop [7, 9] (fun vx vi => ∃ (i f : Nat) (x : Int), vx = .int .i64 x ∧ vi = .int .i64 i ∧ 1 ≤ i ∧ i + f = 4 ∧ 0 ≤ x ∧ ((i = 1 ∧ x < 32) ∨ (i = 2 ∧ x < 2048) ∨ (i = 3 ∧ x < 131072) ∨ (i = 4 ∧ x < 8388608)) ∧ Hid (z = tailR s.data.toList 4 65536 f i x)) (fun _ vi => 4 - (RowKit.intOf vi).toNat)
  case atStart => exact ⟨1, _, _, rfl, rfl, by omega, rfl, by omega, by omega, HZ.out⟩
  case round =>
    obtain ⟨i, f, x, rfl, rfl, hi, hif, hx0, hx, hh⟩ := hrel
    by_cases hin : i < 4
    · obtain ⟨f, rfl⟩ : ∃ g, f = g + 1 := ⟨f - 1, by omega⟩
      have his : i < s.size := by omega
      have hz := hh.out
      rw [tailR, HG.out i his] at hz
      have hb : (s[i]'his).toNat < 256 := (s[i]'his).toNat_lt
      by_cases d1 : (s[i]'his).toNat < 128
      · rw [if_pos d1] at hz
        have HZ := Lib.hid hz
        clear hz hh
        go_wp2_with fail
        all_goals go_ret3
        all_goals exact ⟨by rw [HZ.out]; rfl, rfl⟩
      · rw [if_neg d1] at hz
        by_cases d2 : 192 ≤ (s[i]'his).toNat
        · rw [if_pos d2] at hz
          have HZ := Lib.hid hz
          clear hz hh
          go_wp2_with fail
          all_goals go_ret3
          all_goals exact ⟨by rw [HZ.out]; rfl, rfl⟩
        · rw [if_neg d2] at hz
          have HZ := Lib.hid hz
          clear hz hh
          go_wp2_with fail
          exact ⟨⟨_, _, _, _, _, ⟨i + 1, f, _, rfl, rfl, by omega, by omega, by omega, by omega, HZ⟩, rfl, rfl, rfl, rfl, by first | rfl | (congr 1; omega)⟩, by simp [RowKit.intOf]; omega⟩
    · obtain rfl : f = 0 := by omega
      obtain rfl : i = 4 := by omega
      have hz := hh.out
      rw [tailR] at hz
      by_cases d1 : x < (65536 : Nat)
      · rw [if_pos d1] at hz
        have HZ := Lib.hid hz
        have d1' : x < 65536 := d1
        clear hz hh d1
        go_wp2_with fail
        all_goals go_ret3
        all_goals exact ⟨by rw [HZ.out]; rfl, rfl⟩
      rw [if_neg d1] at hz
      have d1' : 65536 ≤ x := Int.not_lt.1 d1
      clear d1
      by_cases d2 : 1114111 < x
      · rw [if_pos d2] at hz
        have HZ := Lib.hid hz
        clear hz hh
        go_wp2_with fail
        all_goals go_ret3
        all_goals exact ⟨by rw [HZ.out]; rfl, rfl⟩
      rw [if_neg d2] at hz
      by_cases d3 : 55296 ≤ x
      · rw [if_pos d3] at hz
        by_cases d4 : x < 57344
        · rw [if_pos d4] at hz
          have HZ := Lib.hid hz
          clear hz hh
          go_wp2_with fail
          all_goals go_ret3
          all_goals exact ⟨by rw [HZ.out]; rfl, rfl⟩
        · rw [if_neg d4] at hz
          have HZ := Lib.hid hz
          clear hz hh
          go_wp2_with fail
          all_goals go_ret3
          all_goals exact ⟨by rw [HZ.out]; rfl, rfl⟩
      · rw [if_neg d3] at hz
        have HZ := Lib.hid hz
        clear hz hh
        go_wp2_with fail
        all_goals go_ret3
        all_goals exact ⟨by rw [HZ.out]; rfl, rfl⟩

theorem rune_any (s : ByteArray) (h0 : 0 < s.size) (w : World) :
    Calls Tryz.prog 135 #[.string s] w fun e w' => e = .returned (told3 (runeR s.data.toList)) ∧ w = w' := by
  have hl : s.data.toList.length = s.size := (size_eq s).symm
  unfold runeR
  rw [getD_at s 0 h0, hl]
  by_cases k0 : (s[0]'h0).toNat < 128
  · rw [if_pos k0]
    exact rune_one s h0 w k0
  rw [if_neg k0]
  by_cases k1 : (s[0]'h0).toNat < 194
  · rw [if_pos k1]
    exact rune_bad s h0 w (by omega) (Or.inl k1)
  rw [if_neg k1]
  by_cases k2 : (s[0]'h0).toNat < 224
  · rw [if_pos k2]
    exact rune_m2 s h0 w (by omega) k2 _ rfl
  rw [if_neg k2]
  by_cases k3 : (s[0]'h0).toNat < 240
  · rw [if_pos k3]
    exact rune_m3 s h0 w (by omega) k3 _ rfl
  rw [if_neg k3]
  by_cases k4 : (s[0]'h0).toNat < 245
  · rw [if_pos k4]
    exact rune_m4 s h0 w (by omega) k4 _ rfl
  rw [if_neg k4]
  exact rune_bad s h0 w (by omega) (Or.inr (by omega))
/-- the document's reading, in one word -/
theorem rune_said (s : ByteArray) (h0 : 0 < s.size) (w : World) :
    Calls Tryz.prog 135 #[.string s] w fun e w' => e = .returned (.tuple #[.int .i64 (decodeL s.data.toList).1, .int .i64 (decodeL s.data.toList).2, .bool (!strayL s.data.toList)]) ∧ w = w' := by
  refine (rune_any s h0 w).mono fun e w' ⟨he, hw⟩ => ⟨?_, hw⟩
  rw [he, runeR_eq]
  rfl
theorem ckr_nil (s : ByteArray) (w : World) (h : s.toList.isEmpty = true) :
    Calls Tryz.prog 116 #[.string s] w fun e w' => e = .returned (.int .i64 206) ∧ w = w' := by
  go_enter Tryz.func116, Tryz.ntmps116
  go_wp2_with fail
  all_goals go_ret
  all_goals exact ⟨rfl, rfl⟩
theorem ckr_long (s : ByteArray) (w : World) (h : s.toList.isEmpty = false) (h1 : 100 < s.size) :
    Calls Tryz.prog 116 #[.string s] w fun e w' => e = .returned (.int .i64 208) ∧ w = w' := by
  go_enter Tryz.func116, Tryz.ntmps116
  go_wp2_with fail
  all_goals go_ret
  all_goals exact ⟨rfl, rfl⟩
theorem ckr_dot (s : ByteArray) (w : World) (h : s.toList.isEmpty = false) (h1 : ¬ 100 < s.size) (h2 : s.toList = [46] ∨ s.toList = [46, 46]) :
    Calls Tryz.prog 116 #[.string s] w fun e w' => e = .returned (.int .i64 206) ∧ w = w' := by
  rcases h2 with h2 | h2
  · have e1 : (s.toList == [46]) = true := by rw [h2]; rfl
    clear h2
    go_enter Tryz.func116, Tryz.ntmps116
    go_wp2_with fail
    all_goals go_ret
    all_goals exact ⟨rfl, rfl⟩
  · have e1 : (s.toList == [46]) = false := by rw [h2]; rfl
    have e2 : (s.toList == [46, 46]) = true := by rw [h2]; rfl
    clear h2
    go_enter Tryz.func116, Tryz.ntmps116
    go_wp2_with fail
    all_goals go_ret
    all_goals exact ⟨rfl, rfl⟩

set_option maxHeartbeats 2000000 in
set_option maxRecDepth 100000 in
theorem ckr_loop (s : ByteArray) (w : World) (h : s.toList.isEmpty = false) (h1 : ¬ 100 < s.size) (e1 : (s.toList == [46]) = false) (e2 : (s.toList == [46, 46]) = false) (z : Int) (hz : Hid (z = if badL s.size s.data.toList then 206 else 0)) :
    Calls Tryz.prog 116 #[.string s] w fun e w' => e = .returned (.int .i64 z) ∧ w = w' := by
  go_enter Tryz.func116, Tryz.ntmps116
  go_wp2_with fail
  go_loop [3] (fun vi => ∃ (i fuel : Nat), vi = .int .i64 i ∧ i ≤ s.size ∧ s.size ≤ i + fuel ∧ Hid (z = if badL fuel (s.data.toList.drop i) then 206 else 0))
    (fun vi => s.size - (RowKit.intOf vi).toNat)
  case atStart => exact ⟨0, s.size, rfl, by omega, by omega, hz⟩
  case round =>
    obtain ⟨i, fuel, rfl, hi, hfu, hh⟩ := hrel
    by_cases hia : i < s.size
    · obtain ⟨f, rfl⟩ : ∃ f, fuel = f + 1 := ⟨fuel - 1, by omega⟩
      have hn := hh.out
      rw [badL, if_neg (drop_ne s i hia), drop_drop'] at hn
      clear hh
      have sa : (s.extract i s.size).size = s.size - i := by rw [size_eq, extract_drop, List.length_drop, ← size_eq]
      have ca := fun W => rune_said (s.extract i s.size) (by omega) W
      rw [extract_drop] at ca
      have wa := width_le _ (drop_ne s i hia)
      have pa := decodeL_width (s.data.toList.drop i)
      rw [List.length_drop, ← size_eq] at wa
      obtain ⟨p, hp⟩ : ∃ p, p = decodeL (s.data.toList.drop i) := ⟨_, rfl⟩
      rw [← hp] at ca wa pa hn
      cases hst : strayL (s.data.toList.drop i) with
      | true =>
        rw [hst] at ca hn
        obtain rfl : z = 206 := by rw [hn]; simp
        have CA := Lib.hid ca
        clear ca hp sa hn hst
        go_wp2_with fail
        refine (CA.out _).mono ?_
        rintro e w2 ⟨rfl, rfl⟩
        go_wp2_with fail
        all_goals go_ret
        all_goals exact ⟨rfl, rfl⟩
      | false =>
        rw [hst] at ca hn
        have CA := Lib.hid ca
        clear ca hp sa hst
        by_cases r47 : p.1 = 47
        · obtain rfl : z = 206 := by rw [hn, r47]; rfl
          have e47 : ((p.1 : Int) == 47) = true := by simp [r47]
          clear hn r47
          go_wp2_with fail
          refine (CA.out _).mono ?_
          rintro e w2 ⟨rfl, rfl⟩
          go_wp2_with fail
          all_goals go_ret
          all_goals exact ⟨rfl, rfl⟩
        · have e47 : ((p.1 : Int) == 47) = false := by simp; omega
          by_cases r0 : p.1 = 0
          · obtain rfl : z = 206 := by rw [hn, r0]; rfl
            have e0 : ((p.1 : Int) == 0) = true := by simp [r0]
            clear hn r0 r47
            go_wp2_with fail
            refine (CA.out _).mono ?_
            rintro e w2 ⟨rfl, rfl⟩
            go_wp2_with fail
            all_goals go_ret
            all_goals exact ⟨rfl, rfl⟩
          · have e0 : ((p.1 : Int) == 0) = false := by simp; omega
            rw [decide_eq_false r47, decide_eq_false r0] at hn
            have HN : Hid (z = if badL f (s.data.toList.drop (i + p.2)) then 206 else 0) := hn
            clear hn r0 r47
            go_wp2_with fail
            refine (CA.out _).mono ?_
            rintro e w2 ⟨rfl, rfl⟩
            go_wp2_with fail
            go_round
            case rel => exact ⟨i + p.2, f, by go_num, by omega, by omega, HN⟩
            case measure => simp [RowKit.intOf]; omega
    · obtain rfl : z = 0 := by
        have := hh.out
        rw [drop_all s i hia, badL_nil] at this
        exact this
      clear hh
      go_wp2_with fail
      go_ret
      exact ⟨rfl, rfl⟩

theorem check_ref (s : ByteArray) (w : World) :
    Calls Tryz.prog 116 #[.string s] w fun e w' => e = .returned (.int .i64 (checkL s.data.toList)) ∧ w = w' := by
  unfold checkL
  have hl : s.data.toList.length = s.size := (size_eq s).symm
  have ht : s.toList = s.data.toList := toList_data s
  by_cases h0 : s.data.toList = []
  · rw [if_pos h0]
    exact ckr_nil s w (by rw [ht, h0]; rfl)
  · have he : s.toList.isEmpty = false := by rw [ht]; simpa using h0
    rw [if_neg h0, hl]
    by_cases h1 : 100 < s.size
    · rw [if_pos h1]
      exact ckr_long s w he h1
    · rw [if_neg h1]
      by_cases h2 : s.data.toList = [46] ∨ s.data.toList = [46, 46]
      · rw [if_pos h2]
        exact ckr_dot s w he h1 (by rw [ht]; exact h2)
      · rw [if_neg h2]
        exact ckr_loop s w he h1 (by rw [ht]; simpa using fun h => h2 (Or.inl h)) (by rw [ht]; simpa using fun h => h2 (Or.inr h)) _ (by show _ = _; rfl)
end Go.Proofs.YtpjgkboafmebbaaGreatDoor.Nm
namespace Go.Proofs.YtpjgkboafmebbaaGreatDoor.Sh
end Go.Proofs.YtpjgkboafmebbaaGreatDoor.Sh
namespace Go.Proofs.YtpjgkboafmebbaaGreatDoor.Sh
open Go.RowKit Go.Lib Lb
theorem le_B {x y : ByteArray} : (Op.bytesLess y.toList x.toList || y.toList == x.toList) = !ltB x y := by
  unfold ltB
  cases h : Op.bytesLess x.toList y.toList with
  | true =>
    have h1 : Op.bytesLess y.toList x.toList = false := by
      cases h2 : Op.bytesLess y.toList x.toList with
      | false => rfl
      | true => have := bl_tr _ _ _ h h2; rw [bl_irr] at this; cases this
    have h2 : (y.toList == x.toList) = false := by
      cases h3 : y.toList == x.toList with
      | false => rfl
      | true => have e := eq_of_beq h3; rw [e, bl_irr] at h; cases h
    rw [h1, h2]; rfl
  | false =>
    by_cases e : y.toList = x.toList
    · rw [e]; simp
    · have h1 : Op.bytesLess y.toList x.toList = true := by
        rcases bl_tot _ _ e with h2 | h2
        · exact h2
        · rw [h] at h2; cases h2
      rw [h1]; rfl
set_option maxHeartbeats 2000000 in
set_option maxRecDepth 100000 in
theorem rising_any (ao : Option Addr) (l : List ByteArray) (n c : Nat) (w : World) (h : Srw w ao l) (hln : l.length = n) (hc : n ≤ c) (hcc : c ≤ 9223372036854775807) :
    Calls Tryz.prog 85 #[.slice ao n c] w (Tells w ((∀ s ∈ l, nameOk s) ∧ SU ltB l)) := by
  have H := Lib.hid h
  have HL := Lib.hid hln
  have B0 := Lib.hid (Below.refl w.heap.size w)
  have CN := Lib.hid (fun s W => (Nm.check_ref s W).mono (fun e w' (h : e = .returned (.int .i64 (Nm.checkL s.data.toList)) ∧ W = w') => (⟨h.1, h.2.symm⟩ : e = .returned (.int .i64 (Nm.checkL s.data.toList)) ∧ w' = W)))
  clear h hln
  go_enter Tryz.func85, Tryz.ntmps85
  go_wp2_with fail
  go_loopw [3] (fun vi wr => ∃ i : Nat, i ≤ n ∧ vi = .int .i64 (i : Nat) ∧ Hid (Below w.heap.size w wr) ∧ Hid (AllTo nameOk l i) ∧ Hid (RiseTo ltB l i)) (fun vi _ => n - (RowKit.intOf vi).toNat)
  case atStart => exact ⟨0, by omega, rfl, B0, allTo_zero _ _, fun j x y h => by omega⟩
  case round =>
    obtain ⟨i, hi, rfl, hB, hA, hT⟩ := hrel
    by_cases hin : i < n
    · obtain ⟨b, o, rfl, hb, hcell⟩ := srw_cells H.out i (by have := HL.out; omega)
      obtain ⟨y, hy⟩ : ∃ y, l[i]? = some y := ⟨_, List.getElem?_eq_getElem (by have := HL.out; omega)⟩
      have HY := Lib.hid hy
      have d2 : wr.cell? ⟨b, o + i, none⟩ = some (.string y) := (hB.out.cell (p := ⟨b, o + i, none⟩) hb).trans (hcell i y hy)
      have d3 := Lib.hid (fun j z (hz : l[j]? = some z) => (hB.out.cell (p := ⟨b, o + j, none⟩) hb).trans (hcell j z hz))
      have q1 : (0 : Int) ≤ (i : Int) := by omega
      have q2 : (i : Int) < (n : Int) := by omega
      have CY := Lib.hid (fun W => CN.out y W)
      have HN : Hid (nameOk y ↔ Nm.checkL y.data.toList = 0) := Iff.rfl
      obtain ⟨z, hz⟩ : ∃ z, z = Nm.checkL y.data.toList := ⟨_, rfl⟩
      rw [← hz] at CY HN
      clear hz hy hcell hb
      by_cases hz0 : z = 0
      rotate_left
      · have t1 : (z != 0) = true := by simpa using hz0
        have HF : Hid (¬ ((∀ s ∈ l, nameOk s) ∧ SU ltB l)) := fun h0 => hz0 (HN.out.1 (h0.1 y (List.mem_of_getElem? HY.out)))
        clear hz0 d3
        go_wp2_with fail
        go_quiet ((go_at_call 116; with_reducible exact Calls.quiet_of_same (CY.out _)))
        generalize hwv : wr.drewN nq = wv at *
        have hB2 : Hid (Below w.heap.size w wv) := by show Below _ _ _; rw [← hwv]; exact below_drewN hB.out _
        clear hwv
        go_wp2_with fail
        go_ret
        exact ⟨⟨false, rfl, by simp [HF.out]⟩, hB2.out⟩
      · subst hz0
        have hA2 : Hid (AllTo nameOk l (i + 1)) := allTo_more hA.out HY.out (HN.out.2 rfl)
        by_cases h0 : 0 < i
        rotate_left
        · have t6 : decide (0 < i) = false := by simpa using h0
          have t7 : decide ((0 : Int) < (i : Int)) = false := by simp; omega
          have hT2 : Hid (RiseTo ltB l (i + 1)) := fun j x y h => by omega
          clear h0 d3
          go_wp2_with fail
          go_quiet ((go_at_call 116; with_reducible exact Calls.quiet_of_same (CY.out _)))
          generalize hwv : wr.drewN nq = wv at *
          have hB2 : Hid (Below w.heap.size w wv) := by show Below _ _ _; rw [← hwv]; exact below_drewN hB.out _
          clear hwv d2 hB
          go_wp2_with fail
          go_roundw
          case rel => exact ⟨i + 1, by omega, by go_num, hB2, hA2, hT2⟩
          case measure => simp [RowKit.intOf]; omega
        · obtain ⟨j, hj⟩ : ∃ j, i = j + 1 := ⟨i - 1, by omega⟩
          obtain ⟨x, hx⟩ : ∃ x, l[j]? = some x := ⟨_, List.getElem?_eq_getElem (by have := HL.out; omega)⟩
          have d4 := d3.out j x hx
          have HX := Lib.hid hx
          have t6 : decide (0 < i) = true := by simp; omega
          have t7 : decide ((0 : Int) < (i : Int)) = true := by simp; omega
          have w2 : IntKind.i64.wrap (j : Int) = (j : Int) := IntWalk.i64_in _ (by omega)
          have w4 : (i : Int) - 1 = (j : Int) := by omega
          have q3 : (0 : Int) ≤ (j : Int) := by omega
          have q4 : (j : Int) < (n : Int) := by omega
          have q5 : j < n := by omega
          have HJ := Lib.hid hj
          obtain ⟨t, ht⟩ : ∃ t, t = !ltB x y := ⟨_, rfl⟩
          have HTT := Lib.hid ht
          have t8 : (Op.bytesLess y.toList x.toList || y.toList == x.toList) = t := by rw [ht]; exact le_B
          clear hj hx d3 h0 ht
          cases t with
          | true =>
            have HF : Hid (¬ ((∀ s ∈ l, nameOk s) ∧ SU ltB l)) := fun h0 => by
              have e := HJ.out
              subst e
              have h1 := su_next ltB l h0.2 j (by have := (List.getElem?_eq_some_iff.1 HY.out).1; exact this)
              rw [(List.getElem?_eq_some_iff.1 HY.out).2, (List.getElem?_eq_some_iff.1 HX.out).2] at h1
              have h2 := HTT.out
              rw [h1] at h2
              cases h2
            go_wp2_with fail
            go_quiet ((go_at_call 116; with_reducible exact Calls.quiet_of_same (CY.out _)))
            generalize hwv : wr.drewN nq = wv at *
            have hB2 : Hid (Below w.heap.size w wv) := by show Below _ _ _; rw [← hwv]; exact below_drewN hB.out _
            clear hwv
            go_wp2_with fail
            go_ret
            exact ⟨⟨false, rfl, by simp [HF.out]⟩, hB2.out⟩
          | false =>
            have hT2 : Hid (RiseTo ltB l (i + 1)) := by
              show RiseTo _ _ _
              have e := HJ.out
              subst e
              exact riseTo_more hT.out HX.out HY.out (by have := HTT.out; simpa using this.symm)
            go_wp2_with fail
            go_quiet ((go_at_call 116; with_reducible exact Calls.quiet_of_same (CY.out _)))
            generalize hwv : wr.drewN nq = wv at *
            have hB2 : Hid (Below w.heap.size w wv) := by show Below _ _ _; rw [← hwv]; exact below_drewN hB.out _
            clear hwv d2 d4 hB
            go_wp2_with fail
            go_roundw
            case rel => exact ⟨i + 1, by omega, by go_num, hB2, hA2, hT2⟩
            case measure => simp [RowKit.intOf]; omega
    · have hjn : i = n := by omega
      have HJN := Lib.hid hjn
      clear hjn
      go_wp2_with fail
      go_ret
      exact ⟨⟨true, rfl, by simp only [true_iff]; exact ⟨allTo_of hA.out (by rw [HJN.out]; exact HL.out), riseTo_all ords_B hT.out (by rw [HL.out, HJN.out]; exact Nat.le_refl _)⟩⟩, hB.out⟩
set_option maxHeartbeats 2000000 in
set_option maxRecDepth 100000 in
theorem listok_any (o : Bool) (sv zv : Option Addr) (ls : List ByteArray) (lz : List Int) (n sc m zc : Nat) (w : World) (hs : Srw w sv ls) (hls : ls.length = n) (hsc : n ≤ sc) (hscc : sc ≤ 9223372036854775807)
    (hz : Zrw w zv lz) (hlz : lz.length = m) (hzc : m ≤ zc) (_ : zc ≤ 9223372036854775807) :
    Calls Tryz.prog 49 #[.agg #[.bool o, .slice sv n sc, .slice zv m zc]] w (Tells w (OkList ltB nameOk ⟨o, ls, lz⟩)) := by
  have HS := Lib.hid hls
  have HZ := Lib.hid hlz
  have H2 := Lib.hid hz
  have CW := Lib.hid (fun y W => within_any y 0 1024 W)
  have B0 : Hid (Below w.heap.size w (w.alloc (.cells #[.bool o, .slice sv n sc, .slice zv m zc] 30))) := (Below.refl _ w).alloc (Nat.le_refl _) _
  have K0 : Hid (Blk (w.alloc (.cells #[.bool o, .slice sv n sc, .slice zv m zc] 30)) w.heap.size [.bool o, .slice sv n sc, .slice zv m zc] 30) := Blk.new w [.bool o, .slice sv n sc, .slice zv m zc] 30 _ rfl
  have CR := Lib.hid (rising_any sv ls n sc (w.alloc (.cells #[.bool o, .slice sv n sc, .slice zv m zc] 30)) (hs.below B0.out) hls hsc hscc)
  have x0 := K0.out.cell 0
  have x1 := K0.out.cell 1
  have x2 := K0.out.cell 2
  simp only [List.getElem?_cons_zero, List.getElem?_cons_succ] at x0 x1 x2
  clear hs hls hz hlz
  by_cases h256 : 256 < n
  · have t1 : decide (256 < n) = true := by simp; omega
    have t2 : decide ((256 : Int) < (n : Int)) = true := by simp; omega
    have HF : Hid (¬ OkList ltB nameOk ⟨o, ls, lz⟩) := fun h0 => by have := h0.most; have := HS.out; simp only at *; omega
    clear h256
    go_enter Tryz.func49, Tryz.ntmps49
    go_wp2_with fail
    go_ret
    exact ⟨⟨false, rfl, by simp [HF.out]⟩, B0.out⟩
  · have t1 : decide (256 < n) = false := by simp; omega
    have t2 : decide ((256 : Int) < (n : Int)) = false := by simp; omega
    have H256 := Lib.hid (Nat.le_of_not_lt h256)
    clear h256
    go_enter Tryz.func49, Tryz.ntmps49
    go_wp2_with fail
    refine CR.out.mono ?_
    clear CR
    rintro e w1 ⟨⟨t, rfl, ht⟩, hb⟩
    have B1 := Lib.hid (below_chain B0.out hb)
    have K1 := Lib.hid (K0.out.low hb)
    have HT := Lib.hid ht
    clear x0 x1 x2 ht hb B0 K0
    have x0 := K1.out.cell 0
    have x1 := K1.out.cell 1
    have x2 := K1.out.cell 2
    simp only [List.getElem?_cons_zero, List.getElem?_cons_succ] at x0 x1 x2
    cases t with
    | false =>
      have HF : Hid (¬ OkList ltB nameOk ⟨o, ls, lz⟩) := fun h0 => by have := HT.out.2 ⟨h0.names, h0.rising⟩; cases this
      go_wp2_with fail
      go_ret
      exact ⟨⟨false, rfl, by simp [HF.out]⟩, B1.out⟩
    | true =>
      by_cases hq : m = n
      rotate_left
      · have t3 : ((m : Int) != (n : Int)) = true := by simp; omega
        have t4 : (m == n) = false := by simp; omega
        have HF : Hid (¬ OkList ltB nameOk ⟨o, ls, lz⟩) := fun h0 => by have h1 := h0.same; have := HS.out; have := HZ.out; simp only at h1; omega
        go_wp2_with fail
        go_ret
        exact ⟨⟨false, rfl, by simp [HF.out]⟩, B1.out⟩
      · subst hq
        have t3 : ((m : Int) != (m : Int)) = false := by simp
        go_wp2_with fail
        go_loopw [3] (fun vi wr => ∃ i : Nat, i ≤ m ∧ vi = .int .i64 i ∧ Hid (Below w.heap.size w wr) ∧ Hid (Blk wr w.heap.size [.bool o, .slice sv m sc, .slice zv m zc] 30) ∧ Hid (AllTo (fun x => within x 0 1024 ∧ (o = true → x ≠ 0)) lz i)) (fun vi _ => m - (RowKit.intOf vi).toNat)
        case atStart => exact ⟨0, by omega, rfl, B1.out, K1.out, allTo_zero _ _⟩
        case round =>
          obtain ⟨i, hi, rfl, hB, hK, hA⟩ := hrel
          have x0 := hK.out.cell 0
          have x1 := hK.out.cell 1
          have x2 := hK.out.cell 2
          simp only [List.getElem?_cons_zero, List.getElem?_cons_succ] at x0 x1 x2
          by_cases hin : i < m
          · have q1 : (0 : Int) ≤ (i : Int) := by omega
            have q2 : (i : Int) < (m : Int) := by omega
            obtain ⟨b, oo, rfl, hb, hcell⟩ := zrw_cell H2.out i (by have := HZ.out; omega)
            obtain ⟨y, hy⟩ : ∃ y, lz[i]? = some y := ⟨_, List.getElem?_eq_getElem (by have := HZ.out; omega)⟩
            have d1 : wr.cell? ⟨b, oo + i, none⟩ = some (.int .i64 y) := (hB.out.cell (p := ⟨b, oo + i, none⟩) hb).trans (hcell i y hy)
            have HY := Lib.hid hy
            have CY := Lib.hid (fun W => CW.out y W)
            clear hy hcell hb
            by_cases hw : within y 0 1024
            rotate_left
            · have hwt : decide (within y 0 1024) = false := by simpa using hw
              rw [hwt] at CY
              have HW := Lib.hid hw
              have HF : Hid (¬ OkList ltB nameOk ⟨o, ls, lz⟩) := fun h0 => HW.out (h0.nums y (List.mem_of_getElem? HY.out))
              clear hw hwt CW
              go_wp2_with fail
              refine (CY.out _).mono ?_
              rintro e w2 ⟨rfl, rfl⟩
              go_wp2_with fail
              go_ret
              exact ⟨⟨false, rfl, by simp [HF.out]⟩, hB.out⟩
            · have hwt : decide (within y 0 1024) = true := by simpa using hw
              rw [hwt] at CY
              have HW := Lib.hid hw
              clear hw hwt
              cases o with
              | false =>
                have hA2 : Hid (AllTo (fun x => within x 0 1024 ∧ (false = true → x ≠ 0)) lz (i + 1)) := allTo_more hA.out HY.out ⟨HW.out, fun h => by cases h⟩
                go_wp2_with fail
                refine (CY.out _).mono ?_
                rintro e w2 ⟨rfl, rfl⟩
                go_wp2_with fail
                go_roundw
                case rel => exact ⟨i + 1, by omega, by go_num, hB, hK, hA2⟩
                case measure => simp [RowKit.intOf]; omega
              | true =>
                by_cases hy0 : y = 0
                · have t5 : (y == 0) = true := by simpa using hy0
                  have HF : Hid (¬ OkList ltB nameOk ⟨true, ls, lz⟩) := fun h0 => h0.opq rfl (hy0 ▸ List.mem_of_getElem? HY.out)
                  clear hy0
                  go_wp2_with fail
                  refine (CY.out _).mono ?_
                  rintro e w2 ⟨rfl, rfl⟩
                  go_wp2_with fail
                  go_ret
                  exact ⟨⟨false, rfl, by simp [HF.out]⟩, hB.out⟩
                · have t5 : (y == 0) = false := by simpa using hy0
                  have hA2 : Hid (AllTo (fun x => within x 0 1024 ∧ (true = true → x ≠ 0)) lz (i + 1)) := allTo_more hA.out HY.out ⟨HW.out, fun _ => hy0⟩
                  clear hy0
                  go_wp2_with fail
                  refine (CY.out _).mono ?_
                  rintro e w2 ⟨rfl, rfl⟩
                  go_wp2_with fail
                  go_roundw
                  case rel => exact ⟨i + 1, by omega, by go_num, hB, hK, hA2⟩
                  case measure => simp [RowKit.intOf]; omega
          · obtain rfl : i = m := by omega
            have AL := Lib.hid (allTo_of hA.out HZ.out)
            have OK : Hid (OkList ltB nameOk ⟨o, ls, lz⟩) :=
              { most := by have := H256.out; have := HS.out; show ls.length ≤ 256; omega
                names := (HT.out.1 trivial).1, rising := (HT.out.1 trivial).2
                same := by show lz.length = ls.length; rw [HZ.out, HS.out]
                nums := fun x hx => (AL.out x hx).1
                opq := fun h h0 => (AL.out 0 h0).2 h rfl }
            go_wp2_with fail
            go_ret
            exact ⟨⟨true, rfl, by simp only [true_iff]; exact OK.out⟩, hB.out⟩
end Go.Proofs.YtpjgkboafmebbaaGreatDoor.Sh
namespace Go.Proofs.YtpjgkboafmebbaaGreatDoor.Sh
open Go.RowKit Go.Lib Lb
theorem own_of_blk {w : World} {B g : Nat} {l : List UInt8} (h : Blk w g (bs l) 5) (hB : B ≤ g) (hl : l.length ≤ 9223372036854775807) : Own w B (.slice (some ⟨g, 0, none⟩) l.length l.length) l :=
  ⟨by simp [bs], .inr ⟨g, l.length, _, rfl, hB, h, Nat.le_refl _, by unfold maxLen; omega, by simp [bs], List.take_of_length_le (by simp [bs])⟩⟩
theorem textL_len (s : ByteArray) (h : s.data.toList.length ≤ 100) : 1 ≤ (textL s).length ∧ (textL s).length ≤ 110 := by
  have h1 := putL_len s.data.toList.length
  unfold textL dataL
  rw [List.length_append]
  omega
set_option maxHeartbeats 4000000 in
set_option maxRecDepth 100000 in
theorem refputlisting_any (o : Bool) (sv zv : Option Addr) (ls : List ByteArray) (lz : List Int) (n sc m zc : Nat) (w : World) (hs : Srw w sv ls) (hls : ls.length = n) (hsc : n ≤ sc) (hscc : sc ≤ 9223372036854775807)
    (hz : Zrw w zv lz) (hlz : lz.length = m) (hzc : m ≤ zc) (hzcc : zc ≤ 9223372036854775807) :
    Calls Tryz.prog 20 #[.agg #[.bool o, .slice sv n sc, .slice zv m zc]] w (Gives w (OkList ltB nameOk ⟨o, ls, lz⟩) (listL ⟨o, ls, lz⟩) 80) := by
  have HS := Lib.hid hls
  have HZ := Lib.hid hlz
  have H1 := Lib.hid hs
  have H2 := Lib.hid hz
  have B0 : Hid (Below w.heap.size w (w.alloc (.cells #[.bool o, .slice sv n sc, .slice zv m zc] 30))) := (Below.refl _ w).alloc (Nat.le_refl _) _
  have K0 : Hid (Blk (w.alloc (.cells #[.bool o, .slice sv n sc, .slice zv m zc] 30)) w.heap.size [.bool o, .slice sv n sc, .slice zv m zc] 30) := Blk.new w [.bool o, .slice sv n sc, .slice zv m zc] 30 _ rfl
  have RT := Lib.hid (listok_any o sv zv ls lz n sc m zc (w.alloc (.cells #[.bool o, .slice sv n sc, .slice zv m zc] 30)) (hs.below B0.out) hls hsc hscc (hz.below B0.out) hlz hzc hzcc)
  have x0 := K0.out.cell 0
  have x1 := K0.out.cell 1
  have x2 := K0.out.cell 2
  simp only [List.getElem?_cons_zero, List.getElem?_cons_succ] at x0 x1 x2
  clear hs hls hz hlz
  go_enter Tryz.func20, Tryz.ntmps20
  go_wp2_with fail
  refine RT.out.mono ?_
  rintro e w1 ⟨⟨b, rfl, hbb⟩, hb1⟩
  have HBB := Lib.hid hbb
  have B1 := Lib.hid (below_chain B0.out hb1)
  have K1 := Lib.hid (K0.out.low hb1)
  clear x0 x1 x2 hbb hb1
  have x0 := K1.out.cell 0
  have x1 := K1.out.cell 1
  have x2 := K1.out.cell 2
  simp only [List.getElem?_cons_zero, List.getElem?_cons_succ] at x0 x1 x2
  cases b with
  | false =>
    have HF : Hid (¬ OkList ltB nameOk ⟨o, ls, lz⟩) := fun h0 => by have := HBB.out.2 h0; cases this
    go_wp2_with fail
    go_ret2
    exact ⟨B1.out, .inr ⟨HF.out, rfl⟩⟩
  | true =>
    have HT : Hid (OkList ltB nameOk ⟨o, ls, lz⟩) := HBB.out.1 rfl
    have hn256 : n ≤ 256 := by have := HT.out.most; have := HS.out; simp only at *; omega
    have hmn : m = n := by have := HT.out.same; have := HS.out; have := HZ.out; simp only at *; omega
    subst hmn
    clear HBB RT K0 B0
    have G1 := Lib.hid (World.block_lt_of_cell? w1 _ x1)
    obtain ⟨f, hf⟩ : ∃ f : UInt8, f = if o = true then 1 else 0 := ⟨_, rfl⟩
    obtain ⟨wx, hwx⟩ : ∃ wx, wx = w1.alloc (.cells #[.int .u8 (f.toNat : Int)] 5) := ⟨_, rfl⟩
    have BN : Blk (w1.alloc (.cells #[.int .u8 0] 5)) w1.heap.size [.int .u8 0] 5 := Blk.new w1 [.int .u8 0] 5 _ rfl
    have KX0 := K1.out.alloc (.cells #[.int .u8 0] 5)
    have GB : w.heap.size + 1 ≤ w1.heap.size := by have := G1.out; simp only at this; omega
    have BX : Hid (Below w.heap.size w wx) := by
      show Below _ _ _
      rw [hwx]
      exact below_alloc B1.out _
    have KX : Hid (Blk wx w.heap.size [.bool o, .slice sv m sc, .slice zv m zc] 30) := by
      show Blk _ _ _ _
      rw [hwx]
      exact K1.out.alloc _
    have OX : Hid (Own wx (w.heap.size + 1) (.slice (some ⟨w1.heap.size, 0, none⟩) 1 1) [f]) := by
      show Own _ _ _ _
      refine own_of_blk (l := [f]) ?_ GB (by simp)
      rw [hwx]
      exact Blk.new w1 [.int .u8 (f.toNat : Int)] 5 _ rfl
    have CN := Lib.hid (refnum_any (m : Int) (by omega) (by omega) wx)
    have FL : Hid (flagL o = [f]) := by
      show _ = _
      rw [hf]
      cases o with
      | true => exact num_1
      | false => exact num_0
    have b0 := BN.cell 0
    have fb := BN.frozen 0
    have z1 := KX.out.cell 1
    have y0 := KX0.cell 0
    simp only [List.getElem?_cons_zero, List.getElem?_cons_succ] at b0 z1 y0
    clear BN KX0 B1 K1 GB
    cases o with
    | false =>
      simp only [Bool.false_eq_true, if_false] at hf
      rw [hf] at hwx
      clear hf
      simp only [UInt8.toNat_ofNat, Nat.reducePow, Nat.reduceMod, Int.cast_ofNat_Int] at hwx
      rw [hwx] at z1
      go_wp2_with fail
      rw [← hwx]
      clear hwx z1 b0 fb x0 x1 x2 y0
      generalize w1.heap.size = gb at *
      clear G1
      refine CN.out.mono ?_
      rintro e w4 ⟨b2, v4, rfl, o4⟩
      obtain ⟨g2, p2, rfl, z1, z2, z3, z4, z5⟩ := own_some o4 (numL_len (m : Int)).1
      have B4 := Lib.hid (below_chain BX.out b2)
      have K4 := Lib.hid (KX.out.low b2)
      have O4 := Lib.hid (own_below OX.out b2)
      have Z5 := Lib.hid z5
      have KL := numL_len (m : Int)
      obtain ⟨kl, hkl⟩ : ∃ kl, kl = numL (m : Int) := ⟨_, rfl⟩
      have HKL := Lib.hid hkl
      rw [← hkl] at KL Z5 z3 ⊢
      obtain ⟨kn, hkn⟩ : ∃ kn, kl.length = kn := ⟨_, rfl⟩
      have HKN := Lib.hid hkn
      rw [hkn] at z3 KL ⊢
      have p3 : [f].length + kn ≤ 140737488355328 := by simp; omega
      have hL2 : Hid (([f] ++ kl).length ≤ 11) := by show _ ≤ _; rw [List.length_append, hkn]; simp; omega
      clear o4 b2 BX KX CN OX z5 hkl hkn KL
      go_wp2_with (at_builtin; refine wpl_app_len (t := 36) (e := 5) rfl (.tmp 15) (.tmp 19) rfl Tryz.underlying36 info5 (w.heap.size + 1) _ [f] kl rfl O4.out (some ⟨g2, 0, none⟩) kn p2 rfl Z5.out (fun h => by cases h) HKN p3 K4.out.lt ?_; intro v' w' hown' hgrow)
      have B5 := Lib.hid (B4.out.grown hgrow B4.out.size (fun k hk => Nat.le_of_succ_le (O4.out.lt k hk).1))
      have K5 := Lib.hid (blk_row K4.out hgrow (own_ne O4.out (Nat.lt_succ_self _)))
      have O5 : Hid (Own w' (w.heap.size + 1) v' ([f] ++ kl)) := hown'
      obtain ⟨HD, hHD⟩ : ∃ HD, HD = [f] ++ kl := ⟨_, rfl⟩
      have HHD := Lib.hid hHD
      rw [← hHD] at O5 hL2
      clear hgrow hown' B4 K4 O4 Z5 HKN p3 hHD z1 z2 z3 z4
      go_loopw [4, 5] (fun vb vi wr => ∃ i : Nat, i ≤ m ∧ vi = .int .i64 i ∧ Hid (Below w.heap.size w wr) ∧ Hid (Blk wr w.heap.size [.bool false, .slice sv m sc, .slice zv m zc] 30) ∧ Hid (Own wr (w.heap.size + 1) vb (HD ++ (ls.take i).flatMap textL)) ∧ Hid ((HD ++ (ls.take i).flatMap textL).length ≤ 11 + 110 * i)) (fun _ vi _ => m - (RowKit.intOf vi).toNat)
      case atStart => exact ⟨0, by omega, rfl, B5.out, K5.out, by show Own _ _ _ _; simpa using O5.out, by show _ ≤ _; simpa using hL2.out⟩
      case round =>
        obtain ⟨i, hi, rfl, hB, hK, hO, hL⟩ := hrel
        have c1 := hK.out.cell 1
        have c2 := hK.out.cell 2
        simp only [List.getElem?_cons_zero, List.getElem?_cons_succ] at c1 c2
        by_cases hin : i < m
        · obtain ⟨b, o, x, rfl, hb, hx, hcell⟩ := srw_cell H1.out i (by have := HS.out; omega)
          have HX := Lib.hid hx
          have d1 : wr.cell? ⟨b, o + i, none⟩ = some (.string x) := (hB.out.cell (p := ⟨b, o + i, none⟩) hb).trans hcell
          have XL := nameOk_len x (HT.out.names x (List.mem_of_getElem? hx))
          have TL := textL_len x XL
          obtain ⟨cq, W, hcv, hW, hr⟩ := conv_text x wr
          have CK := Lib.hid (refbytes2_any _ x.data.toList x.data.toList.length cq W hr (fun h => by cases h) rfl (by omega))
          have HW := Lib.hid hW
          have q1 : (0 : Int) ≤ (i : Int) := by omega
          have q2 : (i : Int) < (m : Int) := by omega
          obtain ⟨xl, hxl⟩ : ∃ xl, xl = x.data.toList.length := ⟨_, rfl⟩
          rw [← hxl] at hcv CK
          obtain ⟨kl, hkl⟩ : ∃ kl, kl = textL x := ⟨_, rfl⟩
          have CK2 : Hid (Calls Tryz.prog 44 #[.slice (some ⟨wr.heap.size, 0, none⟩) xl cq] W fun e w' => Below W.heap.size W w' ∧ ∃ v, e = .returned v ∧ Own w' W.heap.size v kl) := by show Calls _ _ _ _ _; rw [hkl]; exact CK.out
          have HS2 : Hid ((ls.take (i + 1)).flatMap textL = (ls.take i).flatMap textL ++ kl) := by
            show _ = _
            rw [List.take_add_one, HX.out, hkl]
            simp
          rw [← hkl] at TL
          clear hx hcell hb XL hW hr CK hxl hkl
          go_wp2_with fail
          refine CK2.out.mono ?_
          rintro e w2 ⟨b1, v2, rfl, o2⟩
          obtain ⟨g2, p2, rfl, z1, z2, z3, z4, z5⟩ := own_some o2 TL.1
          have b3 := below_chain HW.out b1
          have O2 := Lib.hid (own_below hO.out b3)
          have B2 := Lib.hid (below_chain hB.out b3)
          have K2 := Lib.hid (hK.out.low b3)
          have Z5 := Lib.hid z5
          obtain ⟨acc, hacc⟩ : ∃ acc, acc = HD ++ (ls.take i).flatMap textL := ⟨_, rfl⟩
          rw [← hacc] at O2 hL
          have p3 : acc.length + kl.length ≤ 140737488355328 := by have := hL.out; omega
          have hL3 : Hid ((acc ++ kl).length ≤ 11 + 110 * (i + 1)) := by show _ ≤ _; rw [List.length_append]; have := hL.out; omega
          have HACC := Lib.hid hacc
          obtain ⟨kn, hkn⟩ : ∃ kn, kl.length = kn := ⟨_, rfl⟩
          have HKN := Lib.hid hkn
          rw [hkn] at p3 z3 ⊢
          clear o2 z5 hacc hO hL b1 TL hkn b3 hcv CK2
          go_wp2_with (at_builtin; refine wpl_app_len (t := 36) (e := 5) rfl (.tmp 28) (.tmp 35) rfl Tryz.underlying36 info5 (w.heap.size + 1) _ acc kl rfl O2.out (some ⟨g2, 0, none⟩) kn p2 rfl Z5.out (fun h => by cases h) HKN p3 K2.out.lt ?_; intro v' w' hown' hgrow)
          have B5 := Lib.hid (B2.out.grown hgrow B2.out.size (fun k hk => Nat.le_of_succ_le (O2.out.lt k hk).1))
          have K5 := Lib.hid (blk_row K2.out hgrow (own_ne O2.out (Nat.lt_succ_self _)))
          refine ⟨⟨i + 1, by omega, by go_num, B5.out, K5.out, ?_, ?_⟩, by simp [RowKit.intOf]; omega⟩
          · show Own _ _ _ _
            rw [HS2.out, ← List.append_assoc, ← HACC.out]
            exact hown'
          · show _ ≤ _
            rw [HS2.out, ← List.append_assoc, ← HACC.out]
            exact hL3.out
        · obtain rfl : i = m := by omega
          have HD2 : Hid (HD ++ (ls.take i).flatMap textL = HD ++ ls.flatMap textL) := by
            show _ = _
            rw [← HS.out, List.take_length]
          have hO2 := hO.out
          rw [HD2.out] at hO2
          have hL2 := hL.out
          rw [HD2.out] at hL2
          have O6 := Lib.hid hO2
          have L6 : Hid ((HD ++ ls.flatMap textL).length ≤ 28171) := by show _ ≤ _; omega
          have EQ : Hid (listL ⟨false, ls, lz⟩ = (HD ++ ls.flatMap textL) ++ lz.flatMap numL) := by
            show _ = _
            rw [listL, FL.out, HS.out, HHD.out, ← HKL.out]
            simp only [List.append_assoc]
          obtain ⟨E, hE⟩ : ∃ E, E = HD ++ ls.flatMap textL := ⟨_, rfl⟩
          rw [← hE] at O6 L6 EQ
          clear hO2 hL2 HD2 hO hL hE
          go_wp2_with fail
          go_loopw [4, 6] (fun vb vi wr => ∃ j : Nat, j ≤ i ∧ vi = .int .i64 j ∧ Hid (Below w.heap.size w wr) ∧ Hid (Blk wr w.heap.size [.bool false, .slice sv i sc, .slice zv i zc] 30) ∧ Hid (Own wr (w.heap.size + 1) vb (E ++ (lz.take j).flatMap numL)) ∧ Hid ((E ++ (lz.take j).flatMap numL).length ≤ 28171 + 10 * j)) (fun _ vi _ => i - (RowKit.intOf vi).toNat)
          case atStart => exact ⟨0, by omega, rfl, hB, hK, by show Own _ _ _ _; simpa using O6.out, by show _ ≤ _; simpa using L6.out⟩
          case round =>
            obtain ⟨j, hj, rfl, hC, hJ, hP, hM⟩ := hrel
            have y1 := hJ.out.cell 1
            have y2 := hJ.out.cell 2
            simp only [List.getElem?_cons_zero, List.getElem?_cons_succ] at y1 y2
            by_cases hjn : j < i
            · obtain ⟨b, o, rfl, hb, hcell⟩ := zrw_cell H2.out j (by have := HZ.out; omega)
              obtain ⟨x, hx⟩ : ∃ y, lz[j]? = some y := ⟨_, List.getElem?_eq_getElem (by have := HZ.out; omega)⟩
              have HX := Lib.hid hx
              have d1 : wr.cell? ⟨b, o + j, none⟩ = some (.int .i64 x) := (hC.out.cell (p := ⟨b, o + j, none⟩) hb).trans (hcell j x hx)
              have XW := HT.out.nums x (List.mem_of_getElem? hx)
              have CK := Lib.hid (refnum_any x (by unfold within at XW; omega) (by unfold within at XW; omega) wr)
              have q1 : (0 : Int) ≤ (j : Int) := by omega
              have q2 : (j : Int) < (i : Int) := by omega
              clear hx hcell hb XW
              go_wp2_with fail
              refine CK.out.mono ?_
              rintro e w2 ⟨b1, v2, rfl, o2⟩
              obtain ⟨g2, p2, rfl, z1, z2, z3, z4, z5⟩ := own_some o2 (numL_len x).1
              have O2 := Lib.hid (own_below hP.out b1)
              have B2 := Lib.hid (below_chain hC.out b1)
              have K2 := Lib.hid (hJ.out.low b1)
              have HS3 : Hid ((lz.take (j + 1)).flatMap numL = (lz.take j).flatMap numL ++ numL x) := by
                show _ = _
                rw [List.take_add_one, HX.out]
                simp
              have Z5 := Lib.hid z5
              have KL := numL_len x
              obtain ⟨kl, hkl⟩ : ∃ kl, kl = numL x := ⟨_, rfl⟩
              rw [← hkl] at HS3 Z5 KL z3 ⊢
              obtain ⟨acc, hacc⟩ : ∃ acc, acc = E ++ (lz.take j).flatMap numL := ⟨_, rfl⟩
              rw [← hacc] at O2 hM
              have p3 : acc.length + kl.length ≤ 140737488355328 := by have := hM.out; omega
              have hL2 : Hid ((acc ++ kl).length ≤ 28171 + 10 * (j + 1)) := by show _ ≤ _; rw [List.length_append]; have := hM.out; omega
              have HACC := Lib.hid hacc
              obtain ⟨kn, hkn⟩ : ∃ kn, kl.length = kn := ⟨_, rfl⟩
              have HKN := Lib.hid hkn
              rw [hkn] at p3 z3 ⊢
              clear o2 z5 hkl hacc hP hM b1 KL hkn
              go_wp2_with (at_builtin; refine wpl_app_len (t := 36) (e := 5) rfl (.tmp 44) (.tmp 50) rfl Tryz.underlying36 info5 (w.heap.size + 1) _ acc kl rfl O2.out (some ⟨g2, 0, none⟩) kn p2 rfl Z5.out (fun h => by cases h) HKN p3 K2.out.lt ?_; intro v' w' hown' hgrow)
              have B5 := Lib.hid (B2.out.grown hgrow B2.out.size (fun k hk => Nat.le_of_succ_le (O2.out.lt k hk).1))
              have K5 := Lib.hid (blk_row K2.out hgrow (own_ne O2.out (Nat.lt_succ_self _)))
              refine ⟨⟨j + 1, by omega, by go_num, B5.out, K5.out, ?_, ?_⟩, by simp [RowKit.intOf]; omega⟩
              · show Own _ _ _ _
                rw [HS3.out, ← List.append_assoc, ← HACC.out]
                exact hown'
              · show _ ≤ _
                rw [HS3.out, ← List.append_assoc, ← HACC.out]
                exact hL2.out
            · obtain rfl : j = i := by omega
              have HE : Hid (E ++ (lz.take j).flatMap numL = listL ⟨false, ls, lz⟩) := by
                show _ = _
                rw [EQ.out, List.take_of_length_le (by rw [HZ.out]; exact Nat.le_refl _)]
              go_wp2_with fail
              go_ret2
              exact ⟨hC.out, .inl ⟨HT.out, _, rfl, by rw [← HE.out]; exact Own.low hP.out (Nat.le_succ _)⟩⟩
    | true =>
      simp only [if_true] at hf
      rw [hf] at hwx
      clear hf
      simp only [UInt8.toNat_ofNat, Nat.reducePow, Nat.reduceMod, Int.cast_ofNat_Int] at hwx
      rw [hwx] at z1
      go_wp2_with fail
      rw [← hwx]
      clear hwx z1 b0 fb x0 x1 x2 y0
      generalize w1.heap.size = gb at *
      clear G1
      refine CN.out.mono ?_
      rintro e w4 ⟨b2, v4, rfl, o4⟩
      obtain ⟨g2, p2, rfl, z1, z2, z3, z4, z5⟩ := own_some o4 (numL_len (m : Int)).1
      have B4 := Lib.hid (below_chain BX.out b2)
      have K4 := Lib.hid (KX.out.low b2)
      have O4 := Lib.hid (own_below OX.out b2)
      have Z5 := Lib.hid z5
      have KL := numL_len (m : Int)
      obtain ⟨kl, hkl⟩ : ∃ kl, kl = numL (m : Int) := ⟨_, rfl⟩
      have HKL := Lib.hid hkl
      rw [← hkl] at KL Z5 z3 ⊢
      obtain ⟨kn, hkn⟩ : ∃ kn, kl.length = kn := ⟨_, rfl⟩
      have HKN := Lib.hid hkn
      rw [hkn] at z3 KL ⊢
      have p3 : [f].length + kn ≤ 140737488355328 := by simp; omega
      have hL2 : Hid (([f] ++ kl).length ≤ 11) := by show _ ≤ _; rw [List.length_append, hkn]; simp; omega
      clear o4 b2 BX KX CN OX z5 hkl hkn KL
      go_wp2_with (at_builtin; refine wpl_app_len (t := 36) (e := 5) rfl (.tmp 15) (.tmp 19) rfl Tryz.underlying36 info5 (w.heap.size + 1) _ [f] kl rfl O4.out (some ⟨g2, 0, none⟩) kn p2 rfl Z5.out (fun h => by cases h) HKN p3 K4.out.lt ?_; intro v' w' hown' hgrow)
      have B5 := Lib.hid (B4.out.grown hgrow B4.out.size (fun k hk => Nat.le_of_succ_le (O4.out.lt k hk).1))
      have K5 := Lib.hid (blk_row K4.out hgrow (own_ne O4.out (Nat.lt_succ_self _)))
      have O5 : Hid (Own w' (w.heap.size + 1) v' ([f] ++ kl)) := hown'
      obtain ⟨HD, hHD⟩ : ∃ HD, HD = [f] ++ kl := ⟨_, rfl⟩
      have HHD := Lib.hid hHD
      rw [← hHD] at O5 hL2
      clear hgrow hown' B4 K4 O4 Z5 HKN p3 hHD z1 z2 z3 z4
      go_loopw [4, 5] (fun vb vi wr => ∃ i : Nat, i ≤ m ∧ vi = .int .i64 i ∧ Hid (Below w.heap.size w wr) ∧ Hid (Blk wr w.heap.size [.bool true, .slice sv m sc, .slice zv m zc] 30) ∧ Hid (Own wr (w.heap.size + 1) vb (HD ++ (ls.take i).flatMap textL)) ∧ Hid ((HD ++ (ls.take i).flatMap textL).length ≤ 11 + 110 * i)) (fun _ vi _ => m - (RowKit.intOf vi).toNat)
      case atStart => exact ⟨0, by omega, rfl, B5.out, K5.out, by show Own _ _ _ _; simpa using O5.out, by show _ ≤ _; simpa using hL2.out⟩
      case round =>
        obtain ⟨i, hi, rfl, hB, hK, hO, hL⟩ := hrel
        have c1 := hK.out.cell 1
        have c2 := hK.out.cell 2
        simp only [List.getElem?_cons_zero, List.getElem?_cons_succ] at c1 c2
        by_cases hin : i < m
        · obtain ⟨b, o, x, rfl, hb, hx, hcell⟩ := srw_cell H1.out i (by have := HS.out; omega)
          have HX := Lib.hid hx
          have d1 : wr.cell? ⟨b, o + i, none⟩ = some (.string x) := (hB.out.cell (p := ⟨b, o + i, none⟩) hb).trans hcell
          have XL := nameOk_len x (HT.out.names x (List.mem_of_getElem? hx))
          have TL := textL_len x XL
          obtain ⟨cq, W, hcv, hW, hr⟩ := conv_text x wr
          have CK := Lib.hid (refbytes2_any _ x.data.toList x.data.toList.length cq W hr (fun h => by cases h) rfl (by omega))
          have HW := Lib.hid hW
          have q1 : (0 : Int) ≤ (i : Int) := by omega
          have q2 : (i : Int) < (m : Int) := by omega
          obtain ⟨xl, hxl⟩ : ∃ xl, xl = x.data.toList.length := ⟨_, rfl⟩
          rw [← hxl] at hcv CK
          obtain ⟨kl, hkl⟩ : ∃ kl, kl = textL x := ⟨_, rfl⟩
          have CK2 : Hid (Calls Tryz.prog 44 #[.slice (some ⟨wr.heap.size, 0, none⟩) xl cq] W fun e w' => Below W.heap.size W w' ∧ ∃ v, e = .returned v ∧ Own w' W.heap.size v kl) := by show Calls _ _ _ _ _; rw [hkl]; exact CK.out
          have HS2 : Hid ((ls.take (i + 1)).flatMap textL = (ls.take i).flatMap textL ++ kl) := by
            show _ = _
            rw [List.take_add_one, HX.out, hkl]
            simp
          rw [← hkl] at TL
          clear hx hcell hb XL hW hr CK hxl hkl
          go_wp2_with fail
          refine CK2.out.mono ?_
          rintro e w2 ⟨b1, v2, rfl, o2⟩
          obtain ⟨g2, p2, rfl, z1, z2, z3, z4, z5⟩ := own_some o2 TL.1
          have b3 := below_chain HW.out b1
          have O2 := Lib.hid (own_below hO.out b3)
          have B2 := Lib.hid (below_chain hB.out b3)
          have K2 := Lib.hid (hK.out.low b3)
          have Z5 := Lib.hid z5
          obtain ⟨acc, hacc⟩ : ∃ acc, acc = HD ++ (ls.take i).flatMap textL := ⟨_, rfl⟩
          rw [← hacc] at O2 hL
          have p3 : acc.length + kl.length ≤ 140737488355328 := by have := hL.out; omega
          have hL3 : Hid ((acc ++ kl).length ≤ 11 + 110 * (i + 1)) := by show _ ≤ _; rw [List.length_append]; have := hL.out; omega
          have HACC := Lib.hid hacc
          obtain ⟨kn, hkn⟩ : ∃ kn, kl.length = kn := ⟨_, rfl⟩
          have HKN := Lib.hid hkn
          rw [hkn] at p3 z3 ⊢
          clear o2 z5 hacc hO hL b1 TL hkn b3 hcv CK2
          go_wp2_with (at_builtin; refine wpl_app_len (t := 36) (e := 5) rfl (.tmp 28) (.tmp 35) rfl Tryz.underlying36 info5 (w.heap.size + 1) _ acc kl rfl O2.out (some ⟨g2, 0, none⟩) kn p2 rfl Z5.out (fun h => by cases h) HKN p3 K2.out.lt ?_; intro v' w' hown' hgrow)
          have B5 := Lib.hid (B2.out.grown hgrow B2.out.size (fun k hk => Nat.le_of_succ_le (O2.out.lt k hk).1))
          have K5 := Lib.hid (blk_row K2.out hgrow (own_ne O2.out (Nat.lt_succ_self _)))
          refine ⟨⟨i + 1, by omega, by go_num, B5.out, K5.out, ?_, ?_⟩, by simp [RowKit.intOf]; omega⟩
          · show Own _ _ _ _
            rw [HS2.out, ← List.append_assoc, ← HACC.out]
            exact hown'
          · show _ ≤ _
            rw [HS2.out, ← List.append_assoc, ← HACC.out]
            exact hL3.out
        · obtain rfl : i = m := by omega
          have HD2 : Hid (HD ++ (ls.take i).flatMap textL = HD ++ ls.flatMap textL) := by
            show _ = _
            rw [← HS.out, List.take_length]
          have hO2 := hO.out
          rw [HD2.out] at hO2
          have hL2 := hL.out
          rw [HD2.out] at hL2
          have O6 := Lib.hid hO2
          have L6 : Hid ((HD ++ ls.flatMap textL).length ≤ 28171) := by show _ ≤ _; omega
          have EQ : Hid (listL ⟨true, ls, lz⟩ = (HD ++ ls.flatMap textL) ++ lz.flatMap numL) := by
            show _ = _
            rw [listL, FL.out, HS.out, HHD.out, ← HKL.out]
            simp only [List.append_assoc]
          obtain ⟨E, hE⟩ : ∃ E, E = HD ++ ls.flatMap textL := ⟨_, rfl⟩
          rw [← hE] at O6 L6 EQ
          clear hO2 hL2 HD2 hO hL hE
          go_wp2_with fail
          go_loopw [4, 6] (fun vb vi wr => ∃ j : Nat, j ≤ i ∧ vi = .int .i64 j ∧ Hid (Below w.heap.size w wr) ∧ Hid (Blk wr w.heap.size [.bool true, .slice sv i sc, .slice zv i zc] 30) ∧ Hid (Own wr (w.heap.size + 1) vb (E ++ (lz.take j).flatMap numL)) ∧ Hid ((E ++ (lz.take j).flatMap numL).length ≤ 28171 + 10 * j)) (fun _ vi _ => i - (RowKit.intOf vi).toNat)
          case atStart => exact ⟨0, by omega, rfl, hB, hK, by show Own _ _ _ _; simpa using O6.out, by show _ ≤ _; simpa using L6.out⟩
          case round =>
            obtain ⟨j, hj, rfl, hC, hJ, hP, hM⟩ := hrel
            have y1 := hJ.out.cell 1
            have y2 := hJ.out.cell 2
            simp only [List.getElem?_cons_zero, List.getElem?_cons_succ] at y1 y2
            by_cases hjn : j < i
            · obtain ⟨b, o, rfl, hb, hcell⟩ := zrw_cell H2.out j (by have := HZ.out; omega)
              obtain ⟨x, hx⟩ : ∃ y, lz[j]? = some y := ⟨_, List.getElem?_eq_getElem (by have := HZ.out; omega)⟩
              have HX := Lib.hid hx
              have d1 : wr.cell? ⟨b, o + j, none⟩ = some (.int .i64 x) := (hC.out.cell (p := ⟨b, o + j, none⟩) hb).trans (hcell j x hx)
              have XW := HT.out.nums x (List.mem_of_getElem? hx)
              have CK := Lib.hid (refnum_any x (by unfold within at XW; omega) (by unfold within at XW; omega) wr)
              have q1 : (0 : Int) ≤ (j : Int) := by omega
              have q2 : (j : Int) < (i : Int) := by omega
              clear hx hcell hb XW
              go_wp2_with fail
              refine CK.out.mono ?_
              rintro e w2 ⟨b1, v2, rfl, o2⟩
              obtain ⟨g2, p2, rfl, z1, z2, z3, z4, z5⟩ := own_some o2 (numL_len x).1
              have O2 := Lib.hid (own_below hP.out b1)
              have B2 := Lib.hid (below_chain hC.out b1)
              have K2 := Lib.hid (hJ.out.low b1)
              have HS3 : Hid ((lz.take (j + 1)).flatMap numL = (lz.take j).flatMap numL ++ numL x) := by
                show _ = _
                rw [List.take_add_one, HX.out]
                simp
              have Z5 := Lib.hid z5
              have KL := numL_len x
              obtain ⟨kl, hkl⟩ : ∃ kl, kl = numL x := ⟨_, rfl⟩
              rw [← hkl] at HS3 Z5 KL z3 ⊢
              obtain ⟨acc, hacc⟩ : ∃ acc, acc = E ++ (lz.take j).flatMap numL := ⟨_, rfl⟩
              rw [← hacc] at O2 hM
              have p3 : acc.length + kl.length ≤ 140737488355328 := by have := hM.out; omega
              have hL2 : Hid ((acc ++ kl).length ≤ 28171 + 10 * (j + 1)) := by show _ ≤ _; rw [List.length_append]; have := hM.out; omega
              have HACC := Lib.hid hacc
              obtain ⟨kn, hkn⟩ : ∃ kn, kl.length = kn := ⟨_, rfl⟩
              have HKN := Lib.hid hkn
              rw [hkn] at p3 z3 ⊢
              clear o2 z5 hkl hacc hP hM b1 KL hkn
              go_wp2_with (at_builtin; refine wpl_app_len (t := 36) (e := 5) rfl (.tmp 44) (.tmp 50) rfl Tryz.underlying36 info5 (w.heap.size + 1) _ acc kl rfl O2.out (some ⟨g2, 0, none⟩) kn p2 rfl Z5.out (fun h => by cases h) HKN p3 K2.out.lt ?_; intro v' w' hown' hgrow)
              have B5 := Lib.hid (B2.out.grown hgrow B2.out.size (fun k hk => Nat.le_of_succ_le (O2.out.lt k hk).1))
              have K5 := Lib.hid (blk_row K2.out hgrow (own_ne O2.out (Nat.lt_succ_self _)))
              refine ⟨⟨j + 1, by omega, by go_num, B5.out, K5.out, ?_, ?_⟩, by simp [RowKit.intOf]; omega⟩
              · show Own _ _ _ _
                rw [HS3.out, ← List.append_assoc, ← HACC.out]
                exact hown'
              · show _ ≤ _
                rw [HS3.out, ← List.append_assoc, ← HACC.out]
                exact hL2.out
            · obtain rfl : j = i := by omega
              have HE : Hid (E ++ (lz.take j).flatMap numL = listL ⟨true, ls, lz⟩) := by
                show _ = _
                rw [EQ.out, List.take_of_length_le (by rw [HZ.out]; exact Nat.le_refl _)]
              go_wp2_with fail
              go_ret2
              exact ⟨hC.out, .inl ⟨HT.out, _, rfl, by rw [← HE.out]; exact Own.low hP.out (Nat.le_succ _)⟩⟩
end Go.Proofs.YtpjgkboafmebbaaGreatDoor.Sh
namespace Go.Proofs.YtpjgkboafmebbaaGreatDoor.Sh
open Go.RowKit Go.Lib Lb
/-- what the reader of a listing gives -/
def GetsList (w : World) (l : List UInt8) (e : Ending) (w' : World) : Prop :=
  Below w.heap.size w w' ∧ ((getList ltB nameOk l = none ∧ e = .returned (.tuple #[.agg #[.bool false, .slice none 0 0, .slice none 0 0], .int .i64 80])) ∨
    ∃ x u v, getList ltB nameOk l = some x ∧ e = .returned (.tuple #[.agg #[.bool x.opq, u, v], .int .i64 0]) ∧ OwnG 9 1 cellsS w.heap.size w' x.names u ∧ OwnG 3 1 cellsI w.heap.size w' x.nums v)
def LHead (l l2 : List UInt8) (o : Bool) (n : Nat) (d2 : Bool) : Prop := (d2 = true → pList l = none) ∧ (d2 = false → pList l = match pRow (pText 100) n l2 with | none => none | some (a, r) => match pRow (pNum 1024) n r with | none => none | some (k, s) => some (⟨o, a, k⟩, s))
theorem list_head (l l1 l2 : List UInt8) (x : Int) (n : Nat) (d1 d2 : Bool) (h1 : stepR (pNum 1) 0 l false = (x, l1, d1)) (h2 : stepR (pNum 256) 0 l1 d1 = ((n : Int), l2, d2)) : LHead l l2 (decide (x = 1)) n d2 := by
  unfold LHead pList pFlag pMap pSeq
  dsimp only
  constructor
  · intro hd
    cases d1 with
    | true =>
      rw [step_bad (p := pNum 1) (z := 0) (l := l) (by rw [h1])]
      rfl
    | false =>
      have k1 := (step_ok (p := pNum 1) (z := 0) (l := l) (b := false) (by rw [h1])).2
      have k2 := step_bad (p := pNum 256) (z := 0) (l := l1) (by rw [h2]; exact hd)
      rw [k1, h1]
      simp only [Option.map_some, k2]
      rfl
  · intro hd
    obtain ⟨k0, k2⟩ := step_ok (p := pNum 256) (z := 0) (l := l1) (b := d1) (by rw [h2]; exact hd)
    have k1 := (step_ok (p := pNum 1) (z := 0) (l := l) (b := false) (by rw [h1]; exact k0)).2
    rw [h2] at k2
    rw [k1, h1]
    simp only [Option.map_some, k2, Int.toNat_natCast]
    cases pRow (pText 100) n l2 with
    | none => rfl
    | some u =>
      obtain ⟨a, r⟩ := u
      simp only
      cases pRow (pNum 1024) n r with
      | none => rfl
      | some u => rfl
theorem list_step1 {l l2 lr l3 : List UInt8} {o : Bool} {n i : Nat} {d2 d3 : Bool} {A : List ByteArray} {d : List UInt8} (HH : LHead l l2 o n d2)
    (HN : d2 = false ∧ pRow (pText 100) i l2 = some (A, lr)) (HK : (d, l3, d3) = stepR (pData 100) [] lr false) (hin : i < n) : if d3 = true then pList l = none else d2 = false ∧ pRow (pText 100) (i + 1) l2 = some (A ++ [⟨d.toArray⟩], l3) := by
  cases d3 with
  | true =>
    have hb := step_bad (p := pData 100) (z := []) (l := lr) (by rw [← HK])
    rw [if_pos rfl, HH.2 HN.1, row_none (pText 100) l2 (i + 1) n (by rw [row_snoc, HN.2]; simp only; rw [pText, pMap, hb]; rfl) hin]
  | false =>
    rw [if_neg (by decide)]
    have h := (step_ok (p := pData 100) (z := []) (l := lr) (b := false) (by rw [← HK])).2
    rw [← HK] at h
    exact ⟨HN.1, by rw [row_snoc, HN.2]; simp only; rw [pText, pMap, h]; rfl⟩
theorem list_step2 {l l2 lA lr l3 : List UInt8} {o : Bool} {n i : Nat} {d2 d3 : Bool} {A : List ByteArray} {P : List Int} {k : Int} (HH : LHead l l2 o n d2) (HA : d2 = false ∧ pRow (pText 100) n l2 = some (A, lA))
    (HN : pRow (pNum 1024) i lA = some (P, lr)) (HK : (k, l3, d3) = stepR (pNum 1024) 0 lr false) (hin : i < n) : if d3 = true then pList l = none else pRow (pNum 1024) (i + 1) lA = some (P ++ [k], l3) := by
  cases d3 with
  | true =>
    rw [if_pos rfl, HH.2 HA.1, HA.2]
    simp only
    rw [row_none (pNum 1024) lA (i + 1) n (by rw [row_snoc, HN]; simp only; rw [step_bad (p := pNum 1024) (z := 0) (l := lr) (by rw [← HK])]) hin]
  | false =>
    rw [if_neg (by decide)]
    have h := (step_ok (p := pNum 1024) (z := 0) (l := lr) (b := false) (by rw [← HK])).2
    rw [← HK] at h
    rw [row_snoc, HN]; simp only; rw [h]
theorem cells_oneS {x : ByteArray} : ∀ u ∈ ([.string x] : List Value), u.oneCell' = true := by
  intro u hu
  simp only [List.mem_singleton] at hu
  subst hu
  rfl
theorem ownG_snocS {w : World} {e : TypeId} {B : Nat} {v : Value} {A : List ByteArray} {k : ByteArray} (h : w.ownsRow B e 1 v (A.length + 1) (A.flatMap cellsS ++ [.string k])) : OwnG e 1 cellsS B w (A ++ [k]) v := by
  unfold OwnG
  rw [flat_snoc, List.length_append]
  exact h
theorem below_set3 {w W : World} (h : Below w.heap.size w W) (u v x : Value) : Below w.heap.size w (((W.setCell ⟨w.heap.size, 0, none⟩ u).setCell ⟨w.heap.size, 1, none⟩ v).setCell ⟨w.heap.size, 2, none⟩ x) :=
  ((h.setCell (p := ⟨w.heap.size, 0, none⟩) (Nat.le_refl _) u).setCell (p := ⟨w.heap.size, 1, none⟩) (Nat.le_refl _) v).setCell (p := ⟨w.heap.size, 2, none⟩) (Nat.le_refl _) x
theorem blkS_new (w : World) (x : ByteArray) : Blk (w.alloc (.cells #[.string x] 9)) w.heap.size [.string x] 9 := Blk.new w [.string x] 9 _ rfl
set_option maxHeartbeats 4000000 in
set_option maxRecDepth 100000 in
theorem getlisting_any (ao : Option Addr) (l : List UInt8) (m c : Nat) (w : World) (hb : Byt w ao l) (hn : ao = none → c = 0) (hl : l.length = m) (hc : m ≤ c) (hm : c ≤ 9223372036854775807) (h47 : m ≤ 140737488355328) (hf : ∀ a, ao = some a → a.block < w.heap.size) :
    Calls Tryz.prog 22 #[.slice ao m c] w (GetsList w l) := by
  obtain ⟨wa, hwa⟩ : ∃ wa, wa = w.alloc (.cells #[.bool false, .slice none 0 0, .slice none 0 0] 30) := ⟨_, rfl⟩
  have sa : wa.heap.size = w.heap.size + 1 := by rw [hwa]; simp
  have B1 : Below w.heap.size w wa := by rw [hwa]; exact (Below.refl _ w).alloc (Nat.le_refl _) _
  have KA : Blk wa w.heap.size [.bool false, .slice none 0 0, .slice none 0 0] 30 := by rw [hwa]; exact Blk.new w [.bool false, .slice none 0 0, .slice none 0 0] 30 _ rfl
  obtain ⟨wb, hwb⟩ : ∃ wb, wb = wa.alloc (.cells #[.slice ao m c, .bool false] 99) := ⟨_, rfl⟩
  have sb : wb.heap.size = w.heap.size + 2 := by rw [hwb]; simp [sa]
  have RB := Lib.hid (rd_new wa ao l m c (w.heap.size + 1) sa.symm (hb.below B1) hn hl hc hm h47 (fun a ha => by have := hf a ha; omega))
  rw [← hwb] at RB
  have B2 : Hid (Below w.heap.size w wb) := by show Below _ _ _; rw [hwb]; exact B1.alloc (by omega) _
  have KB : Hid (Blk wb w.heap.size [.bool false, .slice none 0 0, .slice none 0 0] 30) := by show Blk _ _ _ _; rw [hwb]; exact KA.alloc _
  have C1 := Lib.hid (rnum_any (w.heap.size + 1) l false ao m c 1 wb RB.out (by decide))
  clear KA B1 hb hn hl hc hm h47 hf
  go_enter Tryz.func22, Tryz.ntmps22
  go_wp2_with fail
  rw [← hwa, ← hwb]
  refine C1.out.mono ?_
  rintro e w1 ⟨rfl, h1, ao1, m1, c1, R1⟩
  have AN : AnsR wb (w.heap.size + 1) (.int .i64 (stepR (pNum 1) 0 l false).1) (stepR (pNum 1) 0 l false).2.1 (stepR (pNum 1) 0 l false).2.2 (.returned (.int .i64 (stepR (pNum 1) 0 l false).1)) w1 := ⟨rfl, h1, ao1, m1, c1, R1⟩
  have B3 := Lib.hid (AN.below B2.out (by omega) (by omega))
  have K3 := Lib.hid (AN.kept KB.out (by omega))
  have R3 := Lib.hid R1
  have S3 : Hid (w.heap.size + 2 ≤ w1.heap.size) := by show _ ≤ _; have := h1.size; omega
  clear AN h1 R1 C1 KB B2 RB hwb hwa sb sa
  obtain ⟨⟨x, l1, d1⟩, hs1⟩ : ∃ z : Int × List UInt8 × Bool, z = stepR (pNum 1) 0 l false := ⟨_, rfl⟩
  rw [← hs1] at R3 ⊢
  have H1 := Lib.hid hs1
  clear hs1
  simp only at R3 ⊢
  obtain ⟨o, ho⟩ : ∃ o, o = decide (x = 1) := ⟨_, rfl⟩
  have t0 : (x == 1) = o := by rw [ho]; by_cases h : x = 1 <;> simp [h]
  obtain ⟨w2, hw2⟩ : ∃ w2, w2 = w1.alloc (.cells #[.bool o, .slice none 0 0, .slice none 0 0] 30) := ⟨_, rfl⟩
  have s2 : w2.heap.size = w1.heap.size + 1 := by rw [hw2]; simp
  have Q2 : Below w1.heap.size w1 w2 := by rw [hw2]; exact (Below.refl _ w1).alloc (Nat.le_refl _) _
  have B4 := Lib.hid (B3.out.trans (Q2.mono B3.out.size))
  have K4 := Lib.hid (K3.out.low Q2)
  have R4 := Lib.hid (R3.out.grown Q2)
  have X4 : Hid (Blk w2 w1.heap.size [.bool o, .slice none 0 0, .slice none 0 0] 30) := by show Blk _ _ _ _; rw [hw2]; exact Blk.new w1 [.bool o, .slice none 0 0, .slice none 0 0] 30 _ rfl
  have C2 := Lib.hid (rnum_any (w.heap.size + 1) l1 d1 ao1 m1 c1 256 w2 R4.out (by decide))
  obtain ⟨⟨n', l2, d2⟩, hs2⟩ : ∃ z : Int × List UInt8 × Bool, z = stepR (pNum 256) 0 l1 d1 := ⟨_, rfl⟩
  obtain ⟨n, hn1, hn2⟩ := num_step 256 l1 d1
  rw [← hs2] at C2 hn1
  simp only at C2 hn1
  subst hn1
  have HH := Lib.hid (list_head l l1 l2 x n d1 d2 H1.out.symm hs2.symm)
  rw [← ho] at HH
  obtain ⟨gX, hgX⟩ : ∃ gX, gX = w1.heap.size := ⟨_, rfl⟩
  rw [← hgX] at X4 S3 s2
  have S2 : Hid (gX < w2.heap.size) := by show _ < _; omega
  have HW2 := Lib.hid hw2
  have HGX := Lib.hid hgX
  clear hs2 Q2 K3 R3 B3 ho hw2 hgX
  go_wp2_with fail
  rw [← HW2.out, ← HGX.out]
  refine C2.out.mono ?_
  rintro e w3 ⟨rfl, h1, ao2, m2, c2, R5⟩
  have AN : AnsR w2 (w.heap.size + 1) (.int .i64 (n : Int)) l2 d2 (.returned (.int .i64 (n : Int))) w3 := ⟨rfl, h1, ao2, m2, c2, R5⟩
  have G0 : Hid (w.heap.size + 1 < gX) := by show _ < _; have := S3.out; omega
  have G1 := G0.out
  have B5 := Lib.hid (AN.below B4.out B4.out.size (Nat.le_succ _))
  have K5 := Lib.hid (AN.kept K4.out (by omega))
  have X5 := Lib.hid (AN.kept X4.out (by omega))
  have R6 := Lib.hid R5
  clear AN h1 R5 C2 K4 R4 B4 X4 HW2 HGX s2 H1 S2 G1 S3 t0
  go_wp2_with fail
  go_loopw [7] (fun vi wr => ∃ (i : Nat) (lr : List UInt8) (bad : Bool) (A : List ByteArray) (v : Value) (ar : Option Addr) (mr cr : Nat), i ≤ n ∧ vi = .int .i64 i ∧ Hid (Below w.heap.size w wr) ∧ Hid (Blk wr w.heap.size [.bool false, .slice none 0 0, .slice none 0 0] 30) ∧ Hid (Blk wr gX [.bool o, v, .slice none 0 0] 30) ∧ Hid (Rd wr (w.heap.size + 1) lr bad ar mr cr) ∧ Hid (OwnG 9 1 cellsS (gX + 1) wr A v) ∧ Hid (A.length = i) ∧ Hid (if bad = true then pList l = none else d2 = false ∧ pRow (pText 100) i l2 = some (A, lr))) (fun vi _ => n - (RowKit.intOf vi).toNat)
  case atStart =>
    refine ⟨0, l2, d2, [], .slice none 0 0, ao2, m2, c2, by omega, rfl, B5.out, K5.out, X5.out, R6.out, World.ownsRow_nil _ _ _ _, rfl, ?_⟩
    show ite _ _ _
    cases hd : d2 with
    | true => rw [if_pos rfl]; exact HH.out.1 hd
    | false => rw [if_neg (by decide)]; exact ⟨rfl, rfl⟩
  case round =>
    obtain ⟨i, lr, bad, A, v, ar, mr, cr, hi, rfl, hB, hK, hX, hR, hO, hP, hI⟩ := hrel
    have c0 := hR.out.blk.cell 0
    have c1 := hR.out.blk.cell 1
    have x0 := hX.out.cell 0
    have x1 := hX.out.cell 1
    have x2 := hX.out.cell 2
    have y0 := hK.out.cell 0
    have y1 := hK.out.cell 1
    have y2 := hK.out.cell 2
    have f0 := hK.out.frozen 0
    have f1 := hK.out.frozen 1
    have f2 := hK.out.frozen 2
    simp only [List.getElem?_cons_zero, List.getElem?_cons_succ] at c0 c1 x0 x1 x2 y0 y1 y2
    cases bad with
    | true =>
      have HN := Lib.hid hI.out
      rw [if_pos rfl] at HN
      have HE : Hid (getList ltB nameOk l = none) := by show _ = _; rw [getList, whole, HN.out]
      clear hI hO hP hR
      by_cases hn0 : 0 < n
      · have q0 : (0 : Int) < (n : Int) := by omega
        by_cases hin : i < n
        · have q2 : (i : Int) < (n : Int) := by omega
          go_wp2_with fail
          refine wp_loop_rounds 1 ?_
          rw [rounds_succ]
          go_wp2_with fail
          exact bodyPost_ret (results_row_tmp rfl _ _ w.heap.size 30 _ _ _ rfl rfl (set_three hK.out _ _ _) Tryz.underlying30 rfl size30') rfl ⟨below_set3 hB.out _ _ _, .inl ⟨HE.out, rfl⟩⟩
        · obtain rfl : i = n := by omega
          go_wp2_with fail
          refine wp_loop_rounds 1 ?_
          rw [rounds_succ]
          go_wp2_with fail
          exact bodyPost_ret (results_row_tmp rfl _ _ w.heap.size 30 _ _ _ rfl rfl (set_three hK.out _ _ _) Tryz.underlying30 rfl size30') rfl ⟨below_set3 hB.out _ _ _, .inl ⟨HE.out, rfl⟩⟩
      · obtain rfl : n = 0 := by omega
        obtain rfl : i = 0 := by omega
        go_wp2_with fail
        refine wp_loop_rounds 1 ?_
        rw [rounds_succ]
        go_wp2_with fail
        exact bodyPost_ret (results_row_tmp rfl _ _ w.heap.size 30 _ _ _ rfl rfl (set_three hK.out _ _ _) Tryz.underlying30 rfl size30') rfl ⟨below_set3 hB.out _ _ _, .inl ⟨HE.out, rfl⟩⟩
    | false =>
      have HN := Lib.hid hI.out
      rw [if_neg (by decide)] at HN
      by_cases hin : i < n
      · have q2 : (i : Int) < (n : Int) := by omega
        have CK := Lib.hid (rdata_any (w.heap.size + 1) lr false ar mr cr 100 wr.drew (hR.out.grown (Below.refl _ wr).drew) (by decide))
        rw [show ((100 : Nat) : Int) = 100 from rfl] at CK
        obtain ⟨⟨dd, l3, d3⟩, hs3⟩ : ∃ z : List UInt8 × List UInt8 × Bool, z = stepR (pData 100) [] lr false := ⟨_, rfl⟩
        rw [← hs3] at CK
        simp only at CK
        have HK := Lib.hid hs3
        obtain ⟨k, hk⟩ : ∃ k : ByteArray, k = ⟨dd.toArray⟩ := ⟨_, rfl⟩
        have HKK := Lib.hid hk
        clear hk
        have p1 : A.length + 1 ≤ 1000000 := by rw [hP.out]; omega
        have GL := hX.out.lt
        have GX0 := G0.out
        clear hs3 hI
        go_wp2_with fail
        have fx := hX.out.frozen 1
        have z1 : wr.drew.cell? ⟨gX, 1, none⟩ = some v := x1
        go_region_law (first
          | (go_simp
             go_at_call 47; (with_reducible refine CK.out.mono ?_); rintro e w4 ⟨vd, ⟨rfl, h1, ao3, m3, c3, R7⟩, od⟩
             obtain ⟨aq, cq, rfl, _, _, hbq, hnq⟩ := own_byt od
             have kc := conv_byt (P := Tryz.prog) (t := 36) (e := 5) (d := 9) (w := w4) Tryz.underlying36 Tryz.underlying5 Tryz.underlying9 aq dd cq hbq hnq
             rw [← HKK.out] at kc
             have X7 := Lib.hid (blk_grown (w := wr.drew) hX.out h1 (by omega))
             have X9 := Lib.hid (X7.out.alloc (.cells #[.string k] 9))
             have N9 := Lib.hid (blkS_new w4 k)
             have O7 := Lib.hid (World.ownsRow.alloc (row_kept (w := wr.drew) hO.out h1 (by omega)) (.cells #[.string k] 9))
             have p2 : gX + 1 ≤ (w4.alloc (.cells #[.string k] 9)).heap.size := by have : wr.heap.size ≤ w4.heap.size := h1.size; simp; omega
             have z2 := X7.out.cell 1
             have z3 := X9.out.cell 1
             simp only [List.getElem?_cons_zero, List.getElem?_cons_succ] at z2 z3)
          | (refine step_one (t := 27) (e := 9) rfl (.tmp 31) (.tmp 35) rfl Tryz.underlying27 infoT rfl (by decide) (gX + 1) v A.length (A.flatMap cellsS) (by simp [Act.eval]) O7.out w4.heap.size [.string k] (by simp [Act.eval]) N9.out rfl cells_oneS p1 (by decide) p2 ?_; intro v5 w5 o5 g5
             have o6 := ownG_snocS o5
             obtain ⟨ao5, c5, rfl⟩ := ownG_slice o6
             have X8 := Lib.hid (blk_row X9.out g5 (row_ne O7.out (Nat.lt_succ_self _)))
             have e1 := X8.out.cell 1
             have e2 := X8.out.frozen 1
             simp only [List.getElem?_cons_zero, List.getElem?_cons_succ] at e1))
        all_goals
          have far5 : ∀ b, v.ownBlock = some b → gX < b := fun b hb => (O7.out.lt b hb).1
          have RZ := Lib.hid (((R7.grown ((Below.refl _ w4).alloc (Nat.le_refl _) (.cells #[.string k] 9))).row g5 (fun b hb => by have := far5 b hb; omega)).row (grownBy_setCell w5 gX 1 (.slice ao5 (A ++ [k]).length c5)) (fun b hb => by injection hb with hb; omega))
          have KZ := Lib.hid ((blk_row ((blk_grown (w := wr.drew) hK.out h1 (by omega)).alloc (.cells #[.string k] 9)) g5 (row_ne O7.out (by omega))).other (a := ⟨gX, 1, none⟩) (.slice ao5 (A ++ [k]).length c5) (by show w.heap.size ≠ gX; omega))
          have XZ : Hid (Blk (w5.setCell ⟨gX, 1, none⟩ (.slice ao5 (A ++ [k]).length c5)) gX [.bool o, .slice ao5 (A ++ [k]).length c5, .slice none 0 0] 30) := by show Blk _ _ _ _; have := X8.out.set 1 (.slice ao5 (A ++ [k]).length c5); simpa using this
          have OZ : Hid (OwnG 9 1 cellsS (gX + 1) (w5.setCell ⟨gX, 1, none⟩ (.slice ao5 (A ++ [k]).length c5)) (A ++ [k]) (.slice ao5 (A ++ [k]).length c5)) := ownG_set o6 (Nat.lt_succ_self _) _
          have BZ : Hid (Below w.heap.size w (w5.setCell ⟨gX, 1, none⟩ (.slice ao5 (A ++ [k]).length c5))) := by
            have q1 : Below w.heap.size w w4 := (hB.out.drew).grown h1 hB.out.size (fun b hb => by injection hb with hb; omega)
            have q2 := (q1.alloc q1.size (.cells #[.string k] 9)).grown g5 (q1.alloc q1.size (.cells #[.string k] 9)).size (fun b hb => by have := far5 b hb; omega)
            exact q2.setCell (p := ⟨gX, 1, none⟩) (by show w.heap.size ≤ gX; omega) _
          have IZ := Lib.hid (list_step1 HH.out HN.out HK.out hin)
          rw [← HKK.out] at IZ
          have LZ : Hid ((A ++ [k]).length = i + 1) := by show _ = _; rw [← hP.out]; simp
          have hL : (A ++ [k]).length = A.length + 1 := by simp
          rw [hL] at BZ KZ XZ RZ OZ
          clear o5 o6 g5 R7 h1 far5 O7 X8 X9 X7 e1 e2 z1 z2 z3 p1 p2 N9 hL kc hbq hnq od
          go_wp2_with fail
          go_roundw
          case rel => exact ⟨i + 1, l3, d3, A ++ [k], _, ao3, m3, c3, by omega, by go_num, BZ, KZ, XZ, RZ, OZ, LZ, IZ⟩
          case measure => simp [RowKit.intOf]; omega
      · obtain rfl : i = n := by omega
        obtain ⟨va, ca, rfl⟩ := ownG_slice hO.out
        obtain ⟨lA, hlA⟩ : ∃ lA, lA = lr := ⟨_, rfl⟩
        rw [← hlA] at HN hR
        have FA := Lib.hid (fun b hb => (hO.out.lt b hb).2 : ∀ b, (Value.slice va A.length ca).ownBlock = some b → b < wr.heap.size)
        obtain ⟨gM, hgM⟩ : ∃ gM, gM = wr.heap.size := ⟨_, rfl⟩
        have GXM : Hid (gX < gM) := by show _ < _; rw [hgM]; exact hX.out.lt
        have SM : Hid (gM ≤ wr.heap.size) := by show _ ≤ _; omega
        rw [← hgM] at FA
        clear hI hgM hlA c0 c1 x0 x1 x2 y0 y1 y2 f0 f1 f2
        go_wp2_with fail
        go_loopw [8] (fun vi wr => ∃ (j : Nat) (lr : List UInt8) (bad : Bool) (P : List Int) (v : Value) (ar : Option Addr) (mr cr : Nat), j ≤ i ∧ vi = .int .i64 j ∧ Hid (Below w.heap.size w wr) ∧ Hid (Blk wr w.heap.size [.bool false, .slice none 0 0, .slice none 0 0] 30) ∧ Hid (Blk wr gX [.bool o, .slice va A.length ca, v] 30) ∧ Hid (Rd wr (w.heap.size + 1) lr bad ar mr cr) ∧ Hid (OwnG 9 1 cellsS (gX + 1) wr A (.slice va A.length ca)) ∧ Hid (OwnG 3 1 cellsI gM wr P v) ∧ Hid (P.length = j) ∧ Hid (gM ≤ wr.heap.size) ∧ Hid (if bad = true then pList l = none else pRow (pNum 1024) j lA = some (P, lr))) (fun vi _ => i - (RowKit.intOf vi).toNat)
        case atStart => exact ⟨0, lA, false, [], .slice none 0 0, ar, mr, cr, by omega, rfl, hB.out, hK.out, hX.out, hR.out, hO.out, World.ownsRow_nil _ _ _ _, rfl, SM.out, rfl⟩
        case round =>
          clear hB hK hX hR hO SM
          obtain ⟨j, lr, bad, P, v, ar, mr, cr, hj, rfl, hB, hK, hX, hR, hO, hS, hP2, hM, hI⟩ := hrel
          have c0 := hR.out.blk.cell 0
          have c1 := hR.out.blk.cell 1
          have x0 := hX.out.cell 0
          have x1 := hX.out.cell 1
          have x2 := hX.out.cell 2
          have y0 := hK.out.cell 0
          have y1 := hK.out.cell 1
          have y2 := hK.out.cell 2
          have f0 := hK.out.frozen 0
          have f1 := hK.out.frozen 1
          have f2 := hK.out.frozen 2
          simp only [List.getElem?_cons_zero, List.getElem?_cons_succ] at c0 c1 x0 x1 x2 y0 y1 y2
          cases bad with
          | true =>
            have HN := Lib.hid hI.out
            rw [if_pos rfl] at HN
            have HE : Hid (getList ltB nameOk l = none) := by show _ = _; rw [getList, whole, HN.out]
            clear hI hO hS hP hP2 hR
            by_cases hji : j < i
            · have q2 : (j : Int) < (i : Int) := by omega
              go_wp2_with fail
              exact bodyPost_ret (results_row_tmp rfl _ _ w.heap.size 30 _ _ _ rfl rfl (set_three hK.out _ _ _) Tryz.underlying30 rfl size30') rfl ⟨below_set3 hB.out _ _ _, .inl ⟨HE.out, rfl⟩⟩
            · obtain rfl : j = i := by omega
              go_wp2_with fail
              exact bodyPost_ret (results_row_tmp rfl _ _ w.heap.size 30 _ _ _ rfl rfl (set_three hK.out _ _ _) Tryz.underlying30 rfl size30') rfl ⟨below_set3 hB.out _ _ _, .inl ⟨HE.out, rfl⟩⟩
          | false =>
            have HN2 := Lib.hid hI.out
            rw [if_neg (by decide)] at HN2
            by_cases hji : j < i
            · have q2 : (j : Int) < (i : Int) := by omega
              have CK := Lib.hid (rnum_any (w.heap.size + 1) lr false ar mr cr 1024 wr.drew (hR.out.grown (Below.refl _ wr).drew) (by decide))
              rw [show ((1024 : Nat) : Int) = 1024 from rfl] at CK
              obtain ⟨⟨k, l3, d3⟩, hs3⟩ : ∃ z : Int × List UInt8 × Bool, z = stepR (pNum 1024) 0 lr false := ⟨_, rfl⟩
              rw [← hs3] at CK
              simp only at CK
              have HK := Lib.hid hs3
              have p1 : P.length + 1 ≤ 1000000 := by rw [hP2.out]; omega
              have GL := hX.out.lt
              have GX0 := G0.out
              have GM0 := GXM.out
              have GM1 := hM.out
              clear hs3 hI
              go_wp2_with fail
              have fx := hX.out.frozen 2
              have z1 : wr.drew.cell? ⟨gX, 2, none⟩ = some v := x2
              go_region_law (first
                | (go_simp
                   go_at_call 46; (with_reducible refine CK.out.mono ?_); rintro e w4 ⟨rfl, h1, ao3, m3, c3, R7⟩
                   have X7 := Lib.hid (blk_grown (w := wr.drew) hX.out h1 (by omega))
                   have X9 := Lib.hid (X7.out.alloc (.cells #[.int .i64 k] 3))
                   have N9 := Lib.hid (ownG_new w4 k w4.heap.size rfl)
                   have O7 := Lib.hid (World.ownsRow.alloc (row_kept (w := wr.drew) hS.out h1 (by omega)) (.cells #[.int .i64 k] 3))
                   have p2 : gM ≤ (w4.alloc (.cells #[.int .i64 k] 3)).heap.size := by have : wr.heap.size ≤ w4.heap.size := h1.size; simp; omega
                   have z2 := X7.out.cell 2
                   have z3 := X9.out.cell 2
                   simp only [List.getElem?_cons_zero, List.getElem?_cons_succ] at z2 z3)
                | (refine step_one (t := 28) (e := 3) rfl (.tmp 51) (.tmp 54) rfl Tryz.underlying28 infoI rfl (by decide) gM v P.length (P.flatMap cellsI) (by simp [Act.eval]) O7.out w4.heap.size [.int .i64 k] (by simp [Act.eval]) N9.out rfl cells_oneI p1 (by decide) p2 ?_; intro v5 w5 o5 g5
                   have o6 := ownG_snoc o5
                   obtain ⟨ao5, c5, rfl⟩ := ownG_slice o6
                   have X8 := Lib.hid (blk_row X9.out g5 (row_ne O7.out GM0))
                   have e1 := X8.out.cell 2
                   have e2 := X8.out.frozen 2
                   simp only [List.getElem?_cons_zero, List.getElem?_cons_succ] at e1))
              all_goals
                have far5 : ∀ b, v.ownBlock = some b → gM ≤ b := fun b hb => (O7.out.lt b hb).1
                have RZ := Lib.hid (((R7.grown ((Below.refl _ w4).alloc (Nat.le_refl _) (.cells #[.int .i64 k] 3))).row g5 (fun b hb => by have := far5 b hb; omega)).row (grownBy_setCell w5 gX 2 (.slice ao5 (P ++ [k]).length c5)) (fun b hb => by injection hb with hb; omega))
                have KZ := Lib.hid ((blk_row ((blk_grown (w := wr.drew) hK.out h1 (by omega)).alloc (.cells #[.int .i64 k] 3)) g5 (row_ne O7.out (by omega))).other (a := ⟨gX, 2, none⟩) (.slice ao5 (P ++ [k]).length c5) (by show w.heap.size ≠ gX; omega))
                have XZ : Hid (Blk (w5.setCell ⟨gX, 2, none⟩ (.slice ao5 (P ++ [k]).length c5)) gX [.bool o, .slice va A.length ca, .slice ao5 (P ++ [k]).length c5] 30) := by show Blk _ _ _ _; have := X8.out.set 2 (.slice ao5 (P ++ [k]).length c5); simpa using this
                have OZ : Hid (OwnG 3 1 cellsI gM (w5.setCell ⟨gX, 2, none⟩ (.slice ao5 (P ++ [k]).length c5)) (P ++ [k]) (.slice ao5 (P ++ [k]).length c5)) := ownG_set o6 GM0 _
                have AZ : Hid (OwnG 9 1 cellsS (gX + 1) (w5.setCell ⟨gX, 2, none⟩ (.slice ao5 (P ++ [k]).length c5)) A (.slice va A.length ca)) := by
                  have q1 := World.ownsRow.alloc (row_kept (w := wr.drew) hO.out h1 (by omega)) (.cells #[.int .i64 k] 3)
                  exact ownG_set (rowOwn_kept q1 g5 (fun b c hb hc => by have := FA.out b hb; have := far5 c hc; omega)) (Nat.lt_succ_self _) _
                have BZ : Hid (Below w.heap.size w (w5.setCell ⟨gX, 2, none⟩ (.slice ao5 (P ++ [k]).length c5))) := by
                  have q1 : Below w.heap.size w w4 := (hB.out.drew).grown h1 hB.out.size (fun b hb => by injection hb with hb; omega)
                  have q2 := (q1.alloc q1.size (.cells #[.int .i64 k] 3)).grown g5 (q1.alloc q1.size (.cells #[.int .i64 k] 3)).size (fun b hb => by have := far5 b hb; omega)
                  exact q2.setCell (p := ⟨gX, 2, none⟩) (by show w.heap.size ≤ gX; omega) _
                have MZ : Hid (gM ≤ (w5.setCell ⟨gX, 2, none⟩ (.slice ao5 (P ++ [k]).length c5)).heap.size) := by
                  show _ ≤ _
                  have := g5.size
                  simp
                  omega
                have IZ := Lib.hid (list_step2 HH.out HN.out HN2.out HK.out hji)
                have LZ : Hid ((P ++ [k]).length = j + 1) := by show _ = _; rw [← hP2.out]; simp
                have hL : (P ++ [k]).length = P.length + 1 := by simp
                rw [hL] at BZ KZ XZ RZ OZ AZ MZ
                clear o5 o6 g5 R7 h1 far5 O7 X8 X9 X7 e1 e2 z1 z2 z3 hL p1 p2 N9
                go_wp2_with fail
                go_roundw
                case rel => exact ⟨j + 1, l3, d3, P ++ [k], _, ao3, m3, c3, by omega, by go_num, BZ, KZ, XZ, RZ, AZ, OZ, LZ, MZ, IZ⟩
                case measure => simp [RowKit.intOf]; omega
            · obtain rfl : j = i := by omega
              have HR : Hid (pList l = some (⟨o, A, P⟩, lr)) := by show _ = _; rw [HH.out.2 HN.out.1, HN.out.2]; simp only; rw [HN2.out]
              obtain ⟨aq, cq, hqe, hq1, hq2, _, hq3⟩ := ownG_srw hO.out
              injection hqe with hqa hqb hqc
              subst hqa
              subst hqc
              obtain ⟨ap, cp, rfl, hp1, hp2, _, hp3⟩ := ownG_zrw hS.out
              by_cases hm : 0 < mr
              · have t0 : decide (0 < mr) = true := by simpa using hm
                have t1 : decide ((0 : Int) < (mr : Int)) = true := by simp; omega
                have hne : lr ≠ [] := fun h => by have := hR.out.len; rw [h] at this; simp at this; omega
                have HE : Hid (getList ltB nameOk l = none) := by
                  show _ = _
                  rw [getList, whole, HR.out]
                  simp only
                  rw [if_neg (fun h => hne h.1)]
                clear hI hm hq1 hq2 hq3 hqb hp1 hp2 hp3
                go_wp2_with fail
                exact bodyPost_ret (results_row_tmp rfl _ _ w.heap.size 30 _ _ _ rfl rfl (set_three hK.out _ _ _) Tryz.underlying30 rfl size30') rfl ⟨below_set3 hB.out _ _ _, .inl ⟨HE.out, rfl⟩⟩
              · have hm0 : mr = 0 := by omega
                subst hm0
                have hnil : lr = [] := List.eq_nil_of_length_eq_zero hR.out.len
                have RO := Lib.hid (listok_any o va ap A P A.length ca P.length cp wr hq3 rfl hq1 hq2 hp3 rfl hp1 hp2)
                clear hI hm hp3 hq1 hq2 hq3 hqb hp1 hp2
                go_wp2_with fail
                refine RO.out.mono ?_
                rintro e w4 ⟨⟨b, rfl, hbb⟩, hb4⟩
                have K7 := Lib.hid (hK.out.low hb4)
                have X7 := Lib.hid (hX.out.low hb4)
                have B7 := Lib.hid (below_chain hB.out hb4)
                have O7 := Lib.hid (ownG_below hS.out hb4)
                have A7 := Lib.hid (ownG_below hO.out hb4)
                have HBB := Lib.hid hbb
                have GX0 := G0.out
                have GM0 := GXM.out
                clear c0 c1 x0 x1 x2 y0 y1 y2 f0 f1 f2 hbb hb4
                have y0 := K7.out.cell 0
                have y1 := K7.out.cell 1
                have y2 := K7.out.cell 2
                have f0 := K7.out.frozen 0
                have f1 := K7.out.frozen 1
                have f2 := K7.out.frozen 2
                have x0 := X7.out.cell 0
                have x1 := X7.out.cell 1
                have x2 := X7.out.cell 2
                simp only [List.getElem?_cons_zero, List.getElem?_cons_succ] at x0 x1 x2 y0 y1 y2
                have gx := X7.out.lt
                cases b with
                | false =>
                  have HE : Hid (getList ltB nameOk l = none) := by
                    show _ = _
                    rw [getList, whole, HR.out]
                    simp only
                    rw [if_neg (fun h => by have := HBB.out.2 h.2; cases this)]
                  go_wp2_with fail
                  exact bodyPost_ret (results_row_tmp rfl _ _ w.heap.size 30 _ _ _ rfl rfl (set_three K7.out _ _ _) Tryz.underlying30 rfl size30') rfl ⟨below_set3 B7.out _ _ _, .inl ⟨HE.out, rfl⟩⟩
                | true =>
                  have HE : Hid (getList ltB nameOk l = some ⟨o, A, P⟩) := by
                    show _ = _
                    rw [getList, whole, HR.out]
                    simp only
                    rw [if_pos ⟨hnil, HBB.out.1 rfl⟩]
                  have AZ := OwnG.low (ownG_set (ownG_set (ownG_set A7.out (show w.heap.size < gX + 1 by omega) (i := 0) (.bool o)) (show w.heap.size < gX + 1 by omega) (i := 1) (.slice va A.length ca)) (show w.heap.size < gX + 1 by omega) (i := 2) (.slice ap P.length cp)) (show w.heap.size ≤ gX + 1 by omega)
                  have SZ := OwnG.low (ownG_set (ownG_set (ownG_set O7.out (show w.heap.size < gM by omega) (i := 0) (.bool o)) (show w.heap.size < gM by omega) (i := 1) (.slice va A.length ca)) (show w.heap.size < gM by omega) (i := 2) (.slice ap P.length cp)) (show w.heap.size ≤ gM by omega)
                  go_wp2_with fail
                  exact bodyPost_ret (results_row_tmp rfl _ _ w.heap.size 30 _ _ _ rfl rfl (set_three K7.out _ _ _) Tryz.underlying30 rfl size30') rfl ⟨below_set3 B7.out _ _ _, .inr ⟨⟨o, A, P⟩, _, _, HE.out, rfl, AZ, SZ⟩⟩
end Go.Proofs.YtpjgkboafmebbaaGreatDoor.Sh
