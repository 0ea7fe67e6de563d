/-
  THE STATEMENT ObjTables (P8.1, P8.3): of every page and root, which bytes they are, and of all bytes, which page and root they are, as the document has it; what came in reads behind the call as before.
  Conditions: none but what the row lists.
-/
import Derived.Test.YtpjgkboafmebbaaGreatDoorRi
import Derived.StillTailTactics
import Derived.BigQuiet
import Derived.Deep.QuietTactic
import Derived.Test.YtpjgkboafmebbaaGreatDoorOc
import Derived.Test.YtpjgkboafmebbaaGreatDoorOl
import Derived.Laws.ResultCell
import Derived.Test.YtpjgkboafmebbaaGreatDoorOu
import Derived.Test.YtpjgkboafmebbaaGreatDoorCards
import Derived.Test.YtpjgkboafmebbaaGreatDoorWl
import Derived.Test.YtpjgkboafmebbaaGreatDoorOs
namespace Go.Proofs.YtpjgkboafmebbaaGreatDoor.Sh
open Go.RowKit Go.Lib Lb
attribute [local irreducible] Go.wpStill Go.stOp Go.Region.wanted
set_option maxHeartbeats 2000000 in
set_option maxRecDepth 100000 in
theorem pageok_any (an ak : Option Addr) (a : List Int) (k : List ByteArray) (n q cn ck : Nat) (w : World) (h1 : Zrw w an a) (h2 : Srw w ak k) (ha : a.length = n) (hk : k.length = q) (hc : n ≤ cn) (hcc : cn ≤ 9223372036854775807) (hd : q ≤ ck) (_ : ck ≤ 9223372036854775807) (hsz : ∀ s ∈ k, s.size ≤ 9223372036854775807) :
    Calls Tryz.prog 53 #[.agg #[.slice an n cn, .slice ak q ck]] w (Tells w (OkPage ⟨a, k⟩)) := by
  have H1 := Lib.hid h1
  have H2 := Lib.hid h2
  have HA := Lib.hid ha
  have HK := Lib.hid hk
  have HZ := Lib.hid hsz
  have CW := Lib.hid (fun y W => within_any y 1 1024 W)
  have B0 : Hid (Below w.heap.size w (w.alloc (.cells #[.slice an n cn, .slice ak q ck] 33))) := (Below.refl _ w).alloc (Nat.le_refl _) _
  have K0 : Hid (Blk (w.alloc (.cells #[.slice an n cn, .slice ak q ck] 33)) w.heap.size [.slice an n cn, .slice ak q ck] 33) := Blk.new w [.slice an n cn, .slice ak q ck] 33 _ rfl
  have c0 := K0.out.cell 0
  have c1 := K0.out.cell 1
  simp only [List.getElem?_cons_zero, List.getElem?_cons_succ] at c0 c1
  clear h1 h2 ha hk hsz
  by_cases h32 : 32 < n
  · have t1 : decide (32 < n) = true := by simp; omega
    have t2 : decide ((32 : Int) < (n : Int)) = true := by simp; omega
    have HF : Hid (¬ OkPage ⟨a, k⟩) := fun h0 => by have := h0.most; have := HA.out; simp only at *; omega
    clear h32
    go_enter Tryz.func53, Tryz.ntmps53
    go_wp2_with fail
    go_ret
    exact ⟨⟨false, rfl, by simp [HF.out]⟩, B0.out⟩
  · have t1 : decide (32 < n) = false := by simp; omega
    have t2 : decide ((32 : Int) < (n : Int)) = false := by simp; omega
    have H32 := Lib.hid (Nat.le_of_not_lt h32)
    clear h32
    by_cases hq : q = n
    · subst hq
      have t3 : ((q : Int) != (q : Int)) = false := by simp
      go_enter Tryz.func53, Tryz.ntmps53
      go_wp2_with fail
      generalize w.alloc (.cells #[.slice an q cn, .slice ak q ck] 33) = wa at *
      go_loopw [3] (fun vi wr => ∃ i : Nat, i ≤ q ∧ vi = .int .i64 i ∧ Hid (Below w.heap.size w wr) ∧ Hid (Blk wr w.heap.size [.slice an q cn, .slice ak q ck] 33) ∧ Hid (PageTo a k i)) (fun vi _ => q - (RowKit.intOf vi).toNat)
      case atStart => exact ⟨0, by omega, rfl, B0.out, K0.out, pageTo_zero _ _⟩
      case round =>
        obtain ⟨i, hi, rfl, hB, hK, hT⟩ := hrel
        have c0 := hK.out.cell 0
        have c1 := hK.out.cell 1
        simp only [List.getElem?_cons_zero, List.getElem?_cons_succ] at c0 c1
        by_cases hin : i < q
        · have q1 : (0 : Int) ≤ (i : Int) := by omega
          have q2 : (i : Int) < (q : Int) := by omega
          obtain ⟨b, o, rfl, hb, hcell⟩ := zrw_cell H1.out i (by have := HA.out; omega)
          obtain ⟨b2, o2, s, rfl, hb2, hs, hcell2⟩ := srw_cell H2.out i (by have := HK.out; omega)
          obtain ⟨y, hy⟩ : ∃ y, a[i]? = some y := ⟨_, List.getElem?_eq_getElem (by have := HA.out; omega)⟩
          have d1 : wr.cell? ⟨b, o + i, none⟩ = some (.int .i64 y) := (hB.out.cell (p := ⟨b, o + i, none⟩) hb).trans (hcell i y hy)
          have d2 : wr.cell? ⟨b2, o2 + i, none⟩ = some (.string s) := (hB.out.cell (p := ⟨b2, o2 + i, none⟩) hb2).trans hcell2
          have d3 := Lib.hid (fun j z (hz : a[j]? = some z) => (hB.out.cell (p := ⟨b, o + j, none⟩) hb).trans (hcell j z hz))
          have HY := Lib.hid hy
          have HS := Lib.hid hs
          have CY := Lib.hid (fun W => CW.out y W)
          have ck := fun W => refcheck_key s W (HZ.out s (List.mem_of_getElem? hs))
          clear hy hs hcell hcell2 hb hb2 c0 c1
          have c0 := hK.out.cell 0
          have c1 := hK.out.cell 1
          simp only [List.getElem?_cons_zero, List.getElem?_cons_succ] at c0 c1
          by_cases hw : within y 1 1024
          rotate_left
          · have hwt : decide (within y 1 1024) = false := by simpa using hw
            rw [hwt] at CY
            have HW := Lib.hid hw
            have HF : Hid (¬ OkPage ⟨a, k⟩) := fun h0 => HW.out (h0.nums y (List.mem_of_getElem? HY.out))
            clear hw hwt CW ck d3
            go_wp2_with fail
            go_quiet ((go_at_call 82; with_reducible exact Calls.quiet_of_same (CY.out _)))
            generalize hwv : wr.drewN nq = wv at *
            have hB2 : Hid (Below w.heap.size w wv) := by show Below _ _ _; rw [← hwv]; exact below_drewN hB.out _
            clear hwv
            go_wp2_with fail
            go_ret
            exact ⟨⟨false, rfl, by simp [HF.out]⟩, hB2.out⟩
          · have hwt : decide (within y 1 1024) = true := by simpa using hw
            rw [hwt] at CY
            have HW := Lib.hid hw
            clear hw hwt CW
            by_cases h0 : 0 < i
            rotate_left
            · have t6 : decide (0 < i) = false := by simpa using h0
              have t7 : decide ((0 : Int) < (i : Int)) = false := by simp; omega
              have I0 := Lib.hid h0
              have CK := Lib.hid ck
              clear h0 d3 ck
              go_wp2_with fail
              refine wp_region_still_tail 31 (by kernel_rfl) (by kernel_rfl) ?_
              simp only [List.take_succ_cons, List.take_zero, List.drop_succ_cons, List.drop_zero]
              repeat still_step
              still_call (CY.out _)
              repeat still_step
              refine wpStill_nil ?_
              change wpList _ _ _ _ _ wr.drew
              have hBd := Lib.hid hB.out.drew
              have hKd : Hid (Blk wr.drew w.heap.size [.slice (some ⟨b, o, none⟩) q cn, .slice (some ⟨b2, o2, none⟩) q ck] 33) := hK.out.drew
              clear c0 c1 d1 d2 hB hK
              generalize wr.drew = wd at *
              cases hkb : (keyBytes s.data.toList).isSome with
              | true =>
                rw [hkb] at CK
                have HT2 : Hid (PageTo a k (i + 1)) := pageTo_more hT.out HY.out HS.out HW.out hkb (fun j z hj => by have := I0.out; omega)
                go_wp2_with fail
                refine (CK.out _).mono ?_
                rintro e w2 ⟨rfl, b1⟩
                have BZ := Lib.hid (below_chain hBd.out b1)
                have KZ := Lib.hid (hKd.out.low b1)
                clear CK b1
                go_wp2_with fail
                go_roundw
                case rel => exact ⟨i + 1, by omega, by go_num, BZ, KZ, HT2⟩
                case measure => simp [RowKit.intOf]; omega
              | false =>
                rw [hkb] at CK
                have HF : Hid (¬ OkPage ⟨a, k⟩) := fun h0 => by have := h0.keys s (List.mem_of_getElem? HS.out); unfold keyOk at this; rw [hkb] at this; cases this
                go_wp2_with fail
                refine (CK.out _).mono ?_
                rintro e w2 ⟨rfl, b1⟩
                have BZ := Lib.hid (below_chain hBd.out b1)
                clear CK b1
                go_wp2_with fail
                go_ret
                exact ⟨⟨false, rfl, by simp [HF.out]⟩, BZ.out⟩
            · obtain ⟨j, hj⟩ : ∃ j, i = j + 1 := ⟨i - 1, by omega⟩
              obtain ⟨z, hz⟩ : ∃ z, a[j]? = some z := ⟨_, List.getElem?_eq_getElem (by have := HA.out; omega)⟩
              have d4 := d3.out j z hz
              have HZz := Lib.hid hz
              have CK := Lib.hid ck
              have t6 : decide (0 < i) = true := by simp; omega
              have t7 : decide ((0 : Int) < (i : Int)) = true := by simp; omega
              have w2 : IntKind.i64.wrap (j : Int) = (j : Int) := IntWalk.i64_in _ (by omega)
              have w4 : (i : Int) - 1 = (j : Int) := by omega
              have q3 : (0 : Int) ≤ (j : Int) := by omega
              have q4 : (j : Int) < (q : Int) := by omega
              have q5 : j < q := by omega
              have HJ := Lib.hid hj
              clear hj
              clear hz d3 ck h0
              by_cases hyz : y ≤ z
              · have t5 : decide (y ≤ z) = true := by simpa using hyz
                have HYZ := Lib.hid hyz
                have HF : Hid (¬ OkPage ⟨a, k⟩) := fun h0 => by have e := HJ.out; subst e; have h1 := su_next ltI a h0.rising j (by have := (List.getElem?_eq_some_iff.1 HY.out).1; exact this); rw [(List.getElem?_eq_some_iff.1 HY.out).2, (List.getElem?_eq_some_iff.1 HZz.out).2] at h1; have h2 : z < y := by simpa [ltI] using h1
                                                                have := HYZ.out; omega
                clear hyz CK
                go_wp2_with fail
                go_quiet ((go_at_call 82; with_reducible exact Calls.quiet_of_same (CY.out _)))
                generalize hwv : wr.drewN nq = wv at *
                have hB2 : Hid (Below w.heap.size w wv) := by show Below _ _ _; rw [← hwv]; exact below_drewN hB.out _
                clear hwv
                go_wp2_with fail
                go_ret
                exact ⟨⟨false, rfl, by simp [HF.out]⟩, hB2.out⟩
              · have t5 : decide (y ≤ z) = false := by simpa using hyz
                have HYZ := Lib.hid hyz
                clear hyz
                go_wp2_with fail
                refine wp_region_still_tail 31 (by kernel_rfl) (by kernel_rfl) ?_
                simp only [List.take_succ_cons, List.take_zero, List.drop_succ_cons, List.drop_zero]
                repeat still_step
                still_call (CY.out _)
                repeat still_step
                refine wpStill_nil ?_
                change wpList _ _ _ _ _ wr.drew
                have hBd := Lib.hid hB.out.drew
                have hKd : Hid (Blk wr.drew w.heap.size [.slice (some ⟨b, o, none⟩) q cn, .slice (some ⟨b2, o2, none⟩) q ck] 33) := hK.out.drew
                clear c0 c1 d1 d2 d4 hB hK
                generalize wr.drew = wd at *
                cases hkb : (keyBytes s.data.toList).isSome with
                | true =>
                  rw [hkb] at CK
                  have HT2 : Hid (PageTo a k (i + 1)) := by
                    show PageTo _ _ _
                    have e := HJ.out
                    subst e
                    exact pageTo_more hT.out HY.out HS.out HW.out hkb (rise_one HZz.out (by have := HYZ.out; omega))
                  go_wp2_with fail
                  refine (CK.out _).mono ?_
                  rintro e w2 ⟨rfl, b1⟩
                  have BZ := Lib.hid (below_chain hBd.out b1)
                  have KZ := Lib.hid (hKd.out.low b1)
                  clear CK b1
                  go_wp2_with fail
                  go_roundw
                  case rel => exact ⟨i + 1, by omega, by go_num, BZ, KZ, HT2⟩
                  case measure => simp [RowKit.intOf]; omega
                | false =>
                  rw [hkb] at CK
                  have HF : Hid (¬ OkPage ⟨a, k⟩) := fun h0 => by have := h0.keys s (List.mem_of_getElem? HS.out); unfold keyOk at this; rw [hkb] at this; cases this
                  go_wp2_with fail
                  refine (CK.out _).mono ?_
                  rintro e w2 ⟨rfl, b1⟩
                  have BZ := Lib.hid (below_chain hBd.out b1)
                  clear CK b1
                  go_wp2_with fail
                  go_ret
                  exact ⟨⟨false, rfl, by simp [HF.out]⟩, BZ.out⟩
        · obtain rfl : i = q := by omega
          go_wp2_with fail
          go_ret
          exact ⟨⟨true, rfl, by simp; exact pageTo_all (by rw [HA.out]; exact hT.out) (by rw [HA.out]; exact H32.out) (by rw [HA.out]; exact HK.out)⟩, hB.out⟩
    · have t3 : ((q : Int) != (n : Int)) = true := by simp; omega
      have t4 : (q == n) = false := by simp; omega
      have HF : Hid (¬ OkPage ⟨a, k⟩) := fun h0 => by have h1 := h0.same; have := HA.out; have := HK.out; simp only at h1; omega
      go_enter Tryz.func53, Tryz.ntmps53
      go_wp2_with fail
      go_ret
      exact ⟨⟨false, rfl, by simp [HF.out]⟩, B0.out⟩
end Go.Proofs.YtpjgkboafmebbaaGreatDoor.Sh
namespace Go.Proofs.YtpjgkboafmebbaaGreatDoor.Sh
open Go.RowKit Go.Lib Lb
set_option maxHeartbeats 4000000 in
set_option maxRecDepth 100000 in
theorem refputpage_any (an ak : Option Addr) (a : List Int) (k : List ByteArray) (n q cn ck : Nat) (w : World) (h1 : Zrw w an a) (h2 : Srw w ak k) (ha : a.length = n) (hk : k.length = q) (hc : n ≤ cn) (hcc : cn ≤ 9223372036854775807) (hd : q ≤ ck) (hdd : ck ≤ 9223372036854775807) (hsz : ∀ s ∈ k, s.size ≤ 9223372036854775807) :
    Calls Tryz.prog 24 #[.agg #[.slice an n cn, .slice ak q ck]] w (Gives w (OkPage ⟨a, k⟩) (pageL ⟨a, k⟩) 80) := by
  have H1 := Lib.hid h1
  have H2 := Lib.hid h2
  have HA := Lib.hid ha
  have HK := Lib.hid hk
  have HZ := Lib.hid hsz
  have B0 : Hid (Below w.heap.size w (w.alloc (.cells #[.slice an n cn, .slice ak q ck] 33))) := (Below.refl _ w).alloc (Nat.le_refl _) _
  have K0 : Hid (Blk (w.alloc (.cells #[.slice an n cn, .slice ak q ck] 33)) w.heap.size [.slice an n cn, .slice ak q ck] 33) := Blk.new w [.slice an n cn, .slice ak q ck] 33 _ rfl
  have RT := Lib.hid (pageok_any an ak a k n q cn ck (w.alloc (.cells #[.slice an n cn, .slice ak q ck] 33)) (h1.below B0.out) (h2.below B0.out) ha hk hc hcc hd hdd hsz)
  have c0 := K0.out.cell 0
  have c1 := K0.out.cell 1
  simp only [List.getElem?_cons_zero, List.getElem?_cons_succ] at c0 c1
  clear h1 h2 ha hk hsz
  go_enter Tryz.func24, Tryz.ntmps24
  go_wp2_with fail
  refine RT.out.mono ?_
  rintro e w1 ⟨⟨b, rfl, hbb⟩, hb1⟩
  have HBB := Lib.hid hbb
  have B1 : Hid (Below w.heap.size w w1) := below_chain B0.out hb1
  have K1 := Lib.hid (K0.out.low hb1)
  clear c0 c1 hbb hb1
  have c0 := K1.out.cell 0
  have c1 := K1.out.cell 1
  simp only [List.getElem?_cons_zero, List.getElem?_cons_succ] at c0 c1
  cases b with
  | false =>
    have HF : Hid (¬ OkPage ⟨a, k⟩) := fun h0 => by have := HBB.out.2 h0; cases this
    go_wp2_with fail
    go_ret2
    exact ⟨B1.out, .inr ⟨HF.out, rfl⟩⟩
  | true =>
    have HT : Hid (OkPage ⟨a, k⟩) := HBB.out.1 rfl
    have hn32 : n ≤ 32 := by have := HT.out.most; have := HA.out; simp only at *; omega
    have hqn : q = n := by have := HT.out.same; have := HA.out; have := HK.out; simp only at *; omega
    subst hqn
    have CN := Lib.hid (refnum_any (q : Int) (by omega) (by omega) w1)
    clear HBB RT K0 B0
    have G1 := Lib.hid (World.block_lt_of_cell? w1 _ c1)
    go_wp2_with fail
    refine CN.out.mono ?_
    rintro e w4 ⟨b2, v4, rfl, o4⟩
    have B4 := Lib.hid (below_chain B1.out b2)
    have K4 := Lib.hid (K1.out.low b2)
    have O4 : Hid (Own w4 (w.heap.size + 1) v4 (numL (q : Int))) := Own.low o4 G1.out
    have L4 : Hid ((numL (q : Int)).length ≤ 10) := (numL_len (q : Int)).2
    generalize hHD : numL (q : Int) = HD at *
    clear o4 b2 B1 K1 c0 c1 CN
    go_wp2_with fail
    go_loopw [4, 5] (fun vb vi wr => ∃ i : Nat, i ≤ q ∧ vi = .int .i64 i ∧ Hid (Below w.heap.size w wr) ∧ Hid (Blk wr w.heap.size [.slice an q cn, .slice ak q ck] 33) ∧ Hid (Own wr (w.heap.size + 1) vb (HD ++ (a.take i).flatMap numL)) ∧ Hid ((HD ++ (a.take i).flatMap numL).length ≤ 10 + 10 * i)) (fun _ vi _ => q - (RowKit.intOf vi).toNat)
    case atStart => exact ⟨0, by omega, rfl, B4.out, K4.out, by show Own _ _ _ _; simpa using O4.out, by show _ ≤ _; simpa using L4.out⟩
    case round =>
      obtain ⟨i, hi, rfl, hB, hK, hO, hL⟩ := hrel
      have c0 := hK.out.cell 0
      have c1 := hK.out.cell 1
      simp only [List.getElem?_cons_zero, List.getElem?_cons_succ] at c0 c1
      by_cases hin : i < q
      · obtain ⟨b, o, rfl, hb, hcell⟩ := zrw_cell H1.out i (by have := HA.out; omega)
        obtain ⟨x, hx⟩ : ∃ y, a[i]? = some y := ⟨_, List.getElem?_eq_getElem (by have := HA.out; omega)⟩
        have HX := Lib.hid hx
        have d1 : wr.cell? ⟨b, o + i, none⟩ = some (.int .i64 x) := (hB.out.cell (p := ⟨b, o + i, none⟩) hb).trans (hcell i x hx)
        have XW := HT.out.nums x (List.mem_of_getElem? hx)
        have CK := Lib.hid (refnum_any x (by unfold within at XW; omega) (by unfold within at XW; omega) wr)
        have q1 : (0 : Int) ≤ (i : Int) := by omega
        have q2 : (i : Int) < (q : Int) := by omega
        clear hx hcell hb XW
        go_wp2_with fail
        refine CK.out.mono ?_
        rintro e w2 ⟨b1, v2, rfl, o2⟩
        obtain ⟨g2, p2, rfl, z1, z2, z3, z4, z5⟩ := own_some o2 (numL_len x).1
        have O2 := Lib.hid (own_below hO.out b1)
        have B2 := Lib.hid (below_chain hB.out b1)
        have K2 := Lib.hid (hK.out.low b1)
        have HS : Hid ((a.take (i + 1)).flatMap numL = (a.take i).flatMap numL ++ numL x) := by
          show _ = _
          rw [List.take_add_one, HX.out]
          simp
        have Z5 := Lib.hid z5
        have KL := numL_len x
        obtain ⟨kl, hkl⟩ : ∃ kl, kl = numL x := ⟨_, rfl⟩
        rw [← hkl] at HS Z5 KL z3 ⊢
        obtain ⟨acc, hacc⟩ : ∃ acc, acc = HD ++ (a.take i).flatMap numL := ⟨_, rfl⟩
        rw [← hacc] at O2 hL
        have p3 : acc.length + kl.length ≤ 140737488355328 := by have := hL.out; omega
        have hL2 : Hid ((acc ++ kl).length ≤ 10 + 10 * (i + 1)) := by show _ ≤ _; rw [List.length_append]; have := hL.out; omega
        have HACC := Lib.hid hacc
        obtain ⟨kn, hkn⟩ : ∃ kn, kl.length = kn := ⟨_, rfl⟩
        have HKN := Lib.hid hkn
        rw [hkn] at p3 z3 ⊢
        clear o2 z5 hkl hacc hO hL b1 KL hkn
        go_wp2_with (at_builtin; refine wpl_app_len (t := 36) (e := 5) rfl (.tmp 21) (.tmp 27) rfl Tryz.underlying36 info5 (w.heap.size + 1) _ acc kl rfl O2.out (some ⟨g2, 0, none⟩) kn p2 rfl Z5.out (fun h => by cases h) HKN p3 K2.out.lt ?_; intro v' w' hown' hgrow)
        have B5 := Lib.hid (B2.out.grown hgrow B2.out.size (fun k hk => Nat.le_of_succ_le (O2.out.lt k hk).1))
        have K5 : Hid (Blk w' w.heap.size [.slice (some ⟨b, o, none⟩) q cn, .slice ak q ck] 33) := (hgrow.block _ K2.out.lt (own_ne O2.out (Nat.lt_succ_self _))).trans K2.out
        refine ⟨⟨i + 1, by omega, by go_num, B5.out, K5.out, ?_, ?_⟩, by simp [RowKit.intOf]; omega⟩
        · show Own _ _ _ _
          rw [HS.out, ← List.append_assoc, ← HACC.out]
          exact hown'
        · show _ ≤ _
          rw [HS.out, ← List.append_assoc, ← HACC.out]
          exact hL2.out
      · obtain rfl : i = q := by omega
        have HD2 : Hid (HD ++ (a.take i).flatMap numL = HD ++ a.flatMap numL) := by
          show _ = _
          rw [← HA.out, List.take_length]
        have hO2 := hO.out
        rw [HD2.out] at hO2
        have hL2 := hL.out
        rw [HD2.out] at hL2
        have hHD2 : HD ++ a.flatMap numL = HD ++ a.flatMap numL := rfl
        have O6 := Lib.hid hO2
        have L6 : Hid ((HD ++ a.flatMap numL).length ≤ 330) := by show _ ≤ _; omega
        have EQ : Hid (pageL ⟨a, k⟩ = (HD ++ a.flatMap numL) ++ k.flatMap keyL) := by
          show _ = _
          rw [pageL, HA.out, hHD, List.append_assoc]
        obtain ⟨E, hE⟩ : ∃ E, E = HD ++ a.flatMap numL := ⟨_, rfl⟩
        rw [← hE] at O6 L6 EQ
        clear hO2 hL2 hHD2 HD2 hO hL hE
        go_wp2_with fail
        go_loopw [4, 6] (fun vb vi wr => ∃ j : Nat, j ≤ i ∧ vi = .int .i64 j ∧ Hid (Below w.heap.size w wr) ∧ Hid (Blk wr w.heap.size [.slice an i cn, .slice ak i ck] 33) ∧ Hid (Own wr (w.heap.size + 1) vb (E ++ (k.take j).flatMap keyL)) ∧ Hid ((E ++ (k.take j).flatMap keyL).length ≤ 330 + 32 * j)) (fun _ vi _ => i - (RowKit.intOf vi).toNat)
        case atStart => exact ⟨0, by omega, rfl, hB, hK, by show Own _ _ _ _; simpa using O6.out, by show _ ≤ _; simpa using L6.out⟩
        case round =>
          obtain ⟨j, hj, rfl, hC, hJ, hP, hM⟩ := hrel
          have x0 := hJ.out.cell 0
          have x1 := hJ.out.cell 1
          simp only [List.getElem?_cons_zero, List.getElem?_cons_succ] at x0 x1
          by_cases hjn : j < i
          · obtain ⟨b, o, x, rfl, hb, hx, hcell⟩ := srw_cell H2.out j (by have := HK.out; omega)
            have HX := Lib.hid hx
            have d1 : wr.cell? ⟨b, o + j, none⟩ = some (.string x) := (hC.out.cell (p := ⟨b, o + j, none⟩) hb).trans hcell
            have CK := Lib.hid (refkey_any x wr (HZ.out x (List.mem_of_getElem? hx)))
            have X32 := Lib.hid (key_of x (HT.out.keys x (List.mem_of_getElem? hx))).1
            have q1 : (0 : Int) ≤ (j : Int) := by omega
            have q2 : (j : Int) < (i : Int) := by omega
            clear hx hcell hb
            go_wp2_with fail
            refine CK.out.mono ?_
            rintro e w2 ⟨b1, v2, rfl, o2⟩
            obtain ⟨g2, p2, rfl, z1, z2, z3, z4, z5⟩ := own_some o2 (by rw [X32.out]; decide)
            rw [X32.out] at z3
            have O2 := Lib.hid (own_below hP.out b1)
            have B2 := Lib.hid (below_chain hC.out b1)
            have K2 := Lib.hid (hJ.out.low b1)
            have p3 : (E ++ (k.take j).flatMap keyL).length + 32 ≤ 140737488355328 := by have := hM.out; omega
            have HS : Hid ((k.take (j + 1)).flatMap keyL = (k.take j).flatMap keyL ++ keyL x) := by
              show _ = _
              rw [List.take_add_one, HX.out]
              simp
            have Z5 := Lib.hid z5
            obtain ⟨kl, hkl⟩ : ∃ kl, kl = keyL x := ⟨_, rfl⟩
            rw [← hkl] at HS X32 Z5 ⊢
            obtain ⟨acc, hacc⟩ : ∃ acc, acc = E ++ (k.take j).flatMap keyL := ⟨_, rfl⟩
            rw [← hacc] at O2 hM p3
            have hL2 : Hid ((acc ++ kl).length ≤ 330 + 32 * (j + 1)) := by show _ ≤ _; rw [List.length_append, X32.out]; have := hM.out; omega
            have HACC := Lib.hid hacc
            rw [X32.out]
            clear o2 z5 hkl hacc hP hM b1
            go_wp2_with (at_builtin; refine wpl_app_len (t := 36) (e := 5) rfl (.tmp 36) (.tmp 42) rfl Tryz.underlying36 info5 (w.heap.size + 1) _ acc kl rfl O2.out (some ⟨g2, 0, none⟩) 32 p2 rfl Z5.out (fun h => by cases h) X32 p3 K2.out.lt ?_; intro v' w' hown' hgrow)
            have B5 := Lib.hid (B2.out.grown hgrow B2.out.size (fun k hk => Nat.le_of_succ_le (O2.out.lt k hk).1))
            have K5 : Hid (Blk w' w.heap.size [.slice an i cn, .slice (some ⟨b, o, none⟩) i ck] 33) := (hgrow.block _ K2.out.lt (own_ne O2.out (Nat.lt_succ_self _))).trans K2.out
            refine ⟨⟨j + 1, by omega, by go_num, B5.out, K5.out, ?_, ?_⟩, by simp [RowKit.intOf]; omega⟩
            · show Own _ _ _ _
              rw [HS.out, ← List.append_assoc, ← HACC.out]
              exact hown'
            · show _ ≤ _
              rw [HS.out, ← List.append_assoc, ← HACC.out]
              exact hL2.out
          · obtain rfl : j = i := by omega
            have HE : Hid (E ++ (k.take j).flatMap keyL = pageL ⟨a, k⟩) := by
              show _ = _
              rw [EQ.out, List.take_of_length_le (by rw [HK.out]; exact Nat.le_refl _)]
            go_wp2_with fail
            go_ret2
            exact ⟨hC.out, .inl ⟨HT.out, _, rfl, by rw [← HE.out]; exact Own.low hP.out (Nat.le_succ _)⟩⟩
end Go.Proofs.YtpjgkboafmebbaaGreatDoor.Sh
namespace Go.Proofs.YtpjgkboafmebbaaGreatDoor.Sh
open Go.RowKit Go.Lib Lb

section
variable {P : Program} {t e : TypeId}
/-- one element appended to a row of the call's own, as one step of a region that draws -/
theorem step_one {w : World} {ops : Array Oper} {o : Oper} {a : Act} {K : Act → World → Prop} {Q : Exit → Act → World → Prop} {E : Prop} (hgd : o.guard = none) (s x : Operand)
    (ho : o.op = .call { callee := .builtin .append, args := #[s, x], argTypes := #[t, t] })
    (ht : P.underlying t = some (.slice e)) {z : Value} {size bytes : Nat} (hinf : (P.info? e).map (fun i => (i.zero, i.size, i.bytes)) = some (some z, size, bytes)) (hzs : z.cells.size = size) (hsz : 0 < size)
    (base : Nat) (v : Value) (n : Nat) (xs : List Value) (hs : a.eval s = v) (hown : w.ownsRow base e size v n xs)
    (g : Nat) (cs : List Value) (hx : a.eval x = .slice (some ⟨g, 0, none⟩) 1 1) (hb : Blk w g cs e) (hl : cs.length = size) (h1 : ∀ u ∈ cs, u.oneCell' = true)
    (hn : n + 1 ≤ 1000000) (hby : bytes ≤ 1000) (hbase : base ≤ w.heap.size)
    (h : ∀ v' w', w'.ownsRow base e size v' (n + 1) (xs ++ cs) → w.grownBy w' v.ownBlock → K (a.put o.dst v') w') :
    if Region.wanted o (yielded ops a.tmps) = true then Oper.wp P o a w K Q else E := by
  have hw : Region.wanted o (yielded ops a.tmps) = true := by simp [Region.wanted, hgd]
  rw [if_pos hw]
  obtain ⟨i0, hi, hz0, hz1, hz2⟩ := info_parts hinf
  have hmul : (n + 1) * bytes ≤ 1000000 * 1000 := Nat.mul_le_mul hn hby
  refine wp_append_own w s x t ho base e i0 z size bytes ht hi hz0 hz1 hz2 hzs hsz v n xs hs hown ⟨g, 0, none⟩ 1 1 cs hx (by omega) (fun j u hj => ?_) h1 (by unfold maxLen; omega) (by omega) hbase (fun v' w' h2 h3 _ => h v' w' h2 h3)
  rw [WideShapes.add_plain, Nat.zero_add, hb.cell]
  exact hj
end
/-- what the reader of a page gives -/
def GetsPage (w : World) (l : List UInt8) (e : Ending) (w' : World) : Prop :=
  Below w.heap.size w w' ∧ ((getPage l = none ∧ e = .returned (.tuple #[.agg #[.slice none 0 0, .slice none 0 0], .int .i64 80])) ∨
    ∃ x u v, getPage l = some x ∧ e = .returned (.tuple #[.agg #[u, v], .int .i64 0]) ∧ OwnG 3 1 cellsI w.heap.size w' x.nums u ∧ OwnS w' w.heap.size v x.keys)
theorem page_head (l l1 : List UInt8) (n : Nat) (d1 : Bool) (h1 : stepR (pNum 32) 0 l false = ((n : Int), l1, d1)) :
    (d1 = true → pPage l = none) ∧ (d1 = false → pPage l = match pRow (pNum 1024) n l1 with | none => none | some (a, r) => match pRow pKey n r with | none => none | some (k, s) => some (⟨a, k⟩, s)) := by
  unfold pPage pMap pSeq
  constructor
  · intro hd
    rw [step_bad (p := pNum 32) (z := 0) (l := l) (by rw [h1]; exact hd)]
    rfl
  · intro hd
    have k1 := (step_ok (p := pNum 32) (z := 0) (l := l) (b := false) (by rw [h1]; exact hd)).2
    rw [h1] at k1
    rw [k1]
    simp only [Int.toNat_natCast]
    cases pRow (pNum 1024) n l1 with
    | none => rfl
    | some u =>
      obtain ⟨a, r⟩ := u
      simp only
      cases pRow pKey n r with
      | none => rfl
      | some u => rfl
def PHead (l l1 : List UInt8) (n : Nat) (d1 : Bool) : Prop := (d1 = true → pPage l = none) ∧ (d1 = false → pPage l = match pRow (pNum 1024) n l1 with | none => none | some (a, r) => match pRow pKey n r with | none => none | some (k, s) => some (⟨a, k⟩, s))
theorem page_step1 {l l1 lr l3 : List UInt8} {n i : Nat} {d1 d3 : Bool} {A : List Int} {k : Int} (HH : PHead l l1 n d1)
    (HN : d1 = false ∧ pRow (pNum 1024) i l1 = some (A, lr)) (HK : (k, l3, d3) = stepR (pNum 1024) 0 lr false) (hin : i < n) : if d3 = true then pPage l = none else d1 = false ∧ pRow (pNum 1024) (i + 1) l1 = some (A ++ [k], l3) := by
  cases d3 with
  | true =>
    rw [if_pos rfl, HH.2 HN.1, row_none (pNum 1024) l1 (i + 1) n (by rw [row_snoc, HN.2]; simp only; rw [step_bad (p := pNum 1024) (z := 0) (l := lr) (by rw [← HK])]) hin]
  | false =>
    rw [if_neg (by decide)]
    have h := (step_ok (p := pNum 1024) (z := 0) (l := lr) (b := false) (by rw [← HK])).2
    rw [← HK] at h
    exact ⟨HN.1, by rw [row_snoc, HN.2]; simp only; rw [h]⟩
theorem page_step2 {l l1 l2 lr l3 : List UInt8} {n i : Nat} {d1 d3 : Bool} {A : List Int} {P : List ByteArray} {k : ByteArray} (HH : PHead l l1 n d1) (HA : d1 = false ∧ pRow (pNum 1024) n l1 = some (A, l2))
    (HN : pRow pKey i l2 = some (P, lr)) (HK : (k, l3, d3) = stepR pKey ⟨#[]⟩ lr false) (hin : i < n) : if d3 = true then pPage l = none else pRow pKey (i + 1) l2 = some (P ++ [k], l3) := by
  cases d3 with
  | true =>
    rw [if_pos rfl, HH.2 HA.1, HA.2]
    simp only
    rw [row_none pKey l2 (i + 1) n (by rw [row_snoc, HN]; simp only; rw [step_bad (p := pKey) (z := ⟨#[]⟩) (l := lr) (by rw [← HK])]) hin]
  | false =>
    rw [if_neg (by decide)]
    have h := (step_ok (p := pKey) (z := ⟨#[]⟩) (l := lr) (b := false) (by rw [← HK])).2
    rw [← HK] at h
    rw [row_snoc, HN]; simp only; rw [h]
theorem size33 : (Tryz.prog.info? 33).map (·.size) = some 2 := by kernel_rfl
theorem cells_oneI {x : Int} : ∀ u ∈ ([.int .i64 x] : List Value), u.oneCell' = true := by
  intro u hu
  simp only [List.mem_singleton] at hu
  subst hu
  rfl
theorem ownG_snoc {w : World} {B : Nat} {v : Value} {A : List Int} {k : Int} (h : w.ownsRow B 3 1 v (A.length + 1) (A.flatMap cellsI ++ [.int .i64 k])) : OwnG 3 1 cellsI B w (A ++ [k]) v := by
  unfold OwnG
  rw [flat_snoc, List.length_append]
  exact h
theorem row_ne {w : World} {B e size n k : Nat} {v : Value} {xs : List Value} (h : w.ownsRow B e size v n xs) (hk : k < B) : some k ≠ v.ownBlock := fun e => by
  have := (h.lt k e.symm).1
  omega
theorem rowOwn_kept {w w' : World} {B e size n : Nat} {v : Value} {xs : List Value} {k : Option Nat} (h : w.ownsRow B e size v n xs) (hg : w.grownBy w' k) (hb : ∀ b c, v.ownBlock = some b → k = some c → b ≠ c) : w'.ownsRow B e size v n xs :=
  World.ownsRow.kept h hg (by
    cases hv : v.ownBlock with
    | none => exact .inl rfl
    | some j => exact .inr fun e => hb j j hv e.symm rfl)
theorem ownG_new (w : World) (x : Int) (g : Nat) (hg : g = w.heap.size) : Blk (w.alloc (.cells #[.int .i64 x] 3)) g [.int .i64 x] 3 := Blk.new w [.int .i64 x] 3 g hg
set_option maxHeartbeats 4000000 in
set_option maxRecDepth 100000 in
theorem getpage_any (ao : Option Addr) (l : List UInt8) (m c : Nat) (w : World) (hb : Byt w ao l) (hn : ao = none → c = 0) (hl : l.length = m) (hc : m ≤ c) (hm : c ≤ 9223372036854775807) (h47 : m ≤ 140737488355328) (hf : ∀ a, ao = some a → a.block < w.heap.size) :
    Calls Tryz.prog 26 #[.slice ao m c] w (GetsPage w l) := by
  obtain ⟨wa, hwa⟩ : ∃ wa, wa = w.alloc (.cells #[.slice none 0 0, .slice none 0 0] 33) := ⟨_, rfl⟩
  have sa : wa.heap.size = w.heap.size + 1 := by rw [hwa]; simp
  have B1 : Below w.heap.size w wa := by rw [hwa]; exact (Below.refl _ w).alloc (Nat.le_refl _) _
  have KA : Blk wa w.heap.size [.slice none 0 0, .slice none 0 0] 33 := by rw [hwa]; exact Blk.new w [.slice none 0 0, .slice none 0 0] 33 _ rfl
  obtain ⟨wb, hwb⟩ : ∃ wb, wb = wa.alloc (.cells #[.slice ao m c, .bool false] 99) := ⟨_, rfl⟩
  have sb : wb.heap.size = w.heap.size + 2 := by rw [hwb]; simp [sa]
  have RB0 := rd_new wa ao l m c (w.heap.size + 1) sa.symm (hb.below B1) hn hl hc hm h47 (fun a ha => by have := hf a ha; omega)
  rw [← hwb] at RB0
  have B2 : Below w.heap.size w wb := by rw [hwb]; exact B1.alloc (by omega) _
  have KB : Blk wb w.heap.size [.slice none 0 0, .slice none 0 0] 33 := by rw [hwb]; exact KA.alloc _
  obtain ⟨gX, hgX⟩ : ∃ gX, gX = w.heap.size + 2 := ⟨_, rfl⟩
  obtain ⟨wc, hwc⟩ : ∃ wc, wc = wb.alloc (.cells #[.slice none 0 0, .slice none 0 0] 33) := ⟨_, rfl⟩
  have sc : wc.heap.size = gX + 1 := by rw [hwc]; simp [sb, hgX]
  have B3 : Hid (Below w.heap.size w wc) := by show Below _ _ _; rw [hwc]; exact B2.alloc (by omega) _
  have KC : Hid (Blk wc w.heap.size [.slice none 0 0, .slice none 0 0] 33) := by show Blk _ _ _ _; rw [hwc]; exact KB.alloc _
  have XC : Hid (Blk wc gX [.slice none 0 0, .slice none 0 0] 33) := by show Blk _ _ _ _; rw [hwc]; exact Blk.new wb [.slice none 0 0, .slice none 0 0] 33 _ (by omega)
  have RB := Lib.hid (RB0.grown (w' := wc) (by rw [hwc]; exact (Below.refl _ wb).alloc (Nat.le_refl _) _))
  have C1 := Lib.hid (rnum_any (w.heap.size + 1) l false ao m c 32 wc RB.out (by decide))
  have GX := Lib.hid hgX
  have SC := Lib.hid sc
  have eX : Hid (w.heap.size + 1 + 1 = gX) := by show _ = _; omega
  clear KA B1 hb hn hl hc hm h47 hf RB0 B2 KB sc hgX
  go_enter Tryz.func26, Tryz.ntmps26
  go_wp2_with fail
  rw [← hwa, ← hwb, ← hwc, eX.out]
  clear hwa hwb hwc sa sb eX
  refine C1.out.mono ?_
  rintro e w1 ⟨rfl, h1, ao1, m1, c1, R1⟩
  have AN : AnsR wc (w.heap.size + 1) (.int .i64 (stepR (pNum 32) 0 l false).1) (stepR (pNum 32) 0 l false).2.1 (stepR (pNum 32) 0 l false).2.2 (.returned (.int .i64 (stepR (pNum 32) 0 l false).1)) w1 := ⟨rfl, h1, ao1, m1, c1, R1⟩
  have gx0 := GX.out
  have sc0 := SC.out
  have B5 := Lib.hid (AN.below B3.out (by omega) (by omega))
  have K5 := Lib.hid (AN.kept KC.out (by omega))
  have X5 := Lib.hid (AN.kept XC.out (by omega))
  have R5 := Lib.hid R1
  obtain ⟨⟨n', l1, d1⟩, hs1⟩ : ∃ z : Int × List UInt8 × Bool, z = stepR (pNum 32) 0 l false := ⟨_, rfl⟩
  obtain ⟨n, hn1, hn2⟩ := num_step 32 l false
  rw [← hs1] at hn1 R5 ⊢
  simp only at hn1 R5 ⊢
  subst hn1
  have HH : Hid (PHead l l1 n d1) := page_head l l1 n d1 hs1.symm
  clear AN h1 R1 C1 KC XC B3 RB hs1 SC sc0 gx0
  go_wp2_with fail
  go_loopw [7] (fun vi wr => ∃ (i : Nat) (lr : List UInt8) (bad : Bool) (A : List Int) (v : Value) (ar : Option Addr) (mr cr : Nat), i ≤ n ∧ vi = .int .i64 i ∧ Hid (Below w.heap.size w wr) ∧ Hid (Blk wr w.heap.size [.slice none 0 0, .slice none 0 0] 33) ∧ Hid (Blk wr gX [v, .slice none 0 0] 33) ∧ Hid (Rd wr (w.heap.size + 1) lr bad ar mr cr) ∧ Hid (OwnG 3 1 cellsI (gX + 1) wr A v) ∧ Hid (A.length = i) ∧ Hid (if bad = true then pPage l = none else d1 = false ∧ pRow (pNum 1024) i l1 = some (A, lr))) (fun vi _ => n - (RowKit.intOf vi).toNat)
  case atStart =>
    refine ⟨0, l1, d1, [], .slice none 0 0, ao1, m1, c1, by omega, rfl, B5.out, K5.out, X5.out, R5.out, World.ownsRow_nil _ _ _ _, rfl, ?_⟩
    show ite _ _ _
    cases hd : d1 with
    | true => rw [if_pos rfl]; exact HH.out.1 hd
    | false => rw [if_neg (by decide)]; exact ⟨rfl, rfl⟩
  case round =>
    obtain ⟨i, lr, bad, A, v, ar, mr, cr, hi, rfl, hB, hK, hX, hR, hO, hP, hI⟩ := hrel
    have c0 := hR.out.blk.cell 0
    have c1 := hR.out.blk.cell 1
    have x0 := hX.out.cell 0
    have x1 := hX.out.cell 1
    have y0 := hK.out.cell 0
    have y1 := hK.out.cell 1
    have f0 := hK.out.frozen 0
    have f1 := hK.out.frozen 1
    simp only [List.getElem?_cons_zero, List.getElem?_cons_succ] at c0 c1 x0 x1 y0 y1
    cases bad with
    | true =>
      have HN := Lib.hid hI.out
      rw [if_pos rfl] at HN
      have HE : Hid (getPage l = none) := by show _ = _; rw [getPage, whole, HN.out]
      clear hI hO hP hR
      by_cases hn0 : 0 < n
      · have q0 : (0 : Int) < (n : Int) := by omega
        by_cases hin : i < n
        · have q2 : (i : Int) < (n : Int) := by omega
          go_wp2_with fail
          refine wp_loop_rounds 1 ?_
          rw [rounds_succ]
          go_wp2_with fail
          exact bodyPost_ret (results_row_tmp rfl _ _ w.heap.size 33 _ _ _ rfl rfl (set_two hK.out _ _) Tryz.underlying33 rfl size33) rfl ⟨below_set (below_set hB.out hB.out.size (Nat.le_refl _) _) (by simp; exact hB.out.size) (Nat.le_refl _) _, .inl ⟨HE.out, rfl⟩⟩
        · obtain rfl : i = n := by omega
          go_wp2_with fail
          refine wp_loop_rounds 1 ?_
          rw [rounds_succ]
          go_wp2_with fail
          exact bodyPost_ret (results_row_tmp rfl _ _ w.heap.size 33 _ _ _ rfl rfl (set_two hK.out _ _) Tryz.underlying33 rfl size33) rfl ⟨below_set (below_set hB.out hB.out.size (Nat.le_refl _) _) (by simp; exact hB.out.size) (Nat.le_refl _) _, .inl ⟨HE.out, rfl⟩⟩
      · obtain rfl : n = 0 := by omega
        obtain rfl : i = 0 := by omega
        go_wp2_with fail
        refine wp_loop_rounds 1 ?_
        rw [rounds_succ]
        go_wp2_with fail
        exact bodyPost_ret (results_row_tmp rfl _ _ w.heap.size 33 _ _ _ rfl rfl (set_two hK.out _ _) Tryz.underlying33 rfl size33) rfl ⟨below_set (below_set hB.out hB.out.size (Nat.le_refl _) _) (by simp; exact hB.out.size) (Nat.le_refl _) _, .inl ⟨HE.out, rfl⟩⟩
    | false =>
      have HN := Lib.hid hI.out
      rw [if_neg (by decide)] at HN
      by_cases hin : i < n
      · have q2 : (i : Int) < (n : Int) := by omega
        have CK := Lib.hid (rnum_any (w.heap.size + 1) lr false ar mr cr 1024 wr.drew (hR.out.grown (Below.refl _ wr).drew) (by decide))
        rw [show ((1024 : Nat) : Int) = 1024 from rfl] at CK
        obtain ⟨⟨k, l3, d3⟩, hs3⟩ : ∃ z : Int × List UInt8 × Bool, z = stepR (pNum 1024) 0 lr false := ⟨_, rfl⟩
        rw [← hs3] at CK
        simp only at CK
        have HK := Lib.hid hs3
        have p1 : A.length + 1 ≤ 1000000 := by rw [hP.out]; omega
        have GL := hX.out.lt
        have GX0 : w.heap.size + 1 < gX := by have := GX.out; omega
        clear hs3 hI
        go_wp2_with fail
        have fx := hX.out.frozen 0
        have z1 : wr.drew.cell? ⟨gX, 0, none⟩ = some v := x0
        go_region_law (first
          | (go_simp
             go_at_call 46; (with_reducible refine CK.out.mono ?_); rintro e w4 ⟨rfl, h1, ao3, m3, c3, R7⟩
             have X7 := Lib.hid (blk_grown (w := wr.drew) hX.out h1 (by omega))
             have X9 := Lib.hid (X7.out.alloc (.cells #[.int .i64 k] 3))
             have N9 := Lib.hid (ownG_new w4 k w4.heap.size rfl)
             have O7 := Lib.hid (World.ownsRow.alloc (row_kept (w := wr.drew) hO.out h1 (by omega)) (.cells #[.int .i64 k] 3))
             have p2 : gX + 1 ≤ (w4.alloc (.cells #[.int .i64 k] 3)).heap.size := by have : wr.heap.size ≤ w4.heap.size := h1.size; simp; omega
             have z2 := X7.out.cell 0
             have z3 := X9.out.cell 0
             simp only [List.getElem?_cons_zero] at z2 z3)
          | (refine step_one (t := 28) (e := 3) rfl (.tmp 28) (.tmp 31) rfl Tryz.underlying28 infoI rfl (by decide) (gX + 1) v A.length (A.flatMap cellsI) (by simp [Act.eval]) O7.out w4.heap.size [.int .i64 k] (by simp [Act.eval]) N9.out rfl cells_oneI p1 (by decide) p2 ?_; intro v5 w5 o5 g5
             have o6 := ownG_snoc o5
             obtain ⟨ao5, c5, rfl⟩ := ownG_slice o6
             have X8 := Lib.hid (blk_row X9.out g5 (row_ne O7.out (Nat.lt_succ_self _)))
             have e1 := X8.out.cell 0
             have e2 := X8.out.frozen 0
             simp only [List.getElem?_cons_zero] at e1))
        all_goals
          have far5 : ∀ b, v.ownBlock = some b → gX < b := fun b hb => (O7.out.lt b hb).1
          have RZ := Lib.hid (((R7.grown ((Below.refl _ w4).alloc (Nat.le_refl _) (.cells #[.int .i64 k] 3))).row g5 (fun b hb => by have := far5 b hb; omega)).row (grownBy_setCell w5 gX 0 (.slice ao5 (A ++ [k]).length c5)) (fun b hb => by injection hb with hb; omega))
          have KZ := Lib.hid ((blk_row ((blk_grown (w := wr.drew) hK.out h1 (by omega)).alloc (.cells #[.int .i64 k] 3)) g5 (row_ne O7.out (by omega))).other (a := ⟨gX, 0, none⟩) (.slice ao5 (A ++ [k]).length c5) (by show w.heap.size ≠ gX; omega))
          have XZ : Hid (Blk (w5.setCell ⟨gX, 0, none⟩ (.slice ao5 (A ++ [k]).length c5)) gX [.slice ao5 (A ++ [k]).length c5, .slice none 0 0] 33) := by show Blk _ _ _ _; have := X8.out.set 0 (.slice ao5 (A ++ [k]).length c5); simpa using this
          have OZ : Hid (OwnG 3 1 cellsI (gX + 1) (w5.setCell ⟨gX, 0, none⟩ (.slice ao5 (A ++ [k]).length c5)) (A ++ [k]) (.slice ao5 (A ++ [k]).length c5)) := ownG_set o6 (Nat.lt_succ_self _) _
          have BZ : Hid (Below w.heap.size w (w5.setCell ⟨gX, 0, none⟩ (.slice ao5 (A ++ [k]).length c5))) := by
            have q1 : Below w.heap.size w w4 := (hB.out.drew).grown h1 hB.out.size (fun b hb => by injection hb with hb; omega)
            have q2 := (q1.alloc q1.size (.cells #[.int .i64 k] 3)).grown g5 (q1.alloc q1.size (.cells #[.int .i64 k] 3)).size (fun b hb => by have := far5 b hb; omega)
            exact q2.setCell (p := ⟨gX, 0, none⟩) (by show w.heap.size ≤ gX; omega) _
          have IZ := Lib.hid (page_step1 HH.out HN.out HK.out hin)
          have LZ : Hid ((A ++ [k]).length = i + 1) := by show _ = _; rw [← hP.out]; simp
          have hL : (A ++ [k]).length = A.length + 1 := by simp
          rw [hL] at BZ KZ XZ RZ OZ
          clear o5 o6 g5 R7 h1 far5 O7 X8 X9 X7 e1 e2 z1 z2 z3 p1 p2 N9 hL
          go_wp2_with fail
          go_roundw
          case rel => exact ⟨i + 1, l3, d3, A ++ [k], _, ao3, m3, c3, by omega, by go_num, BZ, KZ, XZ, RZ, OZ, LZ, IZ⟩
          case measure => simp [RowKit.intOf]; omega
      · obtain rfl : i = n := by omega
        obtain ⟨va, ca, rfl⟩ := ownG_slice hO.out
        obtain ⟨lA, hlA⟩ : ∃ lA, lA = lr := ⟨_, rfl⟩
        rw [← hlA] at HN hR
        have FA := Lib.hid (fun b hb => (hO.out.lt b hb).2 : ∀ b, (Value.slice va A.length ca).ownBlock = some b → b < wr.heap.size)
        obtain ⟨gM, hgM⟩ : ∃ gM, gM = wr.heap.size := ⟨_, rfl⟩
        have GXM : Hid (gX < gM) := by show _ < _; rw [hgM]; exact hX.out.lt
        have SM : Hid (gM ≤ wr.heap.size) := by show _ ≤ _; omega
        rw [← hgM] at FA
        clear hI hgM hlA c0 c1 x0 x1 y0 y1 f0 f1
        go_wp2_with fail
        go_loopw [8] (fun vi wr => ∃ (j : Nat) (lr : List UInt8) (bad : Bool) (P : List ByteArray) (v : Value) (ar : Option Addr) (mr cr : Nat), j ≤ i ∧ vi = .int .i64 j ∧ Hid (Below w.heap.size w wr) ∧ Hid (Blk wr w.heap.size [.slice none 0 0, .slice none 0 0] 33) ∧ Hid (Blk wr gX [.slice va A.length ca, v] 33) ∧ Hid (Rd wr (w.heap.size + 1) lr bad ar mr cr) ∧ Hid (OwnG 3 1 cellsI (gX + 1) wr A (.slice va A.length ca)) ∧ Hid (OwnS wr gM v P) ∧ Hid (P.length = j) ∧ Hid (gM ≤ wr.heap.size) ∧ Hid (if bad = true then pPage l = none else pRow pKey j lA = some (P, lr))) (fun vi _ => i - (RowKit.intOf vi).toNat)
        case atStart => exact ⟨0, lA, false, [], .slice none 0 0, ar, mr, cr, by omega, rfl, hB.out, hK.out, hX.out, hR.out, hO.out, World.ownsRow_nil _ _ _ _, rfl, SM.out, rfl⟩
        case round =>
          clear hB hK hX hR hO SM
          obtain ⟨j, lr, bad, P, v, ar, mr, cr, hj, rfl, hB, hK, hX, hR, hO, hS, hP2, hM, hI⟩ := hrel
          have c0 := hR.out.blk.cell 0
          have c1 := hR.out.blk.cell 1
          have x0 := hX.out.cell 0
          have x1 := hX.out.cell 1
          have y0 := hK.out.cell 0
          have y1 := hK.out.cell 1
          have f0 := hK.out.frozen 0
          have f1 := hK.out.frozen 1
          simp only [List.getElem?_cons_zero, List.getElem?_cons_succ] at c0 c1 x0 x1 y0 y1
          cases bad with
          | true =>
            have HN := Lib.hid hI.out
            rw [if_pos rfl] at HN
            have HE : Hid (getPage l = none) := by show _ = _; rw [getPage, whole, HN.out]
            clear hI hO hS hP hP2 hR
            by_cases hji : j < i
            · have q2 : (j : Int) < (i : Int) := by omega
              go_wp2_with fail
              exact bodyPost_ret (results_row_tmp rfl _ _ w.heap.size 33 _ _ _ rfl rfl (set_two hK.out _ _) Tryz.underlying33 rfl size33) rfl ⟨below_set (below_set hB.out hB.out.size (Nat.le_refl _) _) (by simp; exact hB.out.size) (Nat.le_refl _) _, .inl ⟨HE.out, rfl⟩⟩
            · obtain rfl : j = i := by omega
              go_wp2_with fail
              exact bodyPost_ret (results_row_tmp rfl _ _ w.heap.size 33 _ _ _ rfl rfl (set_two hK.out _ _) Tryz.underlying33 rfl size33) rfl ⟨below_set (below_set hB.out hB.out.size (Nat.le_refl _) _) (by simp; exact hB.out.size) (Nat.le_refl _) _, .inl ⟨HE.out, rfl⟩⟩
          | false =>
            have HN2 := Lib.hid hI.out
            rw [if_neg (by decide)] at HN2
            by_cases hji : j < i
            · have q2 : (j : Int) < (i : Int) := by omega
              have CK := Lib.hid (rkey_any (w.heap.size + 1) lr false ar mr cr wr.drew (hR.out.grown (Below.refl _ wr).drew))
              obtain ⟨⟨k, l3, d3⟩, hs3⟩ : ∃ z : ByteArray × List UInt8 × Bool, z = stepR pKey ⟨#[]⟩ lr false := ⟨_, rfl⟩
              rw [← hs3] at CK
              simp only at CK
              have HK := Lib.hid hs3
              have p1 : (P.length + [k].length) * 16 ≤ 140737488355328 := by rw [hP2.out]; simp; omega
              have GL := hX.out.lt
              have GX0 : w.heap.size + 1 < gX := by have := GX.out; omega
              have GM0 := GXM.out
              have GM1 := hM.out
              clear hs3 hI
              go_wp2_with fail
              have fx := hX.out.frozen 1
              have z1 : wr.drew.cell? ⟨gX, 1, none⟩ = some v := x1
              go_region_law (first
                | (go_simp
                   go_at_call 48; (with_reducible refine CK.out.mono ?_); rintro e w4 ⟨rfl, h1, ao3, m3, c3, R7⟩
                   have X7 := Lib.hid (blk_grown (w := wr.drew) hX.out h1 (by omega))
                   have X9 := Lib.hid (X7.out.alloc (.cells #[.string k] 47))
                   have O7 := Lib.hid (World.ownsRow.alloc (owns_kept (w := wr.drew) hS.out h1 (by omega)) (.cells #[.string k] 47))
                   have p2 : gM ≤ (w4.alloc (.cells #[.string k] 47)).heap.size := by have : wr.heap.size ≤ w4.heap.size := h1.size; simp; omega
                   have z2 := X7.out.cell 1
                   have z3 := X9.out.cell 1
                   simp only [List.getElem?_cons_zero, List.getElem?_cons_succ] at z2 z3)
                | (refine step_apps (t := 31) (e := 47) rfl (.tmp 47) (.tmp 50) rfl Tryz.underlying31 infoS gM v P [k] (by simp [Act.eval]) O7.out ⟨w4.heap.size, 0, none⟩ 1 (by simp [Act.eval]) (srw_one w4 k) p1 p2 ?_; intro v5 w5 o5 g5
                   obtain ⟨ao5, c5, rfl, _, _, _, _⟩ := own_srw o5
                   have X8 := Lib.hid (blk_row X9.out g5 (owns_ne O7.out GM0))
                   have e1 := X8.out.cell 1
                   have e2 := X8.out.frozen 1
                   simp only [List.getElem?_cons_zero, List.getElem?_cons_succ] at e1))
              all_goals
                have hL : (P ++ [k]).length = P.length + 1 := by simp
                have o6 : OwnS w5 gM (.slice ao5 (P.length + 1) c5) (P ++ [k]) := by rw [← hL]; exact o5
                have far5 : ∀ b, v.ownBlock = some b → gM ≤ b := fun b hb => (O7.out.lt b hb).1
                have RZ := Lib.hid (((R7.grown ((Below.refl _ w4).alloc (Nat.le_refl _) (.cells #[.string k] 47))).row g5 (fun b hb => by have := far5 b hb; omega)).row (grownBy_setCell w5 gX 1 (.slice ao5 (P.length + 1) c5)) (fun b hb => by injection hb with hb; omega))
                have KZ := Lib.hid ((blk_row ((blk_grown (w := wr.drew) hK.out h1 (by omega)).alloc (.cells #[.string k] 47)) g5 (owns_ne O7.out (by omega))).other (a := ⟨gX, 1, none⟩) (.slice ao5 (P.length + 1) c5) (by show w.heap.size ≠ gX; omega))
                have XZ : Hid (Blk (w5.setCell ⟨gX, 1, none⟩ (.slice ao5 (P.length + 1) c5)) gX [.slice va A.length ca, .slice ao5 (P.length + 1) c5] 33) := by show Blk _ _ _ _; have := X8.out.set 1 (.slice ao5 (P.length + 1) c5); simpa using this
                have OZ : Hid (OwnS (w5.setCell ⟨gX, 1, none⟩ (.slice ao5 (P.length + 1) c5)) gM (.slice ao5 (P.length + 1) c5) (P ++ [k])) := ownsRow_setCell_below o6 (a := ⟨gX, 1, none⟩) GM0 _
                have AZ : Hid (OwnG 3 1 cellsI (gX + 1) (w5.setCell ⟨gX, 1, none⟩ (.slice ao5 (P.length + 1) c5)) A (.slice va A.length ca)) := by
                  have q1 := World.ownsRow.alloc (row_kept (w := wr.drew) hO.out h1 (by omega)) (.cells #[.string k] 47)
                  exact ownG_set (rowOwn_kept q1 g5 (fun b c hb hc => by have := FA.out b hb; have := far5 c hc; omega)) (Nat.lt_succ_self _) _
                have BZ : Hid (Below w.heap.size w (w5.setCell ⟨gX, 1, none⟩ (.slice ao5 (P.length + 1) c5))) := by
                  have q1 : Below w.heap.size w w4 := (hB.out.drew).grown h1 hB.out.size (fun b hb => by injection hb with hb; omega)
                  have q2 := (q1.alloc q1.size (.cells #[.string k] 47)).grown g5 (q1.alloc q1.size (.cells #[.string k] 47)).size (fun b hb => by have := far5 b hb; omega)
                  exact q2.setCell (p := ⟨gX, 1, none⟩) (by show w.heap.size ≤ gX; omega) _
                have MZ : Hid (gM ≤ (w5.setCell ⟨gX, 1, none⟩ (.slice ao5 (P.length + 1) c5)).heap.size) := by
                  show _ ≤ _
                  have := g5.size
                  simp
                  omega
                have IZ := Lib.hid (page_step2 HH.out HN.out HN2.out HK.out hji)
                have LZ : Hid ((P ++ [k]).length = j + 1) := by show _ = _; rw [hL, hP2.out]
                clear o5 o6 g5 R7 h1 far5 O7 X8 X9 X7 e1 e2 z1 z2 z3 hL p1 p2
                go_wp2_with fail
                go_roundw
                case rel => exact ⟨j + 1, l3, d3, P ++ [k], _, ao3, m3, c3, by omega, by go_num, BZ, KZ, XZ, RZ, AZ, OZ, LZ, MZ, IZ⟩
                case measure => simp [RowKit.intOf]; omega
            · obtain rfl : j = i := by omega
              have HR : Hid (pPage l = some (⟨A, P⟩, lr)) := by show _ = _; rw [HH.out.2 HN.out.1, HN.out.2]; simp only; rw [HN2.out]
              obtain ⟨ap, cp, rfl, hp1, hp2, hp3, _⟩ := own_srw hS.out
              obtain ⟨aq, cq, hqe, hq1, hq2, _, hq3⟩ := ownG_zrw hO.out
              injection hqe with hqa hqb hqc
              subst hqa
              subst hqc
              have hsz : ∀ s ∈ P, s.size ≤ 9223372036854775807 := fun s hs => by
                have hk := ((law_row law_key j lA P lr).1 HN2.out).1.2 s hs
                have := key_size s hk
                omega
              by_cases hm : 0 < mr
              · have t0 : decide (0 < mr) = true := by simpa using hm
                have t1 : decide ((0 : Int) < (mr : Int)) = true := by simp; omega
                have hne : lr ≠ [] := fun h => by have := hR.out.len; rw [h] at this; simp at this; omega
                have HE : Hid (getPage l = none) := by
                  show _ = _
                  rw [getPage, whole, HR.out]
                  simp only
                  rw [if_neg (fun h => hne h.1)]
                clear hI hm hq1 hq2 hq3 hqb
                go_wp2_with fail
                exact bodyPost_ret (results_row_tmp rfl _ _ w.heap.size 33 _ _ _ rfl rfl (set_two hK.out _ _) Tryz.underlying33 rfl size33) rfl ⟨below_set (below_set hB.out hB.out.size (Nat.le_refl _) _) (by simp; exact hB.out.size) (Nat.le_refl _) _, .inl ⟨HE.out, rfl⟩⟩
              · have hm0 : mr = 0 := by omega
                subst hm0
                have hnil : lr = [] := List.eq_nil_of_length_eq_zero hR.out.len
                have RO := Lib.hid (pageok_any va ap A P A.length P.length ca cp wr hq3 hp3 rfl rfl hq1 hq2 hp1 hp2 hsz)
                clear hI hm hsz hp3 hq1 hq2 hq3 hqb
                go_wp2_with fail
                refine RO.out.mono ?_
                rintro e w4 ⟨⟨b, rfl, hbb⟩, hb4⟩
                have K7 := Lib.hid (hK.out.low hb4)
                have X7 := Lib.hid (hX.out.low hb4)
                have B7 := Lib.hid (below_chain hB.out hb4)
                have O7 := Lib.hid (owns_below hS.out hb4)
                have A7 := Lib.hid (ownG_below hO.out hb4)
                have HBB := Lib.hid hbb
                have gx := X7.out.lt
                have GX0 : w.heap.size + 1 < gX := by have := GX.out; omega
                have GM0 := GXM.out
                clear c0 c1 x0 x1 y0 y1 f0 f1 hbb hb4
                have y0 := K7.out.cell 0
                have y1 := K7.out.cell 1
                have f0 := K7.out.frozen 0
                have f1 := K7.out.frozen 1
                have x0 := X7.out.cell 0
                have x1 := X7.out.cell 1
                simp only [List.getElem?_cons_zero, List.getElem?_cons_succ] at x0 x1 y0 y1
                cases b with
                | false =>
                  have HE : Hid (getPage l = none) := by
                    show _ = _
                    rw [getPage, whole, HR.out]
                    simp only
                    rw [if_neg (fun h => by have := HBB.out.2 h.2; cases this)]
                  go_wp2_with fail
                  exact bodyPost_ret (results_row_tmp rfl _ _ w.heap.size 33 _ _ _ rfl rfl (set_two K7.out _ _) Tryz.underlying33 rfl size33) rfl ⟨below_set (below_set B7.out B7.out.size (Nat.le_refl _) _) (by simp; exact B7.out.size) (Nat.le_refl _) _, .inl ⟨HE.out, rfl⟩⟩
                | true =>
                  have HE : Hid (getPage l = some ⟨A, P⟩) := by
                    show _ = _
                    rw [getPage, whole, HR.out]
                    simp only
                    rw [if_pos ⟨hnil, HBB.out.1 rfl⟩]
                  have AZ := OwnG.low (ownG_set (ownG_set A7.out (show w.heap.size < gX + 1 by omega) (i := 0) (.slice va A.length ca)) (show w.heap.size < gX + 1 by omega) (i := 1) (.slice ap P.length cp)) (show w.heap.size ≤ gX + 1 by omega)
                  have SZ := OwnS.low (ownsRow_setCell_below (ownsRow_setCell_below O7.out (a := ⟨w.heap.size, 0, none⟩) (show w.heap.size < gM by omega) (.slice va A.length ca)) (a := ⟨w.heap.size, 1, none⟩) (show w.heap.size < gM by omega) (.slice ap P.length cp)) (show w.heap.size ≤ gM by omega)
                  go_wp2_with fail
                  exact bodyPost_ret (results_row_tmp rfl _ _ w.heap.size 33 _ _ _ rfl rfl (set_two K7.out _ _) Tryz.underlying33 rfl size33) rfl ⟨below_set (below_set B7.out B7.out.size (Nat.le_refl _) _) (by simp; exact B7.out.size) (Nat.le_refl _) _, .inr ⟨⟨A, P⟩, _, _, HE.out, rfl, AZ, SZ⟩⟩
end Go.Proofs.YtpjgkboafmebbaaGreatDoor.Sh
namespace Go.Proofs.YtpjgkboafmebbaaGreatDoor.Sh
open Go.RowKit Go.Lib Lb
/-- an answer of a Put, whichever -/
def PutS (w : World) (l : List UInt8) (n : Int) (e : Ending) (w' : World) : Prop :=
  Below w.heap.size w w' ∧ ∃ a c, e = .returned (.tuple #[.slice a l.length c, .int .i64 n]) ∧ Byt w' a l ∧ (a = none → c = 0)
open Classical in
theorem putS_of {w : World} {ok : Prop} {l : List UInt8} {e : Ending} {w' : World} (h : PutR w ok l e w') : PutS w (if ok then l else []) (if ok then 0 else 80) e w' := by
  by_cases hk : ok
  · rw [if_pos hk, if_pos hk]
    obtain ⟨hb, a, c, rfl, _, _, h3, h4⟩ := putR_ok h hk
    exact ⟨hb, a, c, rfl, h3, h4⟩
  · rw [if_neg hk, if_neg hk]
    obtain ⟨hb, rfl⟩ := putR_no h hk
    exact ⟨hb, none, 0, rfl, fun h => absurd rfl h, fun _ => rfl⟩
open Classical in
theorem putS_gives {w : World} {ok : Prop} {l : List UInt8} {e : Ending} {w' : World} (h : Gives w ok l 80 e w') : PutS w (if ok then l else []) (if ok then 0 else 80) e w' := by
  obtain ⟨hb, ⟨hk, v, rfl, ho⟩ | ⟨hk, rfl⟩⟩ := h
  · rw [if_pos hk, if_pos hk]
    obtain ⟨a, c, rfl, _, _, h3, h4⟩ := own_byt ho
    exact ⟨hb, a, c, rfl, h3, h4⟩
  · rw [if_neg hk, if_neg hk]
    exact ⟨hb, none, 0, rfl, fun h => absurd rfl h, fun _ => rfl⟩
/-- an answer of a page's reader, whichever -/
def GetPS (w : World) (A : List Int) (K : List ByteArray) (n : Int) (e : Ending) (w' : World) : Prop :=
  Below w.heap.size w w' ∧ ∃ a c b d, e = .returned (.tuple #[.agg #[.slice a A.length c, .slice b K.length d], .int .i64 n]) ∧ Zrw w' a A ∧ A.length ≤ c ∧ c ≤ 9223372036854775807 ∧ Srw w' b K ∧ K.length ≤ d ∧ d ≤ 9223372036854775807
def GetRS (w : World) (x : Int) (K : List ByteArray) (n : Int) (e : Ending) (w' : World) : Prop :=
  Below w.heap.size w w' ∧ ∃ b d, e = .returned (.tuple #[.agg #[.int .i64 x, .slice b K.length d], .int .i64 n]) ∧ Srw w' b K ∧ K.length ≤ d ∧ d ≤ 9223372036854775807
def numO {α : Type} (o : Option α) : Int := match o with | none => 80 | some _ => 0
def numsP (o : Option PageP) : List Int := match o with | none => [] | some x => x.nums
def keysP (o : Option PageP) : List ByteArray := match o with | none => [] | some x => x.keys
def nextR (o : Option RootP) : Int := match o with | none => 0 | some x => x.next
def keysR (o : Option RootP) : List ByteArray := match o with | none => [] | some x => x.pages
theorem zrw_nil (w : World) (a : Option Addr) : Zrw w a [] := fun h => absurd rfl h
theorem getPS_of {w : World} {o : Option PageP} {e : Ending} {w' : World} (h : GetR w (.agg #[.slice none 0 0, .slice none 0 0]) (VPage w.heap.size) o e w') : GetPS w (numsP o) (keysP o) (numO o) e w' := by
  obtain ⟨hb, ⟨rfl, rfl⟩ | ⟨x, v, rfl, rfl, u, t, rfl, hu, ht⟩⟩ := h
  · exact ⟨hb, none, 0, none, 0, rfl, zrw_nil _ _, Nat.le_refl _, by omega, srw_nil _ _, Nat.le_refl _, by omega⟩
  · obtain ⟨ao, c, rfl, h1, h2, _, h3⟩ := ownG_zrw hu
    obtain ⟨bo, d, rfl, k1, k2, _, k3⟩ := ownG_srw ht
    exact ⟨hb, ao, c, bo, d, rfl, h3, h1, h2, k3, k1, k2⟩
theorem getPS_ref {w : World} {l : List UInt8} {e : Ending} {w' : World} (h : GetsPage w l e w') : GetPS w (numsP (getPage l)) (keysP (getPage l)) (numO (getPage l)) e w' := by
  obtain ⟨hb, ⟨ho, rfl⟩ | ⟨x, u, v, ho, rfl, hu, hv⟩⟩ := h
  · rw [ho]
    exact ⟨hb, none, 0, none, 0, rfl, zrw_nil _ _, Nat.le_refl _, by omega, srw_nil _ _, Nat.le_refl _, by omega⟩
  · rw [ho]
    obtain ⟨ao, c, rfl, h1, h2, _, h3⟩ := ownG_zrw hu
    obtain ⟨bo, d, rfl, k1, k2, k3, _⟩ := own_srw hv
    exact ⟨hb, ao, c, bo, d, rfl, h3, h1, h2, k3, k1, k2⟩
theorem getRS_of {w : World} {o : Option RootP} {e : Ending} {w' : World} (h : GetR w (.agg #[.int .i64 0, .slice none 0 0]) (VRoot w.heap.size) o e w') : GetRS w (nextR o) (keysR o) (numO o) e w' := by
  obtain ⟨hb, ⟨rfl, rfl⟩ | ⟨x, v, rfl, rfl, t, rfl, ht⟩⟩ := h
  · exact ⟨hb, none, 0, rfl, srw_nil _ _, Nat.le_refl _, by omega⟩
  · obtain ⟨bo, d, rfl, k1, k2, _, k3⟩ := ownG_srw ht
    exact ⟨hb, bo, d, rfl, k3, k1, k2⟩
theorem getRS_ref {w : World} {l : List UInt8} {e : Ending} {w' : World} (h : GetsRoot w l e w') : GetRS w (nextR (getRoot l)) (keysR (getRoot l)) (numO (getRoot l)) e w' := by
  obtain ⟨hb, ⟨ho, rfl⟩ | ⟨x, v, ho, rfl, hv⟩⟩ := h
  · rw [ho]
    exact ⟨hb, none, 0, rfl, srw_nil _ _, Nat.le_refl _, by omega⟩
  · rw [ho]
    obtain ⟨bo, d, rfl, k1, k2, k3, _⟩ := own_srw hv
    exact ⟨hb, bo, d, rfl, k3, k1, k2⟩
set_option maxHeartbeats 16000000 in
set_option maxRecDepth 100000 in
open Classical in
theorem tables_any (zv kv : Option Addr) (zn zc kn kc : Nat) (lz : List Int) (lk : List ByteArray) (nx : Int) (pv : Option Addr) (pn pc : Nat) (lp : List ByteArray) (ao : Option Addr) (c : Nat) (l : List UInt8) (w : World)
    (hz : Zrw w zv lz) (hlz : lz.length = zn) (hzc : zn ≤ zc) (hzcc : zc ≤ 9223372036854775807) (hk : Srw w kv lk) (hlk : lk.length = kn) (hkc : kn ≤ kc) (hkcc : kc ≤ 9223372036854775807) (hks : ∀ s ∈ lk, s.size ≤ 9223372036854775807)
    (hp : Srw w pv lp) (hlp : lp.length = pn) (hpc : pn ≤ pc) (hpcc : pc ≤ 9223372036854775807) (hps : ∀ s ∈ lp, s.size ≤ 9223372036854775807)
    (hb : Byt w ao l) (hn : ao = none → c = 0) (hc : l.length ≤ c) (hm : c ≤ 9223372036854775807) (hf : ∀ a, ao = some a → a.block < w.heap.size) (he : ErrT w) :
    Calls Tryz.prog 7 #[.agg #[.slice zv zn zc, .slice kv kn kc], .agg #[.int .i64 nx, .slice pv pn pc], .slice ao l.length c] w
      fun e w' => e = .returned (.bool true) ∧ Below w.heap.size w w' := by
  have HD := Lib.hid (fun W (h : Below w.heap.size w W) => heads_any W (he.below h))
  obtain ⟨v0, hv0⟩ : ∃ x, x = w.alloc (.cells #[.slice zv zn zc, .slice kv kn kc] 33) := ⟨_, rfl⟩
  have sv0 : v0.heap.size = w.heap.size + 1 := by rw [hv0]; simp
  have bv0 : Below w.heap.size w v0 := by rw [hv0]; exact (Below.refl _ w).alloc (Nat.le_refl _) _
  have KM0 : Blk v0 w.heap.size [.slice zv zn zc, .slice kv kn kc] 33 := by rw [hv0]; exact Blk.new w [.slice zv zn zc, .slice kv kn kc] 33 _ rfl
  obtain ⟨v1, hv1⟩ : ∃ x, x = v0.alloc (.cells #[.int .i64 nx, .slice pv pn pc] 35) := ⟨_, rfl⟩
  have sv1 : v1.heap.size = v0.heap.size + 1 := by rw [hv1]; simp
  have bv1 : Below v0.heap.size v0 v1 := by rw [hv1]; exact (Below.refl _ v0).alloc (Nat.le_refl _) _
  have KL1 : Blk v1 v0.heap.size [.int .i64 nx, .slice pv pn pc] 35 := by rw [hv1]; exact Blk.new v0 [.int .i64 nx, .slice pv pn pc] 35 _ rfl
  have KM1 := KM0.low bv1
  rw [sv0] at KL1
  have HB := Lib.hid (below_chain bv0 bv1)
  have KM := Lib.hid KM1
  have KL := Lib.hid KL1
  have HV0 := Lib.hid hv0
  have HV1 := Lib.hid hv1
  clear hv1 hv0 bv0 bv1 sv0 sv1 KM0 KM1 KL1
  by_cases h5 : l.length ≤ 5000
  · have C1 := Lib.hid (fun W (h : Below w.heap.size w W) => (oputpage_any zv kv zn zc kn kc lz lk W (hz.below h) hlz hzc hzcc (hk.below h) hlk hkc hkcc hks).mono fun e w' => putS_of)
    have C2 := Lib.hid (fun W (h : Below w.heap.size w W) => (refputpage_any zv kv lz lk zn kn zc kc W (hz.below h) (hk.below h) hlz hlk hzc hzcc hkc hkcc hks).mono fun e w' => putS_gives)
    have C3 := Lib.hid (fun W (h : Below w.heap.size w W) => (oget_page ao l.length c l W (hb.below h) hn rfl hc hm (by omega) (fun a ha => Nat.lt_of_lt_of_le (hf a ha) h.size) (he.below h)).mono fun e w' => getPS_of)
    have C4 := Lib.hid (fun W (h : Below w.heap.size w W) => (getpage_any ao l l.length c W (hb.below h) hn rfl hc hm (by omega) (fun a ha => Nat.lt_of_lt_of_le (hf a ha) h.size)).mono fun e w' => getPS_ref)
    have C5 := Lib.hid (fun W (h : Below w.heap.size w W) => (oputroot_any nx pv pn pc lp W (hp.below h) hlp hpc hpcc hps).mono fun e w' => putS_of)
    have C6 := Lib.hid (fun W (h : Below w.heap.size w W) => (putroot_any nx pv lp pn pc W (hp.below h) hlp hpc hpcc hps).mono fun e w' => putS_gives)
    have C7 := Lib.hid (fun W (h : Below w.heap.size w W) => (oget_root ao l.length c l W (hb.below h) hn rfl hc hm (by omega) (fun a ha => Nat.lt_of_lt_of_le (hf a ha) h.size) (he.below h)).mono fun e w' => getRS_of)
    have C8 := Lib.hid (fun W (h : Below w.heap.size w W) => (getroot_any ao l l.length c W (hb.below h) hn rfl hc hm (by omega) (fun a ha => Nat.lt_of_lt_of_le (hf a ha) h.size)).mono fun e w' => getRS_ref)
    generalize (if OkPage ⟨lz, lk⟩ then pageL ⟨lz, lk⟩ else []) = L1 at C1 C2
    generalize (if OkPage ⟨lz, lk⟩ then (0 : Int) else 80) = N1 at C1 C2
    generalize numsP (getPage l) = A at C3 C4
    generalize keysP (getPage l) = K at C3 C4
    generalize numO (getPage l) = N2 at C3 C4
    generalize (if OkRoot ⟨nx, lp⟩ then rootL ⟨nx, lp⟩ else []) = L3 at C5 C6
    generalize (if OkRoot ⟨nx, lp⟩ then (0 : Int) else 80) = N3 at C5 C6
    generalize nextR (getRoot l) = X at C7 C8
    generalize keysR (getRoot l) = G at C7 C8
    generalize numO (getRoot l) = N4 at C7 C8
    have d1 : decide ((5000 : Int) < (l.length : Int)) = false := decide_eq_false (by omega)
    have d2 : decide ((5000 : Nat) < l.length) = false := decide_eq_false (by omega)
    clear hb hn hc hm hf he hz hlz hzc hzcc hk hlk hkc hkcc hks hp hlp hpc hpcc hps
    rw [HV1.out, HV0.out] at HB KM KL
    clear HV0 HV1
    have z0 := KM.out.cell 0
    have z1 := KM.out.cell 1
    simp only [List.getElem?_cons_zero, List.getElem?_cons_succ] at z0 z1
    go_enter Tryz.func7, Tryz.ntmps7
    go_wp2_with fail
    refine (C1.out _ HB.out).mono ?_
    rintro e wq ⟨hb, a1, c1, rfl, y, z⟩
    clear C1
    replace HB := Lib.hid (below_chain HB.out hb)
    replace KM := Lib.hid (KM.out.low hb)
    replace KL := Lib.hid (KL.out.low hb)
    have Y1 := Lib.hid y
    have Z1 := Lib.hid z
    clear y z hb
    clear z0 z1
    have z0 := KM.out.cell 0
    have z1 := KM.out.cell 1
    simp only [List.getElem?_cons_zero, List.getElem?_cons_succ] at z0 z1
    go_wp2_with fail
    refine (C2.out _ HB.out).mono ?_
    rintro e wq ⟨hb, a2, c2, rfl, y, z⟩
    clear C2
    replace HB := Lib.hid (below_chain HB.out hb)
    replace KM := Lib.hid (KM.out.low hb)
    replace KL := Lib.hid (KL.out.low hb)
    replace Y1 := Lib.hid (Y1.out.below hb)
    have Y2 := Lib.hid y
    have Z2 := Lib.hid z
    clear y z hb
    clear z0 z1
    go_wp2_with fail
    refine (C3.out _ HB.out).mono ?_
    rintro e wq ⟨hb, a3, c3, b3, d3, rfl, z, z2, z3, k, k2, k3⟩
    clear C3
    replace HB := Lib.hid (below_chain HB.out hb)
    replace KM := Lib.hid (KM.out.low hb)
    replace KL := Lib.hid (KL.out.low hb)
    replace Y1 := Lib.hid (Y1.out.below hb)
    replace Y2 := Lib.hid (Y2.out.below hb)
    have Z3 := Lib.hid z
    have z23 := z2
    have z33 := z3
    clear z z2 z3
    have S3 := Lib.hid k
    have k23 := k2
    have k33 := k3
    clear k k2 k3 hb
    obtain ⟨g3, hg3⟩ : ∃ g, g = wq.heap.size := ⟨_, rfl⟩
    obtain ⟨wr, hwr⟩ : ∃ x, x = wq.alloc (.cells #[.slice a3 A.length c3, .slice b3 K.length d3] 33) := ⟨_, rfl⟩
    have hb : Below wq.heap.size wq wr := by rw [hwr]; exact (Below.refl _ wq).alloc (Nat.le_refl _) _
    have KB3 : Hid (Blk wr g3 [.slice a3 A.length c3, .slice b3 K.length d3] 33) := by show Blk _ _ _ _; rw [hwr]; exact Blk.new wq [.slice a3 A.length c3, .slice b3 K.length d3] 33 _ hg3
    replace HB := Lib.hid (below_chain HB.out hb)
    replace KM := Lib.hid (KM.out.low hb)
    replace KL := Lib.hid (KL.out.low hb)
    replace Y1 := Lib.hid (Y1.out.below hb)
    replace Y2 := Lib.hid (Y2.out.below hb)
    replace Z3 := Lib.hid (Z3.out.below hb)
    replace S3 := Lib.hid (S3.out.below hb)
    clear hb
    go_wp2_with fail
    rw [← hwr, ← hg3]
    clear hwr hg3
    refine (C4.out _ HB.out).mono ?_
    rintro e wq ⟨hb, a4, c4, b4, d4, rfl, z, z2, z3, k, k2, k3⟩
    clear C4
    replace HB := Lib.hid (below_chain HB.out hb)
    replace KM := Lib.hid (KM.out.low hb)
    replace KL := Lib.hid (KL.out.low hb)
    replace Y1 := Lib.hid (Y1.out.below hb)
    replace Y2 := Lib.hid (Y2.out.below hb)
    replace Z3 := Lib.hid (Z3.out.below hb)
    replace S3 := Lib.hid (S3.out.below hb)
    replace KB3 := Lib.hid (KB3.out.low hb)
    have Z4 := Lib.hid z
    have z24 := z2
    have z34 := z3
    clear z z2 z3
    have S4 := Lib.hid k
    have k24 := k2
    have k34 := k3
    clear k k2 k3 hb
    obtain ⟨g4, hg4⟩ : ∃ g, g = wq.heap.size := ⟨_, rfl⟩
    obtain ⟨wr, hwr⟩ : ∃ x, x = wq.alloc (.cells #[.slice a4 A.length c4, .slice b4 K.length d4] 33) := ⟨_, rfl⟩
    have hb : Below wq.heap.size wq wr := by rw [hwr]; exact (Below.refl _ wq).alloc (Nat.le_refl _) _
    have KB4 : Hid (Blk wr g4 [.slice a4 A.length c4, .slice b4 K.length d4] 33) := by show Blk _ _ _ _; rw [hwr]; exact Blk.new wq [.slice a4 A.length c4, .slice b4 K.length d4] 33 _ hg4
    replace HB := Lib.hid (below_chain HB.out hb)
    replace KM := Lib.hid (KM.out.low hb)
    replace KL := Lib.hid (KL.out.low hb)
    replace Y1 := Lib.hid (Y1.out.below hb)
    replace Y2 := Lib.hid (Y2.out.below hb)
    replace Z3 := Lib.hid (Z3.out.below hb)
    replace S3 := Lib.hid (S3.out.below hb)
    replace KB3 := Lib.hid (KB3.out.low hb)
    replace Z4 := Lib.hid (Z4.out.below hb)
    replace S4 := Lib.hid (S4.out.below hb)
    clear hb
    have z0 := KL.out.cell 0
    have z1 := KL.out.cell 1
    simp only [List.getElem?_cons_zero, List.getElem?_cons_succ] at z0 z1
    rw [hwr] at z0 z1
    go_wp2_with fail
    rw [← hwr, ← hg4]
    clear hwr hg4
    refine (C5.out _ HB.out).mono ?_
    rintro e wq ⟨hb, a5, c5, rfl, y, z⟩
    clear C5
    replace HB := Lib.hid (below_chain HB.out hb)
    replace KM := Lib.hid (KM.out.low hb)
    replace KL := Lib.hid (KL.out.low hb)
    replace Y1 := Lib.hid (Y1.out.below hb)
    replace Y2 := Lib.hid (Y2.out.below hb)
    replace Z3 := Lib.hid (Z3.out.below hb)
    replace S3 := Lib.hid (S3.out.below hb)
    replace KB3 := Lib.hid (KB3.out.low hb)
    replace Z4 := Lib.hid (Z4.out.below hb)
    replace S4 := Lib.hid (S4.out.below hb)
    replace KB4 := Lib.hid (KB4.out.low hb)
    have Y5 := Lib.hid y
    have Z5 := Lib.hid z
    clear y z hb
    clear z0 z1
    have z0 := KL.out.cell 0
    have z1 := KL.out.cell 1
    simp only [List.getElem?_cons_zero, List.getElem?_cons_succ] at z0 z1
    go_wp2_with fail
    refine (C6.out _ HB.out).mono ?_
    rintro e wq ⟨hb, a6, c6, rfl, y, z⟩
    clear C6
    replace HB := Lib.hid (below_chain HB.out hb)
    replace KM := Lib.hid (KM.out.low hb)
    replace KL := Lib.hid (KL.out.low hb)
    replace Y1 := Lib.hid (Y1.out.below hb)
    replace Y2 := Lib.hid (Y2.out.below hb)
    replace Z3 := Lib.hid (Z3.out.below hb)
    replace S3 := Lib.hid (S3.out.below hb)
    replace KB3 := Lib.hid (KB3.out.low hb)
    replace Z4 := Lib.hid (Z4.out.below hb)
    replace S4 := Lib.hid (S4.out.below hb)
    replace KB4 := Lib.hid (KB4.out.low hb)
    replace Y5 := Lib.hid (Y5.out.below hb)
    have Y6 := Lib.hid y
    have Z6 := Lib.hid z
    clear y z hb
    clear z0 z1
    go_wp2_with fail
    refine (C7.out _ HB.out).mono ?_
    rintro e wq ⟨hb, b7, d7, rfl, k, k2, k3⟩
    clear C7
    replace HB := Lib.hid (below_chain HB.out hb)
    replace KM := Lib.hid (KM.out.low hb)
    replace KL := Lib.hid (KL.out.low hb)
    replace Y1 := Lib.hid (Y1.out.below hb)
    replace Y2 := Lib.hid (Y2.out.below hb)
    replace Z3 := Lib.hid (Z3.out.below hb)
    replace S3 := Lib.hid (S3.out.below hb)
    replace KB3 := Lib.hid (KB3.out.low hb)
    replace Z4 := Lib.hid (Z4.out.below hb)
    replace S4 := Lib.hid (S4.out.below hb)
    replace KB4 := Lib.hid (KB4.out.low hb)
    replace Y5 := Lib.hid (Y5.out.below hb)
    replace Y6 := Lib.hid (Y6.out.below hb)
    have S7 := Lib.hid k
    have k27 := k2
    have k37 := k3
    clear k k2 k3 hb
    obtain ⟨g7, hg7⟩ : ∃ g, g = wq.heap.size := ⟨_, rfl⟩
    obtain ⟨wr, hwr⟩ : ∃ x, x = wq.alloc (.cells #[.int .i64 X, .slice b7 G.length d7] 35) := ⟨_, rfl⟩
    have hb : Below wq.heap.size wq wr := by rw [hwr]; exact (Below.refl _ wq).alloc (Nat.le_refl _) _
    have KB7 : Hid (Blk wr g7 [.int .i64 X, .slice b7 G.length d7] 35) := by show Blk _ _ _ _; rw [hwr]; exact Blk.new wq [.int .i64 X, .slice b7 G.length d7] 35 _ hg7
    replace HB := Lib.hid (below_chain HB.out hb)
    replace KM := Lib.hid (KM.out.low hb)
    replace KL := Lib.hid (KL.out.low hb)
    replace Y1 := Lib.hid (Y1.out.below hb)
    replace Y2 := Lib.hid (Y2.out.below hb)
    replace Z3 := Lib.hid (Z3.out.below hb)
    replace S3 := Lib.hid (S3.out.below hb)
    replace KB3 := Lib.hid (KB3.out.low hb)
    replace Z4 := Lib.hid (Z4.out.below hb)
    replace S4 := Lib.hid (S4.out.below hb)
    replace KB4 := Lib.hid (KB4.out.low hb)
    replace Y5 := Lib.hid (Y5.out.below hb)
    replace Y6 := Lib.hid (Y6.out.below hb)
    replace S7 := Lib.hid (S7.out.below hb)
    clear hb
    go_wp2_with fail
    rw [← hwr, ← hg7]
    clear hwr hg7
    refine (C8.out _ HB.out).mono ?_
    rintro e wq ⟨hb, b8, d8, rfl, k, k2, k3⟩
    clear C8
    replace HB := Lib.hid (below_chain HB.out hb)
    replace KM := Lib.hid (KM.out.low hb)
    replace KL := Lib.hid (KL.out.low hb)
    replace Y1 := Lib.hid (Y1.out.below hb)
    replace Y2 := Lib.hid (Y2.out.below hb)
    replace Z3 := Lib.hid (Z3.out.below hb)
    replace S3 := Lib.hid (S3.out.below hb)
    replace KB3 := Lib.hid (KB3.out.low hb)
    replace Z4 := Lib.hid (Z4.out.below hb)
    replace S4 := Lib.hid (S4.out.below hb)
    replace KB4 := Lib.hid (KB4.out.low hb)
    replace Y5 := Lib.hid (Y5.out.below hb)
    replace Y6 := Lib.hid (Y6.out.below hb)
    replace S7 := Lib.hid (S7.out.below hb)
    replace KB7 := Lib.hid (KB7.out.low hb)
    have S8 := Lib.hid k
    have k28 := k2
    have k38 := k3
    clear k k2 k3 hb
    obtain ⟨g8, hg8⟩ : ∃ g, g = wq.heap.size := ⟨_, rfl⟩
    obtain ⟨wr, hwr⟩ : ∃ x, x = wq.alloc (.cells #[.int .i64 X, .slice b8 G.length d8] 35) := ⟨_, rfl⟩
    have hb : Below wq.heap.size wq wr := by rw [hwr]; exact (Below.refl _ wq).alloc (Nat.le_refl _) _
    have KB8 : Hid (Blk wr g8 [.int .i64 X, .slice b8 G.length d8] 35) := by show Blk _ _ _ _; rw [hwr]; exact Blk.new wq [.int .i64 X, .slice b8 G.length d8] 35 _ hg8
    replace HB := Lib.hid (below_chain HB.out hb)
    replace KM := Lib.hid (KM.out.low hb)
    replace KL := Lib.hid (KL.out.low hb)
    replace Y1 := Lib.hid (Y1.out.below hb)
    replace Y2 := Lib.hid (Y2.out.below hb)
    replace Z3 := Lib.hid (Z3.out.below hb)
    replace S3 := Lib.hid (S3.out.below hb)
    replace KB3 := Lib.hid (KB3.out.low hb)
    replace Z4 := Lib.hid (Z4.out.below hb)
    replace S4 := Lib.hid (S4.out.below hb)
    replace KB4 := Lib.hid (KB4.out.low hb)
    replace Y5 := Lib.hid (Y5.out.below hb)
    replace Y6 := Lib.hid (Y6.out.below hb)
    replace S7 := Lib.hid (S7.out.below hb)
    replace KB7 := Lib.hid (KB7.out.low hb)
    replace S8 := Lib.hid (S8.out.below hb)
    clear hb
    have SA := Lib.hid (same_any a1 a2 L1 L1 c1 c2 wr Y1.out Y2.out Z1.out Z2.out)
    go_wp2_with fail
    rw [← hwr, ← hg8]
    clear hwr hg8
    refine SA.out.mono ?_
    clear SA
    rintro e wq ⟨rfl, rfl⟩
    simp only [decide_true]
    have z0 := KB3.out.cell 0
    have z1 := KB3.out.cell 1
    have z2 := KB4.out.cell 0
    have z3 := KB4.out.cell 1
    have z4 := KB7.out.cell 0
    have z5 := KB7.out.cell 1
    have z6 := KB8.out.cell 0
    have z7 := KB8.out.cell 1
    simp only [List.getElem?_cons_zero, List.getElem?_cons_succ] at z0 z1 z2 z3 z4 z5 z6 z7
    have SB := Lib.hid (ints_same a3 a4 A A.length c3 c4 wr Z3.out Z4.out rfl z23 z33 z24)
    go_wp2_with fail
    refine SB.out.mono ?_
    clear SB
    rintro e wq ⟨rfl, hb⟩
    replace HB := Lib.hid (below_chain HB.out hb)
    replace KM := Lib.hid (KM.out.low hb)
    replace KL := Lib.hid (KL.out.low hb)
    replace Y1 := Lib.hid (Y1.out.below hb)
    replace Y2 := Lib.hid (Y2.out.below hb)
    replace Z3 := Lib.hid (Z3.out.below hb)
    replace S3 := Lib.hid (S3.out.below hb)
    replace KB3 := Lib.hid (KB3.out.low hb)
    replace Z4 := Lib.hid (Z4.out.below hb)
    replace S4 := Lib.hid (S4.out.below hb)
    replace KB4 := Lib.hid (KB4.out.low hb)
    replace Y5 := Lib.hid (Y5.out.below hb)
    replace Y6 := Lib.hid (Y6.out.below hb)
    replace S7 := Lib.hid (S7.out.below hb)
    replace KB7 := Lib.hid (KB7.out.low hb)
    replace S8 := Lib.hid (S8.out.below hb)
    replace KB8 := Lib.hid (KB8.out.low hb)
    clear hb
    clear z0 z1 z2 z3 z4 z5 z6 z7
    have z0 := KB3.out.cell 0
    have z1 := KB3.out.cell 1
    have z2 := KB4.out.cell 0
    have z3 := KB4.out.cell 1
    have z4 := KB7.out.cell 0
    have z5 := KB7.out.cell 1
    have z6 := KB8.out.cell 0
    have z7 := KB8.out.cell 1
    simp only [List.getElem?_cons_zero, List.getElem?_cons_succ] at z0 z1 z2 z3 z4 z5 z6 z7
    have SC := Lib.hid (keys_same b3 b4 K K.length d3 d4 wq S3.out S4.out rfl k23 k33 k24)
    go_wp2_with fail
    refine SC.out.mono ?_
    clear SC
    rintro e wq ⟨rfl, hb⟩
    replace HB := Lib.hid (below_chain HB.out hb)
    replace KM := Lib.hid (KM.out.low hb)
    replace KL := Lib.hid (KL.out.low hb)
    replace Y1 := Lib.hid (Y1.out.below hb)
    replace Y2 := Lib.hid (Y2.out.below hb)
    replace Z3 := Lib.hid (Z3.out.below hb)
    replace S3 := Lib.hid (S3.out.below hb)
    replace KB3 := Lib.hid (KB3.out.low hb)
    replace Z4 := Lib.hid (Z4.out.below hb)
    replace S4 := Lib.hid (S4.out.below hb)
    replace KB4 := Lib.hid (KB4.out.low hb)
    replace Y5 := Lib.hid (Y5.out.below hb)
    replace Y6 := Lib.hid (Y6.out.below hb)
    replace S7 := Lib.hid (S7.out.below hb)
    replace KB7 := Lib.hid (KB7.out.low hb)
    replace S8 := Lib.hid (S8.out.below hb)
    replace KB8 := Lib.hid (KB8.out.low hb)
    clear hb
    clear z0 z1 z2 z3 z4 z5 z6 z7
    have z0 := KB3.out.cell 0
    have z1 := KB3.out.cell 1
    have z2 := KB4.out.cell 0
    have z3 := KB4.out.cell 1
    have z4 := KB7.out.cell 0
    have z5 := KB7.out.cell 1
    have z6 := KB8.out.cell 0
    have z7 := KB8.out.cell 1
    simp only [List.getElem?_cons_zero, List.getElem?_cons_succ] at z0 z1 z2 z3 z4 z5 z6 z7
    have SD := Lib.hid (same_any a5 a6 L3 L3 c5 c6 wq Y5.out Y6.out Z5.out Z6.out)
    go_wp2_with fail
    refine SD.out.mono ?_
    clear SD
    rintro e wz ⟨rfl, rfl⟩
    simp only [decide_true]
    have SE := Lib.hid (keys_same b7 b8 G G.length d7 d8 wq S7.out S8.out rfl k27 k37 k28)
    go_wp2_with fail
    refine SE.out.mono ?_
    clear SE
    rintro e wq ⟨rfl, hb⟩
    replace HB := Lib.hid (below_chain HB.out hb)
    replace KM := Lib.hid (KM.out.low hb)
    replace KL := Lib.hid (KL.out.low hb)
    replace Y1 := Lib.hid (Y1.out.below hb)
    replace Y2 := Lib.hid (Y2.out.below hb)
    replace Z3 := Lib.hid (Z3.out.below hb)
    replace S3 := Lib.hid (S3.out.below hb)
    replace KB3 := Lib.hid (KB3.out.low hb)
    replace Z4 := Lib.hid (Z4.out.below hb)
    replace S4 := Lib.hid (S4.out.below hb)
    replace KB4 := Lib.hid (KB4.out.low hb)
    replace Y5 := Lib.hid (Y5.out.below hb)
    replace Y6 := Lib.hid (Y6.out.below hb)
    replace S7 := Lib.hid (S7.out.below hb)
    replace KB7 := Lib.hid (KB7.out.low hb)
    replace S8 := Lib.hid (S8.out.below hb)
    replace KB8 := Lib.hid (KB8.out.low hb)
    clear hb
    clear z0 z1 z2 z3 z4 z5 z6 z7
    have z0 := KB3.out.cell 0
    have z1 := KB3.out.cell 1
    have z2 := KB4.out.cell 0
    have z3 := KB4.out.cell 1
    have z4 := KB7.out.cell 0
    have z5 := KB7.out.cell 1
    have z6 := KB8.out.cell 0
    have z7 := KB8.out.cell 1
    simp only [List.getElem?_cons_zero, List.getElem?_cons_succ] at z0 z1 z2 z3 z4 z5 z6 z7
    go_wp2_with fail
    refine (HD.out _ HB.out).mono ?_
    rintro e wz ⟨rfl, hz⟩
    have hz2 := below_chain HB.out hz
    clear z0 z1 z2 z3 z4 z5 z6 z7
    go_wp2_with fail
    go_ret
    exact ⟨rfl, hz2⟩
  · have d1 : decide ((5000 : Int) < (l.length : Int)) = true := decide_eq_true (by omega)
    have d2 : decide ((5000 : Nat) < l.length) = true := decide_eq_true (by omega)
    clear hb hn hc hm hf he hz hlz hzc hzcc hk hlk hkc hkcc hks hp hlp hpc hpcc hps
    rw [HV1.out, HV0.out] at HB KM KL
    clear HV0 HV1
    go_enter Tryz.func7, Tryz.ntmps7
    go_wp2_with fail
    refine (HD.out _ HB.out).mono ?_
    rintro e wz ⟨rfl, hz⟩
    have hz2 := below_chain HB.out hz
    go_wp2_with fail
    go_ret
    exact ⟨rfl, hz2⟩
end Go.Proofs.YtpjgkboafmebbaaGreatDoor.Sh
namespace Go.Proofs.YtpjgkboafmebbaaGreatDoor
namespace Sh
open Go.ChangeShapes Go.WideShapes Go.ChangeAt Go.RowKit Go.Lib Go.ChangeMaps

set_option maxRecDepth 100000 in
/-- WHAT THE WALK GIVES, for every argument and every memory that meets the row. -/
theorem objTables_contract (H : Type) (enc : TypeId × Value → H) (W : World) (base : Nat) (args : Array Value) (ds gs : List (DataW H)) (before : List MemPlace)
    (hval : ∀ (j : Nat) t v, Tryz.f7.params[j]? = some t → args[j]? = some v → Value.okWide Tryz.prog W .any base t v)
    (hW : DataW.Whole enc Tryz.prog Tryz.f7.params.toList Rows.objTablesSpec.vars false W args.toList ds gs before) 
    (hsz0 : (DataW.weightsEach Tryz.prog (Tryz.f7.params.toList ++ (OpenSpec.ofChange Rows.objTablesSpec).bare.plain.varTypes Tryz.prog) (ds ++ gs)).all (· ≤ reachBytes) = true) (hL : laidMetH Tryz.prog Rows.objTablesRow.laid W) :
    Calls Tryz.prog 7 args W fun e W' => ∃ v, e = .returned v ∧ Rows.objTablesSpec.post enc Tryz.prog Tryz.f7 false true false false W args v W' := by
  have hsz := hsz0
  clear hsz0
  have hW' := hW
  obtain ⟨p, q, hA0, hV, rfl, hfz, hnd⟩ := hW
  have hA : DataW.TrodAll enc Tryz.prog W 0 (fun _ => true) true Tryz.f7.params.toList args.toList ds p := hA0
  have hAk := hA
  clear hA0
  rw [Tryz.params7] at hA hval hsz
  obtain ⟨rfl, rfl⟩ := trodVars_none hV
  simp only [List.append_nil] at hW' hsz
  have hlt : ∀ x ∈ p, x.block < W.heap.size := fun x hx => by simpa using hW'.lt x hx
  obtain ⟨v0, vs0, d0, ds0, p0, q0, hargs, rfl, hp0, h0, r0⟩ := trodAll_cons hA
  obtain ⟨v1, vs1, d1, ds1, p1, q1, rfl, rfl, hp1, h1, r1⟩ := trodAll_cons r0
  obtain ⟨v2, vs2, d2, ds2, p2, q2, rfl, rfl, hp2, h2, r2⟩ := trodAll_cons r1
  obtain ⟨rfl, rfl, hpn⟩ := trodAll_nil r2
  obtain rfl : args = #[v0, v1, v2] := by cases args; simp_all
  have hlt0 : ∀ x ∈ p0, x.block < W.heap.size := fun x hx => hlt x (by rw [hp0]; exact List.mem_append_left _ hx)
  have hltq0 : ∀ x ∈ q0, x.block < W.heap.size := fun x hx => hlt x (by rw [hp0]; exact List.mem_append_right _ hx)
  have hlt1 : ∀ x ∈ p1, x.block < W.heap.size := fun x hx => hltq0 x (by rw [hp1]; exact List.mem_append_left _ hx)
  have hltq1 : ∀ x ∈ q1, x.block < W.heap.size := fun x hx => hltq0 x (by rw [hp1]; exact List.mem_append_right _ hx)
  have hlt2 : ∀ x ∈ p2, x.block < W.heap.size := fun x hx => hltq1 x (by rw [hp2]; exact List.mem_append_left _ hx)
  have hltq2 : ∀ x ∈ q2, x.block < W.heap.size := fun x hx => hltq1 x (by rw [hp2]; exact List.mem_append_right _ hx)
  obtain ⟨pzv, plz, pzc, pkv, plk, pkc, rfl, pZ, pZ1, pZ2, pK, pK1, pK2, pKs⟩ := open_page (hval 0 33 v0 rfl rfl) h0 hlt0
  obtain ⟨rx, rkv, rlk, rkc, rfl, rK, rK1, rK2, rKs⟩ := open_root (hval 1 35 v1 rfl rfl) h1 hlt1
  obtain ⟨al, l, cl, rfl, hlc, hlm, hlr, hln, e2⟩ := open_byt Tryz.underlying36 Tryz.underlying5 cells5 (hval 2 36 v2 rfl rfl) h2 hlt2
  have hlz := reach_byt hsz (j := 2) (d := d2) rfl rfl e2
  refine (tables_any pzv pkv _ pzc _ pkc plz plk rx rkv _ rkc rlk al cl l W pZ rfl pZ1 pZ2 pK rfl pK1 pK2 pKs rK rfl rK1 rK2 rKs hlr hln hlc hlm (okWide_far Tryz.underlying36 (hval 2 36 _ rfl rfl)) (errT_of hL)).mono fun e W' ⟨he, hb⟩ => ?_
  subst he
  exact ⟨_, rfl, _, _, _, [], p, [], hW', trodAll_mk1 (shut_bool Tryz.underlying4 _), below_trodAll laidOut hb _ _ _ _ (by kernel_rfl) hAk hlt, rfl, hb.frame _, fun h => by cases h⟩

theorem objTables_reads (os : Os) {H : Type} (enc : TypeId × Value → H) : ∃ places, DataW.whole enc Tryz.prog ((laidWorld os).forCall (fun _ _ => 0) ⟨#[], #[.agg #[.slice none 0 0, .slice none 0 0], .agg #[.int .i64 0, .slice none 0 0], .slice none 0 0], []⟩).memory Tryz.f7.params.toList Rows.objTablesSpec.vars false (#[Value.agg #[.slice none 0 0, .slice none 0 0], Value.agg #[.int .i64 0, .slice none 0 0], Value.slice none 0 0] : Array Value).toList 8 = some ([.agg [.nil, .nil], .agg [.lit (.int .i64 0), .nil], .nil], [], places) :=
  ⟨[], by kernel_rfl⟩

set_option maxRecDepth 100000 in
theorem objTables_lifted (os : Os) (started : os.Started) (H : Type) (enc : TypeId × Value → H) (F : Stop.Interp) :
    ReturnsInHanded {} Tryz.checked os 7 .any ((OpenSpec.ofChange Rows.objTablesSpec).preRow enc Tryz.prog Tryz.f7 Rows.objTablesRow.domain false Rows.objTablesRow.laid) (((OpenSpec.ofChange Rows.objTablesSpec).at F).post enc Tryz.prog Tryz.f7 false true false false) := by
  obtain ⟨places, hx⟩ := objTables_reads os enc
  refine returnsInHanded_of_row (C := Tryz.checked) (s := OpenSpec.ofChange Rows.objTablesSpec) own started (by kernel_rfl) Tryz.func7 ?_ ?_
  · refine ⟨laidWorld os, fun _ _ => 0, ⟨#[], #[.agg #[.slice none 0 0, .slice none 0 0], .agg #[.int .i64 0, .slice none 0 0], .slice none 0 0], []⟩, laidWorld_os os, laidWorld_shaped os _, rfl, (Input.okWide_of_okWideB (by kernel_rfl)).2, ?_, ?_⟩
    · exact OpenSpec.preRow_of_cond 8 hx (by kernel_rfl) (fun k hk => by cases hk) (by kernel_rfl) (laidWorld_met os _)
    · simp only [Assume.holds]
      exact ⟨by simp, by simp, fun _ => Modest.zero, by simp, by simp⟩
  intro W base args ds gs before hval hW _ _ hsz hL hsh _
  exact objTables_contract H enc W base args ds gs before hval hW hsz hL

theorem objTables_said : Rows.ObjTablesSaid :=
  OpenClaim.holds_of_cond 7 Tryz.f7 rfl rfl rfl rfl rfl rfl rfl ⟨rfl, rfl, rfl, rfl, rfl⟩ rfl rfl rfl rfl rfl (by kernel_rfl) Tryz.func7 (by kernel_rfl)
    (of_decide_eq_true (by kernel_rfl)) (by unfold Func.isWrapper; first | (rw [if_pos (by decide +kernel)]; kernel_rfl) | (rw [if_neg (by decide +kernel)]; exact ⟨rfl, rfl⟩))
    (fun os started H enc _ F => by rw [OpenClaim.pre_eq_preRow]; exact objTables_lifted os started H enc F)
end Sh
theorem objTables_plain (f : FuncId) (fn : Func) (hf : Tryz.pinned.checked.prog.funcNamed Rows.objTablesRow.func = some f) (hfn : Tryz.pinned.checked.prog.funcs[f]? = some fn) :
    true = Tryz.pinned.checked.prog.looks [] ∧ ∀ (j : Nat) t, fn.params[j]? = some t → Tryz.pinned.checked.prog.wantsStandIn t = false := by
  obtain rfl : f = 7 := Option.some.inj ((show Tryz.prog.funcNamed Rows.objTablesRow.func = some 7 by kernel_rfl).symm.trans hf) |>.symm
  obtain rfl : fn = Tryz.f7 := (Option.some.inj (Tryz.func7.symm.trans hfn)).symm
  refine ⟨by kernel_rfl, fun j t ht => ?_⟩
  rw [Tryz.params7] at ht
  have hm : t ∈ [33, 35, 36] := by simpa using Array.mem_of_getElem? ht
  have hall : ([33, 35, 36].all fun u => !Tryz.prog.wantsStandIn u) = true := by kernel_rfl
  exact (show Tryz.prog.wantsStandIn t = false by simpa using List.all_eq_true.1 hall t hm)
/-- THE STATEMENT. -/
theorem objTables_card : Rows.ObjTablesCardSaid :=
  Claim7.holds_tied_plain_at .later [] _ _ _ _ Sh.objTables_said (fun _ h => by cases h) (by kernel_rfl) (fun _ h => by cases h) objTables_row_tie rfl ⟨rfl, rfl⟩ (by kernel_rfl) rfl objTables_plain (by kernel_rfl)
end Go.Proofs.YtpjgkboafmebbaaGreatDoor
