/-
  For the law of what a pack has behind a flush: the document's Put of a record that was made, of any length; how the sectors end. No other condition.
-/
import Derived.Test.YtekaboomhljdoaaGreatDoorFk
import Derived.Test.YtekaboomhljdoaaGreatDoorCd
import Derived.BigQuiet
import Derived.Test.YtekaboomhljdoaaGreatDoorGb
import Derived.RegionTactic
import Derived.Test.YtekaboomhljdoaaGreatDoorNb
import Derived.Test.YtekaboomhljdoaaGreatDoorWl
import Derived.Test.YtekaboomhljdoaaGreatDoorGa
import Derived.SizedLaws
namespace Go.Proofs.YtekaboomhljdoaaGreatDoor.Sh
open Lb Go.RowKit Go.Lib

theorem byt_new (w : World) (n : Int) (c : UInt8) (h : n = c.toNat) : Byt (w.alloc (.cells #[.int .u8 n] 5)) (some ⟨w.heap.size, 0, none⟩) [c] := fun _ => by
  refine ⟨w.heap.size, 0, rfl, by simp, fun j hj => ?_⟩
  obtain rfl : j = 0 := by simpa using hj
  rw [World.cell?_alloc_new]
  simp [h]
set_option maxHeartbeats 1000000 in
set_option maxRecDepth 100000 in
theorem refput_any (x : Nat) (h : x < 18446744073709551616) (w : World) :
    Calls Tryz.prog 72 #[.int .u64 x] w fun e w' => Below w.heap.size w w' ∧ ∃ v, e = .returned v ∧ Own w' w.heap.size v (putL x) := by
  obtain ⟨z, hz⟩ : ∃ z, z = putL x := ⟨_, rfl⟩
  rw [← hz]
  have HZ := Lib.hid hz
  have hx10 : x < 128 ^ (9 + 1) := Nat.lt_of_lt_of_le h two64
  clear hz
  go_enter Tryz.func72, Tryz.ntmps72
  go_wp2_with fail
  go_loopw [0, 3] (fun vx v wr => ∃ (y f : Nat) (acc : List UInt8), vx = .int .u64 y ∧ Own wr w.heap.size v acc ∧ Below w.heap.size w wr ∧ y < 18446744073709551616 ∧ acc.length + f ≤ 9 ∧ Hid (y < 128 ^ (f + 1) ∧ z = acc ++ putF f y)) (fun vx _ _ => (RowKit.intOf vx).toNat)
  case atStart => exact ⟨x, 9, [], rfl, World.ownsRow_nil _ _ _ _, Below.refl _ _, h, by simp, by show _ ∧ _; exact ⟨hx10, by rw [HZ.out]; rfl⟩⟩
  case round =>
    obtain ⟨y, f, acc, rfl, hown, hb, hy, hf, hh⟩ := hrel
    have hbz := hb.size
    obtain ⟨h1, h2⟩ := hh.out
    by_cases hyb : 128 ≤ y
    · obtain ⟨g, rfl⟩ : ∃ g, f = g + 1 := by
        cases f with
        | zero => simp at h1; omega
        | succ g => exact ⟨g, rfl⟩
      rw [putF, if_neg (by omega)] at h2
      have HN : Hid (y / 128 < 128 ^ (g + 1) ∧ z = (acc ++ [(y % 128 + 128).toUInt8]) ++ putF g (y / 128)) := by
        show _ ∧ _
        exact ⟨by rw [Nat.div_lt_iff_lt_mul (by decide), ← Nat.pow_succ]; exact h1, by rw [h2]; simp⟩
      have hn := byt_new wr ((y : Int) % 128 + 128) (y % 128 + 128).toUInt8 (by rw [Lb.u8_nat _ (by omega)]; omega)
      clear h1 h2 hh
      go_wp2_with (at_builtin; refine wpl_app (t := 24) (e := 5) rfl (.tmp 6) (.tmp 11) rfl Tryz.underlying24 info5 w.heap.size _ acc [(y % 128 + 128).toUInt8] rfl (World.ownsRow.alloc hown _) (some ⟨wr.heap.size, 0, none⟩) 1 rfl hn (fun h => by cases h) (by simp; omega) (by simp; omega) ?_; intro v' w' hown' hgrow)
      have hb' : Below w.heap.size w w' := (hb.alloc hbz _).grown hgrow (by simp; omega) (fun k hk => (World.ownsRow.lt hown k hk).1)
      go_wp2_with fail
      go_roundw
      case rel => exact ⟨y / 128, g, _, by go_num, hown', hb', by omega, by simp; omega, HN⟩
      case measure => simp [RowKit.intOf]; omega
    · have hzz : z = acc ++ [y.toUInt8] := by
        rw [h2]
        cases f with
        | zero => rfl
        | succ g => rw [putF, if_pos (by omega)]
      have HZZ := Lib.hid hzz
      have hn := byt_new wr (y : Int) y.toUInt8 (by rw [Lb.u8_nat _ (by omega)])
      clear h1 h2 hh hzz
      go_wp2_with (at_builtin; refine wpl_app (t := 24) (e := 5) rfl (.tmp 15) (.tmp 18) rfl Tryz.underlying24 info5 w.heap.size _ acc [y.toUInt8] rfl (World.ownsRow.alloc hown _) (some ⟨wr.heap.size, 0, none⟩) 1 rfl hn (fun h => by cases h) (by simp; omega) (by simp; omega) ?_; intro v' w' hown' hgrow)
      have hb' : Below w.heap.size w w' := (hb.alloc hbz _).grown hgrow (by simp; omega) (fun k hk => (World.ownsRow.lt hown k hk).1)
      go_wp2_with fail
      go_ret
      exact ⟨hb', _, rfl, by rw [HZZ.out]; exact hown'⟩
set_option maxHeartbeats 1000000 in
set_option maxRecDepth 100000 in
theorem lebref_any (ao : Option Addr) (l : List UInt8) (c : Nat) (w : World) (h : Byt w ao l) (hn : ao = none → c = 0) (hl : l.length ≤ 140737488355318) :
    Calls Tryz.prog 53 #[.slice ao l.length c] w fun e w' => Below w.heap.size w w' ∧ ∃ v, e = .returned v ∧ Own w' w.heap.size v (bytL l) := by
  have cp := refput_any l.length (by omega) w
  have hp := putL_len l.length
  obtain ⟨p, hpp⟩ : ∃ p, p = putL l.length := ⟨_, rfl⟩
  unfold bytL
  rw [← hpp] at cp hp ⊢
  have CP := Lib.hid cp
  clear cp hpp
  go_enter Tryz.func53, Tryz.ntmps53
  go_wp2_with fail
  refine CP.out.mono ?_
  rintro e w1 ⟨hb1, v1, rfl, hown⟩
  have hr := h.below hb1
  go_wp2_with (at_builtin; refine wpl_app (t := 24) (e := 5) rfl (.tmp 6) (.tmp 7) rfl Tryz.underlying24 info5 w.heap.size _ p l rfl hown ao c rfl hr hn (by omega) hb1.size ?_; intro v' w' hown' hgrow)
  have hb' : Below w.heap.size w w' := hb1.grown hgrow hb1.size (fun k hk => (World.ownsRow.lt hown k hk).1)
  go_wp2_with fail
  go_ret
  exact ⟨hb', _, rfl, hown'⟩
theorem refkind_any (k : Int) (w : World) : Calls Tryz.prog 27 #[.int .i64 k] w fun e w' => e = .returned (.bool (kindB k)) ∧ w' = w := by
  by_cases h1 : 1 ≤ k
  · by_cases h2 : k ≤ 4
    · have e : Hid (kindB k = true) := by show _ = _; simp [kindB, h1, h2]
      have d1 : decide (1 ≤ k) = true := by simp [h1]
      have d2 : decide (k ≤ 4) = true := by simp [h2]
      go_enter Tryz.func27, Tryz.ntmps27
      go_wp2_with fail
      go_ret
      exact ⟨by rw [e.out]; rfl, rfl⟩
    · have e : Hid (kindB k = false) := by show _ = _; simp [kindB, h2]
      have d1 : decide (1 ≤ k) = true := by simp [h1]
      have d2 : decide (k ≤ 4) = false := by simp; omega
      go_enter Tryz.func27, Tryz.ntmps27
      go_wp2_with fail
      go_ret
      exact ⟨by rw [e.out]; rfl, rfl⟩
  · have e : Hid (kindB k = false) := by show _ = _; simp [kindB, h1]
    have d1 : decide (1 ≤ k) = false := by simp; omega
    go_enter Tryz.func27, Tryz.ntmps27
    go_wp2_with fail
    go_ret
    exact ⟨by rw [e.out]; rfl, rfl⟩
set_option maxHeartbeats 2000000 in
set_option maxRecDepth 100000 in
theorem refwrite_any12 (k : Int) (ao : Option Addr) (d : List UInt8) (n c : Nat) (w : World) (h : Byt w ao d) (hn : ao = none → c = 0) (hd : d.length = n) (hbig : n ≤ 1000000) :
    Calls Tryz.prog 28 #[.int .i64 k, .slice ao n c] w fun e w' => Below w.heap.size w w' ∧ ∃ v, e = .returned v ∧ Own w' w.heap.size v (Fr.frL (kb k) d) := by
  have kw := kb_wrap k
  obtain ⟨x, hx⟩ : ∃ x, x = kb k := ⟨_, rfl⟩
  have FE : Hid (Fr.frL (kb k) d = Cr.bytesL ([165, x] ++ bytL d)) := by show _ = _; rw [hx]; exact frL_eq k d
  rw [← hx] at kw
  obtain ⟨F, hF⟩ : ∃ F, F = Fr.frL (kb k) d := ⟨_, rfl⟩
  rw [← hF] at FE ⊢
  have bt := al1 w (.cells #[.int .u8 165, .int .u8 (x.toNat : Int)] 5)
  have CB := lebref_any ao d c _ (h.below bt) hn (by omega)
  rw [hd] at CB
  have CB' := Lib.hid CB
  have OL : Hid (Own (w.alloc (.cells #[.int .u8 165, .int .u8 (x.toNat : Int)] 5)) w.heap.size (.slice (some ⟨w.heap.size, 0, none⟩) 2 2) [165, x]) := own_lit w [165, x] w.heap.size (Nat.le_refl _) (by simp)
  have B1 := Lib.hid bt
  have BL := bytL_len d
  rw [hd] at BL
  clear h hn hx hF CB bt
  go_enter Tryz.func28, Tryz.ntmps28
  go_wp2_with fail
  refine CB'.out.mono ?_
  generalize w.alloc (.cells #[.int .u8 165, .int .u8 (x.toNat : Int)] 5) = W1 at *
  rintro e w2 ⟨b2, v2, rfl, o2⟩
  obtain ⟨M, hM⟩ : ∃ M, M = bytL d := ⟨_, rfl⟩
  rw [← hM] at o2 BL FE
  obtain ⟨a2, c2, rfl, hc2, hcm2, hy2, hn2⟩ := own_byt o2
  obtain ⟨m, hm⟩ : ∃ m, m = M.length := ⟨_, rfl⟩
  rw [← hm] at BL hc2 ⊢
  have O1 : Hid (Own w2 w.heap.size (.slice (some ⟨w.heap.size, 0, none⟩) 2 2) [165, x]) := own_below OL.out b2
  have B2 := Lib.hid (below_chain B1.out b2)
  have Y2 := Lib.hid hy2
  have N2 := Lib.hid hn2
  have HM : Hid (M.length = m) := hm.symm
  have P2 : Hid (([165, x] : List UInt8).length + m ≤ 140737488355328) := by show 2 + m ≤ _; omega
  have S2 := Lib.hid B2.out.size
  clear b2 o2 hy2 hn2 hM hm CB' hd
  go_wp2_with (at_builtin; refine wpl_app_len (t := 24) (e := 5) rfl (.tmp 7) (.tmp 9) rfl Tryz.underlying24 info5 w.heap.size _ [165, x] M rfl O1.out a2 m c2 (by rfl) Y2.out N2.out HM.out P2.out S2.out ?_; intro v3 w3 o3 g3)
  have b3 : Below w.heap.size w w3 := B2.out.grown g3 S2.out (fun j hj => (World.ownsRow.lt O1.out j hj).1)
  obtain ⟨L, hL⟩ : ∃ L, L = [165, x] ++ M := ⟨_, rfl⟩
  rw [← hL] at o3 FE
  have LL : L.length = m + 2 := by rw [hL]; simp [HM.out]
  obtain ⟨a3, c3, rfl, hc3, hcm3, hy3, hn3⟩ := own_byt o3
  have C34 := Lib.hid (Cr.refbytes_any a3 L c3 w3 hy3 hn3 hc3 hcm3 (by rw [LL]; omega))
  have B3 := Lib.hid b3
  clear o3 g3 b3 hL hy3 hn3
  go_wp2_with fail
  refine C34.out.mono ?_
  rintro e w4 ⟨b4, v4, rfl, o4⟩
  have B4 := Lib.hid (below_chain B3.out b4)
  have O4 : Hid (Own w4 w.heap.size v4 F) := by show Own _ _ _ _; rw [FE.out]; exact o4.low B3.out.size
  clear b4 o4
  go_wp2_with fail
  go_ret
  exact ⟨B4.out, _, rfl, O4.out⟩
end Go.Proofs.YtekaboomhljdoaaGreatDoor.Sh
namespace Go.Proofs.YtekaboomhljdoaaGreatDoor.Sh
open Lb Go.RowKit Go.Lib

theorem box_law (k : Int) (ks : ByteArray) (ao : Option Addr) (n c : Nat) (w : World) : Blk (w.alloc (.cells #[.int .i64 k, .string ks, .slice ao n c] 29)) w.heap.size [.int .i64 k, .string ks, .slice ao n c] 29 := Blk.new w [.int .i64 k, .string ks, .slice ao n c] 29 w.heap.size rfl
set_option maxHeartbeats 2000000 in
set_option maxRecDepth 100000 in
theorem refput_no1 (k : Int) (ks : ByteArray) (ao : Option Addr) (d : List UInt8) (n c : Nat) (w : World) (hk : kindB k = false) :
    Calls Tryz.prog 9 #[.agg #[.int .i64 k, .string ks, .slice ao n c]] w (AnsPut k ks d w) := by
  have B0 := Lib.hid (al1 w (.cells #[.int .i64 k, .string ks, .slice ao n c] 29))
  have YB := Lib.hid (box_law k ks ao n c w)
  have PE : Hid (putE k ks d = 120) := putE_kind hk
  have CK := Lib.hid (refkind_any k)
  rw [hk] at CK
  go_enter Tryz.func9, Tryz.ntmps9
  go_wp2_with fail
  generalize w.alloc (.cells #[.int .i64 k, .string ks, .slice ao n c] 29) = W1 at *
  have Y0 := keep29 YB.out
  go_quiet ((go_at_call 27; with_reducible exact Calls.quiet_of_same (CK.out _)))
  have B1 := Lib.hid (below_drewN B0.out nq)
  go_wp2_with fail
  go_ret2
  exact ⟨B1.out, _, by rw [PE.out]; rfl, by rw [PE.out]; exact World.ownsRow_nil _ _ _ _⟩
set_option maxHeartbeats 2000000 in
set_option maxRecDepth 100000 in
theorem refput_no2 (k : Int) (ks : ByteArray) (ao : Option Addr) (d : List UInt8) (n c : Nat) (w : World) (hk : kindB k = true) (hd : d.length = n) (h8 : 8192 < n) :
    Calls Tryz.prog 9 #[.agg #[.int .i64 k, .string ks, .slice ao n c]] w (AnsPut k ks d w) := by
  have B0 := Lib.hid (al1 w (.cells #[.int .i64 k, .string ks, .slice ao n c] 29))
  have YB := Lib.hid (box_law k ks ao n c w)
  have PE : Hid (putE k ks d = 120) := putE_long (by rw [hd]; exact h8)
  have CK := Lib.hid (refkind_any k)
  rw [hk] at CK
  have d1 : decide ((8192 : Int) < (n : Int)) = true := by simp; omega
  go_enter Tryz.func9, Tryz.ntmps9
  go_wp2_with fail
  generalize w.alloc (.cells #[.int .i64 k, .string ks, .slice ao n c] 29) = W1 at *
  have Y0 := keep29 YB.out
  go_quiet ((go_at_call 27; with_reducible exact Calls.quiet_of_same (CK.out _)))
  have B1 := Lib.hid (below_drewN B0.out nq)
  go_wp2_with fail
  go_ret2
  exact ⟨B1.out, _, by rw [PE.out]; rfl, by rw [PE.out]; exact World.ownsRow_nil _ _ _ _⟩
set_option maxHeartbeats 2000000 in
set_option maxRecDepth 100000 in
theorem refput_any12 (k : Int) (ks : ByteArray) (ao : Option Addr) (d : List UInt8) (n c : Nat) (w : World) (h : Byt w ao d) (hn : ao = none → c = 0) (hd : d.length = n) (hbig : n ≤ 1000000) :
    Calls Tryz.prog 9 #[.agg #[.int .i64 k, .string ks, .slice ao n c]] w (AnsPut k ks d w) := by
  by_cases hk0 : kindB k = false
  · exact refput_no1 k ks ao d n c w hk0
  have hk : kindB k = true := by simpa using hk0
  by_cases hl0 : 8192 < n
  · exact refput_no2 k ks ao d n c w hk hd hl0
  have hl : n ≤ 8192 := by omega
  have B0 := Lib.hid (al1 w (.cells #[.int .i64 k, .string ks, .slice ao n c] 29))
  have YB := Lib.hid (box_law k ks ao n c w)
  have H0 := Lib.hid (h.below B0.out)
  have HN := Lib.hid hn
  have HD := Lib.hid hd
  have HK := Lib.hid hk
  have d1 : decide ((8192 : Int) < (n : Int)) = false := by simp; omega
  have CK := Lib.hid (refkind_any k)
  rw [hk] at CK
  clear hk0 hl0 hk h hn hd
  have CO := Lib.hid (fun W (hb : Below (w.alloc (.cells #[.int .i64 k, .string ks, .slice ao n c] 29)).heap.size (w.alloc (.cells #[.int .i64 k, .string ks, .slice ao n c] 29)) W) => refof_any k ao d n c W (H0.out.below hb) HN.out HD.out (by omega))
  have CW := Lib.hid (fun W (hb : Below (w.alloc (.cells #[.int .i64 k, .string ks, .slice ao n c] 29)).heap.size (w.alloc (.cells #[.int .i64 k, .string ks, .slice ao n c] 29)) W) => refwrite_any12 k ao d n c W (H0.out.below hb) HN.out HD.out (by omega))
  have key : ∀ b : Bool, (ks.toList == (keyS k d).toList) = b → Calls Tryz.prog 9 #[.agg #[.int .i64 k, .string ks, .slice ao n c]] w (AnsPut k ks d w) := by
    intro b hb
    have PE : Hid (putE k ks d = if b then 0 else 120) := by
      show _ = _
      cases b with
      | true => exact putE_ok HK.out (by rw [HD.out]; exact hl) hb
      | false => exact putE_key hb
    have hb2 : ((keyS k d).toList == ks.toList) = b := by rw [Bool.beq_comm]; exact hb
    obtain ⟨K, hK⟩ : ∃ K, K = keyS k d := ⟨_, rfl⟩
    rw [← hK] at hb hb2 CO
    obtain ⟨F, hF⟩ : ∃ F, F = Fr.frL (kb k) d := ⟨_, rfl⟩
    have FF := Lib.hid hF
    rw [← hF] at CW
    clear hK hF
    go_enter Tryz.func9, Tryz.ntmps9
    go_wp2_with fail
    generalize w.alloc (.cells #[.int .i64 k, .string ks, .slice ao n c] 29) = W1 at *
    have BQ := Lib.hid (Below.refl W1.heap.size W1).drew
    have YQ := Lib.hid YB.out.drew
    have Y0 := keep29 YB.out
    cases b
    all_goals
      go_region_held3 (fun w' => w'.cell? ⟨w.heap.size, 0, none⟩ = some (.int .i64 k) ∧ w'.cell? ⟨w.heap.size, 1, none⟩ = some (.string ks) ∧ w'.cell? ⟨w.heap.size, 2, none⟩ = some (.slice ao n c))
        (first | go_keep | exact keep29 YQ.out)
        (first
          | (go_at_call 27; (with_reducible refine (CK.out _).mono ?_); rintro e w5 ⟨rfl, rfl⟩)
          | (go_at_call 24; (with_reducible refine (CO.out _ BQ.out).mono ?_); rintro e w5 ⟨rfl, b5⟩; have YQ := Lib.hid (YQ.out.low b5); have BQ := Lib.hid (BQ.out.trans (b5.mono BQ.out.size)); clear b5))
    all_goals
      have Y5 := keep29 YQ.out
      have B5 := Lib.hid (B0.out.trans (BQ.out.mono B0.out.size))
      have CW5 := Lib.hid (CW.out w5 BQ.out)
      go_wp2_with fail
    · go_ret2
      exact ⟨B5.out, _, by rw [PE.out]; rfl, by rw [PE.out]; exact World.ownsRow_nil _ _ _ _⟩
    · refine CW5.out.mono ?_
      rintro e w6 ⟨b6, v, rfl, o6⟩
      have B6 := Lib.hid (below_chain B5.out b6)
      have O6 := Lib.hid (o6.low B5.out.size)
      clear b6 o6
      go_wp2_with fail
      go_ret2
      exact ⟨B6.out, _, by rw [PE.out]; rfl, by rw [PE.out, ← FF.out]; exact O6.out⟩
  exact key _ rfl
end Go.Proofs.YtekaboomhljdoaaGreatDoor.Sh
namespace Go.Proofs.YtekaboomhljdoaaGreatDoor.Sh
open Lb Go.RowKit Go.Lib

end Go.Proofs.YtekaboomhljdoaaGreatDoor.Sh
namespace Go.Proofs.YtekaboomhljdoaaGreatDoor.Sh
open Lb Go.RowKit Go.Lib

end Go.Proofs.YtekaboomhljdoaaGreatDoor.Sh
namespace Go.Proofs.YtekaboomhljdoaaGreatDoor.Sh
open Lb Go.RowKit Go.Lib

end Go.Proofs.YtekaboomhljdoaaGreatDoor.Sh
namespace Go.Proofs.YtekaboomhljdoaaGreatDoor.Sh
open Lb Go.RowKit Go.Lib

set_option maxHeartbeats 4000000 in
set_option maxRecDepth 100000 in
/-- two rows of records that are the same -/
theorem recs_same (ao bo : Option Addr) (l : List Rcd) (n c d : Nat) (w : World) (h1 : Frw w ao l) (h2 : Frw w bo l) (hl : l.length = n) (hc : n ≤ c) (hcc : c ≤ 9223372036854775807) (hd : n ≤ d) :
    Calls Tryz.prog 17 #[.slice ao n c, .slice bo n d] w fun e w' => e = .returned (.bool true) ∧ Below w.heap.size w w' := by
  have H1 := Lib.hid h1
  have H2 := Lib.hid h2
  have HL := Lib.hid hl
  clear h1 h2 hl
  go_enter Tryz.func17, Tryz.ntmps17
  go_wp2_with fail
  go_loopw [5] (fun vi wr => ∃ i : Nat, i ≤ n ∧ vi = .int .i64 i ∧ Hid (Below w.heap.size w wr)) (fun vi _ => n - (RowKit.intOf vi).toNat)
  case atStart => exact ⟨0, by omega, rfl, Below.refl _ w⟩
  case round =>
    obtain ⟨i, hi, rfl, hB⟩ := hrel
    by_cases hin : i < n
    · obtain ⟨x, hx⟩ : ∃ x, l[i]? = some x := ⟨_, List.getElem?_eq_getElem (by have := HL.out; omega)⟩
      have hne : l ≠ [] := fun h0 => by rw [h0] at hx; simp at hx
      obtain ⟨b, o, rfl, hb, k⟩ := (H1.out.below hB.out) hne
      obtain ⟨b2, o2, rfl, hb2, k2⟩ := (H2.out.below hB.out) hne
      obtain ⟨a, ca, x0, x1, x2, x3, x4, _, _⟩ := k i x hx
      obtain ⟨a', ca', y0, y1, y2, y3, y4, _, _⟩ := k2 i x hx
      have CS := Lib.hid (same_quiet a a' x.2 ca ca' wr x3 y3 x4 y4)
      have q1 : (0 : Int) ≤ (i : Int) := by omega
      have q2 : (i : Int) < (n : Int) := by omega
      generalize keyS (x.1.toNat : Nat) x.2 = K at *
      clear x3 x4 y3 y4 hb hb2 hx hne k k2
      go_wp2_with fail
      go_quiet ((go_at_call 43; with_reducible exact Calls.quiet_of_same (CS.out _ ⟨_, rfl⟩)))
      generalize hwv : wr.drewN nq = wv at *
      have hB2 : Hid (Below w.heap.size w wv) := by show Below _ _ _; rw [← hwv]; exact below_drewN hB.out _
      clear hwv hB
      go_wp2_with fail
      go_roundw
      case rel => exact ⟨i + 1, by omega, by go_num, hB2⟩
      case measure => simp [RowKit.intOf]; omega
    · obtain rfl : i = n := by omega
      go_wp2_with fail
      go_ret
      exact ⟨rfl, hB.out⟩
end Go.Proofs.YtekaboomhljdoaaGreatDoor.Sh
namespace Go.Proofs.YtekaboomhljdoaaGreatDoor.Sh
open Lb Go.RowKit Go.Lib

/-- data older than B -/
def DatO (B : Nat) (w : World) (u : Value) (d : List UInt8) : Prop :=
  ∃ a c, u = .slice a d.length c ∧ Byt w a d ∧ (a = none → c = 0) ∧ d.length ≤ c ∧ c ≤ 9223372036854775807 ∧ (d ≠ [] → ∀ b o, a = some ⟨b, o, none⟩ → b < B)
/-- a row of records of the call's own, whose data are older -/
def OwnO (B : Nat) (w : World) (l : List Rcd) (v : Value) : Prop :=
  ∃ us, us.length = l.length ∧ w.ownsRow B 29 3 v l.length (recsC l us) ∧ ∀ j (h : j < l.length), ∃ u, us[j]? = some u ∧ DatO B w u l[j].2
theorem owno_f {B : Nat} {w : World} {l : List Rcd} {v : Value} (h : OwnO B w l v) : OwnG B B w l v := by
  obtain ⟨us, h1, h2, h3⟩ := h
  exact ⟨us, h1, h2, fun j hj => by obtain ⟨u, hu, hd⟩ := h3 j hj; exact ⟨u, hu, Or.inr hd⟩⟩
theorem owno_nil (B : Nat) (w : World) : OwnO B w [] (.slice none 0 0) := ⟨[], rfl, World.ownsRow_nil _ _ _ _, fun _ h => absurd h (Nat.not_lt_zero _)⟩
theorem datO_kept {B : Nat} {w w' : World} {u v : Value} {d : List UInt8} {e : TypeId} {s n : Nat} {xs : List Value} (h : DatO B w u d) (ho : w.ownsRow B e s v n xs) (hg : w.grownBy w' v.ownBlock) : DatO B w' u d := by
  obtain ⟨a, c, h1, h2, h3, h4, h5, h6⟩ := h
  refine ⟨a, c, h1, byt_grown h2 hg (fun hd b o hb hv => ?_), h3, h4, h5, h6⟩
  have := (World.ownsRow.lt ho b hv.symm).1
  have := h6 hd b o hb
  omega
theorem datO_below {B : Nat} {w w' : World} {u : Value} {d : List UInt8} (h : DatO B w u d) (hb : Below w.heap.size w w') : DatO B w' u d := by
  obtain ⟨a, c, h1, h2, h3, h4, h5, h6⟩ := h
  exact ⟨a, c, h1, h2.below hb, h3, h4, h5, h6⟩
theorem owno_below {B : Nat} {w w' : World} {l : List Rcd} {v : Value} (h : OwnO B w l v) (hb : Below w.heap.size w w') : OwnO B w' l v := by
  obtain ⟨us, h1, h2, h3⟩ := h
  exact ⟨us, h1, row_below h2 hb, fun j hj => by obtain ⟨u, hu, hd⟩ := h3 j hj; exact ⟨u, hu, datO_below hd hb⟩⟩
theorem owno_kept {B : Nat} {w w' : World} {l : List Rcd} {v u : Value} {e : TypeId} {s n : Nat} {xs : List Value} (h : OwnO B w l v) (ho : w.ownsRow B e s u n xs) (he : 29 ≠ e) (hg : w.grownBy w' u.ownBlock) : OwnO B w' l v := by
  obtain ⟨us, h1, h2, h3⟩ := h
  exact ⟨us, h1, World.ownsRow.kept h2 hg (apartT h2 ho he), fun j hj => by obtain ⟨x, hx, hd⟩ := h3 j hj; exact ⟨x, hx, datO_kept hd ho hg⟩⟩
theorem owno_app {B : Nat} {w w' : World} {l : List Rcd} {v v' u : Value} {us : List Value} {x : Rcd} (h1 : us.length = l.length) (ho : w.ownsRow B 29 3 v l.length (recsC l us)) (h3 : ∀ j (h : j < l.length), ∃ u, us[j]? = some u ∧ DatO B w u l[j].2) (hu : DatO B w u x.2)
    (hown : w'.ownsRow B 29 3 v' (l.length + 1) (recsC l us ++ recC x u)) (hg : w.grownBy w' v.ownBlock) : OwnO B w' (l ++ [x]) v' := by
  refine ⟨us ++ [u], by simp [h1], ?_, fun j hj => ?_⟩
  · rw [recsC_snoc h1, List.length_append, List.length_singleton]
    exact hown
  · rw [List.length_append, List.length_singleton] at hj
    rcases Nat.lt_or_ge j l.length with h | h
    · obtain ⟨y, hy, hd⟩ := h3 j h
      refine ⟨y, by rw [List.getElem?_append_left (by omega)]; exact hy, ?_⟩
      rw [List.getElem_append_left h]
      exact datO_kept hd ho hg
    · obtain rfl : j = l.length := by omega
      refine ⟨u, by rw [← h1]; simp, ?_⟩
      rw [List.getElem_append_right (Nat.le_refl _)]
      simp only [Nat.sub_self, List.getElem_singleton]
      exact datO_kept hu ho hg
theorem wpl_appo {w : World} {ops : Array Oper} {rest : List Oper} {o : Oper} {a : Act} {Q : Exit → Act → World → Prop} (hgd : o.guard = none) (s x : Operand)
    (ho : o.op = .call { callee := .builtin .append, args := #[s, x], argTypes := #[38, 38] })
    (B : Nat) (v u : Value) (l : List Rcd) (r : Rcd) (hs : a.eval s = v) (hown : OwnO B w l v) (hu : DatO B w u r.2)
    (g : Nat) (hx : a.eval x = .slice (some ⟨g, 0, none⟩) 1 1) (hb : Blk w g (recC r u) 29) (hn : l.length + 1 ≤ 1000000000) (hbase : B ≤ w.heap.size)
    (h : ∀ v' w', OwnO B w' (l ++ [r]) v' → w.grownBy w' v.ownBlock → wpList Tryz.prog ops Q rest (a.put o.dst v') w') : wpList Tryz.prog ops Q (o :: rest) a w := by
  obtain ⟨i0, hi, hz0, hz1, hz2⟩ := info_parts info29z
  obtain ⟨us, h1, h2, h3⟩ := hown
  refine wpList_append_own w hgd s x 38 ho B 29 i0 (.agg #[.int .i64 0, .string ⟨#[]⟩, .slice none 0 0]) 3 48 Tryz.underlying38 hi hz0 hz1 hz2 rfl (by decide) v l.length (recsC l us) hs h2 ⟨g, 0, none⟩ 1 1 (recC r u) hx (by rfl) (fun j y hj => ?_) ?_ (by unfold maxLen; omega) (by omega) hbase
    (fun v' w' k1 k2 _ => h v' w' (owno_app h1 h2 h3 hu k1 k2) k2)
  · rw [WideShapes.add_plain, Nat.zero_add, hb.cell]
    exact hj
  · intro y hy
    simp only [recC, List.mem_cons, List.not_mem_nil, or_false] at hy
    rcases hy with rfl | rfl | rfl
    · rfl
    · rfl
    · exact dat_one (Or.inr hu)
/-- the cells at an address read as rows of bytes -/
def Rws2 (w : World) (ao : Option Addr) (l : List (List UInt8)) : Prop :=
  l ≠ [] → ∃ b o, ao = some ⟨b, o, none⟩ ∧ b < w.heap.size ∧ ∀ j (h : j < l.length), ∃ aj cj, w.cell? ⟨b, o + j, none⟩ = some (.slice aj (l[j]).length cj) ∧ Byt w aj l[j] ∧ (aj = none → cj = 0) ∧ (l[j]).length ≤ cj ∧ cj ≤ 9223372036854775807
theorem Rws2.at {w : World} {ao : Option Addr} {l : List (List UInt8)} (h : Rws2 w ao l) (j : Nat) (hj : j < l.length) : ∃ b o, ao = some ⟨b, o, none⟩ ∧ b < w.heap.size ∧ ∃ aj cj, w.cell? ⟨b, o + j, none⟩ = some (.slice aj (l[j]).length cj) ∧ DatO w.heap.size w (.slice aj (l[j]).length cj) l[j] := by
  obtain ⟨b, o, h1, h2, h3⟩ := h (fun h0 => by rw [h0] at hj; simp at hj)
  obtain ⟨aj, cj, k1, k2, k3, k4, k5⟩ := h3 j hj
  refine ⟨b, o, h1, h2, aj, cj, k1, aj, cj, rfl, k2, k3, k4, k5, fun hd b' o' ha => ?_⟩
  obtain ⟨b2, o2, e1, e2, _⟩ := k2 hd
  rw [e1] at ha
  injection ha with ha
  injection ha with ha
  omega
theorem all_small (k : UInt8) (ls : List (List UInt8)) (h : ∀ l ∈ ls, l.length ≤ 300) : (Fr.allL k ls).length ≤ 316 * ls.length := by
  induction ls with
  | nil => simp [Fr.allL]
  | cons l r ih =>
    rw [Fr.allL_cons, List.length_append, Fr.frL_len, List.length_cons]
    have := putL_len l.length
    have := h l (by simp)
    have := ih fun x hx => h x (by simp [hx])
    omega
theorem kb_nat (k : UInt8) : kb (k.toNat : Int) = k := by
  apply UInt8.toNat_inj.1
  have := k.toNat_lt
  show ((k.toNat : Int) % 256).toNat % 256 = k.toNat
  omega
set_option maxRecDepth 100000 in
theorem slice_to34 (ao : Option Addr) (len c n : Nat) (hn : n ≤ c) (W : World) : (Instr.slice 38 (.slice ao len c) none (some (.int .i64 (n : Int))) none).run Tryz.prog W = .ok (.slice ao n c) W := by
  have hs := run_slice_h (P := Tryz.prog) W 38 ao len c (by rw [Tryz.underlying38]; rfl) .i64 (n : Int) (by omega) (by omega)
  rw [hs]
  have e2 : ((n : Int)).toNat = n := by omega
  have e3 : Tryz.prog.elem 38 = 29 := by kernel_rfl
  rw [e2, e3]
  cases ao with
  | none => simp [Tryz.sizeOf29, sliced, Result.andThen]
  | some a => simp [Tryz.sizeOf29, sliced, Result.andThen, add_zero]
end Go.Proofs.YtekaboomhljdoaaGreatDoor.Sh
namespace Go.Proofs.YtekaboomhljdoaaGreatDoor.Sh
open Lb Go.Proofs.YtekaboomhljdoaaGreatDoor.Pc Go.RowKit Go.Lib
open Go.Proofs.YtekaboomhljdoaaGreatDoor.Dk hiding Blk made_any size_any below_chain

theorem hold_mix {V0 V V1 : Nat → List UInt8} {a : Nat} {rs qs : List Rcd} (h0 : Hold V0 a rs) (h : Hold V a (rs ++ qs)) (hm : ∀ i, i < 64 → V1 (a + i) = V (a + i) ∨ V1 (a + i) = V0 (a + i)) (l0 : ∀ i, i < 64 → (V0 (a + i)).length = 256) (l : ∀ i, i < 64 → (V (a + i)).length = 256) (hf : (allR rs).length ≤ 16384) : Hold V1 a rs := by
  have l1 : ∀ i, i < 64 → (V1 (a + i)).length = 256 := fun i hi => by
    rcases hm i hi with e | e <;> rw [e]
    · exact l i hi
    · exact l0 i hi
  have hF1 := flat_len l1
  have hF0 := flat_len l0
  have hF := flat_len l
  have g : ∀ j, j < (allR rs).length → (flat V1 a 64)[j]? = (allR rs)[j]? := fun j hj => by
    have k0 : (flat V0 a 64)[j]? = (allR rs)[j]? := by
      have := congrArg (fun x : List UInt8 => x[j]?) h0
      rw [List.getElem?_take_of_lt hj] at this
      exact this
    have k : (flat V a 64)[j]? = (allR rs)[j]? := by
      have := congrArg (fun x : List UInt8 => x[j]?) h
      rw [allR_app, List.length_append, List.getElem?_take_of_lt (by omega), List.getElem?_append_left hj] at this
      exact this
    rw [flat_get l1 j (by omega)]
    rcases hm (j / 256) (by omega) with e | e
    · rw [e, ← flat_get l j (by omega)]
      exact k
    · rw [e, ← flat_get l0 j (by omega)]
      exact k0
  unfold Hold
  apply List.ext_getElem?
  intro j
  rcases Nat.lt_or_ge j (allR rs).length with hj | hj
  · rw [List.getElem?_take_of_lt hj]
    exact g j hj
  · rw [List.getElem?_eq_none (by rw [List.length_take]; omega), List.getElem?_eq_none hj]
theorem dat_o {B : Nat} {w : World} {u : Value} {d : List UInt8} (h : DatO B w u d) : DatK B w u d := Or.inr h
/-- a law's own row beside a pack: it is kept by what turns the pack -/
theorem owno_fr {B : Nat} {w w' : World} {l : List Rcd} {v : Value} {L : List Nat} (h : OwnO B w l v) (hf : Fr w w' L) (hB : ∀ b ∈ L, B ≤ b) (hv : ∀ q, v.ownBlock = some q → q ∉ L) : OwnO B w' l v := by
  obtain ⟨us, h1, ⟨k1, k2⟩, h3⟩ := h
  refine ⟨us, h1, ⟨k1, ?_⟩, fun j hj => ?_⟩
  · rcases k2 with k2 | ⟨g, cap, cur, rfl, hb, hg, rest⟩
    · exact Or.inl k2
    · exact Or.inr ⟨g, cap, cur, rfl, hb, (hf.block g (Array.getElem?_eq_some_iff.1 hg).1 (hv g rfl)).trans hg, rest⟩
  · obtain ⟨u, hu, a, c, m1, m2, m3, m4, m5, m6⟩ := h3 j hj
    refine ⟨u, hu, a, c, m1, fun hne => ?_, m3, m4, m5, m6⟩
    obtain ⟨b, o, n1, n2, n3⟩ := m2 hne
    have hb := m6 hne b o n1
    have hn : b ∉ L := fun hm => by have := hB b hm; omega
    exact ⟨b, o, n1, Nat.lt_of_lt_of_le n2 hf.size, fun j hj => (hf.cell (a := ⟨b, o + j, none⟩) n2 hn).trans (n3 j hj)⟩
set_option maxRecDepth 100000 in
/-- append of one record to it, as a step of a plain region; its block is the one that it was, or new -/
theorem wpl_appo2 {w : World} {ops : Array Oper} {rest : List Oper} {o : Oper} {a : Act} {Q : Exit → Act → World → Prop} (hgd : o.guard = none) (s x : Operand)
    (ho : o.op = .call { callee := .builtin .append, args := #[s, x], argTypes := #[38, 38] })
    (B : Nat) (v u : Value) (l : List Rcd) (r : Rcd) (hs : a.eval s = v) (hown : OwnO B w l v) (hu : DatO B w u r.2)
    (g : Nat) (hx : a.eval x = .slice (some ⟨g, 0, none⟩) 1 1) (hb : Blk w g (recC r u) 29) (hn : l.length + 1 ≤ 1000000000) (hbase : B ≤ w.heap.size)
    (h : ∀ v' w', OwnO B w' (l ++ [r]) v' → w.grownBy w' v.ownBlock → (v'.ownBlock = v.ownBlock ∨ v'.ownBlock = some w.heap.size) → wpList Tryz.prog ops Q rest (a.put o.dst v') w') : wpList Tryz.prog ops Q (o :: rest) a w := by
  obtain ⟨i0, hi, hz0, hz1, hz2⟩ := info_parts info29z
  obtain ⟨us, h1, h2, h3⟩ := hown
  refine wpList_plain hgd fun K hK => ?_
  refine wp_append_fresh s x 38 ho B 29 i0 (.agg #[.int .i64 0, .string ⟨#[]⟩, .slice none 0 0]) 3 48 Tryz.underlying38 hi hz0 hz1 hz2 rfl (by decide) v l.length (recsC l us) hs h2 ⟨g, 0, none⟩ 1 1 (recC r u) hx (by rfl) (fun j y hj => ?_) ?_ (by unfold maxLen; omega) (by omega) hbase (by decide)
    (fun v' w' k1 k2 k3 => hK _ _ (h v' w' (owno_app h1 h2 h3 hu k1 k2) k2 k3))
  · rw [WideShapes.add_plain, Nat.zero_add, hb.cell]
    exact hj
  · intro y hy
    simp only [recC, List.mem_cons, List.not_mem_nil, or_false] at hy
    rcases hy with rfl | rfl | rfl
    · rfl
    · rfl
    · exact dat_one (dat_o hu)
/-- a pack is kept by what turns a row that is not its own -/
theorem pst_grown {B : Nat} {w w' : World} {g sa mb p : Nat} {low : Int} {N a : Nat} {V : Nat → List UInt8} {S : List (List UInt8)} {pw : Bool} {m : Nat} {rs qs : List Rcd} {sh : Bool} {v : Value} (h : Pst B w g sa mb p low N a V S pw m rs sh) (ho : OwnO B w qs v) (hg : w.grownBy w' v.ownBlock) (hv : ∀ q, v.ownBlock = some q → q ∉ rowsOf w p) : Pst B w' g sa mb p low N a V S pw m rs sh ∧ rowsOf w' p = rowsOf w p := by
  obtain ⟨us, _, ho2, _⟩ := ho
  have hF : Fr w w' v.ownBlock.toList := ⟨hg.os, hg.tape, hg.output, hg.size, fun i hi hn => hg.block i hi (fun e => hn (by rw [← e]; simp))⟩
  obtain ⟨vr, vp, h1, ⟨us2, h2, h2o, h2d⟩, h3⟩ := h.pac.row
  have hty : ∀ q, v.ownBlock = some q → ∃ cur, w.heap[q]? = some (.cells cur 29 (0, 0)) := fun q hq => (own_type ho2 hq).2.2
  obtain ⟨k, D, wr, d, hdr⟩ := h.dev.dev
  have np : p ∉ v.ownBlock.toList := fun hm => by
    obtain ⟨cur, e⟩ := hty p (by simpa using hm)
    rw [show w.heap[p]? = _ from h1] at e
    injection e with e
    injection e with _ e
    exact absurd e (by decide)
  have ng : g ∉ v.ownBlock.toList := fun hm => by
    obtain ⟨cur, e⟩ := hty g (by simpa using hm)
    rw [show w.heap[g]? = _ from d.dv] at e
    injection e with e
    injection e with _ e
    exact absurd e (by decide)
  have nsa : sa ∉ v.ownBlock.toList := fun hm => by
    obtain ⟨cur, e⟩ := hty sa (by simpa using hm)
    rw [show w.heap[sa]? = _ from d.sec] at e
    injection e with e
    injection e with _ e
    exact absurd e (by decide)
  have nmb : mb ∉ v.ownBlock.toList := fun hm => by
    obtain ⟨cur, e⟩ := hty mb (by simpa using hm)
    obtain ⟨es, cl, hb, F⟩ := d.map
    rw [hb] at e
    cases e
  have hrow := rowsOf_pk h1
  have h1' := h1.fr hF np
  have apr : vr.ownBlock = none ∨ vr.ownBlock ≠ v.ownBlock := by
    cases hq : vr.ownBlock with
    | none => exact Or.inl rfl
    | some q => exact Or.inr fun e => hv q e.symm (by rw [hrow, hq]; simp)
  have keepD : ∀ j (hj : j < rs.length), ∃ u, us2[j]? = some u ∧ DatK 0 w' u rs[j].2 := fun j hj => by
    obtain ⟨u, hu, hd⟩ := h2d j hj
    refine ⟨u, hu, ?_⟩
    rcases hd with hd | ⟨a, c, m1, m2, m3, m4, m5, m6⟩
    · exact Or.inl (World.ownsRow.kept hd hg (apartT hd ho2 (by decide)))
    · refine Or.inr ⟨a, c, m1, fun hne => ?_, m3, m4, m5, m6⟩
      obtain ⟨b, o, n1, _, _⟩ := m2 hne
      exact absurd (m6 hne b o n1) (Nat.not_lt_zero _)
  refine ⟨⟨h.dev.fr hF ng nsa nmb, ⟨⟨vr, vp, h1', ⟨us2, h2, World.ownsRow.kept h2o hg apr, keepD⟩, World.ownsRow.kept h3 hg (apartT h3 ho2 (by decide))⟩, h.pac.base, h.pac.fit, h.pac.good⟩, h.hold, h.bg, h.in64⟩, ?_⟩
  rw [rowsOf_pk h1', hrow]
/-- a law's own row beside a pack -/
structure Kpt (B : Nat) (w : World) (p : Nat) (rs : List Rcd) (v : Value) : Prop where
  own : OwnO B w rs v
  off : ∀ q, v.ownBlock = some q → q ∉ rowsOf w p
theorem rows_later {w w' : World} {p : Nat} (h : p < w.heap.size) (hb : Below w.heap.size w w') : rowsOf w' p = rowsOf w p := by
  unfold rowsOf
  rw [hb.cell (p := ⟨p, 2, none⟩) h, hb.cell (p := ⟨p, 3, none⟩) h]
theorem Kpt.later {B : Nat} {w w' : World} {p : Nat} {rs : List Rcd} {v : Value} (h : Kpt B w p rs v) (hp : p < w.heap.size) (hb : Below w.heap.size w w') : Kpt B w' p rs v := ⟨owno_below h.own hb, by rw [rows_later hp hb]; exact h.off⟩
theorem owno_lt {B : Nat} {w : World} {rs : List Rcd} {v : Value} (h : OwnO B w rs v) {q : Nat} (hq : v.ownBlock = some q) : q < w.heap.size ∧ ∃ cur, w.heap[q]? = some (.cells cur 29 (0, 0)) := by
  obtain ⟨us, _, ho, _⟩ := h
  exact (own_type ho hq).2
/-- an append to the pack keeps the row -/
theorem Kpt.append {B : Nat} {w w' : World} {g sa mb p : Nat} {low : Int} {N a : Nat} {V : Nat → List UInt8} {S : List (List UInt8)} {m : Nat} {rs qs : List Rcd} {r : Rcd} {v : Value} {e : Ending} {pw : Bool} {sh : Bool} (h : Kpt B w p qs v) (hp : Pst B w g sa mb p low N a V S pw m rs sh) (ha : AnsT B w p g sa mb a low N V S m rs r e w') : Kpt B w' p qs v := by
  obtain ⟨_, hF, _, hR, _⟩ := ha
  have hrf := rows_far hp.pac hp.dev
  have hne : ∀ q, v.ownBlock = some q → q ∉ [p, g, sa, mb] := fun q hq hm => by
    obtain ⟨_, cur, e⟩ := owno_lt h.own hq
    obtain ⟨vr, vp, h1, _⟩ := hp.pac.row
    obtain ⟨k, D, wr, d, _⟩ := hp.dev.dev
    simp only [List.mem_cons, List.not_mem_nil, or_false] at hm
    rcases hm with rfl | rfl | rfl | rfl
    · rw [show w.heap[q]? = _ from h1] at e
      injection e with e
      injection e with _ e
      exact absurd e (by decide)
    · rw [show w.heap[q]? = _ from d.dv] at e
      injection e with e
      injection e with _ e
      exact absurd e (by decide)
    · rw [show w.heap[q]? = _ from d.sec] at e
      injection e with e
      injection e with _ e
      exact absurd e (by decide)
    · obtain ⟨es, cl, hb, F⟩ := d.map
      rw [hb] at e
      cases e
  refine ⟨owno_fr h.own hF (fun b hb => ?_) (fun q hq hm => ?_), fun q hq hm => ?_⟩
  · rcases List.mem_append.1 hb with hb | hb
    · simp only [List.mem_cons, List.not_mem_nil, or_false] at hb
      rcases hb with rfl | rfl | rfl | rfl
      · exact hp.pac.base
      · exact hp.bg.1
      · exact hp.bg.2.1
      · exact hp.bg.2.2
    · exact (hrf b hb).1
  · rcases List.mem_append.1 hm with hm | hm
    · exact hne q hq hm
    · exact h.off q hq hm
  · rcases hR q hm with hm | hm
    · exact h.off q hq hm
    · have := (owno_lt h.own hq).1
      omega
theorem bs_set (l : List UInt8) (i : Nat) (x : UInt8) : (bs l).set i (.int .u8 (x.toNat : Int)) = bs (l.set i x) := by simp [bs, List.map_set]
end Go.Proofs.YtekaboomhljdoaaGreatDoor.Sh
namespace Go.Proofs.YtekaboomhljdoaaGreatDoor.Sh
open Lb Go.Proofs.YtekaboomhljdoaaGreatDoor.Pc Go.RowKit Go.Lib
open Go.Proofs.YtekaboomhljdoaaGreatDoor.Dk hiding Blk made_any size_any below_chain

section
variable {B : Nat} {w w' : World} {p g sa mb a N m : Nat} {rs qs : List Rcd} {sh : Bool} {low : Int} {V : Nat → List UInt8} {S : List (List UInt8)} {pw : Bool} {v : Value} {L : List Nat}
theorem owno_far (h : OwnO B w rs v) (hF : Fr w w' L) (hL : Far B w L) : OwnO B w' rs v :=
  owno_fr h hF (fun b hb => (hL b hb).1) (fun q hq hm => by
    obtain ⟨_, cur, e⟩ := owno_lt h hq
    exact ((hL q hm).2 cur 29 e).1 rfl)
theorem rows_fr (hF : Fr w w' L) (hp : p ∉ L) (hl : p < w.heap.size) : rowsOf w' p = rowsOf w p := by
  unfold rowsOf
  rw [hF.cell (a := ⟨p, 2, none⟩) hl hp, hF.cell (a := ⟨p, 3, none⟩) hl hp]
theorem Kpt.dev (h : Kpt B w p qs v) (hp : Pst B w g sa mb p low N a V S pw m rs sh) (hF : Fr w w' [g, sa, mb]) : Kpt B w' p qs v :=
  ⟨owno_far h.own hF (far_dev hp.dev hp.bg.1 hp.bg.2.1 hp.bg.2.2), by rw [rows_fr hF (pac_dev hp.pac hp.dev) hp.pac.lt]; exact h.off⟩
theorem keep_old {ao : Option Addr} {ks : List Int} {w0 : World} (h : Zrw w0 ao ks) (hb : Below w0.heap.size w0 w) (h1 : w0.heap.size ≤ sa) (h2 : w0.heap.size ≤ mb) : Keep w ao [sa, mb] ks := fun hne => by
  obtain ⟨b, o, e, hlt, hc⟩ := h hne
  refine ⟨b, o, e, Nat.lt_of_lt_of_le hlt hb.size, by simp; omega, fun j hj => ?_⟩
  exact (hb.cell (p := ⟨b, o + j, none⟩) hlt).trans (hc j hj)
/-- the append of a record without data, where there is no power -/
theorem append_off (h : Pac B w p g a rs false) (hD : Dev w g sa mb low N V S false m) (a0 a1 : Addr) (hE : Env w a0 a1) {k : Int} {ks : ByteArray} {ao : Option Addr} {n c : Nat} {d : List UInt8} (hd : Byt w ao d) (hn : ao = none → c = 0) (hl : d.length = n) (hn63 : n ≤ 9223372036854775807) (h0 : putE k ks d = 0) :
    Calls Tryz.prog 13 #[.pointer (some ⟨p, 0, none⟩), .agg #[.int .i64 k, .string ks, .slice ao n c]] w fun e w' => (∃ z : Int, (z = 91 ∨ z = 100) ∧ e = .returned (.tuple #[.int .i64 0, .int .i64 z])) ∧ Fr w w' [p] := by
  rcases Nat.lt_or_ge 16384 ((allR rs).length + (Fr.frL (kb k) d).length) with hf | hf
  · refine (append_full h a0 a1 hE hd hn hl hn63 h0 (by unfold roomN; simp only [Bool.false_eq_true, if_false]; omega)).mono ?_
    rintro e w' ⟨rfl, hb⟩
    exact ⟨⟨100, .inr rfl, rfl⟩, fr_below hb [p]⟩
  · refine (append_dead h hD a0 a1 hE hd hn hl hn63 h0 hf).mono ?_
    rintro e w' ⟨rfl, hF, _⟩
    exact ⟨⟨91, .inl rfl, rfl⟩, hF⟩
/-- an append, whether it fits or not -/
def AnsU (B : Nat) (w : World) (p g sa mb a : Nat) (low : Int) (N : Nat) (V : Nat → List UInt8) (S : List (List UInt8)) (m : Nat) (rs qs : List Rcd) (v : Value) (r : Rcd) (e : Ending) (w' : World) : Prop :=
  Kpt B w' p qs v ∧ Below B w w' ∧ ∃ (V' : Nat → List UInt8) (rs' : List Rcd), Pst B w' g sa mb p low N a V' S true (m + 65) rs' false ∧
    ((e = .returned (.tuple #[.int .i64 (((allR rs).length : Nat) : Int), .int .i64 0]) ∧ rs' = rs ++ [r] ∧ V' = appV V a (allR rs).length (recB r) ∧ (allR rs).length + (recB r).length ≤ 16384) ∨ (e = .returned (.tuple #[.int .i64 0, .int .i64 100]) ∧ rs' = rs ∧ V' = V ∧ 16384 < (allR rs).length + (recB r).length))
theorem append_some (h : Pst B w g sa mb p low N a V S true m rs false) (hq : Kpt B w p qs v) (hlo : low ≤ (a : Int)) (hm : m ≤ 900000) (a0 a1 : Addr) (hE : Env w a0 a1) {k : Int} {ks : ByteArray} {ao : Option Addr} {n c : Nat} {d : List UInt8} (hd : Byt w ao d) (hn : ao = none → c = 0) (hl : d.length = n) (hn63 : n ≤ 9223372036854775807) (h0 : putE k ks d = 0) :
    Calls Tryz.prog 13 #[.pointer (some ⟨p, 0, none⟩), .agg #[.int .i64 k, .string ks, .slice ao n c]] w (AnsU B w p g sa mb a low N V S m rs qs v (kb k, d)) := by
  rcases Nat.lt_or_ge 16384 ((allR rs).length + (recB (kb k, d)).length) with hf | hf
  · refine (append_full h.pac a0 a1 hE hd hn hl hn63 h0 (by unfold roomN; simp only [Bool.false_eq_true, if_false]; rw [show (Fr.frL (kb k) d) = recB (kb k, d) from rfl]; omega)).mono ?_
    rintro e w' ⟨rfl, hb⟩
    have hs := h.later hb
    exact ⟨hq.later h.pac.lt hb, hb.mono (Nat.le_trans h.pac.base (Nat.le_of_lt h.pac.lt)), V, rs, ⟨hs.dev.mono (by omega), hs.pac, hs.hold, hs.bg, hs.in64⟩, .inr ⟨rfl, rfl, rfl, hf⟩⟩
  · refine (append_st h hlo hm a0 a1 hE hd hn hl hn63 h0 hf).mono ?_
    intro e w' hA
    have hk := hq.append h hA
    obtain ⟨e1, _, h1, _, h2⟩ := hA
    exact ⟨hk, h2, _, _, h1, .inl ⟨e1, rfl, rfl, hf⟩⟩
end
end Go.Proofs.YtekaboomhljdoaaGreatDoor.Sh
namespace Go.Proofs.YtekaboomhljdoaaGreatDoor.Sh
open Lb Go.Proofs.YtekaboomhljdoaaGreatDoor.Pc Go.RowKit Go.Lib
open Go.Proofs.YtekaboomhljdoaaGreatDoor.Dk hiding Blk made_any size_any below_chain

set_option maxHeartbeats 4000000 in
set_option maxRecDepth 100000 in
theorem begins_any (ao bo : Option Addr) (rs ts : List Rcd) (n m c d : Nat) (w : World) (h1 : Frw w ao (rs ++ ts)) (h2 : Frw w bo rs) (hn : (rs ++ ts).length = n) (hm : rs.length = m) (hc : n ≤ c) (hcc : c ≤ 9223372036854775807) (hd : m ≤ d) :
    Calls Tryz.prog 25 #[.slice ao n c, .slice bo m d] w fun e w' => e = .returned (.bool true) ∧ Below w.heap.size w w' := by
  have nm : m ≤ n := by rw [← hn, ← hm, List.length_append]; omega
  have H3 := h1.take m
  rw [← hm, List.take_left] at H3
  have t1 : decide ((m : Int) ≤ (n : Int)) = true := by simpa using nm
  have mI : (m : Int) ≤ (n : Int) := by omega
  have SL := slice_to34 ao n c m (by omega)
  have CS := Lib.hid (recs_same ao bo rs m c d w H3 h2 hm (by omega) hcc hd)
  clear h1 h2 hn hm hc hcc hd nm H3
  go_enter Tryz.func25, Tryz.ntmps25
  go_wp2_with fail
  refine CS.out.mono ?_
  rintro e w1 ⟨rfl, b1⟩
  go_wp2_with fail
  go_ret
  exact ⟨rfl, b1⟩
end Go.Proofs.YtekaboomhljdoaaGreatDoor.Sh
namespace Go.Proofs.YtekaboomhljdoaaGreatDoor.Sh
open Lb Go.Proofs.YtekaboomhljdoaaGreatDoor.Pc Go.RowKit Go.Lib
open Go.Proofs.YtekaboomhljdoaaGreatDoor.Dk hiding Blk made_any size_any below_chain

/-- records of a kind -/
def mk (k : UInt8) (ls : List (List UInt8)) (i : Nat) : List Rcd := (ls.take i).map fun l => (k, l)
theorem mk_next (k : UInt8) {ls : List (List UInt8)} {i : Nat} {l : List UInt8} (h : ls[i]? = some l) : mk k ls (i + 1) = mk k ls i ++ [(k, l)] := by
  unfold mk
  rw [take_one h]
  simp
theorem rec_small (k : UInt8) (l : List UInt8) (h : l.length ≤ 300) : (recB (k, l)).length ≤ 316 := by
  have := putL_len l.length
  rw [recB_len]
  simp only
  omega
theorem rws_at {w : World} {ao : Option Addr} {ls : List (List UInt8)} (h : Rws2 w ao ls) {i : Nat} (hi : i < ls.length) : ∃ b o l aj cj, ao = some ⟨b, o, none⟩ ∧ b < w.heap.size ∧ ls[i]? = some l ∧ w.cell? ⟨b, o + i, none⟩ = some (.slice aj l.length cj) ∧ Byt w aj l ∧ (aj = none → cj = 0) ∧ l.length ≤ cj ∧ cj ≤ 9223372036854775807 ∧ DatO w.heap.size w (.slice aj l.length cj) l := by
  obtain ⟨b, o, h1, h2, h3⟩ := h (fun h0 => by rw [h0] at hi; simp at hi)
  obtain ⟨aj, cj, h4, h5, h6, h7, h8⟩ := h3 i hi
  refine ⟨b, o, ls[i], aj, cj, h1, h2, List.getElem?_eq_getElem hi, h4, h5, h6, h7, h8, aj, cj, rfl, h5, h6, h7, h8, fun hne b2 o2 e => ?_⟩
  obtain ⟨b3, o3, e3, h9, _⟩ := h5 hne
  rw [e] at e3
  cases e3
  exact h9
/-- the device of sectors full of one byte, and the pack on it -/
def K1 (w : World) (B g sa mb p : Nat) (S : List (List UInt8)) (ls : List (List UInt8)) (v : Value) (wr : World) (i : Nat) : Prop :=
  ∃ V, Pst B wr g sa mb p 0 64 0 V S true (65 * i) (mk 1 ls i) false ∧ Kpt B wr p (mk 1 ls i) v ∧ Below w.heap.size w wr ∧ (allR (mk 1 ls i)).length ≤ 316 * i
theorem load64 (w : World) (b : Nat) (l : List UInt8) (c : Nat) (h : Byt w (some ⟨b, 0, none⟩) l) (hc : l.length ≤ c) (hl : l.length = 16384) (hc2 : c ≤ 9223372036854775807 := by omega) : Calls Tryz.prog 11 #[.slice (some ⟨b, 0, none⟩) l.length c, .int .i64 0] w fun e w' => Below w.heap.size w w' ∧ ∃ g sa mb V S, e = .returned (.tuple #[.pointer (some ⟨g, 0, none⟩), .int .i64 0]) ∧ w.heap.size ≤ g ∧ w.heap.size ≤ sa ∧ w.heap.size ≤ mb ∧ Dev w' g sa mb 0 64 V S true 0 := by
  refine Calls.mono (load_ok b 0 c 64 l.length l 0 w h rfl (by rw [hl]) (by decide) (by decide) (by decide) hc hc2) ?_
  rintro e w' ⟨hb, g, sa, mb, rfl, h1, h2, h3, hd⟩
  exact ⟨hb, g, sa, mb, _, _, rfl, h1, h2, h3, dev_made (low := 0) hd (secs_len _ _) (by decide) (by decide)⟩
theorem len_one {rs qs : List Rcd} (h : (rs ++ qs).length ≤ 3000) : rs.length + 1 ≤ 1000000000 := by rw [List.length_append] at h; omega
theorem k1_next {w w7 w8 : World} {g sa mb p i : Nat} {S : List (List UInt8)} {ls : List (List UInt8)} {d : List UInt8} {V : Nat → List UInt8} {u v : Value} (hm : mk 1 ls (i + 1) = mk 1 ls i ++ [(1, d)]) (hr : (recB (1, d)).length ≤ 316) (hz : (allR (mk 1 ls i)).length ≤ 316 * i)
    (hS : Pst w.heap.size w7 g sa mb p 0 64 0 V S true (65 * i + 65) (mk 1 ls i ++ [(1, d)]) false) (hQ : Kpt w.heap.size w7 p (mk 1 ls i) u) (hB : Below w.heap.size w w7) (hP : w.heap.size ≤ w7.heap.size) (hO : OwnO w.heap.size w8 (mk 1 ls i ++ [(1, d)]) v) (hg : w7.grownBy w8 u.ownBlock) (hN : v.ownBlock = u.ownBlock ∨ v.ownBlock = some w7.heap.size) : K1 w w.heap.size g sa mb p S ls v w8 (i + 1) := by
  obtain ⟨h1, h2⟩ := pst_grown hS hQ.own hg hQ.off
  unfold K1
  rw [hm]
  refine ⟨V, h1, ⟨hO, fun q hq => ?_⟩, ?_, ?_⟩
  · rw [h2]
    rcases hN with e | e
    · exact hQ.off q (by rw [← e]; exact hq)
    · rw [e] at hq
      injection hq with hq
      intro hm2
      have := (rows_far hS.pac hS.dev q hm2).2.1
      omega
  · obtain ⟨us, _, ho, _⟩ := hQ.own
    exact hB.grown hg hP (fun k hk => (World.ownsRow.lt ho k hk).1)
  · rw [allR_app, allR_one, List.length_append]
    omega
/-- behind the flush -/
def K2 (B : Nat) (w : World) (g sa mb p : Nat) (S : List (List UInt8)) (rs : List Rcd) (v : Value) (wr : World) (j : Nat) : Prop :=
  ∃ V qs m, Pst B wr g sa mb p 0 64 0 V S true m (rs ++ qs) false ∧ Kpt B wr p rs v ∧ Below w.heap.size w wr ∧ m ≤ 2000 + 65 * j
theorem Pst.more {B : Nat} {w : World} {g sa mb p a N m m2 : Nat} {low : Int} {V : Nat → List UInt8} {S : List (List UInt8)} {pw sh : Bool} {rs : List Rcd} (h : Pst B w g sa mb p low N a V S pw m rs sh) (hm : m ≤ m2) : Pst B w g sa mb p low N a V S pw m2 rs sh := ⟨h.dev.mono hm, h.pac, h.hold, h.bg, h.in64⟩
theorem k2_next {w w5 w6 : World} {g sa mb p j m : Nat} {S : List (List UInt8)} {rs qs : List Rcd} {r : Rcd} {v : Value} {V : Nat → List UInt8} {e : Ending} (hB : Below w.heap.size w w5) (hm : m ≤ 2000 + 65 * j) (h : AnsU w.heap.size w5 p g sa mb 0 0 64 V S m (rs ++ qs) rs v r e w6) :
    ∃ z1 z2 : Int, e = .returned (.tuple #[.int .i64 z1, .int .i64 z2]) ∧ K2 w.heap.size w g sa mb p S rs v w6 (j + 1) := by
  obtain ⟨hk, hb, V', rs', hs, ⟨rfl, rfl, _, _⟩ | ⟨rfl, rfl, _, _⟩⟩ := h
  · exact ⟨_, _, rfl, V', qs ++ [r], m + 65, by rw [← List.append_assoc]; exact hs, hk, hB.trans hb, by omega⟩
  · exact ⟨_, _, rfl, V', qs, m + 65, hs, hk, hB.trans hb, by omega⟩
theorem make_noughts (w : World) (n : Nat) (hn : n ≤ 1000000) (ni : Int) (hni : ni = n) : ∃ Z l, (l : List UInt8).length = n ∧ (Instr.makeSlice 24 (.int .i64 ni) (.int .i64 ni)).run Tryz.prog w = .ok (.slice (some ⟨w.heap.size, 0, none⟩) n n) (w.alloc (.cells Z 5)) ∧ Blk (w.alloc (.cells Z 5)) w.heap.size (bs l) 5 := by
  subst hni
  obtain ⟨i0, hi, hz0, hz1, hz2⟩ := info_parts info5
  have hmk := run_make w 24 5 i0 (.int .u8 0) Tryz.underlying24 hi hz0 .i64 .i64 (n : Int) (n : Int) (by omega) (by omega) (by rw [hz2]; omega) (by omega)
  rw [hz1, Int.toNat_natCast, Nat.mul_one] at hmk
  have hZ := noughts n
  generalize madeCells (Value.int .u8 0).cells n = Z at *
  refine ⟨Z, List.replicate n 0, List.length_replicate, hmk, ?_⟩
  have := Blk.new w (bs (List.replicate n 0)) 5 w.heap.size rfl
  rw [← hZ] at this ⊢
  exact this
set_option maxHeartbeats 8000000 in
set_option maxRecDepth 100000 in
theorem keeps_law (f : UInt8) (ao1 ao2 ao3 : Option Addr) (l1 l2 : List (List UInt8)) (ks : List Int) (n1 n2 n3 c1 c2 c3 : Nat) (a0 a1 : Addr) (w : World) (hE : Env w a0 a1) (h1 : Rws2 w ao1 l1) (h2 : Rws2 w ao2 l2) (h3 : Zrw w ao3 ks) (e1 : l1.length = n1) (e2 : l2.length = n2) (e3 : ks.length = n3) (hk : ∀ x ∈ ks, -9223372036854775808 ≤ x ∧ x ≤ 9223372036854775807) :
    Calls Tryz.prog 6 #[.int .u8 (f.toNat : Int), .slice ao1 n1 c1, .slice ao2 n2 c2, .slice ao3 n3 c3] w fun e w' => e = .returned (.bool true) ∧ Below w.heap.size w w' := by
  have E0 := Lib.hid hE
  have CH := Lib.hid (fun W (hb : Below w.heap.size w W) => heads_any a0 a1 W (hE.below hb))
  have B0 := Lib.hid (Below.refl w.heap.size w)
  clear hE
  by_cases g1 : n1 ≤ 30
  case neg =>
    have d1 : decide ((30 : Int) < (n1 : Int)) = true := by simp; omega
    clear h1 h2 h3 e1 e2 e3 hk g1
    go_enter Tryz.func6, Tryz.ntmps6
    go_wp2_with fail
    refine (CH.out _ B0.out).mono ?_
    rintro e w1 ⟨rfl, b1⟩
    go_wp2_with fail
    go_ret
    exact ⟨rfl, b1⟩
  by_cases g2 : n2 ≤ 30
  case neg =>
    have d1 : decide ((30 : Int) < (n1 : Int)) = false := by simp; omega
    have d2 : decide ((30 : Int) < (n2 : Int)) = true := by simp; omega
    clear h1 h2 h3 e1 e2 e3 hk g1 g2
    go_enter Tryz.func6, Tryz.ntmps6
    go_wp2_with fail
    refine (CH.out _ B0.out).mono ?_
    rintro e w1 ⟨rfl, b1⟩
    go_wp2_with fail
    go_ret
    exact ⟨rfl, b1⟩
  by_cases g3 : n3 ≤ 100
  case neg =>
    have d1 : decide ((30 : Int) < (n1 : Int)) = false := by simp; omega
    have d2 : decide ((30 : Int) < (n2 : Int)) = false := by simp; omega
    have d3 : decide ((100 : Int) < (n3 : Int)) = true := by simp; omega
    clear h1 h2 h3 e1 e2 e3 hk g1 g2 g3
    go_enter Tryz.func6, Tryz.ntmps6
    go_wp2_with fail
    refine (CH.out _ B0.out).mono ?_
    rintro e w1 ⟨rfl, b1⟩
    go_wp2_with fail
    go_ret
    exact ⟨rfl, b1⟩
  have d1 : decide ((30 : Int) < (n1 : Int)) = false := by simp; omega
  have d2 : decide ((30 : Int) < (n2 : Int)) = false := by simp; omega
  have d3 : decide ((100 : Int) < (n3 : Int)) = false := by simp; omega
  have H1 := Lib.hid h1
  have H2 := Lib.hid h2
  have H3 := Lib.hid h3
  have EL1 := Lib.hid e1
  have EL2 := Lib.hid e2
  have EL3 := Lib.hid e3
  have HKS := Lib.hid hk
  obtain ⟨NN, hNN⟩ : ∃ NN, NN = 16384 := ⟨_, rfl⟩
  have HNN := Lib.hid hNN
  have NB : NN ≤ 16384 := by omega
  obtain ⟨Z, lz, hll, hmk1, hG1⟩ := make_noughts w NN (by omega) 16384 (by omega)
  have HLZ := Lib.hid hll
  have G1 := Lib.hid hG1
  have A1 := Lib.hid (al1 w (.cells Z 5))
  clear h1 h2 h3 e1 e2 e3 hk hll hG1 hNN
  go_enter Tryz.func6, Tryz.ntmps6
  go_wp2_with fail
  generalize w.alloc (.cells Z 5) = w1 at *
  go_loopw [10] (fun vi wr => ∃ (i : Nat) (l : List UInt8), i ≤ NN ∧ vi = .int .i64 i ∧ l.length = NN ∧ Hid (Blk wr w.heap.size (bs l) 5) ∧ Hid (Below w.heap.size w wr)) (fun vi _ => NN - (RowKit.intOf vi).toNat)
  case atStart => exact ⟨0, lz, by omega, rfl, HLZ.out, G1.out, A1.out⟩
  case round =>
    obtain ⟨i, l, hi, rfl, hl, hB, hb⟩ := hrel
    by_cases hin : i < NN
    · have inI : (i : Int) < NN := by omega
      have i9 : (i : Int) + 1 ≤ 100000 := by omega
      have q0 : (0 : Int) ≤ (i : Int) := by omega
      have hil : i < l.length := by omega
      have b1 : wr.cell? ⟨w.heap.size, 0 + i, none⟩ = some (.int .u8 ((l[i]'hil).toNat : Int)) := by rw [Nat.zero_add, hB.out.cell, bs_get l i hil]
      have b2 : wr.cell? ⟨w.heap.size, i, none⟩ = some (.int .u8 ((l[i]'hil).toNat : Int)) := by rw [hB.out.cell, bs_get l i hil]
      have fz := hB.out.frozen i
      go_wp2_with fail
      go_roundw
      case rel => exact ⟨i + 1, l.set i f, by omega, by go_num, by rw [List.length_set]; exact hl, by have := hB.out.set i (.int .u8 (f.toNat : Int)); rw [bs_set] at this; exact this, hb.out.setCell (Nat.le_refl _) _⟩
      case measure => simp [RowKit.intOf]; omega
    · obtain rfl : i = NN := by omega
      have BB := Lib.hid hb.out
      have CL := Lib.hid (load64 wr w.heap.size l i hB.out.byt (Nat.le_of_eq hl) (by rw [hl]; exact HNN.out))
      rw [hl] at CL
      clear hB hb hin hi hl
      go_wp2_with fail
      refine CL.out.mono ?_
      rintro e w2 ⟨b2, g, sa, mb, V, S, rfl, h1, h2, h3, hd⟩
      have B2 := Lib.hid (below_chain BB.out b2)
      have D2 := Lib.hid hd
      have BG : Hid (w.heap.size ≤ g ∧ w.heap.size ≤ sa ∧ w.heap.size ≤ mb) := by have := BB.out.size; exact ⟨by omega, by omega, by omega⟩
      have CF := Lib.hid (show Calls Tryz.prog 12 #[.pointer (some ⟨g, 0, none⟩), .int .i64 0] w2 (AnsP w2 g 0 []) from fresh_ok (a := 0) hd (by decide) (by decide))
      clear b2 h1 h2 h3 hd CL BB
      go_wp2_with fail
      refine CF.out.mono ?_
      rintro e w3 ⟨b3, p, rfl, hp⟩
      have S3 : Hid (Pst w.heap.size w3 g sa mb p 0 64 0 V S true (65 * 0) [] false) := ⟨D2.out.later b3, hp.lower B2.out.size, hold_nil _ _, BG.out, by decide⟩
      have B3 := Lib.hid (below_chain B2.out b3)
      clear b3 hp CF D2 B2
      go_wp2_with fail
      go_loopw [15, 16] (fun v vi wr => ∃ i : Nat, i ≤ n1 ∧ vi = .int .i64 i ∧ Hid (K1 w w.heap.size g sa mb p S l1 v wr i)) (fun _ vi _ => n1 - (RowKit.intOf vi).toNat)
      case atStart => exact ⟨0, by omega, rfl, V, S3.out, ⟨owno_nil _ _, fun q hq => by cases hq⟩, B3.out, by simp [mk, allR]⟩
      case round =>
        obtain ⟨i, hi, rfl, hK⟩ := hrel
        by_cases hin : i < n1
        · obtain ⟨V', hS, hQ, hb, hsz⟩ := hK.out
          obtain ⟨b, o, d, aj, cj, rfl, hbl, hd, hc, hy, hjn, hjc, hjm, hdo⟩ := rws_at H1.out (i := i) (by have := EL1.out; omega)
          have d0 := (hb.cell (p := ⟨b, o + i, none⟩) hbl).trans hc
          have inI : (i : Int) < n1 := by omega
          have i65 : Hid (65 * i ≤ 900000) := by show _ ≤ _; omega
          have i316 : Hid (316 * i + 316 ≤ 9480) := by show _ ≤ _; omega
          obtain ⟨n, hn⟩ : ∃ n, n = d.length := ⟨_, rfl⟩
          rw [← hn] at d0 hjc
          have HND := Lib.hid hn
          by_cases hlen : n ≤ 300
          case neg =>
            have t1 : decide ((300 : Int) < (n : Int)) = true := by simp; omega
            have CHW := Lib.hid (CH.out _ hb)
            have HB := Lib.hid hb
            clear hK hS hQ hb hsz hd hc hy hjn hdo hn hlen
            go_wp2_with fail
            refine CHW.out.mono ?_
            rintro e w4 ⟨rfl, b4⟩
            go_wp2_with fail
            go_ret
            exact ⟨rfl, below_chain HB.out b4⟩
          have t1 : decide ((300 : Int) < (n : Int)) = false := by simp; omega
          have n63 : Hid (n ≤ 9223372036854775807) := by show _ ≤ _; omega
          have n1M : Hid (n ≤ 1000000) := by show _ ≤ _; omega
          have n81 : Hid (d.length ≤ 8192) := by show _ ≤ _; omega
          have HS := Lib.hid hS
          have HQ := Lib.hid hQ
          have HB := Lib.hid hb
          have HSZ := Lib.hid hsz
          have MN := Lib.hid (mk_next 1 hd)
          have RS := Lib.hid (rec_small 1 d (by omega))
          have HY := Lib.hid hy
          have HJN := Lib.hid hjn
          have CM := Lib.hid (made_any 1 aj d n cj wr (hy.below hb) hjn hn.symm (by omega))
          have HDO := Lib.hid hdo
          have D00 := Lib.hid hc
          clear hK hS hQ hb hsz hd hc hy hjn hdo hn
          obtain ⟨Kx, hKx⟩ : ∃ Kx, Kx = keyS 1 d := ⟨_, rfl⟩
          have HKX := Lib.hid hKx
          rw [← hKx] at CM
          clear hKx
          go_wp2_with fail
          refine CM.out.mono ?_
          rintro e w4 ⟨rfl, b4⟩
          have S4 := Lib.hid (HS.out.later b4)
          have Q4 := Lib.hid (HQ.out.later HS.out.pac.lt b4)
          have B4 := Lib.hid (below_chain HB.out b4)
          have fit : (allR (mk 1 l1 i)).length + (recB (kb 1, d)).length ≤ 16384 := Nat.le_trans (Nat.add_le_add HSZ.out RS.out) (Nat.le_trans i316.out (by decide))
          have CA := Lib.hid (append_st S4.out (by decide) i65.out a0 a1 (E0.out.below B4.out) (k := 1) (ks := Kx) ((HY.out.below HB.out).below b4) (n := n) (c := cj) HJN.out HND.out.symm n63.out (by rw [HKX.out]; exact put_made 1 d rfl n81.out) fit)
          clear CM b4 HS HQ HB fit
          go_wp2_with fail
          refine CA.out.mono ?_
          rintro e w5 hAT
          rw [kb_one] at hAT
          have Q5 := Lib.hid (Q4.out.append S4.out hAT)
          obtain ⟨rfl, _, hs5, _, hb5⟩ := hAT
          have S5 := Lib.hid hs5
          have B5 := Lib.hid (B4.out.trans hb5)
          have CM := Lib.hid (made_any 1 aj d n cj w5 (HY.out.below B5.out) HJN.out HND.out.symm n1M.out)
          rw [← HKX.out] at CM
          have d5 := (B5.out.cell (p := ⟨b, o + i, none⟩) hbl).trans (show w.cell? ⟨b, o + i, none⟩ = _ from D00.out)
          rw [← HND.out] at d5
          clear CA S4 Q4 B4 hs5 hb5
          go_wp2_with fail
          refine CM.out.mono ?_
          rintro e w6 ⟨rfl, b6⟩
          have b7 := al1 w6 (.cells #[.int .i64 1, .string Kx, .slice aj n cj] 29)
          have b67 := below_chain b6 b7
          have S7 := Lib.hid (S5.out.later b67)
          have Q7 := Lib.hid (Q5.out.later S5.out.pac.lt b67)
          have B7 := Lib.hid (below_chain B5.out b67)
          have KB : Hid (Blk (w6.alloc (.cells #[.int .i64 1, .string Kx, .slice aj n cj] 29)) w6.heap.size (recC (1, d) (.slice aj n cj)) 29) := by
            show Blk _ _ _ _
            have hc : recC (1, d) (.slice aj n cj) = [.int .i64 1, .string Kx, .slice aj n cj] := by rw [HKX.out]; rfl
            rw [hc]
            exact Blk.new _ [.int .i64 1, .string Kx, .slice aj n cj] 29 _ rfl
          have D7 : Hid (DatO w.heap.size (w6.alloc (.cells #[.int .i64 1, .string Kx, .slice aj n cj] 29)) (.slice aj n cj) d) := by
            have := datO_below HDO.out B7.out
            rw [← HND.out] at this
            exact this
          have L7 : Hid ((mk 1 l1 i).length + 1 ≤ 1000000000) := len_one (many _ S5.out.pac.fit)
          have P7 := Lib.hid B7.out.size
          clear CM b6 b7 b67 S5 Q5 B5 d5
          go_wp2_with (at_builtin; refine wpl_appo2 rfl (.tmp 93) (.tmp 99) rfl w.heap.size u15 (.slice aj n cj) (mk 1 l1 i) (1, d) rfl Q7.out.own D7.out w6.heap.size (by rfl) KB.out L7.out P7.out ?_; intro v8 w8 O8 g8 N8)
          have K8 := Lib.hid (k1_next MN.out RS.out HSZ.out S7.out Q7.out B7.out P7.out O8 g8 N8)
          clear O8 g8 N8 S7 Q7 B7 KB D7 L7 P7
          go_roundw
          case rel => exact ⟨i + 1, by omega, by go_num, K8.out⟩
          case measure => simp [RowKit.intOf]; omega
        · obtain rfl : i = n1 := by omega
          obtain ⟨V1, hS, hQ, hb, hsz⟩ := hK.out
          have HS := Lib.hid hS
          have HQ := Lib.hid hQ
          have HB := Lib.hid hb
          have m1 : 65 * i ≤ 900000 := by omega
          have CFL := Lib.hid (flush_dev hS.dev m1)
          clear hK hS hQ hb hsz m1 hin hi
          go_wp2_with fail
          refine CFL.out.mono ?_
          rintro e w4 ⟨rfl, hF, S1, hS1, hd⟩
          obtain ⟨hs, hb4⟩ := HS.out.dev_turn hF hd HS.out.hold
          have S4 := Lib.hid hs
          have Q4 := Lib.hid (HQ.out.dev HS.out hF)
          have B4 := Lib.hid (HB.out.trans hb4)
          have HS1 := Lib.hid hS1
          have HV1 := Lib.hid (fun j (hj : j < 64) => HS.out.dev.vl j hj)
          have HH1 := Lib.hid HS.out.hold
          have HFIT := Lib.hid HS.out.pac.fit
          have HGD := Lib.hid HS.out.pac.good
          clear CFL HS HQ HB hF hS1 hd hs hb4
          go_wp2_with fail
          go_loopw [19] (fun vi wr => ∃ j : Nat, j ≤ n2 ∧ vi = .int .i64 j ∧ Hid (K2 w.heap.size w g sa mb p S1 (mk 1 l1 i) u15 wr j)) (fun vi _ => n2 - (RowKit.intOf vi).toNat)
          case atStart => exact ⟨0, by omega, rfl, V1, [], 2000, by rw [List.append_nil]; exact S4.out.more (by omega), Q4.out, B4.out, by omega⟩
          case round =>
            obtain ⟨j, hj, rfl, hK⟩ := hrel
            by_cases hjn : j < n2
            · obtain ⟨V', qs, m, hS, hQ, hb, hm⟩ := hK.out
              obtain ⟨b, o, d, aj, cj, rfl, hbl, hd, hc, hy, hjn2, hjc, hjm, hdo⟩ := rws_at H2.out (i := j) (by have := EL2.out; omega)
              have d0 := (hb.cell (p := ⟨b, o + j, none⟩) hbl).trans hc
              have inI : (j : Int) < n2 := by omega
              have m9 : Hid (m ≤ 900000) := by show _ ≤ _; omega
              obtain ⟨n, hn⟩ : ∃ n, n = d.length := ⟨_, rfl⟩
              rw [← hn] at d0 hjc
              have HND := Lib.hid hn
              by_cases hlen : n ≤ 300
              case neg =>
                have t1 : decide ((300 : Int) < (n : Int)) = true := by simp; omega
                have CHW := Lib.hid (CH.out _ hb)
                have HB := Lib.hid hb
                clear hK hS hQ hb hd hc hy hjn2 hdo hn hlen
                go_wp2_with fail
                refine CHW.out.mono ?_
                rintro e w5 ⟨rfl, b5⟩
                go_wp2_with fail
                go_ret
                exact ⟨rfl, below_chain HB.out b5⟩
              have t1 : decide ((300 : Int) < (n : Int)) = false := by simp; omega
              have n63 : Hid (n ≤ 9223372036854775807) := by show _ ≤ _; omega
              have n81 : Hid (d.length ≤ 8192) := by show _ ≤ _; omega
              have HS := Lib.hid hS
              have HQ := Lib.hid hQ
              have HB := Lib.hid hb
              have HY := Lib.hid hy
              have HJN := Lib.hid hjn2
              have HM := Lib.hid hm
              have CM := Lib.hid (made_any 2 aj d n cj wr (hy.below hb) hjn2 hn.symm (by omega))
              clear hK hS hQ hb hd hc hy hjn2 hdo hn hm
              obtain ⟨Kx, hKx⟩ : ∃ Kx, Kx = keyS 2 d := ⟨_, rfl⟩
              have HKX := Lib.hid hKx
              rw [← hKx] at CM
              clear hKx
              go_wp2_with fail
              refine CM.out.mono ?_
              rintro e w5 ⟨rfl, b5⟩
              have S5 := Lib.hid (HS.out.later b5)
              have Q5 := Lib.hid (HQ.out.later HS.out.pac.lt b5)
              have B5 := Lib.hid (below_chain HB.out b5)
              have CA := Lib.hid (append_some S5.out Q5.out (by decide) m9.out a0 a1 (E0.out.below B5.out) (k := 2) (ks := Kx) ((HY.out.below HB.out).below b5) (n := n) (c := cj) HJN.out HND.out.symm n63.out (by rw [HKX.out]; exact put_made 2 d rfl n81.out))
              clear CM b5 HS HQ HB
              go_wp2_with fail
              refine CA.out.mono ?_
              rintro e w6 hU
              obtain ⟨z1, z2, he, hK6⟩ := k2_next B5.out HM.out hU
              subst he
              have K6 := Lib.hid hK6
              clear CA S5 Q5 B5 hU hK6
              go_wp2_with fail
              go_roundw
              case rel => exact ⟨j + 1, by omega, by go_num, K6.out⟩
              case measure => simp [RowKit.intOf]; omega
            · obtain rfl : j = n2 := by omega
              obtain ⟨V', qs, m, hS, hQ, hb, hm⟩ := hK.out
              have HS := Lib.hid hS
              have HQ := Lib.hid hQ
              have HB := Lib.hid hb
              have KP := Lib.hid (keep_old (H3.out) hb BG.out.2.1 BG.out.2.2)
              have CC := Lib.hid (crash_dev hS.dev ao3 ks c3 KP.out HKS.out (by rw [EL3.out]; omega))
              rw [EL3.out] at CC
              clear hK hS hQ hb hm hjn hj KP
              go_wp2_with fail
              refine CC.out.mono ?_
              rintro e w5 ⟨rfl, hF, V2, S2, hV2, hd⟩
              have H5 : Hid (Hold V2 0 (mk 1 l1 i)) := by
                refine hold_mix (V0 := V1) (V := V') HH1.out HS.out.hold (fun t ht => ?_) (fun t ht => by rw [Nat.zero_add]; exact HV1.out t ht) (fun t ht => by rw [Nat.zero_add]; exact HS.out.dev.vl t ht) HFIT.out
                rw [Nat.zero_add]
                rcases hV2 t ht with e | e
                · exact .inl e
                · rw [HS1.out t ht] at e
                  injection e with e
                  exact .inr e.symm
              have far := far_dev HS.out.dev HS.out.bg.1 HS.out.bg.2.1 HS.out.bg.2.2
              have D5 := Lib.hid hd
              have P5 := Lib.hid (HS.out.pac.fr hF (pac_dev HS.out.pac HS.out.dev) far)
              have O5 := Lib.hid (owno_far HQ.out.own hF far)
              have B5 := Lib.hid (HB.out.trans (Fr.below hF HB.out.size (fun q hq => (far q hq).1)))
              have CM := Lib.hid (made_any 1 none [] 0 0 w5 (byt_nil w5 none) (fun _ => rfl) rfl (by decide))
              clear CC hF hV2 hd far HS HQ HB HS1 HV1 HH1
              obtain ⟨Kx, hKx⟩ : ∃ Kx, Kx = keyS 1 ([] : List UInt8) := ⟨_, rfl⟩
              have HKX := Lib.hid hKx
              rw [← hKx] at CM
              clear hKx
              go_wp2_with fail
              refine CM.out.mono ?_
              rintro e w6 ⟨rfl, b6⟩
              have D6 := Lib.hid (D5.out.later b6)
              have P6 := Lib.hid (P5.out.later b6)
              have O6 := Lib.hid (owno_below O5.out b6)
              have B6 := Lib.hid (below_chain B5.out b6)
              have CA := Lib.hid (append_off P6.out D6.out a0 a1 (E0.out.below B6.out) (k := 1) (ks := Kx) (ao := none) (n := 0) (c := 0) (byt_nil w6 none) (fun _ => rfl) rfl (by decide) (by rw [HKX.out]; exact put_made 1 [] rfl (by decide)))
              clear CM b6 D5 P5 O5 B5
              go_wp2_with fail
              refine CA.out.mono ?_
              rintro e w7 ⟨⟨z, hz, rfl⟩, hF⟩
              obtain ⟨vr, vp, pk, _, _⟩ := P6.out.row
              have far := far_pk pk P6.out.base
              have np := pac_dev P6.out D6.out
              simp only [List.mem_cons, List.not_mem_nil, or_false, not_or] at np
              have D7 := Lib.hid (D6.out.fr hF (by simp; exact fun h => np.1 h.symm) (by simp; exact fun h => np.2.1 h.symm) (by simp; exact fun h => np.2.2 h.symm))
              have O7 := Lib.hid (owno_far O6.out hF far)
              have B7 := Lib.hid (B6.out.trans (Fr.below hF B6.out.size (fun q hq => (far q hq).1)))
              have HZ := Lib.hid hz
              have CST := Lib.hid (start_dev D7.out)
              clear CA hF pk far np hz D6 P6 O6 B6
              go_wp2_with fail
              refine CST.out.mono ?_
              rintro e w8 ⟨rfl, hF, hd⟩
              have far := (far_dev D7.out BG.out.1 BG.out.2.1 BG.out.2.2).sub (L' := [g]) (by simp)
              have O8 := Lib.hid (owno_far O7.out hF far)
              have B8 := Lib.hid (B7.out.trans (Fr.below hF B7.out.size (fun q hq => (far q hq).1)))
              have CO := Lib.hid (show Calls Tryz.prog 15 #[.pointer (some ⟨g, 0, none⟩), .int .i64 0] w8 (AnsP w8 g 0 (Fr.scanL (flat V2 0 64)).1) from open_ok hd (by decide) a0 a1 (E0.out.below B8.out))
              obtain ⟨ts, hts⟩ := scan_begins (mk 1 l1 i) (flat V2 0 64) HGD.out H5.out
              rw [hts] at CO
              clear CST hF far hd D7 O7 B7 H5 hts
              go_wp2_with fail
              refine CO.out.mono ?_
              rintro e w9 ⟨b9, qq, rfl, hq⟩
              have Q9 := Lib.hid hq
              have O9 := Lib.hid (owno_below O8.out b9)
              have B9 := Lib.hid (below_chain B8.out b9)
              have CR := Lib.hid (records_any hq)
              clear CO b9 hq O8 B8
              obtain rfl | rfl := HZ.out
              all_goals
                clear HZ
                go_wp2_with fail
                refine CR.out.mono ?_
                rintro e w10 ⟨b10, u, vv, rfl, hu, _⟩
                obtain ⟨au, cu, rfl, hcu, hdu, fu, _⟩ := ownf_read hu
                obtain ⟨ak, ck, hkv, hck, hdk, fk, _⟩ := ownf_read (owno_f (owno_below O9.out b10))
                have HKV := Lib.hid hkv
                clear hkv
                have FU := Lib.hid fu
                have FK := Lib.hid fk
                have B10 := Lib.hid (below_chain B9.out b10)
                obtain ⟨nu, hnu⟩ : ∃ nu, nu = (mk 1 l1 i ++ ts).length := ⟨_, rfl⟩
                have HNU := Lib.hid hnu
                rw [← hnu] at hcu ⊢
                have nuB : nu ≤ 3000 := by rw [hnu]; exact many _ Q9.out.fit
                have GDT := Lib.hid Q9.out.good
                clear hu b10 fu fk CR hnu Q9
                go_wp2_with fail
                go_loopw [26] (fun vi wr => ∃ j : Nat, j ≤ nu ∧ vi = .int .i64 j ∧ Hid (Below w10.heap.size w10 wr)) (fun vi _ => nu - (RowKit.intOf vi).toNat)
                case atStart => exact ⟨0, by omega, rfl, Below.refl _ _⟩
                case round =>
                  obtain ⟨j, hj, rfl, hb⟩ := hrel
                  by_cases hjn : j < nu
                  · obtain ⟨r, hr⟩ : ∃ r, (mk 1 l1 i ++ ts)[j]? = some r := ⟨_, List.getElem?_eq_getElem (by rw [← HNU.out]; exact hjn)⟩
                    obtain ⟨b, o, rfl, hbl, hx⟩ := FU.out (by intro h0; rw [h0] at hr; simp at hr)
                    obtain ⟨ra, rc, x0, x1, x2, hy, hrn, hrc, hrcc⟩ := hx j r hr
                    have B11 := Lib.hid hb
                    have BQ : Hid (Below w10.heap.size w10 wr.drew) := hb.drew
                    have gl := (GDT.out r (List.mem_of_getElem? hr)).1
                    have q1M : r.2.length ≤ 1000000 := Nat.le_trans gl (by decide)
                    obtain ⟨kk, hkk⟩ : ∃ kk : Int, kk = (r.1.toNat : Int) := ⟨_, rfl⟩
                    obtain ⟨K, hK⟩ : ∃ K, K = keyS (r.1.toNat : Nat) r.2 := ⟨_, rfl⟩
                    obtain ⟨q, hq⟩ : ∃ q, q = r.2.length := ⟨_, rfl⟩
                    rw [← hkk] at x0
                    rw [← hK] at x1
                    rw [← hq] at x2 q1M
                    have CF : Hid (∀ W, Below w10.heap.size w10 W → Calls Tryz.prog 24 #[.int .i64 kk, .slice ra q rc] W fun e w' => e = .returned (.string K) ∧ Below W.heap.size W w') := fun W hW => by
                      rw [hkk, hK]
                      exact refof_any _ ra r.2 q rc W (hy.below hW) hrn hq.symm q1M
                    have KS : Hid (∀ W, Below w10.heap.size w10 W → W.cell? ⟨b, o + j * 3, none⟩ = some (.int .i64 kk) ∧ W.cell? ⟨b, o + j * 3 + 1, none⟩ = some (.string K) ∧ W.cell? ⟨b, o + j * 3 + 2, none⟩ = some (.slice ra q rc)) := fun W hW =>
                      ⟨(hW.cell (p := ⟨b, o + j * 3, none⟩) hbl).trans x0, (hW.cell (p := ⟨b, o + j * 3 + 1, none⟩) hbl).trans x1, (hW.cell (p := ⟨b, o + j * 3 + 2, none⟩) hbl).trans x2⟩
                    obtain ⟨k0, k1, k2⟩ := KS.out wr hb
                    have jI : (j : Int) < (nu : Int) := by omega
                    have j0 : (0 : Int) ≤ (j : Int) := by omega
                    clear hr hx hy hrn hrc hrcc gl hkk hK hq x0 x1 x2 hb
                    go_wp2_with fail
                    go_region_held3 (fun w' => w'.cell? ⟨b, o + j * 3, none⟩ = some (.int .i64 kk) ∧ w'.cell? ⟨b, o + j * 3 + 1, none⟩ = some (.string K) ∧ w'.cell? ⟨b, o + j * 3 + 2, none⟩ = some (.slice ra q rc))
                      (first | go_keep | exact ⟨k0, k1, k2⟩)
                      ((go_at_call 24; (with_reducible refine (CF.out _ BQ.out).mono ?_); rintro e w12 ⟨rfl, b12⟩; obtain ⟨k0, k1, k2⟩ := KS.out _ (below_chain BQ.out b12)))
                    all_goals
                      have B12 := Lib.hid (below_chain BQ.out b12)
                      clear b12 k0 k1 k2 CF KS
                      go_wp2_with fail
                      go_roundw
                      case rel => exact ⟨j + 1, by omega, by go_num, B12.out⟩
                      case measure => simp [RowKit.intOf]; omega
                  · obtain rfl : j = nu := by omega
                    have B11 := Lib.hid (below_chain B10.out hb.out)
                    have CB := Lib.hid (begins_any au ak (mk 1 l1 i) ts j (mk 1 l1 i).length cu ck wr (FU.out.below hb.out) (FK.out.below hb.out) HNU.out.symm rfl hcu hdu hck)
                    rw [← HKV.out] at CB
                    clear hb hjn hj
                    go_wp2_with fail
                    refine CB.out.mono ?_
                    rintro e w13 ⟨rfl, b13⟩
                    have B13 := Lib.hid (below_chain B11.out b13)
                    have CHW := Lib.hid (CH.out _ B13.out)
                    clear b13 CB
                    go_wp2_with fail
                    refine CHW.out.mono ?_
                    rintro e w14 ⟨rfl, b14⟩
                    go_wp2_with fail
                    go_ret
                    exact ⟨rfl, below_chain B13.out b14⟩
end Go.Proofs.YtekaboomhljdoaaGreatDoor.Sh
namespace Go.Proofs.YtekaboomhljdoaaGreatDoor.Sh
open Go.ChangeShapes Go.WideShapes Go.ChangeAt Go.RowKit Go.Lib

theorem cells24 : Tryz.prog.cellsOf 24 = 1 := by kernel_rfl
set_option maxRecDepth 100000 in
theorem open_rows {H : Type} {enc : TypeId × Value → H} {W : World} {base : Nat} {v : Value} {d : DataW H} {p : List MemPlace} (hval : Value.okWide Tryz.prog W .any base 22 v) (h : DataW.Trod enc Tryz.prog W 0 (fun _ => true) true 22 v d p) (hlt : ∀ x ∈ p, x.block < W.heap.size) :
    ∃ ao l c, v = .slice ao (l : List (List UInt8)).length c ∧ Rws2 W ao l := by
  obtain ⟨a0, len, cap, rfl⟩ := okWide_slice Tryz.underlying22 hval
  obtain ⟨fuel, hf⟩ := h
  rcases Go.Deep.open_int_rows Tryz.underlying22 Tryz.underlying24 Tryz.underlying5 cells24 cells5 hf with ⟨hcs, hx⟩ | ⟨a, len', cap', A, L, C, Z, hcs, _, hl, hm, hx, hr⟩
  · simp [Value.cells] at hcs
    obtain ⟨rfl, rfl, rfl⟩ := hcs
    exact ⟨none, [], 0, rfl, fun h => absurd rfl h⟩
  · simp [Value.cells] at hcs
    obtain ⟨rfl, rfl, rfl⟩ := hcs
    simp only [Prod.mk.injEq] at hx
    obtain ⟨rfl, rfl⟩ := hx
    have hll : ((List.range len).map fun r => ((Z r).take (L r)).map fun n => UInt8.ofNat n.toNat).length = len := by simp
    refine ⟨some a, (List.range len).map fun r => ((Z r).take (L r)).map fun n => UInt8.ofNat n.toNat, cap, by rw [hll], fun hne => ?_⟩
    have hl0 : len ≠ 0 := fun h0 => hne (by rw [h0]; rfl)
    have hr0 := hr 0 (by omega)
    obtain ⟨b, off, spot⟩ := a
    have hspot : spot = none := by simpa [Addr.add] using World.cell?_spot hr0.1
    subst hspot
    refine ⟨b, off, rfl, hlt (.cell b off) (List.mem_append_left _ (MemPlace.mem_row.2 ⟨0, by omega, by simp⟩)), fun j hj => ?_⟩
    rw [hll] at hj
    obtain ⟨r1, r2, r3, r4, r5, r6, r7⟩ := hr j (by omega)
    rw [add_plain] at r1
    have hg : ((List.range len).map fun r => ((Z r).take (L r)).map fun n => UInt8.ofNat n.toNat)[j]'(by rw [hll]; exact hj) = ((Z j).take (L j)).map fun n => UInt8.ofNat n.toNat := by simp
    rw [hg]
    have hlj : (((Z j).take (L j)).map fun n => UInt8.ofNat n.toNat).length = L j := by rw [List.length_map, List.length_take]; omega
    refine ⟨A j, C j, by rw [hlj]; exact r1, fun hne2 => ?_, r6, by rw [hlj]; exact r2, by unfold maxLen at r3; omega⟩
    have hL0 : L j ≠ 0 := by
      intro h0
      apply hne2
      rw [h0]
      rfl
    cases hA : A j with
    | none => have := r6 hA; omega
    | some a' =>
      obtain ⟨_, hc⟩ := r7 a' hA
      obtain ⟨b', off', spot'⟩ := a'
      have hspot' : spot' = none := by simpa [Addr.add] using World.cell?_spot (hc 0 (by omega))
      subst hspot'
      refine ⟨b', off', rfl, hlt (.cell b' off') (List.mem_append_right _ (List.mem_flatMap.2 ⟨j, List.mem_range.2 (by omega), ?_⟩)), fun i hi => ?_⟩
      · rw [hA]
        exact MemPlace.mem_row.2 ⟨0, by omega, by simp⟩
      · rw [hlj] at hi
        have hci := hc i (by omega)
        rw [add_plain] at hci
        have his : i < (Z j).length := by omega
        have hb := range_u8 r5 i
        have e : (Z j).getD i 0 = (Z j)[i] := by simp [List.getD, List.getElem?_eq_getElem his]
        rw [List.getD_eq_getElem?_getD] at e
        rw [e] at hb
        rw [hci, List.getD_eq_getElem?_getD, e]
        simp only [List.getElem_map, List.getElem_take, UInt8.toNat_ofNat']
        congr 2
        omega
end Go.Proofs.YtekaboomhljdoaaGreatDoor.Sh
namespace Go.Proofs.YtekaboomhljdoaaGreatDoor.Sh
open Lb Go.RowKit Go.Lib

set_option maxHeartbeats 2000000 in
set_option maxRecDepth 100000 in
theorem refof_far (kind : Int) (ao : Option Addr) (l : List UInt8) (n c : Nat) (w : World) (h : Byt w ao l) (hn : ao = none → c = 0) (hln : l.length = n) (hbig : n ≤ 140737488351232) :
    Calls Tryz.prog 24 #[.int .i64 kind, .slice ao n c] w fun e w' => e = .returned (.string (keyS kind l)) ∧ Below w.heap.size w w' := by
  have k1 := kb_wrap kind
  obtain ⟨x, hx⟩ : ∃ x, x = kb kind := ⟨_, rfl⟩
  rw [← hx] at k1
  have HX := Lib.hid hx
  have HL := Lib.hid hln
  have HN := Lib.hid hn
  have HY := Lib.hid (h.below ((Below.refl _ w).alloc (Nat.le_refl _) (.cells #[.int .u8 (x.toNat : Int)] 5)))
  have LIT : Hid (Own (w.alloc (.cells #[.int .u8 (x.toNat : Int)] 5)) w.heap.size (.slice (some ⟨w.heap.size, 0, none⟩) 1 1) [x]) := own_lit w [x] w.heap.size (Nat.le_refl _) (by simp)
  have B1 := Lib.hid ((Below.refl _ w).alloc (Nat.le_refl _) (.cells #[.int .u8 (x.toNat : Int)] 5))
  have p1 : ([x] : List UInt8).length + n ≤ 140737488355328 := by simp; omega
  have p2 : w.heap.size ≤ (w.alloc (.cells #[.int .u8 (x.toNat : Int)] 5)).heap.size := by simp
  have P2 := Lib.hid p2
  clear h hln hx hn
  go_enter Tryz.func24, Tryz.ntmps24
  go_wp2_with (at_builtin; refine wpl_app_len (t := 24) (e := 5) rfl (.tmp 7) (.tmp 8) rfl Tryz.underlying24 info5 w.heap.size _ [x] l rfl LIT.out ao n c rfl HY.out HN.out HL.out p1 P2.out ?_; intro v1 w1 hown1 hgrow1)
  have b1 := B1.out.grown hgrow1 P2.out (fun k hk => (LIT.out.lt k hk).1)
  obtain ⟨a3, c3, rfl, hc3, _, hy3, hn3⟩ := own_byt hown1
  have hl1 : ([x] ++ l).length = n + 1 := by simp [HL.out]
  have C23 := Lib.hid (refsum_any (x :: l) a3 (n + 1) c3 w1 hy3 hn3 hl1 (by omega))
  have BB := Lib.hid b1
  rw [hl1]
  clear hown1 hgrow1 b1 hy3 hn3 hc3 hl1
  refine C23.out.mono ?_
  rintro e w4 ⟨b4, v4, rfl, o4⟩
  obtain ⟨a4, c4, rfl, hc4, hcm4, hy4, hn4⟩ := own_byt o4
  have hsl := sumS_len (x :: l)
  have C24 := Lib.hid (text_any a4 (sumS (x :: l)) 32 c4 w4 hy4 hsl (by omega) (by omega))
  have B4 := Lib.hid (below_chain BB.out b4)
  rw [hsl]
  clear b4 o4 hy4 hn4 hc4 hcm4 hsl
  go_wp2_with fail
  refine C24.out.mono ?_
  rintro e w5 ⟨rfl, b5⟩
  have B5 := Lib.hid (below_chain B4.out b5)
  obtain ⟨S, hS⟩ : ∃ S, S = (hexL (sumS (x :: l))).toArray := ⟨_, rfl⟩
  rw [← hS]
  have HS := Lib.hid hS
  clear hS b5
  go_wp2_with fail
  go_ret
  exact ⟨by rw [keyS, ← HX.out, ← HS.out]; rfl, B5.out⟩

set_option maxHeartbeats 2000000 in
set_option maxRecDepth 100000 in
theorem made_far (k : Int) (ao : Option Addr) (d : List UInt8) (n c : Nat) (w : World) (h : Byt w ao d) (hn : ao = none → c = 0) (hd : d.length = n) (hbig : n ≤ 140737488351232) :
    Calls Tryz.prog 10 #[.int .i64 k, .slice ao n c] w fun e w' => e = .returned (.agg #[.int .i64 k, .string (keyS k d), .slice ao n c]) ∧ Below w.heap.size w w' := by
  have hb := al1 w (.cells #[.int .i64 0, .string ⟨#[]⟩, .slice none 0 0] 29)
  have C := Lib.hid (refof_far k ao d n c _ (h.below hb) hn hd hbig)
  obtain ⟨K, hK⟩ : ∃ K, K = keyS k d := ⟨_, rfl⟩
  rw [← hK] at C ⊢
  have B := Lib.hid hb
  have Y : Hid (Blk (w.alloc (.cells #[.int .i64 0, .string ⟨#[]⟩, .slice none 0 0] 29)) w.heap.size [.int .i64 0, .string ⟨#[]⟩, .slice none 0 0] 29) := Blk.new w [.int .i64 0, .string ⟨#[]⟩, .slice none 0 0] 29 w.heap.size rfl
  clear h hn hd hb hK
  go_enter Tryz.func10, Tryz.ntmps10
  go_wp2_with fail
  refine C.out.mono ?_
  rintro e w1 ⟨rfl, b1⟩
  have Y1 := Y.out.low b1
  have c0 := keep29 Y1
  have f0 := Y1.frozen 0
  have f1 := Y1.frozen 1
  have f2 := Y1.frozen 2
  have hg := Y1.lt
  have B1 := Lib.hid (B.out.trans (b1.mono B.out.size))
  have B2 := Lib.hid b1
  clear b1 Y1
  go_wp2_with fail
  have YZ := ((Y.out.low B2.out).set 0 (.int .i64 k)).set 1 (.string K) |>.set 2 (.slice ao n c)
  exact bodyPost_ret (results_cell_row rfl _ _ w.heap.size 29 _ (0, 0) _ rfl YZ Tryz.underlying29 rfl (size29 _ _ _)) rfl ⟨rfl, ((B1.out.setCell (Nat.le_refl _) _).setCell (Nat.le_refl _) _).setCell (Nat.le_refl _) _⟩
end Go.Proofs.YtekaboomhljdoaaGreatDoor.Sh
namespace Go.Proofs.YtekaboomhljdoaaGreatDoor.Sh
open Go.ChangeShapes Go.WideShapes Go.ChangeAt Go.RowKit Go.Lib
theorem weightsAll_mem {H : Type} {P : Program} {e : TypeId} : ∀ {l : List (DataW H)} {d : DataW H} {n : Nat}, d ∈ l → n ∈ d.weights P e → n ∈ DataW.weightsAll P e l
  | x :: r, d, n, hd, hn => by
    simp only [DataW.weightsAll, List.mem_append]
    rcases List.mem_cons.1 hd with rfl | hd
    · exact Or.inl hn
    · exact Or.inr (weightsAll_mem hd hn)
theorem weights_row {H : Type} {xs ys : List (DataW H)} {r : DataW H} (hw : ((DataW.slice xs ys).weights Tryz.prog 22).all (· ≤ reachBytes) = true) (hr : r ∈ xs) : ∀ n ∈ r.weights Tryz.prog 24, n ≤ reachBytes := by
  intro n hn
  have := List.all_eq_true.1 hw n (by
    simp only [DataW.weights, Tryz.underlying22]
    exact List.mem_cons_of_mem _ (List.mem_append_left _ (weightsAll_mem hr hn)))
  simpa using this
set_option maxHeartbeats 1000000 in
set_option maxRecDepth 100000 in
theorem open_rows_far {H : Type} {enc : TypeId × Value → H} {W : World} {base : Nat} {v : Value} {d : DataW H} {p : List MemPlace} (hval : Value.okWide Tryz.prog W .any base 22 v) (h : DataW.Trod enc Tryz.prog W 0 (fun _ => true) true 22 v d p) (hlt : ∀ x ∈ p, x.block < W.heap.size) (hw : (d.weights Tryz.prog 22).all (· ≤ reachBytes) = true) :
    ∃ ao l c, v = .slice ao (l : List (List UInt8)).length c ∧ Rws2 W ao l ∧ ∀ x ∈ l, x.length ≤ 140737488351232 := by
  obtain ⟨a0, len, cap, rfl⟩ := okWide_slice Tryz.underlying22 hval
  obtain ⟨fuel, hf⟩ := h
  rcases Go.Deep.open_int_rows Tryz.underlying22 Tryz.underlying24 Tryz.underlying5 cells24 cells5 hf with ⟨hcs, hx⟩ | ⟨a, len', cap', A, L, C, Z, hcs, _, hl, hm, hx, hr⟩
  · simp [Value.cells] at hcs
    obtain ⟨rfl, rfl, rfl⟩ := hcs
    exact ⟨none, [], 0, rfl, fun h => absurd rfl h, fun x hx => by cases hx⟩
  · simp [Value.cells] at hcs
    obtain ⟨rfl, rfl, rfl⟩ := hcs
    simp only [Prod.mk.injEq] at hx
    obtain ⟨rfl, rfl⟩ := hx
    have hll : ((List.range len).map fun r => ((Z r).take (L r)).map fun n => UInt8.ofNat n.toNat).length = len := by simp
    refine ⟨some a, (List.range len).map fun r => ((Z r).take (L r)).map fun n => UInt8.ofNat n.toNat, cap, by rw [hll], fun hne => ?_, fun x hx => ?_⟩
    have hl0 : len ≠ 0 := fun h0 => hne (by rw [h0]; rfl)
    have hr0 := hr 0 (by omega)
    obtain ⟨b, off, spot⟩ := a
    have hspot : spot = none := by simpa [Addr.add] using World.cell?_spot hr0.1
    subst hspot
    refine ⟨b, off, rfl, hlt (.cell b off) (List.mem_append_left _ (MemPlace.mem_row.2 ⟨0, by omega, by simp⟩)), fun j hj => ?_⟩
    rw [hll] at hj
    obtain ⟨r1, r2, r3, r4, r5, r6, r7⟩ := hr j (by omega)
    rw [add_plain] at r1
    have hg : ((List.range len).map fun r => ((Z r).take (L r)).map fun n => UInt8.ofNat n.toNat)[j]'(by rw [hll]; exact hj) = ((Z j).take (L j)).map fun n => UInt8.ofNat n.toNat := by simp
    rw [hg]
    have hlj : (((Z j).take (L j)).map fun n => UInt8.ofNat n.toNat).length = L j := by rw [List.length_map, List.length_take]; omega
    refine ⟨A j, C j, by rw [hlj]; exact r1, fun hne2 => ?_, r6, by rw [hlj]; exact r2, by unfold maxLen at r3; omega⟩
    have hL0 : L j ≠ 0 := by
      intro h0
      apply hne2
      rw [h0]
      rfl
    cases hA : A j with
    | none => have := r6 hA; omega
    | some a' =>
      obtain ⟨_, hc⟩ := r7 a' hA
      obtain ⟨b', off', spot'⟩ := a'
      have hspot' : spot' = none := by simpa [Addr.add] using World.cell?_spot (hc 0 (by omega))
      subst hspot'
      refine ⟨b', off', rfl, hlt (.cell b' off') (List.mem_append_right _ (List.mem_flatMap.2 ⟨j, List.mem_range.2 (by omega), ?_⟩)), fun i hi => ?_⟩
      · rw [hA]
        exact MemPlace.mem_row.2 ⟨0, by omega, by simp⟩
      · rw [hlj] at hi
        have hci := hc i (by omega)
        rw [add_plain] at hci
        have his : i < (Z j).length := by omega
        have hb := range_u8 r5 i
        have e : (Z j).getD i 0 = (Z j)[i] := by simp [List.getD, List.getElem?_eq_getElem his]
        rw [List.getD_eq_getElem?_getD] at e
        rw [e] at hb
        rw [hci, List.getD_eq_getElem?_getD, e]
        simp only [List.getElem_map, List.getElem_take, UInt8.toNat_ofNat']
        congr 2
        omega
    obtain ⟨r, hr0, rfl⟩ := List.mem_map.1 hx
    have hrl := List.mem_range.1 hr0
    obtain ⟨r1, r2, r3, r4, r5, r6, r7⟩ := hr r (by omega)
    have hq : (((Z r).take (L r)).map fun n => UInt8.ofNat n.toNat).length = L r := by rw [List.length_map, List.length_take]; omega
    rw [hq]
    cases hA : A r with
    | none => have := r6 hA; omega
    | some a' =>
      have hm := weights_row (r := Go.Deep.intRow .u8 (A r) (L r) (Z r)) hw (List.mem_map.2 ⟨r, hr0, rfl⟩)
      rw [hA] at hm
      have he : ((Go.Deep.intRow .u8 (some a') (L r) (Z r) : DataW H)) = .slice (Go.ChangeShapes.lits .u8 ((Z r).take (L r))) (Go.ChangeShapes.lits .u8 ((Z r).drop (L r))) := rfl
      rw [he] at hm
      have := hm (((Go.ChangeShapes.lits .u8 ((Z r).take (L r)) : List (DataW H)).length + (Go.ChangeShapes.lits .u8 ((Z r).drop (L r)) : List (DataW H)).length) * Tryz.prog.bytesOf 5) (by
        simp only [DataW.weights, Tryz.underlying24]
        exact List.mem_cons_self)
      rw [bytes5] at this
      simp [Go.ChangeShapes.lits] at this
      unfold reachBytes at this
      omega
end Go.Proofs.YtekaboomhljdoaaGreatDoor.Sh
namespace Go.Proofs.YtekaboomhljdoaaGreatDoor.Sh
open Lb Go.Proofs.YtekaboomhljdoaaGreatDoor.Pc Go.RowKit Go.Lib
open Go.Proofs.YtekaboomhljdoaaGreatDoor.Dk hiding Blk made_any size_any below_chain
theorem refput_far (k : Int) (ks : ByteArray) (ao : Option Addr) (d : List UInt8) (n c : Nat) (w : World) (h : Byt w ao d) (hn : ao = none → c = 0) (hd : d.length = n) :
    Calls Tryz.prog 9 #[.agg #[.int .i64 k, .string ks, .slice ao n c]] w (AnsPut k ks d w) := by
  by_cases hb : n ≤ 1000000
  · exact refput_any12 k ks ao d n c w h hn hd hb
  · by_cases hk : kindB k = true
    · exact refput_no2 k ks ao d n c w hk hd (by omega)
    · exact refput_no1 k ks ao d n c w (by simpa using hk)
/-- a record of kind one, put: its bytes, or none -/
def putD (d : List UInt8) : List UInt8 := if putE 1 (keyS 1 d) d = 0 then Fr.frL (kb 1) d else []
theorem putD_len (d : List UInt8) : (putD d).length ≤ 9000 := by
  unfold putD
  split
  · next h =>
    by_cases h8 : d.length ≤ 8192
    · have := putL_len d.length
      rw [show Fr.frL (kb 1) d = recB (kb 1, d) from rfl, recB_len]
      simp only
      omega
    · rw [putE_long (by omega)] at h
      cases h
  · simp
/-- how the sectors end behind the records -/
def Endd (V : Nat → List UInt8) (rs : List Rcd) : Prop := rs = [] ∨ (allR rs).length = 16384 ∨ (flat V 0 64)[(allR rs).length]? = some 0
theorem endd_app {V : Nat → List UInt8} {rs : List Rcd} {r : Rcd} (hV : ∀ i, i < 64 → (V (0 + i)).length = 256) (hf : (allR rs).length + (recB r).length ≤ 16384) : Endd (appV V 0 (allR rs).length (recB r)) (rs ++ [r]) := by
  rcases Nat.lt_or_eq_of_le hf with h | h
  · exact .inr (.inr (hold_end hV h))
  · exact .inr (.inl (by rw [allR_app, allR_one, List.length_append]; exact h))
theorem endd_scan {V : Nat → List UInt8} {rs : List Rcd} (hl : (flat V 0 64).length = 16384) (hg : ∀ r ∈ rs, GoodR r) (hh : Hold V 0 rs) (h : Endd V rs) : rs = [] ∨ (Fr.scanL (flat V 0 64)).1 = rs := by
  by_cases h0 : rs = []
  · exact .inl h0
  right
  rw [scan_just rs (flat V 0 64) hg hh ?_]
  rcases h with h | h | h
  · exact absurd h h0
  · rw [List.drop_eq_nil_of_le (by omega)]
    decide
  · obtain ⟨t, ht⟩ : ∃ t, (flat V 0 64).drop (allR rs).length = 0 :: t := by
      obtain ⟨h1, h2⟩ := List.getElem?_eq_some_iff.1 h
      exact ⟨_, by rw [List.drop_eq_getElem_cons h1, h2]⟩
    rw [ht]
    exact next_nought _ rfl
/-- the law's rounds -/
def K3 (w : World) (B g sa mb p : Nat) (S : List (List UInt8)) (v : Value) (wr : World) (i : Nat) : Prop :=
  ∃ V rs, Pst B wr g sa mb p 0 64 0 V S true (65 * i) rs false ∧ Kpt B wr p rs v ∧ Below w.heap.size w wr ∧ Endd V rs
theorem k3_next {w w7 w8 : World} {g sa mb p i m : Nat} {S : List (List UInt8)} {rs : List Rcd} {r : Rcd} {V : Nat → List UInt8} {u v : Value} (hm : m ≤ 65 * (i + 1))
    (hS : Pst w.heap.size w7 g sa mb p 0 64 0 V S true m (rs ++ [r]) false) (hE : Endd V (rs ++ [r])) (hQ : Kpt w.heap.size w7 p rs u) (hB : Below w.heap.size w w7) (hP : w.heap.size ≤ w7.heap.size) (hO : OwnO w.heap.size w8 (rs ++ [r]) v) (hg : w7.grownBy w8 u.ownBlock) (hN : v.ownBlock = u.ownBlock ∨ v.ownBlock = some w7.heap.size) : K3 w w.heap.size g sa mb p S v w8 (i + 1) := by
  obtain ⟨h1, h2⟩ := pst_grown hS hQ.own hg hQ.off
  refine ⟨V, rs ++ [r], h1.more hm, ⟨hO, fun q hq => ?_⟩, ?_, hE⟩
  · rw [h2]
    rcases hN with e | e
    · exact hQ.off q (by rw [← e]; exact hq)
    · rw [e] at hq
      injection hq with hq
      intro hm2
      have := (rows_far hS.pac hS.dev q hm2).2.1
      omega
  · obtain ⟨us, _, ho, _⟩ := hQ.own
    exact hB.grown hg hP (fun k hk => (World.ownsRow.lt ho k hk).1)
/-- one append: what it answers, and what is so then -/
def K4 (w : World) (g sa mb p : Nat) (S : List (List UInt8)) (v : Value) (i : Nat) (r : Rcd) (wr : World) (f : Int) : Prop :=
  (f = 0 ∧ ∃ V rs, Pst w.heap.size wr g sa mb p 0 64 0 V S true (65 * (i + 1)) (rs ++ [r]) false ∧ Kpt w.heap.size wr p rs v ∧ Below w.heap.size w wr ∧ Endd V (rs ++ [r])) ∨ (f = 100 ∧ K3 w w.heap.size g sa mb p S v wr (i + 1))
theorem k4_of {w w5 w6 : World} {g sa mb p i : Nat} {S : List (List UInt8)} {rs : List Rcd} {r : Rcd} {v : Value} {V : Nat → List UInt8} {e : Ending} (hB : Below w.heap.size w w5) (hE : Endd V rs) (hV : ∀ i, i < 64 → (V (0 + i)).length = 256) (h : AnsU w.heap.size w5 p g sa mb 0 0 64 V S (65 * i) rs rs v r e w6) :
    ∃ z f : Int, e = .returned (.tuple #[.int .i64 z, .int .i64 f]) ∧ K4 w g sa mb p S v i r w6 f := by
  obtain ⟨hk, hb, V', rs', hs, ⟨rfl, rfl, rfl, hf⟩ | ⟨rfl, rfl, rfl, _⟩⟩ := h
  · exact ⟨_, _, rfl, .inl ⟨rfl, _, rs, hs.more (by omega), hk, hB.trans hb, endd_app hV hf⟩⟩
  · exact ⟨_, _, rfl, .inr ⟨rfl, V', rs', hs.more (by omega), hk, hB.trans hb, hE⟩⟩
end Go.Proofs.YtekaboomhljdoaaGreatDoor.Sh
