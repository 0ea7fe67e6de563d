/-
  The contract of sha's mixed: H with a block gone into it. Conditions: H has eight words, a block 64 bytes; the two tables of sha stand in memory.
-/
import Derived.Test.YtekaboomhljdoaaGreatDoorWc
namespace Go.Proofs.YtekaboomhljdoaaGreatDoor.Sh
open Go.RowKit Go.Lib
/-- the two tables of sha stand in memory -/
def Lay (w : World) : Prop := (∀ j, j < 8 → w.cell? ⟨2, j, none⟩ = some (.int .u32 ((startL.getD j 0).toNat : Int))) ∧ (∀ j, j < 64 → w.cell? ⟨3, j, none⟩ = some (.int .u32 ((stepsL.getD j 0).toNat : Int))) ∧ 4 ≤ w.heap.size
theorem Lay.below {w w' : World} (h : Lay w) (hb : Below w.heap.size w w') : Lay w' := by
  obtain ⟨h1, h2, h3⟩ := h
  have := hb.size
  exact ⟨fun j hj => (hb.cell (p := ⟨2, j, none⟩) (by show 2 < _; omega)).trans (h1 j hj), fun j hj => (hb.cell (p := ⟨3, j, none⟩) (by show 3 < _; omega)).trans (h2 j hj), by omega⟩
theorem Three.other {w : World} {k a b c : Nat} (h : Three w k a b c) {p : Addr} (v : Value) (hp : p.block < k) : Three (w.setCell p v) k a b c := by
  obtain ⟨h1, h2, h3, h4⟩ := h
  have ne : ∀ j, k ≤ j → p ≠ ⟨j, 0, none⟩ := fun j hj h0 => by
    have : p.block = j := by rw [h0]
    omega
  exact ⟨(World.cell?_setCell_other _ _ _ _ (ne k (Nat.le_refl _))).trans h1, (World.cell?_setCell_other _ _ _ _ (ne (k + 1) (by omega))).trans h2, (World.cell?_setCell_other _ _ _ _ (ne (k + 2) (by omega))).trans h3, by simpa [World.setCell] using h4⟩

/-- what mixed's blocks hold, ahead of the rounds -/
def Mx (w wr : World) (H : List UInt32) (blk : List UInt8) (q : Nat) : Prop :=
  Blk wr w.heap.size (us H) 156 ∧ Blk wr (w.heap.size + 1 + 1) (us (List.replicate 8 0)) 156 ∧ Blk wr q (us (sched blk 64)) 167 ∧ Lay wr ∧ Below w.heap.size w wr
theorem Mx.low {w wr w' : World} {H : List UInt32} {blk : List UInt8} {q : Nat} (h : Mx w wr H blk q) (hb : Below wr.heap.size wr w') : Mx w w' H blk q := by
  obtain ⟨h1, h2, h3, h4, h5⟩ := h
  exact ⟨h1.low hb, h2.low hb, h3.low hb, h4.below hb, h5.trans (hb.mono h5.size)⟩
theorem add_nat (x y : UInt32) : (x + y).toNat = (x.toNat + y.toNat) % 4294967296 := UInt32.toNat_add x y
theorem index43 (a b c d e f g h : UInt32) (j : Nat) (hj : j < 8) (W : World) :
    (Instr.index 156 (.agg #[.int .u32 (a.toNat : Int), .int .u32 (b.toNat : Int), .int .u32 (c.toNat : Int), .int .u32 (d.toNat : Int), .int .u32 (e.toNat : Int), .int .u32 (f.toNat : Int), .int .u32 (g.toNat : Int), .int .u32 (h.toNat : Int)]) (.int .i64 (j : Int))).run Tryz.prog W =
      .ok (.int .u32 (([a, b, c, d, e, f, g, h].getD j 0).toNat : Int)) W := by
  have h0 : (Instr.index 156 (.agg #[.int .u32 (a.toNat : Int), .int .u32 (b.toNat : Int), .int .u32 (c.toNat : Int), .int .u32 (d.toNat : Int), .int .u32 (e.toNat : Int), .int .u32 (f.toNat : Int), .int .u32 (g.toNat : Int), .int .u32 (h.toNat : Int)]) (.int .i64 0)).run Tryz.prog W = .ok (.int .u32 (a.toNat : Int)) W := by kernel_rfl
  have h1 : (Instr.index 156 (.agg #[.int .u32 (a.toNat : Int), .int .u32 (b.toNat : Int), .int .u32 (c.toNat : Int), .int .u32 (d.toNat : Int), .int .u32 (e.toNat : Int), .int .u32 (f.toNat : Int), .int .u32 (g.toNat : Int), .int .u32 (h.toNat : Int)]) (.int .i64 1)).run Tryz.prog W = .ok (.int .u32 (b.toNat : Int)) W := by kernel_rfl
  have h2 : (Instr.index 156 (.agg #[.int .u32 (a.toNat : Int), .int .u32 (b.toNat : Int), .int .u32 (c.toNat : Int), .int .u32 (d.toNat : Int), .int .u32 (e.toNat : Int), .int .u32 (f.toNat : Int), .int .u32 (g.toNat : Int), .int .u32 (h.toNat : Int)]) (.int .i64 2)).run Tryz.prog W = .ok (.int .u32 (c.toNat : Int)) W := by kernel_rfl
  have h3 : (Instr.index 156 (.agg #[.int .u32 (a.toNat : Int), .int .u32 (b.toNat : Int), .int .u32 (c.toNat : Int), .int .u32 (d.toNat : Int), .int .u32 (e.toNat : Int), .int .u32 (f.toNat : Int), .int .u32 (g.toNat : Int), .int .u32 (h.toNat : Int)]) (.int .i64 3)).run Tryz.prog W = .ok (.int .u32 (d.toNat : Int)) W := by kernel_rfl
  have h4 : (Instr.index 156 (.agg #[.int .u32 (a.toNat : Int), .int .u32 (b.toNat : Int), .int .u32 (c.toNat : Int), .int .u32 (d.toNat : Int), .int .u32 (e.toNat : Int), .int .u32 (f.toNat : Int), .int .u32 (g.toNat : Int), .int .u32 (h.toNat : Int)]) (.int .i64 4)).run Tryz.prog W = .ok (.int .u32 (e.toNat : Int)) W := by kernel_rfl
  have h5 : (Instr.index 156 (.agg #[.int .u32 (a.toNat : Int), .int .u32 (b.toNat : Int), .int .u32 (c.toNat : Int), .int .u32 (d.toNat : Int), .int .u32 (e.toNat : Int), .int .u32 (f.toNat : Int), .int .u32 (g.toNat : Int), .int .u32 (h.toNat : Int)]) (.int .i64 5)).run Tryz.prog W = .ok (.int .u32 (f.toNat : Int)) W := by kernel_rfl
  have h6 : (Instr.index 156 (.agg #[.int .u32 (a.toNat : Int), .int .u32 (b.toNat : Int), .int .u32 (c.toNat : Int), .int .u32 (d.toNat : Int), .int .u32 (e.toNat : Int), .int .u32 (f.toNat : Int), .int .u32 (g.toNat : Int), .int .u32 (h.toNat : Int)]) (.int .i64 6)).run Tryz.prog W = .ok (.int .u32 (g.toNat : Int)) W := by kernel_rfl
  have h7 : (Instr.index 156 (.agg #[.int .u32 (a.toNat : Int), .int .u32 (b.toNat : Int), .int .u32 (c.toNat : Int), .int .u32 (d.toNat : Int), .int .u32 (e.toNat : Int), .int .u32 (f.toNat : Int), .int .u32 (g.toNat : Int), .int .u32 (h.toNat : Int)]) (.int .i64 7)).run Tryz.prog W = .ok (.int .u32 (h.toNat : Int)) W := by kernel_rfl
  have hc : j = 0 ∨ j = 1 ∨ j = 2 ∨ j = 3 ∨ j = 4 ∨ j = 5 ∨ j = 6 ∨ j = 7 := by omega
  rcases hc with rfl | rfl | rfl | rfl | rfl | rfl | rfl | rfl
  · exact h0
  · exact h1
  · exact h2
  · exact h3
  · exact h4
  · exact h5
  · exact h6
  · exact h7
/-- H, j words of it with the rounds' added -/
def mixr (H r : List UInt32) (j : Nat) : List UInt32 := (List.zipWith (· + ·) H r).take j ++ H.drop j
theorem mixr_next (H r : List UInt32) (j : Nat) (h1 : H.length = 8) (h2 : r.length = 8) (hj : j < 8) :
    (mixr H r j).getD j 0 = H.getD j 0 ∧ (mixr H r j).set j (H.getD j 0 + r.getD j 0) = mixr H r (j + 1) ∧ (mixr H r j).length = 8 := by
  have hz : (List.zipWith (· + ·) H r).length = 8 := by simp [h1, h2]
  have ht : ((List.zipWith (· + ·) H r).take j).length = j := by simp [h1, h2]; omega
  have hd : H.drop j = H[j]'(by omega) :: H.drop (j + 1) := List.drop_eq_getElem_cons (by omega)
  have hg1 : H.getD j 0 = H[j]'(by omega) := by rw [List.getD_eq_getElem?_getD, List.getElem?_eq_getElem (by omega)]; rfl
  have hg2 : r.getD j 0 = r[j]'(by omega) := by rw [List.getD_eq_getElem?_getD, List.getElem?_eq_getElem (by omega)]; rfl
  refine ⟨?_, ?_, ?_⟩
  · rw [mixr, List.getD_eq_getElem?_getD, List.getElem?_append_right (by omega), ht, Nat.sub_self, hd, hg1]
    rfl
  · rw [mixr, List.set_append_right _ _ (by omega), ht, Nat.sub_self, hd, mixr, List.take_succ_eq_append_getElem (by omega), List.getElem_zipWith, hg1, hg2, List.append_assoc]
    rfl
  · rw [mixr, List.length_append, ht, List.length_drop, h1]
    omega
theorem mixr_end (H r : List UInt32) (h1 : H.length = 8) (h2 : r.length = 8) : mixr H r 8 = List.zipWith (· + ·) H r := by
  rw [mixr, List.take_of_length_le (by simp [h1, h2]), List.drop_of_length_le (by omega), List.append_nil]
def Mz (w wr : World) (L : List UInt32) : Prop := Blk wr w.heap.size (us L) 156 ∧ Blk wr (w.heap.size + 1 + 1) (us (List.replicate 8 0)) 156 ∧ Below w.heap.size w wr
theorem rnds_next (k : Nat) (W : List UInt32) (s s' : St) (h : rnds W s k = s') : rnds W s (k + 1) = rnd s' (stepsL.getD k 0) (W.getD k 0) := by rw [rnds, h]
set_option maxHeartbeats 4000000 in
set_option maxRecDepth 100000 in
theorem mixed_any (H : List UInt32) (blk : List UInt8) (hH : H.length = 8) (hb : blk.length = 64) (w : World) (hl : Lay w) :
    Calls Tryz.prog 108 #[.agg (us H).toArray, .agg (bs blk).toArray] w fun e w' => e = .returned (.agg (us (into H blk)).toArray) ∧ Below w.heap.size w w' := by
  have LY := Lib.hid hl
  obtain ⟨B, hB⟩ : ∃ B, B = (bs blk).toArray := ⟨_, rfl⟩
  obtain ⟨A, hA⟩ : ∃ A, A = (us H).toArray := ⟨_, rfl⟩
  have hBs : Hid ((Tryz.prog.info? 158).map (·.size) = some B.size) := by show _ = _; rw [info158, hB]; simp [bs, hb]
  have hAs : Hid ((Tryz.prog.info? 156).map (·.size) = some A.size) := by show _ = _; rw [info156, hA]; simp [us, hH]
  have cS := fun W => spread_any blk hb W
  obtain ⟨R, hR⟩ : ∃ R, R = (us (sched blk 64)).toArray := ⟨_, rfl⟩
  have hRs : Hid ((Tryz.prog.info? 167).map (·.size) = some R.size) := by show _ = _; rw [info167, hR]; simp [us, sched_len]
  have hR1 : Hid (R.all (·.oneCell') = true) := by show _ = _; rw [hR]; exact ones_us _
  rw [← hR] at cS
  have HR := Lib.hid hR
  clear hR
  rw [← hB] at cS ⊢
  rw [← hA]
  have HB := Lib.hid hB
  have HA := Lib.hid hA
  have CS := Lib.hid cS
  have HHl := Lib.hid hH
  have HBl := Lib.hid hb
  clear hB hA hl cS hH hb
  have g1 : Hid (((((w.alloc (.cells A 156)).alloc (.cells B 158)).alloc (.cells #[.int .u32 0, .int .u32 0, .int .u32 0, .int .u32 0, .int .u32 0, .int .u32 0, .int .u32 0, .int .u32 0] 156)).heap[w.heap.size + 1]?) = some (.cells B 158 (0, 0))) := by
    show _ = _
    rw [Below.heap_alloc _ _ _ (by simp), show w.heap.size + 1 = (w.alloc (.cells A 156)).heap.size by simp, heap_alloc_new]
  go_enter Tryz.func108, Tryz.ntmps108
  go_wp2_with (with_reducible refine wpList_load_row rfl 158 (.tmp 3) rfl (w.heap.size + 1) rfl 158 B (0, 0) (.array 64 5) g1.out Tryz.underlying158 rfl hBs.out ?_)
  refine (CS.out _).mono ?_
  rintro e w1 ⟨rfl, b1⟩
  have HO : Hid (64 = R.size) := by
    have := hRs.out
    rw [info167] at this
    exact Option.some.inj this
  go_wp2_with ((with_reducible refine wpList_store_row rfl 167 (.tmp 5) (.tmp 22) rfl w1.heap.size R rfl rfl 167 _ (heap_alloc_new w1 _) hRs.out ?ho hR1.out ?_); (case ho => exact HO.out))
  rw [World.setRow_alloc_new]
  have MX : Hid (Mx w (w1.alloc (.cells R 167)) H blk w1.heap.size) := by
    have b3 := three_below w (.cells A 156) (.cells B 158) (.cells #[.int .u32 0, .int .u32 0, .int .u32 0, .int .u32 0, .int .u32 0, .int .u32 0, .int .u32 0, .int .u32 0] 156)
    have e0 : Blk (((w.alloc (.cells A 156)).alloc (.cells B 158)).alloc (.cells #[.int .u32 0, .int .u32 0, .int .u32 0, .int .u32 0, .int .u32 0, .int .u32 0, .int .u32 0, .int .u32 0] 156)) w.heap.size (us H) 156 := by
      rw [HA.out]
      exact ((Blk.new w _ _ _ rfl).alloc _).alloc _
    have e2 : Blk (((w.alloc (.cells A 156)).alloc (.cells B 158)).alloc (.cells #[.int .u32 0, .int .u32 0, .int .u32 0, .int .u32 0, .int .u32 0, .int .u32 0, .int .u32 0, .int .u32 0] 156)) (w.heap.size + 1 + 1) (us (List.replicate 8 0)) 156 :=
      Blk.new _ (us (List.replicate 8 0)) _ _ (by simp)
    have ba : Below w1.heap.size w1 (w1.alloc (.cells R 167)) := (Below.refl _ w1).alloc (Nat.le_refl _) _
    have eR : Blk (w1.alloc (.cells R 167)) w1.heap.size (us (sched blk 64)) 167 := by
      rw [HR.out]
      exact Blk.new w1 _ _ _ rfl
    have bt := b3.trans (b1.mono b3.size)
    exact ⟨(e0.low b1).low ba, (e2.low b1).low ba, eR, (LY.out.below bt).below ba, bt.trans (ba.mono bt.size)⟩
  have hz2 : w1.heap.size < (w1.alloc (.cells R 167)).heap.size := by simp
  generalize w1.alloc (.cells R 167) = w2 at *
  generalize w1.heap.size = q at *
  have CT := Lib.hid (fun a b c W => turns_any a b c W)
  clear b1 w1 g1
  refine (CT.out 2 13 22 _).mono ?_
  rintro e w3 ⟨rfl, ta, b3⟩
  go_wp2_with fail
  refine (CT.out 6 11 25 _).mono ?_
  rintro e w4 ⟨rfl, tb, b4⟩
  have M4 := Lib.hid ((MX.out.low b3).low b4)
  have TA := Lib.hid (ta.below b4)
  have TB := Lib.hid tb
  have hk1 : w.heap.size + 1 + 1 < w2.heap.size := MX.out.2.1.lt
  have hk2 : w.heap.size + 1 + 1 < w3.heap.size := by have := b3.size; omega
  generalize w2.heap.size = k1 at *
  generalize w3.heap.size = k2 at *
  clear ta tb b3 b4 CT MX CS w2 w3
  unfold turnF
  go_wp2_with fail
  obtain ⟨m1, m2, m3, m4, m5⟩ := M4.out
  have hc := fun j (hj : j < 8) => (m1.cell j).trans (us_getD H j (by rw [HHl.out]; exact hj))
  have r0 := hc 0 (by decide)
  have r1 := hc 1 (by decide)
  have r2 := hc 2 (by decide)
  have r3 := hc 3 (by decide)
  have r4 := hc 4 (by decide)
  have r5 := hc 5 (by decide)
  have r6 := hc 6 (by decide)
  have r7 := hc 7 (by decide)
  clear hc m1 m2 m3 m4 m5
  have HS : Hid (stOf H = ⟨H.getD 0 0, H.getD 1 0, H.getD 2 0, H.getD 3 0, H.getD 4 0, H.getD 5 0, H.getD 6 0, H.getD 7 0⟩) := rfl
  generalize H.getD 0 0 = x0 at *
  generalize H.getD 1 0 = x1 at *
  generalize H.getD 2 0 = x2 at *
  generalize H.getD 3 0 = x3 at *
  generalize H.getD 4 0 = x4 at *
  generalize H.getD 5 0 = x5 at *
  generalize H.getD 6 0 = x6 at *
  generalize H.getD 7 0 = x7 at *
  go_quiet (fail)
  clear r0 r1 r2 r3 r4 r5 r6 r7
  go_wp2_with fail
  go_loopw [8, 9, 10, 11, 12, 13, 14, 15, 41] (fun a b c d e f g h i wq => ∃ (k n : Nat) (sa sb sc sd se sf sg sh : UInt32), k ≤ 64 ∧ i = .int .i64 k ∧ a = .int .u32 (sa.toNat : Int) ∧ b = .int .u32 (sb.toNat : Int) ∧ c = .int .u32 (sc.toNat : Int) ∧ d = .int .u32 (sd.toNat : Int) ∧
    e = .int .u32 (se.toNat : Int) ∧ f = .int .u32 (sf.toNat : Int) ∧ g = .int .u32 (sg.toNat : Int) ∧ h = .int .u32 (sh.toNat : Int) ∧ wq = w4.drewN n ∧ Hid (rnds (sched blk 64) (stOf H) k = ⟨sa, sb, sc, sd, se, sf, sg, sh⟩)) (fun _ _ _ _ _ _ _ _ i _ => 64 - (RowKit.intOf i).toNat)
  case atStart => exact ⟨0, _, x0, x1, x2, x3, x4, x5, x6, x7, by omega, rfl, rfl, rfl, rfl, rfl, rfl, rfl, rfl, rfl, rfl, HS.out⟩
  case round =>
    obtain ⟨k, n, sa, sb, sc, sd, se, sf, sg, sh, hk, rfl, rfl, rfl, rfl, rfl, rfl, rfl, rfl, rfl, hw, hst⟩ := hrel
    have HW := Lib.hid hw
    by_cases hk64 : k < 64
    · obtain ⟨_, _, m3, m4, _⟩ := M4.out
      have r1 : wr.cell? ⟨3, k, none⟩ = some (.int .u32 ((stepsL.getD k 0).toNat : Int)) := by rw [hw]; exact m4.2.1 k hk64
      have r2 : wr.cell? ⟨q, k, none⟩ = some (.int .u32 (((sched blk 64).getD k 0).toNat : Int)) := by rw [hw]; exact (m3.cell k).trans (us_getD _ k (by rw [sched_len]; exact hk64))
      have hnx := rnds_next k (sched blk 64) (stOf H) _ hst.out
      have c1 := fun n' => turn_any k2 6 11 25 se (wr.drewN n') (by rw [hw]; exact TB.out) (by decide) (by decide) (by decide) (by decide) (by decide) (by decide)
      have c2 := fun n' => turn_any k1 2 13 22 sa (wr.drewN n') (by rw [hw]; exact TA.out) (by decide) (by decide) (by decide) (by decide) (by decide) (by decide)
      change ∀ n', Calls Tryz.prog 119 _ (wr.drewN n') (fun e w' => e = .returned (.int .u32 ((sgE se).toNat : Int)) ∧ ∃ m, w' = (wr.drewN n').drewN m) at c1
      change ∀ n', Calls Tryz.prog 119 _ (wr.drewN n') (fun e w' => e = .returned (.int .u32 ((sgA sa).toNat : Int)) ∧ ∃ m, w' = (wr.drewN n').drewN m) at c2
      unfold rnd tee you ch mj at hnx
      simp only at hnx
      generalize stepsL.getD k 0 = K at *
      generalize (sched blk 64).getD k 0 = X at *
      generalize sgE se = rE at *
      generalize sgA sa = rA at *
      have e1 := addw_u32 sh rE
      have e2 := and_u32 se sf
      have e3 := notx_u32 se
      have e4 := and_u32 (~~~se) sg
      have e5 := or_u32 (se &&& sf) (~~~se &&& sg)
      have e6 := addw_u32 (sh + rE) (se &&& sf ||| ~~~se &&& sg)
      have e7 := addw_u32 (sh + rE + (se &&& sf ||| ~~~se &&& sg)) K
      have e8 := addw_u32 (sh + rE + (se &&& sf ||| ~~~se &&& sg) + K) X
      have u1 := and_u32 sa sb
      have u2 := and_u32 sa sc
      have u3 := or_u32 (sa &&& sb) (sa &&& sc)
      have u4 := and_u32 sb sc
      have u5 := or_u32 (sa &&& sb ||| sa &&& sc) (sb &&& sc)
      have u6 := add_u32 rA (sa &&& sb ||| sa &&& sc ||| sb &&& sc)
      have v1 := add_u32 sd (sh + rE + (se &&& sf ||| ~~~se &&& sg) + K + X)
      have v2 := add_u32 (sh + rE + (se &&& sf ||| ~~~se &&& sg) + K + X) (rA + (sa &&& sb ||| sa &&& sc ||| sb &&& sc))
      have F1 := add_nat (sh + rE) (se &&& sf ||| ~~~se &&& sg)
      have F2 := add_nat (sh + rE + (se &&& sf ||| ~~~se &&& sg)) K
      have F3 := add_nat (sh + rE + (se &&& sf ||| ~~~se &&& sg) + K) X
      have F4 := add_nat sd (sh + rE + (se &&& sf ||| ~~~se &&& sg) + K + X)
      have F5 := add_nat rA (sa &&& sb ||| sa &&& sc ||| sb &&& sc)
      have F6 := add_nat (sh + rE + (se &&& sf ||| ~~~se &&& sg) + K + X) (rA + (sa &&& sb ||| sa &&& sc ||| sb &&& sc))
      generalize sh + rE = y1 at *
      generalize se &&& sf = y2 at *
      generalize ~~~se = y3 at *
      generalize y3 &&& sg = y4 at *
      generalize y2 ||| y4 = y5 at *
      generalize y1 + y5 = y6 at *
      generalize y6 + K = y7 at *
      generalize y7 + X = y8 at *
      generalize sa &&& sb = z1 at *
      generalize sa &&& sc = z2 at *
      generalize z1 ||| z2 = z3 at *
      generalize sb &&& sc = z4 at *
      generalize z3 ||| z4 = z5 at *
      generalize rA + z5 = z6 at *
      generalize sd + y8 = y9 at *
      generalize y8 + z6 = z7 at *
      have FF := Lib.hid (And.intro F1 (And.intro F2 (And.intro F3 (And.intro F4 (And.intro F5 F6)))))
      clear F1 F2 F3 F4 F5 F6
      have C1 := Lib.hid c1
      have C2 := Lib.hid c2
      have HN := Lib.hid hnx
      have q1 : (0 : Int) ≤ (k : Int) := by omega
      have q2 : (k : Int) < 64 := by omega
      clear c1 c2 hnx m3 m4 hst hw
      go_wp2_with fail
      go_quiet ((go_at_call 119; with_reducible exact Calls.quiet_of (C1.out _)))
      go_wp2_with fail
      refine (C2.out _).mono ?_
      rintro e w' ⟨rfl, nd, rfl⟩
      go_wp2_with fail
      go_roundw
      case rel => exact ⟨k + 1, n + (nq + nd), _, _, _, _, _, _, _, _, by omega, by go_num, val_u32 (by have := FF.out; omega), rfl, rfl, rfl, val_u32 (by have := FF.out; omega), rfl, rfl, rfl, by rw [HW.out]; simp only [World.drewN_drewN], HN.out⟩
      case measure => simp [RowKit.intOf]; omega
    · obtain rfl : k = 64 := by omega
      have hrow : into H blk = List.zipWith (· + ·) H [sa, sb, sc, sd, se, sf, sg, sh] := by
        unfold into
        rw [hst.out]
        rfl
      have HROW := Lib.hid hrow
      have hidx := fun (j : Nat) (hj : j < 8) (W : World) => index43 sa sb sc sd se sf sg sh j hj W
      have hrl : [sa, sb, sc, sd, se, sf, sg, sh].length = 8 := rfl
      obtain ⟨r, hr⟩ : ∃ r, r = [sa, sb, sc, sd, se, sf, sg, sh] := ⟨_, rfl⟩
      rw [← hr] at hrl hrow
      have HRL := Lib.hid hrl
      have HIDX := Lib.hid hidx
      have HR2 := Lib.hid hr
      have M5 : Hid (Mz w wr (mixr H r 0)) := by
        obtain ⟨m1, m2, _, _, m5⟩ := M4.out
        show Mz _ _ _
        rw [hw]
        exact ⟨m1, m2, below_drewN m5 n⟩
      clear hst hrl hidx hr hw hrow HW M4 TA TB
      go_wp2_with fail
      go_loopw [103] (fun vi wq => ∃ j : Nat, j ≤ 8 ∧ vi = .int .i64 j ∧ Mz w wq (mixr H r j)) (fun vi _ => 8 - (RowKit.intOf vi).toNat)
      case atStart => exact ⟨0, by omega, rfl, M5.out⟩
      case round =>
        obtain ⟨j, hj, rfl, hm⟩ := hrel
        by_cases hj8 : j < 8
        · obtain ⟨m1, m2, m5⟩ := hm
          obtain ⟨hg, hst, hml⟩ := mixr_next H r j HHl.out HRL.out hj8
          have d1 := (m1.cell j).trans (us_getD _ j (by rw [hml]; exact hj8))
          rw [hg] at d1
          have f1 := m1.frozen j
          have hi := HIDX.out j hj8
          rw [← HR2.out] at hi
          have e1 := add_u32 (H.getD j 0) (r.getD j 0)
          have S : Hid (Mz w (wr.setCell ⟨w.heap.size, j, none⟩ (.int .u32 ((H.getD j 0 + r.getD j 0).toNat : Int))) (mixr H r (j + 1))) := by
            refine ⟨?_, m2.other _ (by show w.heap.size + 1 + 1 ≠ w.heap.size; omega), m5.setCell (Nat.le_refl _) _⟩
            have := m1.set j (.int .u32 ((H.getD j 0 + r.getD j 0).toNat : Int))
            rwa [us_set, hst] at this
          generalize H.getD j 0 + r.getD j 0 = x3 at *
          generalize H.getD j 0 = x1 at *
          generalize r.getD j 0 = x2 at *
          have q1 : (0 : Int) ≤ (j : Int) := by omega
          have q2 : (j : Int) < 8 := by omega
          clear m1 m2 m5 hg hst hml
          go_wp2_with fail
          go_roundw
          case rel => exact ⟨j + 1, by omega, by go_num, S.out⟩
          case measure => simp [RowKit.intOf]; omega
        · obtain rfl : j = 8 := by omega
          obtain ⟨m1, m2, m5⟩ := hm
          rw [mixr_end H r HHl.out HRL.out] at m1
          have hin : into H blk = List.zipWith (· + ·) H r := by rw [HROW.out, HR2.out]
          rw [← hin] at m1
          have hsz : (us (into H blk)).toArray.size = 8 := by simp [us, into_len H blk HHl.out]
          have h1c := ones_us (into H blk)
          replace m1 : wr.heap[w.heap.size]? = some (.cells (us (into H blk)).toArray 156 (0, 0)) := m1
          replace m2 : wr.heap[w.heap.size + 1 + 1]? = some (.cells (us (List.replicate 8 0)).toArray 156 (0, 0)) := m2
          have hsz2 : (us (List.replicate 8 0)).toArray.size = 8 := by simp [us]
          obtain ⟨Z, hZ⟩ : ∃ Z, Z = (us (into H blk)).toArray := ⟨_, rfl⟩
          obtain ⟨Z0, hZ0⟩ : ∃ Z, Z = (us (List.replicate 8 0)).toArray := ⟨_, rfl⟩
          rw [← hZ] at m1 hsz h1c
          rw [← hZ0] at m2 hsz2
          have hir : (Tryz.prog.info? 156).map (·.size) = some Z.size := by rw [info156, hsz]
          have ho : Z0.size = Z.size := by rw [hsz, hsz2]
          have fin := setRow_heap wr (w.heap.size + 1 + 1) Z0 Z 156 (0, 0) m2
          have Bz := m5.setRow (g := w.heap.size + 1 + 1) (by omega) Z
          have S1 := Lib.hid m1
          have S2 := Lib.hid m2
          have HIR := Lib.hid hir
          have HO2 := Lib.hid ho
          have H1 := Lib.hid h1c
          have FIN := Lib.hid fin
          have BB := Lib.hid Bz
          have HZ := Lib.hid hZ
          clear hsz hsz2 m1 m2 m5 hir ho h1c fin Bz hin hZ hZ0
          go_wp2_with (first
            | (with_reducible refine wpList_load_row rfl 156 (.tmp 2) rfl w.heap.size rfl 156 Z (0, 0) (.array 8 118) S1.out Tryz.underlying156 rfl HIR.out ?_)
            | (with_reducible refine wpList_store_row rfl 156 (.tmp 4) (.tmp 114) rfl (w.heap.size + 1 + 1) Z rfl rfl 156 Z0 S2.out HIR.out HO2.out H1.out ?_))
          exact bodyPost_ret (results_cell_row Tryz.results108 _ _ (w.heap.size + 1 + 1) 156 Z (0, 0) (.array 8 118) rfl FIN.out Tryz.underlying156 rfl HIR.out) rfl ⟨by rw [HZ.out], BB.out⟩
end Go.Proofs.YtekaboomhljdoaaGreatDoor.Sh
