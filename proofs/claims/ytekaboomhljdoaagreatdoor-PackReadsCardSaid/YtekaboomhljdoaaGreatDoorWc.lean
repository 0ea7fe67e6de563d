/-
  The contract of sha's spread: the 64 words that are made of a block. Condition: a block has 64 bytes.
-/
import Derived.Test.YtekaboomhljdoaaGreatDoorKe
import Derived.Test.YtekaboomhljdoaaGreatDoorWb
namespace Go.Proofs.YtekaboomhljdoaaGreatDoor.Sh
open Go.RowKit Go.Lib
/-- what spread's three blocks hold -/
def Sp (w wr : World) (blk : List UInt8) (L : List UInt32) : Prop :=
  Blk wr w.heap.size (bs blk) 158 ∧ Blk wr (w.heap.size + 1) (us (List.replicate 64 0)) 167 ∧ Blk wr (w.heap.size + 1 + 1) (us L) 167 ∧ Below w.heap.size w wr
def Sq (w wr : World) (blk : List UInt8) (L : List UInt32) (k1 k2 : Nat) : Prop := Sp w wr blk L ∧ Three' wr k1 7 18 3 ∧ Three' wr k2 17 19 10
theorem Three'.other {w : World} {k a b c : Nat} (h : Three' w k a b c) {p : Addr} (v : Value) (hp : p.block < k) : Three' (w.setCell p v) k a b c := by
  obtain ⟨h1, h2, h3, h4⟩ := h
  have ne : ∀ j, k ≤ j → p ≠ ⟨j, 0, none⟩ := fun j hj h0 => by
    have : p.block = j := by rw [h0]
    omega
  exact ⟨(World.cell?_setCell_other _ _ _ _ (ne k (Nat.le_refl _))).trans h1, (World.cell?_setCell_other _ _ _ _ (ne (k + 1) (by omega))).trans h2, (World.cell?_setCell_other _ _ _ _ (ne (k + 2) (by omega))).trans h3, by simpa [World.setCell] using h4⟩
def fill (blk : List UInt8) (i : Nat) (x : UInt32) : List UInt32 := sched blk i ++ x :: List.replicate (63 - i) 0
theorem fill_get (blk : List UInt8) (i : Nat) (x : UInt32) : (us (fill blk i x))[i]? = some (.int .u32 (x.toNat : Int)) := by
  have : (fill blk i x)[i]? = some x := by
    unfold fill
    rw [List.getElem?_append_right (by rw [sched_len]; exact Nat.le_refl _), sched_len]
    simp
  simp [us, this]
theorem fill_set (blk : List UInt8) (i : Nat) (x y : UInt32) : (us (fill blk i x)).set i (.int .u32 (y.toNat : Int)) = us (fill blk i y) := by
  have : (fill blk i x).set i y = fill blk i y := by
    unfold fill
    rw [List.set_append_right _ _ (by rw [sched_len]; exact Nat.le_refl _), sched_len]
    simp
  rw [← this]
  simp [us, List.map_set]
theorem fill_next (blk : List UInt8) (i : Nat) (h : i < 16) : fill blk i (word blk i) = sched blk (i + 1) ++ List.replicate (64 - (i + 1)) 0 := by
  unfold fill
  rw [sched, if_pos h, List.append_assoc, show 64 - (i + 1) = 63 - i by omega]
  rfl
theorem fill_first (blk : List UInt8) (i : Nat) (h : i < 64) : sched blk i ++ List.replicate (64 - i) 0 = fill blk i 0 := by
  unfold fill
  rw [show 64 - i = (63 - i) + 1 by omega, List.replicate_succ]
theorem us_getD (L : List UInt32) (j : Nat) (h : j < L.length) : (us L)[j]? = some (.int .u32 ((L.getD j 0).toNat : Int)) := by
  rw [us_get L j h, List.getD_eq_getElem?_getD, List.getElem?_eq_getElem h]
  rfl
theorem us_set (L : List UInt32) (j : Nat) (y : UInt32) : (us L).set j (.int .u32 (y.toNat : Int)) = us (L.set j y) := by simp [us, List.map_set]
theorem sq_next (blk : List UInt8) (i : Nat) (h : i < 48) : (sched blk (16 + i) ++ List.replicate (48 - i) (0 : UInt32)).length = 64 ∧
    (sched blk (16 + i) ++ List.replicate (48 - i) 0).set (i + 16) ((sched blk (16 + i) ++ List.replicate (48 - i) 0).getD i 0 + (sched blk (16 + i) ++ List.replicate (48 - i) 0).getD (i + 9) 0 +
      far ((sched blk (16 + i) ++ List.replicate (48 - i) 0).getD (i + 1) 0) + near ((sched blk (16 + i) ++ List.replicate (48 - i) 0).getD (i + 14) 0)) = sched blk (16 + (i + 1)) ++ List.replicate (48 - (i + 1)) 0 := by
  have hl := sched_len blk (16 + i)
  have hg : ∀ j, j < 16 + i → (sched blk (16 + i) ++ List.replicate (48 - i) 0).getD j 0 = (sched blk (16 + i)).getD j 0 := fun j hj => by
    rw [List.getD_eq_getElem?_getD, List.getElem?_append_left (by omega), List.getD_eq_getElem?_getD]
  refine ⟨by simp [hl]; omega, ?_⟩
  rw [hg i (by omega), hg (i + 9) (by omega), hg (i + 1) (by omega), hg (i + 14) (by omega)]
  have e : sched blk (16 + (i + 1)) = sched blk (16 + i) ++ [nextW (sched blk (16 + i)) (16 + i)] := by
    rw [show 16 + (i + 1) = (16 + i) + 1 by omega, sched, if_neg (by omega)]
  rw [e, nextW, show 16 + i - 16 = i by omega, show 16 + i - 7 = i + 9 by omega, show 16 + i - 15 = i + 1 by omega, show 16 + i - 2 = i + 14 by omega,
    List.set_append_right _ _ (by omega), hl, show i + 16 - (16 + i) = 0 by omega, show 48 - i = (48 - (i + 1)) + 1 by omega, List.replicate_succ, List.append_assoc]
  rfl
theorem ones_us (l : List UInt32) : (us l).toArray.all (·.oneCell') = true := by
  rw [Array.all_eq_true_iff_forall_mem]
  intro v hv
  exact us_one l v (by simpa using hv)
theorem _root_.Go.RowKit.Below.setRow {B : Nat} {a w : World} (h : Below B a w) {g : Nat} (hg : B ≤ g) (cs : Array Value) : Below B a (w.setRow g cs) :=
  ⟨h.os, h.tape, h.output, by rw [size_setRow]; exact h.size, fun k hk => (setRow_other w g k cs (by omega)).trans (h.block k hk)⟩
theorem part_u (l : List UInt8) (i j : Nat) (h : j ≤ 4) : (UInt32.ofNat (part l i j)).toNat = part l i j := by
  rw [UInt32.toNat_ofNat']
  apply Nat.mod_eq_of_lt
  exact Nat.lt_of_lt_of_le (part_lt l i j) (Nat.pow_le_pow_right (by decide) h)
/-- one byte more -/
theorem part_or (l : List UInt8) (i j : Nat) (h : j < 4) :
    bits BinOp.or IntKind.u32 ((part l i j : Int) * 256 % 4294967296) (byte l (4 * i + j) : Int) = (part l i (j + 1) : Int) := by
  have h1 := part_lt l i j
  have h2 := byte_lt l (4 * i + j)
  have h3 : part l i j < 16777216 := Nat.lt_of_lt_of_le h1 (by
    have : 256 ^ j ≤ 256 ^ 3 := Nat.pow_le_pow_right (by decide) (by omega)
    simpa using this)
  rw [show ((part l i j : Int) * 256 % 4294967296) = ((2 ^ 8 * part l i j : Nat) : Int) by omega, u32_or_nat _ _ (by omega) (by omega), ← Nat.two_pow_add_eq_or_of_lt (by omega), part]
  congr 1
  omega
theorem byte_cell (blk : List UInt8) (hb : blk.length = 64) (j : Nat) (h : j < 64) : (bs blk)[j]? = some (.int .u8 (byte blk j : Int)) := by
  rw [bs_get blk j (by omega), byte, List.getD_eq_getElem?_getD, List.getElem?_eq_getElem (by omega)]
  rfl
set_option maxHeartbeats 2000000 in
set_option maxRecDepth 100000 in
theorem spread_any (blk : List UInt8) (hb : blk.length = 64) (w : World) :
    Calls Tryz.prog 112 #[.agg (bs blk).toArray] w fun e w' => e = .returned (.agg (us (sched blk 64)).toArray) ∧ Below w.heap.size w w' := by
  have HB := Lib.hid hb
  obtain ⟨C, hC⟩ : ∃ C, C = (bs blk).toArray := ⟨_, rfl⟩
  rw [← hC]
  have HC := Lib.hid hC
  clear hC hb
  go_enter Tryz.func112, Tryz.ntmps112
  go_wp2_with fail
  go_loopw [9] (fun vi wr => ∃ i : Nat, i ≤ 16 ∧ vi = .int .i64 i ∧ Sp w wr blk (sched blk i ++ List.replicate (64 - i) 0)) (fun vi _ => 16 - (RowKit.intOf vi).toNat)
  case atStart =>
    refine ⟨0, by omega, rfl, ?_⟩
    rw [HC.out]
    refine ⟨((Blk.new w _ _ _ rfl).alloc _).alloc _, (Blk.new (w.alloc _) (us (List.replicate 64 0)) _ _ (by simp)).alloc _, Blk.new _ (us (List.replicate 64 0)) _ _ (by simp), three_below w _ _ _⟩
  case round =>
    obtain ⟨i, hi, rfl, hs⟩ := hrel
    by_cases hi16 : i < 16
    · rw [fill_first blk i (by omega)] at hs
      have hd : decide ((i : Int) < 16) = true := by simp; omega
      go_wp2_with fail
      obtain ⟨wo, hwo⟩ : ∃ wo : World, wo = wr := ⟨_, rfl⟩
      go_loopw [12] (fun vj wq => ∃ j : Nat, j ≤ 4 ∧ vj = .int .i64 j ∧ Sp w wq blk (fill blk i (UInt32.ofNat (part blk i j)))) (fun vj _ => 4 - (RowKit.intOf vj).toNat)
      case atStart => exact ⟨0, by omega, rfl, hs⟩
      case round =>
        obtain ⟨j, hj, rfl, hs⟩ := hrel
        by_cases hj4 : j < 4
        · obtain ⟨s1, s2, s3, s4⟩ := hs
          have d1 := (s3.cell i).trans (fill_get blk i _)
          rw [part_u blk i j (by omega)] at d1
          have d2 := (s1.cell (4 * i + j)).trans (byte_cell blk HB.out _ (by omega))
          have e1 := part_or blk i j hj4
          have f1 := s3.frozen i
          have xl : part blk i j < 4294967296 := Nat.lt_of_lt_of_le (part_lt blk i j) (by
            have : 256 ^ j ≤ 256 ^ 4 := Nat.pow_le_pow_right (by decide) (by omega)
            simpa using this)
          have yl := byte_lt blk (4 * i + j)
          have hset := fill_set blk i (UInt32.ofNat (part blk i j)) (UInt32.ofNat (part blk i (j + 1)))
          rw [part_u blk i (j + 1) (by omega)] at hset
          have S : Hid (Sp w (wr.drew.setCell ⟨w.heap.size + 1 + 1, i, none⟩ (.int .u32 (part blk i (j + 1) : Int))) blk (fill blk i (UInt32.ofNat (part blk i (j + 1))))) := by
            refine ⟨s1.drew.other _ (by show w.heap.size ≠ w.heap.size + 1 + 1; omega), s2.drew.other _ (by show w.heap.size + 1 ≠ w.heap.size + 1 + 1; omega), ?_, s4.drew.setCell (by show w.heap.size ≤ w.heap.size + 1 + 1; omega) _⟩
            have := s3.drew.set i (.int .u32 (part blk i (j + 1) : Int))
            rwa [hset] at this
          obtain ⟨x, hx⟩ : ∃ x, x = part blk i j := ⟨_, rfl⟩
          obtain ⟨y, hy⟩ : ∃ y, y = byte blk (4 * i + j) := ⟨_, rfl⟩
          obtain ⟨z, hz⟩ : ∃ z, z = part blk i (j + 1) := ⟨_, rfl⟩
          rw [← hx] at d1 e1 xl
          rw [← hy] at d2 e1 yl
          rw [← hz] at e1 S
          have kx : Hid (IntKind.u32.wrap ((x : Int) * 256) = (x : Int) * 256 % 4294967296) := wrap_u32 _
          have ky : Hid (IntKind.u32.wrap (y : Int) = (y : Int)) := by
            show _ = _
            rw [wrap_u32]
            omega
          rw [← kx.out, ← ky.out] at e1
          have k1 : IntKind.i64.wrap (4 * (i : Int)) = 4 * (i : Int) := IntWalk.i64_in _ (by omega)
          have k2 : IntKind.i64.wrap (4 * (i : Int) + (j : Int)) = 4 * (i : Int) + (j : Int) := IntWalk.i64_in _ (by omega)
          have k3 : (4 * (i : Int) + (j : Int)).toNat = 4 * i + j := by omega
          have HZ := Lib.hid hz
          clear s1 s2 s3 s4 hset hx hy hz
          have q1 : (0 : Int) ≤ (i : Int) := by omega
          have q2 : (i : Int) < 64 := by omega
          have q3 : (0 : Int) ≤ 4 * (i : Int) + (j : Int) := by omega
          have q4 : 4 * (i : Int) + (j : Int) < 64 := by omega
          replace d1 : wr.drew.cell? ⟨w.heap.size + 1 + 1, i, none⟩ = some (.int .u32 (x : Int)) := d1
          replace d2 : wr.drew.cell? ⟨w.heap.size, 4 * i + j, none⟩ = some (.int .u8 (y : Int)) := d2
          replace f1 : wr.drew.frozen? ⟨w.heap.size + 1 + 1, i, none⟩ = false := f1
          go_wp2_with fail
          refine wp_region_still_tail 14 (by kernel_rfl) (by kernel_rfl) ?_
          simp only [List.take_succ_cons, List.take_zero, List.drop_succ_cons, List.drop_zero]
          change wpStill _ _ wr.drew (fun a' => wpList _ _ _ _ a' wr.drew) _ _
          generalize wr.drew = w2 at d1 d2 f1 S ⊢
          repeat still_step
          refine wpStill_nil ?_
          go_wp2_with fail
          go_roundw
          case rel => exact ⟨j + 1, by omega, by go_num, by rw [← HZ.out]; exact S.out⟩
          case measure => simp [RowKit.intOf]; omega
        · obtain rfl : j = 4 := by omega
          have hn := Lib.hid (fill_next blk i hi16)
          go_wp2_with fail
          go_roundw
          case rel => exact ⟨i + 1, by omega, by go_num, by rw [← hn.out]; exact hs⟩
          case measure => simp [RowKit.intOf]; omega
    · obtain rfl : i = 16 := by omega
      have SP := Lib.hid hs
      clear hs
      have CA := Lib.hid (fun W => shifts_any 7 18 3 W)
      have CB := Lib.hid (fun W => shifts_any 17 19 10 W)
      go_wp2_with fail
      refine (CA.out _).mono ?_
      rintro e w1 ⟨rfl, ta, b1⟩
      go_wp2_with fail
      refine (CB.out _).mono ?_
      rintro e w2 ⟨rfl, tb, b2⟩
      have hlo : w.heap.size + 3 ≤ wr.heap.size := by have := SP.out.2.2.1.lt; omega
      have b12 : Below wr.heap.size wr w2 := b1.trans (b2.mono b1.size)
      have h2 : Sq w w2 blk (sched blk (16 + 0) ++ List.replicate (48 - 0) 0) wr.heap.size w1.heap.size := by
        obtain ⟨s1, s2, s3, s4⟩ := SP.out
        exact ⟨⟨s1.low b12, s2.low b12, s3.low b12, s4.trans (b12.mono s4.size)⟩, ta.below b2, tb⟩
      have hlo1 : w.heap.size + 3 ≤ w1.heap.size := by have := b1.size; omega
      generalize wr.heap.size = g1 at *
      generalize w1.heap.size = g2 at *
      clear ta tb b1 b2 b12 CA CB SP w1
      unfold shiftF
      go_wp2_with fail
      go_loopw [33] (fun vi wq => ∃ i : Nat, i ≤ 48 ∧ vi = .int .i64 i ∧ Sq w wq blk (sched blk (16 + i) ++ List.replicate (48 - i) 0) g1 g2) (fun vi _ => 48 - (RowKit.intOf vi).toNat)
      case atStart => exact ⟨0, by omega, rfl, h2⟩
      case round =>
        obtain ⟨i, hi, rfl, hs⟩ := hrel
        by_cases hi48 : i < 48
        · obtain ⟨⟨s1, s2, s3, s4⟩, ta, tb⟩ := hs
          obtain ⟨hlen, hnx⟩ := sq_next blk i hi48
          have hz : Hid (∀ i, sched blk (16 + i) ++ List.replicate (48 - i) 0 = sched blk (16 + i) ++ List.replicate (48 - i) 0) := fun _ => rfl
          clear hz
          obtain ⟨L, hL⟩ : ∃ L, L = sched blk (16 + i) ++ List.replicate (48 - i) 0 := ⟨_, rfl⟩
          rw [← hL] at s3 hlen hnx
          have c0 := (s3.cell i).trans (us_getD L i (by omega))
          have c9 := (s3.cell (i + 9)).trans (us_getD L (i + 9) (by omega))
          have c1 := (s3.cell (i + 1)).trans (us_getD L (i + 1) (by omega))
          have c14 := (s3.cell (i + 14)).trans (us_getD L (i + 14) (by omega))
          have c16 := (s3.cell (i + 16)).trans (us_getD L (i + 16) (by omega))
          have f16 := s3.frozen (i + 16)
          have a1 := addw_u32 (L.getD i 0) (L.getD (i + 9) 0)
          have a2 := addw_u32 (L.getD i 0 + L.getD (i + 9) 0) (far (L.getD (i + 1) 0))
          have a3 := addw_u32 (L.getD i 0 + L.getD (i + 9) 0 + far (L.getD (i + 1) 0)) (near (L.getD (i + 14) 0))
          have cA := fun W (h : Three' W g1 7 18 3) => shift_any g1 7 18 3 (L.getD (i + 1) 0) W h (by decide) (by decide) (by decide) (by decide) (by decide)
          have cB := fun W (h : Three' W g2 17 19 10) => shift_any g2 17 19 10 (L.getD (i + 14) 0) W h (by decide) (by decide) (by decide) (by decide) (by decide)
          change ∀ W, Three' W g1 7 18 3 → Calls Tryz.prog 123 _ W (fun e w' => e = .returned (.int .u32 ((far (L.getD (i + 1) 0)).toNat : Int)) ∧ ∃ n, w' = W.drewN n) at cA
          change ∀ W, Three' W g2 17 19 10 → Calls Tryz.prog 123 _ W (fun e w' => e = .returned (.int .u32 ((near (L.getD (i + 14) 0)).toNat : Int)) ∧ ∃ n, w' = W.drewN n) at cB
          generalize L.getD (i + 16) 0 = x16 at *
          generalize far (L.getD (i + 1) 0) = y1 at *
          generalize near (L.getD (i + 14) 0) = y2 at *
          generalize L.getD i 0 + L.getD (i + 9) 0 = t1 at *
          generalize t1 + y1 = t2 at *
          generalize t2 + y2 = t3 at *
          generalize L.getD i 0 = x0 at *
          generalize L.getD (i + 9) 0 = x9 at *
          generalize L.getD (i + 1) 0 = x1 at *
          generalize L.getD (i + 14) 0 = x14 at *
          have S : Hid (∀ n, Sq w ((wr.drewN n).setCell ⟨w.heap.size + 1 + 1, i + 16, none⟩ (.int .u32 (t3.toNat : Int))) blk (sched blk (16 + (i + 1)) ++ List.replicate (48 - (i + 1)) 0) g1 g2) := fun n => by
            have hs3 := (show Blk (wr.drewN n) _ _ _ from s3).set (i + 16) (.int .u32 (t3.toNat : Int))
            rw [us_set, hnx] at hs3
            have hta : Three' (wr.drewN n) g1 7 18 3 := ta
            have htb : Three' (wr.drewN n) g2 17 19 10 := tb
            exact ⟨⟨(show Blk (wr.drewN n) _ _ _ from s1).other _ (by show w.heap.size ≠ w.heap.size + 1 + 1; omega), (show Blk (wr.drewN n) _ _ _ from s2).other _ (by show w.heap.size + 1 ≠ w.heap.size + 1 + 1; omega), hs3,
              (below_drewN s4 n).setCell (by show w.heap.size ≤ w.heap.size + 1 + 1; omega) _⟩, hta.other _ (by show w.heap.size + 1 + 1 < _; omega), htb.other _ (by show w.heap.size + 1 + 1 < _; omega)⟩
          have HTA := Lib.hid ta
          have HTB := Lib.hid tb
          have CA := Lib.hid cA
          have CB := Lib.hid cB
          obtain ⟨ta1, ta2, ta3, _⟩ := ta
          obtain ⟨tb1, tb2, tb3, _⟩ := tb
          have k1 : IntKind.i64.wrap ((i : Int) + 16) = (i : Int) + 16 := IntWalk.i64_in _ (by omega)
          have k2 : IntKind.i64.wrap ((i : Int) + 9) = (i : Int) + 9 := IntWalk.i64_in _ (by omega)
          have k3 : IntKind.i64.wrap ((i : Int) + 1) = (i : Int) + 1 := IntWalk.i64_in _ (by omega)
          have k4 : IntKind.i64.wrap ((i : Int) + 14) = (i : Int) + 14 := IntWalk.i64_in _ (by omega)
          have m0 : (0 : Int) ≤ (i : Int) := by omega
          have m1 : (i : Int) < 64 := by omega
          have m2 : (0 : Int) ≤ (i : Int) + 16 := by omega
          have m3 : (i : Int) + 16 < 64 := by omega
          have m4 : (0 : Int) ≤ (i : Int) + 9 := by omega
          have m5 : (i : Int) + 9 < 64 := by omega
          have m6 : (0 : Int) ≤ (i : Int) + 1 := by omega
          have m7 : (i : Int) + 1 < 64 := by omega
          have m8 : (0 : Int) ≤ (i : Int) + 14 := by omega
          have m9 : (i : Int) + 14 < 64 := by omega
          have n1 : ((i : Int) + 16).toNat = i + 16 := by omega
          have n2 : ((i : Int) + 9).toNat = i + 9 := by omega
          have n3 : ((i : Int) + 1).toNat = i + 1 := by omega
          have n4 : ((i : Int) + 14).toNat = i + 14 := by omega
          clear cA cB s1 s2 s3 s4 hL hnx
          go_wp2_with fail
          go_region_held3 (fun w' => w'.cell? ⟨w.heap.size + 1 + 1, i, none⟩ = some (.int .u32 (x0.toNat : Int)) ∧ w'.cell? ⟨w.heap.size + 1 + 1, i + 9, none⟩ = some (.int .u32 (x9.toNat : Int)) ∧
              w'.cell? ⟨w.heap.size + 1 + 1, i + 1, none⟩ = some (.int .u32 (x1.toNat : Int)) ∧ w'.cell? ⟨w.heap.size + 1 + 1, i + 14, none⟩ = some (.int .u32 (x14.toNat : Int)))
            (first
              | go_keep
              | (go_split_ands
                 (try dsimp only)
                 (repeat' apply And.intro) <;> (rw [World.cell?_setCell_other _ _ _ _ (by simp)]; assumption)))
            (first
              | (go_at_call 123; (with_reducible refine (CA.out _ ?_).mono ?_); exact HTA.out; rintro e w' ⟨rfl, na, rfl⟩)
              | (go_at_call 123; (with_reducible refine (CB.out _ ?_).mono ?_); exact HTB.out; rintro e w' ⟨rfl, nb, rfl⟩))
          all_goals (go_wp2_with fail; go_roundw)
          case rel => exact ⟨i + 1, by omega, by go_num, S.out _⟩
          case measure => simp [RowKit.intOf]; omega
        · obtain rfl : i = 48 := by omega
          obtain ⟨⟨s1, s2, s3, s4⟩, _, _⟩ := hs
          rw [show sched blk (16 + 48) ++ List.replicate (48 - 48) 0 = sched blk 64 by simp] at s3
          have hsz : (us (sched blk 64)).toArray.size = 64 := by simp [us, sched_len]
          have hsz2 : (us (List.replicate 64 0)).toArray.size = 64 := by simp [us]
          have h1c := ones_us (sched blk 64)
          replace s3 : wr.heap[w.heap.size + 1 + 1]? = some (.cells (us (sched blk 64)).toArray 167 (0, 0)) := s3
          replace s2 : wr.heap[w.heap.size + 1]? = some (.cells (us (List.replicate 64 0)).toArray 167 (0, 0)) := s2
          obtain ⟨R, hR⟩ : ∃ R, R = (us (sched blk 64)).toArray := ⟨_, rfl⟩
          rw [← hR] at s3 hsz h1c
          have HRE := Lib.hid hR
          clear hR
          generalize (us (List.replicate 64 0)).toArray = R0 at *
          have hir : (Tryz.prog.info? 167).map (·.size) = some R.size := by rw [info167, hsz]
          have ho : R0.size = R.size := by rw [hsz, hsz2]
          have fin := setRow_heap wr (w.heap.size + 1) R0 R 167 (0, 0) s2
          have B := s4.setRow (g := w.heap.size + 1) (by omega) R
          have S2 := Lib.hid s2
          have S3 := Lib.hid s3
          have HIR := Lib.hid hir
          have HO := Lib.hid ho
          have H1 := Lib.hid h1c
          have FIN := Lib.hid fin
          have BB := Lib.hid B
          clear hsz hsz2 s1 s2 s3 s4 hir ho h1c fin B
          go_wp2_with (first
            | (with_reducible refine wpList_load_row rfl 167 (.tmp 3) rfl (w.heap.size + 1 + 1) rfl 167 R (0, 0) (.array 64 118) S3.out Tryz.underlying167 rfl HIR.out ?_)
            | (with_reducible refine wpList_store_row rfl 167 (.tmp 2) (.tmp 62) rfl (w.heap.size + 1) R rfl rfl 167 R0 S2.out HIR.out HO.out H1.out ?_))
          exact bodyPost_ret (results_cell_row Tryz.results112 _ _ (w.heap.size + 1) 167 R (0, 0) (.array 64 118) rfl FIN.out Tryz.underlying167 rfl HIR.out) rfl ⟨by rw [HRE.out], BB.out⟩
end Go.Proofs.YtekaboomhljdoaaGreatDoor.Sh
