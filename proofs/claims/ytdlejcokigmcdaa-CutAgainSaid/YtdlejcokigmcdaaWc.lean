/-
  The contract of rabin's carried: the row of what is left of each byte that is carried over. No condition.
-/
import Derived.Test.YtdlejcokigmcdaaWb
import Derived.Laws.Rows
import Derived.Deep.WholeRow
namespace Go.Proofs.Ytdlejcokigmcdaa.Rb
open Go.ChangeShapes Go.WideShapes Go.ChangeAt Go.RowKit Go.Lib Go.ChangeMaps

def ns (l : List Nat) : List Value := l.map fun (n : Nat) => Value.int .u32 (n : Int)
theorem ns_len (l : List Nat) : (ns l).length = l.length := by simp [ns]
theorem ns_one (l : List Nat) : ∀ u ∈ ns l, u.oneCell' = true := by
  intro u hu
  simp only [ns, List.mem_map] at hu
  obtain ⟨n, _, rfl⟩ := hu
  rfl
/-- the row with its first n places laid -/
def tab (n : Nat) : List Nat := (List.range 256).map fun t => if t < n then T t else 0
theorem tab_len (n : Nat) : (tab n).length = 256 := by simp [tab]
theorem tab_get (n t : Nat) (h : t < 256) (hn : t < n) : (ns (tab n))[t]? = some (.int .u32 (T t : Int)) := by
  simp [ns, tab, h, hn]
theorem tab_zero (n t : Nat) (h : t < 256) (hn : n ≤ t) : (ns (tab n))[t]? = some (.int .u32 0) := by
  simp [ns, tab, h, Nat.not_lt.2 hn]
theorem tab_set (n : Nat) : (ns (tab n)).set n (.int .u32 (T n : Int)) = ns (tab (n + 1)) := by
  apply List.ext_getElem?
  intro t
  by_cases ht : t < 256
  · by_cases h : n = t
    · subst h
      rw [List.getElem?_set_self (by rw [ns_len, tab_len]; exact ht), tab_get _ _ ht (by omega)]
    · rw [List.getElem?_set_ne h]
      by_cases h2 : t < n
      · rw [tab_get _ _ ht h2, tab_get _ _ ht (by omega)]
      · rw [tab_zero _ _ ht (by omega), tab_zero _ _ ht (by omega)]
  · rw [List.getElem?_eq_none (by rw [List.length_set, ns_len, tab_len]; omega), List.getElem?_eq_none (by rw [ns_len, tab_len]; omega)]
theorem T_zero : T 0 = 0 := by
  rw [T, Nat.zero_shiftLeft]
  exact modN_small 0 (by decide)
theorem tab_start : tab 1 = List.replicate 256 0 := by
  apply List.ext_getElem?
  intro t
  by_cases ht : t < 256
  · simp only [tab, List.getElem?_map, List.getElem?_range ht, Option.map_some, List.getElem?_replicate, ht, if_true, Option.some.injEq]
    split
    · have : t = 0 := by omega
      rw [this, T_zero]
    · rfl
  · rw [List.getElem?_eq_none (by rw [tab_len]; omega), List.getElem?_eq_none (by rw [List.length_replicate]; omega)]
/-- block g holds these cells, and none is frozen -/
def Blk (w : World) (g : Nat) (cs : List Value) (t : TypeId) : Prop := w.heap[g]? = some (.cells cs.toArray t (0, 0))
theorem Blk.lt {w : World} {g : Nat} {cs : List Value} {t : TypeId} (h : Blk w g cs t) : g < w.heap.size := (Array.getElem?_eq_some_iff.1 h).1
theorem Blk.cell {w : World} {g : Nat} {cs : List Value} {t : TypeId} (h : Blk w g cs t) (j : Nat) : w.cell? ⟨g, j, none⟩ = cs[j]? := by
  rw [cell_of_row w g j _ t (0, 0) h]
  simp
theorem Blk.frozen {w : World} {g : Nat} {cs : List Value} {t : TypeId} (h : Blk w g cs t) (j : Nat) : w.frozen? ⟨g, j, none⟩ = false := frozen_of_row w g j _ t h
theorem Blk.drewN {w : World} {g : Nat} {cs : List Value} {t : TypeId} (h : Blk w g cs t) (n : Nat) : Blk (w.drewN n) g cs t := h
theorem Blk.below {w w' : World} {B g : Nat} {cs : List Value} {t : TypeId} (h : Blk w g cs t) (hb : Below B w w') (hg : g < B) : Blk w' g cs t := (hb.block g hg).trans h
theorem Blk.low {w w' : World} {g : Nat} {cs : List Value} {t : TypeId} (h : Blk w g cs t) (hb : Below w.heap.size w w') : Blk w' g cs t := h.below hb h.lt
theorem Blk.alloc {w : World} {g : Nat} {cs : List Value} {t : TypeId} (h : Blk w g cs t) (o : Obj) : Blk (w.alloc o) g cs t := (Below.heap_alloc w o g h.lt).trans h
theorem Blk.new (w : World) (cs : List Value) (t : TypeId) (g : Nat) (hg : g = w.heap.size) : Blk (w.alloc (.cells cs.toArray t)) g cs t := by
  subst hg
  exact heap_alloc_new w _
theorem Blk.set {w : World} {g : Nat} {cs : List Value} {t : TypeId} (h : Blk w g cs t) (i : Nat) (v : Value) : Blk (w.setCell ⟨g, i, none⟩ v) g (cs.set i v) t := by
  unfold Blk
  rw [heap_setCell_same w g i _ t v h]
  simp
theorem Blk.other {w : World} {g : Nat} {cs : List Value} {t : TypeId} (h : Blk w g cs t) {a : Addr} (v : Value) (ha : g ≠ a.block) : Blk (w.setCell a v) g cs t := (heap_setCell_other w a g v ha).trans h
theorem _root_.Go.RowKit.Below.setRow {B : Nat} {a w : World} (h : Below B a w) {g : Nat} (hg : B ≤ g) (cs : Array Value) : Below B a (w.setRow g cs) :=
  ⟨h.os, h.tape, h.output, by rw [size_setRow]; exact h.size, fun k hk => (setRow_other w g k cs (by omega)).trans (h.block k hk)⟩
theorem info43 : (Try.prog.info? 43).map (·.size) = some 256 := by kernel_rfl

theorem zv43 (W : World) : (zeroValue 43).run Try.prog W = .ok (.agg (ns (List.replicate 256 0)).toArray) W := by kernel_rfl
theorem wrap64_nat (n : Nat) (h : n < 9223372036854775808) : wrap64 (n : Int) = (n : Int) := IntWalk.wrap64_in _ (by omega)
theorem slice_arr (g B : Nat) (hB : B ≤ 256) (W : World) : (Instr.sliceAt 43 (.pointer (some ⟨g, 0, none⟩)) none (some (.int .i64 (B : Int))) none).run Try.prog W = .ok (.slice (some ⟨g, 0, none⟩) B 256) W := by
  have e2 : ((B : Int)).toNat = B := by omega
  have e3 : Try.prog.elem 43 = 42 := by kernel_rfl
  have e4 : Try.prog.arrayLen 43 = 256 := by kernel_rfl
  have hs := run_sliceAt_array_h (P := Try.prog) W 43 ⟨g, 0, none⟩ (by rw [Try.underlying43]; rfl) .i64 (B : Int) (by omega) (by rw [e4]; omega)
  rw [hs, e2, e3, e4]
  simp [Try.sizeOf42, slicedAt, Result.andThen, add_zero]
theorem i64_or_nat (a b : Nat) (ha : a < 9223372036854775808) (hb : b < 9223372036854775808) : bits .or .i64 (a : Int) (b : Int) = ((a ||| b : Nat) : Int) := by
  have hx : a ||| b < 2 ^ 63 := Nat.or_lt_two_pow (by omega) (by omega)
  show IntKind.i64.wrap ((BitVec.ofInt 64 (a : Int) ||| BitVec.ofInt 64 (b : Int)).toNat : Int) = _
  rw [BitVec.toNat_or, ofInt_u64 a (by omega), ofInt_u64 b (by omega)]
  exact IntWalk.i64_in _ (by omega)
theorem u32_small (n : Nat) (h : n < 4294967296) : IntKind.u32.wrap (n : Int) = (n : Int) := by
  rw [IntKind.wrap_u32']
  omega
theorem pow_xor (i j : Nat) (h : j < 2 ^ i) : 2 ^ i ^^^ j = 2 ^ i + j := by
  apply Nat.eq_of_testBit_eq
  intro k
  have := Nat.testBit_two_pow_mul_add 1 h k
  rw [Nat.mul_one] at this
  rw [this, Nat.testBit_xor, Nat.testBit_two_pow]
  rcases Nat.lt_trichotomy k i with hk | hk | hk
  · simp [hk, show ¬ i = k by omega]
  · subst hk
    simp [Nat.testBit_lt_two_pow h]
  · rw [if_neg (by omega), Nat.testBit_lt_two_pow (x := j) (Nat.lt_of_lt_of_le h (Nat.pow_le_pow_right (by decide) (by omega)))]
    have e : (1 : Nat).testBit (k - i) = false := Nat.testBit_lt_two_pow (Nat.lt_of_lt_of_le (show 1 < 2 ^ 1 by decide) (Nat.pow_le_pow_right (by decide) (by omega)))
    rw [e]
    simp [show ¬ i = k by omega]
/-- what carried's two blocks hold -/
def Cp (w wr : World) (L : List Nat) : Prop := Blk wr w.heap.size (ns (List.replicate 256 0)) 43 ∧ Blk wr (w.heap.size + 1) (ns L) 43 ∧ Below w.heap.size w wr

set_option maxHeartbeats 4000000 in
set_option maxRecDepth 100000 in
theorem carried_any (w : World) : Calls Try.prog 25 #[] w fun e w' => e = .returned (.agg (ns (tab 256)).toArray) ∧ Below w.heap.size w w' := by
  have zv := zv43
  have st : Hid (∀ Z : Array Value, Z = (ns (List.replicate 256 0)).toArray → Cp w ((w.alloc (.cells Z 43)).alloc (.cells Z 43)) (tab 1)) := fun Z hZ => by
    rw [hZ, tab_start]
    exact ⟨(Blk.new w _ _ _ rfl).alloc _, Blk.new _ _ _ _ (by simp), ((Below.refl _ w).alloc (Nat.le_refl _) _).alloc (by simp) _⟩
  obtain ⟨Z, hZ⟩ : ∃ Z, Z = (ns (List.replicate 256 0)).toArray := ⟨_, rfl⟩
  have ST := Lib.hid (st.out Z hZ)
  rw [← hZ] at zv
  clear st hZ
  go_enter Try.func25, Try.ntmps25
  go_wp2_with fail
  go_loopw [7] (fun vi wr => ∃ i : Nat, i ≤ 8 ∧ vi = .int .i64 i ∧ Hid (Cp w wr (tab (2 ^ i)))) (fun vi _ => 8 - (RowKit.intOf vi).toNat)
  case atStart => exact ⟨0, by omega, rfl, ST.out⟩
  case round =>
    obtain ⟨i, hi, rfl, hs⟩ := hrel
    by_cases hi8 : i < 8
    · have hd : decide ((i : Int) < 8) = true := by simp; omega
      obtain ⟨B, hB⟩ : ∃ B : Nat, B = 2 ^ i := ⟨_, rfl⟩
      have hB1 : 1 ≤ B := by rw [hB]; exact Nat.pos_of_ne_zero (by simp)
      have hB2 : B ≤ 128 := by rw [hB]; exact Nat.pow_le_pow_right (n := 2) (by decide) (show i ≤ 7 by omega)
      have e0 : (2 : Int) ^ i = (B : Int) := by rw [hB, Int.natCast_pow]; rfl
      have e1 : Hid (wrap64 ((2 : Int) ^ i) = (B : Int)) := by
        show _ = _
        rw [e0]
        exact wrap64_nat B (by omega)
      have CM : Hid (∀ W, Calls Try.prog 30 #[.int .u64 ((B : Int) * 2147483648)] W fun e w' => e = .returned (.int .u64 (T B : Nat)) ∧ ∃ n, w' = W.drewN n) := fun W => by
        have := mod_any (B * 2147483648) (by omega) W
        rw [Int.natCast_mul] at this
        rw [T, Nat.shiftLeft_eq]
        exact this
      have HT := Lib.hid (T_lt B (by omega))
      rw [← hB] at hs
      have HBX : Hid (∀ j, j < B → B ^^^ j = B + j) := fun j hj => by
        rw [hB] at hj ⊢
        exact pow_xor i j hj
      have HOR : Hid (∀ j, j < B → B ||| j = B + j) := fun j hj => by
        rw [hB] at hj ⊢
        exact nat_join i (2 ^ i) j (Nat.mod_self _) hj
      have HB2 : Hid (2 ^ (i + 1) = B + B) := by show _ = _; rw [Nat.pow_succ, ← hB]; omega
      have k1 := e1.out
      have sa := fun W => slice_arr (w.heap.size + 1) B (by omega) W
      have tl := HT.out
      clear hB e0 e1
      have kw := u32_small (T B) (by omega)
      obtain ⟨a, ha⟩ : ∃ a, a = T B := ⟨_, rfl⟩
      rw [← ha] at CM tl kw
      have HA := Lib.hid ha
      clear ha HT
      go_wp2_with fail
      refine (CM.out _).mono ?_
      rintro e w1 ⟨rfl, n1, rfl⟩
      have hs1 : Hid (Cp w (wr.drewN n1) (tab B)) := by
        obtain ⟨s1, s2, s3⟩ := hs.out
        exact ⟨s1.drewN _, s2.drewN _, below_drewN s3 _⟩
      clear hs
      generalize wr.drewN n1 = wr at *
      go_wp2_with fail
      go_loopw [20] (fun vj wq => ∃ j : Nat, j ≤ B ∧ vj = .int .i64 j ∧ Hid (Cp w wq (tab (B + j)))) (fun vj _ => B - (RowKit.intOf vj).toNat)
      case atStart => exact ⟨0, by omega, rfl, hs1⟩
      case round =>
        obtain ⟨j, hj, rfl, hs⟩ := hrel
        by_cases hjB : j < B
        · have hd2 : decide ((j : Int) < (B : Int)) = true := by simp; omega
          obtain ⟨s1, s2, s3⟩ := hs.out
          have d1 := (s2.cell j).trans (tab_get _ _ (by omega) (by omega))
          have f1 := s2.frozen (B + j)
          have d2 := (s2.cell (B + j)).trans (tab_zero _ _ (by omega) (by omega))
          have tx : T (B + j) = a ^^^ T j := by rw [← HBX.out j hjB, T_xor, HA.out]
          have tj := T_lt j (by omega)
          have xe := u32_xor_nat a (T j) (by omega) (by omega)
          rw [← tx] at xe
          have hset := tab_set (B + j)
          have or1 := i64_or_nat B j (by omega) (by omega)
          rw [show B ||| j = B + j from HOR.out j hjB] at or1
          have S : Hid (Cp w (wr.setCell ⟨w.heap.size + 1, B + j, none⟩ (.int .u32 (T (B + j) : Int))) (tab (B + (j + 1)))) := by
            refine ⟨s1.other _ (by show w.heap.size ≠ w.heap.size + 1; omega), ?_, s3.setCell (by show w.heap.size ≤ w.heap.size + 1; omega) _⟩
            have := s2.set (B + j) (.int .u32 (T (B + j) : Int))
            rwa [hset] at this
          generalize T (B + j) = z at *
          generalize T j = y at *
          clear s1 s2 s3 hset tx hs
          have q1 : (0 : Int) ≤ (j : Int) := by omega
          have q2 : (j : Int) < (B : Int) := by omega
          have q3 : (0 : Int) ≤ ((B + j : Nat) : Int) := by omega
          have q4 : ((B + j : Nat) : Int) < 256 := by omega
          go_wp2_with fail
          go_roundw
          case rel => exact ⟨j + 1, by omega, by go_num, S⟩
          case measure => simp [RowKit.intOf]; omega
        · obtain rfl : B = j := by omega
          have hs2 : Hid (Cp w wr (tab (2 ^ (i + 1)))) := by rw [HB2.out]; exact hs
          have hd2 : decide ((B : Int) < (B : Int)) = false := by simp
          clear hs
          go_wp2_with fail
          go_roundw
          case rel => exact ⟨i + 1, by omega, by go_num, hs2⟩
          case measure => simp [RowKit.intOf]; omega
    · obtain rfl : i = 8 := by omega
      have hd : decide (((8 : Nat) : Int) < 8) = false := by simp
      obtain ⟨s1, s2, s3⟩ := hs.out
      rw [show tab (2 ^ 8) = tab 256 from rfl] at s2
      have hsz : (ns (tab 256)).toArray.size = 256 := by rw [List.size_toArray, ns_len, tab_len]
      have hsz2 : (ns (List.replicate 256 0)).toArray.size = 256 := by rw [List.size_toArray, ns_len, List.length_replicate]
      have h1c : (ns (tab 256)).toArray.all (·.oneCell') = true := by
        rw [List.all_toArray, List.all_eq_true]
        exact ns_one _
      replace s2 : wr.heap[w.heap.size + 1]? = some (.cells (ns (tab 256)).toArray 43 (0, 0)) := s2
      replace s1 : wr.heap[w.heap.size]? = some (.cells (ns (List.replicate 256 0)).toArray 43 (0, 0)) := s1
      obtain ⟨R, hR⟩ : ∃ R, R = (ns (tab 256)).toArray := ⟨_, rfl⟩
      rw [← hR] at s2 hsz h1c
      have HRE := Lib.hid hR
      clear hR
      generalize (ns (List.replicate 256 0)).toArray = R0 at *
      have hir : (Try.prog.info? 43).map (·.size) = some R.size := by rw [info43, hsz]
      have ho : R0.size = R.size := by rw [hsz, hsz2]
      have fin := setRow_heap wr w.heap.size R0 R 43 (0, 0) s1
      have B := s3.setRow (g := w.heap.size) (Nat.le_refl _) R
      have S1 := Lib.hid s1
      have S2 := Lib.hid s2
      have HIR := Lib.hid hir
      have HO := Lib.hid ho
      have H1 := Lib.hid h1c
      have FIN := Lib.hid fin
      have BB := Lib.hid B
      clear hsz hsz2 s1 s2 s3 hir ho h1c fin B hs ST
      go_wp2_with (first
        | (with_reducible refine wpList_load_row rfl 43 (.tmp 1) rfl (w.heap.size + 1) rfl 43 R (0, 0) (.array 256 42) S2.out Try.underlying43 rfl HIR.out ?_)
        | (with_reducible refine wpList_store_row rfl 43 (.tmp 0) (.tmp 34) rfl w.heap.size R rfl rfl 43 R0 S1.out HIR.out HO.out H1.out ?_))
      exact bodyPost_ret (results_cell_row Try.results25 _ _ w.heap.size 43 R (0, 0) (.array 256 42) rfl FIN.out Try.underlying43 rfl HIR.out) rfl ⟨by rw [HRE.out], BB.out⟩
end Go.Proofs.Ytdlejcokigmcdaa.Rb
