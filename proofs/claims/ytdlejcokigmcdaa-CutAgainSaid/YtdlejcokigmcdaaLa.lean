/-
  The contract of the law's own heads; the walk of the statement CutNoughts. No condition.
-/
import Derived.Test.YtdlejcokigmcdaaWj
namespace Go.Proofs.Ytdlejcokigmcdaa.Rb
open Go.ChangeShapes Go.WideShapes Go.ChangeAt Go.RowKit Go.Lib Go.ChangeMaps

theorem made0 (n : Nat) : madeCells (Value.int .u8 0).cells n = (bs (List.replicate n 0)).toArray := by
  unfold madeCells
  apply Array.ext
  · simp [bs]
  · intro i h1 h2
    simp [Value.cells, Nat.mod_one, bs]
theorem make_u8 (n : Nat) (hn : n ≤ 281474976710656) (W : World) :
    (Instr.makeSlice 25 (.int .i64 (n : Int)) (.int .i64 (n : Int))).run Try.prog W = .ok (.slice (some ⟨W.heap.size, 0, none⟩) n n) (W.alloc (.cells (bs (List.replicate n 0)).toArray 5)) := by
  obtain ⟨i0, hi, hz0, hz1, hz2⟩ := info_parts info5
  have h := run_make (P := Try.prog) W 25 5 i0 (.int .u8 0) Try.underlying25 hi hz0 .i64 .i64 n n (by omega) (by omega) (by rw [hz2]; omega) (by omega)
  rw [Int.toNat_natCast, hz1, Nat.mul_one, made0] at h
  exact h
theorem Blk.byt {w : World} {g : Nat} {l : List UInt8} {t : TypeId} (h : Blk w g (bs l) t) : Byt w (some ⟨g, 0, none⟩) l := fun _ => ⟨g, 0, rfl, h.lt, fun j hj => by
  rw [Nat.zero_add, h.cell, bs_get l j hj]⟩
theorem hit_zero : hit (List.replicate 16 0) = false := by
  have h : window (List.replicate 16 0) = 0 := by
    have := win_zeros 16 []
    rw [List.append_nil] at this
    rw [this]
    rfl
  rw [hit, h]
  rfl
theorem rep_ne (n : Nat) (h : n ≠ 0) : (List.replicate n 0 : List UInt8) ≠ [] := fun h0 => h (by have := congrArg List.length h0; simpa using this)
theorem chunks_2053 : chunks hit (List.replicate 2053 0) = [List.replicate 2048 0, List.replicate 5 0] := by
  rw [chunks_cons hit _ (rep_ne _ (by decide)), first_noughts hit hit_zero, show min 2053 2048 = 2048 by decide, List.take_replicate, List.drop_replicate, show 2053 - 2048 = 5 by decide,
    chunks_cons hit _ (rep_ne _ (by decide)), first_noughts hit hit_zero, show min 5 2048 = 5 by decide, List.take_replicate, List.drop_replicate, show 5 - 5 = 0 by decide, List.replicate_zero, chunks_nil]
  rfl
theorem ends_2053 : ends hit 0 (List.replicate 2053 0) = [2048, 2053] := by
  rw [ends_cons hit 0 _ (rep_ne _ (by decide)), first_noughts hit hit_zero, show min 2053 2048 = 2048 by decide, List.drop_replicate, show 2053 - 2048 = 5 by decide,
    ends_cons hit _ _ (rep_ne _ (by decide)), first_noughts hit hit_zero, show min 5 2048 = 5 by decide, List.drop_replicate, show 5 - 5 = 0 by decide, List.replicate_zero, ends_nil]
theorem irw_two (w : World) (m n : Nat) : Irw (w.alloc (.cells #[.int .i64 (m : Int), .int .i64 (n : Int)] 3)) (some ⟨w.heap.size, 0, none⟩) [m, n] := fun _ => by
  refine ⟨w.heap.size, 0, rfl, by simp, fun j hj => ?_⟩
  have hj2 : j = 0 ∨ j = 1 := by simp at hj; omega
  rw [World.cell?_alloc_new]
  rcases hj2 with rfl | rfl <;> simp

set_option maxHeartbeats 2000000 in
set_option maxRecDepth 100000 in
theorem heads_any (w : World) : Calls Try.prog 9 #[] w fun e w' => e = .returned (.bool true) ∧ Below w.heap.size w w' := by
  have mk := fun W => make_u8 2053 (by decide) W
  have BY0 : Byt (w.alloc (.cells (bs (List.replicate 2053 0)).toArray 5)) (some ⟨w.heap.size, 0, none⟩) (List.replicate 2053 0) := Blk.byt (Blk.new w (bs (List.replicate 2053 0)) 5 _ rfl)
  obtain ⟨O, hO⟩ : ∃ O, O = Obj.cells (bs (List.replicate 2053 0)).toArray 5 := ⟨_, rfl⟩
  rw [← hO] at BY0
  have MK : ∀ W, (Instr.makeSlice 25 (.int .i64 2053) (.int .i64 2053)).run Try.prog W = .ok (.slice (some ⟨W.heap.size, 0, none⟩) 2053 2053) (W.alloc O) := fun W => by rw [hO]; exact mk W
  have B0 := Lib.hid ((Below.refl w.heap.size w).alloc (Nat.le_refl _) O)
  have HY := Lib.hid (fun W (hB : Below (w.alloc O).heap.size (w.alloc O) W) => BY0.below hB)
  have L0 : (List.replicate 2053 (0 : UInt8)).length = 2053 := List.length_replicate
  have C14 := Lib.hid (split_any _ (List.replicate 2053 0) 2053 (w.alloc O) BY0 (fun h => by cases h) (by rw [L0]; decide) (by decide) (by rw [L0]; decide))
  have C10 : Hid (∀ W, Below (w.alloc O).heap.size (w.alloc O) W → Calls Try.prog 10 #[.slice (some ⟨w.heap.size, 0, none⟩) 2053 2053] W (AnsI W [2048, 2053])) := fun W hB => by
    have := cuts_any _ (List.replicate 2053 0) 2053 W (HY.out W hB) (by rw [L0]; decide) (by decide) (by rw [L0]; decide)
    rw [L0, ends_2053] at this
    exact this
  have C16 : Hid (∀ W, Below (w.alloc O).heap.size (w.alloc O) W → Calls Try.prog 16 #[.slice (some ⟨w.heap.size, 0, none⟩) 9 2053] W fun e w' => e = .returned (.int .i64 9) ∧ Below W.heap.size W w') := fun W hB => by
    have h9 : (List.replicate 2053 (0 : UInt8)).take 9 = List.replicate 9 0 := by rw [List.take_replicate]; rfl
    have := first_any _ ((List.replicate 2053 0).take 9) 2053 W ((HY.out W hB).take 9) (by rw [h9, List.length_replicate]; decide) (by decide)
    rw [h9, List.length_replicate, first_small hit _ (by rw [List.length_replicate]; decide), List.length_replicate] at this
    exact this
  have CN : Hid (∀ W, Calls Try.prog 10 #[.slice none 0 0] W (AnsI W [])) := fun W => by
    have := cuts_any none [] 0 W (byt_nil _ _) (Nat.le_refl _) (by decide) (by decide)
    rw [ends_nil] at this
    exact this
  have IT := Lib.hid irw_two
  have CI := Lib.hid ints_same
  have CJ := Lib.hid join_any
  rw [L0, chunks_2053] at C14
  have sl := fun W => slice_to (some ⟨w.heap.size, 0, none⟩) 2053 2053 9 (by decide) W
  clear mk BY0 hO L0
  go_enter Try.func9, Try.ntmps9
  go_wp2_with fail
  refine C14.out.mono ?_
  rintro e w1 ⟨b1, k, rfl, hk, hr⟩
  obtain ⟨a1, c1, d1, y1, n1⟩ := hr 1 (by simp)
  rw [show ([List.replicate 2048 (0 : UInt8), List.replicate 5 0][1]'(by simp)).length = 5 by simp] at d1
  have HD : Hid (∀ W, Below w1.heap.size w1 W → W.cell? ⟨k, 1, none⟩ = some (.slice a1 5 c1)) := fun W hB => (hB.cell (p := ⟨k, 1, none⟩) hk).trans d1
  have JN : Hid (∀ W, Below w1.heap.size w1 W → Calls Try.prog 19 #[.slice (some ⟨k, 0, none⟩) 2 2] W fun e w' => Below W.heap.size W w' ∧ ∃ a c, e = .returned (.slice a 2053 c)) := fun W hB =>
    (CJ.out k 2 [List.replicate 2048 0, List.replicate 5 0] W (hr.below hk hB) rfl (by decide) (Nat.lt_of_lt_of_le hk hB.size) (by simp)).mono fun e w' ⟨j1, v, j2, j3⟩ => by
      obtain ⟨a, c, hv, _⟩ := own_byt j3
      refine ⟨j1, a, c, ?_⟩
      rw [j2, hv, show ([List.replicate 2048 (0 : UInt8), List.replicate 5 0].flatten).length = 2053 by simp]
  have B1 := Lib.hid b1
  have T1 := Lib.hid (Below.refl w1.heap.size w1)
  clear b1 hr hk d1 y1 n1
  go_wp2_with fail
  refine (C10.out _ B1.out).mono ?_
  rintro e w2 ⟨b2, v, rfl, ho⟩
  obtain ⟨ae, ce, rfl, _, _, hir, _⟩ := own_irw ho
  have B2 := Lib.hid (below_chain B1.out b2)
  have T2 := Lib.hid b2
  have I2 := Lib.hid (hir.below (below_alloc (Below.refl w2.heap.size w2) (.cells #[.int .i64 2048, .int .i64 2053] 3)))
  have B3 := Lib.hid (below_alloc B2.out (.cells #[.int .i64 2048, .int .i64 2053] 3))
  have T3 := Lib.hid (below_alloc T2.out (.cells #[.int .i64 2048, .int .i64 2053] 3))
  have I3 := Lib.hid (IT.out w2 2048 2053)
  clear b2 ho hir B1 T1
  go_wp2_with fail
  refine (CI.out 2 _ _ [2048, 2053] _ _ _ I2.out I3.out rfl (by decide)).mono ?_
  rintro e w4 ⟨rfl, b4⟩
  have B4 := Lib.hid (below_chain B3.out b4)
  have T4 := Lib.hid (below_chain T3.out b4)
  clear b4 I2 I3 B2 T2
  go_wp2_with fail
  refine (C16.out _ B4.out).mono ?_
  rintro e w5 ⟨rfl, b5⟩
  have B5 := Lib.hid (below_chain B4.out b5)
  have T5 := Lib.hid (below_chain T4.out b5)
  have d5 := HD.out _ T5.out
  clear b5
  go_wp2_with fail
  refine (CN.out _).mono ?_
  rintro e w6 ⟨b6, v, rfl, ho⟩
  obtain ⟨a6, c6, rfl, _⟩ := own_irw ho
  have B6 := Lib.hid (below_chain B5.out b6)
  have T6 := Lib.hid (below_chain T5.out b6)
  clear b6 ho
  go_wp2_with fail
  refine (JN.out _ T6.out).mono ?_
  rintro e w7 ⟨b7, a7, c7, rfl⟩
  have B7 := Lib.hid (below_chain B6.out b7)
  clear b7
  go_wp2_with fail
  go_ret
  exact ⟨rfl, below_chain B0.out B7.out⟩
end Go.Proofs.Ytdlejcokigmcdaa.Rb
