/-
  The contracts of sha's turns and shifts and of the functions that they make. Conditions: a turn is by 1 to 31.
-/
import Derived.Test.YtekaboomhljdoaaGreatDoorWa
namespace Go.Proofs.YtekaboomhljdoaaGreatDoor.Sh
open Go.RowKit Go.Lib

/-- a function that turns made, over the three numbers that it keeps -/
def Three (w : World) (k : Nat) (a b c : Nat) : Prop := w.cell? ⟨k, 0, none⟩ = some (.int .i64 (a : Int)) ∧ w.cell? ⟨k + 1, 0, none⟩ = some (.int .i64 (b : Int)) ∧ w.cell? ⟨k + 2, 0, none⟩ = some (.int .i64 (c : Int)) ∧ k + 2 < w.heap.size
def Three' (w : World) (k : Nat) (a b c : Nat) : Prop := w.cell? ⟨k, 0, none⟩ = some (.int .i64 (a : Int)) ∧ w.cell? ⟨k + 1, 0, none⟩ = some (.int .i64 (b : Int)) ∧ w.cell? ⟨k + 2, 0, none⟩ = some (.int .u64 (c : Int)) ∧ k + 2 < w.heap.size
theorem Three.below {w w' : World} {k a b c : Nat} (h : Three w k a b c) (hb : Below w.heap.size w w') : Three w' k a b c := by
  obtain ⟨h1, h2, h3, h4⟩ := h
  have := hb.size
  exact ⟨(hb.cell (p := ⟨k, 0, none⟩) (by show k < _; omega)).trans h1, (hb.cell (p := ⟨k + 1, 0, none⟩) (by show k + 1 < _; omega)).trans h2, (hb.cell (p := ⟨k + 2, 0, none⟩) h4).trans h3, by omega⟩
theorem Three'.below {w w' : World} {k a b c : Nat} (h : Three' w k a b c) (hb : Below w.heap.size w w') : Three' w' k a b c := by
  obtain ⟨h1, h2, h3, h4⟩ := h
  have := hb.size
  exact ⟨(hb.cell (p := ⟨k, 0, none⟩) (by show k < _; omega)).trans h1, (hb.cell (p := ⟨k + 1, 0, none⟩) (by show k + 1 < _; omega)).trans h2, (hb.cell (p := ⟨k + 2, 0, none⟩) h4).trans h3, by omega⟩
def turnF (k : Nat) : Value := .func (.func 119) #[] #[.pointer (some ⟨k, 0, none⟩), .pointer (some ⟨k + 1, 0, none⟩), .pointer (some ⟨k + 2, 0, none⟩)]
def shiftF (k : Nat) : Value := .func (.func 123) #[] #[.pointer (some ⟨k, 0, none⟩), .pointer (some ⟨k + 1, 0, none⟩), .pointer (some ⟨k + 2, 0, none⟩)]

theorem three_cells (w : World) (x y z : Value) (t1 t2 t3 : TypeId) : ((((w.alloc (.cells #[x] t1)).alloc (.cells #[y] t2)).alloc (.cells #[z] t3)).cell? ⟨w.heap.size, 0, none⟩ = some x) ∧
    ((((w.alloc (.cells #[x] t1)).alloc (.cells #[y] t2)).alloc (.cells #[z] t3)).cell? ⟨w.heap.size + 1, 0, none⟩ = some y) ∧ ((((w.alloc (.cells #[x] t1)).alloc (.cells #[y] t2)).alloc (.cells #[z] t3)).cell? ⟨w.heap.size + 2, 0, none⟩ = some z) := by
  have s1 : (w.alloc (.cells #[x] t1)).heap.size = w.heap.size + 1 := by simp
  have s2 : ((w.alloc (.cells #[x] t1)).alloc (.cells #[y] t2)).heap.size = w.heap.size + 2 := by simp
  refine ⟨?_, ?_, ?_⟩
  · have h1 := (Below.refl (w.heap.size + 1) (w.alloc (.cells #[x] t1))).alloc (by rw [s1]; exact Nat.le_refl _) (.cells #[y] t2)
    have h2 := h1.alloc (by rw [s2]; omega) (.cells #[z] t3)
    rw [h2.cell (p := ⟨w.heap.size, 0, none⟩) (by show w.heap.size < _; omega), World.cell?_alloc_new]
    rfl
  · have h2 := (Below.refl (w.heap.size + 2) ((w.alloc (.cells #[x] t1)).alloc (.cells #[y] t2))).alloc (by rw [s2]; exact Nat.le_refl _) (.cells #[z] t3)
    rw [h2.cell (p := ⟨w.heap.size + 1, 0, none⟩) (by show w.heap.size + 1 < _; omega)]
    have := World.cell?_alloc_new (w.alloc (.cells #[x] t1)) #[y] t2 0
    rw [s1] at this
    rw [this]
    rfl
  · have := World.cell?_alloc_new ((w.alloc (.cells #[x] t1)).alloc (.cells #[y] t2)) #[z] t3 0
    rw [s2] at this
    rw [this]
    rfl
theorem three_below (w : World) (o1 o2 o3 : Obj) : Below w.heap.size w (((w.alloc o1).alloc o2).alloc o3) := (((Below.refl _ w).alloc (Nat.le_refl _) _).alloc (by simp) _).alloc (by simp; omega) _

set_option maxHeartbeats 1000000 in
theorem turns_any (a b c : Nat) (w : World) :
    Calls Tryz.prog 113 #[.int .i64 (a : Int), .int .i64 (b : Int), .int .i64 (c : Int)] w fun e w' => e = .returned (turnF w.heap.size) ∧ Three w' w.heap.size a b c ∧ Below w.heap.size w w' := by
  have hmf : ∀ (fn : Fn) (first cap : Array Value) (w : World), (Instr.makeFunc fn first cap).run Tryz.prog w = .ok (.func fn first cap) w := fun _ _ _ _ => rfl
  go_enter Tryz.func113, Tryz.ntmps113
  go_wp2_with fail
  go_ret
  obtain ⟨h1, h2, h3⟩ := three_cells w (.int .i64 (a : Int)) (.int .i64 (b : Int)) (.int .i64 (c : Int)) 3 3 3
  exact ⟨rfl, ⟨h1, h2, h3, by simp⟩, three_below w _ _ _⟩
set_option maxHeartbeats 1000000 in
theorem shifts_any (a b c : Nat) (w : World) :
    Calls Tryz.prog 118 #[.int .i64 (a : Int), .int .i64 (b : Int), .int .u64 (c : Int)] w fun e w' => e = .returned (shiftF w.heap.size) ∧ Three' w' w.heap.size a b c ∧ Below w.heap.size w w' := by
  have hmf : ∀ (fn : Fn) (first cap : Array Value) (w : World), (Instr.makeFunc fn first cap).run Tryz.prog w = .ok (.func fn first cap) w := fun _ _ _ _ => rfl
  go_enter Tryz.func118, Tryz.ntmps118
  go_wp2_with fail
  go_ret
  obtain ⟨h1, h2, h3⟩ := three_cells w (.int .i64 (a : Int)) (.int .i64 (b : Int)) (.int .u64 (c : Int)) 3 3 109
  exact ⟨rfl, ⟨h1, h2, h3, by simp⟩, three_below w _ _ _⟩

theorem neg_wrap (a : Nat) (h : a ≤ 31) : IntKind.i64.wrap (-(a : Int)) = -(a : Int) := by
  simp [IntKind.wrap, IntKind.bits, IntKind.signed]
  split <;> omega
theorem rotl_q (a : Nat) (x : UInt32) (h1 : 1 ≤ a) (h2 : a ≤ 31) (w : World) :
    Calls Tryz.prog 120 #[.int .u32 (x.toNat : Int), .int .i64 (-(a : Int))] w fun e w' => e = .returned (.int .u32 ((rt a x).toNat : Int)) ∧ w' = w :=
  (rotl_any a x h1 h2 w).mono fun _ _ h => ⟨h.1, h.2.symm⟩
set_option maxHeartbeats 2000000 in
theorem turn_any (k a b c : Nat) (x : UInt32) (w : World) (h : Three w k a b c) (a1 : 1 ≤ a) (a2 : a ≤ 31) (b1 : 1 ≤ b) (b2 : b ≤ 31) (c1 : 1 ≤ c) (c2 : c ≤ 31) :
    Calls Tryz.prog 119 #[.int .u32 (x.toNat : Int), .pointer (some ⟨k, 0, none⟩), .pointer (some ⟨k + 1, 0, none⟩), .pointer (some ⟨k + 2, 0, none⟩)] w
      fun e w' => e = .returned (.int .u32 ((rt a x ^^^ rt b x ^^^ rt c x).toNat : Int)) ∧ ∃ n, w' = w.drewN n := by
  obtain ⟨h1, h2, h3, _⟩ := h
  have e1 := xor_u32 (rt a x) (rt b x)
  have e2 := xor_u32 (rt a x ^^^ rt b x) (rt c x)
  obtain ⟨z1, hz1⟩ : ∃ z, z = rt a x ^^^ rt b x := ⟨_, rfl⟩
  rw [← hz1] at e1 e2 ⊢
  obtain ⟨z2, hz2⟩ : ∃ z, z = z1 ^^^ rt c x := ⟨_, rfl⟩
  rw [← hz2] at e2 ⊢
  clear hz1 hz2
  have na := neg_wrap a a2
  have nb := neg_wrap b b2
  have nc := neg_wrap c c2
  go_enter Tryz.func119, Tryz.ntmps119
  go_wp2_with fail
  go_quiet ((go_at_call 120; (first | (with_reducible exact Calls.quiet_of_same (rotl_q a x a1 a2 _)) | (with_reducible exact Calls.quiet_of_same (rotl_q b x b1 b2 _)) | (with_reducible exact Calls.quiet_of_same (rotl_q c x c1 c2 _)))))
  go_wp2_with fail
  go_ret
  exact ⟨rfl, _, rfl⟩
set_option maxHeartbeats 2000000 in
theorem shift_any (k a b c : Nat) (x : UInt32) (w : World) (h : Three' w k a b c) (a1 : 1 ≤ a) (a2 : a ≤ 31) (b1 : 1 ≤ b) (b2 : b ≤ 31) (c2 : c ≤ 31) :
    Calls Tryz.prog 123 #[.int .u32 (x.toNat : Int), .pointer (some ⟨k, 0, none⟩), .pointer (some ⟨k + 1, 0, none⟩), .pointer (some ⟨k + 2, 0, none⟩)] w
      fun e w' => e = .returned (.int .u32 ((rt a x ^^^ rt b x ^^^ sr c x).toNat : Int)) ∧ ∃ n, w' = w.drewN n := by
  obtain ⟨h1, h2, h3, _⟩ := h
  have e1 := xor_u32 (rt a x) (rt b x)
  have e2 := xor_u32 (rt a x ^^^ rt b x) (sr c x)
  obtain ⟨z1, hz1⟩ : ∃ z, z = rt a x ^^^ rt b x := ⟨_, rfl⟩
  rw [← hz1] at e1 e2 ⊢
  obtain ⟨z2, hz2⟩ : ∃ z, z = z1 ^^^ sr c x := ⟨_, rfl⟩
  rw [← hz2] at e2 ⊢
  clear hz1 hz2
  have es : ((x.toNat : Int) / 2 ^ c) = ((sr c x).toNat : Int) := by rw [sr_nat, shr_int]
  have na := neg_wrap a a2
  have nb := neg_wrap b b2
  have hx := x.toNat_lt
  go_enter Tryz.func123, Tryz.ntmps123
  go_wp2_with fail
  go_quiet ((go_at_call 120; (first | (with_reducible exact Calls.quiet_of_same (rotl_q a x a1 a2 _)) | (with_reducible exact Calls.quiet_of_same (rotl_q b x b1 b2 _)))))
  go_wp2_with fail
  go_ret
  exact ⟨rfl, _, rfl⟩
end Go.Proofs.YtekaboomhljdoaaGreatDoor.Sh
