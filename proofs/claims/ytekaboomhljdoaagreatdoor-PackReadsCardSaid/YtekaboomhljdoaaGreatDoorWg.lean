/-
  The contract of sha's ending. No condition.
-/
import Derived.Test.YtekaboomhljdoaaGreatDoorWf
import Derived.Deep.AppendLies
namespace Go.Proofs.YtekaboomhljdoaaGreatDoor.Sh
open Go.RowKit Go.Lib

theorem made_u8 (z : Nat) : madeCells (Value.int .u8 0).cells z = (bs (List.replicate z 0)).toArray := by
  apply Array.ext
  · simp [madeCells, bs]
  · intro i h1 h2
    simp [madeCells, bs, Value.cells, Nat.mod_one]
theorem Byt.alloc {w : World} {ao : Option Addr} {l : List UInt8} (h : Byt w ao l) (o : Obj) : Byt (w.alloc o) ao l := h.below ((Below.refl _ w).alloc (Nat.le_refl _) o)
theorem below_chain {w W W' : World} (h : Below w.heap.size w W) (hb : Below W.heap.size W W') : Below w.heap.size w W' := h.trans (hb.mono h.size)
theorem below_alloc {w W : World} (h : Below w.heap.size w W) (o : Obj) : Below w.heap.size w (W.alloc o) := h.alloc h.size o
theorem below_own {w W W' : World} {v : Value} {l : List UInt8} (h : Below w.heap.size w W) (ho : Own W' W.heap.size v l) : Own W' w.heap.size v l := ho.low h.size
theorem beL_two (m : Nat) (h : m < 18446744073709551616) : beL [UInt32.ofNat (m / 4294967296), UInt32.ofNat (m % 4294967296)] = be8 m := by
  have h1 : (UInt32.ofNat (m / 4294967296)).toNat = m / 4294967296 := by rw [UInt32.toNat_ofNat']; omega
  have h2 : (UInt32.ofNat (m % 4294967296)).toNat = m % 4294967296 := by rw [UInt32.toNat_ofNat']; omega
  simp [beL, be8, h1, h2]
/-- what written makes of the two halves of m -/
def Wq (m : Nat) (W : World) (e : Ending) (W' : World) : Prop := Below W.heap.size W W' ∧ ∃ g c, e = .returned (.slice (some ⟨g, 0, none⟩) 8 c) ∧ Byt W' (some ⟨g, 0, none⟩) (be8 m)
theorem written_two (m : Nat) (h : m < 18446744073709551616) (W : World) (k : Nat) (hk : Blk W k [.int .u32 ((m / 4294967296 : Nat) : Int), .int .u32 ((m % 4294967296 : Nat) : Int)] 118) : Calls Tryz.prog 104 #[.slice (some ⟨k, 0, none⟩) 2 2] W (Wq m W) := by
  have h1 : (UInt32.ofNat (m / 4294967296)).toNat = m / 4294967296 := by rw [UInt32.toNat_ofNat']; omega
  have h2 : (UInt32.ofNat (m % 4294967296)).toNat = m % 4294967296 := by rw [UInt32.toNat_ofNat']; omega
  have hk' : Blk W k (us [UInt32.ofNat (m / 4294967296), UInt32.ofNat (m % 4294967296)]) 118 := by
    simp only [us, List.map_cons, List.map_nil, h1, h2]
    exact hk
  refine (written_any (some ⟨k, 0, none⟩) [UInt32.ofNat (m / 4294967296), UInt32.ofNat (m % 4294967296)] 2 2 W hk'.wrd rfl (by decide) (by decide)).mono fun e W' ⟨hb, v, he, ho⟩ => ⟨hb, ?_⟩
  rw [beL_two m h] at ho
  obtain ⟨ao, c, rfl, _, _, hr, _⟩ := own_byt ho
  obtain ⟨g, o, rfl, _, _⟩ := hr (by intro h0; have := be8_len m; rw [h0] at this; cases this)
  obtain ⟨g', cap, hv, _, _⟩ := World.ownsRow.form ho (by rw [be8_len]; decide)
  injection hv with e1 e2 e3
  injection e1 with e1
  injection e1 with e1 e4
  subst e4
  exact ⟨g, c, he, hr⟩
theorem rws3 (W : World) (k a b g c : Nat) (l1 l2 l3 : List UInt8) (n1 n2 n3 : Nat) (t : TypeId) (h : Blk W k [.slice (some ⟨a, 0, none⟩) n1 n1, .slice (some ⟨b, 0, none⟩) n2 n2, .slice (some ⟨g, 0, none⟩) n3 c] t)
    (e1 : l1.length = n1) (e2 : l2.length = n2) (e3 : l3.length = n3) (h1 : Byt W (some ⟨a, 0, none⟩) l1) (h2 : Byt W (some ⟨b, 0, none⟩) l2) (h3 : Byt W (some ⟨g, 0, none⟩) l3) : Rws W k [l1, l2, l3] := by
  subst e1
  subst e2
  subst e3
  intro j hj
  have hj' : j = 0 ∨ j = 1 ∨ j = 2 := by simp at hj; omega
  rcases hj' with rfl | rfl | rfl
  · exact ⟨_, _, h.cell 0, h1, fun h => by cases h⟩
  · exact ⟨_, _, h.cell 1, h2, fun h => by cases h⟩
  · exact ⟨_, _, h.cell 2, h3, fun h => by cases h⟩
theorem concat3 (m z : Nat) (W : World) (k a b g c : Nat) (t : TypeId) (h : Blk W k [.slice (some ⟨a, 0, none⟩) 1 1, .slice (some ⟨b, 0, none⟩) z z, .slice (some ⟨g, 0, none⟩) 8 c] t) (hz : z < 64)
    (h1 : Blk W a [.int .u8 128] 5) (h2 : Blk W b (bs (List.replicate z 0)) 5) (h3 : Byt W (some ⟨g, 0, none⟩) (be8 m)) :
    Calls Tryz.prog 59 #[.slice (some ⟨k, 0, none⟩) 3 3] W fun e W' => Below W.heap.size W W' ∧ ∃ v, e = .returned v ∧ Own W' W.heap.size v ([128] ++ List.replicate z 0 ++ be8 m) := by
  have hl : ([[128], List.replicate z 0, be8 m] : List (List UInt8)).flatten = [128] ++ List.replicate z 0 ++ be8 m := by simp
  have := concat_any k 3 [[128], List.replicate z 0, be8 m] W (rws3 W k a b g c [128] (List.replicate z 0) (be8 m) 1 z 8 t h rfl (by simp) (be8_len m) (show Blk W a (bs [128]) 5 from h1).byt h2.byt h3) rfl (by decide) h.lt
    (by rw [hl]; simp) (by rw [hl]; simp [be8_len]; omega)
  rw [hl] at this
  exact this

set_option maxHeartbeats 4000000 in
set_option maxRecDepth 100000 in
theorem ending_any (n : Nat) (hn : n < 18446744073709551616) (w : World) :
    Calls Tryz.prog 105 #[.int .u64 (n : Int)] w fun e w' => Below w.heap.size w w' ∧ ∃ v, e = .returned v ∧ Own w' w.heap.size v (ending n) := by
  have wu : ∀ x : Int, IntKind.u64.wrap x = x % 18446744073709551616 := fun x => by simp [IntKind.wrap, IntKind.bits, IntKind.signed]
  obtain ⟨p, hp⟩ : ∃ p : Nat, p = (18446744073709551671 - n) % 18446744073709551616 := ⟨_, rfl⟩
  obtain ⟨z, hz⟩ : ∃ z : Nat, z = (119 - n % 64) % 64 := ⟨_, rfl⟩
  obtain ⟨m, hm⟩ : ∃ m : Nat, m = 8 * n % 18446744073709551616 := ⟨_, rfl⟩
  obtain ⟨hi, hhi⟩ : ∃ hi : Nat, hi = m / 4294967296 := ⟨_, rfl⟩
  obtain ⟨lo, hlo⟩ : ∃ lo : Nat, lo = m % 4294967296 := ⟨_, rfl⟩
  have hm64 : m < 18446744073709551616 := by omega
  have e1 : IntKind.u64.wrap (55 - (n : Int)) = (p : Int) := by rw [wu]; omega
  have e2 : (p : Int).tmod 64 = (z : Int) := by rw [Int.tmod_eq_emod_of_nonneg (by omega)]; omega
  have e3 : IntKind.u64.wrap (8 * (n : Int)) = (m : Int) := by rw [wu]; omega
  have e4 : IntKind.u32.wrap ((m : Int) / 4294967296) = (hi : Int) := by rw [wrap_u32]; omega
  have e5 : IntKind.u32.wrap (m : Int) = (lo : Int) := by rw [wrap_u32]; omega
  have hz64 : z < 64 := by omega
  have hend : Hid (ending n = [128] ++ List.replicate z 0 ++ be8 m) := by show _ = _; rw [ending, ← hz, ← hm]
  obtain ⟨i0, hi0, hz0, hz1, hz2⟩ := info_parts info5
  have hmk : ∀ W : World, (Instr.makeSlice 24 (.int .u64 (z : Int)) (.int .u64 (z : Int))).run Tryz.prog W = _ := fun W => run_make W 24 5 i0 (.int .u8 0) Tryz.underlying24 hi0 hz0 .u64 .u64 (z : Int) (z : Int) (by omega) (Int.le_refl _) (by rw [hz2]; omega) (by omega)
  have hZ : madeCells (Value.int .u8 0).cells z = (bs (List.replicate z 0)).toArray := made_u8 z
  rw [Int.toNat_natCast, hz1, Nat.mul_one, hZ] at hmk
  have C20 := fun W k hk => written_two m hm64 W k hk
  rw [← hhi, ← hlo] at C20
  have C26 := fun W k a b g c t h h1 h2 h3 => concat3 m z W k a b g c t h hz64 h1 h2 h3
  rw [← hend.out] at C26
  obtain ⟨Z, hZZ⟩ : ∃ Z, Z = bs (List.replicate z 0) := ⟨_, rfl⟩
  rw [← hZZ] at C26 hmk
  have c20 := Lib.hid C20
  have c26 := Lib.hid C26
  clear C20 C26 hp hz hm hhi hlo wu hn hend hZ hi0 hz0 hz1 hz2 hZZ
  go_enter Tryz.func105, Tryz.ntmps105
  go_wp2_with fail
  go_region_with (first
    | (go_at_call 104; (with_reducible refine (c20.out _ _ ?_).mono ?_); (focus (repeat' (first | (with_reducible exact Blk.new _ _ _ _ (by simp)) | (with_reducible refine Blk.drew ?_) | (with_reducible refine Blk.alloc ?_ _)))); rintro e w1 ⟨hb1, g, c, rfl, hr1⟩)
    | (go_at_call 59
       (with_reducible refine (c26.out _ _ _ _ _ _ _ (by first | (with_reducible exact Blk.new _ _ _ _ (by simp)) | (with_reducible exact Blk.drew (Blk.new _ _ _ _ (by simp)))) ?_ ?_ ?_).mono ?_)
       (focus (repeat' (first | (with_reducible exact Blk.new _ _ _ _ (by simp)) | (with_reducible refine Blk.drew ?_) | (with_reducible refine Blk.alloc ?_ _) | (with_reducible refine Blk.low ?_ hb1))))
       (focus (repeat' (first | (with_reducible exact Blk.new _ _ _ _ (by simp)) | (with_reducible refine Blk.drew ?_) | (with_reducible refine Blk.alloc ?_ _) | (with_reducible refine Blk.low ?_ hb1))))
       (focus (repeat' (first | (with_reducible exact hr1) | (with_reducible refine Byt.drew ?_) | (with_reducible refine Byt.alloc ?_ _))))
       (rintro e w2 ⟨hb2, v2, rfl, own2⟩)))
  all_goals (go_wp2_with fail; go_ret)
  all_goals
    have q1 : Below w.heap.size w w1 := by
      refine below_chain ?_ hb1
      repeat' (first | (with_reducible exact Below.refl _ _) | (with_reducible refine Below.drew ?_) | (with_reducible refine below_alloc ?_ _))
    refine ⟨below_chain ?_ hb2, _, rfl, below_own ?_ own2⟩
    · repeat' (first | (with_reducible exact Below.refl _ _) | (with_reducible exact q1) | (with_reducible refine Below.drew ?_) | (with_reducible refine below_alloc ?_ _))
    · repeat' (first | (with_reducible exact Below.refl _ _) | (with_reducible exact q1) | (with_reducible refine Below.drew ?_) | (with_reducible refine below_alloc ?_ _))
end Go.Proofs.YtekaboomhljdoaaGreatDoor.Sh
