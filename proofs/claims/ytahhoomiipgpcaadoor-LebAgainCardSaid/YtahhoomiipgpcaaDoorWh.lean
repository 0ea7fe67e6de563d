/-
  The contracts of the document's own Put and Bytes and Same, and of leb.Bytes. Conditions: a number is one of 64 bits; bytes are at most 2^47 - 10.
-/
import Derived.Test.YtahhoomiipgpcaaDoorKa
import Derived.Test.YtahhoomiipgpcaaDoorWg
namespace Go.Proofs.YtahhoomiipgpcaaDoor.Lb
open Go.RowKit Go.Lib

/-- a row of bytes of the call's own -/
def Own (w : World) (B : Nat) (v : Value) (l : List UInt8) : Prop := w.ownsRow B 5 1 v l.length (bs l)
theorem byt_new (w : World) (n : Int) (c : UInt8) (h : n = c.toNat) : Byt (w.alloc (.cells #[.int .u8 n] 5)) (some ⟨w.heap.size, 0, none⟩) [c] := fun _ => by
  refine ⟨w.heap.size, 0, rfl, by simp, fun j hj => ?_⟩
  obtain rfl : j = 0 := by simpa using hj
  rw [World.cell?_alloc_new]
  simp [h]
theorem own_put (w : World) (l : List UInt8) (B : Nat) (hB : B ≤ w.heap.size) (hl : l.length ≤ 9223372036854775807) : Own (w.alloc (.cells (bs l).toArray 5)) B (.slice (some ⟨w.heap.size, 0, none⟩) l.length l.length) l := by
  have h := World.ownsRow_lit (e := 5) (size := 1) w (bs l).toArray l.length hB (by unfold maxLen; omega) (by simp [bs])
  simpa [Own] using h

set_option maxHeartbeats 1000000 in
set_option maxRecDepth 100000 in
theorem refput_any (x : Nat) (h : x < 18446744073709551616) (w : World) :
    Calls Tryd.prog 13 #[.int .u64 x] w fun e w' => Below w.heap.size w w' ∧ ∃ v, e = .returned v ∧ Own w' w.heap.size v (putL x) := by
  obtain ⟨z, hz⟩ : ∃ z, z = putL x := ⟨_, rfl⟩
  rw [← hz]
  have HZ := Lib.hid hz
  have hx10 : x < 128 ^ (9 + 1) := Nat.lt_of_lt_of_le h two64
  clear hz
  go_enter Tryd.func13, Tryd.ntmps13
  go_wp2_with fail
  go_loopw [0, 3] (fun vx v wr => ∃ (y f : Nat) (acc : List UInt8), vx = .int .u64 y ∧ Own wr w.heap.size v acc ∧ Below w.heap.size w wr ∧ y < 18446744073709551616 ∧ acc.length + f ≤ 9 ∧ Hid (y < 128 ^ (f + 1) ∧ z = acc ++ putF f y)) (fun vx _ _ => (RowKit.intOf vx).toNat)
  case atStart => exact ⟨x, 9, [], rfl, World.ownsRow_nil _ _ _ _, Below.refl _ _, h, by simp, by show _ ∧ _; exact ⟨hx10, by rw [HZ.out]; rfl⟩⟩
  case round =>
    obtain ⟨y, f, acc, rfl, hown, hb, hy, hf, hh⟩ := hrel
    have hbz := hb.size
    obtain ⟨h1, h2⟩ := hh.out
    by_cases hyb : 128 ≤ y
    · obtain ⟨g, rfl⟩ : ∃ g, f = g + 1 := by
        cases f with
        | zero => simp at h1; omega
        | succ g => exact ⟨g, rfl⟩
      rw [putF, if_neg (by omega)] at h2
      have HN : Hid (y / 128 < 128 ^ (g + 1) ∧ z = (acc ++ [(y % 128 + 128).toUInt8]) ++ putF g (y / 128)) := by
        show _ ∧ _
        exact ⟨by rw [Nat.div_lt_iff_lt_mul (by decide), ← Nat.pow_succ]; exact h1, by rw [h2]; simp⟩
      have hn := byt_new wr ((y : Int) % 128 + 128) (y % 128 + 128).toUInt8 (by rw [u8_nat _ (by omega)]; omega)
      clear h1 h2 hh
      go_wp2_with (at_builtin; refine wpl_app (t := 24) (e := 5) rfl (.tmp 6) (.tmp 11) rfl Tryd.underlying24 info5 w.heap.size _ acc [(y % 128 + 128).toUInt8] rfl (World.ownsRow.alloc hown _) (some ⟨wr.heap.size, 0, none⟩) 1 rfl hn (fun h => by cases h) (by simp; omega) (by simp; omega) ?_; intro v' w' hown' hgrow)
      have hb' : Below w.heap.size w w' := (hb.alloc hbz _).grown hgrow (by simp; omega) (fun k hk => (hown.lt k hk).1)
      go_wp2_with fail
      go_roundw
      case rel => exact ⟨y / 128, g, _, by go_num, hown', hb', by omega, by simp; omega, HN⟩
      case measure => simp [RowKit.intOf]; omega
    · have hzz : z = acc ++ [y.toUInt8] := by
        rw [h2]
        cases f with
        | zero => rfl
        | succ g => rw [putF, if_pos (by omega)]
      have HZZ := Lib.hid hzz
      have hn := byt_new wr (y : Int) y.toUInt8 (by rw [u8_nat _ (by omega)])
      clear h1 h2 hh hzz
      go_wp2_with (at_builtin; refine wpl_app (t := 24) (e := 5) rfl (.tmp 15) (.tmp 18) rfl Tryd.underlying24 info5 w.heap.size _ acc [y.toUInt8] rfl (World.ownsRow.alloc hown _) (some ⟨wr.heap.size, 0, none⟩) 1 rfl hn (fun h => by cases h) (by simp; omega) (by simp; omega) ?_; intro v' w' hown' hgrow)
      have hb' : Below w.heap.size w w' := (hb.alloc hbz _).grown hgrow (by simp; omega) (fun k hk => (hown.lt k hk).1)
      go_wp2_with fail
      go_ret
      exact ⟨hb', _, rfl, by rw [HZZ.out]; exact hown'⟩

/-- bytes with their length -/
def bytL (l : List UInt8) : List UInt8 := putL l.length ++ l
theorem bytL_len (l : List UInt8) : l.length + 1 ≤ (bytL l).length ∧ (bytL l).length ≤ l.length + 10 := by
  have := putL_len l.length
  simp [bytL]
  omega
set_option maxHeartbeats 1000000 in
set_option maxRecDepth 100000 in
theorem bytes_any (ao : Option Addr) (l : List UInt8) (c : Nat) (w : World) (h : Byt w ao l) (hn : ao = none → c = 0) (hl : l.length ≤ 140737488355318) :
    Calls Tryd.prog 14 #[.slice ao l.length c] w fun e w' => Below w.heap.size w w' ∧ ∃ v, e = .returned v ∧ Own w' w.heap.size v (bytL l) := by
  have cp := put_any l.length (by omega) w
  have hp := putL_len l.length
  have hown := own_put w (putL l.length) w.heap.size (Nat.le_refl _) (by omega)
  have hr : Byt (w.alloc (.cells (bs (putL l.length)).toArray 5)) ao l := h.below ((Below.refl _ w).alloc (Nat.le_refl _) _)
  obtain ⟨p, hpp⟩ : ∃ p, p = putL l.length := ⟨_, rfl⟩
  unfold bytL
  rw [← hpp] at cp hp hown hr ⊢
  have CP := Lib.hid cp
  clear cp hpp h
  go_enter Tryd.func14, Tryd.ntmps14
  go_wp2_with fail
  refine CP.out.mono ?_
  rintro e w' ⟨rfl, rfl⟩
  go_wp2_with (at_builtin; refine wpl_app (t := 24) (e := 5) rfl (.tmp 6) (.tmp 7) rfl Tryd.underlying24 info5 w.heap.size _ p l rfl hown ao c rfl hr hn (by omega) (by simp) ?_; intro v' w' hown' hgrow)
  have hb' : Below w.heap.size w w' := ((Below.refl _ w).alloc (Nat.le_refl _) _).grown hgrow (by simp) (fun k hk => (hown.lt k hk).1)
  go_wp2_with fail
  go_ret
  exact ⟨hb', _, rfl, hown'⟩
set_option maxHeartbeats 1000000 in
set_option maxRecDepth 100000 in
theorem refbytes_any (ao : Option Addr) (l : List UInt8) (c : Nat) (w : World) (h : Byt w ao l) (hn : ao = none → c = 0) (hl : l.length ≤ 140737488355318) :
    Calls Tryd.prog 15 #[.slice ao l.length c] w fun e w' => Below w.heap.size w w' ∧ ∃ v, e = .returned v ∧ Own w' w.heap.size v (bytL l) := by
  have cp := refput_any l.length (by omega) w
  have hp := putL_len l.length
  obtain ⟨p, hpp⟩ : ∃ p, p = putL l.length := ⟨_, rfl⟩
  unfold bytL
  rw [← hpp] at cp hp ⊢
  have CP := Lib.hid cp
  clear cp hpp
  go_enter Tryd.func15, Tryd.ntmps15
  go_wp2_with fail
  refine CP.out.mono ?_
  rintro e w1 ⟨hb1, v1, rfl, hown⟩
  have hr := h.below hb1
  go_wp2_with (at_builtin; refine wpl_app (t := 24) (e := 5) rfl (.tmp 6) (.tmp 7) rfl Tryd.underlying24 info5 w.heap.size _ p l rfl hown ao c rfl hr hn (by omega) hb1.size ?_; intro v' w' hown' hgrow)
  have hb' : Below w.heap.size w w' := hb1.grown hgrow hb1.size (fun k hk => (hown.lt k hk).1)
  go_wp2_with fail
  go_ret
  exact ⟨hb', _, rfl, hown'⟩

theorem beq_dec (l m : List UInt8) : decide (l = m) = (l == m) := by by_cases h : l = m <;> simp [h]
/-- Same -/
theorem same_any (ao bo : Option Addr) (l m : List UInt8) (c d : Nat) (w : World) (h1 : Byt w ao l) (h2 : Byt w bo m) (n1 : ao = none → c = 0) (n2 : bo = none → d = 0) :
    Calls Tryd.prog 12 #[.slice ao l.length c, .slice bo m.length d] w fun e w' => e = .returned (.bool (decide (l = m))) ∧ w = w' := by
  have k1 := conv_byt (P := Tryd.prog) Tryd.underlying24 Tryd.underlying5 Tryd.underlying9 ao l c h1 n1
  have k2 := conv_byt (P := Tryd.prog) Tryd.underlying24 Tryd.underlying5 Tryd.underlying9 bo m d h2 n2
  rw [beq_dec]
  clear h1 h2
  go_enter Tryd.func12, Tryd.ntmps12
  go_wp2_with fail
  go_ret
  exact ⟨rfl, rfl⟩
end Go.Proofs.YtahhoomiipgpcaaDoor.Lb
