/-
  The contracts of the document's own Put and Bytes and Same, and of leb.Bytes. Conditions: a number is one of 64 bits; bytes are at most 2^47 - 10.
-/
import Derived.Test.YtcgbaiogbcodcaaGreatDoorKa
import Derived.Test.YtcgbaiogbcodcaaGreatDoorWb
namespace Go.Proofs.YtcgbaiogbcodcaaGreatDoor.Sh
open Go.RowKit Go.Lib Lb

theorem own_put (w : World) (l : List UInt8) (B : Nat) (hB : B ≤ w.heap.size) (hl : l.length ≤ 9223372036854775807) : Own (w.alloc (.cells (bs l).toArray 5)) B (.slice (some ⟨w.heap.size, 0, none⟩) l.length l.length) l := by
  have h := World.ownsRow_lit (e := 5) (size := 1) w (bs l).toArray l.length hB (by unfold maxLen; omega) (by simp [bs])
  simpa [Own] using h


/-- bytes with their length -/
def bytL (l : List UInt8) : List UInt8 := putL l.length ++ l
theorem bytL_len (l : List UInt8) : l.length + 1 ≤ (bytL l).length ∧ (bytL l).length ≤ l.length + 10 := by
  have := putL_len l.length
  simp [bytL]
  omega
set_option maxHeartbeats 1000000 in
set_option maxRecDepth 100000 in
theorem bytes_any (ao : Option Addr) (l : List UInt8) (c : Nat) (w : World) (h : Byt w ao l) (hn : ao = none → c = 0) (hl : l.length ≤ 140737488355318) :
    Calls Tryz.prog 111 #[.slice ao l.length c] w fun e w' => Below w.heap.size w w' ∧ ∃ v, e = .returned v ∧ Own w' w.heap.size v (bytL l) := by
  have cp := put_any l.length (by omega) w
  have hp := putL_len l.length
  have hown := own_put w (putL l.length) w.heap.size (Nat.le_refl _) (by omega)
  have hr : Byt (w.alloc (.cells (bs (putL l.length)).toArray 5)) ao l := h.below ((Below.refl _ w).alloc (Nat.le_refl _) _)
  obtain ⟨p, hpp⟩ : ∃ p, p = putL l.length := ⟨_, rfl⟩
  unfold bytL
  rw [← hpp] at cp hp hown hr ⊢
  have CP := Lib.hid cp
  clear cp hpp h
  go_enter Tryz.func111, Tryz.ntmps111
  go_wp2_with fail
  refine CP.out.mono ?_
  rintro e w' ⟨rfl, rfl⟩
  go_wp2_with (at_builtin; refine wpl_app (t := 33) (e := 5) rfl (.tmp 6) (.tmp 7) rfl Tryz.underlying33 info5 w.heap.size _ p l rfl hown ao c rfl hr hn (by omega) (by simp) ?_; intro v' w' hown' hgrow)
  have hb' : Below w.heap.size w w' := ((Below.refl _ w).alloc (Nat.le_refl _) _).grown hgrow (by simp) (fun k hk => (hown.lt k hk).1)
  go_wp2_with fail
  go_ret
  exact ⟨hb', _, rfl, hown'⟩

end Go.Proofs.YtcgbaiogbcodcaaGreatDoor.Sh
