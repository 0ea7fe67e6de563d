/-
  The contract of disk's Cached. Conditions: each law's own.
-/
import Derived.Test.YtohmdcbfffgheaaIter
namespace Go.Proofs.Ytohmdcbfffgheaa.Dk
open Go.RowKit Go.Lib Go.Maps Go.Sort Go.Shelf
variable {w : World} {g sa mb : Nat} {S : List (List UInt8)} {low : Int} {k : Nat} {D : DataW Unit} {pw : Bool} {left nw : Int}
set_option maxHeartbeats 1000000 in
set_option maxRecDepth 100000 in
theorem cached_any (h : DevS w g sa mb S low k D pw left nw) (h0 : S.length ≠ 0) (hk : k < 1000000) :
    Calls Try.prog 14 #[.pointer (some ⟨g, 0, none⟩)] w fun e w' => Below w.heap.size w w' ∧ ∃ v ss, e = .returned v ∧ ss.Perm (intKeys D) ∧ w'.ownsRow w.heap.size 3 1 v ss.length ((ss.mergeSort (fun x y => decide (x ≤ y))).map encZ) ∧ (v = .slice none 0 0 ↔ ss = []) := by
  have HM := Lib.hid (made_any h.dv)
  have t1 : decide (0 < S.length) = true := by simp; omega
  rw [t1] at HM
  obtain ⟨_, _, c2, _, _, _⟩ := h.dv.cells
  have hms : Maps.size D ≤ k := h.map.size_le
  have C1 := Lib.hid ((callsIn_wide (n := 5)).1 (keys_39 (some mb) w))
  have C2 := Lib.hid ((callsIn_wide (n := 5)).1 (sorted_keys mb k D secR w h.map (by unfold maxLen; omega) (by omega)))
  have b1 := Lib.hid ((Below.refl w.heap.size w).alloc (Nat.le_refl _) (.cells #[.map (some mb)] 59))
  clear h h0 t1 hms hk
  go_enter Try.func14, Try.ntmps14
  go_wp2_with fail
  refine HM.out.mono ?_
  rintro e w1 ⟨rfl, rfl⟩
  clear HM
  go_wp2_with fail
  refine C1.out.mono ?_
  rintro e w2 ⟨rfl, rfl⟩
  go_wp2_with fail
  refine C2.out.mono ?_
  rintro e w3 ⟨v, ss, rfl, hp, hrow, hnil, hb⟩
  have b2 := Lib.hid (b1.out.trans (hb.mono b1.out.size))
  have hrow2 : w3.ownsRow w1.heap.size 3 1 v ss.length ((ss.mergeSort (fun x y => decide (x ≤ y))).map encZ) := by
    refine ⟨hrow.1, hrow.2.imp id ?_⟩
    rintro ⟨b, cap, cur, e1, e2, e3⟩
    exact ⟨b, cap, cur, e1, Nat.le_trans b1.out.size e2, e3⟩
  have HP := Lib.hid hp
  have HR := Lib.hid hrow2
  have HNL := Lib.hid hnil
  clear hp hrow hrow2 hnil hb
  go_wp2_with fail
  go_ret
  exact ⟨b2.out, v, ss, rfl, HP.out, HR.out, HNL.out⟩
end Go.Proofs.Ytohmdcbfffgheaa.Dk
