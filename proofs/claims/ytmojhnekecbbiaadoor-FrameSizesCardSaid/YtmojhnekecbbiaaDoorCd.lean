/-
  The contracts of crc's Bytes and Right, and of the document's own Bytes, Right and Same. Conditions: bytes are at most 2^47 - 4.
-/
import Derived.Test.YtmojhnekecbbiaaDoorCc
import Derived.Deep.RegionWith
namespace Go.Proofs.YtmojhnekecbbiaaDoor.Cr
open Go.RowKit Go.Lib Go.Proofs.YtmojhnekecbbiaaDoor.Sh

theorem leL_len' (s : Nat) : (leL s).length = 4 := rfl

set_option maxHeartbeats 1000000 in
set_option maxRecDepth 100000 in
theorem bytes_any (ao : Option Addr) (l : List UInt8) (c : Nat) (w : World) (h : Byt w ao l) (hn : ao = none → c = 0) (hc : l.length ≤ c) (hc2 : c ≤ 9223372036854775807) (hl : l.length ≤ 140737488355324) :
    Calls Tryd.prog 17 #[.slice ao l.length c] w fun e w' => Below w.heap.size w w' ∧ ∃ v, e = .returned v ∧ Own w' w.heap.size v (bytesL l) := by
  have c1 := sum_any ao l c w h hc hc2
  unfold bytesL
  obtain ⟨s, hs⟩ : ∃ s, s = sumL l := ⟨_, rfl⟩
  have hs32 : s < 4294967296 := by rw [hs]; exact moreL_lt 0 l
  rw [← hs] at c1 ⊢
  clear hs
  have b2 : Below w.heap.size w ((w.alloc (.cells (bs (leL s)).toArray 5)).alloc (.cells #[.slice ao l.length c, .slice (some ⟨w.heap.size, 0, none⟩) 4 4] 22)) :=
    ((Below.refl _ w).alloc (Nat.le_refl _) _).alloc (by simp) _
  have hby : Byt ((w.alloc (.cells (bs (leL s)).toArray 5)).alloc (.cells #[.slice ao l.length c, .slice (some ⟨w.heap.size, 0, none⟩) 4 4] 22)) (some ⟨w.heap.size, 0, none⟩) (leL s) := fun _ => by
    refine ⟨w.heap.size, 0, rfl, by simp; omega, fun j hj => ?_⟩
    have hx := (Below.refl (w.heap.size + 1) (w.alloc (.cells (bs (leL s)).toArray 5))).alloc (by simp) (.cells #[.slice ao l.length c, .slice (some ⟨w.heap.size, 0, none⟩) 4 4] 22)
    rw [hx.cell (p := ⟨w.heap.size, 0 + j, none⟩) (by simp), Nat.zero_add, World.cell?_alloc_new]
    simp [bs, hj]
  have c3 := concat_any (w.heap.size + 1) ao (some ⟨w.heap.size, 0, none⟩) l (leL s) c 4 ((w.alloc (.cells (bs (leL s)).toArray 5)).alloc (.cells #[.slice ao l.length c, .slice (some ⟨w.heap.size, 0, none⟩) 4 4] 22))
    (h.below b2) hby hn (fun h => by cases h)
    (cell_new (w.alloc (.cells (bs (leL s)).toArray 5)) _ 0 (w.heap.size + 1) (by simp) rfl)
    (cell_new (w.alloc (.cells (bs (leL s)).toArray 5)) _ 1 (w.heap.size + 1) (by simp) rfl)
    (by simp) (by rw [leL_len']; omega) (by rw [leL_len']; omega)
  have C1 := Lib.hid c1
  have C2 := Lib.hid (written_any s hs32 w)
  have C3 := Lib.hid c3
  have B2 := Lib.hid b2
  clear c3 b2 hby h
  clear c1
  go_enter Tryd.func17, Tryd.ntmps17
  go_wp2_with fail
  refine C1.out.mono ?_
  rintro e w' ⟨rfl, rfl⟩
  go_wp2_with fail
  refine C2.out.mono ?_
  rintro e w' ⟨rfl, rfl⟩
  go_wp2_with fail
  refine C3.out.mono ?_
  rintro e w3 ⟨hb3, v, rfl, hown⟩
  go_wp2_with fail
  go_ret
  exact ⟨B2.out.trans (hb3.mono B2.out.size), _, rfl, hown.low B2.out.size⟩

theorem beq_dec (l m : List UInt8) : decide (l = m) = (l == m) := by by_cases h : l = m <;> simp [h]
/-- Same -/
theorem same_any (ao bo : Option Addr) (l m : List UInt8) (c d : Nat) (w : World) (h1 : Byt w ao l) (h2 : Byt w bo m) (n1 : ao = none → c = 0) (n2 : bo = none → d = 0) :
    Calls Tryd.prog 22 #[.slice ao l.length c, .slice bo m.length d] w fun e w' => e = .returned (.bool (decide (l = m))) ∧ w = w' := by
  have k1 := conv_byt (P := Tryd.prog) Tryd.underlying22 Tryd.underlying5 Tryd.underlying9 ao l c h1 n1
  have k2 := conv_byt (P := Tryd.prog) Tryd.underlying22 Tryd.underlying5 Tryd.underlying9 bo m d h2 n2
  rw [beq_dec]
  clear h1 h2
  go_enter Tryd.func22, Tryd.ntmps22
  go_wp2_with fail
  go_ret
  exact ⟨rfl, rfl⟩
end Go.Proofs.YtmojhnekecbbiaaDoor.Cr
