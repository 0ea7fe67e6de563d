/-
  The document's own page of layer 9: Image. Conditions: each law's own.
-/
import Derived.Test.YtohmdcbfffgheaaRb
namespace Go.Proofs.Ytohmdcbfffgheaa.Dk
open Go.RowKit Go.Lib Go.Maps
variable {w : World} {g : Nat} {im bo ro : Value} {low : Int} {dead armed : Bool} {left nw : Int}
/-- a new row without a byte -/
theorem own_none (w : World) : Own (w.alloc (.cells #[] 5)) w.heap.size (.slice (some ⟨w.heap.size, 0, none⟩) 0 0) [] := by
  refine ⟨rfl, Or.inr ⟨w.heap.size, 0, #[], rfl, Nat.le_refl _, ?_, Nat.le_refl _, by unfold maxLen; omega, by simp, by simp [bs]⟩⟩
  exact (heap_alloc_new w _)
set_option maxHeartbeats 1000000 in
set_option maxRecDepth 100000 in
theorem rimage_any {ao : Option Addr} {c : Nat} {l : List UInt8} (h : Rv w g (.slice ao l.length c) bo ro low dead armed left nw) (hb : Byt w ao l) (hc : ao = none → c = 0) (hl : l.length ≤ 140737488355328) :
    Calls Try.prog 32 #[.pointer (some ⟨g, 0, none⟩)] w fun e w' => Below w.heap.size w w' ∧ ∃ v, e = .returned v ∧ Own w' w.heap.size v l := by
  have B1 := (Below.refl w.heap.size w).alloc (Nat.le_refl _) (.cells #[] 5)
  have c0 : (w.alloc (.cells #[] 5)).cell? ⟨g, 0, none⟩ = some (.slice ao l.length c) := (B1.cell (p := ⟨g, 0, none⟩) (Blk.lt h)).trans (Blk.cell h 0)
  have HB := Lib.hid (hb.below B1)
  have HO := Lib.hid (own_none w)
  have HB1 := Lib.hid B1
  have HC := Lib.hid hc
  have p1 : ([] : List UInt8).length + l.length ≤ 140737488355328 := by simpa using hl
  have pb : w.heap.size ≤ (w.alloc (.cells #[] 5)).heap.size := B1.size
  clear h hb hl B1 hc
  go_enter Try.func32, Try.ntmps32
  go_wp2_with (at_builtin; refine wpl_app (t := 29) (e := 5) rfl (.tmp 3) (.tmp 7) rfl Try.underlying29 info5 w.heap.size _ [] l rfl HO.out ao c rfl HB.out HC.out p1 pb ?_; intro v' w' hown' hgrow; have HG := Lib.hid hgrow; have HW := Lib.hid hown'; clear hown' hgrow)
  go_ret
  exact ⟨HB1.out.grown HG.out HB1.out.size (fun k hk => (HO.out.lt k hk).1), v', rfl, HW.out⟩
end Go.Proofs.Ytohmdcbfffgheaa.Dk
