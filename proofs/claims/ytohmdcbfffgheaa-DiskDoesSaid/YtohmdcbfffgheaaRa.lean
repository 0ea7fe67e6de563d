/-
  The document's own page of layer 9: goes, Arm, Start, Writes. Conditions: each law's own.
-/
import Derived.Test.YtohmdcbfffgheaaWo
namespace Go.Proofs.Ytohmdcbfffgheaa.Dk
open Go.RowKit Go.Lib Go.Maps
/-- the cells of the page's device: its image, lower, which sectors are written, what is written to them, no power, armed, how many are left, writes -/
def rvC (im bo ro : Value) (low : Int) (dead armed : Bool) (left nw : Int) : List Value := [im, .int .i64 low, bo, ro, .bool dead, .bool armed, .int .i64 left, .int .i64 nw]
def Rv (w : World) (g : Nat) (im bo ro : Value) (low : Int) (dead armed : Bool) (left nw : Int) : Prop := Blk w g (rvC im bo ro low dead armed left nw) 77
variable {w : World} {g : Nat} {im bo ro : Value} {low : Int} {dead armed : Bool} {left nw : Int}
theorem Rv.c4 (h : Rv w g im bo ro low dead armed left nw) : w.cell? ⟨g, 4, none⟩ = some (.bool dead) := Blk.cell h 4
theorem Rv.c5 (h : Rv w g im bo ro low dead armed left nw) : w.cell? ⟨g, 5, none⟩ = some (.bool armed) := Blk.cell h 5
theorem Rv.c6 (h : Rv w g im bo ro low dead armed left nw) : w.cell? ⟨g, 6, none⟩ = some (.int .i64 left) := Blk.cell h 6
theorem Rv.c7 (h : Rv w g im bo ro low dead armed left nw) : w.cell? ⟨g, 7, none⟩ = some (.int .i64 nw) := Blk.cell h 7
theorem rv_dead (h : Rv w g im bo ro low dead armed left nw) (x : Bool) : Rv (w.setCell ⟨g, 4, none⟩ (.bool x)) g im bo ro low x armed left nw := by
  have h2 := Blk.set h 4 (.bool x)
  simpa [rvC, Rv] using h2
theorem rv_armed (h : Rv w g im bo ro low dead armed left nw) (x : Bool) : Rv (w.setCell ⟨g, 5, none⟩ (.bool x)) g im bo ro low dead x left nw := by
  have h2 := Blk.set h 5 (.bool x)
  simpa [rvC, Rv] using h2
theorem rv_left (h : Rv w g im bo ro low dead armed left nw) (x : Int) : Rv (w.setCell ⟨g, 6, none⟩ (.int .i64 x)) g im bo ro low dead armed x nw := by
  have h2 := Blk.set h 6 (.int .i64 x)
  simpa [rvC, Rv] using h2
theorem rv_nw (h : Rv w g im bo ro low dead armed left nw) (x : Int) : Rv (w.setCell ⟨g, 7, none⟩ (.int .i64 x)) g im bo ro low dead armed left x := by
  have h2 := Blk.set h 7 (.int .i64 x)
  simpa [rvC, Rv] using h2
set_option maxRecDepth 100000 in
theorem rwrites_any (h : Rv w g im bo ro low dead armed left nw) : Calls Try.prog 30 #[.pointer (some ⟨g, 0, none⟩)] w fun e w' => e = .returned (.int .i64 nw) ∧ w' = w := by
  have c7 := h.c7
  clear h
  go_enter Try.func30, Try.ntmps30
  go_wp2_with fail
  go_ret
  exact ⟨rfl, rfl⟩
set_option maxRecDepth 100000 in
theorem rstart_any (h : Rv w g im bo ro low dead armed left nw) : Calls Try.prog 27 #[.pointer (some ⟨g, 0, none⟩)] w fun e w' => e = .returned (.tuple #[]) ∧ w.grownBy w' (some g) ∧ Rv w' g im bo ro low false false left nw := by
  have c4 := h.c4
  have c5 := h.c5
  have f4 := Blk.frozen h 4
  have f5 := Blk.frozen h 5
  have HZ := Lib.hid (rv_armed (rv_dead h false) false)
  clear h
  go_enter Try.func27, Try.ntmps27
  go_wp2_with fail
  go_end0
  exact ⟨rfl, gb_trans (gb_set _ g 4 _) (gb_set _ g 5 _), HZ.out⟩
set_option maxRecDepth 100000 in
theorem rarm_any (h : Rv w g im bo ro low dead armed left nw) (x : Int) : Calls Try.prog 23 #[.pointer (some ⟨g, 0, none⟩), .int .i64 x] w fun e w' => e = .returned (.tuple #[]) ∧ w.grownBy w' (some g) ∧ Rv w' g im bo ro low dead (decide (0 ≤ x)) x nw := by
  have c5 := h.c5
  have c6 := h.c6
  have f5 := Blk.frozen h 5
  have f6 := Blk.frozen h 6
  have HZ := Lib.hid (rv_left (rv_armed h (decide (0 ≤ x))) x)
  clear h
  go_enter Try.func23, Try.ntmps23
  go_wp2_with fail
  go_end0
  exact ⟨rfl, gb_trans (gb_set _ g 5 _) (gb_set _ g 6 _), HZ.out⟩
set_option maxRecDepth 100000 in
theorem goes_off (h : Rv w g im bo ro low dead true 0 nw) : Calls Try.prog 41 #[.pointer (some ⟨g, 0, none⟩)] w fun e w' => e = .returned (.bool true) ∧ w.grownBy w' (some g) ∧ Rv w' g im bo ro low true false 0 nw := by
  have c4 := h.c4
  have c5 := h.c5
  have c6 := h.c6
  have f4 := Blk.frozen h 4
  have f5 := Blk.frozen h 5
  have HZ := Lib.hid (rv_armed (rv_dead h true) false)
  clear h
  go_enter Try.func41, Try.ntmps41
  go_wp2_with fail
  go_ret
  exact ⟨rfl, gb_trans (gb_set _ g 4 _) (gb_set _ g 5 _), HZ.out⟩
set_option maxRecDepth 100000 in
theorem goes_un (h : Rv w g im bo ro low dead false left nw) (h2 : 0 ≤ nw) (h3 : nw < 9223372036854775807) : Calls Try.prog 41 #[.pointer (some ⟨g, 0, none⟩)] w fun e w' => e = .returned (.bool false) ∧ w.grownBy w' (some g) ∧ Rv w' g im bo ro low dead false left (nw + 1) := by
  have c5 := h.c5
  have c7 := h.c7
  have f7 := Blk.frozen h 7
  have w1 : IntKind.i64.wrap (nw + 1) = nw + 1 := IntWalk.i64_in _ (by omega)
  have HZ := Lib.hid (rv_nw h (nw + 1))
  clear h h2 h3
  go_enter Try.func41, Try.ntmps41
  go_wp2_with fail
  go_ret
  exact ⟨rfl, gb_set _ g 7 _, HZ.out⟩
set_option maxRecDepth 100000 in
theorem goes_armed (h : Rv w g im bo ro low dead true left nw) (hl : 0 < left) (hl2 : left ≤ 9223372036854775807) (h2 : 0 ≤ nw) (h3 : nw < 9223372036854775807) : Calls Try.prog 41 #[.pointer (some ⟨g, 0, none⟩)] w fun e w' => e = .returned (.bool false) ∧ w.grownBy w' (some g) ∧ Rv w' g im bo ro low dead true (left - 1) (nw + 1) := by
  have c5 := h.c5
  have c6 := h.c6
  have c7 := h.c7
  have f6 := Blk.frozen h 6
  have f7 := Blk.frozen h 7
  have t1 : (left == 0) = false := by simp; omega
  have w1 : IntKind.i64.wrap (nw + 1) = nw + 1 := IntWalk.i64_in _ (by omega)
  have w2 : IntKind.i64.wrap (left - 1) = left - 1 := IntWalk.i64_in _ (by omega)
  have HZ := Lib.hid (rv_nw (rv_left h (left - 1)) (nw + 1))
  have g7 := (rv_left h (left - 1)).c7
  have k7 := Blk.frozen (rv_left h (left - 1)) 7
  clear h h2 h3 hl hl2
  go_enter Try.func41, Try.ntmps41
  go_wp2_with fail
  go_ret
  exact ⟨rfl, gb_trans (gb_set _ g 6 _) (gb_set _ g 7 _), HZ.out⟩
end Go.Proofs.Ytohmdcbfffgheaa.Dk
