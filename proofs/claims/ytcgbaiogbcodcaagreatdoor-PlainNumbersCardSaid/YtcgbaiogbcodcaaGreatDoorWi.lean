/-
  The contracts of leb's counted and Take: for every slice of bytes and bound. Condition: the library's variable errors.errorType is as its text lays it.
-/
import Derived.Test.YtcgbaiogbcodcaaGreatDoorWh
namespace Go.Proofs.YtcgbaiogbcodcaaGreatDoor.Sh
open Go.RowKit Go.Lib Lb

set_option maxRecDepth 100000 in
theorem slice3 (b o len c n x : Nat) (hx : x ≠ 0) (h : n + x ≤ c) (W : World) :
    (Instr.slice 33 (.slice (some ⟨b, o, none⟩) len c) (some (.int .i64 (n : Int))) (some (.int .i64 ((n : Int) + x))) (some (.int .i64 ((n : Int) + x)))).run Tryz.prog W = .ok (.slice (some ⟨b, o + n, none⟩) x x) W := by
  have hs := run_slice_lhm (P := Tryz.prog) W 33 (some ⟨b, o, none⟩) len c (by rw [Tryz.underlying33]; rfl) .i64 .i64 .i64 (n : Int) ((n : Int) + x) ((n : Int) + x) (by omega) (by omega) (by omega) (by omega)
  rw [hs]
  have e1 : ((n : Int) + x).toNat = n + x := by omega
  have e2 : ((n : Int)).toNat = n := by omega
  have e3 : Tryz.prog.elem 33 = 5 := by kernel_rfl
  rw [e1, e2, e3]
  simp [Tryz.sizeOf5, sliced, Result.andThen, WideShapes.add_plain, hx]
end Go.Proofs.YtcgbaiogbcodcaaGreatDoor.Sh
