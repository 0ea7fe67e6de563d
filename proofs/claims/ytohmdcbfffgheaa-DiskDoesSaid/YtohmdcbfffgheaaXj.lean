/-
  A row of ints, as it comes in. Conditions: each law's own.
-/
import Derived.Test.YtohmdcbfffgheaaXh
namespace Go.Proofs.Ytohmdcbfffgheaa.Dk
open Go.ChangeShapes Go.WideShapes Go.ChangeAt Go.RowKit Go.Lib Go.ChangeMaps
section
variable {H : Type} {enc : TypeId × Value → H}
set_option maxRecDepth 100000 in
theorem open_zrw_arg {W : World} {base : Nat} {v : Value} {d : DataW H} {p : List MemPlace} (hval : Value.okWide Try.prog W .any base 32 v) (h : DataW.Trod enc Try.prog W 0 (fun _ => true) true 32 v d p) (hlt : ∀ x ∈ p, x.block < W.heap.size) :
    ∃ (ao : Option Addr) (l : List Int) (c : Nat), v = .slice ao l.length c ∧ l.length ≤ c ∧ c ≤ 9223372036854775807 ∧ Zrw W ao l ∧ ∀ x ∈ l, -9223372036854775808 ≤ x ∧ x ≤ 9223372036854775807 := by
  obtain ⟨a0, len, cap, rfl⟩ := okWide_slice Try.underlying32 hval
  obtain ⟨fuel, hf⟩ := h
  obtain ⟨ao, l, c, e, h1, h2, h3, _, h5⟩ := open_zrw_f (y := (d, p)) Try.underlying32 Try.underlying3 cells3 (by simpa [Value.cells] using hf) hlt
  exact ⟨ao, l, c, e, h1, h2, h3, h5⟩
end
end Go.Proofs.Ytohmdcbfffgheaa.Dk
