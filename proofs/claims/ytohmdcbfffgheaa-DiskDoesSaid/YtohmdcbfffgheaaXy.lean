/-
  The law of the statement DiskDoes, of every image, number and calls. No other condition.
-/
import Derived.Test.YtohmdcbfffgheaaXx
namespace Go.Proofs.Ytohmdcbfffgheaa.Dk
open Go.RowKit Go.Lib Go.Maps
theorem does_all (ao : Option Addr) (l : List UInt8) (c : Nat) (lower : Int) (oo : Option Addr) (L : List OpR) (oc : Nat) (w : World) (h : Byt w ao l) (hc : l.length ≤ c) (hcc : c ≤ 9223372036854775807) (hO : Ops w oo L) (hoc : L.length ≤ oc) (hocc : oc ≤ 9223372036854775807) :
    Calls Try.prog 4 #[.slice ao l.length c, .int .i64 lower, .slice oo L.length oc] w fun e w' => e = .returned (.bool true) ∧ Below w.heap.size w w' := by
  by_cases hbig : 25650 < l.length ∨ 300 < L.length
  · exact does_big ao oo _ c _ oc lower w (by omega) (by omega) hbig
  by_cases hbad : l.length % 256 ≠ 0 ∨ l.length < 256 ∨ l.length / 256 > 4096 ∨ lower < 0 ∨ lower > (l.length / 256 : Nat)
  · exact does_bad ao oo _ c _ oc lower w (by omega) (by omega) hbad
  have hne : l ≠ [] := fun e => by rw [e] at hbad; simp at hbad
  obtain ⟨b, o, rfl, h2, h3⟩ := h hne
  obtain ⟨lo, rfl⟩ : ∃ lo : Nat, lower = (lo : Int) := ⟨lower.toNat, by omega⟩
  exact does_law b o c oc oo l L l.length (l.length / 256) L.length lo w (fun _ => ⟨b, o, rfl, h2, h3⟩) rfl (by omega) (by omega) (by omega) (by omega) hc hcc hO rfl (by omega)
end Go.Proofs.Ytohmdcbfffgheaa.Dk
