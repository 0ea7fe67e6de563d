/-
  The contracts of the document's own within, Root and PutRoot. Conditions: each law's own.
-/
import Derived.Test.YtcgbaiogbcodcaaGreatDoorRe
import Derived.Test.YtcgbaiogbcodcaaGreatDoorKs
namespace Go.Proofs.YtcgbaiogbcodcaaGreatDoor.Sh
open Go.RowKit Go.Lib Lb

theorem srw_cell {w : World} {ao : Option Addr} {l : List ByteArray} (h : Srw w ao l) (i : Nat) (hi : i < l.length) : ∃ b o x, ao = some ⟨b, o, none⟩ ∧ b < w.heap.size ∧ l[i]? = some x ∧ w.cell? ⟨b, o + i, none⟩ = some (.string x) := by
  obtain ⟨b, o, h1, h2, h3⟩ := h (by intro h0; rw [h0] at hi; simp at hi)
  exact ⟨b, o, l[i], h1, h2, List.getElem?_eq_getElem hi, h3 i hi⟩
theorem below_chain {w W W' : World} (h : Below w.heap.size w W) (hb : Below W.heap.size W W') : Below w.heap.size w W' := h.trans (hb.mono h.size)
theorem below_alloc {w W : World} (h : Below w.heap.size w W) (o : Obj) : Below w.heap.size w (W.alloc o) := h.alloc h.size o
/-- a row of keys: each may be, as far as i -/
def KeysTo (l : List ByteArray) (i : Nat) : Prop := ∀ k ∈ l.take i, keyOk k
theorem keysTo_more {l : List ByteArray} {i : Nat} {k : ByteArray} (h : KeysTo l i) (hk : l[i]? = some k) (ho : keyOk k) : KeysTo l (i + 1) := by
  intro x hx
  rw [List.take_add_one, hk] at hx
  simp only [Option.toList_some, List.mem_append, List.mem_singleton] at hx
  rcases hx with hx | rfl
  · exact h x hx
  · exact ho
/-- a bool that tells whether -/
def Tells (w : World) (p : Prop) (e : Ending) (w' : World) : Prop := (∃ b : Bool, e = .returned (.bool b) ∧ (b = true ↔ p)) ∧ Below w.heap.size w w'
end Go.Proofs.YtcgbaiogbcodcaaGreatDoor.Sh
