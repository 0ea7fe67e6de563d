/-
  The contracts of slices.Clone, slices.Grow of nil and slices.Concat at bytes (and Clone at words), of sha's written and ending. Conditions: what is made is at most 2^47 bytes.
-/
import Derived.Test.YtpcmminokhmkjaaDoorKd
import Derived.Lib.AppendZerosOnto
import Derived.Lib.SliceRun
import Derived.Lib.Walk
import Derived.WalkSpells
namespace Go.Proofs.YtpcmminokhmkjaaDoor.Sh
open Go.RowKit Go.Lib

/-- rows of bytes, cell by cell of a block -/
def Rws (w : World) (k : Nat) (rows : List (List UInt8)) : Prop :=
  ∀ (j : Nat) (h : j < rows.length), ∃ ao c, w.cell? ⟨k, j, none⟩ = some (.slice ao (rows[j]).length c) ∧ Byt w ao rows[j] ∧ (ao = none → c = 0)
theorem rows_take (rows : List (List UInt8)) (i : Nat) (h : i < rows.length) : (rows.take (i + 1)).flatten = (rows.take i).flatten ++ rows[i] := by
  rw [List.take_succ_eq_append_getElem h, List.flatten_append, List.flatten_cons, List.flatten_nil, List.append_nil]
theorem rows_len (rows : List (List UInt8)) (i : Nat) : (rows.take i).flatten.length ≤ rows.flatten.length := by
  have h := congrArg List.length (congrArg List.flatten (List.take_append_drop i rows))
  rw [List.flatten_append, List.length_append] at h
  omega
end Go.Proofs.YtpcmminokhmkjaaDoor.Sh
