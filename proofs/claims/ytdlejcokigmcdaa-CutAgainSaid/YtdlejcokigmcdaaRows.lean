/-
  No cell of these rows narrows 'for every input' (looked for: loops, veiled, ifaces, maps, wideKeys, modest, calm, conditions, laid).
  DERIVED. THE GIVEN ROWS OF THIS SEAT. 6 by the template 'for every input the law returns true; each argument reads behind the call as it read before'; 0 by the template 'total and deterministic' (their statements: YtdlejcokigmcdaaTotals.lean).
  GIVEN WITH THE SEED: the statements are not yours to turn. If you find one false, say at which input.
  Laid BY PROGRAM, IN A SANDBOX (cutbox-rows.mjs): the forced cells as the released guide's own fill.sh prints them over the translation db737d5950cd77ec… (all of the seat's roots in one cut). By AI agents, Wed Nov 11 2026. No macro, syntax, notation, axiom, sorry.
-/
import Derived.Test.YtdlejcokigmcdaaChecked
import GoSem.Claim
import GoSem.ClaimJoined
import GoSem.ClaimMapViews
import Derived.JoinedTies
import Derived.KernelRfl
namespace Go.Proofs.Ytdlejcokigmcdaa
/- THE CELL 'sum', in the pinned program and in every row, IS THE sha256 OF THE DUMP (.gsa) THAT YtdlejcokigmcdaaProg.lean LOADS. Nothing in Lean hashes anything: it is a label: what it is worth is what the hold of that sum in a sandbox is worth. -/
noncomputable def Try.pinned : Pinned := { name := "ytdlejcokigmcdaa", sum := "db737d5950cd77ec9bea71fa2a7b87aaa232b1c013a381b31b415e8e0cb3759b", checked := Try.checked }
namespace Rows
def none {H : Type} : Left H := { results := [], args := [] }

/-- 'palimpsestlaw06.CutNoughts': WHATEVER THE INPUT: true; the input reads as it did. -/
def cutNoughtsSpec : ChangeSpec := { name := "cutNoughts", fn := fun _ => fun
  | [d] => { results := [.lit (.bool true)], args := [d] }
  | _ => none }
def cutNoughtsRow : OpenClaim := { program := "ytdlejcokigmcdaa", sum := "db737d5950cd77ec9bea71fa2a7b87aaa232b1c013a381b31b415e8e0cb3759b", func := "palimpsest/palimpsestlaw06.CutNoughts", spec := "cutNoughts", apart := false }
def CutNoughtsSaid : Prop := cutNoughtsRow.holds Try.pinned (OpenSpec.ofChange cutNoughtsSpec)

/-- ITS FALSE NEIGHBOUR: 'it returns false'. Refute it at one input. -/
def cutNoughtsWrong : ChangeSpec := { name := "cutNoughts", fn := fun _ => fun
  | [d] => { results := [.lit (.bool false)], args := [d] }
  | _ => none }
def CutNoughtsWrongFalsely : Prop := cutNoughtsRow.holds Try.pinned (OpenSpec.ofChange cutNoughtsWrong)

/-- 'palimpsestlaw06.CutLocal': WHATEVER THE INPUT: true; the input reads as it did. -/
def cutLocalSpec : ChangeSpec := { name := "cutLocal", fn := fun _ => fun
  | [d1, d2, d3] => { results := [.lit (.bool true)], args := [d1, d2, d3] }
  | _ => none }
def cutLocalRow : OpenClaim := { program := "ytdlejcokigmcdaa", sum := "db737d5950cd77ec9bea71fa2a7b87aaa232b1c013a381b31b415e8e0cb3759b", func := "palimpsest/palimpsestlaw06.CutLocal", spec := "cutLocal", apart := false }
def CutLocalSaid : Prop := cutLocalRow.holds Try.pinned (OpenSpec.ofChange cutLocalSpec)

/-- ITS FALSE NEIGHBOUR: 'it returns false'. Refute it at one input. -/
def cutLocalWrong : ChangeSpec := { name := "cutLocal", fn := fun _ => fun
  | [d1, d2, d3] => { results := [.lit (.bool false)], args := [d1, d2, d3] }
  | _ => none }
def CutLocalWrongFalsely : Prop := cutLocalRow.holds Try.pinned (OpenSpec.ofChange cutLocalWrong)

/-- 'palimpsestlaw06.CutFinds': WHATEVER THE INPUT: true; the input reads as it did. -/
def cutFindsSpec : ChangeSpec := { name := "cutFinds", fn := fun _ => fun
  | [d] => { results := [.lit (.bool true)], args := [d] }
  | _ => none }
def cutFindsRow : OpenClaim := { program := "ytdlejcokigmcdaa", sum := "db737d5950cd77ec9bea71fa2a7b87aaa232b1c013a381b31b415e8e0cb3759b", func := "palimpsest/palimpsestlaw06.CutFinds", spec := "cutFinds", apart := false }
def CutFindsSaid : Prop := cutFindsRow.holds Try.pinned (OpenSpec.ofChange cutFindsSpec)

/-- ITS FALSE NEIGHBOUR: 'it returns false'. Refute it at one input. -/
def cutFindsWrong : ChangeSpec := { name := "cutFinds", fn := fun _ => fun
  | [d] => { results := [.lit (.bool false)], args := [d] }
  | _ => none }
def CutFindsWrongFalsely : Prop := cutFindsRow.holds Try.pinned (OpenSpec.ofChange cutFindsWrong)

/-- 'palimpsestlaw06.CutJoins': WHATEVER THE INPUT: true; the input reads as it did. -/
def cutJoinsSpec : ChangeSpec := { name := "cutJoins", fn := fun _ => fun
  | [d] => { results := [.lit (.bool true)], args := [d] }
  | _ => none }
def cutJoinsRow : OpenClaim := { program := "ytdlejcokigmcdaa", sum := "db737d5950cd77ec9bea71fa2a7b87aaa232b1c013a381b31b415e8e0cb3759b", func := "palimpsest/palimpsestlaw06.CutJoins", spec := "cutJoins", apart := false }
def CutJoinsSaid : Prop := cutJoinsRow.holds Try.pinned (OpenSpec.ofChange cutJoinsSpec)

/-- ITS FALSE NEIGHBOUR: 'it returns false'. Refute it at one input. -/
def cutJoinsWrong : ChangeSpec := { name := "cutJoins", fn := fun _ => fun
  | [d] => { results := [.lit (.bool false)], args := [d] }
  | _ => none }
def CutJoinsWrongFalsely : Prop := cutJoinsRow.holds Try.pinned (OpenSpec.ofChange cutJoinsWrong)

/-- 'palimpsestlaw06.CutAgain': WHATEVER THE INPUT: true; the input reads as it did. -/
def cutAgainSpec : ChangeSpec := { name := "cutAgain", fn := fun _ => fun
  | [d1, d2, d3] => { results := [.lit (.bool true)], args := [d1, d2, d3] }
  | _ => none }
def cutAgainRow : OpenClaim := { program := "ytdlejcokigmcdaa", sum := "db737d5950cd77ec9bea71fa2a7b87aaa232b1c013a381b31b415e8e0cb3759b", func := "palimpsest/palimpsestlaw06.CutAgain", spec := "cutAgain", apart := false }
def CutAgainSaid : Prop := cutAgainRow.holds Try.pinned (OpenSpec.ofChange cutAgainSpec)

/-- ITS FALSE NEIGHBOUR: 'it returns false'. Refute it at one input. -/
def cutAgainWrong : ChangeSpec := { name := "cutAgain", fn := fun _ => fun
  | [d1, d2, d3] => { results := [.lit (.bool false)], args := [d1, d2, d3] }
  | _ => none }
def CutAgainWrongFalsely : Prop := cutAgainRow.holds Try.pinned (OpenSpec.ofChange cutAgainWrong)

/-- 'palimpsestlaw06.CutPrefix': WHATEVER THE INPUT: true; the input reads as it did. -/
def cutPrefixSpec : ChangeSpec := { name := "cutPrefix", fn := fun _ => fun
  | [d1, d2] => { results := [.lit (.bool true)], args := [d1, d2] }
  | _ => none }
def cutPrefixRow : OpenClaim := { program := "ytdlejcokigmcdaa", sum := "db737d5950cd77ec9bea71fa2a7b87aaa232b1c013a381b31b415e8e0cb3759b", func := "palimpsest/palimpsestlaw06.CutPrefix", spec := "cutPrefix", apart := false }
def CutPrefixSaid : Prop := cutPrefixRow.holds Try.pinned (OpenSpec.ofChange cutPrefixSpec)

/-- ITS FALSE NEIGHBOUR: 'it returns false'. Refute it at one input. -/
def cutPrefixWrong : ChangeSpec := { name := "cutPrefix", fn := fun _ => fun
  | [d1, d2] => { results := [.lit (.bool false)], args := [d1, d2] }
  | _ => none }
def CutPrefixWrongFalsely : Prop := cutPrefixRow.holds Try.pinned (OpenSpec.ofChange cutPrefixWrong)

/- THE SECOND FORM. 'bulk': how many values and letters a reading holds, each counted each time it is reached (what is shared counts as often as it is met; a slice's spare places count too). A statement '..UptoSaid' is the law's where the arguments, and the package variables that the reading takes, are together of bulk at most 1048576: NARROWER than '..Said'. Prove '..Said' where nothing that the law and all that it calls make is longer than what came in: it says more and counts as full. Else prove '..UptoSaid'. A law counts once. -/
mutual
def uptoBulk {H : Type} : DataW H → Nat
  | .lit (.string bytes) => bytes.length + 1
  | .lit _ => 1
  | .nil => 1
  | .ptr d => uptoBulk d + 1
  | .slice elems spare => uptoBulkAll elems + uptoBulkAll spare + 1
  | .agg parts => uptoBulkAll parts + 1
  | .iface _ d => uptoBulk d + 1
  | .map entries => uptoBulkEntries entries + 1
  | .held _ => 1
def uptoBulkAll {H : Type} : List (DataW H) → Nat
  | [] => 0
  | d :: r => uptoBulk d + uptoBulkAll r
def uptoBulkEntries {H : Type} : List (Lit × DataW H) → Nat
  | [] => 0
  | x :: r => uptoBulkEntry x + uptoBulkEntries r
def uptoBulkEntry {H : Type} : Lit × DataW H → Nat
  | (.string bytes, d) => bytes.length + uptoBulk d + 1
  | (_, d) => uptoBulk d + 1
 end
def uptoSmall : (H : Type) → List (DataW H) → Bool := fun _ ds => decide (uptoBulkAll ds ≤ 1048576)
def OpenSpec.upto (s : _root_.Go.ChangeSpec) : _root_.Go.OpenSpec := { _root_.Go.OpenSpec.ofChange s with cond := some uptoSmall }

/-- 'palimpsestlaw06.CutNoughts', WHERE WHAT IT READS IS OF BULK AT MOST 1048576: true; the input reads as it did. -/
def cutNoughtsUptoRow : OpenClaim := { program := "ytdlejcokigmcdaa", sum := "db737d5950cd77ec9bea71fa2a7b87aaa232b1c013a381b31b415e8e0cb3759b", func := "palimpsest/palimpsestlaw06.CutNoughts", spec := "cutNoughts", apart := false, narrowed := true }
def CutNoughtsUptoSaid : Prop := cutNoughtsUptoRow.holds Try.pinned (OpenSpec.upto cutNoughtsSpec)

/-- 'palimpsestlaw06.CutLocal', WHERE WHAT IT READS IS OF BULK AT MOST 1048576: true; the input reads as it did. -/
def cutLocalUptoRow : OpenClaim := { program := "ytdlejcokigmcdaa", sum := "db737d5950cd77ec9bea71fa2a7b87aaa232b1c013a381b31b415e8e0cb3759b", func := "palimpsest/palimpsestlaw06.CutLocal", spec := "cutLocal", apart := false, narrowed := true }
def CutLocalUptoSaid : Prop := cutLocalUptoRow.holds Try.pinned (OpenSpec.upto cutLocalSpec)

/-- 'palimpsestlaw06.CutFinds', WHERE WHAT IT READS IS OF BULK AT MOST 1048576: true; the input reads as it did. -/
def cutFindsUptoRow : OpenClaim := { program := "ytdlejcokigmcdaa", sum := "db737d5950cd77ec9bea71fa2a7b87aaa232b1c013a381b31b415e8e0cb3759b", func := "palimpsest/palimpsestlaw06.CutFinds", spec := "cutFinds", apart := false, narrowed := true }
def CutFindsUptoSaid : Prop := cutFindsUptoRow.holds Try.pinned (OpenSpec.upto cutFindsSpec)

/-- 'palimpsestlaw06.CutJoins', WHERE WHAT IT READS IS OF BULK AT MOST 1048576: true; the input reads as it did. -/
def cutJoinsUptoRow : OpenClaim := { program := "ytdlejcokigmcdaa", sum := "db737d5950cd77ec9bea71fa2a7b87aaa232b1c013a381b31b415e8e0cb3759b", func := "palimpsest/palimpsestlaw06.CutJoins", spec := "cutJoins", apart := false, narrowed := true }
def CutJoinsUptoSaid : Prop := cutJoinsUptoRow.holds Try.pinned (OpenSpec.upto cutJoinsSpec)

/-- 'palimpsestlaw06.CutAgain', WHERE WHAT IT READS IS OF BULK AT MOST 1048576: true; the input reads as it did. -/
def cutAgainUptoRow : OpenClaim := { program := "ytdlejcokigmcdaa", sum := "db737d5950cd77ec9bea71fa2a7b87aaa232b1c013a381b31b415e8e0cb3759b", func := "palimpsest/palimpsestlaw06.CutAgain", spec := "cutAgain", apart := false, narrowed := true }
def CutAgainUptoSaid : Prop := cutAgainUptoRow.holds Try.pinned (OpenSpec.upto cutAgainSpec)

/-- 'palimpsestlaw06.CutPrefix', WHERE WHAT IT READS IS OF BULK AT MOST 1048576: true; the input reads as it did. -/
def cutPrefixUptoRow : OpenClaim := { program := "ytdlejcokigmcdaa", sum := "db737d5950cd77ec9bea71fa2a7b87aaa232b1c013a381b31b415e8e0cb3759b", func := "palimpsest/palimpsestlaw06.CutPrefix", spec := "cutPrefix", apart := false, narrowed := true }
def CutPrefixUptoSaid : Prop := cutPrefixUptoRow.holds Try.pinned (OpenSpec.upto cutPrefixSpec)

end Rows
end Go.Proofs.Ytdlejcokigmcdaa
