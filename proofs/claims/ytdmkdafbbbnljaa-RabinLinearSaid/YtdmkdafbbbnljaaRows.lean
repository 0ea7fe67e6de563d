/-
  No cell of these rows narrows 'for every input' (looked for: loops, veiled, ifaces, maps, wideKeys, modest, calm, conditions, laid).
  DERIVED. THE GIVEN ROWS OF THIS SEAT. 5 by the template 'for every input the law returns true; each argument reads behind the call as it read before'; 0 by the template 'total and deterministic' (their statements: YtdmkdafbbbnljaaTotals.lean).
  GIVEN WITH THE SEED: the statements are not yours to turn. If you find one false, say at which input.
  Laid BY PROGRAM, IN A SANDBOX (cutbox-rows.mjs): the forced cells as the released guide's own fill.sh prints them over the translation 4196eb86ea085d2e… (all of the seat's roots in one cut). By AI agents, Wed Nov 11 2026. No macro, syntax, notation, axiom, sorry.
-/
import Derived.Test.YtdmkdafbbbnljaaChecked
import GoSem.Claim
import GoSem.ClaimJoined
import GoSem.ClaimMapViews
import Derived.JoinedTies
import Derived.KernelRfl
namespace Go.Proofs.Ytdmkdafbbbnljaa
/- THE CELL 'sum', in the pinned program and in every row, IS THE sha256 OF THE DUMP (.gsa) THAT YtdmkdafbbbnljaaProg.lean LOADS. Nothing in Lean hashes anything: it is a label: what it is worth is what the hold of that sum in a sandbox is worth. -/
noncomputable def Try.pinned : Pinned := { name := "ytdmkdafbbbnljaa", sum := "4196eb86ea085d2e376412dd8e530f2eff1f7c7f184a33d2a732aa5e486018f0", checked := Try.checked }
namespace Rows
def none {H : Type} : Left H := { results := [], args := [] }

/-- 'palimpsestlaw05.RabinPushes': WHATEVER THE INPUT: true; the input reads as it did. -/
def rabinPushesSpec : ChangeSpec := { name := "rabinPushes", fn := fun _ => fun
  | [d1, d2] => { results := [.lit (.bool true)], args := [d1, d2] }
  | _ => none }
def rabinPushesRow : OpenClaim := { program := "ytdmkdafbbbnljaa", sum := "4196eb86ea085d2e376412dd8e530f2eff1f7c7f184a33d2a732aa5e486018f0", func := "palimpsest/palimpsestlaw05.RabinPushes", spec := "rabinPushes", apart := false }
def RabinPushesSaid : Prop := rabinPushesRow.holds Try.pinned (OpenSpec.ofChange rabinPushesSpec)

/-- ITS FALSE NEIGHBOUR: 'it returns false'. Refute it at one input. -/
def rabinPushesWrong : ChangeSpec := { name := "rabinPushes", fn := fun _ => fun
  | [d1, d2] => { results := [.lit (.bool false)], args := [d1, d2] }
  | _ => none }
def RabinPushesWrongFalsely : Prop := rabinPushesRow.holds Try.pinned (OpenSpec.ofChange rabinPushesWrong)

/-- 'palimpsestlaw05.RabinReckons': WHATEVER THE INPUT: true; the input reads as it did. -/
def rabinReckonsSpec : ChangeSpec := { name := "rabinReckons", fn := fun _ => fun
  | [d1, d2, d3, d4] => { results := [.lit (.bool true)], args := [d1, d2, d3, d4] }
  | _ => none }
def rabinReckonsRow : OpenClaim := { program := "ytdmkdafbbbnljaa", sum := "4196eb86ea085d2e376412dd8e530f2eff1f7c7f184a33d2a732aa5e486018f0", func := "palimpsest/palimpsestlaw05.RabinReckons", spec := "rabinReckons", apart := false }
def RabinReckonsSaid : Prop := rabinReckonsRow.holds Try.pinned (OpenSpec.ofChange rabinReckonsSpec)

/-- ITS FALSE NEIGHBOUR: 'it returns false'. Refute it at one input. -/
def rabinReckonsWrong : ChangeSpec := { name := "rabinReckons", fn := fun _ => fun
  | [d1, d2, d3, d4] => { results := [.lit (.bool false)], args := [d1, d2, d3, d4] }
  | _ => none }
def RabinReckonsWrongFalsely : Prop := rabinReckonsRow.holds Try.pinned (OpenSpec.ofChange rabinReckonsWrong)

/-- 'palimpsestlaw05.RabinRolls': WHATEVER THE INPUT: true; the input reads as it did. -/
def rabinRollsSpec : ChangeSpec := { name := "rabinRolls", fn := fun _ => fun
  | [d] => { results := [.lit (.bool true)], args := [d] }
  | _ => none }
def rabinRollsRow : OpenClaim := { program := "ytdmkdafbbbnljaa", sum := "4196eb86ea085d2e376412dd8e530f2eff1f7c7f184a33d2a732aa5e486018f0", func := "palimpsest/palimpsestlaw05.RabinRolls", spec := "rabinRolls", apart := false }
def RabinRollsSaid : Prop := rabinRollsRow.holds Try.pinned (OpenSpec.ofChange rabinRollsSpec)

/-- ITS FALSE NEIGHBOUR: 'it returns false'. Refute it at one input. -/
def rabinRollsWrong : ChangeSpec := { name := "rabinRolls", fn := fun _ => fun
  | [d] => { results := [.lit (.bool false)], args := [d] }
  | _ => none }
def RabinRollsWrongFalsely : Prop := rabinRollsRow.holds Try.pinned (OpenSpec.ofChange rabinRollsWrong)

/-- 'palimpsestlaw05.RabinLinear': WHATEVER THE INPUT: true; the input reads as it did. -/
def rabinLinearSpec : ChangeSpec := { name := "rabinLinear", fn := fun _ => fun
  | [d1, d2] => { results := [.lit (.bool true)], args := [d1, d2] }
  | _ => none }
def rabinLinearRow : OpenClaim := { program := "ytdmkdafbbbnljaa", sum := "4196eb86ea085d2e376412dd8e530f2eff1f7c7f184a33d2a732aa5e486018f0", func := "palimpsest/palimpsestlaw05.RabinLinear", spec := "rabinLinear", apart := false }
def RabinLinearSaid : Prop := rabinLinearRow.holds Try.pinned (OpenSpec.ofChange rabinLinearSpec)

/-- ITS FALSE NEIGHBOUR: 'it returns false'. Refute it at one input. -/
def rabinLinearWrong : ChangeSpec := { name := "rabinLinear", fn := fun _ => fun
  | [d1, d2] => { results := [.lit (.bool false)], args := [d1, d2] }
  | _ => none }
def RabinLinearWrongFalsely : Prop := rabinLinearRow.holds Try.pinned (OpenSpec.ofChange rabinLinearWrong)

/-- 'palimpsestlaw05.RabinMod': WHATEVER THE INPUT: true; the input reads as it did. -/
def rabinModSpec : ChangeSpec := { name := "rabinMod", fn := fun _ => fun
  | [d1, d2, d3] => { results := [.lit (.bool true)], args := [d1, d2, d3] }
  | _ => none }
def rabinModRow : OpenClaim := { program := "ytdmkdafbbbnljaa", sum := "4196eb86ea085d2e376412dd8e530f2eff1f7c7f184a33d2a732aa5e486018f0", func := "palimpsest/palimpsestlaw05.RabinMod", spec := "rabinMod", apart := false }
def RabinModSaid : Prop := rabinModRow.holds Try.pinned (OpenSpec.ofChange rabinModSpec)

/-- ITS FALSE NEIGHBOUR: 'it returns false'. Refute it at one input. -/
def rabinModWrong : ChangeSpec := { name := "rabinMod", fn := fun _ => fun
  | [d1, d2, d3] => { results := [.lit (.bool false)], args := [d1, d2, d3] }
  | _ => none }
def RabinModWrongFalsely : Prop := rabinModRow.holds Try.pinned (OpenSpec.ofChange rabinModWrong)

/- THE SECOND FORM. 'bulk': how many values and letters a reading holds, each counted each time it is reached (what is shared counts as often as it is met; a slice's spare places count too). A statement '..UptoSaid' is the law's where the arguments, and the package variables that the reading takes, are together of bulk at most 1048576: NARROWER than '..Said'. Prove '..Said' where nothing that the law and all that it calls make is longer than what came in: it says more and counts as full. Else prove '..UptoSaid'. A law counts once. -/
mutual
def uptoBulk {H : Type} : DataW H → Nat
  | .lit (.string bytes) => bytes.length + 1
  | .lit _ => 1
  | .nil => 1
  | .ptr d => uptoBulk d + 1
  | .slice elems spare => uptoBulkAll elems + uptoBulkAll spare + 1
  | .agg parts => uptoBulkAll parts + 1
  | .iface _ d => uptoBulk d + 1
  | .map entries => uptoBulkEntries entries + 1
  | .held _ => 1
def uptoBulkAll {H : Type} : List (DataW H) → Nat
  | [] => 0
  | d :: r => uptoBulk d + uptoBulkAll r
def uptoBulkEntries {H : Type} : List (Lit × DataW H) → Nat
  | [] => 0
  | x :: r => uptoBulkEntry x + uptoBulkEntries r
def uptoBulkEntry {H : Type} : Lit × DataW H → Nat
  | (.string bytes, d) => bytes.length + uptoBulk d + 1
  | (_, d) => uptoBulk d + 1
 end
def uptoSmall : (H : Type) → List (DataW H) → Bool := fun _ ds => decide (uptoBulkAll ds ≤ 1048576)
def OpenSpec.upto (s : _root_.Go.ChangeSpec) : _root_.Go.OpenSpec := { _root_.Go.OpenSpec.ofChange s with cond := some uptoSmall }

/-- 'palimpsestlaw05.RabinPushes', WHERE WHAT IT READS IS OF BULK AT MOST 1048576: true; the input reads as it did. -/
def rabinPushesUptoRow : OpenClaim := { program := "ytdmkdafbbbnljaa", sum := "4196eb86ea085d2e376412dd8e530f2eff1f7c7f184a33d2a732aa5e486018f0", func := "palimpsest/palimpsestlaw05.RabinPushes", spec := "rabinPushes", apart := false, narrowed := true }
def RabinPushesUptoSaid : Prop := rabinPushesUptoRow.holds Try.pinned (OpenSpec.upto rabinPushesSpec)

/-- 'palimpsestlaw05.RabinReckons', WHERE WHAT IT READS IS OF BULK AT MOST 1048576: true; the input reads as it did. -/
def rabinReckonsUptoRow : OpenClaim := { program := "ytdmkdafbbbnljaa", sum := "4196eb86ea085d2e376412dd8e530f2eff1f7c7f184a33d2a732aa5e486018f0", func := "palimpsest/palimpsestlaw05.RabinReckons", spec := "rabinReckons", apart := false, narrowed := true }
def RabinReckonsUptoSaid : Prop := rabinReckonsUptoRow.holds Try.pinned (OpenSpec.upto rabinReckonsSpec)

/-- 'palimpsestlaw05.RabinRolls', WHERE WHAT IT READS IS OF BULK AT MOST 1048576: true; the input reads as it did. -/
def rabinRollsUptoRow : OpenClaim := { program := "ytdmkdafbbbnljaa", sum := "4196eb86ea085d2e376412dd8e530f2eff1f7c7f184a33d2a732aa5e486018f0", func := "palimpsest/palimpsestlaw05.RabinRolls", spec := "rabinRolls", apart := false, narrowed := true }
def RabinRollsUptoSaid : Prop := rabinRollsUptoRow.holds Try.pinned (OpenSpec.upto rabinRollsSpec)

/-- 'palimpsestlaw05.RabinLinear', WHERE WHAT IT READS IS OF BULK AT MOST 1048576: true; the input reads as it did. -/
def rabinLinearUptoRow : OpenClaim := { program := "ytdmkdafbbbnljaa", sum := "4196eb86ea085d2e376412dd8e530f2eff1f7c7f184a33d2a732aa5e486018f0", func := "palimpsest/palimpsestlaw05.RabinLinear", spec := "rabinLinear", apart := false, narrowed := true }
def RabinLinearUptoSaid : Prop := rabinLinearUptoRow.holds Try.pinned (OpenSpec.upto rabinLinearSpec)

/-- 'palimpsestlaw05.RabinMod', WHERE WHAT IT READS IS OF BULK AT MOST 1048576: true; the input reads as it did. -/
def rabinModUptoRow : OpenClaim := { program := "ytdmkdafbbbnljaa", sum := "4196eb86ea085d2e376412dd8e530f2eff1f7c7f184a33d2a732aa5e486018f0", func := "palimpsest/palimpsestlaw05.RabinMod", spec := "rabinMod", apart := false, narrowed := true }
def RabinModUptoSaid : Prop := rabinModUptoRow.holds Try.pinned (OpenSpec.upto rabinModSpec)

end Rows
end Go.Proofs.Ytdmkdafbbbnljaa
