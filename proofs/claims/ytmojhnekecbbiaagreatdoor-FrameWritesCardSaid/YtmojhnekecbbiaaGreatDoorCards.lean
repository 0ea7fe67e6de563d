/-
  DERIVED. GIVEN WITH THE SEED: THE CARDS: each row of YtmojhnekecbbiaaGreatDoorRows.lean that lists a variable, with what it lists TIED to the program's text (the seventh form; the later family's looks); each row that meets fmt, with fmt's text TOLD by the authors' own Lean function (tested against real Go, not proved from fmt's source: count such statements apart). THE CARD IS WHAT COUNTS. Prove the row's statement (the work); the ties are given (YtmojhnekecbbiaaGreatDoorTie.lean); close each card by the builder's one call (the guide's Derived/Test/ToyasCard.lean, 'card_holds'). Laid BY PROGRAM, IN A SANDBOX (cutbox-door.mjs). By AI agents, Wed Nov 11 2026. No macro, syntax, notation, axiom, sorry.
-/
import Derived.Test.YtmojhnekecbbiaaGreatDoorRows
import GoSem.ClaimSeven
namespace Go.Proofs.YtmojhnekecbbiaaGreatDoor
namespace Rows

/-- THE TIED CARD OF 'palimpsestlaw12.FrameWrites'. -/
def frameWritesCard : Claim7 := { stood := { row := frameWritesRow, standIns := [], harness := (true, "85ecebf77a6c234732664b0de6003773095e7214a780e8eea3e951847709785f"), looks := true }, kinds := [], alts := [], laidByText := true, laidKinds := [.handle, .data, .data, .sentinel, .sentinel], laidTests := true, laidLooks := .later }
def FrameWritesCardSaid : Prop := Claim7.holds Tryz.pinned (.plain (OpenSpec.ofChange frameWritesSpec)) frameWritesCard

/-- THE SECOND FORM's CARD OF 'palimpsestlaw12.FrameWrites'. -/
def frameWritesUptoCard : Claim7 := { stood := { row := frameWritesUptoRow, standIns := [], harness := (true, "85ecebf77a6c234732664b0de6003773095e7214a780e8eea3e951847709785f"), looks := true }, kinds := [], alts := [], laidByText := true, laidKinds := [.handle, .data, .data, .sentinel, .sentinel], laidTests := true, laidLooks := .later }
def FrameWritesUptoCardSaid : Prop := Claim7.holds Tryz.pinned (.plain (OpenSpec.upto frameWritesSpec)) frameWritesUptoCard
end Rows
end Go.Proofs.YtmojhnekecbbiaaGreatDoor
