/-
  DERIVED. GIVEN WITH THE SEED: THE CARDS: each row of YtmojhnekecbbiaaDoorRows.lean that lists a variable, with what it lists TIED to the program's text (the seventh form; the later family's looks); each row that meets fmt, with fmt's text TOLD by the authors' own Lean function (tested against real Go, not proved from fmt's source: count such statements apart). THE CARD IS WHAT COUNTS. Prove the row's statement (the work); the ties are given (YtmojhnekecbbiaaDoorTie.lean); close each card by the builder's one call (the guide's Derived/Test/ToyasCard.lean, 'card_holds'). Laid BY PROGRAM, IN A SANDBOX (cutbox-door.mjs). By AI agents, Wed Nov 11 2026. No macro, syntax, notation, axiom, sorry.
-/
import Derived.Test.YtmojhnekecbbiaaDoorRows
import GoSem.ClaimSeven
namespace Go.Proofs.YtmojhnekecbbiaaDoor
namespace Rows

/-- THE TIED CARD OF 'palimpsestlaw12.FrameSizes'. -/
def frameSizesCard : Claim7 := { stood := { row := frameSizesRow, standIns := [], harness := (true, "0670a1746a92f018fe0a1b14114ed0640ab23f13800d52b02064c7d8f0dfe66e"), looks := true }, kinds := [], alts := [], laidByText := true, laidKinds := [.handle, .data, .data, .sentinel, .sentinel], laidTests := true, laidLooks := .later }
def FrameSizesCardSaid : Prop := Claim7.holds Tryd.pinned (.plain (OpenSpec.ofChange frameSizesSpec)) frameSizesCard

/-- THE TIED CARD OF 'palimpsestlaw12.FrameBack'. -/
def frameBackCard : Claim7 := { stood := { row := frameBackRow, standIns := [], harness := (true, "0670a1746a92f018fe0a1b14114ed0640ab23f13800d52b02064c7d8f0dfe66e"), looks := true }, kinds := [], alts := [], laidByText := true, laidKinds := [.handle, .data, .data, .sentinel, .sentinel], laidTests := true, laidLooks := .later }
def FrameBackCardSaid : Prop := Claim7.holds Tryd.pinned (.plain (OpenSpec.ofChange frameBackSpec)) frameBackCard

/-- THE TIED CARD OF 'palimpsestlaw12.FrameKeys'. -/
def frameKeysCard : Claim7 := { stood := { row := frameKeysRow, standIns := [], harness := (true, "0670a1746a92f018fe0a1b14114ed0640ab23f13800d52b02064c7d8f0dfe66e"), looks := true }, kinds := [], alts := [], laidByText := true, laidKinds := [.handle, .data, .data, .sentinel, .sentinel], laidTests := true, laidLooks := .later }
def FrameKeysCardSaid : Prop := Claim7.holds Tryd.pinned (.plain (OpenSpec.ofChange frameKeysSpec)) frameKeysCard

/-- THE SECOND FORM's CARD OF 'palimpsestlaw12.FrameSizes'. -/
def frameSizesUptoCard : Claim7 := { stood := { row := frameSizesUptoRow, standIns := [], harness := (true, "0670a1746a92f018fe0a1b14114ed0640ab23f13800d52b02064c7d8f0dfe66e"), looks := true }, kinds := [], alts := [], laidByText := true, laidKinds := [.handle, .data, .data, .sentinel, .sentinel], laidTests := true, laidLooks := .later }
def FrameSizesUptoCardSaid : Prop := Claim7.holds Tryd.pinned (.plain (OpenSpec.upto frameSizesSpec)) frameSizesUptoCard

/-- THE SECOND FORM's CARD OF 'palimpsestlaw12.FrameBack'. -/
def frameBackUptoCard : Claim7 := { stood := { row := frameBackUptoRow, standIns := [], harness := (true, "0670a1746a92f018fe0a1b14114ed0640ab23f13800d52b02064c7d8f0dfe66e"), looks := true }, kinds := [], alts := [], laidByText := true, laidKinds := [.handle, .data, .data, .sentinel, .sentinel], laidTests := true, laidLooks := .later }
def FrameBackUptoCardSaid : Prop := Claim7.holds Tryd.pinned (.plain (OpenSpec.upto frameBackSpec)) frameBackUptoCard

/-- THE SECOND FORM's CARD OF 'palimpsestlaw12.FrameKeys'. -/
def frameKeysUptoCard : Claim7 := { stood := { row := frameKeysUptoRow, standIns := [], harness := (true, "0670a1746a92f018fe0a1b14114ed0640ab23f13800d52b02064c7d8f0dfe66e"), looks := true }, kinds := [], alts := [], laidByText := true, laidKinds := [.handle, .data, .data, .sentinel, .sentinel], laidTests := true, laidLooks := .later }
def FrameKeysUptoCardSaid : Prop := Claim7.holds Tryd.pinned (.plain (OpenSpec.upto frameKeysSpec)) frameKeysUptoCard
end Rows
end Go.Proofs.YtmojhnekecbbiaaDoor
