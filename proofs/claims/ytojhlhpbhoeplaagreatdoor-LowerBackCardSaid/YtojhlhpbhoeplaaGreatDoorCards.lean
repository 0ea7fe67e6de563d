/-
  DERIVED. GIVEN WITH THE SEED: THE CARDS: each row of YtojhlhpbhoeplaaGreatDoorRows.lean that lists a variable, with what it lists TIED to the program's text (the seventh form; the later family's looks); each row that meets fmt, with fmt's text TOLD by the authors' own Lean function (tested against real Go, not proved from fmt's source: count such statements apart). THE CARD IS WHAT COUNTS. Prove the row's statement (the work); the ties are given (YtojhlhpbhoeplaaGreatDoorTie.lean); close each card by the builder's one call (the guide's Derived/Test/ToyasCard.lean, 'card_holds'). Laid BY PROGRAM, IN A SANDBOX (cutbox-door.mjs). By AI agents, Wed Nov 11 2026. No macro, syntax, notation, axiom, sorry.
-/
import Derived.Test.YtojhlhpbhoeplaaGreatDoorRows
import GoSem.ClaimSeven
namespace Go.Proofs.YtojhlhpbhoeplaaGreatDoor
namespace Rows

/-- THE TIED CARD OF 'palimpsestlaw16.LowerOnce'. -/
def lowerOnceCard : Claim7 := { stood := { row := lowerOnceRow, standIns := [], harness := (true, "51616ab063184d1d14c8514a173196e85fd8c45394e9923245a9a7a07c7e21a4"), looks := true }, kinds := [], alts := [], laidByText := true, laidKinds := [.data, .data, .data, .data, .handle, .sentinel, .pinned], laidTests := true, laidLooks := .later }
def LowerOnceCardSaid : Prop := Claim7.holds Tryz.pinned (.plain (OpenSpec.ofChange lowerOnceSpec)) lowerOnceCard

/-- THE TIED CARD OF 'palimpsestlaw16.LowerWrites'. -/
def lowerWritesCard : Claim7 := { stood := { row := lowerWritesRow, standIns := [], harness := (true, "51616ab063184d1d14c8514a173196e85fd8c45394e9923245a9a7a07c7e21a4"), looks := true }, kinds := [], alts := [], laidByText := true, laidKinds := [.data, .data, .data, .data, .handle, .sentinel, .pinned], laidTests := true, laidLooks := .later }
def LowerWritesCardSaid : Prop := Claim7.holds Tryz.pinned (.plain (OpenSpec.ofChange lowerWritesSpec)) lowerWritesCard

/-- THE TIED CARD OF 'palimpsestlaw16.LowerReads'. -/
def lowerReadsCard : Claim7 := { stood := { row := lowerReadsRow, standIns := [], harness := (true, "51616ab063184d1d14c8514a173196e85fd8c45394e9923245a9a7a07c7e21a4"), looks := true }, kinds := [], alts := [], laidByText := true, laidKinds := [.data, .data, .data, .data, .handle, .sentinel, .pinned], laidTests := true, laidLooks := .later }
def LowerReadsCardSaid : Prop := Claim7.holds Tryz.pinned (.plain (OpenSpec.ofChange lowerReadsSpec)) lowerReadsCard

/-- THE TIED CARD OF 'palimpsestlaw16.LowerBack'. -/
def lowerBackCard : Claim7 := { stood := { row := lowerBackRow, standIns := [], harness := (true, "51616ab063184d1d14c8514a173196e85fd8c45394e9923245a9a7a07c7e21a4"), looks := true }, kinds := [], alts := [], laidByText := true, laidKinds := [.data, .data, .data, .data, .handle, .sentinel, .pinned], laidTests := true, laidLooks := .later }
def LowerBackCardSaid : Prop := Claim7.holds Tryz.pinned (.plain (OpenSpec.ofChange lowerBackSpec)) lowerBackCard

/-- THE TIED CARD OF 'palimpsestlaw16.LowerTree'. -/
def lowerTreeCard : Claim7 := { stood := { row := lowerTreeRow, standIns := [], harness := (true, "51616ab063184d1d14c8514a173196e85fd8c45394e9923245a9a7a07c7e21a4"), looks := true }, kinds := [], alts := [], laidByText := true, laidKinds := [.data, .data, .data, .data, .handle, .sentinel, .pinned], laidTests := true, laidLooks := .later }
def LowerTreeCardSaid : Prop := Claim7.holds Tryz.pinned (.plain (OpenSpec.ofChange lowerTreeSpec)) lowerTreeCard

/-- THE SECOND FORM's CARD OF 'palimpsestlaw16.LowerOnce'. -/
def lowerOnceUptoCard : Claim7 := { stood := { row := lowerOnceUptoRow, standIns := [], harness := (true, "51616ab063184d1d14c8514a173196e85fd8c45394e9923245a9a7a07c7e21a4"), looks := true }, kinds := [], alts := [], laidByText := true, laidKinds := [.data, .data, .data, .data, .handle, .sentinel, .pinned], laidTests := true, laidLooks := .later }
def LowerOnceUptoCardSaid : Prop := Claim7.holds Tryz.pinned (.plain (OpenSpec.upto lowerOnceSpec)) lowerOnceUptoCard

/-- THE SECOND FORM's CARD OF 'palimpsestlaw16.LowerWrites'. -/
def lowerWritesUptoCard : Claim7 := { stood := { row := lowerWritesUptoRow, standIns := [], harness := (true, "51616ab063184d1d14c8514a173196e85fd8c45394e9923245a9a7a07c7e21a4"), looks := true }, kinds := [], alts := [], laidByText := true, laidKinds := [.data, .data, .data, .data, .handle, .sentinel, .pinned], laidTests := true, laidLooks := .later }
def LowerWritesUptoCardSaid : Prop := Claim7.holds Tryz.pinned (.plain (OpenSpec.upto lowerWritesSpec)) lowerWritesUptoCard

/-- THE SECOND FORM's CARD OF 'palimpsestlaw16.LowerReads'. -/
def lowerReadsUptoCard : Claim7 := { stood := { row := lowerReadsUptoRow, standIns := [], harness := (true, "51616ab063184d1d14c8514a173196e85fd8c45394e9923245a9a7a07c7e21a4"), looks := true }, kinds := [], alts := [], laidByText := true, laidKinds := [.data, .data, .data, .data, .handle, .sentinel, .pinned], laidTests := true, laidLooks := .later }
def LowerReadsUptoCardSaid : Prop := Claim7.holds Tryz.pinned (.plain (OpenSpec.upto lowerReadsSpec)) lowerReadsUptoCard

/-- THE SECOND FORM's CARD OF 'palimpsestlaw16.LowerBack'. -/
def lowerBackUptoCard : Claim7 := { stood := { row := lowerBackUptoRow, standIns := [], harness := (true, "51616ab063184d1d14c8514a173196e85fd8c45394e9923245a9a7a07c7e21a4"), looks := true }, kinds := [], alts := [], laidByText := true, laidKinds := [.data, .data, .data, .data, .handle, .sentinel, .pinned], laidTests := true, laidLooks := .later }
def LowerBackUptoCardSaid : Prop := Claim7.holds Tryz.pinned (.plain (OpenSpec.upto lowerBackSpec)) lowerBackUptoCard

/-- THE SECOND FORM's CARD OF 'palimpsestlaw16.LowerTree'. -/
def lowerTreeUptoCard : Claim7 := { stood := { row := lowerTreeUptoRow, standIns := [], harness := (true, "51616ab063184d1d14c8514a173196e85fd8c45394e9923245a9a7a07c7e21a4"), looks := true }, kinds := [], alts := [], laidByText := true, laidKinds := [.data, .data, .data, .data, .handle, .sentinel, .pinned], laidTests := true, laidLooks := .later }
def LowerTreeUptoCardSaid : Prop := Claim7.holds Tryz.pinned (.plain (OpenSpec.upto lowerTreeSpec)) lowerTreeUptoCard
end Rows
end Go.Proofs.YtojhlhpbhoeplaaGreatDoor
