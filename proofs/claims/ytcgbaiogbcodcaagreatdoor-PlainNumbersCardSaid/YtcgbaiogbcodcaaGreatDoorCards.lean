/-
  DERIVED. GIVEN WITH THE SEED: THE CARDS: each row of YtcgbaiogbcodcaaGreatDoorRows.lean that lists a variable, with what it lists TIED to the program's text (the seventh form; the later family's looks); each row that meets fmt, with fmt's text TOLD by the authors' own Lean function (tested against real Go, not proved from fmt's source: count such statements apart). THE CARD IS WHAT COUNTS. Prove the row's statement (the work); the ties are given (YtcgbaiogbcodcaaGreatDoorTie.lean); close each card by the builder's one call (the guide's Derived/Test/ToyasCard.lean, 'card_holds'). Laid BY PROGRAM, IN A SANDBOX (cutbox-door.mjs). By AI agents, Wed Nov 11 2026. No macro, syntax, notation, axiom, sorry.
-/
import Derived.Test.YtcgbaiogbcodcaaGreatDoorRows
import GoSem.ClaimSeven
namespace Go.Proofs.YtcgbaiogbcodcaaGreatDoor
namespace Rows

/-- THE TIED CARD OF 'palimpsestlaw17.PlainNumbers'. -/
def plainNumbersCard : Claim7 := { stood := { row := plainNumbersRow, standIns := [], harness := (true, "30e6a467fc744856121377b950ba241d9a3f0fb6d40924dec2398f14ccf7adc4"), looks := true }, kinds := [], alts := [], laidByText := true, laidKinds := [.data, .handle, .pinned], laidTests := true, laidLooks := .later }
def PlainNumbersCardSaid : Prop := Claim7.holds Tryz.pinned (.plain (OpenSpec.ofChange plainNumbersSpec)) plainNumbersCard

/-- THE TIED CARD OF 'palimpsestlaw17.PlainUp'. -/
def plainUpCard : Claim7 := { stood := { row := plainUpRow, standIns := [], harness := (true, "30e6a467fc744856121377b950ba241d9a3f0fb6d40924dec2398f14ccf7adc4"), looks := true }, kinds := [], alts := [], laidByText := true, laidKinds := [.data, .handle, .pinned], laidTests := true, laidLooks := .later }
def PlainUpCardSaid : Prop := Claim7.holds Tryz.pinned (.plain (OpenSpec.ofChange plainUpSpec)) plainUpCard

/-- THE SECOND FORM's CARD OF 'palimpsestlaw17.PlainNumbers'. -/
def plainNumbersUptoCard : Claim7 := { stood := { row := plainNumbersUptoRow, standIns := [], harness := (true, "30e6a467fc744856121377b950ba241d9a3f0fb6d40924dec2398f14ccf7adc4"), looks := true }, kinds := [], alts := [], laidByText := true, laidKinds := [.data, .handle, .pinned], laidTests := true, laidLooks := .later }
def PlainNumbersUptoCardSaid : Prop := Claim7.holds Tryz.pinned (.plain (OpenSpec.upto plainNumbersSpec)) plainNumbersUptoCard

/-- THE SECOND FORM's CARD OF 'palimpsestlaw17.PlainUp'. -/
def plainUpUptoCard : Claim7 := { stood := { row := plainUpUptoRow, standIns := [], harness := (true, "30e6a467fc744856121377b950ba241d9a3f0fb6d40924dec2398f14ccf7adc4"), looks := true }, kinds := [], alts := [], laidByText := true, laidKinds := [.data, .handle, .pinned], laidTests := true, laidLooks := .later }
def PlainUpUptoCardSaid : Prop := Claim7.holds Tryz.pinned (.plain (OpenSpec.upto plainUpSpec)) plainUpUptoCard
end Rows
end Go.Proofs.YtcgbaiogbcodcaaGreatDoor
