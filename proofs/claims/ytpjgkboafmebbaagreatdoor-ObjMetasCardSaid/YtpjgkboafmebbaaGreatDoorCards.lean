/-
  DERIVED. GIVEN WITH THE SEED: THE CARDS: each row of YtpjgkboafmebbaaGreatDoorRows.lean that lists a variable, with what it lists TIED to the program's text (the seventh form; the later family's looks); each row that meets fmt, with fmt's text TOLD by the authors' own Lean function (tested against real Go, not proved from fmt's source: count such statements apart). THE CARD IS WHAT COUNTS. Prove the row's statement (the work); the ties are given (YtpjgkboafmebbaaGreatDoorTie.lean); close each card by the builder's one call (the guide's Derived/Test/ToyasCard.lean, 'card_holds'). Laid BY PROGRAM, IN A SANDBOX (cutbox-door.mjs). By AI agents, Wed Nov 11 2026. No macro, syntax, notation, axiom, sorry.
-/
import Derived.Test.YtpjgkboafmebbaaGreatDoorRows
import GoSem.ClaimSeven
namespace Go.Proofs.YtpjgkboafmebbaaGreatDoor
namespace Rows

/-- THE TIED CARD OF 'palimpsestlaw08.ObjFits'. -/
def objFitsCard : Claim7 := { stood := { row := objFitsRow, standIns := [], harness := (true, "295cf253cb35b08af408a9d1bc8e488b6322fb19cbe32763996f0bb119f8852b"), looks := true }, kinds := [], alts := [], laidByText := true, laidKinds := [.data, .handle, .pinned], laidTests := true, laidLooks := .later }
def ObjFitsCardSaid : Prop := Claim7.holds Tryz.pinned (.plain (OpenSpec.ofChange objFitsSpec)) objFitsCard

/-- THE TIED CARD OF 'palimpsestlaw08.ObjSizes'. -/
def objSizesCard : Claim7 := { stood := { row := objSizesRow, standIns := [], harness := (true, "295cf253cb35b08af408a9d1bc8e488b6322fb19cbe32763996f0bb119f8852b"), looks := true }, kinds := [], alts := [], laidByText := true, laidKinds := [.data, .handle, .pinned], laidTests := true, laidLooks := .later }
def ObjSizesCardSaid : Prop := Claim7.holds Tryz.pinned (.plain (OpenSpec.ofChange objSizesSpec)) objSizesCard

/-- THE TIED CARD OF 'palimpsestlaw08.ObjMetas'. -/
def objMetasCard : Claim7 := { stood := { row := objMetasRow, standIns := [], harness := (true, "295cf253cb35b08af408a9d1bc8e488b6322fb19cbe32763996f0bb119f8852b"), looks := true }, kinds := [], alts := [], laidByText := true, laidKinds := [.data, .handle, .pinned], laidTests := true, laidLooks := .later }
def ObjMetasCardSaid : Prop := Claim7.holds Tryz.pinned (.plain (OpenSpec.ofChange objMetasSpec)) objMetasCard

/-- THE TIED CARD OF 'palimpsestlaw08.ObjListings'. -/
def objListingsCard : Claim7 := { stood := { row := objListingsRow, standIns := [], harness := (true, "295cf253cb35b08af408a9d1bc8e488b6322fb19cbe32763996f0bb119f8852b"), looks := true }, kinds := [], alts := [], laidByText := true, laidKinds := [.data, .handle, .pinned], laidTests := true, laidLooks := .later }
def ObjListingsCardSaid : Prop := Claim7.holds Tryz.pinned (.plain (OpenSpec.ofChange objListingsSpec)) objListingsCard

/-- THE TIED CARD OF 'palimpsestlaw08.ObjTables'. -/
def objTablesCard : Claim7 := { stood := { row := objTablesRow, standIns := [], harness := (true, "295cf253cb35b08af408a9d1bc8e488b6322fb19cbe32763996f0bb119f8852b"), looks := true }, kinds := [], alts := [], laidByText := true, laidKinds := [.data, .handle, .pinned], laidTests := true, laidLooks := .later }
def ObjTablesCardSaid : Prop := Claim7.holds Tryz.pinned (.plain (OpenSpec.ofChange objTablesSpec)) objTablesCard

/-- THE TIED CARD OF 'palimpsestlaw08.ObjBack'. -/
def objBackCard : Claim7 := { stood := { row := objBackRow, standIns := [], harness := (true, "295cf253cb35b08af408a9d1bc8e488b6322fb19cbe32763996f0bb119f8852b"), looks := true }, kinds := [], alts := [], laidByText := true, laidKinds := [.data, .handle, .pinned], laidTests := true, laidLooks := .later }
def ObjBackCardSaid : Prop := Claim7.holds Tryz.pinned (.plain (OpenSpec.ofChange objBackSpec)) objBackCard

/-- THE TIED CARD OF 'palimpsestlaw08.ObjAgain'. -/
def objAgainCard : Claim7 := { stood := { row := objAgainRow, standIns := [], harness := (true, "295cf253cb35b08af408a9d1bc8e488b6322fb19cbe32763996f0bb119f8852b"), looks := true }, kinds := [], alts := [], laidByText := true, laidKinds := [.data, .handle, .pinned], laidTests := true, laidLooks := .later }
def ObjAgainCardSaid : Prop := Claim7.holds Tryz.pinned (.plain (OpenSpec.ofChange objAgainSpec)) objAgainCard

/-- THE SECOND FORM's CARD OF 'palimpsestlaw08.ObjFits'. -/
def objFitsUptoCard : Claim7 := { stood := { row := objFitsUptoRow, standIns := [], harness := (true, "295cf253cb35b08af408a9d1bc8e488b6322fb19cbe32763996f0bb119f8852b"), looks := true }, kinds := [], alts := [], laidByText := true, laidKinds := [.data, .handle, .pinned], laidTests := true, laidLooks := .later }
def ObjFitsUptoCardSaid : Prop := Claim7.holds Tryz.pinned (.plain (OpenSpec.upto objFitsSpec)) objFitsUptoCard

/-- THE SECOND FORM's CARD OF 'palimpsestlaw08.ObjSizes'. -/
def objSizesUptoCard : Claim7 := { stood := { row := objSizesUptoRow, standIns := [], harness := (true, "295cf253cb35b08af408a9d1bc8e488b6322fb19cbe32763996f0bb119f8852b"), looks := true }, kinds := [], alts := [], laidByText := true, laidKinds := [.data, .handle, .pinned], laidTests := true, laidLooks := .later }
def ObjSizesUptoCardSaid : Prop := Claim7.holds Tryz.pinned (.plain (OpenSpec.upto objSizesSpec)) objSizesUptoCard

/-- THE SECOND FORM's CARD OF 'palimpsestlaw08.ObjMetas'. -/
def objMetasUptoCard : Claim7 := { stood := { row := objMetasUptoRow, standIns := [], harness := (true, "295cf253cb35b08af408a9d1bc8e488b6322fb19cbe32763996f0bb119f8852b"), looks := true }, kinds := [], alts := [], laidByText := true, laidKinds := [.data, .handle, .pinned], laidTests := true, laidLooks := .later }
def ObjMetasUptoCardSaid : Prop := Claim7.holds Tryz.pinned (.plain (OpenSpec.upto objMetasSpec)) objMetasUptoCard

/-- THE SECOND FORM's CARD OF 'palimpsestlaw08.ObjListings'. -/
def objListingsUptoCard : Claim7 := { stood := { row := objListingsUptoRow, standIns := [], harness := (true, "295cf253cb35b08af408a9d1bc8e488b6322fb19cbe32763996f0bb119f8852b"), looks := true }, kinds := [], alts := [], laidByText := true, laidKinds := [.data, .handle, .pinned], laidTests := true, laidLooks := .later }
def ObjListingsUptoCardSaid : Prop := Claim7.holds Tryz.pinned (.plain (OpenSpec.upto objListingsSpec)) objListingsUptoCard

/-- THE SECOND FORM's CARD OF 'palimpsestlaw08.ObjTables'. -/
def objTablesUptoCard : Claim7 := { stood := { row := objTablesUptoRow, standIns := [], harness := (true, "295cf253cb35b08af408a9d1bc8e488b6322fb19cbe32763996f0bb119f8852b"), looks := true }, kinds := [], alts := [], laidByText := true, laidKinds := [.data, .handle, .pinned], laidTests := true, laidLooks := .later }
def ObjTablesUptoCardSaid : Prop := Claim7.holds Tryz.pinned (.plain (OpenSpec.upto objTablesSpec)) objTablesUptoCard

/-- THE SECOND FORM's CARD OF 'palimpsestlaw08.ObjBack'. -/
def objBackUptoCard : Claim7 := { stood := { row := objBackUptoRow, standIns := [], harness := (true, "295cf253cb35b08af408a9d1bc8e488b6322fb19cbe32763996f0bb119f8852b"), looks := true }, kinds := [], alts := [], laidByText := true, laidKinds := [.data, .handle, .pinned], laidTests := true, laidLooks := .later }
def ObjBackUptoCardSaid : Prop := Claim7.holds Tryz.pinned (.plain (OpenSpec.upto objBackSpec)) objBackUptoCard

/-- THE SECOND FORM's CARD OF 'palimpsestlaw08.ObjAgain'. -/
def objAgainUptoCard : Claim7 := { stood := { row := objAgainUptoRow, standIns := [], harness := (true, "295cf253cb35b08af408a9d1bc8e488b6322fb19cbe32763996f0bb119f8852b"), looks := true }, kinds := [], alts := [], laidByText := true, laidKinds := [.data, .handle, .pinned], laidTests := true, laidLooks := .later }
def ObjAgainUptoCardSaid : Prop := Claim7.holds Tryz.pinned (.plain (OpenSpec.upto objAgainSpec)) objAgainUptoCard
end Rows
end Go.Proofs.YtpjgkboafmebbaaGreatDoor
