/-
  DERIVED. GIVEN WITH THE SEED: THE CARDS: each row of YtjjcdlbmpopfcaaDoorRows.lean that lists a variable, with what it lists TIED to the program's text (the seventh form; the later family's looks); each row that meets fmt, with fmt's text TOLD by the authors' own Lean function (tested against real Go, not proved from fmt's source: count such statements apart). THE CARD IS WHAT COUNTS. Prove the row's statement (the work); the ties are given (YtjjcdlbmpopfcaaDoorTie.lean); close each card by the builder's one call (the guide's Derived/Test/ToyasCard.lean, 'card_holds'). Laid BY PROGRAM, IN A SANDBOX (cutbox-door.mjs). By AI agents, Wed Nov 11 2026. No macro, syntax, notation, axiom, sorry.
-/
import Derived.Test.YtjjcdlbmpopfcaaDoorRows
import GoSem.ClaimSeven
namespace Go.Proofs.YtjjcdlbmpopfcaaDoor
namespace Rows

/-- THE TIED CARD OF 'palimpsestlaw07.KeyKinds'. -/
def keyKindsCard : Claim7 := { stood := { row := keyKindsRow, standIns := [], harness := (true, "2b91baaf723a3bfe69648b041b79118bd8c3d8b760a5ae313cb0e5ba2c042857"), looks := false }, kinds := [], alts := [], laidByText := true, laidKinds := [.data, .data, .data, .pinned], laidTests := true, laidLooks := .later }
def KeyKindsCardSaid : Prop := Claim7.holds Tryd.pinned (.plain (OpenSpec.ofChange keyKindsSpec)) keyKindsCard

/-- THE TIED CARD OF 'palimpsestlaw07.KeyMakes'. -/
def keyMakesCard : Claim7 := { stood := { row := keyMakesRow, standIns := [], harness := (true, "2b91baaf723a3bfe69648b041b79118bd8c3d8b760a5ae313cb0e5ba2c042857"), looks := false }, kinds := [], alts := [], laidByText := true, laidKinds := [.data, .data, .data, .pinned], laidTests := true, laidLooks := .later }
def KeyMakesCardSaid : Prop := Claim7.holds Tryd.pinned (.plain (OpenSpec.ofChange keyMakesSpec)) keyMakesCard

/-- THE TIED CARD OF 'palimpsestlaw07.KeySorts'. -/
def keySortsCard : Claim7 := { stood := { row := keySortsRow, standIns := [], harness := (true, "2b91baaf723a3bfe69648b041b79118bd8c3d8b760a5ae313cb0e5ba2c042857"), looks := false }, kinds := [], alts := [], laidByText := true, laidKinds := [.data, .data, .data, .pinned], laidTests := true, laidLooks := .later }
def KeySortsCardSaid : Prop := Claim7.holds Tryd.pinned (.plain (OpenSpec.ofChange keySortsSpec)) keySortsCard

/-- THE TIED CARD OF 'palimpsestlaw07.KeyBack'. -/
def keyBackCard : Claim7 := { stood := { row := keyBackRow, standIns := [], harness := (true, "2b91baaf723a3bfe69648b041b79118bd8c3d8b760a5ae313cb0e5ba2c042857"), looks := false }, kinds := [], alts := [], laidByText := true, laidKinds := [.data, .data, .data, .pinned], laidTests := true, laidLooks := .later }
def KeyBackCardSaid : Prop := Claim7.holds Tryd.pinned (.plain (OpenSpec.ofChange keyBackSpec)) keyBackCard

/-- THE TIED CARD OF 'palimpsestlaw07.KeySet'. -/
def keySetCard : Claim7 := { stood := { row := keySetRow, standIns := [], harness := (true, "2b91baaf723a3bfe69648b041b79118bd8c3d8b760a5ae313cb0e5ba2c042857"), looks := false }, kinds := [], alts := [], laidByText := true, laidKinds := [.data, .data, .data, .pinned], laidTests := true, laidLooks := .later }
def KeySetCardSaid : Prop := Claim7.holds Tryd.pinned (.plain (OpenSpec.ofChange keySetSpec)) keySetCard

/-- THE SECOND FORM's CARD OF 'palimpsestlaw07.KeyKinds'. -/
def keyKindsUptoCard : Claim7 := { stood := { row := keyKindsUptoRow, standIns := [], harness := (true, "2b91baaf723a3bfe69648b041b79118bd8c3d8b760a5ae313cb0e5ba2c042857"), looks := false }, kinds := [], alts := [], laidByText := true, laidKinds := [.data, .data, .data, .pinned], laidTests := true, laidLooks := .later }
def KeyKindsUptoCardSaid : Prop := Claim7.holds Tryd.pinned (.plain (OpenSpec.upto keyKindsSpec)) keyKindsUptoCard

/-- THE SECOND FORM's CARD OF 'palimpsestlaw07.KeyMakes'. -/
def keyMakesUptoCard : Claim7 := { stood := { row := keyMakesUptoRow, standIns := [], harness := (true, "2b91baaf723a3bfe69648b041b79118bd8c3d8b760a5ae313cb0e5ba2c042857"), looks := false }, kinds := [], alts := [], laidByText := true, laidKinds := [.data, .data, .data, .pinned], laidTests := true, laidLooks := .later }
def KeyMakesUptoCardSaid : Prop := Claim7.holds Tryd.pinned (.plain (OpenSpec.upto keyMakesSpec)) keyMakesUptoCard

/-- THE SECOND FORM's CARD OF 'palimpsestlaw07.KeySorts'. -/
def keySortsUptoCard : Claim7 := { stood := { row := keySortsUptoRow, standIns := [], harness := (true, "2b91baaf723a3bfe69648b041b79118bd8c3d8b760a5ae313cb0e5ba2c042857"), looks := false }, kinds := [], alts := [], laidByText := true, laidKinds := [.data, .data, .data, .pinned], laidTests := true, laidLooks := .later }
def KeySortsUptoCardSaid : Prop := Claim7.holds Tryd.pinned (.plain (OpenSpec.upto keySortsSpec)) keySortsUptoCard

/-- THE SECOND FORM's CARD OF 'palimpsestlaw07.KeyBack'. -/
def keyBackUptoCard : Claim7 := { stood := { row := keyBackUptoRow, standIns := [], harness := (true, "2b91baaf723a3bfe69648b041b79118bd8c3d8b760a5ae313cb0e5ba2c042857"), looks := false }, kinds := [], alts := [], laidByText := true, laidKinds := [.data, .data, .data, .pinned], laidTests := true, laidLooks := .later }
def KeyBackUptoCardSaid : Prop := Claim7.holds Tryd.pinned (.plain (OpenSpec.upto keyBackSpec)) keyBackUptoCard

/-- THE SECOND FORM's CARD OF 'palimpsestlaw07.KeySet'. -/
def keySetUptoCard : Claim7 := { stood := { row := keySetUptoRow, standIns := [], harness := (true, "2b91baaf723a3bfe69648b041b79118bd8c3d8b760a5ae313cb0e5ba2c042857"), looks := false }, kinds := [], alts := [], laidByText := true, laidKinds := [.data, .data, .data, .pinned], laidTests := true, laidLooks := .later }
def KeySetUptoCardSaid : Prop := Claim7.holds Tryd.pinned (.plain (OpenSpec.upto keySetSpec)) keySetUptoCard
end Rows
end Go.Proofs.YtjjcdlbmpopfcaaDoor
