/-
  DERIVED. GIVEN WITH THE SEED: THE CARDS: each row of YtekaboomhljdoaaGreatDoorRows.lean that lists a variable, with what it lists TIED to the program's text (the seventh form; the later family's looks); each row that meets fmt, with fmt's text TOLD by the authors' own Lean function (tested against real Go, not proved from fmt's source: count such statements apart). THE CARD IS WHAT COUNTS. Prove the row's statement (the work); the ties are given (YtekaboomhljdoaaGreatDoorTie.lean); close each card by the builder's one call (the guide's Derived/Test/ToyasCard.lean, 'card_holds'). Laid BY PROGRAM, IN A SANDBOX (cutbox-door.mjs). By AI agents, Wed Nov 11 2026. No macro, syntax, notation, axiom, sorry.
-/
import Derived.Test.YtekaboomhljdoaaGreatDoorRows
import GoSem.ClaimSeven
namespace Go.Proofs.YtekaboomhljdoaaGreatDoor
namespace Rows

/-- THE TIED CARD OF 'palimpsestlaw13.PackEnds'. -/
def packEndsCard : Claim7 := { stood := { row := packEndsRow, standIns := [], harness := (true, "19e8285c10d88c8933630961b56897d1fb6b45fd6eb96214a0142f657b75703a"), looks := true }, kinds := [], alts := [], laidByText := true, laidKinds := [.handle, .data, .data, .sentinel, .sentinel], laidTests := true, laidLooks := .later }
def PackEndsCardSaid : Prop := Claim7.holds Tryz.pinned (.plain (OpenSpec.ofChange packEndsSpec)) packEndsCard

/-- THE TIED CARD OF 'palimpsestlaw13.PackReads'. -/
def packReadsCard : Claim7 := { stood := { row := packReadsRow, standIns := [], harness := (true, "19e8285c10d88c8933630961b56897d1fb6b45fd6eb96214a0142f657b75703a"), looks := true }, kinds := [], alts := [], laidByText := true, laidKinds := [.handle, .data, .data, .sentinel, .sentinel], laidTests := true, laidLooks := .later }
def PackReadsCardSaid : Prop := Claim7.holds Tryz.pinned (.plain (OpenSpec.ofChange packReadsSpec)) packReadsCard

/-- THE TIED CARD OF 'palimpsestlaw13.PackAppends'. -/
def packAppendsCard : Claim7 := { stood := { row := packAppendsRow, standIns := [], harness := (true, "19e8285c10d88c8933630961b56897d1fb6b45fd6eb96214a0142f657b75703a"), looks := true }, kinds := [], alts := [], laidByText := true, laidKinds := [.handle, .data, .data, .sentinel, .sentinel], laidTests := true, laidLooks := .later }
def PackAppendsCardSaid : Prop := Claim7.holds Tryz.pinned (.plain (OpenSpec.ofChange packAppendsSpec)) packAppendsCard

/-- THE TIED CARD OF 'palimpsestlaw13.PackKeeps'. -/
def packKeepsCard : Claim7 := { stood := { row := packKeepsRow, standIns := [], harness := (true, "19e8285c10d88c8933630961b56897d1fb6b45fd6eb96214a0142f657b75703a"), looks := true }, kinds := [], alts := [], laidByText := true, laidKinds := [.handle, .data, .data, .sentinel, .sentinel], laidTests := true, laidLooks := .later }
def PackKeepsCardSaid : Prop := Claim7.holds Tryz.pinned (.plain (OpenSpec.ofChange packKeepsSpec)) packKeepsCard

/-- THE TIED CARD OF 'palimpsestlaw13.PackNobody'. -/
def packNobodyCard : Claim7 := { stood := { row := packNobodyRow, standIns := [], harness := (true, "19e8285c10d88c8933630961b56897d1fb6b45fd6eb96214a0142f657b75703a"), looks := true }, kinds := [], alts := [], laidByText := true, laidKinds := [.handle, .data, .data, .sentinel, .sentinel], laidTests := true, laidLooks := .later }
def PackNobodyCardSaid : Prop := Claim7.holds Tryz.pinned (.plain (OpenSpec.ofChange packNobodySpec)) packNobodyCard

/-- THE SECOND FORM's CARD OF 'palimpsestlaw13.PackEnds'. -/
def packEndsUptoCard : Claim7 := { stood := { row := packEndsUptoRow, standIns := [], harness := (true, "19e8285c10d88c8933630961b56897d1fb6b45fd6eb96214a0142f657b75703a"), looks := true }, kinds := [], alts := [], laidByText := true, laidKinds := [.handle, .data, .data, .sentinel, .sentinel], laidTests := true, laidLooks := .later }
def PackEndsUptoCardSaid : Prop := Claim7.holds Tryz.pinned (.plain (OpenSpec.upto packEndsSpec)) packEndsUptoCard

/-- THE SECOND FORM's CARD OF 'palimpsestlaw13.PackReads'. -/
def packReadsUptoCard : Claim7 := { stood := { row := packReadsUptoRow, standIns := [], harness := (true, "19e8285c10d88c8933630961b56897d1fb6b45fd6eb96214a0142f657b75703a"), looks := true }, kinds := [], alts := [], laidByText := true, laidKinds := [.handle, .data, .data, .sentinel, .sentinel], laidTests := true, laidLooks := .later }
def PackReadsUptoCardSaid : Prop := Claim7.holds Tryz.pinned (.plain (OpenSpec.upto packReadsSpec)) packReadsUptoCard

/-- THE SECOND FORM's CARD OF 'palimpsestlaw13.PackAppends'. -/
def packAppendsUptoCard : Claim7 := { stood := { row := packAppendsUptoRow, standIns := [], harness := (true, "19e8285c10d88c8933630961b56897d1fb6b45fd6eb96214a0142f657b75703a"), looks := true }, kinds := [], alts := [], laidByText := true, laidKinds := [.handle, .data, .data, .sentinel, .sentinel], laidTests := true, laidLooks := .later }
def PackAppendsUptoCardSaid : Prop := Claim7.holds Tryz.pinned (.plain (OpenSpec.upto packAppendsSpec)) packAppendsUptoCard

/-- THE SECOND FORM's CARD OF 'palimpsestlaw13.PackKeeps'. -/
def packKeepsUptoCard : Claim7 := { stood := { row := packKeepsUptoRow, standIns := [], harness := (true, "19e8285c10d88c8933630961b56897d1fb6b45fd6eb96214a0142f657b75703a"), looks := true }, kinds := [], alts := [], laidByText := true, laidKinds := [.handle, .data, .data, .sentinel, .sentinel], laidTests := true, laidLooks := .later }
def PackKeepsUptoCardSaid : Prop := Claim7.holds Tryz.pinned (.plain (OpenSpec.upto packKeepsSpec)) packKeepsUptoCard

/-- THE SECOND FORM's CARD OF 'palimpsestlaw13.PackNobody'. -/
def packNobodyUptoCard : Claim7 := { stood := { row := packNobodyUptoRow, standIns := [], harness := (true, "19e8285c10d88c8933630961b56897d1fb6b45fd6eb96214a0142f657b75703a"), looks := true }, kinds := [], alts := [], laidByText := true, laidKinds := [.handle, .data, .data, .sentinel, .sentinel], laidTests := true, laidLooks := .later }
def PackNobodyUptoCardSaid : Prop := Claim7.holds Tryz.pinned (.plain (OpenSpec.upto packNobodySpec)) packNobodyUptoCard
end Rows
end Go.Proofs.YtekaboomhljdoaaGreatDoor
