/-
  DERIVED. GIVEN WITH THE SEED: THE CARDS: each row of YtpcmminokhmkjaaDoorRows.lean that lists a variable, with what it lists TIED to the program's text (the seventh form; the later family's looks); each row that meets fmt, with fmt's text TOLD by the authors' own Lean function (tested against real Go, not proved from fmt's source: count such statements apart). THE CARD IS WHAT COUNTS. Prove the row's statement (the work); the ties are given (YtpcmminokhmkjaaDoorTie.lean); close each card by the builder's one call (the guide's Derived/Test/ToyasCard.lean, 'card_holds'). Laid BY PROGRAM, IN A SANDBOX (cutbox-door.mjs). By AI agents, Wed Nov 11 2026. No macro, syntax, notation, axiom, sorry.
-/
import Derived.Test.YtpcmminokhmkjaaDoorRows
import GoSem.ClaimSeven
namespace Go.Proofs.YtpcmminokhmkjaaDoor
namespace Rows

/-- THE TIED CARD OF 'palimpsestlaw14.IndexRuns'. -/
def indexRunsCard : Claim7 := { stood := { row := indexRunsRow, standIns := [], harness := (true, "0940ae2f0315139a994016cc412e50e82c635b5533465d8058dc5cb8f748e6fe"), looks := false }, kinds := [], alts := [], laidByText := true, laidKinds := [.data, .pinned], laidTests := true, laidLooks := .later }
def IndexRunsCardSaid : Prop := Claim7.holds Tryd.pinned (.plain (OpenSpec.ofChange indexRunsSpec)) indexRunsCard

/-- THE TIED CARD OF 'palimpsestlaw14.IndexMerges'. -/
def indexMergesCard : Claim7 := { stood := { row := indexMergesRow, standIns := [], harness := (true, "0940ae2f0315139a994016cc412e50e82c635b5533465d8058dc5cb8f748e6fe"), looks := false }, kinds := [], alts := [], laidByText := true, laidKinds := [.data, .pinned], laidTests := true, laidLooks := .later }
def IndexMergesCardSaid : Prop := Claim7.holds Tryd.pinned (.plain (OpenSpec.ofChange indexMergesSpec)) indexMergesCard

/-- THE SECOND FORM's CARD OF 'palimpsestlaw14.IndexRuns'. -/
def indexRunsUptoCard : Claim7 := { stood := { row := indexRunsUptoRow, standIns := [], harness := (true, "0940ae2f0315139a994016cc412e50e82c635b5533465d8058dc5cb8f748e6fe"), looks := false }, kinds := [], alts := [], laidByText := true, laidKinds := [.data, .pinned], laidTests := true, laidLooks := .later }
def IndexRunsUptoCardSaid : Prop := Claim7.holds Tryd.pinned (.plain (OpenSpec.upto indexRunsSpec)) indexRunsUptoCard

/-- THE SECOND FORM's CARD OF 'palimpsestlaw14.IndexMerges'. -/
def indexMergesUptoCard : Claim7 := { stood := { row := indexMergesUptoRow, standIns := [], harness := (true, "0940ae2f0315139a994016cc412e50e82c635b5533465d8058dc5cb8f748e6fe"), looks := false }, kinds := [], alts := [], laidByText := true, laidKinds := [.data, .pinned], laidTests := true, laidLooks := .later }
def IndexMergesUptoCardSaid : Prop := Claim7.holds Tryd.pinned (.plain (OpenSpec.upto indexMergesSpec)) indexMergesUptoCard
end Rows
end Go.Proofs.YtpcmminokhmkjaaDoor
