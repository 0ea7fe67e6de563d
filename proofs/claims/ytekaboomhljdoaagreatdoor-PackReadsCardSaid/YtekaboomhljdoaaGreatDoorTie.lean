/-
  DERIVED. GIVEN WITH THE SEED: THE PROGRAM's TIES (one call each: nine closed facts by the kernel) AND EACH ROW's TIE, after the 31st guide's Derived/Test/Toyas{Tie, Card}.lean. No idea stands in it: it is a product of the set-up. Laid BY PROGRAM, IN A SANDBOX (cutbox-door.mjs). By AI agents, Wed Nov 11 2026. No macro, syntax, notation, axiom, sorry.
-/
import Derived.Test.YtekaboomhljdoaaGreatDoorRows
import Derived.LaidByTextLater
import Derived.SevenTiedAt
import Derived.LaidSub
import Derived.LaidOnce
namespace Go.Proofs.YtekaboomhljdoaaGreatDoor
open Go
set_option maxRecDepth 100000
theorem seatTie1 : Tryz.prog.laidByTextLater [("errors.errorType", Rows.laid_errors_errorType), ("palimpsest/sha.start", Rows.laid_palimpsest_sha_start), ("palimpsest/sha.steps", Rows.laid_palimpsest_sha_steps), ("palimpsest/frame.errShort", Rows.laid_palimpsest_frame_errShort), ("palimpsest/frame.errFrame", Rows.laid_palimpsest_frame_errFrame)] [.handle, .data, .data, .sentinel, .sentinel] true :=
  Program.laidByTextLater_by_one 64 8 65 (by kernel_rfl) (by kernel_rfl) (by kernel_rfl) (by kernel_rfl) (by kernel_rfl) (by kernel_rfl) (fun _ _ => by kernel_rfl)
theorem noOwnUnsafe : Tryz.pinned.checked.prog.headLifts.contains "ownunsafe" = false := by kernel_rfl
theorem tie : Tryz.prog.laidByTextLater [("errors.errorType", Rows.laid_errors_errorType), ("palimpsest/sha.start", Rows.laid_palimpsest_sha_start), ("palimpsest/sha.steps", Rows.laid_palimpsest_sha_steps), ("palimpsest/frame.errShort", Rows.laid_palimpsest_frame_errShort), ("palimpsest/frame.errFrame", Rows.laid_palimpsest_frame_errFrame)] [.handle, .data, .data, .sentinel, .sentinel] true :=
  Program.laidByTextLater.sub seatTie1 ["errors.errorType", "palimpsest/sha.start", "palimpsest/sha.steps", "palimpsest/frame.errShort", "palimpsest/frame.errFrame"] (by kernel_rfl) (by kernel_rfl)
theorem packEnds_row_tie : Rows.packEndsRow.laidByTextAt .later Tryz.pinned [.handle, .data, .data, .sentinel, .sentinel] true :=
  OpenClaim.laidByTextAt_later rfl rfl tie noOwnUnsafe
theorem packReads_row_tie : Rows.packReadsRow.laidByTextAt .later Tryz.pinned [.handle, .data, .data, .sentinel, .sentinel] true :=
  OpenClaim.laidByTextAt_later rfl rfl tie noOwnUnsafe
theorem packAppends_row_tie : Rows.packAppendsRow.laidByTextAt .later Tryz.pinned [.handle, .data, .data, .sentinel, .sentinel] true :=
  OpenClaim.laidByTextAt_later rfl rfl tie noOwnUnsafe
theorem packKeeps_row_tie : Rows.packKeepsRow.laidByTextAt .later Tryz.pinned [.handle, .data, .data, .sentinel, .sentinel] true :=
  OpenClaim.laidByTextAt_later rfl rfl tie noOwnUnsafe
theorem packNobody_row_tie : Rows.packNobodyRow.laidByTextAt .later Tryz.pinned [.handle, .data, .data, .sentinel, .sentinel] true :=
  OpenClaim.laidByTextAt_later rfl rfl tie noOwnUnsafe
theorem packEndsUpto_row_tie : Rows.packEndsUptoRow.laidByTextAt .later Tryz.pinned [.handle, .data, .data, .sentinel, .sentinel] true :=
  OpenClaim.laidByTextAt_later rfl rfl tie noOwnUnsafe
theorem packReadsUpto_row_tie : Rows.packReadsUptoRow.laidByTextAt .later Tryz.pinned [.handle, .data, .data, .sentinel, .sentinel] true :=
  OpenClaim.laidByTextAt_later rfl rfl tie noOwnUnsafe
theorem packAppendsUpto_row_tie : Rows.packAppendsUptoRow.laidByTextAt .later Tryz.pinned [.handle, .data, .data, .sentinel, .sentinel] true :=
  OpenClaim.laidByTextAt_later rfl rfl tie noOwnUnsafe
theorem packKeepsUpto_row_tie : Rows.packKeepsUptoRow.laidByTextAt .later Tryz.pinned [.handle, .data, .data, .sentinel, .sentinel] true :=
  OpenClaim.laidByTextAt_later rfl rfl tie noOwnUnsafe
theorem packNobodyUpto_row_tie : Rows.packNobodyUptoRow.laidByTextAt .later Tryz.pinned [.handle, .data, .data, .sentinel, .sentinel] true :=
  OpenClaim.laidByTextAt_later rfl rfl tie noOwnUnsafe
end Go.Proofs.YtekaboomhljdoaaGreatDoor
