/-
  The contracts of the document's own reader's key, and of num and key as bytes. Conditions: each law's own.
-/
import Derived.Test.YtcgbaiogbcodcaaGreatDoorRc
import Derived.Test.YtcgbaiogbcodcaaGreatDoorRk
namespace Go.Proofs.YtcgbaiogbcodcaaGreatDoor.Sh
open Go.RowKit Go.Lib Lb

set_option maxRecDepth 100000 in
theorem slice_head (ao : Option Addr) (len c n : Nat) (hn : n ≤ c) (W : World) :
    (Instr.slice 33 (.slice ao len c) none (some (.int .i64 (n : Int))) none).run Tryz.prog W = .ok (.slice ao n c) W := slice_to ao len c n hn W
end Go.Proofs.YtcgbaiogbcodcaaGreatDoor.Sh
