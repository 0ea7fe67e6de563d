/-
  NARROWER THAN 'FOR EVERY INPUT', by the rows' own cells (each row's printed sentence says how): PackEnds: laid · PackReads: laid · PackAppends: laid · PackKeeps: laid · PackNobody: laid.
  DERIVED. THE GIVEN ROWS OF THIS SEAT. 5 by the template 'for every input the law returns true; each argument reads behind the call as it read before'; 0 by the template 'total and deterministic' (their statements: YtekaboomhljdoaaGreatDoorTotals.lean).
  GIVEN WITH THE SEED: the statements are not yours to turn. If you find one false, say at which input.
  Laid BY PROGRAM, IN A SANDBOX (cutbox-rows.mjs): the forced cells as the released guide's own fill.sh prints them over the translation 3b28d9bce56209a9… (all of the seat's roots in one cut). By AI agents, Wed Nov 11 2026. No macro, syntax, notation, axiom, sorry.
-/
import Derived.Test.YtekaboomhljdoaaGreatDoorChecked
import GoSem.Claim
import GoSem.ClaimJoined
import GoSem.ClaimMapViews
import Derived.JoinedTies
import Derived.KernelRfl
namespace Go.Proofs.YtekaboomhljdoaaGreatDoor
/- THE CELL 'sum', in the pinned program and in every row, IS THE sha256 OF THE DUMP (.gsa) THAT YtekaboomhljdoaaGreatDoorProg.lean LOADS. Nothing in Lean hashes anything: it is a label: what it is worth is what the hold of that sum in a sandbox is worth. -/
noncomputable def Tryz.pinned : Pinned := { name := "ytekaboomhljdoaagreatdoor", sum := "3b28d9bce56209a9bbf3b7e800bdc46e5fef8dd9169e27c0d2f4c3f1b8cc8fb3", checked := Tryz.checked }
namespace Rows
def none {H : Type} : Left H := { results := [], args := [] }

/- WHAT THE LISTED PACKAGE-LEVEL VARIABLES READ AS WHEN THE CALL BEGINS. Each datum BY PROGRAM (the guide's laid-datum.mjs) off the statement by which the dump's own 'gosem.cut.vars' lays the variable. In a bare row this is a premise. The card (YtekaboomhljdoaaGreatDoorCards.lean) ties it to the program's text. -/
def laid_errors_errorType {H : Type} : DataW H := .iface "internal/reflectlite.rtype" (.agg [.ptr (.lit (.string [101, 114, 114, 111, 114]))])
def laid_palimpsest_sha_start {H : Type} : DataW H := .agg [.lit (.int .u32 1779033703), .lit (.int .u32 3144134277), .lit (.int .u32 1013904242), .lit (.int .u32 2773480762), .lit (.int .u32 1359893119), .lit (.int .u32 2600822924), .lit (.int .u32 528734635), .lit (.int .u32 1541459225)]
def laid_palimpsest_sha_steps {H : Type} : DataW H := .agg [.lit (.int .u32 1116352408), .lit (.int .u32 1899447441), .lit (.int .u32 3049323471), .lit (.int .u32 3921009573), .lit (.int .u32 961987163), .lit (.int .u32 1508970993), .lit (.int .u32 2453635748), .lit (.int .u32 2870763221), .lit (.int .u32 3624381080), .lit (.int .u32 310598401), .lit (.int .u32 607225278), .lit (.int .u32 1426881987), .lit (.int .u32 1925078388), .lit (.int .u32 2162078206), .lit (.int .u32 2614888103), .lit (.int .u32 3248222580), .lit (.int .u32 3835390401), .lit (.int .u32 4022224774), .lit (.int .u32 264347078), .lit (.int .u32 604807628), .lit (.int .u32 770255983), .lit (.int .u32 1249150122), .lit (.int .u32 1555081692), .lit (.int .u32 1996064986), .lit (.int .u32 2554220882), .lit (.int .u32 2821834349), .lit (.int .u32 2952996808), .lit (.int .u32 3210313671), .lit (.int .u32 3336571891), .lit (.int .u32 3584528711), .lit (.int .u32 113926993), .lit (.int .u32 338241895), .lit (.int .u32 666307205), .lit (.int .u32 773529912), .lit (.int .u32 1294757372), .lit (.int .u32 1396182291), .lit (.int .u32 1695183700), .lit (.int .u32 1986661051), .lit (.int .u32 2177026350), .lit (.int .u32 2456956037), .lit (.int .u32 2730485921), .lit (.int .u32 2820302411), .lit (.int .u32 3259730800), .lit (.int .u32 3345764771), .lit (.int .u32 3516065817), .lit (.int .u32 3600352804), .lit (.int .u32 4094571909), .lit (.int .u32 275423344), .lit (.int .u32 430227734), .lit (.int .u32 506948616), .lit (.int .u32 659060556), .lit (.int .u32 883997877), .lit (.int .u32 958139571), .lit (.int .u32 1322822218), .lit (.int .u32 1537002063), .lit (.int .u32 1747873779), .lit (.int .u32 1955562222), .lit (.int .u32 2024104815), .lit (.int .u32 2227730452), .lit (.int .u32 2361852424), .lit (.int .u32 2428436474), .lit (.int .u32 2756734187), .lit (.int .u32 3204031479), .lit (.int .u32 3329325298)]
def laid_palimpsest_frame_errShort {H : Type} : DataW H := .iface "*errors.errorString" (.ptr (.agg [.lit (.string [116, 104, 101, 32, 98, 121, 116, 101, 115, 32, 101, 110, 100, 32, 116, 111, 111, 32, 115, 111, 111, 110])]))
def laid_palimpsest_frame_errFrame {H : Type} : DataW H := .iface "*errors.errorString" (.ptr (.agg [.lit (.string [116, 104, 97, 116, 32, 109, 97, 121, 32, 110, 111, 116, 32, 98, 101])]))

/-- 'palimpsestlaw13.PackEnds': WHATEVER THE INPUT: true; the input reads as it did. -/
def packEndsSpec : ChangeSpec := { name := "packEnds", fn := fun _ => fun
  | [d1, d2] => { results := [.lit (.bool true)], args := [d1, d2] }
  | _ => none }
def packEndsRow : OpenClaim := { program := "ytekaboomhljdoaagreatdoor", sum := "3b28d9bce56209a9bbf3b7e800bdc46e5fef8dd9169e27c0d2f4c3f1b8cc8fb3", func := "palimpsest/palimpsestlaw13.PackEnds", spec := "packEnds", inPlace := ["internal/reflectlite.ValueOf", "(internal/reflectlite.Value).Type", "(internal/reflectlite.Value).IsNil", "internal/reflectlite.TypeOf", "(internal/reflectlite.Value).Elem", "(internal/reflectlite.Value).Set"], unfollowed := true, recurses := true, named := ["palimpsest/frame.errFrame", "palimpsest/frame.errShort", "errors.errorType", "palimpsest/sha.start", "palimpsest/sha.steps"], apart := false, laid := [("errors.errorType", laid_errors_errorType), ("palimpsest/sha.start", laid_palimpsest_sha_start), ("palimpsest/sha.steps", laid_palimpsest_sha_steps), ("palimpsest/frame.errShort", laid_palimpsest_frame_errShort), ("palimpsest/frame.errFrame", laid_palimpsest_frame_errFrame)] }
def PackEndsSaid : Prop := packEndsRow.holds Tryz.pinned (OpenSpec.ofChange packEndsSpec)

/-- ITS FALSE NEIGHBOUR: 'it returns false'. Refute it at one input. -/
def packEndsWrong : ChangeSpec := { name := "packEnds", fn := fun _ => fun
  | [d1, d2] => { results := [.lit (.bool false)], args := [d1, d2] }
  | _ => none }
def PackEndsWrongFalsely : Prop := packEndsRow.holds Tryz.pinned (OpenSpec.ofChange packEndsWrong)

/-- 'palimpsestlaw13.PackReads': WHATEVER THE INPUT: true; the input reads as it did. -/
def packReadsSpec : ChangeSpec := { name := "packReads", fn := fun _ => fun
  | [d1, d2] => { results := [.lit (.bool true)], args := [d1, d2] }
  | _ => none }
def packReadsRow : OpenClaim := { program := "ytekaboomhljdoaagreatdoor", sum := "3b28d9bce56209a9bbf3b7e800bdc46e5fef8dd9169e27c0d2f4c3f1b8cc8fb3", func := "palimpsest/palimpsestlaw13.PackReads", spec := "packReads", inPlace := ["internal/reflectlite.ValueOf", "(internal/reflectlite.Value).Type", "(internal/reflectlite.Value).IsNil", "internal/reflectlite.TypeOf", "(internal/reflectlite.Value).Elem", "(internal/reflectlite.Value).Set"], unfollowed := true, recurses := true, named := ["palimpsest/frame.errFrame", "palimpsest/frame.errShort", "errors.errorType", "palimpsest/sha.start", "palimpsest/sha.steps"], apart := false, laid := [("errors.errorType", laid_errors_errorType), ("palimpsest/sha.start", laid_palimpsest_sha_start), ("palimpsest/sha.steps", laid_palimpsest_sha_steps), ("palimpsest/frame.errShort", laid_palimpsest_frame_errShort), ("palimpsest/frame.errFrame", laid_palimpsest_frame_errFrame)] }
def PackReadsSaid : Prop := packReadsRow.holds Tryz.pinned (OpenSpec.ofChange packReadsSpec)

/-- ITS FALSE NEIGHBOUR: 'it returns false'. Refute it at one input. -/
def packReadsWrong : ChangeSpec := { name := "packReads", fn := fun _ => fun
  | [d1, d2] => { results := [.lit (.bool false)], args := [d1, d2] }
  | _ => none }
def PackReadsWrongFalsely : Prop := packReadsRow.holds Tryz.pinned (OpenSpec.ofChange packReadsWrong)

/-- 'palimpsestlaw13.PackAppends': WHATEVER THE INPUT: true; the input reads as it did. -/
def packAppendsSpec : ChangeSpec := { name := "packAppends", fn := fun _ => fun
  | [d1, d2, d3] => { results := [.lit (.bool true)], args := [d1, d2, d3] }
  | _ => none }
def packAppendsRow : OpenClaim := { program := "ytekaboomhljdoaagreatdoor", sum := "3b28d9bce56209a9bbf3b7e800bdc46e5fef8dd9169e27c0d2f4c3f1b8cc8fb3", func := "palimpsest/palimpsestlaw13.PackAppends", spec := "packAppends", inPlace := ["internal/reflectlite.ValueOf", "(internal/reflectlite.Value).Type", "(internal/reflectlite.Value).IsNil", "internal/reflectlite.TypeOf", "(internal/reflectlite.Value).Elem", "(internal/reflectlite.Value).Set"], unfollowed := true, recurses := true, named := ["palimpsest/frame.errFrame", "palimpsest/frame.errShort", "errors.errorType", "palimpsest/sha.start", "palimpsest/sha.steps"], apart := false, laid := [("errors.errorType", laid_errors_errorType), ("palimpsest/sha.start", laid_palimpsest_sha_start), ("palimpsest/sha.steps", laid_palimpsest_sha_steps), ("palimpsest/frame.errShort", laid_palimpsest_frame_errShort), ("palimpsest/frame.errFrame", laid_palimpsest_frame_errFrame)] }
def PackAppendsSaid : Prop := packAppendsRow.holds Tryz.pinned (OpenSpec.ofChange packAppendsSpec)

/-- ITS FALSE NEIGHBOUR: 'it returns false'. Refute it at one input. -/
def packAppendsWrong : ChangeSpec := { name := "packAppends", fn := fun _ => fun
  | [d1, d2, d3] => { results := [.lit (.bool false)], args := [d1, d2, d3] }
  | _ => none }
def PackAppendsWrongFalsely : Prop := packAppendsRow.holds Tryz.pinned (OpenSpec.ofChange packAppendsWrong)

/-- 'palimpsestlaw13.PackKeeps': WHATEVER THE INPUT: true; the input reads as it did. -/
def packKeepsSpec : ChangeSpec := { name := "packKeeps", fn := fun _ => fun
  | [d1, d2, d3, d4] => { results := [.lit (.bool true)], args := [d1, d2, d3, d4] }
  | _ => none }
def packKeepsRow : OpenClaim := { program := "ytekaboomhljdoaagreatdoor", sum := "3b28d9bce56209a9bbf3b7e800bdc46e5fef8dd9169e27c0d2f4c3f1b8cc8fb3", func := "palimpsest/palimpsestlaw13.PackKeeps", spec := "packKeeps", inPlace := ["internal/reflectlite.ValueOf", "(internal/reflectlite.Value).Type", "(internal/reflectlite.Value).IsNil", "internal/reflectlite.TypeOf", "(internal/reflectlite.Value).Elem", "(internal/reflectlite.Value).Set"], unfollowed := true, recurses := true, named := ["palimpsest/frame.errFrame", "palimpsest/frame.errShort", "errors.errorType", "palimpsest/sha.start", "palimpsest/sha.steps"], apart := false, laid := [("errors.errorType", laid_errors_errorType), ("palimpsest/sha.start", laid_palimpsest_sha_start), ("palimpsest/sha.steps", laid_palimpsest_sha_steps), ("palimpsest/frame.errShort", laid_palimpsest_frame_errShort), ("palimpsest/frame.errFrame", laid_palimpsest_frame_errFrame)] }
def PackKeepsSaid : Prop := packKeepsRow.holds Tryz.pinned (OpenSpec.ofChange packKeepsSpec)

/-- ITS FALSE NEIGHBOUR: 'it returns false'. Refute it at one input. -/
def packKeepsWrong : ChangeSpec := { name := "packKeeps", fn := fun _ => fun
  | [d1, d2, d3, d4] => { results := [.lit (.bool false)], args := [d1, d2, d3, d4] }
  | _ => none }
def PackKeepsWrongFalsely : Prop := packKeepsRow.holds Tryz.pinned (OpenSpec.ofChange packKeepsWrong)

/-- 'palimpsestlaw13.PackNobody': WHATEVER THE INPUT: true; the input reads as it did. -/
def packNobodySpec : ChangeSpec := { name := "packNobody", fn := fun _ => fun
  | [d1, d2] => { results := [.lit (.bool true)], args := [d1, d2] }
  | _ => none }
def packNobodyRow : OpenClaim := { program := "ytekaboomhljdoaagreatdoor", sum := "3b28d9bce56209a9bbf3b7e800bdc46e5fef8dd9169e27c0d2f4c3f1b8cc8fb3", func := "palimpsest/palimpsestlaw13.PackNobody", spec := "packNobody", inPlace := ["internal/reflectlite.ValueOf", "(internal/reflectlite.Value).Type", "(internal/reflectlite.Value).IsNil", "internal/reflectlite.TypeOf", "(internal/reflectlite.Value).Elem", "(internal/reflectlite.Value).Set"], unfollowed := true, recurses := true, named := ["palimpsest/frame.errFrame", "palimpsest/frame.errShort", "errors.errorType", "palimpsest/sha.start", "palimpsest/sha.steps"], apart := false, laid := [("errors.errorType", laid_errors_errorType), ("palimpsest/sha.start", laid_palimpsest_sha_start), ("palimpsest/sha.steps", laid_palimpsest_sha_steps), ("palimpsest/frame.errShort", laid_palimpsest_frame_errShort), ("palimpsest/frame.errFrame", laid_palimpsest_frame_errFrame)] }
def PackNobodySaid : Prop := packNobodyRow.holds Tryz.pinned (OpenSpec.ofChange packNobodySpec)

/-- ITS FALSE NEIGHBOUR: 'it returns false'. Refute it at one input. -/
def packNobodyWrong : ChangeSpec := { name := "packNobody", fn := fun _ => fun
  | [d1, d2] => { results := [.lit (.bool false)], args := [d1, d2] }
  | _ => none }
def PackNobodyWrongFalsely : Prop := packNobodyRow.holds Tryz.pinned (OpenSpec.ofChange packNobodyWrong)

/- THE SECOND FORM. 'bulk': how many values and letters a reading holds, each counted each time it is reached (what is shared counts as often as it is met; a slice's spare places count too). A statement '..UptoSaid' is the law's where the arguments, and the package variables that the reading takes, are together of bulk at most 1048576: NARROWER than '..Said'. Prove '..Said' where nothing that the law and all that it calls make is longer than what came in: it says more and counts as full. Else prove '..UptoSaid'. A law counts once. -/
mutual
def uptoBulk {H : Type} : DataW H → Nat
  | .lit (.string bytes) => bytes.length + 1
  | .lit _ => 1
  | .nil => 1
  | .ptr d => uptoBulk d + 1
  | .slice elems spare => uptoBulkAll elems + uptoBulkAll spare + 1
  | .agg parts => uptoBulkAll parts + 1
  | .iface _ d => uptoBulk d + 1
  | .map entries => uptoBulkEntries entries + 1
  | .held _ => 1
def uptoBulkAll {H : Type} : List (DataW H) → Nat
  | [] => 0
  | d :: r => uptoBulk d + uptoBulkAll r
def uptoBulkEntries {H : Type} : List (Lit × DataW H) → Nat
  | [] => 0
  | x :: r => uptoBulkEntry x + uptoBulkEntries r
def uptoBulkEntry {H : Type} : Lit × DataW H → Nat
  | (.string bytes, d) => bytes.length + uptoBulk d + 1
  | (_, d) => uptoBulk d + 1
 end
def uptoSmall : (H : Type) → List (DataW H) → Bool := fun _ ds => decide (uptoBulkAll ds ≤ 1048576)
def OpenSpec.upto (s : _root_.Go.ChangeSpec) : _root_.Go.OpenSpec := { _root_.Go.OpenSpec.ofChange s with cond := some uptoSmall }

/-- 'palimpsestlaw13.PackEnds', WHERE WHAT IT READS IS OF BULK AT MOST 1048576: true; the input reads as it did. -/
def packEndsUptoRow : OpenClaim := { program := "ytekaboomhljdoaagreatdoor", sum := "3b28d9bce56209a9bbf3b7e800bdc46e5fef8dd9169e27c0d2f4c3f1b8cc8fb3", func := "palimpsest/palimpsestlaw13.PackEnds", spec := "packEnds", inPlace := ["internal/reflectlite.ValueOf", "(internal/reflectlite.Value).Type", "(internal/reflectlite.Value).IsNil", "internal/reflectlite.TypeOf", "(internal/reflectlite.Value).Elem", "(internal/reflectlite.Value).Set"], unfollowed := true, recurses := true, named := ["palimpsest/frame.errFrame", "palimpsest/frame.errShort", "errors.errorType", "palimpsest/sha.start", "palimpsest/sha.steps"], apart := false, laid := [("errors.errorType", laid_errors_errorType), ("palimpsest/sha.start", laid_palimpsest_sha_start), ("palimpsest/sha.steps", laid_palimpsest_sha_steps), ("palimpsest/frame.errShort", laid_palimpsest_frame_errShort), ("palimpsest/frame.errFrame", laid_palimpsest_frame_errFrame)], narrowed := true }
def PackEndsUptoSaid : Prop := packEndsUptoRow.holds Tryz.pinned (OpenSpec.upto packEndsSpec)

/-- 'palimpsestlaw13.PackReads', WHERE WHAT IT READS IS OF BULK AT MOST 1048576: true; the input reads as it did. -/
def packReadsUptoRow : OpenClaim := { program := "ytekaboomhljdoaagreatdoor", sum := "3b28d9bce56209a9bbf3b7e800bdc46e5fef8dd9169e27c0d2f4c3f1b8cc8fb3", func := "palimpsest/palimpsestlaw13.PackReads", spec := "packReads", inPlace := ["internal/reflectlite.ValueOf", "(internal/reflectlite.Value).Type", "(internal/reflectlite.Value).IsNil", "internal/reflectlite.TypeOf", "(internal/reflectlite.Value).Elem", "(internal/reflectlite.Value).Set"], unfollowed := true, recurses := true, named := ["palimpsest/frame.errFrame", "palimpsest/frame.errShort", "errors.errorType", "palimpsest/sha.start", "palimpsest/sha.steps"], apart := false, laid := [("errors.errorType", laid_errors_errorType), ("palimpsest/sha.start", laid_palimpsest_sha_start), ("palimpsest/sha.steps", laid_palimpsest_sha_steps), ("palimpsest/frame.errShort", laid_palimpsest_frame_errShort), ("palimpsest/frame.errFrame", laid_palimpsest_frame_errFrame)], narrowed := true }
def PackReadsUptoSaid : Prop := packReadsUptoRow.holds Tryz.pinned (OpenSpec.upto packReadsSpec)

/-- 'palimpsestlaw13.PackAppends', WHERE WHAT IT READS IS OF BULK AT MOST 1048576: true; the input reads as it did. -/
def packAppendsUptoRow : OpenClaim := { program := "ytekaboomhljdoaagreatdoor", sum := "3b28d9bce56209a9bbf3b7e800bdc46e5fef8dd9169e27c0d2f4c3f1b8cc8fb3", func := "palimpsest/palimpsestlaw13.PackAppends", spec := "packAppends", inPlace := ["internal/reflectlite.ValueOf", "(internal/reflectlite.Value).Type", "(internal/reflectlite.Value).IsNil", "internal/reflectlite.TypeOf", "(internal/reflectlite.Value).Elem", "(internal/reflectlite.Value).Set"], unfollowed := true, recurses := true, named := ["palimpsest/frame.errFrame", "palimpsest/frame.errShort", "errors.errorType", "palimpsest/sha.start", "palimpsest/sha.steps"], apart := false, laid := [("errors.errorType", laid_errors_errorType), ("palimpsest/sha.start", laid_palimpsest_sha_start), ("palimpsest/sha.steps", laid_palimpsest_sha_steps), ("palimpsest/frame.errShort", laid_palimpsest_frame_errShort), ("palimpsest/frame.errFrame", laid_palimpsest_frame_errFrame)], narrowed := true }
def PackAppendsUptoSaid : Prop := packAppendsUptoRow.holds Tryz.pinned (OpenSpec.upto packAppendsSpec)

/-- 'palimpsestlaw13.PackKeeps', WHERE WHAT IT READS IS OF BULK AT MOST 1048576: true; the input reads as it did. -/
def packKeepsUptoRow : OpenClaim := { program := "ytekaboomhljdoaagreatdoor", sum := "3b28d9bce56209a9bbf3b7e800bdc46e5fef8dd9169e27c0d2f4c3f1b8cc8fb3", func := "palimpsest/palimpsestlaw13.PackKeeps", spec := "packKeeps", inPlace := ["internal/reflectlite.ValueOf", "(internal/reflectlite.Value).Type", "(internal/reflectlite.Value).IsNil", "internal/reflectlite.TypeOf", "(internal/reflectlite.Value).Elem", "(internal/reflectlite.Value).Set"], unfollowed := true, recurses := true, named := ["palimpsest/frame.errFrame", "palimpsest/frame.errShort", "errors.errorType", "palimpsest/sha.start", "palimpsest/sha.steps"], apart := false, laid := [("errors.errorType", laid_errors_errorType), ("palimpsest/sha.start", laid_palimpsest_sha_start), ("palimpsest/sha.steps", laid_palimpsest_sha_steps), ("palimpsest/frame.errShort", laid_palimpsest_frame_errShort), ("palimpsest/frame.errFrame", laid_palimpsest_frame_errFrame)], narrowed := true }
def PackKeepsUptoSaid : Prop := packKeepsUptoRow.holds Tryz.pinned (OpenSpec.upto packKeepsSpec)

/-- 'palimpsestlaw13.PackNobody', WHERE WHAT IT READS IS OF BULK AT MOST 1048576: true; the input reads as it did. -/
def packNobodyUptoRow : OpenClaim := { program := "ytekaboomhljdoaagreatdoor", sum := "3b28d9bce56209a9bbf3b7e800bdc46e5fef8dd9169e27c0d2f4c3f1b8cc8fb3", func := "palimpsest/palimpsestlaw13.PackNobody", spec := "packNobody", inPlace := ["internal/reflectlite.ValueOf", "(internal/reflectlite.Value).Type", "(internal/reflectlite.Value).IsNil", "internal/reflectlite.TypeOf", "(internal/reflectlite.Value).Elem", "(internal/reflectlite.Value).Set"], unfollowed := true, recurses := true, named := ["palimpsest/frame.errFrame", "palimpsest/frame.errShort", "errors.errorType", "palimpsest/sha.start", "palimpsest/sha.steps"], apart := false, laid := [("errors.errorType", laid_errors_errorType), ("palimpsest/sha.start", laid_palimpsest_sha_start), ("palimpsest/sha.steps", laid_palimpsest_sha_steps), ("palimpsest/frame.errShort", laid_palimpsest_frame_errShort), ("palimpsest/frame.errFrame", laid_palimpsest_frame_errFrame)], narrowed := true }
def PackNobodyUptoSaid : Prop := packNobodyUptoRow.holds Tryz.pinned (OpenSpec.upto packNobodySpec)

end Rows
end Go.Proofs.YtekaboomhljdoaaGreatDoor
