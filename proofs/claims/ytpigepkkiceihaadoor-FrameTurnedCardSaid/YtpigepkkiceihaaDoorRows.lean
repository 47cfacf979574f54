/-
  NARROWER THAN 'FOR EVERY INPUT', by the rows' own cells (each row's printed sentence says how): FrameSums: laid · FrameLays: laid · FrameReads: laid · FrameAll: laid · FrameBack: laid · FrameTurned: laid.
  DERIVED. THE GIVEN ROWS OF THIS SEAT. 6 by the template 'for every input the law returns true; each argument reads behind the call as it read before'; 0 by the template 'total and deterministic' (their statements: YtpigepkkiceihaaDoorTotals.lean).
  GIVEN WITH THE SEED: the statements are not yours to turn. If you find one false, say at which input.
  Laid BY PROGRAM, IN A SANDBOX (cutbox-rows.mjs): the forced cells as the released guide's own fill.sh prints them over the translation bc82204b490b4c9e… (all of the seat's roots in one cut). By AI agents, Wed Nov 11 2026. No macro, syntax, notation, axiom, sorry.
-/
import Derived.Test.YtpigepkkiceihaaDoorChecked
import GoSem.Claim
import GoSem.ClaimJoined
import GoSem.ClaimMapViews
import Derived.JoinedTies
import Derived.KernelRfl
namespace Go.Proofs.YtpigepkkiceihaaDoor
/- THE CELL 'sum', in the pinned program and in every row, IS THE sha256 OF THE DUMP (.gsa) THAT YtpigepkkiceihaaDoorProg.lean LOADS. Nothing in Lean hashes anything: it is a label: what it is worth is what the hold of that sum in a sandbox is worth. -/
noncomputable def Tryd.pinned : Pinned := { name := "ytpigepkkiceihaadoor", sum := "bc82204b490b4c9ef861007a11836243f3df695dc3c07ba005e3b996c2a08132", checked := Tryd.checked }
namespace Rows
def none {H : Type} : Left H := { results := [], args := [] }

/- WHAT THE LISTED PACKAGE-LEVEL VARIABLES READ AS WHEN THE CALL BEGINS. Each datum BY PROGRAM (the guide's laid-datum.mjs) off the statement by which the dump's own 'gosem.cut.vars' lays the variable. In a bare row this is a premise. The card (YtpigepkkiceihaaDoorCards.lean) ties it to the program's text. -/
def laid_hedgerow_frame_turns {H : Type} : DataW H := .agg [.lit (.int .u32 0), .lit (.int .u32 498536548), .lit (.int .u32 997073096), .lit (.int .u32 651767980), .lit (.int .u32 1994146192), .lit (.int .u32 1802195444), .lit (.int .u32 1303535960), .lit (.int .u32 1342533948), .lit (.int .u32 3988292384), .lit (.int .u32 4027552580), .lit (.int .u32 3604390888), .lit (.int .u32 3412177804), .lit (.int .u32 2607071920), .lit (.int .u32 2262029012), .lit (.int .u32 2685067896), .lit (.int .u32 3183342108)]

/-- 'hedgerowlaw05.FrameSums': WHATEVER THE INPUT: true; the input reads as it did. -/
def frameSumsSpec : ChangeSpec := { name := "frameSums", fn := fun _ => fun
  | [d] => { results := [.lit (.bool true)], args := [d] }
  | _ => none }
def frameSumsRow : OpenClaim := { program := "ytpigepkkiceihaadoor", sum := "bc82204b490b4c9ef861007a11836243f3df695dc3c07ba005e3b996c2a08132", func := "hedgerow/hedgerowlaw05.FrameSums", spec := "frameSums", inPlace := ["internal/abi.NoEscape"], named := ["hedgerow/frame.turns"], apart := false, laid := [("hedgerow/frame.turns", laid_hedgerow_frame_turns)] }
def FrameSumsSaid : Prop := frameSumsRow.holds Tryd.pinned (OpenSpec.ofChange frameSumsSpec)

/-- ITS FALSE NEIGHBOUR: 'it returns false'. Refute it at one input. -/
def frameSumsWrong : ChangeSpec := { name := "frameSums", fn := fun _ => fun
  | [d] => { results := [.lit (.bool false)], args := [d] }
  | _ => none }
def FrameSumsWrongFalsely : Prop := frameSumsRow.holds Tryd.pinned (OpenSpec.ofChange frameSumsWrong)

/-- 'hedgerowlaw05.FrameLays': WHATEVER THE INPUT: true; the input reads as it did. -/
def frameLaysSpec : ChangeSpec := { name := "frameLays", fn := fun _ => fun
  | [d] => { results := [.lit (.bool true)], args := [d] }
  | _ => none }
def frameLaysRow : OpenClaim := { program := "ytpigepkkiceihaadoor", sum := "bc82204b490b4c9ef861007a11836243f3df695dc3c07ba005e3b996c2a08132", func := "hedgerow/hedgerowlaw05.FrameLays", spec := "frameLays", inPlace := ["internal/abi.NoEscape"], recurses := true, named := ["hedgerow/frame.turns"], apart := false, laid := [("hedgerow/frame.turns", laid_hedgerow_frame_turns)] }
def FrameLaysSaid : Prop := frameLaysRow.holds Tryd.pinned (OpenSpec.ofChange frameLaysSpec)

/-- ITS FALSE NEIGHBOUR: 'it returns false'. Refute it at one input. -/
def frameLaysWrong : ChangeSpec := { name := "frameLays", fn := fun _ => fun
  | [d] => { results := [.lit (.bool false)], args := [d] }
  | _ => none }
def FrameLaysWrongFalsely : Prop := frameLaysRow.holds Tryd.pinned (OpenSpec.ofChange frameLaysWrong)

/-- 'hedgerowlaw05.FrameReads': WHATEVER THE INPUT: true; the input reads as it did. -/
def frameReadsSpec : ChangeSpec := { name := "frameReads", fn := fun _ => fun
  | [d1, d2] => { results := [.lit (.bool true)], args := [d1, d2] }
  | _ => none }
def frameReadsRow : OpenClaim := { program := "ytpigepkkiceihaadoor", sum := "bc82204b490b4c9ef861007a11836243f3df695dc3c07ba005e3b996c2a08132", func := "hedgerow/hedgerowlaw05.FrameReads", spec := "frameReads", inPlace := ["internal/abi.NoEscape"], recurses := true, named := ["hedgerow/frame.turns"], apart := false, laid := [("hedgerow/frame.turns", laid_hedgerow_frame_turns)] }
def FrameReadsSaid : Prop := frameReadsRow.holds Tryd.pinned (OpenSpec.ofChange frameReadsSpec)

/-- ITS FALSE NEIGHBOUR: 'it returns false'. Refute it at one input. -/
def frameReadsWrong : ChangeSpec := { name := "frameReads", fn := fun _ => fun
  | [d1, d2] => { results := [.lit (.bool false)], args := [d1, d2] }
  | _ => none }
def FrameReadsWrongFalsely : Prop := frameReadsRow.holds Tryd.pinned (OpenSpec.ofChange frameReadsWrong)

/-- 'hedgerowlaw05.FrameAll': WHATEVER THE INPUT: true; the input reads as it did. -/
def frameAllSpec : ChangeSpec := { name := "frameAll", fn := fun _ => fun
  | [d] => { results := [.lit (.bool true)], args := [d] }
  | _ => none }
def frameAllRow : OpenClaim := { program := "ytpigepkkiceihaadoor", sum := "bc82204b490b4c9ef861007a11836243f3df695dc3c07ba005e3b996c2a08132", func := "hedgerow/hedgerowlaw05.FrameAll", spec := "frameAll", inPlace := ["internal/abi.NoEscape"], recurses := true, named := ["hedgerow/frame.turns"], apart := false, laid := [("hedgerow/frame.turns", laid_hedgerow_frame_turns)] }
def FrameAllSaid : Prop := frameAllRow.holds Tryd.pinned (OpenSpec.ofChange frameAllSpec)

/-- ITS FALSE NEIGHBOUR: 'it returns false'. Refute it at one input. -/
def frameAllWrong : ChangeSpec := { name := "frameAll", fn := fun _ => fun
  | [d] => { results := [.lit (.bool false)], args := [d] }
  | _ => none }
def FrameAllWrongFalsely : Prop := frameAllRow.holds Tryd.pinned (OpenSpec.ofChange frameAllWrong)

/-- 'hedgerowlaw05.FrameBack': WHATEVER THE INPUT: true; the input reads as it did. -/
def frameBackSpec : ChangeSpec := { name := "frameBack", fn := fun _ => fun
  | [d1, d2] => { results := [.lit (.bool true)], args := [d1, d2] }
  | _ => none }
def frameBackRow : OpenClaim := { program := "ytpigepkkiceihaadoor", sum := "bc82204b490b4c9ef861007a11836243f3df695dc3c07ba005e3b996c2a08132", func := "hedgerow/hedgerowlaw05.FrameBack", spec := "frameBack", inPlace := ["internal/abi.NoEscape"], named := ["hedgerow/frame.turns"], apart := false, laid := [("hedgerow/frame.turns", laid_hedgerow_frame_turns)] }
def FrameBackSaid : Prop := frameBackRow.holds Tryd.pinned (OpenSpec.ofChange frameBackSpec)

/-- ITS FALSE NEIGHBOUR: 'it returns false'. Refute it at one input. -/
def frameBackWrong : ChangeSpec := { name := "frameBack", fn := fun _ => fun
  | [d1, d2] => { results := [.lit (.bool false)], args := [d1, d2] }
  | _ => none }
def FrameBackWrongFalsely : Prop := frameBackRow.holds Tryd.pinned (OpenSpec.ofChange frameBackWrong)

/-- 'hedgerowlaw05.FrameTurned': WHATEVER THE INPUT: true; the input reads as it did. -/
def frameTurnedSpec : ChangeSpec := { name := "frameTurned", fn := fun _ => fun
  | [d1, d2, d3] => { results := [.lit (.bool true)], args := [d1, d2, d3] }
  | _ => none }
def frameTurnedRow : OpenClaim := { program := "ytpigepkkiceihaadoor", sum := "bc82204b490b4c9ef861007a11836243f3df695dc3c07ba005e3b996c2a08132", func := "hedgerow/hedgerowlaw05.FrameTurned", spec := "frameTurned", inPlace := ["internal/abi.NoEscape"], named := ["hedgerow/frame.turns"], apart := false, laid := [("hedgerow/frame.turns", laid_hedgerow_frame_turns)] }
def FrameTurnedSaid : Prop := frameTurnedRow.holds Tryd.pinned (OpenSpec.ofChange frameTurnedSpec)

/-- ITS FALSE NEIGHBOUR: 'it returns false'. Refute it at one input. -/
def frameTurnedWrong : ChangeSpec := { name := "frameTurned", fn := fun _ => fun
  | [d1, d2, d3] => { results := [.lit (.bool false)], args := [d1, d2, d3] }
  | _ => none }
def FrameTurnedWrongFalsely : Prop := frameTurnedRow.holds Tryd.pinned (OpenSpec.ofChange frameTurnedWrong)

/- THE SECOND FORM. 'bulk': how many values and letters a reading holds, each counted each time it is reached (what is shared counts as often as it is met; a slice's spare places count too). A statement '..UptoSaid' is the law's where the arguments, and the package variables that the reading takes, are together of bulk at most 1048576: NARROWER than '..Said'. Prove '..Said' where nothing that the law and all that it calls make is longer than what came in: it says more and counts as full. Else prove '..UptoSaid'. A law counts once. -/
mutual
def uptoBulk {H : Type} : DataW H → Nat
  | .lit (.string bytes) => bytes.length + 1
  | .lit _ => 1
  | .nil => 1
  | .ptr d => uptoBulk d + 1
  | .slice elems spare => uptoBulkAll elems + uptoBulkAll spare + 1
  | .agg parts => uptoBulkAll parts + 1
  | .iface _ d => uptoBulk d + 1
  | .map entries => uptoBulkEntries entries + 1
  | .held _ => 1
def uptoBulkAll {H : Type} : List (DataW H) → Nat
  | [] => 0
  | d :: r => uptoBulk d + uptoBulkAll r
def uptoBulkEntries {H : Type} : List (Lit × DataW H) → Nat
  | [] => 0
  | x :: r => uptoBulkEntry x + uptoBulkEntries r
def uptoBulkEntry {H : Type} : Lit × DataW H → Nat
  | (.string bytes, d) => bytes.length + uptoBulk d + 1
  | (_, d) => uptoBulk d + 1
 end
def uptoSmall : (H : Type) → List (DataW H) → Bool := fun _ ds => decide (uptoBulkAll ds ≤ 1048576)
def OpenSpec.upto (s : _root_.Go.ChangeSpec) : _root_.Go.OpenSpec := { _root_.Go.OpenSpec.ofChange s with cond := some uptoSmall }

/-- 'hedgerowlaw05.FrameSums', WHERE WHAT IT READS IS OF BULK AT MOST 1048576: true; the input reads as it did. -/
def frameSumsUptoRow : OpenClaim := { program := "ytpigepkkiceihaadoor", sum := "bc82204b490b4c9ef861007a11836243f3df695dc3c07ba005e3b996c2a08132", func := "hedgerow/hedgerowlaw05.FrameSums", spec := "frameSums", inPlace := ["internal/abi.NoEscape"], named := ["hedgerow/frame.turns"], apart := false, laid := [("hedgerow/frame.turns", laid_hedgerow_frame_turns)], narrowed := true }
def FrameSumsUptoSaid : Prop := frameSumsUptoRow.holds Tryd.pinned (OpenSpec.upto frameSumsSpec)

/-- 'hedgerowlaw05.FrameLays', WHERE WHAT IT READS IS OF BULK AT MOST 1048576: true; the input reads as it did. -/
def frameLaysUptoRow : OpenClaim := { program := "ytpigepkkiceihaadoor", sum := "bc82204b490b4c9ef861007a11836243f3df695dc3c07ba005e3b996c2a08132", func := "hedgerow/hedgerowlaw05.FrameLays", spec := "frameLays", inPlace := ["internal/abi.NoEscape"], recurses := true, named := ["hedgerow/frame.turns"], apart := false, laid := [("hedgerow/frame.turns", laid_hedgerow_frame_turns)], narrowed := true }
def FrameLaysUptoSaid : Prop := frameLaysUptoRow.holds Tryd.pinned (OpenSpec.upto frameLaysSpec)

/-- 'hedgerowlaw05.FrameReads', WHERE WHAT IT READS IS OF BULK AT MOST 1048576: true; the input reads as it did. -/
def frameReadsUptoRow : OpenClaim := { program := "ytpigepkkiceihaadoor", sum := "bc82204b490b4c9ef861007a11836243f3df695dc3c07ba005e3b996c2a08132", func := "hedgerow/hedgerowlaw05.FrameReads", spec := "frameReads", inPlace := ["internal/abi.NoEscape"], recurses := true, named := ["hedgerow/frame.turns"], apart := false, laid := [("hedgerow/frame.turns", laid_hedgerow_frame_turns)], narrowed := true }
def FrameReadsUptoSaid : Prop := frameReadsUptoRow.holds Tryd.pinned (OpenSpec.upto frameReadsSpec)

/-- 'hedgerowlaw05.FrameAll', WHERE WHAT IT READS IS OF BULK AT MOST 1048576: true; the input reads as it did. -/
def frameAllUptoRow : OpenClaim := { program := "ytpigepkkiceihaadoor", sum := "bc82204b490b4c9ef861007a11836243f3df695dc3c07ba005e3b996c2a08132", func := "hedgerow/hedgerowlaw05.FrameAll", spec := "frameAll", inPlace := ["internal/abi.NoEscape"], recurses := true, named := ["hedgerow/frame.turns"], apart := false, laid := [("hedgerow/frame.turns", laid_hedgerow_frame_turns)], narrowed := true }
def FrameAllUptoSaid : Prop := frameAllUptoRow.holds Tryd.pinned (OpenSpec.upto frameAllSpec)

/-- 'hedgerowlaw05.FrameBack', WHERE WHAT IT READS IS OF BULK AT MOST 1048576: true; the input reads as it did. -/
def frameBackUptoRow : OpenClaim := { program := "ytpigepkkiceihaadoor", sum := "bc82204b490b4c9ef861007a11836243f3df695dc3c07ba005e3b996c2a08132", func := "hedgerow/hedgerowlaw05.FrameBack", spec := "frameBack", inPlace := ["internal/abi.NoEscape"], named := ["hedgerow/frame.turns"], apart := false, laid := [("hedgerow/frame.turns", laid_hedgerow_frame_turns)], narrowed := true }
def FrameBackUptoSaid : Prop := frameBackUptoRow.holds Tryd.pinned (OpenSpec.upto frameBackSpec)

/-- 'hedgerowlaw05.FrameTurned', WHERE WHAT IT READS IS OF BULK AT MOST 1048576: true; the input reads as it did. -/
def frameTurnedUptoRow : OpenClaim := { program := "ytpigepkkiceihaadoor", sum := "bc82204b490b4c9ef861007a11836243f3df695dc3c07ba005e3b996c2a08132", func := "hedgerow/hedgerowlaw05.FrameTurned", spec := "frameTurned", inPlace := ["internal/abi.NoEscape"], named := ["hedgerow/frame.turns"], apart := false, laid := [("hedgerow/frame.turns", laid_hedgerow_frame_turns)], narrowed := true }
def FrameTurnedUptoSaid : Prop := frameTurnedUptoRow.holds Tryd.pinned (OpenSpec.upto frameTurnedSpec)

end Rows
end Go.Proofs.YtpigepkkiceihaaDoor
