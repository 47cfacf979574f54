/-
  No cell of these rows narrows 'for every input' (looked for: loops, veiled, ifaces, maps, wideKeys, modest, calm, conditions, laid).
  DERIVED. THE GIVEN ROWS OF THIS SEAT. 8 by the template 'for every input the law returns true; each argument reads behind the call as it read before'; 0 by the template 'total and deterministic' (their statements: YtookmjdnmmfkfaaTotals.lean).
  GIVEN WITH THE SEED: the statements are not yours to turn. If you find one false, say at which input.
  Laid BY PROGRAM, IN A SANDBOX (cutbox-rows.mjs): the forced cells as the released guide's own fill.sh prints them over the translation fc4a3cd3bf196beb… (all of the seat's roots in one cut). By AI agents, Wed Nov 11 2026. No macro, syntax, notation, axiom, sorry.
-/
import Derived.Test.YtookmjdnmmfkfaaChecked
import GoSem.Claim
import GoSem.ClaimJoined
import GoSem.ClaimMapViews
import Derived.JoinedTies
import Derived.KernelRfl
namespace Go.Proofs.Ytookmjdnmmfkfaa
/- THE CELL 'sum', in the pinned program and in every row, IS THE sha256 OF THE DUMP (.gsa) THAT YtookmjdnmmfkfaaProg.lean LOADS. Nothing in Lean hashes anything: it is a label: what it is worth is what the hold of that sum in a sandbox is worth. -/
noncomputable def Try.pinned : Pinned := { name := "ytookmjdnmmfkfaa", sum := "fc4a3cd3bf196beb7890e2f8dde0ffd21b9fdfe2c886f0afab844982b3a19c02", checked := Try.checked }
namespace Rows
def none {H : Type} : Left H := { results := [], args := [] }

/-- 'hedgerowlaw09.PartsChecks': WHATEVER THE INPUT: true; the input reads as it did. -/
def partsChecksSpec : ChangeSpec := { name := "partsChecks", fn := fun _ => fun
  | [d] => { results := [.lit (.bool true)], args := [d] }
  | _ => none }
def partsChecksRow : OpenClaim := { program := "ytookmjdnmmfkfaa", sum := "fc4a3cd3bf196beb7890e2f8dde0ffd21b9fdfe2c886f0afab844982b3a19c02", func := "hedgerow/hedgerowlaw09.PartsChecks", spec := "partsChecks", apart := false }
def PartsChecksSaid : Prop := partsChecksRow.holds Try.pinned (OpenSpec.ofChange partsChecksSpec)

/-- ITS FALSE NEIGHBOUR: 'it returns false'. Refute it at one input. -/
def partsChecksWrong : ChangeSpec := { name := "partsChecks", fn := fun _ => fun
  | [d] => { results := [.lit (.bool false)], args := [d] }
  | _ => none }
def PartsChecksWrongFalsely : Prop := partsChecksRow.holds Try.pinned (OpenSpec.ofChange partsChecksWrong)

/-- 'hedgerowlaw09.PartsCmds': WHATEVER THE INPUT: true; the input reads as it did. -/
def partsCmdsSpec : ChangeSpec := { name := "partsCmds", fn := fun _ => fun
  | [d] => { results := [.lit (.bool true)], args := [d] }
  | _ => none }
def partsCmdsRow : OpenClaim := { program := "ytookmjdnmmfkfaa", sum := "fc4a3cd3bf196beb7890e2f8dde0ffd21b9fdfe2c886f0afab844982b3a19c02", func := "hedgerow/hedgerowlaw09.PartsCmds", spec := "partsCmds", apart := false }
def PartsCmdsSaid : Prop := partsCmdsRow.holds Try.pinned (OpenSpec.ofChange partsCmdsSpec)

/-- ITS FALSE NEIGHBOUR: 'it returns false'. Refute it at one input. -/
def partsCmdsWrong : ChangeSpec := { name := "partsCmds", fn := fun _ => fun
  | [d] => { results := [.lit (.bool false)], args := [d] }
  | _ => none }
def PartsCmdsWrongFalsely : Prop := partsCmdsRow.holds Try.pinned (OpenSpec.ofChange partsCmdsWrong)

/-- 'hedgerowlaw09.PartsPuts': WHATEVER THE INPUT: true; the input reads as it did. -/
def partsPutsSpec : ChangeSpec := { name := "partsPuts", fn := fun _ => fun
  | [d1, d2, d3] => { results := [.lit (.bool true)], args := [d1, d2, d3] }
  | _ => none }
def partsPutsRow : OpenClaim := { program := "ytookmjdnmmfkfaa", sum := "fc4a3cd3bf196beb7890e2f8dde0ffd21b9fdfe2c886f0afab844982b3a19c02", func := "hedgerow/hedgerowlaw09.PartsPuts", spec := "partsPuts", apart := false }
def PartsPutsSaid : Prop := partsPutsRow.holds Try.pinned (OpenSpec.ofChange partsPutsSpec)

/-- ITS FALSE NEIGHBOUR: 'it returns false'. Refute it at one input. -/
def partsPutsWrong : ChangeSpec := { name := "partsPuts", fn := fun _ => fun
  | [d1, d2, d3] => { results := [.lit (.bool false)], args := [d1, d2, d3] }
  | _ => none }
def PartsPutsWrongFalsely : Prop := partsPutsRow.holds Try.pinned (OpenSpec.ofChange partsPutsWrong)

/-- 'hedgerowlaw09.PartsOrders': WHATEVER THE INPUT: true; the input reads as it did. -/
def partsOrdersSpec : ChangeSpec := { name := "partsOrders", fn := fun _ => fun
  | [d1, d2, d3] => { results := [.lit (.bool true)], args := [d1, d2, d3] }
  | _ => none }
def partsOrdersRow : OpenClaim := { program := "ytookmjdnmmfkfaa", sum := "fc4a3cd3bf196beb7890e2f8dde0ffd21b9fdfe2c886f0afab844982b3a19c02", func := "hedgerow/hedgerowlaw09.PartsOrders", spec := "partsOrders", apart := false }
def PartsOrdersSaid : Prop := partsOrdersRow.holds Try.pinned (OpenSpec.ofChange partsOrdersSpec)

/-- ITS FALSE NEIGHBOUR: 'it returns false'. Refute it at one input. -/
def partsOrdersWrong : ChangeSpec := { name := "partsOrders", fn := fun _ => fun
  | [d1, d2, d3] => { results := [.lit (.bool false)], args := [d1, d2, d3] }
  | _ => none }
def PartsOrdersWrongFalsely : Prop := partsOrdersRow.holds Try.pinned (OpenSpec.ofChange partsOrdersWrong)

/-- 'hedgerowlaw09.PartsSorts': WHATEVER THE INPUT: true; the input reads as it did. -/
def partsSortsSpec : ChangeSpec := { name := "partsSorts", fn := fun _ => fun
  | [d1, d2] => { results := [.lit (.bool true)], args := [d1, d2] }
  | _ => none }
def partsSortsRow : OpenClaim := { program := "ytookmjdnmmfkfaa", sum := "fc4a3cd3bf196beb7890e2f8dde0ffd21b9fdfe2c886f0afab844982b3a19c02", func := "hedgerow/hedgerowlaw09.PartsSorts", spec := "partsSorts", unfollowed := true, recurses := true, apart := false }
def PartsSortsSaid : Prop := partsSortsRow.holds Try.pinned (OpenSpec.ofChange partsSortsSpec)

/-- ITS FALSE NEIGHBOUR: 'it returns false'. Refute it at one input. -/
def partsSortsWrong : ChangeSpec := { name := "partsSorts", fn := fun _ => fun
  | [d1, d2] => { results := [.lit (.bool false)], args := [d1, d2] }
  | _ => none }
def PartsSortsWrongFalsely : Prop := partsSortsRow.holds Try.pinned (OpenSpec.ofChange partsSortsWrong)

/-- 'hedgerowlaw09.PartsLeaves': WHATEVER THE INPUT: true; the input reads as it did. -/
def partsLeavesSpec : ChangeSpec := { name := "partsLeaves", fn := fun _ => fun
  | [d1, d2, d3] => { results := [.lit (.bool true)], args := [d1, d2, d3] }
  | _ => none }
def partsLeavesRow : OpenClaim := { program := "ytookmjdnmmfkfaa", sum := "fc4a3cd3bf196beb7890e2f8dde0ffd21b9fdfe2c886f0afab844982b3a19c02", func := "hedgerow/hedgerowlaw09.PartsLeaves", spec := "partsLeaves", apart := false }
def PartsLeavesSaid : Prop := partsLeavesRow.holds Try.pinned (OpenSpec.ofChange partsLeavesSpec)

/-- ITS FALSE NEIGHBOUR: 'it returns false'. Refute it at one input. -/
def partsLeavesWrong : ChangeSpec := { name := "partsLeaves", fn := fun _ => fun
  | [d1, d2, d3] => { results := [.lit (.bool false)], args := [d1, d2, d3] }
  | _ => none }
def PartsLeavesWrongFalsely : Prop := partsLeavesRow.holds Try.pinned (OpenSpec.ofChange partsLeavesWrong)

/-- 'hedgerowlaw09.PartsTogether': WHATEVER THE INPUT: true; the input reads as it did. -/
def partsTogetherSpec : ChangeSpec := { name := "partsTogether", fn := fun _ => fun
  | [d1, d2, d3] => { results := [.lit (.bool true)], args := [d1, d2, d3] }
  | _ => none }
def partsTogetherRow : OpenClaim := { program := "ytookmjdnmmfkfaa", sum := "fc4a3cd3bf196beb7890e2f8dde0ffd21b9fdfe2c886f0afab844982b3a19c02", func := "hedgerow/hedgerowlaw09.PartsTogether", spec := "partsTogether", apart := false }
def PartsTogetherSaid : Prop := partsTogetherRow.holds Try.pinned (OpenSpec.ofChange partsTogetherSpec)

/-- ITS FALSE NEIGHBOUR: 'it returns false'. Refute it at one input. -/
def partsTogetherWrong : ChangeSpec := { name := "partsTogether", fn := fun _ => fun
  | [d1, d2, d3] => { results := [.lit (.bool false)], args := [d1, d2, d3] }
  | _ => none }
def PartsTogetherWrongFalsely : Prop := partsTogetherRow.holds Try.pinned (OpenSpec.ofChange partsTogetherWrong)

/-- 'hedgerowlaw09.PartsBack': WHATEVER THE INPUT: true; the input reads as it did. -/
def partsBackSpec : ChangeSpec := { name := "partsBack", fn := fun _ => fun
  | [d1, d2] => { results := [.lit (.bool true)], args := [d1, d2] }
  | _ => none }
def partsBackRow : OpenClaim := { program := "ytookmjdnmmfkfaa", sum := "fc4a3cd3bf196beb7890e2f8dde0ffd21b9fdfe2c886f0afab844982b3a19c02", func := "hedgerow/hedgerowlaw09.PartsBack", spec := "partsBack", apart := false }
def PartsBackSaid : Prop := partsBackRow.holds Try.pinned (OpenSpec.ofChange partsBackSpec)

/-- ITS FALSE NEIGHBOUR: 'it returns false'. Refute it at one input. -/
def partsBackWrong : ChangeSpec := { name := "partsBack", fn := fun _ => fun
  | [d1, d2] => { results := [.lit (.bool false)], args := [d1, d2] }
  | _ => none }
def PartsBackWrongFalsely : Prop := partsBackRow.holds Try.pinned (OpenSpec.ofChange partsBackWrong)

/- THE SECOND FORM. 'bulk': how many values and letters a reading holds, each counted each time it is reached (what is shared counts as often as it is met; a slice's spare places count too). A statement '..UptoSaid' is the law's where the arguments, and the package variables that the reading takes, are together of bulk at most 1048576: NARROWER than '..Said'. Prove '..Said' where nothing that the law and all that it calls make is longer than what came in: it says more and counts as full. Else prove '..UptoSaid'. A law counts once. -/
mutual
def uptoBulk {H : Type} : DataW H → Nat
  | .lit (.string bytes) => bytes.length + 1
  | .lit _ => 1
  | .nil => 1
  | .ptr d => uptoBulk d + 1
  | .slice elems spare => uptoBulkAll elems + uptoBulkAll spare + 1
  | .agg parts => uptoBulkAll parts + 1
  | .iface _ d => uptoBulk d + 1
  | .map entries => uptoBulkEntries entries + 1
  | .held _ => 1
def uptoBulkAll {H : Type} : List (DataW H) → Nat
  | [] => 0
  | d :: r => uptoBulk d + uptoBulkAll r
def uptoBulkEntries {H : Type} : List (Lit × DataW H) → Nat
  | [] => 0
  | x :: r => uptoBulkEntry x + uptoBulkEntries r
def uptoBulkEntry {H : Type} : Lit × DataW H → Nat
  | (.string bytes, d) => bytes.length + uptoBulk d + 1
  | (_, d) => uptoBulk d + 1
 end
def uptoSmall : (H : Type) → List (DataW H) → Bool := fun _ ds => decide (uptoBulkAll ds ≤ 1048576)
def OpenSpec.upto (s : _root_.Go.ChangeSpec) : _root_.Go.OpenSpec := { _root_.Go.OpenSpec.ofChange s with cond := some uptoSmall }

/-- 'hedgerowlaw09.PartsChecks', WHERE WHAT IT READS IS OF BULK AT MOST 1048576: true; the input reads as it did. -/
def partsChecksUptoRow : OpenClaim := { program := "ytookmjdnmmfkfaa", sum := "fc4a3cd3bf196beb7890e2f8dde0ffd21b9fdfe2c886f0afab844982b3a19c02", func := "hedgerow/hedgerowlaw09.PartsChecks", spec := "partsChecks", apart := false, narrowed := true }
def PartsChecksUptoSaid : Prop := partsChecksUptoRow.holds Try.pinned (OpenSpec.upto partsChecksSpec)

/-- 'hedgerowlaw09.PartsCmds', WHERE WHAT IT READS IS OF BULK AT MOST 1048576: true; the input reads as it did. -/
def partsCmdsUptoRow : OpenClaim := { program := "ytookmjdnmmfkfaa", sum := "fc4a3cd3bf196beb7890e2f8dde0ffd21b9fdfe2c886f0afab844982b3a19c02", func := "hedgerow/hedgerowlaw09.PartsCmds", spec := "partsCmds", apart := false, narrowed := true }
def PartsCmdsUptoSaid : Prop := partsCmdsUptoRow.holds Try.pinned (OpenSpec.upto partsCmdsSpec)

/-- 'hedgerowlaw09.PartsPuts', WHERE WHAT IT READS IS OF BULK AT MOST 1048576: true; the input reads as it did. -/
def partsPutsUptoRow : OpenClaim := { program := "ytookmjdnmmfkfaa", sum := "fc4a3cd3bf196beb7890e2f8dde0ffd21b9fdfe2c886f0afab844982b3a19c02", func := "hedgerow/hedgerowlaw09.PartsPuts", spec := "partsPuts", apart := false, narrowed := true }
def PartsPutsUptoSaid : Prop := partsPutsUptoRow.holds Try.pinned (OpenSpec.upto partsPutsSpec)

/-- 'hedgerowlaw09.PartsOrders', WHERE WHAT IT READS IS OF BULK AT MOST 1048576: true; the input reads as it did. -/
def partsOrdersUptoRow : OpenClaim := { program := "ytookmjdnmmfkfaa", sum := "fc4a3cd3bf196beb7890e2f8dde0ffd21b9fdfe2c886f0afab844982b3a19c02", func := "hedgerow/hedgerowlaw09.PartsOrders", spec := "partsOrders", apart := false, narrowed := true }
def PartsOrdersUptoSaid : Prop := partsOrdersUptoRow.holds Try.pinned (OpenSpec.upto partsOrdersSpec)

/-- 'hedgerowlaw09.PartsSorts', WHERE WHAT IT READS IS OF BULK AT MOST 1048576: true; the input reads as it did. -/
def partsSortsUptoRow : OpenClaim := { program := "ytookmjdnmmfkfaa", sum := "fc4a3cd3bf196beb7890e2f8dde0ffd21b9fdfe2c886f0afab844982b3a19c02", func := "hedgerow/hedgerowlaw09.PartsSorts", spec := "partsSorts", unfollowed := true, recurses := true, apart := false, narrowed := true }
def PartsSortsUptoSaid : Prop := partsSortsUptoRow.holds Try.pinned (OpenSpec.upto partsSortsSpec)

/-- 'hedgerowlaw09.PartsLeaves', WHERE WHAT IT READS IS OF BULK AT MOST 1048576: true; the input reads as it did. -/
def partsLeavesUptoRow : OpenClaim := { program := "ytookmjdnmmfkfaa", sum := "fc4a3cd3bf196beb7890e2f8dde0ffd21b9fdfe2c886f0afab844982b3a19c02", func := "hedgerow/hedgerowlaw09.PartsLeaves", spec := "partsLeaves", apart := false, narrowed := true }
def PartsLeavesUptoSaid : Prop := partsLeavesUptoRow.holds Try.pinned (OpenSpec.upto partsLeavesSpec)

/-- 'hedgerowlaw09.PartsTogether', WHERE WHAT IT READS IS OF BULK AT MOST 1048576: true; the input reads as it did. -/
def partsTogetherUptoRow : OpenClaim := { program := "ytookmjdnmmfkfaa", sum := "fc4a3cd3bf196beb7890e2f8dde0ffd21b9fdfe2c886f0afab844982b3a19c02", func := "hedgerow/hedgerowlaw09.PartsTogether", spec := "partsTogether", apart := false, narrowed := true }
def PartsTogetherUptoSaid : Prop := partsTogetherUptoRow.holds Try.pinned (OpenSpec.upto partsTogetherSpec)

/-- 'hedgerowlaw09.PartsBack', WHERE WHAT IT READS IS OF BULK AT MOST 1048576: true; the input reads as it did. -/
def partsBackUptoRow : OpenClaim := { program := "ytookmjdnmmfkfaa", sum := "fc4a3cd3bf196beb7890e2f8dde0ffd21b9fdfe2c886f0afab844982b3a19c02", func := "hedgerow/hedgerowlaw09.PartsBack", spec := "partsBack", apart := false, narrowed := true }
def PartsBackUptoSaid : Prop := partsBackUptoRow.holds Try.pinned (OpenSpec.upto partsBackSpec)

end Rows
end Go.Proofs.Ytookmjdnmmfkfaa
