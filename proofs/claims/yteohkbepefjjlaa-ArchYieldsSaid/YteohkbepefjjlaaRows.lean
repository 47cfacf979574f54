/-
  No cell of these rows narrows 'for every input' (looked for: loops, veiled, ifaces, maps, wideKeys, modest, calm, conditions, laid).
  DERIVED. THE GIVEN ROWS OF THIS SEAT. 8 by the template 'for every input the law returns true; each argument reads behind the call as it read before'; 0 by the template 'total and deterministic' (their statements: YteohkbepefjjlaaTotals.lean).
  GIVEN WITH THE SEED: the statements are not yours to turn. If you find one false, say at which input.
  Laid BY PROGRAM, IN A SANDBOX (cutbox-rows.mjs): the forced cells as the released guide's own fill.sh prints them over the translation ff08d57ab9e9147a… (all of the seat's roots in one cut). By AI agents, Wed Nov 11 2026. No macro, syntax, notation, axiom, sorry.
-/
import Derived.Test.YteohkbepefjjlaaChecked
import GoSem.Claim
import GoSem.ClaimJoined
import GoSem.ClaimMapViews
import Derived.JoinedTies
import Derived.KernelRfl
namespace Go.Proofs.Yteohkbepefjjlaa
/- THE CELL 'sum', in the pinned program and in every row, IS THE sha256 OF THE DUMP (.gsa) THAT YteohkbepefjjlaaProg.lean LOADS. Nothing in Lean hashes anything: it is a label: what it is worth is what the hold of that sum in a sandbox is worth. -/
noncomputable def Try.pinned : Pinned := { name := "yteohkbepefjjlaa", sum := "ff08d57ab9e9147a61c32dcfc94d688d4fec5f23f52c680af5522aed719eb6b8", checked := Try.checked }
namespace Rows
def none {H : Type} : Left H := { results := [], args := [] }

/-- 'hedgerowlaw11.ArchPlays': WHATEVER THE INPUT: true; the input reads as it did. -/
def archPlaysSpec : ChangeSpec := { name := "archPlays", fn := fun _ => fun
  | [d] => { results := [.lit (.bool true)], args := [d] }
  | _ => none }
def archPlaysRow : OpenClaim := { program := "yteohkbepefjjlaa", sum := "ff08d57ab9e9147a61c32dcfc94d688d4fec5f23f52c680af5522aed719eb6b8", func := "hedgerow/hedgerowlaw11.ArchPlays", spec := "archPlays", unfollowed := true, recurses := true, plainKeys := false, apart := false }
def ArchPlaysSaid : Prop := archPlaysRow.holds Try.pinned (OpenSpec.ofChange archPlaysSpec)

/-- ITS FALSE NEIGHBOUR: 'it returns false'. Refute it at one input. -/
def archPlaysWrong : ChangeSpec := { name := "archPlays", fn := fun _ => fun
  | [d] => { results := [.lit (.bool false)], args := [d] }
  | _ => none }
def ArchPlaysWrongFalsely : Prop := archPlaysRow.holds Try.pinned (OpenSpec.ofChange archPlaysWrong)

/-- 'hedgerowlaw11.ArchTables': WHATEVER THE INPUT: true; the input reads as it did. -/
def archTablesSpec : ChangeSpec := { name := "archTables", fn := fun _ => fun
  | [d] => { results := [.lit (.bool true)], args := [d] }
  | _ => none }
def archTablesRow : OpenClaim := { program := "yteohkbepefjjlaa", sum := "ff08d57ab9e9147a61c32dcfc94d688d4fec5f23f52c680af5522aed719eb6b8", func := "hedgerow/hedgerowlaw11.ArchTables", spec := "archTables", plainKeys := false, apart := false }
def ArchTablesSaid : Prop := archTablesRow.holds Try.pinned (OpenSpec.ofChange archTablesSpec)

/-- ITS FALSE NEIGHBOUR: 'it returns false'. Refute it at one input. -/
def archTablesWrong : ChangeSpec := { name := "archTables", fn := fun _ => fun
  | [d] => { results := [.lit (.bool false)], args := [d] }
  | _ => none }
def ArchTablesWrongFalsely : Prop := archTablesRow.holds Try.pinned (OpenSpec.ofChange archTablesWrong)

/-- 'hedgerowlaw11.ArchSwaps': WHATEVER THE INPUT: true; the input reads as it did. -/
def archSwapsSpec : ChangeSpec := { name := "archSwaps", fn := fun _ => fun
  | [d1, d2] => { results := [.lit (.bool true)], args := [d1, d2] }
  | _ => none }
def archSwapsRow : OpenClaim := { program := "yteohkbepefjjlaa", sum := "ff08d57ab9e9147a61c32dcfc94d688d4fec5f23f52c680af5522aed719eb6b8", func := "hedgerow/hedgerowlaw11.ArchSwaps", spec := "archSwaps", unfollowed := true, recurses := true, plainKeys := false, apart := false }
def ArchSwapsSaid : Prop := archSwapsRow.holds Try.pinned (OpenSpec.ofChange archSwapsSpec)

/-- ITS FALSE NEIGHBOUR: 'it returns false'. Refute it at one input. -/
def archSwapsWrong : ChangeSpec := { name := "archSwaps", fn := fun _ => fun
  | [d1, d2] => { results := [.lit (.bool false)], args := [d1, d2] }
  | _ => none }
def ArchSwapsWrongFalsely : Prop := archSwapsRow.holds Try.pinned (OpenSpec.ofChange archSwapsWrong)

/-- 'hedgerowlaw11.ArchWrites': WHATEVER THE INPUT: true; the input reads as it did. -/
def archWritesSpec : ChangeSpec := { name := "archWrites", fn := fun _ => fun
  | [d1, d2] => { results := [.lit (.bool true)], args := [d1, d2] }
  | _ => none }
def archWritesRow : OpenClaim := { program := "yteohkbepefjjlaa", sum := "ff08d57ab9e9147a61c32dcfc94d688d4fec5f23f52c680af5522aed719eb6b8", func := "hedgerow/hedgerowlaw11.ArchWrites", spec := "archWrites", unfollowed := true, recurses := true, plainKeys := false, apart := false }
def ArchWritesSaid : Prop := archWritesRow.holds Try.pinned (OpenSpec.ofChange archWritesSpec)

/-- ITS FALSE NEIGHBOUR: 'it returns false'. Refute it at one input. -/
def archWritesWrong : ChangeSpec := { name := "archWrites", fn := fun _ => fun
  | [d1, d2] => { results := [.lit (.bool false)], args := [d1, d2] }
  | _ => none }
def ArchWritesWrongFalsely : Prop := archWritesRow.holds Try.pinned (OpenSpec.ofChange archWritesWrong)

/-- 'hedgerowlaw11.ArchYields': WHATEVER THE INPUT: true; the input reads as it did. -/
def archYieldsSpec : ChangeSpec := { name := "archYields", fn := fun _ => fun
  | [d1, d2] => { results := [.lit (.bool true)], args := [d1, d2] }
  | _ => none }
def archYieldsRow : OpenClaim := { program := "yteohkbepefjjlaa", sum := "ff08d57ab9e9147a61c32dcfc94d688d4fec5f23f52c680af5522aed719eb6b8", func := "hedgerow/hedgerowlaw11.ArchYields", spec := "archYields", unfollowed := true, recurses := true, plainKeys := false, apart := false }
def ArchYieldsSaid : Prop := archYieldsRow.holds Try.pinned (OpenSpec.ofChange archYieldsSpec)

/-- ITS FALSE NEIGHBOUR: 'it returns false'. Refute it at one input. -/
def archYieldsWrong : ChangeSpec := { name := "archYields", fn := fun _ => fun
  | [d1, d2] => { results := [.lit (.bool false)], args := [d1, d2] }
  | _ => none }
def ArchYieldsWrongFalsely : Prop := archYieldsRow.holds Try.pinned (OpenSpec.ofChange archYieldsWrong)

/-- 'hedgerowlaw11.ArchCopies': WHATEVER THE INPUT: true; the input reads as it did. -/
def archCopiesSpec : ChangeSpec := { name := "archCopies", fn := fun _ => fun
  | [d1, d2] => { results := [.lit (.bool true)], args := [d1, d2] }
  | _ => none }
def archCopiesRow : OpenClaim := { program := "yteohkbepefjjlaa", sum := "ff08d57ab9e9147a61c32dcfc94d688d4fec5f23f52c680af5522aed719eb6b8", func := "hedgerow/hedgerowlaw11.ArchCopies", spec := "archCopies", unfollowed := true, recurses := true, plainKeys := false, apart := false }
def ArchCopiesSaid : Prop := archCopiesRow.holds Try.pinned (OpenSpec.ofChange archCopiesSpec)

/-- ITS FALSE NEIGHBOUR: 'it returns false'. Refute it at one input. -/
def archCopiesWrong : ChangeSpec := { name := "archCopies", fn := fun _ => fun
  | [d1, d2] => { results := [.lit (.bool false)], args := [d1, d2] }
  | _ => none }
def ArchCopiesWrongFalsely : Prop := archCopiesRow.holds Try.pinned (OpenSpec.ofChange archCopiesWrong)

/-- 'hedgerowlaw11.ArchOrder': WHATEVER THE INPUT: true; the input reads as it did. -/
def archOrderSpec : ChangeSpec := { name := "archOrder", fn := fun _ => fun
  | [d] => { results := [.lit (.bool true)], args := [d] }
  | _ => none }
def archOrderRow : OpenClaim := { program := "yteohkbepefjjlaa", sum := "ff08d57ab9e9147a61c32dcfc94d688d4fec5f23f52c680af5522aed719eb6b8", func := "hedgerow/hedgerowlaw11.ArchOrder", spec := "archOrder", plainKeys := false, apart := false }
def ArchOrderSaid : Prop := archOrderRow.holds Try.pinned (OpenSpec.ofChange archOrderSpec)

/-- ITS FALSE NEIGHBOUR: 'it returns false'. Refute it at one input. -/
def archOrderWrong : ChangeSpec := { name := "archOrder", fn := fun _ => fun
  | [d] => { results := [.lit (.bool false)], args := [d] }
  | _ => none }
def ArchOrderWrongFalsely : Prop := archOrderRow.holds Try.pinned (OpenSpec.ofChange archOrderWrong)

/-- 'hedgerowlaw11.ArchNone': WHATEVER THE INPUT: true; the input reads as it did. -/
def archNoneSpec : ChangeSpec := { name := "archNone", fn := fun _ => fun
  | [d] => { results := [.lit (.bool true)], args := [d] }
  | _ => none }
def archNoneRow : OpenClaim := { program := "yteohkbepefjjlaa", sum := "ff08d57ab9e9147a61c32dcfc94d688d4fec5f23f52c680af5522aed719eb6b8", func := "hedgerow/hedgerowlaw11.ArchNone", spec := "archNone", unfollowed := true, recurses := true, plainKeys := false, apart := false }
def ArchNoneSaid : Prop := archNoneRow.holds Try.pinned (OpenSpec.ofChange archNoneSpec)

/-- ITS FALSE NEIGHBOUR: 'it returns false'. Refute it at one input. -/
def archNoneWrong : ChangeSpec := { name := "archNone", fn := fun _ => fun
  | [d] => { results := [.lit (.bool false)], args := [d] }
  | _ => none }
def ArchNoneWrongFalsely : Prop := archNoneRow.holds Try.pinned (OpenSpec.ofChange archNoneWrong)

/- THE SECOND FORM. 'bulk': how many values and letters a reading holds, each counted each time it is reached (what is shared counts as often as it is met; a slice's spare places count too). A statement '..UptoSaid' is the law's where the arguments, and the package variables that the reading takes, are together of bulk at most 1048576: NARROWER than '..Said'. Prove '..Said' where nothing that the law and all that it calls make is longer than what came in: it says more and counts as full. Else prove '..UptoSaid'. A law counts once. -/
mutual
def uptoBulk {H : Type} : DataW H → Nat
  | .lit (.string bytes) => bytes.length + 1
  | .lit _ => 1
  | .nil => 1
  | .ptr d => uptoBulk d + 1
  | .slice elems spare => uptoBulkAll elems + uptoBulkAll spare + 1
  | .agg parts => uptoBulkAll parts + 1
  | .iface _ d => uptoBulk d + 1
  | .map entries => uptoBulkEntries entries + 1
  | .held _ => 1
def uptoBulkAll {H : Type} : List (DataW H) → Nat
  | [] => 0
  | d :: r => uptoBulk d + uptoBulkAll r
def uptoBulkEntries {H : Type} : List (Lit × DataW H) → Nat
  | [] => 0
  | x :: r => uptoBulkEntry x + uptoBulkEntries r
def uptoBulkEntry {H : Type} : Lit × DataW H → Nat
  | (.string bytes, d) => bytes.length + uptoBulk d + 1
  | (_, d) => uptoBulk d + 1
 end
def uptoSmall : (H : Type) → List (DataW H) → Bool := fun _ ds => decide (uptoBulkAll ds ≤ 1048576)
def OpenSpec.upto (s : _root_.Go.ChangeSpec) : _root_.Go.OpenSpec := { _root_.Go.OpenSpec.ofChange s with cond := some uptoSmall }

/-- 'hedgerowlaw11.ArchPlays', WHERE WHAT IT READS IS OF BULK AT MOST 1048576: true; the input reads as it did. -/
def archPlaysUptoRow : OpenClaim := { program := "yteohkbepefjjlaa", sum := "ff08d57ab9e9147a61c32dcfc94d688d4fec5f23f52c680af5522aed719eb6b8", func := "hedgerow/hedgerowlaw11.ArchPlays", spec := "archPlays", unfollowed := true, recurses := true, plainKeys := false, apart := false, narrowed := true }
def ArchPlaysUptoSaid : Prop := archPlaysUptoRow.holds Try.pinned (OpenSpec.upto archPlaysSpec)

/-- 'hedgerowlaw11.ArchTables', WHERE WHAT IT READS IS OF BULK AT MOST 1048576: true; the input reads as it did. -/
def archTablesUptoRow : OpenClaim := { program := "yteohkbepefjjlaa", sum := "ff08d57ab9e9147a61c32dcfc94d688d4fec5f23f52c680af5522aed719eb6b8", func := "hedgerow/hedgerowlaw11.ArchTables", spec := "archTables", plainKeys := false, apart := false, narrowed := true }
def ArchTablesUptoSaid : Prop := archTablesUptoRow.holds Try.pinned (OpenSpec.upto archTablesSpec)

/-- 'hedgerowlaw11.ArchSwaps', WHERE WHAT IT READS IS OF BULK AT MOST 1048576: true; the input reads as it did. -/
def archSwapsUptoRow : OpenClaim := { program := "yteohkbepefjjlaa", sum := "ff08d57ab9e9147a61c32dcfc94d688d4fec5f23f52c680af5522aed719eb6b8", func := "hedgerow/hedgerowlaw11.ArchSwaps", spec := "archSwaps", unfollowed := true, recurses := true, plainKeys := false, apart := false, narrowed := true }
def ArchSwapsUptoSaid : Prop := archSwapsUptoRow.holds Try.pinned (OpenSpec.upto archSwapsSpec)

/-- 'hedgerowlaw11.ArchWrites', WHERE WHAT IT READS IS OF BULK AT MOST 1048576: true; the input reads as it did. -/
def archWritesUptoRow : OpenClaim := { program := "yteohkbepefjjlaa", sum := "ff08d57ab9e9147a61c32dcfc94d688d4fec5f23f52c680af5522aed719eb6b8", func := "hedgerow/hedgerowlaw11.ArchWrites", spec := "archWrites", unfollowed := true, recurses := true, plainKeys := false, apart := false, narrowed := true }
def ArchWritesUptoSaid : Prop := archWritesUptoRow.holds Try.pinned (OpenSpec.upto archWritesSpec)

/-- 'hedgerowlaw11.ArchYields', WHERE WHAT IT READS IS OF BULK AT MOST 1048576: true; the input reads as it did. -/
def archYieldsUptoRow : OpenClaim := { program := "yteohkbepefjjlaa", sum := "ff08d57ab9e9147a61c32dcfc94d688d4fec5f23f52c680af5522aed719eb6b8", func := "hedgerow/hedgerowlaw11.ArchYields", spec := "archYields", unfollowed := true, recurses := true, plainKeys := false, apart := false, narrowed := true }
def ArchYieldsUptoSaid : Prop := archYieldsUptoRow.holds Try.pinned (OpenSpec.upto archYieldsSpec)

/-- 'hedgerowlaw11.ArchCopies', WHERE WHAT IT READS IS OF BULK AT MOST 1048576: true; the input reads as it did. -/
def archCopiesUptoRow : OpenClaim := { program := "yteohkbepefjjlaa", sum := "ff08d57ab9e9147a61c32dcfc94d688d4fec5f23f52c680af5522aed719eb6b8", func := "hedgerow/hedgerowlaw11.ArchCopies", spec := "archCopies", unfollowed := true, recurses := true, plainKeys := false, apart := false, narrowed := true }
def ArchCopiesUptoSaid : Prop := archCopiesUptoRow.holds Try.pinned (OpenSpec.upto archCopiesSpec)

/-- 'hedgerowlaw11.ArchOrder', WHERE WHAT IT READS IS OF BULK AT MOST 1048576: true; the input reads as it did. -/
def archOrderUptoRow : OpenClaim := { program := "yteohkbepefjjlaa", sum := "ff08d57ab9e9147a61c32dcfc94d688d4fec5f23f52c680af5522aed719eb6b8", func := "hedgerow/hedgerowlaw11.ArchOrder", spec := "archOrder", plainKeys := false, apart := false, narrowed := true }
def ArchOrderUptoSaid : Prop := archOrderUptoRow.holds Try.pinned (OpenSpec.upto archOrderSpec)

/-- 'hedgerowlaw11.ArchNone', WHERE WHAT IT READS IS OF BULK AT MOST 1048576: true; the input reads as it did. -/
def archNoneUptoRow : OpenClaim := { program := "yteohkbepefjjlaa", sum := "ff08d57ab9e9147a61c32dcfc94d688d4fec5f23f52c680af5522aed719eb6b8", func := "hedgerow/hedgerowlaw11.ArchNone", spec := "archNone", unfollowed := true, recurses := true, plainKeys := false, apart := false, narrowed := true }
def ArchNoneUptoSaid : Prop := archNoneUptoRow.holds Try.pinned (OpenSpec.upto archNoneSpec)

end Rows
end Go.Proofs.Yteohkbepefjjlaa
