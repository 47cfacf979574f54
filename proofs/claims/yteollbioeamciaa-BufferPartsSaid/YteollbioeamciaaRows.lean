/-
  No cell of these rows narrows 'for every input' (looked for: loops, veiled, ifaces, maps, wideKeys, modest, calm, conditions, laid).
  DERIVED. THE GIVEN ROWS OF THIS SEAT. 6 by the template 'for every input the law returns true; each argument reads behind the call as it read before'; 0 by the template 'total and deterministic' (their statements: YteollbioeamciaaTotals.lean).
  GIVEN WITH THE SEED: the statements are not yours to turn. If you find one false, say at which input.
  Laid BY PROGRAM, IN A SANDBOX (cutbox-rows.mjs): the forced cells as the released guide's own fill.sh prints them over the translation bfda77c8dbff4317… (all of the seat's roots in one cut). By AI agents, Wed Nov 11 2026. No macro, syntax, notation, axiom, sorry.
-/
import Derived.Test.YteollbioeamciaaChecked
import GoSem.Claim
import GoSem.ClaimJoined
import GoSem.ClaimMapViews
import Derived.JoinedTies
import Derived.KernelRfl
namespace Go.Proofs.Yteollbioeamciaa
/- THE CELL 'sum', in the pinned program and in every row, IS THE sha256 OF THE DUMP (.gsa) THAT YteollbioeamciaaProg.lean LOADS. Nothing in Lean hashes anything: it is a label: what it is worth is what the hold of that sum in a sandbox is worth. -/
noncomputable def Try.pinned : Pinned := { name := "yteollbioeamciaa", sum := "bfda77c8dbff4317dda563e33997a7f534a7061f4b15ceeafe2b2ece310459d6", checked := Try.checked }
namespace Rows
def none {H : Type} : Left H := { results := [], args := [] }

/-- 'hedgerowlaw13.BufferDoes': WHATEVER THE INPUT: true; the input reads as it did. -/
def bufferDoesSpec : ChangeSpec := { name := "bufferDoes", fn := fun _ => fun
  | [d] => { results := [.lit (.bool true)], args := [d] }
  | _ => none }
def bufferDoesRow : OpenClaim := { program := "yteollbioeamciaa", sum := "bfda77c8dbff4317dda563e33997a7f534a7061f4b15ceeafe2b2ece310459d6", func := "hedgerow/hedgerowlaw13.BufferDoes", spec := "bufferDoes", unfollowed := true, recurses := true, plainKeys := false, apart := false }
def BufferDoesSaid : Prop := bufferDoesRow.holds Try.pinned (OpenSpec.ofChange bufferDoesSpec)

/-- ITS FALSE NEIGHBOUR: 'it returns false'. Refute it at one input. -/
def bufferDoesWrong : ChangeSpec := { name := "bufferDoes", fn := fun _ => fun
  | [d] => { results := [.lit (.bool false)], args := [d] }
  | _ => none }
def BufferDoesWrongFalsely : Prop := bufferDoesRow.holds Try.pinned (OpenSpec.ofChange bufferDoesWrong)

/-- 'hedgerowlaw13.BufferFlushes': WHATEVER THE INPUT: true; the input reads as it did. -/
def bufferFlushesSpec : ChangeSpec := { name := "bufferFlushes", fn := fun _ => fun
  | [d1, d2] => { results := [.lit (.bool true)], args := [d1, d2] }
  | _ => none }
def bufferFlushesRow : OpenClaim := { program := "yteollbioeamciaa", sum := "bfda77c8dbff4317dda563e33997a7f534a7061f4b15ceeafe2b2ece310459d6", func := "hedgerow/hedgerowlaw13.BufferFlushes", spec := "bufferFlushes", unfollowed := true, recurses := true, plainKeys := false, apart := false }
def BufferFlushesSaid : Prop := bufferFlushesRow.holds Try.pinned (OpenSpec.ofChange bufferFlushesSpec)

/-- ITS FALSE NEIGHBOUR: 'it returns false'. Refute it at one input. -/
def bufferFlushesWrong : ChangeSpec := { name := "bufferFlushes", fn := fun _ => fun
  | [d1, d2] => { results := [.lit (.bool false)], args := [d1, d2] }
  | _ => none }
def BufferFlushesWrongFalsely : Prop := bufferFlushesRow.holds Try.pinned (OpenSpec.ofChange bufferFlushesWrong)

/-- 'hedgerowlaw13.BufferParts': WHATEVER THE INPUT: true; the input reads as it did. -/
def bufferPartsSpec : ChangeSpec := { name := "bufferParts", fn := fun _ => fun
  | [d1, d2] => { results := [.lit (.bool true)], args := [d1, d2] }
  | _ => none }
def bufferPartsRow : OpenClaim := { program := "yteollbioeamciaa", sum := "bfda77c8dbff4317dda563e33997a7f534a7061f4b15ceeafe2b2ece310459d6", func := "hedgerow/hedgerowlaw13.BufferParts", spec := "bufferParts", unfollowed := true, recurses := true, plainKeys := false, apart := false }
def BufferPartsSaid : Prop := bufferPartsRow.holds Try.pinned (OpenSpec.ofChange bufferPartsSpec)

/-- ITS FALSE NEIGHBOUR: 'it returns false'. Refute it at one input. -/
def bufferPartsWrong : ChangeSpec := { name := "bufferParts", fn := fun _ => fun
  | [d1, d2] => { results := [.lit (.bool false)], args := [d1, d2] }
  | _ => none }
def BufferPartsWrongFalsely : Prop := bufferPartsRow.holds Try.pinned (OpenSpec.ofChange bufferPartsWrong)

/-- 'hedgerowlaw13.BufferLooks': WHATEVER THE INPUT: true; the input reads as it did. -/
def bufferLooksSpec : ChangeSpec := { name := "bufferLooks", fn := fun _ => fun
  | [d1, d2, d3] => { results := [.lit (.bool true)], args := [d1, d2, d3] }
  | _ => none }
def bufferLooksRow : OpenClaim := { program := "yteollbioeamciaa", sum := "bfda77c8dbff4317dda563e33997a7f534a7061f4b15ceeafe2b2ece310459d6", func := "hedgerow/hedgerowlaw13.BufferLooks", spec := "bufferLooks", unfollowed := true, recurses := true, plainKeys := false, apart := false }
def BufferLooksSaid : Prop := bufferLooksRow.holds Try.pinned (OpenSpec.ofChange bufferLooksSpec)

/-- ITS FALSE NEIGHBOUR: 'it returns false'. Refute it at one input. -/
def bufferLooksWrong : ChangeSpec := { name := "bufferLooks", fn := fun _ => fun
  | [d1, d2, d3] => { results := [.lit (.bool false)], args := [d1, d2, d3] }
  | _ => none }
def BufferLooksWrongFalsely : Prop := bufferLooksRow.holds Try.pinned (OpenSpec.ofChange bufferLooksWrong)

/-- 'hedgerowlaw13.BufferRefused': WHATEVER THE INPUT: true; the input reads as it did. -/
def bufferRefusedSpec : ChangeSpec := { name := "bufferRefused", fn := fun _ => fun
  | [d1, d2] => { results := [.lit (.bool true)], args := [d1, d2] }
  | _ => none }
def bufferRefusedRow : OpenClaim := { program := "yteollbioeamciaa", sum := "bfda77c8dbff4317dda563e33997a7f534a7061f4b15ceeafe2b2ece310459d6", func := "hedgerow/hedgerowlaw13.BufferRefused", spec := "bufferRefused", unfollowed := true, recurses := true, plainKeys := false, apart := false }
def BufferRefusedSaid : Prop := bufferRefusedRow.holds Try.pinned (OpenSpec.ofChange bufferRefusedSpec)

/-- ITS FALSE NEIGHBOUR: 'it returns false'. Refute it at one input. -/
def bufferRefusedWrong : ChangeSpec := { name := "bufferRefused", fn := fun _ => fun
  | [d1, d2] => { results := [.lit (.bool false)], args := [d1, d2] }
  | _ => none }
def BufferRefusedWrongFalsely : Prop := bufferRefusedRow.holds Try.pinned (OpenSpec.ofChange bufferRefusedWrong)

/-- 'hedgerowlaw13.BufferNone': WHATEVER THE INPUT: true; the input reads as it did. -/
def bufferNoneSpec : ChangeSpec := { name := "bufferNone", fn := fun _ => fun
  | [d] => { results := [.lit (.bool true)], args := [d] }
  | _ => none }
def bufferNoneRow : OpenClaim := { program := "yteollbioeamciaa", sum := "bfda77c8dbff4317dda563e33997a7f534a7061f4b15ceeafe2b2ece310459d6", func := "hedgerow/hedgerowlaw13.BufferNone", spec := "bufferNone", plainKeys := false, apart := false }
def BufferNoneSaid : Prop := bufferNoneRow.holds Try.pinned (OpenSpec.ofChange bufferNoneSpec)

/-- ITS FALSE NEIGHBOUR: 'it returns false'. Refute it at one input. -/
def bufferNoneWrong : ChangeSpec := { name := "bufferNone", fn := fun _ => fun
  | [d] => { results := [.lit (.bool false)], args := [d] }
  | _ => none }
def BufferNoneWrongFalsely : Prop := bufferNoneRow.holds Try.pinned (OpenSpec.ofChange bufferNoneWrong)

/- THE SECOND FORM. 'bulk': how many values and letters a reading holds, each counted each time it is reached (what is shared counts as often as it is met; a slice's spare places count too). A statement '..UptoSaid' is the law's where the arguments, and the package variables that the reading takes, are together of bulk at most 1048576: NARROWER than '..Said'. Prove '..Said' where nothing that the law and all that it calls make is longer than what came in: it says more and counts as full. Else prove '..UptoSaid'. A law counts once. -/
mutual
def uptoBulk {H : Type} : DataW H → Nat
  | .lit (.string bytes) => bytes.length + 1
  | .lit _ => 1
  | .nil => 1
  | .ptr d => uptoBulk d + 1
  | .slice elems spare => uptoBulkAll elems + uptoBulkAll spare + 1
  | .agg parts => uptoBulkAll parts + 1
  | .iface _ d => uptoBulk d + 1
  | .map entries => uptoBulkEntries entries + 1
  | .held _ => 1
def uptoBulkAll {H : Type} : List (DataW H) → Nat
  | [] => 0
  | d :: r => uptoBulk d + uptoBulkAll r
def uptoBulkEntries {H : Type} : List (Lit × DataW H) → Nat
  | [] => 0
  | x :: r => uptoBulkEntry x + uptoBulkEntries r
def uptoBulkEntry {H : Type} : Lit × DataW H → Nat
  | (.string bytes, d) => bytes.length + uptoBulk d + 1
  | (_, d) => uptoBulk d + 1
 end
def uptoSmall : (H : Type) → List (DataW H) → Bool := fun _ ds => decide (uptoBulkAll ds ≤ 1048576)
def OpenSpec.upto (s : _root_.Go.ChangeSpec) : _root_.Go.OpenSpec := { _root_.Go.OpenSpec.ofChange s with cond := some uptoSmall }

/-- 'hedgerowlaw13.BufferDoes', WHERE WHAT IT READS IS OF BULK AT MOST 1048576: true; the input reads as it did. -/
def bufferDoesUptoRow : OpenClaim := { program := "yteollbioeamciaa", sum := "bfda77c8dbff4317dda563e33997a7f534a7061f4b15ceeafe2b2ece310459d6", func := "hedgerow/hedgerowlaw13.BufferDoes", spec := "bufferDoes", unfollowed := true, recurses := true, plainKeys := false, apart := false, narrowed := true }
def BufferDoesUptoSaid : Prop := bufferDoesUptoRow.holds Try.pinned (OpenSpec.upto bufferDoesSpec)

/-- 'hedgerowlaw13.BufferFlushes', WHERE WHAT IT READS IS OF BULK AT MOST 1048576: true; the input reads as it did. -/
def bufferFlushesUptoRow : OpenClaim := { program := "yteollbioeamciaa", sum := "bfda77c8dbff4317dda563e33997a7f534a7061f4b15ceeafe2b2ece310459d6", func := "hedgerow/hedgerowlaw13.BufferFlushes", spec := "bufferFlushes", unfollowed := true, recurses := true, plainKeys := false, apart := false, narrowed := true }
def BufferFlushesUptoSaid : Prop := bufferFlushesUptoRow.holds Try.pinned (OpenSpec.upto bufferFlushesSpec)

/-- 'hedgerowlaw13.BufferParts', WHERE WHAT IT READS IS OF BULK AT MOST 1048576: true; the input reads as it did. -/
def bufferPartsUptoRow : OpenClaim := { program := "yteollbioeamciaa", sum := "bfda77c8dbff4317dda563e33997a7f534a7061f4b15ceeafe2b2ece310459d6", func := "hedgerow/hedgerowlaw13.BufferParts", spec := "bufferParts", unfollowed := true, recurses := true, plainKeys := false, apart := false, narrowed := true }
def BufferPartsUptoSaid : Prop := bufferPartsUptoRow.holds Try.pinned (OpenSpec.upto bufferPartsSpec)

/-- 'hedgerowlaw13.BufferLooks', WHERE WHAT IT READS IS OF BULK AT MOST 1048576: true; the input reads as it did. -/
def bufferLooksUptoRow : OpenClaim := { program := "yteollbioeamciaa", sum := "bfda77c8dbff4317dda563e33997a7f534a7061f4b15ceeafe2b2ece310459d6", func := "hedgerow/hedgerowlaw13.BufferLooks", spec := "bufferLooks", unfollowed := true, recurses := true, plainKeys := false, apart := false, narrowed := true }
def BufferLooksUptoSaid : Prop := bufferLooksUptoRow.holds Try.pinned (OpenSpec.upto bufferLooksSpec)

/-- 'hedgerowlaw13.BufferRefused', WHERE WHAT IT READS IS OF BULK AT MOST 1048576: true; the input reads as it did. -/
def bufferRefusedUptoRow : OpenClaim := { program := "yteollbioeamciaa", sum := "bfda77c8dbff4317dda563e33997a7f534a7061f4b15ceeafe2b2ece310459d6", func := "hedgerow/hedgerowlaw13.BufferRefused", spec := "bufferRefused", unfollowed := true, recurses := true, plainKeys := false, apart := false, narrowed := true }
def BufferRefusedUptoSaid : Prop := bufferRefusedUptoRow.holds Try.pinned (OpenSpec.upto bufferRefusedSpec)

/-- 'hedgerowlaw13.BufferNone', WHERE WHAT IT READS IS OF BULK AT MOST 1048576: true; the input reads as it did. -/
def bufferNoneUptoRow : OpenClaim := { program := "yteollbioeamciaa", sum := "bfda77c8dbff4317dda563e33997a7f534a7061f4b15ceeafe2b2ece310459d6", func := "hedgerow/hedgerowlaw13.BufferNone", spec := "bufferNone", plainKeys := false, apart := false, narrowed := true }
def BufferNoneUptoSaid : Prop := bufferNoneUptoRow.holds Try.pinned (OpenSpec.upto bufferNoneSpec)

end Rows
end Go.Proofs.Yteollbioeamciaa
