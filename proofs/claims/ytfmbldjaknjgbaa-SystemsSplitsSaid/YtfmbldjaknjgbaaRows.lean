/-
  No cell of these rows narrows 'for every input' (looked for: loops, veiled, ifaces, maps, wideKeys, modest, calm, conditions, laid).
  DERIVED. THE GIVEN ROWS OF THIS SEAT. 8 by the template 'for every input the law returns true; each argument reads behind the call as it read before'; 0 by the template 'total and deterministic' (their statements: YtfmbldjaknjgbaaTotals.lean).
  GIVEN WITH THE SEED: the statements are not yours to turn. If you find one false, say at which input.
  Laid BY PROGRAM, IN A SANDBOX (cutbox-rows.mjs): the forced cells as the released guide's own fill.sh prints them over the translation 5aeb347710d69451… (all of the seat's roots in one cut). By AI agents, Wed Nov 11 2026. No macro, syntax, notation, axiom, sorry.
-/
import Derived.Test.YtfmbldjaknjgbaaChecked
import GoSem.Claim
import GoSem.ClaimJoined
import GoSem.ClaimMapViews
import Derived.JoinedTies
import Derived.KernelRfl
namespace Go.Proofs.Ytfmbldjaknjgbaa
/- THE CELL 'sum', in the pinned program and in every row, IS THE sha256 OF THE DUMP (.gsa) THAT YtfmbldjaknjgbaaProg.lean LOADS. Nothing in Lean hashes anything: it is a label: what it is worth is what the hold of that sum in a sandbox is worth. -/
noncomputable def Try.pinned : Pinned := { name := "ytfmbldjaknjgbaa", sum := "5aeb347710d6945155273b809fe3dbdab6d75e62fe266ca117b77d71448f0d36", checked := Try.checked }
namespace Rows
def none {H : Type} : Left H := { results := [], args := [] }

/-- 'hedgerowlaw14.SystemsHits': WHATEVER THE INPUT: true; the input reads as it did. -/
def systemsHitsSpec : ChangeSpec := { name := "systemsHits", fn := fun _ => fun
  | [d1, d2, d3] => { results := [.lit (.bool true)], args := [d1, d2, d3] }
  | _ => none }
def systemsHitsRow : OpenClaim := { program := "ytfmbldjaknjgbaa", sum := "5aeb347710d6945155273b809fe3dbdab6d75e62fe266ca117b77d71448f0d36", func := "hedgerow/hedgerowlaw14.SystemsHits", spec := "systemsHits", unfollowed := true, recurses := true, apart := false }
def SystemsHitsSaid : Prop := systemsHitsRow.holds Try.pinned (OpenSpec.ofChange systemsHitsSpec)

/-- ITS FALSE NEIGHBOUR: 'it returns false'. Refute it at one input. -/
def systemsHitsWrong : ChangeSpec := { name := "systemsHits", fn := fun _ => fun
  | [d1, d2, d3] => { results := [.lit (.bool false)], args := [d1, d2, d3] }
  | _ => none }
def SystemsHitsWrongFalsely : Prop := systemsHitsRow.holds Try.pinned (OpenSpec.ofChange systemsHitsWrong)

/-- 'hedgerowlaw14.SystemsHurts': WHATEVER THE INPUT: true; the input reads as it did. -/
def systemsHurtsSpec : ChangeSpec := { name := "systemsHurts", fn := fun _ => fun
  | [d1, d2] => { results := [.lit (.bool true)], args := [d1, d2] }
  | _ => none }
def systemsHurtsRow : OpenClaim := { program := "ytfmbldjaknjgbaa", sum := "5aeb347710d6945155273b809fe3dbdab6d75e62fe266ca117b77d71448f0d36", func := "hedgerow/hedgerowlaw14.SystemsHurts", spec := "systemsHurts", unfollowed := true, recurses := true, apart := false }
def SystemsHurtsSaid : Prop := systemsHurtsRow.holds Try.pinned (OpenSpec.ofChange systemsHurtsSpec)

/-- ITS FALSE NEIGHBOUR: 'it returns false'. Refute it at one input. -/
def systemsHurtsWrong : ChangeSpec := { name := "systemsHurts", fn := fun _ => fun
  | [d1, d2] => { results := [.lit (.bool false)], args := [d1, d2] }
  | _ => none }
def SystemsHurtsWrongFalsely : Prop := systemsHurtsRow.holds Try.pinned (OpenSpec.ofChange systemsHurtsWrong)

/-- 'hedgerowlaw14.SystemsObeys': WHATEVER THE INPUT: true; the input reads as it did. -/
def systemsObeysSpec : ChangeSpec := { name := "systemsObeys", fn := fun _ => fun
  | [d1, d2] => { results := [.lit (.bool true)], args := [d1, d2] }
  | _ => none }
def systemsObeysRow : OpenClaim := { program := "ytfmbldjaknjgbaa", sum := "5aeb347710d6945155273b809fe3dbdab6d75e62fe266ca117b77d71448f0d36", func := "hedgerow/hedgerowlaw14.SystemsObeys", spec := "systemsObeys", unfollowed := true, recurses := true, apart := false }
def SystemsObeysSaid : Prop := systemsObeysRow.holds Try.pinned (OpenSpec.ofChange systemsObeysSpec)

/-- ITS FALSE NEIGHBOUR: 'it returns false'. Refute it at one input. -/
def systemsObeysWrong : ChangeSpec := { name := "systemsObeys", fn := fun _ => fun
  | [d1, d2] => { results := [.lit (.bool false)], args := [d1, d2] }
  | _ => none }
def SystemsObeysWrongFalsely : Prop := systemsObeysRow.holds Try.pinned (OpenSpec.ofChange systemsObeysWrong)

/-- 'hedgerowlaw14.SystemsMoves': WHATEVER THE INPUT: true; the input reads as it did. -/
def systemsMovesSpec : ChangeSpec := { name := "systemsMoves", fn := fun _ => fun
  | [d1, d2] => { results := [.lit (.bool true)], args := [d1, d2] }
  | _ => none }
def systemsMovesRow : OpenClaim := { program := "ytfmbldjaknjgbaa", sum := "5aeb347710d6945155273b809fe3dbdab6d75e62fe266ca117b77d71448f0d36", func := "hedgerow/hedgerowlaw14.SystemsMoves", spec := "systemsMoves", unfollowed := true, recurses := true, apart := false }
def SystemsMovesSaid : Prop := systemsMovesRow.holds Try.pinned (OpenSpec.ofChange systemsMovesSpec)

/-- ITS FALSE NEIGHBOUR: 'it returns false'. Refute it at one input. -/
def systemsMovesWrong : ChangeSpec := { name := "systemsMoves", fn := fun _ => fun
  | [d1, d2] => { results := [.lit (.bool false)], args := [d1, d2] }
  | _ => none }
def SystemsMovesWrongFalsely : Prop := systemsMovesRow.holds Try.pinned (OpenSpec.ofChange systemsMovesWrong)

/-- 'hedgerowlaw14.SystemsSplits': WHATEVER THE INPUT: true; the input reads as it did. -/
def systemsSplitsSpec : ChangeSpec := { name := "systemsSplits", fn := fun _ => fun
  | [d1, d2, d3] => { results := [.lit (.bool true)], args := [d1, d2, d3] }
  | _ => none }
def systemsSplitsRow : OpenClaim := { program := "ytfmbldjaknjgbaa", sum := "5aeb347710d6945155273b809fe3dbdab6d75e62fe266ca117b77d71448f0d36", func := "hedgerow/hedgerowlaw14.SystemsSplits", spec := "systemsSplits", unfollowed := true, recurses := true, apart := false }
def SystemsSplitsSaid : Prop := systemsSplitsRow.holds Try.pinned (OpenSpec.ofChange systemsSplitsSpec)

/-- ITS FALSE NEIGHBOUR: 'it returns false'. Refute it at one input. -/
def systemsSplitsWrong : ChangeSpec := { name := "systemsSplits", fn := fun _ => fun
  | [d1, d2, d3] => { results := [.lit (.bool false)], args := [d1, d2, d3] }
  | _ => none }
def SystemsSplitsWrongFalsely : Prop := systemsSplitsRow.holds Try.pinned (OpenSpec.ofChange systemsSplitsWrong)

/-- 'hedgerowlaw14.SystemsStays': WHATEVER THE INPUT: true; the input reads as it did. -/
def systemsStaysSpec : ChangeSpec := { name := "systemsStays", fn := fun _ => fun
  | [d1, d2] => { results := [.lit (.bool true)], args := [d1, d2] }
  | _ => none }
def systemsStaysRow : OpenClaim := { program := "ytfmbldjaknjgbaa", sum := "5aeb347710d6945155273b809fe3dbdab6d75e62fe266ca117b77d71448f0d36", func := "hedgerow/hedgerowlaw14.SystemsStays", spec := "systemsStays", unfollowed := true, recurses := true, apart := false }
def SystemsStaysSaid : Prop := systemsStaysRow.holds Try.pinned (OpenSpec.ofChange systemsStaysSpec)

/-- ITS FALSE NEIGHBOUR: 'it returns false'. Refute it at one input. -/
def systemsStaysWrong : ChangeSpec := { name := "systemsStays", fn := fun _ => fun
  | [d1, d2] => { results := [.lit (.bool false)], args := [d1, d2] }
  | _ => none }
def SystemsStaysWrongFalsely : Prop := systemsStaysRow.holds Try.pinned (OpenSpec.ofChange systemsStaysWrong)

/-- 'hedgerowlaw14.SystemsMay': WHATEVER THE INPUT: true; the input reads as it did. -/
def systemsMaySpec : ChangeSpec := { name := "systemsMay", fn := fun _ => fun
  | [d1, d2, d3] => { results := [.lit (.bool true)], args := [d1, d2, d3] }
  | _ => none }
def systemsMayRow : OpenClaim := { program := "ytfmbldjaknjgbaa", sum := "5aeb347710d6945155273b809fe3dbdab6d75e62fe266ca117b77d71448f0d36", func := "hedgerow/hedgerowlaw14.SystemsMay", spec := "systemsMay", unfollowed := true, recurses := true, apart := false }
def SystemsMaySaid : Prop := systemsMayRow.holds Try.pinned (OpenSpec.ofChange systemsMaySpec)

/-- ITS FALSE NEIGHBOUR: 'it returns false'. Refute it at one input. -/
def systemsMayWrong : ChangeSpec := { name := "systemsMay", fn := fun _ => fun
  | [d1, d2, d3] => { results := [.lit (.bool false)], args := [d1, d2, d3] }
  | _ => none }
def SystemsMayWrongFalsely : Prop := systemsMayRow.holds Try.pinned (OpenSpec.ofChange systemsMayWrong)

/-- 'hedgerowlaw14.SystemsFar': WHATEVER THE INPUT: true; the input reads as it did. -/
def systemsFarSpec : ChangeSpec := { name := "systemsFar", fn := fun _ => fun
  | [d1, d2, d3] => { results := [.lit (.bool true)], args := [d1, d2, d3] }
  | _ => none }
def systemsFarRow : OpenClaim := { program := "ytfmbldjaknjgbaa", sum := "5aeb347710d6945155273b809fe3dbdab6d75e62fe266ca117b77d71448f0d36", func := "hedgerow/hedgerowlaw14.SystemsFar", spec := "systemsFar", unfollowed := true, recurses := true, apart := false }
def SystemsFarSaid : Prop := systemsFarRow.holds Try.pinned (OpenSpec.ofChange systemsFarSpec)

/-- ITS FALSE NEIGHBOUR: 'it returns false'. Refute it at one input. -/
def systemsFarWrong : ChangeSpec := { name := "systemsFar", fn := fun _ => fun
  | [d1, d2, d3] => { results := [.lit (.bool false)], args := [d1, d2, d3] }
  | _ => none }
def SystemsFarWrongFalsely : Prop := systemsFarRow.holds Try.pinned (OpenSpec.ofChange systemsFarWrong)

/- THE SECOND FORM. 'bulk': how many values and letters a reading holds, each counted each time it is reached (what is shared counts as often as it is met; a slice's spare places count too). A statement '..UptoSaid' is the law's where the arguments, and the package variables that the reading takes, are together of bulk at most 1048576: NARROWER than '..Said'. Prove '..Said' where nothing that the law and all that it calls make is longer than what came in: it says more and counts as full. Else prove '..UptoSaid'. A law counts once. -/
mutual
def uptoBulk {H : Type} : DataW H → Nat
  | .lit (.string bytes) => bytes.length + 1
  | .lit _ => 1
  | .nil => 1
  | .ptr d => uptoBulk d + 1
  | .slice elems spare => uptoBulkAll elems + uptoBulkAll spare + 1
  | .agg parts => uptoBulkAll parts + 1
  | .iface _ d => uptoBulk d + 1
  | .map entries => uptoBulkEntries entries + 1
  | .held _ => 1
def uptoBulkAll {H : Type} : List (DataW H) → Nat
  | [] => 0
  | d :: r => uptoBulk d + uptoBulkAll r
def uptoBulkEntries {H : Type} : List (Lit × DataW H) → Nat
  | [] => 0
  | x :: r => uptoBulkEntry x + uptoBulkEntries r
def uptoBulkEntry {H : Type} : Lit × DataW H → Nat
  | (.string bytes, d) => bytes.length + uptoBulk d + 1
  | (_, d) => uptoBulk d + 1
 end
def uptoSmall : (H : Type) → List (DataW H) → Bool := fun _ ds => decide (uptoBulkAll ds ≤ 1048576)
def OpenSpec.upto (s : _root_.Go.ChangeSpec) : _root_.Go.OpenSpec := { _root_.Go.OpenSpec.ofChange s with cond := some uptoSmall }

/-- 'hedgerowlaw14.SystemsHits', WHERE WHAT IT READS IS OF BULK AT MOST 1048576: true; the input reads as it did. -/
def systemsHitsUptoRow : OpenClaim := { program := "ytfmbldjaknjgbaa", sum := "5aeb347710d6945155273b809fe3dbdab6d75e62fe266ca117b77d71448f0d36", func := "hedgerow/hedgerowlaw14.SystemsHits", spec := "systemsHits", unfollowed := true, recurses := true, apart := false, narrowed := true }
def SystemsHitsUptoSaid : Prop := systemsHitsUptoRow.holds Try.pinned (OpenSpec.upto systemsHitsSpec)

/-- 'hedgerowlaw14.SystemsHurts', WHERE WHAT IT READS IS OF BULK AT MOST 1048576: true; the input reads as it did. -/
def systemsHurtsUptoRow : OpenClaim := { program := "ytfmbldjaknjgbaa", sum := "5aeb347710d6945155273b809fe3dbdab6d75e62fe266ca117b77d71448f0d36", func := "hedgerow/hedgerowlaw14.SystemsHurts", spec := "systemsHurts", unfollowed := true, recurses := true, apart := false, narrowed := true }
def SystemsHurtsUptoSaid : Prop := systemsHurtsUptoRow.holds Try.pinned (OpenSpec.upto systemsHurtsSpec)

/-- 'hedgerowlaw14.SystemsObeys', WHERE WHAT IT READS IS OF BULK AT MOST 1048576: true; the input reads as it did. -/
def systemsObeysUptoRow : OpenClaim := { program := "ytfmbldjaknjgbaa", sum := "5aeb347710d6945155273b809fe3dbdab6d75e62fe266ca117b77d71448f0d36", func := "hedgerow/hedgerowlaw14.SystemsObeys", spec := "systemsObeys", unfollowed := true, recurses := true, apart := false, narrowed := true }
def SystemsObeysUptoSaid : Prop := systemsObeysUptoRow.holds Try.pinned (OpenSpec.upto systemsObeysSpec)

/-- 'hedgerowlaw14.SystemsMoves', WHERE WHAT IT READS IS OF BULK AT MOST 1048576: true; the input reads as it did. -/
def systemsMovesUptoRow : OpenClaim := { program := "ytfmbldjaknjgbaa", sum := "5aeb347710d6945155273b809fe3dbdab6d75e62fe266ca117b77d71448f0d36", func := "hedgerow/hedgerowlaw14.SystemsMoves", spec := "systemsMoves", unfollowed := true, recurses := true, apart := false, narrowed := true }
def SystemsMovesUptoSaid : Prop := systemsMovesUptoRow.holds Try.pinned (OpenSpec.upto systemsMovesSpec)

/-- 'hedgerowlaw14.SystemsSplits', WHERE WHAT IT READS IS OF BULK AT MOST 1048576: true; the input reads as it did. -/
def systemsSplitsUptoRow : OpenClaim := { program := "ytfmbldjaknjgbaa", sum := "5aeb347710d6945155273b809fe3dbdab6d75e62fe266ca117b77d71448f0d36", func := "hedgerow/hedgerowlaw14.SystemsSplits", spec := "systemsSplits", unfollowed := true, recurses := true, apart := false, narrowed := true }
def SystemsSplitsUptoSaid : Prop := systemsSplitsUptoRow.holds Try.pinned (OpenSpec.upto systemsSplitsSpec)

/-- 'hedgerowlaw14.SystemsStays', WHERE WHAT IT READS IS OF BULK AT MOST 1048576: true; the input reads as it did. -/
def systemsStaysUptoRow : OpenClaim := { program := "ytfmbldjaknjgbaa", sum := "5aeb347710d6945155273b809fe3dbdab6d75e62fe266ca117b77d71448f0d36", func := "hedgerow/hedgerowlaw14.SystemsStays", spec := "systemsStays", unfollowed := true, recurses := true, apart := false, narrowed := true }
def SystemsStaysUptoSaid : Prop := systemsStaysUptoRow.holds Try.pinned (OpenSpec.upto systemsStaysSpec)

/-- 'hedgerowlaw14.SystemsMay', WHERE WHAT IT READS IS OF BULK AT MOST 1048576: true; the input reads as it did. -/
def systemsMayUptoRow : OpenClaim := { program := "ytfmbldjaknjgbaa", sum := "5aeb347710d6945155273b809fe3dbdab6d75e62fe266ca117b77d71448f0d36", func := "hedgerow/hedgerowlaw14.SystemsMay", spec := "systemsMay", unfollowed := true, recurses := true, apart := false, narrowed := true }
def SystemsMayUptoSaid : Prop := systemsMayUptoRow.holds Try.pinned (OpenSpec.upto systemsMaySpec)

/-- 'hedgerowlaw14.SystemsFar', WHERE WHAT IT READS IS OF BULK AT MOST 1048576: true; the input reads as it did. -/
def systemsFarUptoRow : OpenClaim := { program := "ytfmbldjaknjgbaa", sum := "5aeb347710d6945155273b809fe3dbdab6d75e62fe266ca117b77d71448f0d36", func := "hedgerow/hedgerowlaw14.SystemsFar", spec := "systemsFar", unfollowed := true, recurses := true, apart := false, narrowed := true }
def SystemsFarUptoSaid : Prop := systemsFarUptoRow.holds Try.pinned (OpenSpec.upto systemsFarSpec)

end Rows
end Go.Proofs.Ytfmbldjaknjgbaa
