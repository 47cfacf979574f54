/-
  No cell of these rows narrows 'for every input' (looked for: loops, veiled, ifaces, maps, wideKeys, modest, calm, conditions, laid).
  DERIVED. THE GIVEN ROWS OF THIS SEAT. 6 by the template 'for every input the law returns true; each argument reads behind the call as it read before'; 0 by the template 'total and deterministic' (their statements: YtljaahemlcaffaaGreatTotals.lean).
  GIVEN WITH THE SEED: the statements are not yours to turn. If you find one false, say at which input.
  Laid BY PROGRAM, IN A SANDBOX (cutbox-rows.mjs): the forced cells as the released guide's own fill.sh prints them over the translation 3ed74f7a1ddb0e4b… (all of the seat's roots in one cut). By AI agents, Wed Nov 11 2026. No macro, syntax, notation, axiom, sorry.
-/
import Derived.Test.YtljaahemlcaffaaGreatChecked
import GoSem.Claim
import GoSem.ClaimJoined
import GoSem.ClaimMapViews
import Derived.JoinedTies
import Derived.KernelRfl
namespace Go.Proofs.YtljaahemlcaffaaGreat
/- THE CELL 'sum', in the pinned program and in every row, IS THE sha256 OF THE DUMP (.gsa) THAT YtljaahemlcaffaaGreatProg.lean LOADS. Nothing in Lean hashes anything: it is a label: what it is worth is what the hold of that sum in a sandbox is worth. -/
noncomputable def Tryz.pinned : Pinned := { name := "ytljaahemlcaffaagreat", sum := "3ed74f7a1ddb0e4bfa9bc1cffe7334934f5da093d14923d0231aaf731cdbe741", checked := Tryz.checked }
namespace Rows
def none {H : Type} : Left H := { results := [], args := [] }

/-- 'hedgerowlaw15.TickSplits': WHATEVER THE INPUT: true; the input reads as it did. -/
def tickSplitsSpec : ChangeSpec := { name := "tickSplits", fn := fun _ => fun
  | [d1, d2, d3] => { results := [.lit (.bool true)], args := [d1, d2, d3] }
  | _ => none }
def tickSplitsRow : OpenClaim := { program := "ytljaahemlcaffaagreat", sum := "3ed74f7a1ddb0e4bfa9bc1cffe7334934f5da093d14923d0231aaf731cdbe741", func := "hedgerow/hedgerowlaw15.TickSplits", spec := "tickSplits", inPlace := ["slices.overlaps[hedgerow/api.Bundle]"], unfollowed := true, recurses := true, apart := false }
def TickSplitsSaid : Prop := tickSplitsRow.holds Tryz.pinned (OpenSpec.ofChange tickSplitsSpec)

/-- ITS FALSE NEIGHBOUR: 'it returns false'. Refute it at one input. -/
def tickSplitsWrong : ChangeSpec := { name := "tickSplits", fn := fun _ => fun
  | [d1, d2, d3] => { results := [.lit (.bool false)], args := [d1, d2, d3] }
  | _ => none }
def TickSplitsWrongFalsely : Prop := tickSplitsRow.holds Tryz.pinned (OpenSpec.ofChange tickSplitsWrong)

/-- 'hedgerowlaw15.TickOrder': WHATEVER THE INPUT: true; the input reads as it did. -/
def tickOrderSpec : ChangeSpec := { name := "tickOrder", fn := fun _ => fun
  | [d] => { results := [.lit (.bool true)], args := [d] }
  | _ => none }
def tickOrderRow : OpenClaim := { program := "ytljaahemlcaffaagreat", sum := "3ed74f7a1ddb0e4bfa9bc1cffe7334934f5da093d14923d0231aaf731cdbe741", func := "hedgerow/hedgerowlaw15.TickOrder", spec := "tickOrder", inPlace := ["slices.overlaps[hedgerow/api.Bundle]"], unfollowed := true, recurses := true, apart := false }
def TickOrderSaid : Prop := tickOrderRow.holds Tryz.pinned (OpenSpec.ofChange tickOrderSpec)

/-- ITS FALSE NEIGHBOUR: 'it returns false'. Refute it at one input. -/
def tickOrderWrong : ChangeSpec := { name := "tickOrder", fn := fun _ => fun
  | [d] => { results := [.lit (.bool false)], args := [d] }
  | _ => none }
def TickOrderWrongFalsely : Prop := tickOrderRow.holds Tryz.pinned (OpenSpec.ofChange tickOrderWrong)

/-- 'hedgerowlaw15.TickTurns': WHATEVER THE INPUT: true; the input reads as it did. -/
def tickTurnsSpec : ChangeSpec := { name := "tickTurns", fn := fun _ => fun
  | [d1, d2] => { results := [.lit (.bool true)], args := [d1, d2] }
  | _ => none }
def tickTurnsRow : OpenClaim := { program := "ytljaahemlcaffaagreat", sum := "3ed74f7a1ddb0e4bfa9bc1cffe7334934f5da093d14923d0231aaf731cdbe741", func := "hedgerow/hedgerowlaw15.TickTurns", spec := "tickTurns", inPlace := ["slices.overlaps[hedgerow/api.Bundle]"], unfollowed := true, recurses := true, apart := false }
def TickTurnsSaid : Prop := tickTurnsRow.holds Tryz.pinned (OpenSpec.ofChange tickTurnsSpec)

/-- ITS FALSE NEIGHBOUR: 'it returns false'. Refute it at one input. -/
def tickTurnsWrong : ChangeSpec := { name := "tickTurns", fn := fun _ => fun
  | [d1, d2] => { results := [.lit (.bool false)], args := [d1, d2] }
  | _ => none }
def TickTurnsWrongFalsely : Prop := tickTurnsRow.holds Tryz.pinned (OpenSpec.ofChange tickTurnsWrong)

/-- 'hedgerowlaw15.TickCounts': WHATEVER THE INPUT: true; the input reads as it did. -/
def tickCountsSpec : ChangeSpec := { name := "tickCounts", fn := fun _ => fun
  | [d] => { results := [.lit (.bool true)], args := [d] }
  | _ => none }
def tickCountsRow : OpenClaim := { program := "ytljaahemlcaffaagreat", sum := "3ed74f7a1ddb0e4bfa9bc1cffe7334934f5da093d14923d0231aaf731cdbe741", func := "hedgerow/hedgerowlaw15.TickCounts", spec := "tickCounts", inPlace := ["slices.overlaps[hedgerow/api.Bundle]"], unfollowed := true, recurses := true, apart := false }
def TickCountsSaid : Prop := tickCountsRow.holds Tryz.pinned (OpenSpec.ofChange tickCountsSpec)

/-- ITS FALSE NEIGHBOUR: 'it returns false'. Refute it at one input. -/
def tickCountsWrong : ChangeSpec := { name := "tickCounts", fn := fun _ => fun
  | [d] => { results := [.lit (.bool false)], args := [d] }
  | _ => none }
def TickCountsWrongFalsely : Prop := tickCountsRow.holds Tryz.pinned (OpenSpec.ofChange tickCountsWrong)

/-- 'hedgerowlaw15.TickGoes': WHATEVER THE INPUT: true; the input reads as it did. -/
def tickGoesSpec : ChangeSpec := { name := "tickGoes", fn := fun _ => fun
  | [d] => { results := [.lit (.bool true)], args := [d] }
  | _ => none }
def tickGoesRow : OpenClaim := { program := "ytljaahemlcaffaagreat", sum := "3ed74f7a1ddb0e4bfa9bc1cffe7334934f5da093d14923d0231aaf731cdbe741", func := "hedgerow/hedgerowlaw15.TickGoes", spec := "tickGoes", inPlace := ["slices.overlaps[hedgerow/api.Bundle]"], unfollowed := true, recurses := true, apart := false }
def TickGoesSaid : Prop := tickGoesRow.holds Tryz.pinned (OpenSpec.ofChange tickGoesSpec)

/-- ITS FALSE NEIGHBOUR: 'it returns false'. Refute it at one input. -/
def tickGoesWrong : ChangeSpec := { name := "tickGoes", fn := fun _ => fun
  | [d] => { results := [.lit (.bool false)], args := [d] }
  | _ => none }
def TickGoesWrongFalsely : Prop := tickGoesRow.holds Tryz.pinned (OpenSpec.ofChange tickGoesWrong)

/-- 'hedgerowlaw15.TickQuiet': WHATEVER THE INPUT: true; the input reads as it did. -/
def tickQuietSpec : ChangeSpec := { name := "tickQuiet", fn := fun _ => fun
  | [d1, d2] => { results := [.lit (.bool true)], args := [d1, d2] }
  | _ => none }
def tickQuietRow : OpenClaim := { program := "ytljaahemlcaffaagreat", sum := "3ed74f7a1ddb0e4bfa9bc1cffe7334934f5da093d14923d0231aaf731cdbe741", func := "hedgerow/hedgerowlaw15.TickQuiet", spec := "tickQuiet", inPlace := ["slices.overlaps[hedgerow/api.Bundle]"], unfollowed := true, recurses := true, apart := false }
def TickQuietSaid : Prop := tickQuietRow.holds Tryz.pinned (OpenSpec.ofChange tickQuietSpec)

/-- ITS FALSE NEIGHBOUR: 'it returns false'. Refute it at one input. -/
def tickQuietWrong : ChangeSpec := { name := "tickQuiet", fn := fun _ => fun
  | [d1, d2] => { results := [.lit (.bool false)], args := [d1, d2] }
  | _ => none }
def TickQuietWrongFalsely : Prop := tickQuietRow.holds Tryz.pinned (OpenSpec.ofChange tickQuietWrong)

/- THE SECOND FORM. 'bulk': how many values and letters a reading holds, each counted each time it is reached (what is shared counts as often as it is met; a slice's spare places count too). A statement '..UptoSaid' is the law's where the arguments, and the package variables that the reading takes, are together of bulk at most 1048576: NARROWER than '..Said'. Prove '..Said' where nothing that the law and all that it calls make is longer than what came in: it says more and counts as full. Else prove '..UptoSaid'. A law counts once. -/
mutual
def uptoBulk {H : Type} : DataW H → Nat
  | .lit (.string bytes) => bytes.length + 1
  | .lit _ => 1
  | .nil => 1
  | .ptr d => uptoBulk d + 1
  | .slice elems spare => uptoBulkAll elems + uptoBulkAll spare + 1
  | .agg parts => uptoBulkAll parts + 1
  | .iface _ d => uptoBulk d + 1
  | .map entries => uptoBulkEntries entries + 1
  | .held _ => 1
def uptoBulkAll {H : Type} : List (DataW H) → Nat
  | [] => 0
  | d :: r => uptoBulk d + uptoBulkAll r
def uptoBulkEntries {H : Type} : List (Lit × DataW H) → Nat
  | [] => 0
  | x :: r => uptoBulkEntry x + uptoBulkEntries r
def uptoBulkEntry {H : Type} : Lit × DataW H → Nat
  | (.string bytes, d) => bytes.length + uptoBulk d + 1
  | (_, d) => uptoBulk d + 1
 end
def uptoSmall : (H : Type) → List (DataW H) → Bool := fun _ ds => decide (uptoBulkAll ds ≤ 1048576)
def OpenSpec.upto (s : _root_.Go.ChangeSpec) : _root_.Go.OpenSpec := { _root_.Go.OpenSpec.ofChange s with cond := some uptoSmall }

/-- 'hedgerowlaw15.TickSplits', WHERE WHAT IT READS IS OF BULK AT MOST 1048576: true; the input reads as it did. -/
def tickSplitsUptoRow : OpenClaim := { program := "ytljaahemlcaffaagreat", sum := "3ed74f7a1ddb0e4bfa9bc1cffe7334934f5da093d14923d0231aaf731cdbe741", func := "hedgerow/hedgerowlaw15.TickSplits", spec := "tickSplits", inPlace := ["slices.overlaps[hedgerow/api.Bundle]"], unfollowed := true, recurses := true, apart := false, narrowed := true }
def TickSplitsUptoSaid : Prop := tickSplitsUptoRow.holds Tryz.pinned (OpenSpec.upto tickSplitsSpec)

/-- 'hedgerowlaw15.TickOrder', WHERE WHAT IT READS IS OF BULK AT MOST 1048576: true; the input reads as it did. -/
def tickOrderUptoRow : OpenClaim := { program := "ytljaahemlcaffaagreat", sum := "3ed74f7a1ddb0e4bfa9bc1cffe7334934f5da093d14923d0231aaf731cdbe741", func := "hedgerow/hedgerowlaw15.TickOrder", spec := "tickOrder", inPlace := ["slices.overlaps[hedgerow/api.Bundle]"], unfollowed := true, recurses := true, apart := false, narrowed := true }
def TickOrderUptoSaid : Prop := tickOrderUptoRow.holds Tryz.pinned (OpenSpec.upto tickOrderSpec)

/-- 'hedgerowlaw15.TickTurns', WHERE WHAT IT READS IS OF BULK AT MOST 1048576: true; the input reads as it did. -/
def tickTurnsUptoRow : OpenClaim := { program := "ytljaahemlcaffaagreat", sum := "3ed74f7a1ddb0e4bfa9bc1cffe7334934f5da093d14923d0231aaf731cdbe741", func := "hedgerow/hedgerowlaw15.TickTurns", spec := "tickTurns", inPlace := ["slices.overlaps[hedgerow/api.Bundle]"], unfollowed := true, recurses := true, apart := false, narrowed := true }
def TickTurnsUptoSaid : Prop := tickTurnsUptoRow.holds Tryz.pinned (OpenSpec.upto tickTurnsSpec)

/-- 'hedgerowlaw15.TickCounts', WHERE WHAT IT READS IS OF BULK AT MOST 1048576: true; the input reads as it did. -/
def tickCountsUptoRow : OpenClaim := { program := "ytljaahemlcaffaagreat", sum := "3ed74f7a1ddb0e4bfa9bc1cffe7334934f5da093d14923d0231aaf731cdbe741", func := "hedgerow/hedgerowlaw15.TickCounts", spec := "tickCounts", inPlace := ["slices.overlaps[hedgerow/api.Bundle]"], unfollowed := true, recurses := true, apart := false, narrowed := true }
def TickCountsUptoSaid : Prop := tickCountsUptoRow.holds Tryz.pinned (OpenSpec.upto tickCountsSpec)

/-- 'hedgerowlaw15.TickGoes', WHERE WHAT IT READS IS OF BULK AT MOST 1048576: true; the input reads as it did. -/
def tickGoesUptoRow : OpenClaim := { program := "ytljaahemlcaffaagreat", sum := "3ed74f7a1ddb0e4bfa9bc1cffe7334934f5da093d14923d0231aaf731cdbe741", func := "hedgerow/hedgerowlaw15.TickGoes", spec := "tickGoes", inPlace := ["slices.overlaps[hedgerow/api.Bundle]"], unfollowed := true, recurses := true, apart := false, narrowed := true }
def TickGoesUptoSaid : Prop := tickGoesUptoRow.holds Tryz.pinned (OpenSpec.upto tickGoesSpec)

/-- 'hedgerowlaw15.TickQuiet', WHERE WHAT IT READS IS OF BULK AT MOST 1048576: true; the input reads as it did. -/
def tickQuietUptoRow : OpenClaim := { program := "ytljaahemlcaffaagreat", sum := "3ed74f7a1ddb0e4bfa9bc1cffe7334934f5da093d14923d0231aaf731cdbe741", func := "hedgerow/hedgerowlaw15.TickQuiet", spec := "tickQuiet", inPlace := ["slices.overlaps[hedgerow/api.Bundle]"], unfollowed := true, recurses := true, apart := false, narrowed := true }
def TickQuietUptoSaid : Prop := tickQuietUptoRow.holds Tryz.pinned (OpenSpec.upto tickQuietSpec)

end Rows
end Go.Proofs.YtljaahemlcaffaaGreat
