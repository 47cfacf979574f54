/-
  No cell of these rows narrows 'for every input' (looked for: loops, veiled, ifaces, maps, wideKeys, modest, calm, conditions, laid).
  DERIVED. THE GIVEN ROWS OF THIS SEAT. 8 by the template 'for every input the law returns true; each argument reads behind the call as it read before'; 0 by the template 'total and deterministic' (their statements: YtloogafnkkbigaaTotals.lean).
  GIVEN WITH THE SEED: the statements are not yours to turn. If you find one false, say at which input.
  Laid BY PROGRAM, IN A SANDBOX (cutbox-rows.mjs): the forced cells as the released guide's own fill.sh prints them over the translation a8fe4287c49a5ee8… (all of the seat's roots in one cut). By AI agents, Wed Nov 11 2026. No macro, syntax, notation, axiom, sorry.
-/
import Derived.Test.YtloogafnkkbigaaChecked
import GoSem.Claim
import GoSem.ClaimJoined
import GoSem.ClaimMapViews
import Derived.JoinedTies
import Derived.KernelRfl
namespace Go.Proofs.Ytloogafnkkbigaa
/- THE CELL 'sum', in the pinned program and in every row, IS THE sha256 OF THE DUMP (.gsa) THAT YtloogafnkkbigaaProg.lean LOADS. Nothing in Lean hashes anything: it is a label: what it is worth is what the hold of that sum in a sandbox is worth. -/
noncomputable def Try.pinned : Pinned := { name := "ytloogafnkkbigaa", sum := "a8fe4287c49a5ee8e17fec283fbd1f8107f23eeddebe39d187d9b024ac35ab89", checked := Try.checked }
namespace Rows
def none {H : Type} : Left H := { results := [], args := [] }

/-- 'hedgerowlaw04.ZonesMakes': WHATEVER THE INPUT: true; the input reads as it did. -/
def zonesMakesSpec : ChangeSpec := { name := "zonesMakes", fn := fun _ => fun
  | [d] => { results := [.lit (.bool true)], args := [d] }
  | _ => none }
def zonesMakesRow : OpenClaim := { program := "ytloogafnkkbigaa", sum := "a8fe4287c49a5ee8e17fec283fbd1f8107f23eeddebe39d187d9b024ac35ab89", func := "hedgerow/hedgerowlaw04.ZonesMakes", spec := "zonesMakes", apart := false }
def ZonesMakesSaid : Prop := zonesMakesRow.holds Try.pinned (OpenSpec.ofChange zonesMakesSpec)

/-- ITS FALSE NEIGHBOUR: 'it returns false'. Refute it at one input. -/
def zonesMakesWrong : ChangeSpec := { name := "zonesMakes", fn := fun _ => fun
  | [d] => { results := [.lit (.bool false)], args := [d] }
  | _ => none }
def ZonesMakesWrongFalsely : Prop := zonesMakesRow.holds Try.pinned (OpenSpec.ofChange zonesMakesWrong)

/-- 'hedgerowlaw04.ZonesZones': WHATEVER THE INPUT: true; the input reads as it did. -/
def zonesZonesSpec : ChangeSpec := { name := "zonesZones", fn := fun _ => fun
  | [d1, d2] => { results := [.lit (.bool true)], args := [d1, d2] }
  | _ => none }
def zonesZonesRow : OpenClaim := { program := "ytloogafnkkbigaa", sum := "a8fe4287c49a5ee8e17fec283fbd1f8107f23eeddebe39d187d9b024ac35ab89", func := "hedgerow/hedgerowlaw04.ZonesZones", spec := "zonesZones", apart := false }
def ZonesZonesSaid : Prop := zonesZonesRow.holds Try.pinned (OpenSpec.ofChange zonesZonesSpec)

/-- ITS FALSE NEIGHBOUR: 'it returns false'. Refute it at one input. -/
def zonesZonesWrong : ChangeSpec := { name := "zonesZones", fn := fun _ => fun
  | [d1, d2] => { results := [.lit (.bool false)], args := [d1, d2] }
  | _ => none }
def ZonesZonesWrongFalsely : Prop := zonesZonesRow.holds Try.pinned (OpenSpec.ofChange zonesZonesWrong)

/-- 'hedgerowlaw04.ZonesPoints': WHATEVER THE INPUT: true; the input reads as it did. -/
def zonesPointsSpec : ChangeSpec := { name := "zonesPoints", fn := fun _ => fun
  | [d1, d2, d3] => { results := [.lit (.bool true)], args := [d1, d2, d3] }
  | _ => none }
def zonesPointsRow : OpenClaim := { program := "ytloogafnkkbigaa", sum := "a8fe4287c49a5ee8e17fec283fbd1f8107f23eeddebe39d187d9b024ac35ab89", func := "hedgerow/hedgerowlaw04.ZonesPoints", spec := "zonesPoints", apart := false }
def ZonesPointsSaid : Prop := zonesPointsRow.holds Try.pinned (OpenSpec.ofChange zonesPointsSpec)

/-- ITS FALSE NEIGHBOUR: 'it returns false'. Refute it at one input. -/
def zonesPointsWrong : ChangeSpec := { name := "zonesPoints", fn := fun _ => fun
  | [d1, d2, d3] => { results := [.lit (.bool false)], args := [d1, d2, d3] }
  | _ => none }
def ZonesPointsWrongFalsely : Prop := zonesPointsRow.holds Try.pinned (OpenSpec.ofChange zonesPointsWrong)

/-- 'hedgerowlaw04.ZonesBeside': WHATEVER THE INPUT: true; the input reads as it did. -/
def zonesBesideSpec : ChangeSpec := { name := "zonesBeside", fn := fun _ => fun
  | [d1, d2] => { results := [.lit (.bool true)], args := [d1, d2] }
  | _ => none }
def zonesBesideRow : OpenClaim := { program := "ytloogafnkkbigaa", sum := "a8fe4287c49a5ee8e17fec283fbd1f8107f23eeddebe39d187d9b024ac35ab89", func := "hedgerow/hedgerowlaw04.ZonesBeside", spec := "zonesBeside", apart := false }
def ZonesBesideSaid : Prop := zonesBesideRow.holds Try.pinned (OpenSpec.ofChange zonesBesideSpec)

/-- ITS FALSE NEIGHBOUR: 'it returns false'. Refute it at one input. -/
def zonesBesideWrong : ChangeSpec := { name := "zonesBeside", fn := fun _ => fun
  | [d1, d2] => { results := [.lit (.bool false)], args := [d1, d2] }
  | _ => none }
def ZonesBesideWrongFalsely : Prop := zonesBesideRow.holds Try.pinned (OpenSpec.ofChange zonesBesideWrong)

/-- 'hedgerowlaw04.ZonesCovers': WHATEVER THE INPUT: true; the input reads as it did. -/
def zonesCoversSpec : ChangeSpec := { name := "zonesCovers", fn := fun _ => fun
  | [d1, d2, d3] => { results := [.lit (.bool true)], args := [d1, d2, d3] }
  | _ => none }
def zonesCoversRow : OpenClaim := { program := "ytloogafnkkbigaa", sum := "a8fe4287c49a5ee8e17fec283fbd1f8107f23eeddebe39d187d9b024ac35ab89", func := "hedgerow/hedgerowlaw04.ZonesCovers", spec := "zonesCovers", apart := false }
def ZonesCoversSaid : Prop := zonesCoversRow.holds Try.pinned (OpenSpec.ofChange zonesCoversSpec)

/-- ITS FALSE NEIGHBOUR: 'it returns false'. Refute it at one input. -/
def zonesCoversWrong : ChangeSpec := { name := "zonesCovers", fn := fun _ => fun
  | [d1, d2, d3] => { results := [.lit (.bool false)], args := [d1, d2, d3] }
  | _ => none }
def ZonesCoversWrongFalsely : Prop := zonesCoversRow.holds Try.pinned (OpenSpec.ofChange zonesCoversWrong)

/-- 'hedgerowlaw04.ZonesReach': WHATEVER THE INPUT: true; the input reads as it did. -/
def zonesReachSpec : ChangeSpec := { name := "zonesReach", fn := fun _ => fun
  | [d1, d2, d3] => { results := [.lit (.bool true)], args := [d1, d2, d3] }
  | _ => none }
def zonesReachRow : OpenClaim := { program := "ytloogafnkkbigaa", sum := "a8fe4287c49a5ee8e17fec283fbd1f8107f23eeddebe39d187d9b024ac35ab89", func := "hedgerow/hedgerowlaw04.ZonesReach", spec := "zonesReach", apart := false }
def ZonesReachSaid : Prop := zonesReachRow.holds Try.pinned (OpenSpec.ofChange zonesReachSpec)

/-- ITS FALSE NEIGHBOUR: 'it returns false'. Refute it at one input. -/
def zonesReachWrong : ChangeSpec := { name := "zonesReach", fn := fun _ => fun
  | [d1, d2, d3] => { results := [.lit (.bool false)], args := [d1, d2, d3] }
  | _ => none }
def ZonesReachWrongFalsely : Prop := zonesReachRow.holds Try.pinned (OpenSpec.ofChange zonesReachWrong)

/-- 'hedgerowlaw04.ZonesNear': WHATEVER THE INPUT: true; the input reads as it did. -/
def zonesNearSpec : ChangeSpec := { name := "zonesNear", fn := fun _ => fun
  | [d1, d2, d3] => { results := [.lit (.bool true)], args := [d1, d2, d3] }
  | _ => none }
def zonesNearRow : OpenClaim := { program := "ytloogafnkkbigaa", sum := "a8fe4287c49a5ee8e17fec283fbd1f8107f23eeddebe39d187d9b024ac35ab89", func := "hedgerow/hedgerowlaw04.ZonesNear", spec := "zonesNear", apart := false }
def ZonesNearSaid : Prop := zonesNearRow.holds Try.pinned (OpenSpec.ofChange zonesNearSpec)

/-- ITS FALSE NEIGHBOUR: 'it returns false'. Refute it at one input. -/
def zonesNearWrong : ChangeSpec := { name := "zonesNear", fn := fun _ => fun
  | [d1, d2, d3] => { results := [.lit (.bool false)], args := [d1, d2, d3] }
  | _ => none }
def ZonesNearWrongFalsely : Prop := zonesNearRow.holds Try.pinned (OpenSpec.ofChange zonesNearWrong)

/-- 'hedgerowlaw04.ZonesNone': WHATEVER THE INPUT: true; the input reads as it did. -/
def zonesNoneSpec : ChangeSpec := { name := "zonesNone", fn := fun _ => fun
  | [d1, d2, d3] => { results := [.lit (.bool true)], args := [d1, d2, d3] }
  | _ => none }
def zonesNoneRow : OpenClaim := { program := "ytloogafnkkbigaa", sum := "a8fe4287c49a5ee8e17fec283fbd1f8107f23eeddebe39d187d9b024ac35ab89", func := "hedgerow/hedgerowlaw04.ZonesNone", spec := "zonesNone", apart := false }
def ZonesNoneSaid : Prop := zonesNoneRow.holds Try.pinned (OpenSpec.ofChange zonesNoneSpec)

/-- ITS FALSE NEIGHBOUR: 'it returns false'. Refute it at one input. -/
def zonesNoneWrong : ChangeSpec := { name := "zonesNone", fn := fun _ => fun
  | [d1, d2, d3] => { results := [.lit (.bool false)], args := [d1, d2, d3] }
  | _ => none }
def ZonesNoneWrongFalsely : Prop := zonesNoneRow.holds Try.pinned (OpenSpec.ofChange zonesNoneWrong)

/- THE SECOND FORM. 'bulk': how many values and letters a reading holds, each counted each time it is reached (what is shared counts as often as it is met; a slice's spare places count too). A statement '..UptoSaid' is the law's where the arguments, and the package variables that the reading takes, are together of bulk at most 1048576: NARROWER than '..Said'. Prove '..Said' where nothing that the law and all that it calls make is longer than what came in: it says more and counts as full. Else prove '..UptoSaid'. A law counts once. -/
mutual
def uptoBulk {H : Type} : DataW H → Nat
  | .lit (.string bytes) => bytes.length + 1
  | .lit _ => 1
  | .nil => 1
  | .ptr d => uptoBulk d + 1
  | .slice elems spare => uptoBulkAll elems + uptoBulkAll spare + 1
  | .agg parts => uptoBulkAll parts + 1
  | .iface _ d => uptoBulk d + 1
  | .map entries => uptoBulkEntries entries + 1
  | .held _ => 1
def uptoBulkAll {H : Type} : List (DataW H) → Nat
  | [] => 0
  | d :: r => uptoBulk d + uptoBulkAll r
def uptoBulkEntries {H : Type} : List (Lit × DataW H) → Nat
  | [] => 0
  | x :: r => uptoBulkEntry x + uptoBulkEntries r
def uptoBulkEntry {H : Type} : Lit × DataW H → Nat
  | (.string bytes, d) => bytes.length + uptoBulk d + 1
  | (_, d) => uptoBulk d + 1
 end
def uptoSmall : (H : Type) → List (DataW H) → Bool := fun _ ds => decide (uptoBulkAll ds ≤ 1048576)
def OpenSpec.upto (s : _root_.Go.ChangeSpec) : _root_.Go.OpenSpec := { _root_.Go.OpenSpec.ofChange s with cond := some uptoSmall }

/-- 'hedgerowlaw04.ZonesMakes', WHERE WHAT IT READS IS OF BULK AT MOST 1048576: true; the input reads as it did. -/
def zonesMakesUptoRow : OpenClaim := { program := "ytloogafnkkbigaa", sum := "a8fe4287c49a5ee8e17fec283fbd1f8107f23eeddebe39d187d9b024ac35ab89", func := "hedgerow/hedgerowlaw04.ZonesMakes", spec := "zonesMakes", apart := false, narrowed := true }
def ZonesMakesUptoSaid : Prop := zonesMakesUptoRow.holds Try.pinned (OpenSpec.upto zonesMakesSpec)

/-- 'hedgerowlaw04.ZonesZones', WHERE WHAT IT READS IS OF BULK AT MOST 1048576: true; the input reads as it did. -/
def zonesZonesUptoRow : OpenClaim := { program := "ytloogafnkkbigaa", sum := "a8fe4287c49a5ee8e17fec283fbd1f8107f23eeddebe39d187d9b024ac35ab89", func := "hedgerow/hedgerowlaw04.ZonesZones", spec := "zonesZones", apart := false, narrowed := true }
def ZonesZonesUptoSaid : Prop := zonesZonesUptoRow.holds Try.pinned (OpenSpec.upto zonesZonesSpec)

/-- 'hedgerowlaw04.ZonesPoints', WHERE WHAT IT READS IS OF BULK AT MOST 1048576: true; the input reads as it did. -/
def zonesPointsUptoRow : OpenClaim := { program := "ytloogafnkkbigaa", sum := "a8fe4287c49a5ee8e17fec283fbd1f8107f23eeddebe39d187d9b024ac35ab89", func := "hedgerow/hedgerowlaw04.ZonesPoints", spec := "zonesPoints", apart := false, narrowed := true }
def ZonesPointsUptoSaid : Prop := zonesPointsUptoRow.holds Try.pinned (OpenSpec.upto zonesPointsSpec)

/-- 'hedgerowlaw04.ZonesBeside', WHERE WHAT IT READS IS OF BULK AT MOST 1048576: true; the input reads as it did. -/
def zonesBesideUptoRow : OpenClaim := { program := "ytloogafnkkbigaa", sum := "a8fe4287c49a5ee8e17fec283fbd1f8107f23eeddebe39d187d9b024ac35ab89", func := "hedgerow/hedgerowlaw04.ZonesBeside", spec := "zonesBeside", apart := false, narrowed := true }
def ZonesBesideUptoSaid : Prop := zonesBesideUptoRow.holds Try.pinned (OpenSpec.upto zonesBesideSpec)

/-- 'hedgerowlaw04.ZonesCovers', WHERE WHAT IT READS IS OF BULK AT MOST 1048576: true; the input reads as it did. -/
def zonesCoversUptoRow : OpenClaim := { program := "ytloogafnkkbigaa", sum := "a8fe4287c49a5ee8e17fec283fbd1f8107f23eeddebe39d187d9b024ac35ab89", func := "hedgerow/hedgerowlaw04.ZonesCovers", spec := "zonesCovers", apart := false, narrowed := true }
def ZonesCoversUptoSaid : Prop := zonesCoversUptoRow.holds Try.pinned (OpenSpec.upto zonesCoversSpec)

/-- 'hedgerowlaw04.ZonesReach', WHERE WHAT IT READS IS OF BULK AT MOST 1048576: true; the input reads as it did. -/
def zonesReachUptoRow : OpenClaim := { program := "ytloogafnkkbigaa", sum := "a8fe4287c49a5ee8e17fec283fbd1f8107f23eeddebe39d187d9b024ac35ab89", func := "hedgerow/hedgerowlaw04.ZonesReach", spec := "zonesReach", apart := false, narrowed := true }
def ZonesReachUptoSaid : Prop := zonesReachUptoRow.holds Try.pinned (OpenSpec.upto zonesReachSpec)

/-- 'hedgerowlaw04.ZonesNear', WHERE WHAT IT READS IS OF BULK AT MOST 1048576: true; the input reads as it did. -/
def zonesNearUptoRow : OpenClaim := { program := "ytloogafnkkbigaa", sum := "a8fe4287c49a5ee8e17fec283fbd1f8107f23eeddebe39d187d9b024ac35ab89", func := "hedgerow/hedgerowlaw04.ZonesNear", spec := "zonesNear", apart := false, narrowed := true }
def ZonesNearUptoSaid : Prop := zonesNearUptoRow.holds Try.pinned (OpenSpec.upto zonesNearSpec)

/-- 'hedgerowlaw04.ZonesNone', WHERE WHAT IT READS IS OF BULK AT MOST 1048576: true; the input reads as it did. -/
def zonesNoneUptoRow : OpenClaim := { program := "ytloogafnkkbigaa", sum := "a8fe4287c49a5ee8e17fec283fbd1f8107f23eeddebe39d187d9b024ac35ab89", func := "hedgerow/hedgerowlaw04.ZonesNone", spec := "zonesNone", apart := false, narrowed := true }
def ZonesNoneUptoSaid : Prop := zonesNoneUptoRow.holds Try.pinned (OpenSpec.upto zonesNoneSpec)

end Rows
end Go.Proofs.Ytloogafnkkbigaa
