/-
  No cell of these rows narrows 'for every input' (looked for: loops, veiled, ifaces, maps, wideKeys, modest, calm, conditions, laid).
  DERIVED. THE GIVEN ROWS OF THIS SEAT. 6 by the template 'for every input the law returns true; each argument reads behind the call as it read before'; 0 by the template 'total and deterministic' (their statements: YtdanpdlbbgcidaaTotals.lean).
  GIVEN WITH THE SEED: the statements are not yours to turn. If you find one false, say at which input.
  Laid BY PROGRAM, IN A SANDBOX (cutbox-rows.mjs): the forced cells as the released guide's own fill.sh prints them over the translation 6bb4c0034d38bc9c… (all of the seat's roots in one cut). By AI agents, Wed Nov 11 2026. No macro, syntax, notation, axiom, sorry.
-/
import Derived.Test.YtdanpdlbbgcidaaChecked
import GoSem.Claim
import GoSem.ClaimJoined
import GoSem.ClaimMapViews
import Derived.JoinedTies
import Derived.KernelRfl
namespace Go.Proofs.Ytdanpdlbbgcidaa
/- THE CELL 'sum', in the pinned program and in every row, IS THE sha256 OF THE DUMP (.gsa) THAT YtdanpdlbbgcidaaProg.lean LOADS. Nothing in Lean hashes anything: it is a label: what it is worth is what the hold of that sum in a sandbox is worth. -/
noncomputable def Try.pinned : Pinned := { name := "ytdanpdlbbgcidaa", sum := "6bb4c0034d38bc9c0a3e9ca5108f04548e2c6a74cde8813ddffdaa166a51860b", checked := Try.checked }
namespace Rows
def none {H : Type} : Left H := { results := [], args := [] }

/-- 'hedgerowlaw08.IdsPlays': WHATEVER THE INPUT: true; the input reads as it did. -/
def idsPlaysSpec : ChangeSpec := { name := "idsPlays", fn := fun _ => fun
  | [d1, d2, d3] => { results := [.lit (.bool true)], args := [d1, d2, d3] }
  | _ => none }
def idsPlaysRow : OpenClaim := { program := "ytdanpdlbbgcidaa", sum := "6bb4c0034d38bc9c0a3e9ca5108f04548e2c6a74cde8813ddffdaa166a51860b", func := "hedgerow/hedgerowlaw08.IdsPlays", spec := "idsPlays", unfollowed := true, recurses := true, apart := false }
def IdsPlaysSaid : Prop := idsPlaysRow.holds Try.pinned (OpenSpec.ofChange idsPlaysSpec)

/-- ITS FALSE NEIGHBOUR: 'it returns false'. Refute it at one input. -/
def idsPlaysWrong : ChangeSpec := { name := "idsPlays", fn := fun _ => fun
  | [d1, d2, d3] => { results := [.lit (.bool false)], args := [d1, d2, d3] }
  | _ => none }
def IdsPlaysWrongFalsely : Prop := idsPlaysRow.holds Try.pinned (OpenSpec.ofChange idsPlaysWrong)

/-- 'hedgerowlaw08.IdsOnce': WHATEVER THE INPUT: true; the input reads as it did. -/
def idsOnceSpec : ChangeSpec := { name := "idsOnce", fn := fun _ => fun
  | [d1, d2] => { results := [.lit (.bool true)], args := [d1, d2] }
  | _ => none }
def idsOnceRow : OpenClaim := { program := "ytdanpdlbbgcidaa", sum := "6bb4c0034d38bc9c0a3e9ca5108f04548e2c6a74cde8813ddffdaa166a51860b", func := "hedgerow/hedgerowlaw08.IdsOnce", spec := "idsOnce", unfollowed := true, recurses := true, apart := false }
def IdsOnceSaid : Prop := idsOnceRow.holds Try.pinned (OpenSpec.ofChange idsOnceSpec)

/-- ITS FALSE NEIGHBOUR: 'it returns false'. Refute it at one input. -/
def idsOnceWrong : ChangeSpec := { name := "idsOnce", fn := fun _ => fun
  | [d1, d2] => { results := [.lit (.bool false)], args := [d1, d2] }
  | _ => none }
def IdsOnceWrongFalsely : Prop := idsOnceRow.holds Try.pinned (OpenSpec.ofChange idsOnceWrong)

/-- 'hedgerowlaw08.IdsRow': WHATEVER THE INPUT: true; the input reads as it did. -/
def idsRowSpec : ChangeSpec := { name := "idsRow", fn := fun _ => fun
  | [d1, d2] => { results := [.lit (.bool true)], args := [d1, d2] }
  | _ => none }
def idsRowRow : OpenClaim := { program := "ytdanpdlbbgcidaa", sum := "6bb4c0034d38bc9c0a3e9ca5108f04548e2c6a74cde8813ddffdaa166a51860b", func := "hedgerow/hedgerowlaw08.IdsRow", spec := "idsRow", unfollowed := true, recurses := true, apart := false }
def IdsRowSaid : Prop := idsRowRow.holds Try.pinned (OpenSpec.ofChange idsRowSpec)

/-- ITS FALSE NEIGHBOUR: 'it returns false'. Refute it at one input. -/
def idsRowWrong : ChangeSpec := { name := "idsRow", fn := fun _ => fun
  | [d1, d2] => { results := [.lit (.bool false)], args := [d1, d2] }
  | _ => none }
def IdsRowWrongFalsely : Prop := idsRowRow.holds Try.pinned (OpenSpec.ofChange idsRowWrong)

/-- 'hedgerowlaw08.IdsApart': WHATEVER THE INPUT: true; the input reads as it did. -/
def idsApartSpec : ChangeSpec := { name := "idsApart", fn := fun _ => fun
  | [d] => { results := [.lit (.bool true)], args := [d] }
  | _ => none }
def idsApartRow : OpenClaim := { program := "ytdanpdlbbgcidaa", sum := "6bb4c0034d38bc9c0a3e9ca5108f04548e2c6a74cde8813ddffdaa166a51860b", func := "hedgerow/hedgerowlaw08.IdsApart", spec := "idsApart", unfollowed := true, recurses := true, apart := false }
def IdsApartSaid : Prop := idsApartRow.holds Try.pinned (OpenSpec.ofChange idsApartSpec)

/-- ITS FALSE NEIGHBOUR: 'it returns false'. Refute it at one input. -/
def idsApartWrong : ChangeSpec := { name := "idsApart", fn := fun _ => fun
  | [d] => { results := [.lit (.bool false)], args := [d] }
  | _ => none }
def IdsApartWrongFalsely : Prop := idsApartRow.holds Try.pinned (OpenSpec.ofChange idsApartWrong)

/-- 'hedgerowlaw08.IdsWorn': WHATEVER THE INPUT: true; the input reads as it did. -/
def idsWornSpec : ChangeSpec := { name := "idsWorn", fn := fun _ => fun
  | [d1, d2] => { results := [.lit (.bool true)], args := [d1, d2] }
  | _ => none }
def idsWornRow : OpenClaim := { program := "ytdanpdlbbgcidaa", sum := "6bb4c0034d38bc9c0a3e9ca5108f04548e2c6a74cde8813ddffdaa166a51860b", func := "hedgerow/hedgerowlaw08.IdsWorn", spec := "idsWorn", unfollowed := true, recurses := true, apart := false }
def IdsWornSaid : Prop := idsWornRow.holds Try.pinned (OpenSpec.ofChange idsWornSpec)

/-- ITS FALSE NEIGHBOUR: 'it returns false'. Refute it at one input. -/
def idsWornWrong : ChangeSpec := { name := "idsWorn", fn := fun _ => fun
  | [d1, d2] => { results := [.lit (.bool false)], args := [d1, d2] }
  | _ => none }
def IdsWornWrongFalsely : Prop := idsWornRow.holds Try.pinned (OpenSpec.ofChange idsWornWrong)

/-- 'hedgerowlaw08.IdsNone': WHATEVER THE INPUT: true; the input reads as it did. -/
def idsNoneSpec : ChangeSpec := { name := "idsNone", fn := fun _ => fun
  | [d] => { results := [.lit (.bool true)], args := [d] }
  | _ => none }
def idsNoneRow : OpenClaim := { program := "ytdanpdlbbgcidaa", sum := "6bb4c0034d38bc9c0a3e9ca5108f04548e2c6a74cde8813ddffdaa166a51860b", func := "hedgerow/hedgerowlaw08.IdsNone", spec := "idsNone", unfollowed := true, recurses := true, apart := false }
def IdsNoneSaid : Prop := idsNoneRow.holds Try.pinned (OpenSpec.ofChange idsNoneSpec)

/-- ITS FALSE NEIGHBOUR: 'it returns false'. Refute it at one input. -/
def idsNoneWrong : ChangeSpec := { name := "idsNone", fn := fun _ => fun
  | [d] => { results := [.lit (.bool false)], args := [d] }
  | _ => none }
def IdsNoneWrongFalsely : Prop := idsNoneRow.holds Try.pinned (OpenSpec.ofChange idsNoneWrong)

/- THE SECOND FORM. 'bulk': how many values and letters a reading holds, each counted each time it is reached (what is shared counts as often as it is met; a slice's spare places count too). A statement '..UptoSaid' is the law's where the arguments, and the package variables that the reading takes, are together of bulk at most 1048576: NARROWER than '..Said'. Prove '..Said' where nothing that the law and all that it calls make is longer than what came in: it says more and counts as full. Else prove '..UptoSaid'. A law counts once. -/
mutual
def uptoBulk {H : Type} : DataW H → Nat
  | .lit (.string bytes) => bytes.length + 1
  | .lit _ => 1
  | .nil => 1
  | .ptr d => uptoBulk d + 1
  | .slice elems spare => uptoBulkAll elems + uptoBulkAll spare + 1
  | .agg parts => uptoBulkAll parts + 1
  | .iface _ d => uptoBulk d + 1
  | .map entries => uptoBulkEntries entries + 1
  | .held _ => 1
def uptoBulkAll {H : Type} : List (DataW H) → Nat
  | [] => 0
  | d :: r => uptoBulk d + uptoBulkAll r
def uptoBulkEntries {H : Type} : List (Lit × DataW H) → Nat
  | [] => 0
  | x :: r => uptoBulkEntry x + uptoBulkEntries r
def uptoBulkEntry {H : Type} : Lit × DataW H → Nat
  | (.string bytes, d) => bytes.length + uptoBulk d + 1
  | (_, d) => uptoBulk d + 1
 end
def uptoSmall : (H : Type) → List (DataW H) → Bool := fun _ ds => decide (uptoBulkAll ds ≤ 1048576)
def OpenSpec.upto (s : _root_.Go.ChangeSpec) : _root_.Go.OpenSpec := { _root_.Go.OpenSpec.ofChange s with cond := some uptoSmall }

/-- 'hedgerowlaw08.IdsPlays', WHERE WHAT IT READS IS OF BULK AT MOST 1048576: true; the input reads as it did. -/
def idsPlaysUptoRow : OpenClaim := { program := "ytdanpdlbbgcidaa", sum := "6bb4c0034d38bc9c0a3e9ca5108f04548e2c6a74cde8813ddffdaa166a51860b", func := "hedgerow/hedgerowlaw08.IdsPlays", spec := "idsPlays", unfollowed := true, recurses := true, apart := false, narrowed := true }
def IdsPlaysUptoSaid : Prop := idsPlaysUptoRow.holds Try.pinned (OpenSpec.upto idsPlaysSpec)

/-- 'hedgerowlaw08.IdsOnce', WHERE WHAT IT READS IS OF BULK AT MOST 1048576: true; the input reads as it did. -/
def idsOnceUptoRow : OpenClaim := { program := "ytdanpdlbbgcidaa", sum := "6bb4c0034d38bc9c0a3e9ca5108f04548e2c6a74cde8813ddffdaa166a51860b", func := "hedgerow/hedgerowlaw08.IdsOnce", spec := "idsOnce", unfollowed := true, recurses := true, apart := false, narrowed := true }
def IdsOnceUptoSaid : Prop := idsOnceUptoRow.holds Try.pinned (OpenSpec.upto idsOnceSpec)

/-- 'hedgerowlaw08.IdsRow', WHERE WHAT IT READS IS OF BULK AT MOST 1048576: true; the input reads as it did. -/
def idsRowUptoRow : OpenClaim := { program := "ytdanpdlbbgcidaa", sum := "6bb4c0034d38bc9c0a3e9ca5108f04548e2c6a74cde8813ddffdaa166a51860b", func := "hedgerow/hedgerowlaw08.IdsRow", spec := "idsRow", unfollowed := true, recurses := true, apart := false, narrowed := true }
def IdsRowUptoSaid : Prop := idsRowUptoRow.holds Try.pinned (OpenSpec.upto idsRowSpec)

/-- 'hedgerowlaw08.IdsApart', WHERE WHAT IT READS IS OF BULK AT MOST 1048576: true; the input reads as it did. -/
def idsApartUptoRow : OpenClaim := { program := "ytdanpdlbbgcidaa", sum := "6bb4c0034d38bc9c0a3e9ca5108f04548e2c6a74cde8813ddffdaa166a51860b", func := "hedgerow/hedgerowlaw08.IdsApart", spec := "idsApart", unfollowed := true, recurses := true, apart := false, narrowed := true }
def IdsApartUptoSaid : Prop := idsApartUptoRow.holds Try.pinned (OpenSpec.upto idsApartSpec)

/-- 'hedgerowlaw08.IdsWorn', WHERE WHAT IT READS IS OF BULK AT MOST 1048576: true; the input reads as it did. -/
def idsWornUptoRow : OpenClaim := { program := "ytdanpdlbbgcidaa", sum := "6bb4c0034d38bc9c0a3e9ca5108f04548e2c6a74cde8813ddffdaa166a51860b", func := "hedgerow/hedgerowlaw08.IdsWorn", spec := "idsWorn", unfollowed := true, recurses := true, apart := false, narrowed := true }
def IdsWornUptoSaid : Prop := idsWornUptoRow.holds Try.pinned (OpenSpec.upto idsWornSpec)

/-- 'hedgerowlaw08.IdsNone', WHERE WHAT IT READS IS OF BULK AT MOST 1048576: true; the input reads as it did. -/
def idsNoneUptoRow : OpenClaim := { program := "ytdanpdlbbgcidaa", sum := "6bb4c0034d38bc9c0a3e9ca5108f04548e2c6a74cde8813ddffdaa166a51860b", func := "hedgerow/hedgerowlaw08.IdsNone", spec := "idsNone", unfollowed := true, recurses := true, apart := false, narrowed := true }
def IdsNoneUptoSaid : Prop := idsNoneUptoRow.holds Try.pinned (OpenSpec.upto idsNoneSpec)

end Rows
end Go.Proofs.Ytdanpdlbbgcidaa
