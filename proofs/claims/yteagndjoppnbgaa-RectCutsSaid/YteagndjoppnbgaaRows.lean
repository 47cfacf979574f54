/-
  No cell of these rows narrows 'for every input' (looked for: loops, veiled, ifaces, maps, wideKeys, modest, calm, conditions, laid).
  DERIVED. THE GIVEN ROWS OF THIS SEAT. 7 by the template 'for every input the law returns true; each argument reads behind the call as it read before'; 0 by the template 'total and deterministic' (their statements: YteagndjoppnbgaaTotals.lean).
  GIVEN WITH THE SEED: the statements are not yours to turn. If you find one false, say at which input.
  Laid BY PROGRAM, IN A SANDBOX (cutbox-rows.mjs): the forced cells as the released guide's own fill.sh prints them over the translation 92481e563626a0bf… (all of the seat's roots in one cut). By AI agents, Wed Nov 11 2026. No macro, syntax, notation, axiom, sorry.
-/
import Derived.Test.YteagndjoppnbgaaChecked
import GoSem.Claim
import GoSem.ClaimJoined
import GoSem.ClaimMapViews
import Derived.JoinedTies
import Derived.KernelRfl
namespace Go.Proofs.Yteagndjoppnbgaa
/- THE CELL 'sum', in the pinned program and in every row, IS THE sha256 OF THE DUMP (.gsa) THAT YteagndjoppnbgaaProg.lean LOADS. Nothing in Lean hashes anything: it is a label: what it is worth is what the hold of that sum in a sandbox is worth. -/
noncomputable def Try.pinned : Pinned := { name := "yteagndjoppnbgaa", sum := "92481e563626a0bf76299715fb2bcbe4160b061ddf9add78092abc62548c6062", checked := Try.checked }
namespace Rows
def none {H : Type} : Left H := { results := [], args := [] }

/-- 'hedgerowlaw03.RectHas': WHATEVER THE INPUT: true; the input reads as it did. -/
def rectHasSpec : ChangeSpec := { name := "rectHas", fn := fun _ => fun
  | [d1, d2, d3] => { results := [.lit (.bool true)], args := [d1, d2, d3] }
  | _ => none }
def rectHasRow : OpenClaim := { program := "yteagndjoppnbgaa", sum := "92481e563626a0bf76299715fb2bcbe4160b061ddf9add78092abc62548c6062", func := "hedgerow/hedgerowlaw03.RectHas", spec := "rectHas", apart := false }
def RectHasSaid : Prop := rectHasRow.holds Try.pinned (OpenSpec.ofChange rectHasSpec)

/-- ITS FALSE NEIGHBOUR: 'it returns false'. Refute it at one input. -/
def rectHasWrong : ChangeSpec := { name := "rectHas", fn := fun _ => fun
  | [d1, d2, d3] => { results := [.lit (.bool false)], args := [d1, d2, d3] }
  | _ => none }
def RectHasWrongFalsely : Prop := rectHasRow.holds Try.pinned (OpenSpec.ofChange rectHasWrong)

/-- 'hedgerowlaw03.RectFars': WHATEVER THE INPUT: true; the input reads as it did. -/
def rectFarsSpec : ChangeSpec := { name := "rectFars", fn := fun _ => fun
  | [d1, d2] => { results := [.lit (.bool true)], args := [d1, d2] }
  | _ => none }
def rectFarsRow : OpenClaim := { program := "yteagndjoppnbgaa", sum := "92481e563626a0bf76299715fb2bcbe4160b061ddf9add78092abc62548c6062", func := "hedgerow/hedgerowlaw03.RectFars", spec := "rectFars", apart := false }
def RectFarsSaid : Prop := rectFarsRow.holds Try.pinned (OpenSpec.ofChange rectFarsSpec)

/-- ITS FALSE NEIGHBOUR: 'it returns false'. Refute it at one input. -/
def rectFarsWrong : ChangeSpec := { name := "rectFars", fn := fun _ => fun
  | [d1, d2] => { results := [.lit (.bool false)], args := [d1, d2] }
  | _ => none }
def RectFarsWrongFalsely : Prop := rectFarsRow.holds Try.pinned (OpenSpec.ofChange rectFarsWrong)

/-- 'hedgerowlaw03.RectCuts': WHATEVER THE INPUT: true; the input reads as it did. -/
def rectCutsSpec : ChangeSpec := { name := "rectCuts", fn := fun _ => fun
  | [d1, d2, d3] => { results := [.lit (.bool true)], args := [d1, d2, d3] }
  | _ => none }
def rectCutsRow : OpenClaim := { program := "yteagndjoppnbgaa", sum := "92481e563626a0bf76299715fb2bcbe4160b061ddf9add78092abc62548c6062", func := "hedgerow/hedgerowlaw03.RectCuts", spec := "rectCuts", apart := false }
def RectCutsSaid : Prop := rectCutsRow.holds Try.pinned (OpenSpec.ofChange rectCutsSpec)

/-- ITS FALSE NEIGHBOUR: 'it returns false'. Refute it at one input. -/
def rectCutsWrong : ChangeSpec := { name := "rectCuts", fn := fun _ => fun
  | [d1, d2, d3] => { results := [.lit (.bool false)], args := [d1, d2, d3] }
  | _ => none }
def RectCutsWrongFalsely : Prop := rectCutsRow.holds Try.pinned (OpenSpec.ofChange rectCutsWrong)

/-- 'hedgerowlaw03.RectGrows': WHATEVER THE INPUT: true; the input reads as it did. -/
def rectGrowsSpec : ChangeSpec := { name := "rectGrows", fn := fun _ => fun
  | [d1, d2] => { results := [.lit (.bool true)], args := [d1, d2] }
  | _ => none }
def rectGrowsRow : OpenClaim := { program := "yteagndjoppnbgaa", sum := "92481e563626a0bf76299715fb2bcbe4160b061ddf9add78092abc62548c6062", func := "hedgerow/hedgerowlaw03.RectGrows", spec := "rectGrows", apart := false }
def RectGrowsSaid : Prop := rectGrowsRow.holds Try.pinned (OpenSpec.ofChange rectGrowsSpec)

/-- ITS FALSE NEIGHBOUR: 'it returns false'. Refute it at one input. -/
def rectGrowsWrong : ChangeSpec := { name := "rectGrows", fn := fun _ => fun
  | [d1, d2] => { results := [.lit (.bool false)], args := [d1, d2] }
  | _ => none }
def RectGrowsWrongFalsely : Prop := rectGrowsRow.holds Try.pinned (OpenSpec.ofChange rectGrowsWrong)

/-- 'hedgerowlaw03.RectWithin': WHATEVER THE INPUT: true; the input reads as it did. -/
def rectWithinSpec : ChangeSpec := { name := "rectWithin", fn := fun _ => fun
  | [d1, d2, d3] => { results := [.lit (.bool true)], args := [d1, d2, d3] }
  | _ => none }
def rectWithinRow : OpenClaim := { program := "yteagndjoppnbgaa", sum := "92481e563626a0bf76299715fb2bcbe4160b061ddf9add78092abc62548c6062", func := "hedgerow/hedgerowlaw03.RectWithin", spec := "rectWithin", apart := false }
def RectWithinSaid : Prop := rectWithinRow.holds Try.pinned (OpenSpec.ofChange rectWithinSpec)

/-- ITS FALSE NEIGHBOUR: 'it returns false'. Refute it at one input. -/
def rectWithinWrong : ChangeSpec := { name := "rectWithin", fn := fun _ => fun
  | [d1, d2, d3] => { results := [.lit (.bool false)], args := [d1, d2, d3] }
  | _ => none }
def RectWithinWrongFalsely : Prop := rectWithinRow.holds Try.pinned (OpenSpec.ofChange rectWithinWrong)

/-- 'hedgerowlaw03.RectSteps': WHATEVER THE INPUT: true; the input reads as it did. -/
def rectStepsSpec : ChangeSpec := { name := "rectSteps", fn := fun _ => fun
  | [d1, d2, d3] => { results := [.lit (.bool true)], args := [d1, d2, d3] }
  | _ => none }
def rectStepsRow : OpenClaim := { program := "yteagndjoppnbgaa", sum := "92481e563626a0bf76299715fb2bcbe4160b061ddf9add78092abc62548c6062", func := "hedgerow/hedgerowlaw03.RectSteps", spec := "rectSteps", apart := false }
def RectStepsSaid : Prop := rectStepsRow.holds Try.pinned (OpenSpec.ofChange rectStepsSpec)

/-- ITS FALSE NEIGHBOUR: 'it returns false'. Refute it at one input. -/
def rectStepsWrong : ChangeSpec := { name := "rectSteps", fn := fun _ => fun
  | [d1, d2, d3] => { results := [.lit (.bool false)], args := [d1, d2, d3] }
  | _ => none }
def RectStepsWrongFalsely : Prop := rectStepsRow.holds Try.pinned (OpenSpec.ofChange rectStepsWrong)

/-- 'hedgerowlaw03.RectApart': WHATEVER THE INPUT: true; the input reads as it did. -/
def rectApartSpec : ChangeSpec := { name := "rectApart", fn := fun _ => fun
  | [d1, d2, d3] => { results := [.lit (.bool true)], args := [d1, d2, d3] }
  | _ => none }
def rectApartRow : OpenClaim := { program := "yteagndjoppnbgaa", sum := "92481e563626a0bf76299715fb2bcbe4160b061ddf9add78092abc62548c6062", func := "hedgerow/hedgerowlaw03.RectApart", spec := "rectApart", apart := false }
def RectApartSaid : Prop := rectApartRow.holds Try.pinned (OpenSpec.ofChange rectApartSpec)

/-- ITS FALSE NEIGHBOUR: 'it returns false'. Refute it at one input. -/
def rectApartWrong : ChangeSpec := { name := "rectApart", fn := fun _ => fun
  | [d1, d2, d3] => { results := [.lit (.bool false)], args := [d1, d2, d3] }
  | _ => none }
def RectApartWrongFalsely : Prop := rectApartRow.holds Try.pinned (OpenSpec.ofChange rectApartWrong)

/- THE SECOND FORM. 'bulk': how many values and letters a reading holds, each counted each time it is reached (what is shared counts as often as it is met; a slice's spare places count too). A statement '..UptoSaid' is the law's where the arguments, and the package variables that the reading takes, are together of bulk at most 1048576: NARROWER than '..Said'. Prove '..Said' where nothing that the law and all that it calls make is longer than what came in: it says more and counts as full. Else prove '..UptoSaid'. A law counts once. -/
mutual
def uptoBulk {H : Type} : DataW H → Nat
  | .lit (.string bytes) => bytes.length + 1
  | .lit _ => 1
  | .nil => 1
  | .ptr d => uptoBulk d + 1
  | .slice elems spare => uptoBulkAll elems + uptoBulkAll spare + 1
  | .agg parts => uptoBulkAll parts + 1
  | .iface _ d => uptoBulk d + 1
  | .map entries => uptoBulkEntries entries + 1
  | .held _ => 1
def uptoBulkAll {H : Type} : List (DataW H) → Nat
  | [] => 0
  | d :: r => uptoBulk d + uptoBulkAll r
def uptoBulkEntries {H : Type} : List (Lit × DataW H) → Nat
  | [] => 0
  | x :: r => uptoBulkEntry x + uptoBulkEntries r
def uptoBulkEntry {H : Type} : Lit × DataW H → Nat
  | (.string bytes, d) => bytes.length + uptoBulk d + 1
  | (_, d) => uptoBulk d + 1
 end
def uptoSmall : (H : Type) → List (DataW H) → Bool := fun _ ds => decide (uptoBulkAll ds ≤ 1048576)
def OpenSpec.upto (s : _root_.Go.ChangeSpec) : _root_.Go.OpenSpec := { _root_.Go.OpenSpec.ofChange s with cond := some uptoSmall }

/-- 'hedgerowlaw03.RectHas', WHERE WHAT IT READS IS OF BULK AT MOST 1048576: true; the input reads as it did. -/
def rectHasUptoRow : OpenClaim := { program := "yteagndjoppnbgaa", sum := "92481e563626a0bf76299715fb2bcbe4160b061ddf9add78092abc62548c6062", func := "hedgerow/hedgerowlaw03.RectHas", spec := "rectHas", apart := false, narrowed := true }
def RectHasUptoSaid : Prop := rectHasUptoRow.holds Try.pinned (OpenSpec.upto rectHasSpec)

/-- 'hedgerowlaw03.RectFars', WHERE WHAT IT READS IS OF BULK AT MOST 1048576: true; the input reads as it did. -/
def rectFarsUptoRow : OpenClaim := { program := "yteagndjoppnbgaa", sum := "92481e563626a0bf76299715fb2bcbe4160b061ddf9add78092abc62548c6062", func := "hedgerow/hedgerowlaw03.RectFars", spec := "rectFars", apart := false, narrowed := true }
def RectFarsUptoSaid : Prop := rectFarsUptoRow.holds Try.pinned (OpenSpec.upto rectFarsSpec)

/-- 'hedgerowlaw03.RectCuts', WHERE WHAT IT READS IS OF BULK AT MOST 1048576: true; the input reads as it did. -/
def rectCutsUptoRow : OpenClaim := { program := "yteagndjoppnbgaa", sum := "92481e563626a0bf76299715fb2bcbe4160b061ddf9add78092abc62548c6062", func := "hedgerow/hedgerowlaw03.RectCuts", spec := "rectCuts", apart := false, narrowed := true }
def RectCutsUptoSaid : Prop := rectCutsUptoRow.holds Try.pinned (OpenSpec.upto rectCutsSpec)

/-- 'hedgerowlaw03.RectGrows', WHERE WHAT IT READS IS OF BULK AT MOST 1048576: true; the input reads as it did. -/
def rectGrowsUptoRow : OpenClaim := { program := "yteagndjoppnbgaa", sum := "92481e563626a0bf76299715fb2bcbe4160b061ddf9add78092abc62548c6062", func := "hedgerow/hedgerowlaw03.RectGrows", spec := "rectGrows", apart := false, narrowed := true }
def RectGrowsUptoSaid : Prop := rectGrowsUptoRow.holds Try.pinned (OpenSpec.upto rectGrowsSpec)

/-- 'hedgerowlaw03.RectWithin', WHERE WHAT IT READS IS OF BULK AT MOST 1048576: true; the input reads as it did. -/
def rectWithinUptoRow : OpenClaim := { program := "yteagndjoppnbgaa", sum := "92481e563626a0bf76299715fb2bcbe4160b061ddf9add78092abc62548c6062", func := "hedgerow/hedgerowlaw03.RectWithin", spec := "rectWithin", apart := false, narrowed := true }
def RectWithinUptoSaid : Prop := rectWithinUptoRow.holds Try.pinned (OpenSpec.upto rectWithinSpec)

/-- 'hedgerowlaw03.RectSteps', WHERE WHAT IT READS IS OF BULK AT MOST 1048576: true; the input reads as it did. -/
def rectStepsUptoRow : OpenClaim := { program := "yteagndjoppnbgaa", sum := "92481e563626a0bf76299715fb2bcbe4160b061ddf9add78092abc62548c6062", func := "hedgerow/hedgerowlaw03.RectSteps", spec := "rectSteps", apart := false, narrowed := true }
def RectStepsUptoSaid : Prop := rectStepsUptoRow.holds Try.pinned (OpenSpec.upto rectStepsSpec)

/-- 'hedgerowlaw03.RectApart', WHERE WHAT IT READS IS OF BULK AT MOST 1048576: true; the input reads as it did. -/
def rectApartUptoRow : OpenClaim := { program := "yteagndjoppnbgaa", sum := "92481e563626a0bf76299715fb2bcbe4160b061ddf9add78092abc62548c6062", func := "hedgerow/hedgerowlaw03.RectApart", spec := "rectApart", apart := false, narrowed := true }
def RectApartUptoSaid : Prop := rectApartUptoRow.holds Try.pinned (OpenSpec.upto rectApartSpec)

end Rows
end Go.Proofs.Yteagndjoppnbgaa
