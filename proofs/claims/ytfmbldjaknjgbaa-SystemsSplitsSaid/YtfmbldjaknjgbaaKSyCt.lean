/- What the laws ask of the code, as propositions; a name's and an entity's equality with itself. Written by wip/tools/gensy.py. -/
import Derived.Test.YtfmbldjaknjgbaaKSyB
import Derived.Test.YtfmbldjaknjgbaaKSyRef3
import Derived.Test.YtfmbldjaknjgbaaKSyA
namespace Go.Proofs.Ytfmbldjaknjgbaa
open Go.RowKit Pz Sp
set_option linter.unusedVariables false
set_option linter.unusedSimpArgs false

/-- the code's functions answer as the document's -/
structure SyCt : Prop where
  hurt : ∀ (b : Bn) (n : Int) (W : World), b.Fits → Fit n → Calls Try.prog 17 #[b.val, .int .i64 n] W fun e V => e = .returned (.tuple #[(Sy.hurt b n).1.val, .bool (Sy.hurt b n).2]) ∧ Below W.heap.size W V
  age : ∀ (b : Bn) (W : World), b.Fits → Calls Try.prog 19 #[b.val] W fun e V => e = .returned (.tuple #[(Sy.age b).1.val, .bool (Sy.age b).2]) ∧ Below W.heap.size W V
  obey : ∀ (b : Bn) (c : Cn) (W : World), b.Fits → c.b.Fits → Fit c.m → Calls Try.prog 21 #[b.val, c.val] W fun e V => e = .returned (.tuple #[(Sy.obey b c.k (c.s, c.i, c.g) c.b c.m).1.val, .bool (Sy.obey b c.k (c.s, c.i, c.g) c.b c.m).2]) ∧ Below W.heap.size W V
  move : ∀ (q : Nat) (C R S D V N Q : Int) (b : Bn) (W : World), MapAt W q C R S D V N Q → Zn.Ok C R S D V → b.Fits → Calls Try.prog 25 #[.pointer (some ⟨q, 0, none⟩), b.val] W fun e U => e = .returned (Sy.move C R S V b).val ∧ Below W.heap.size W U
  moveNil : ∀ (b : Bn) (W : World), Calls Try.prog 25 #[.pointer none, b.val] W fun e V => e = .returned b.val ∧ Below W.heap.size W V
  hits : ∀ (W : World) (A A2 : Option Addr) (c c2 : Nat) (own others : List Bn) (r : Int), RdB W W.heap.size A own → RdB W W.heap.size A2 others → own.length ≤ 1000 → others.length ≤ 1000 → (∀ x ∈ own, Fit x.m) → (∀ x ∈ others, Fit x.m) →
    Calls Try.prog 13 #[.int .i64 r, .slice A own.length c, .slice A2 others.length c2] W fun e V => ∃ A' c', e = .returned (.slice A' (Sy.hits r own others).length c') ∧ OwnH V W.heap.size (.slice A' (Sy.hits r own others).length c') (Sy.hits r own others) ∧ Below W.heap.size W V
  awake : ∀ W : World, Calls Try.prog 16 #[] W fun e V => e = .returned (.bool true) ∧ Below W.heap.size W V
theorem eq_self (d : Nat) (p0 p1 p2 p3 p4 p5 p6 p7 p8 p9 p10 : Int) (V : World) : (Op.equalIn (9999 + 1) 34 (.agg #[.int .i64 p0, .int .i64 p1, .int .i64 p2, .int .i64 p3, .int .i64 p4, .int .i64 p5, .int .i64 p6, .int .i64 p7, .int .i64 p8, .int .i64 p9, .int .i64 p10]) (.agg #[.int .i64 p0, .int .i64 p1, .int .i64 p2, .int .i64 p3, .int .i64 p4, .int .i64 p5, .int .i64 p6, .int .i64 p7, .int .i64 p8, .int .i64 p9, .int .i64 p10])).run Try.prog V = .ok true V := by
  rw [eq_bundle]; simp
end Go.Proofs.Ytfmbldjaknjgbaa
