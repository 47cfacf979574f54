/- The laws' walks over the code, as their frames take them. -/
import Derived.Test.YtljaahemlcaffaaGreatK36
import Derived.Test.YtljaahemlcaffaaGreatK42
import Derived.Test.YtljaahemlcaffaaGreatK39
import Derived.Test.YtljaahemlcaffaaGreatK40
namespace Go.Proofs.YtljaahemlcaffaaGreat
open Go.RowKit Pz Sp
set_option linter.unusedVariables false
theorem law_splits' (w : World) (c0 c1 c2 c3 c4 c5 c6 : Int) (A : Option Addr) (qa : Nat) (l : List Bn) (R : RdB w w.heap.size A l) (hl : l.length ≤ qa ∧ qa ≤ 140737488351232) (hF : ∀ b ∈ l, b.Fits) (Ac : Option Addr) (qc : Nat) (cs : List Cn) (R2 : RdC w w.heap.size Ac cs) (hl2 : cs.length ≤ qc ∧ qc ≤ 140737488351232) (hF2 : ∀ c ∈ cs, CFit c) :
    Calls Tryz.prog 3 #[.agg #[.int .i64 c0, .int .i64 c1, .int .i64 c2, .int .i64 c3, .int .i64 c4, .int .i64 c5, .int .i64 c6], .slice A l.length qa, .slice Ac cs.length qc] w fun e w' => e = .returned (.bool true) ∧ Below w.heap.size w w' :=
  law_splits ct w c0 c1 c2 c3 c4 c5 c6 A Ac qa qc l cs R R2 hl hl2 hF hF2
end Go.Proofs.YtljaahemlcaffaaGreat
