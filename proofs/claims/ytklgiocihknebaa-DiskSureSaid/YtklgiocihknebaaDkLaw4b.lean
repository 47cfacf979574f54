/- DiskSure, its arguments in their order. -/
import Derived.Test.YtklgiocihknebaaDkLaw4
import Derived.Test.YtklgiocihknebaaOpenDeed
namespace Go.Proofs.Ytklgiocihknebaa
open Go.RowKit
theorem law_sure' (w : World) (a0 a1 : Dk.Str) (h0 : a0.length ≤ 140737488351232) (h1 : a1.length ≤ 140737488351232) (b0 b1 : Dk.Str) (k0 : b0.length ≤ 140737488351232) (k1 : b1.length ≤ 140737488351232) (n : Int) (hn : -9223372036854775808 ≤ n ∧ n ≤ 9223372036854775807) :
    Calls Try.prog 5 #[.agg #[.string ⟨a0.toArray⟩, .string ⟨a1.toArray⟩], .agg #[.string ⟨b0.toArray⟩, .string ⟨b1.toArray⟩], .int .i64 n] w fun e w' => e = .returned (.bool true) ∧ Below w.heap.size w w' :=
  law_sure w a0 a1 h0 h1 b0 b1 k0 k1 n hn
end Go.Proofs.Ytklgiocihknebaa
