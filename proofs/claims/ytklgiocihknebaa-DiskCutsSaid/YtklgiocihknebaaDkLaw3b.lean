/- DiskCuts, its arguments in their order. -/
import Derived.Test.YtklgiocihknebaaDkLaw3
import Derived.Test.YtklgiocihknebaaOpenDeed
namespace Go.Proofs.Ytklgiocihknebaa
open Go.RowKit
theorem law_cuts' (w : World) (a b c : Dk.Str) (ha : a.length ≤ 140737488351232) (hb : b.length ≤ 140737488351232) (hc : c.length ≤ 140737488351232) (n : Int) (hn : -9223372036854775808 ≤ n ∧ n ≤ 9223372036854775807) :
    Calls Try.prog 7 #[.agg #[.string ⟨a.toArray⟩, .string ⟨b.toArray⟩, .string ⟨c.toArray⟩], .int .i64 n] w fun e w' => e = .returned (.bool true) ∧ Below w.heap.size w w' :=
  law_cuts w a b c ha hb hc n hn
end Go.Proofs.Ytklgiocihknebaa
