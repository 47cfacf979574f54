/- DiskNames, its arguments in their order. -/
import Derived.Test.YtklgiocihknebaaDkLaw2
import Derived.Test.YtklgiocihknebaaOpenDeed
namespace Go.Proofs.Ytklgiocihknebaa
open Go.RowKit
theorem law_names' (w : World) (nm : Dk.Str) (h1 : nm.length ≤ 140737488351232) (to : Dk.Str) (h2 : to.length ≤ 140737488351232) (a b : Dk.Str) (ha : a.length ≤ 140737488351232) (hb : b.length ≤ 140737488351232) :
    Calls Try.prog 6 #[.string ⟨nm.toArray⟩, .string ⟨to.toArray⟩, .agg #[.string ⟨a.toArray⟩, .string ⟨b.toArray⟩]] w fun e w' => e = .returned (.bool true) ∧ Below w.heap.size w w' :=
  law_names w nm to a b h1 h2 ha hb
end Go.Proofs.Ytklgiocihknebaa
