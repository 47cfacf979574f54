/- DiskNone, of a deed. -/
import Derived.Test.YtklgiocihknebaaDkLaw1
import Derived.Test.YtklgiocihknebaaOpenDeed
namespace Go.Proofs.Ytklgiocihknebaa
open Go.RowKit
theorem law_none' (w : World) (x : DD) (h : x.Fine) :
    Calls Try.prog 11 #[.agg #[.int .i64 x.kind, .int .i64 x.n, .string ⟨x.name.toArray⟩, .string ⟨x.to.toArray⟩, .string ⟨x.s.toArray⟩]] w fun e w' => e = .returned (.bool true) ∧ Below w.heap.size w w' :=
  law_none w x.kind x.n x.name x.to x.s h.kind h.n h.name h.to h.s
end Go.Proofs.Ytklgiocihknebaa
