/- The law's walk: Read. -/
import Derived.Test.YtoogfjndkecdfaaDoorFxLaw1
import Derived.Test.YtoogfjndkecdfaaDoorFxRRead
namespace Go.Proofs.YtoogfjndkecdfaaDoor
open Go.RowKit

set_option maxHeartbeats 1000000 in
set_option maxRecDepth 100000 in
theorem law_reads (w : World) (hg : Good w) (l : List UInt8) (hl : l.length ≤ 140737488351232) :
    Calls Tryd.prog 8 #[.string ⟨l.toArray⟩] w fun e w' => e = .returned (.bool true) ∧ Below w.heap.size w w' := by
  have M := Lib.hid (fun W (hW : Good W) => read_any l W (by omega) hW)
  have R := Lib.hid (fun W => rread_any l W (by omega))
  go_enter Tryd.func8, Tryd.ntmps8
  go_wp2_with fail
  refine (M.out _ hg).mono ?_
  rintro e w1 ⟨n, bad, hr, rfl, b1⟩
  have HR := Lib.hid hr
  clear hr
  have G1 : Good w1 := hg.below b1 (Nat.le_refl _)
  go_wp2_with fail
  refine (R.out _).mono ?_
  rintro e w' ⟨n2, bad2, hr, rfl, rfl⟩
  obtain ⟨rfl, rfl⟩ := Fx.reads_one HR.out hr
  clear hr HR
  go_wp2_with fail
  refine (awake_hid.out _ G1).mono ?_
  rintro e w2 ⟨rfl, b2⟩
  go_wp2
  go_ret
  exact ⟨rfl, b1.trans (b2.mono b1.size)⟩
end Go.Proofs.YtoogfjndkecdfaaDoor
