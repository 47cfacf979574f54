/- The law's walk: Show. -/
import Derived.Test.YtoogfjndkecdfaaDoorFxLaw1
import Derived.Test.YtoogfjndkecdfaaDoorFxRShow
namespace Go.Proofs.YtoogfjndkecdfaaDoor
open Go.RowKit

set_option maxHeartbeats 1000000 in
set_option maxRecDepth 100000 in
theorem law_shows (w : World) (hg : Good w) (n : Int) (h : -9223372036854775808 ≤ n ∧ n ≤ 9223372036854775807) :
    Calls Tryd.prog 7 #[.int .i64 n] w fun e w' => e = .returned (.bool true) ∧ Below w.heap.size w w' := by
  have M := Lib.hid (fun W (hW : Good W) => show_any n W h.1 h.2 hW)
  have R := Lib.hid (fun W => rshow_any n W h.1 h.2)
  generalize Fx.showL n = m at *
  go_enter Tryd.func7, Tryd.ntmps7
  go_wp2_with fail
  refine (M.out _ hg).mono ?_
  rintro e w1 ⟨rfl, b1⟩
  have G1 : Good w1 := hg.below b1 (Nat.le_refl _)
  go_wp2_with fail
  refine (R.out _).mono ?_
  rintro e w' ⟨rfl, rfl⟩
  go_wp2_with fail
  refine (awake_hid.out _ G1).mono ?_
  rintro e w2 ⟨rfl, b2⟩
  go_wp2
  go_ret
  exact ⟨rfl, b1.trans (b2.mono b1.size)⟩
end Go.Proofs.YtoogfjndkecdfaaDoor
