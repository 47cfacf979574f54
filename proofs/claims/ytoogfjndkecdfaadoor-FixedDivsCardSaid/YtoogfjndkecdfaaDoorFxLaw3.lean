/- The law's walk: Div. -/
import Derived.Test.YtoogfjndkecdfaaDoorFxLaw1
import Derived.Test.YtoogfjndkecdfaaDoorFxDiv
namespace Go.Proofs.YtoogfjndkecdfaaDoor
open Go.RowKit

set_option maxHeartbeats 1000000 in
set_option maxRecDepth 100000 in
theorem law_divs (w : World) (hg : Good w) (a : Int) (ha : -9223372036854775808 ≤ a ∧ a ≤ 9223372036854775807) (b : Int) (hb : -9223372036854775808 ≤ b ∧ b ≤ 9223372036854775807) :
    Calls Tryd.prog 6 #[.int .i64 a, .int .i64 b] w fun e w' => e = .returned (.bool true) ∧ Below w.heap.size w w' := by
  obtain ⟨q, bad, M, R⟩ : ∃ q bad : Int, Hid (∀ W, Calls Tryd.prog 20 #[.int .i64 a, .int .i64 b] W fun e w' => e = .returned (.tuple #[.int .i64 q, .int .i64 bad]) ∧ Below W.heap.size W w') ∧ Hid (∀ W, Calls Tryd.prog 21 #[.int .i64 a, .int .i64 b] W fun e w' => e = .returned (.tuple #[.int .i64 q, .int .i64 bad]) ∧ W = w') := by
    by_cases h0 : b = 0
    · subst h0
      exact ⟨0, 11, Lib.hid (fun W => div_zero a W), Lib.hid (fun W => rdiv_zero a W ha.1 ha.2)⟩
    · exact ⟨_, 0, Lib.hid (fun W => div_any a b W ha.1 ha.2 hb.1 hb.2 h0), Lib.hid (fun W => rdiv_any a b W ha.1 ha.2 hb.1 hb.2 h0)⟩
  go_enter Tryd.func6, Tryd.ntmps6
  go_wp2_with fail
  refine (M.out _).mono ?_
  rintro e w1 ⟨rfl, b1⟩
  have G1 : Good w1 := hg.below b1 (Nat.le_refl _)
  go_wp2_with fail
  refine (R.out _).mono ?_
  rintro e w' ⟨rfl, rfl⟩
  go_wp2_with fail
  refine (awake_hid.out _ G1).mono ?_
  rintro e w2 ⟨rfl, b2⟩
  go_wp2
  go_ret
  exact ⟨rfl, b1.trans (b2.mono b1.size)⟩
end Go.Proofs.YtoogfjndkecdfaaDoor
