/- The laws' walks: the sums, Mul. -/
import Derived.Test.YtoogfjndkecdfaaDoorFxLaw1
import Derived.Test.YtoogfjndkecdfaaDoorFxRef
namespace Go.Proofs.YtoogfjndkecdfaaDoor
open Go.RowKit

set_option maxHeartbeats 1000000 in
set_option maxRecDepth 100000 in
theorem law_adds (w : World) (hg : Good w) (A : Option Addr) (cap : Nat) (l : List Int) (_ : l.length ≤ cap) (_ : cap ≤ 140737488351232) (hi : I64 l) (hr : Reads w w.heap.size A (ints l)) :
    Calls Tryd.prog 4 #[.slice A l.length cap] w fun e w' => e = .returned (.bool true) ∧ Below w.heap.size w w' := by
  by_cases hbig : 1000 < l.length
  · have t1 : decide (1000 < l.length) = true := by simpa using hbig
    clear hi hr
    go_enter Tryd.func4, Tryd.ntmps4
    go_wp2_with fail
    refine (awake_hid.out _ hg).mono ?_
    rintro e w1 ⟨rfl, b1⟩
    go_wp2
    go_ret
    exact ⟨rfl, b1⟩
  · have M := Lib.hid (fun W (hW : Reads W w.heap.size A (ints l)) => add_any A cap l W w.heap.size (by omega) hi hW)
    have R := Lib.hid (fun W (hW : Reads W w.heap.size A (ints l)) => radd_any A cap l W w.heap.size (by omega) hi hW)
    have HR := Lib.hid hr
    generalize Fx.add l = s at *
    clear hi hr
    go_enter Tryd.func4, Tryd.ntmps4
    go_wp2_with fail
    refine (M.out _ HR.out).mono ?_
    rintro e w' ⟨rfl, rfl⟩
    go_wp2_with fail
    refine (R.out _ HR.out).mono ?_
    rintro e w' ⟨rfl, rfl⟩
    go_wp2_with fail
    refine (awake_hid.out _ hg).mono ?_
    rintro e w1 ⟨rfl, b1⟩
    go_wp2
    go_ret
    exact ⟨rfl, b1⟩
set_option maxHeartbeats 1000000 in
set_option maxRecDepth 100000 in
theorem law_muls (w : World) (hg : Good w) (a : Int) (ha : -9223372036854775808 ≤ a ∧ a ≤ 9223372036854775807) (b : Int) (hb : -9223372036854775808 ≤ b ∧ b ≤ 9223372036854775807) :
    Calls Tryd.prog 5 #[.int .i64 a, .int .i64 b] w fun e w' => e = .returned (.bool true) ∧ Below w.heap.size w w' := by
  have M := Lib.hid (fun W => mul_any a b W ha.1 ha.2 hb.1 hb.2)
  have R := Lib.hid (fun W => rmul_any a b W ha.1 ha.2 hb.1 hb.2)
  generalize Fx.mul a b = m at *
  go_enter Tryd.func5, Tryd.ntmps5
  go_wp2_with fail
  refine (M.out _).mono ?_
  rintro e w1 ⟨rfl, b1⟩
  have G1 : Good w1 := hg.below b1 (Nat.le_refl _)
  go_wp2_with fail
  refine (R.out _).mono ?_
  rintro e w' ⟨rfl, rfl⟩
  go_wp2_with fail
  refine (awake_hid.out _ G1).mono ?_
  rintro e w2 ⟨rfl, b2⟩
  go_wp2
  go_ret
  exact ⟨rfl, b1.trans (b2.mono b1.size)⟩
end Go.Proofs.YtoogfjndkecdfaaDoor
