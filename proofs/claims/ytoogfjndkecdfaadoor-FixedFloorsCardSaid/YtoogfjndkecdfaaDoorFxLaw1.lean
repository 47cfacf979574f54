/- The laws' walks: Clamp, and back again. -/
import Derived.Test.YtoogfjndkecdfaaDoorFxAwake
namespace Go.Proofs.YtoogfjndkecdfaaDoor
open Go.RowKit

theorem awake_hid : Hid (∀ W, Good W → Calls Tryd.prog 15 #[] W fun e w' => e = .returned (.bool true) ∧ Below W.heap.size W w') := Lib.hid (fun W hW => awake_any W hW)

set_option maxHeartbeats 1000000 in
set_option maxRecDepth 100000 in
theorem law_clamps (w : World) (hg : Good w) (n : Int) (h : -9223372036854775808 ≤ n ∧ n ≤ 9223372036854775807) :
    Calls Tryd.prog 3 #[.int .i64 n] w fun e w' => e = .returned (.bool true) ∧ Below w.heap.size w w' := by
  obtain ⟨h0, h1⟩ := h
  go_enter Tryd.func3, Tryd.ntmps3
  go_wp2_with (first | (go_at_call 13; refine (clamp_any _ _ (by omega) (by omega)).mono ?_; rintro e w' ⟨rfl, rfl⟩) | (go_at_call 14; refine (rclamp_any _ _ (by omega) (by omega)).mono ?_; rintro e w' ⟨rfl, rfl⟩) | (go_at_call 15; refine (awake_hid.out _ hg).mono ?_; rintro e w1 ⟨rfl, hb1⟩))
  go_ret
  exact ⟨rfl, hb1⟩

set_option maxHeartbeats 1000000 in
set_option maxRecDepth 100000 in
theorem law_back (w : World) (hg : Good w) (n : Int) (h : -9223372036854775808 ≤ n ∧ n ≤ 9223372036854775807) :
    Calls Tryd.prog 9 #[.int .i64 n] w fun e w' => e = .returned (.bool true) ∧ Below w.heap.size w w' := by
  have M := Lib.hid (fun W (hW : Good W) => show_any n W h.1 h.2 hW)
  have R := Lib.hid (fun W (hW : Good W) => show Calls Tryd.prog 24 #[.string ⟨(Fx.showL n).toArray⟩] W fun e w' => (e = .returned (.tuple #[.int .i64 (Fx.clamp n), .int .i64 0]) ∧ Below W.heap.size W w') from (read_any (Fx.showL n) W (by have := Fx.showL_len n; omega) hW).mono (by
    rintro e w' ⟨m, bad, hr, rfl, hb⟩
    obtain ⟨rfl, rfl⟩ := Fx.reads_back hr
    exact ⟨rfl, hb⟩))
  have C := Lib.hid (fun W => clamp_any n W h.1 h.2)
  generalize Fx.showL n = s at *
  generalize Fx.clamp n = c at *
  go_enter Tryd.func9, Tryd.ntmps9
  go_wp2_with fail
  refine (M.out _ hg).mono ?_
  rintro e w1 ⟨rfl, b1⟩
  have G1 : Good w1 := hg.below b1 (Nat.le_refl _)
  go_wp2_with fail
  refine (R.out _ G1).mono ?_
  rintro e w2 ⟨rfl, h2⟩
  have b2 := b1.trans (h2.mono b1.size)
  clear b1 h2 G1
  have G2 : Good w2 := hg.below b2 (Nat.le_refl _)
  go_wp2_with fail
  refine (C.out _).mono ?_
  rintro e w' ⟨rfl, rfl⟩
  go_wp2_with fail
  refine (awake_hid.out _ G2).mono ?_
  rintro e w3 ⟨rfl, b3⟩
  go_wp2
  go_ret
  exact ⟨rfl, b2.trans (b3.mono b2.size)⟩
end Go.Proofs.YtoogfjndkecdfaaDoor
