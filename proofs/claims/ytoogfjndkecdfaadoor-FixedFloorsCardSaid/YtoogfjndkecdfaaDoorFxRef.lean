/- The document's Mul and Div, and both sums: what they answer. -/
import Derived.Test.YtoogfjndkecdfaaDoorFxCore
import Derived.Test.YtoogfjndkecdfaaDoorOpen
import Derived.LoopTactic
namespace Go.Proofs.YtoogfjndkecdfaaDoor
open Go.RowKit

namespace Fx
theorem rest_neg (p : Int) (h : p < 0) : p.tmod 256 = -((-p) % 256) := by
  have : p = -(-p) := by omega
  rw [this, Int.neg_tmod, Int.tmod_eq_emod_of_nonneg (by omega)]
  omega
theorem exact_neg (p : Int) (r : Int) (hr : p - r = 256 * (p / 256)) : (p - r).tdiv 256 = p / 256 := by
  rw [hr, Int.mul_tdiv_cancel_left _ (by omega)]
theorem mul_fq (a b : Int) : mul a b = clamp (clamp a * clamp b / 256) := by unfold mul fq; rw [if_pos (by omega)]
end Fx

set_option maxHeartbeats 1000000 in
set_option maxRecDepth 100000 in
theorem rmul_any (a b : Int) (w : World) (ha0 : -9223372036854775808 ≤ a) (ha1 : a ≤ 9223372036854775807) (hb0 : -9223372036854775808 ≤ b) (hb1 : b ≤ 9223372036854775807) :
    Calls Tryd.prog 19 #[.int .i64 a, .int .i64 b] w fun e w' => e = .returned (.int .i64 (Fx.mul a b)) ∧ w = w' := by
  have M := Lib.hid (Fx.mul_fq a b)
  obtain ⟨p0, p1⟩ := Fx.mul_bd a b
  by_cases hp : 0 ≤ Fx.clamp a * Fx.clamp b
  · have E := Lib.hid (show (Fx.clamp a * Fx.clamp b - Fx.clamp a * Fx.clamp b % 256) / 256 = Fx.clamp a * Fx.clamp b / 256 by omega)
    have r0 : 0 ≤ Fx.clamp a * Fx.clamp b % 256 := by omega
    have r1 : Fx.clamp a * Fx.clamp b % 256 ≤ Fx.clamp a * Fx.clamp b := by omega
    have t : decide (Fx.clamp a * Fx.clamp b % 256 < 0) = false := by simp; omega
    go_enter Tryd.func19, Tryd.ntmps19
    go_wp2_with (go_at_call 14; refine (rclamp_any _ _ (by omega) (by omega)).mono ?_; rintro e w' ⟨rfl, rfl⟩)
    go_ret
    exact ⟨ret_int (by rw [E.out, M.out]), rfl⟩
  · obtain ⟨r, hr⟩ : ∃ r, (Fx.clamp a * Fx.clamp b).tmod 256 = r := ⟨_, rfl⟩
    have hr' := Fx.rest_neg (Fx.clamp a * Fx.clamp b) (by omega)
    have e1 := Fx.exact_neg (Fx.clamp a * Fx.clamp b)
    have r0 : -256 < r := by omega
    have r1 : r ≤ 0 := by omega
    obtain ⟨d0, d1⟩ := Fx.tdiv_bd (Fx.clamp a * Fx.clamp b) 256 1152921504606846976 (by omega) (by omega)
    by_cases hz : r = 0
    · have E := Lib.hid (e1 r (by omega))
      have t : decide (r < 0) = false := by simp; omega
      obtain ⟨d0, d1⟩ := Fx.tdiv_bd (Fx.clamp a * Fx.clamp b - r) 256 1152921504606846976 (by omega) (by omega)
      clear hr' e1 hz
      go_enter Tryd.func19, Tryd.ntmps19
      go_wp2_with (go_at_call 14; refine (rclamp_any _ _ (by omega) (by omega)).mono ?_; rintro e w' ⟨rfl, rfl⟩)
      go_ret
      exact ⟨ret_int (by rw [E.out, M.out]), rfl⟩
    · have E := Lib.hid (e1 (r + 256) (by omega))
      have t : decide (r < 0) = true := by simp; omega
      obtain ⟨d0, d1⟩ := Fx.tdiv_bd (Fx.clamp a * Fx.clamp b - (r + 256)) 256 1152921504606847232 (by omega) (by omega)
      clear hr' e1 hz
      go_enter Tryd.func19, Tryd.ntmps19
      go_wp2_with (go_at_call 14; refine (rclamp_any _ _ (by omega) (by omega)).mono ?_; rintro e w' ⟨rfl, rfl⟩)
      go_ret
      exact ⟨ret_int (by rw [E.out, M.out]), rfl⟩

namespace Fx
theorem le_fq_pos {n d m : Int} (h : 0 < d) : m ≤ fq n d ↔ d * m ≤ n := by
  unfold fq
  rw [if_pos h, Int.le_ediv_iff_mul_le h, Int.mul_comm]
theorem le_fq_neg {n d m : Int} (h : d < 0) : m ≤ fq n d ↔ n ≤ d * m := by
  unfold fq
  rw [if_neg (by omega), Int.le_ediv_iff_mul_le (by omega), Int.mul_neg, Int.mul_comm]
  omega
theorem prod_bd (d m : Int) (D B : Nat) (h : d.natAbs ≤ D) (h' : m.natAbs ≤ B) : (d * m).natAbs ≤ D * B := by
  rw [Int.natAbs_mul]; exact Nat.mul_le_mul h h'
end Fx

set_option maxHeartbeats 1000000 in
theorem below_yes (m d n : Int) (w : World) (hd : d ≠ 0) (h0 : -9223372036854775808 ≤ d * m) (h1 : d * m ≤ 9223372036854775807) (h : m ≤ Fx.fq n d) :
    Calls Tryd.prog 27 #[.int .i64 m, .int .i64 d, .int .i64 n] w fun e w' => e = .returned (.bool true) ∧ w = w' := by
  rcases Int.lt_or_gt_of_ne hd with hn | hp
  · have t : decide (n ≤ d * m) = true := by simpa using (Fx.le_fq_neg hn).1 h
    clear h
    go_enter Tryd.func27, Tryd.ntmps27
    go_wp2
    go_ret
    exact ⟨rfl, rfl⟩
  · have t : decide (d * m ≤ n) = true := by simpa using (Fx.le_fq_pos hp).1 h
    clear h
    go_enter Tryd.func27, Tryd.ntmps27
    go_wp2
    go_ret
    exact ⟨rfl, rfl⟩
set_option maxHeartbeats 1000000 in
theorem below_no (m d n : Int) (w : World) (hd : d ≠ 0) (h0 : -9223372036854775808 ≤ d * m) (h1 : d * m ≤ 9223372036854775807) (h : Fx.fq n d < m) :
    Calls Tryd.prog 27 #[.int .i64 m, .int .i64 d, .int .i64 n] w fun e w' => e = .returned (.bool false) ∧ w = w' := by
  rcases Int.lt_or_gt_of_ne hd with hn | hp
  · have t : decide (n ≤ d * m) = false := by
      have := (Fx.le_fq_neg (n := n) (m := m) hn)
      rw [decide_eq_false_iff_not, ← this]; omega
    clear h
    go_enter Tryd.func27, Tryd.ntmps27
    go_wp2
    go_ret
    exact ⟨rfl, rfl⟩
  · have t : decide (d * m ≤ n) = false := by
      have := (Fx.le_fq_pos (n := n) (m := m) hp)
      rw [decide_eq_false_iff_not, ← this]; omega
    clear h
    go_enter Tryd.func27, Tryd.ntmps27
    go_wp2
    go_ret
    exact ⟨rfl, rfl⟩
end Go.Proofs.YtoogfjndkecdfaaDoor
