/- fixed.Clamp, floor, Mul, Div and the document's: what they answer. -/
import Derived.Test.YtoogfjndkecdfaaDoorFxPure
import Derived.Test.YtoogfjndkecdfaaDoorRows
import Derived.WalkKit
import Derived.RegionTactic
import Derived.Deep.QuietTactic
import Derived.BigQuiet
import Derived.Handy
import Derived.Lib.Hide
namespace Go.Proofs.YtoogfjndkecdfaaDoor
open Go.RowKit

theorem clamp_hi {n : Int} (h : 1073741824 < n) : Fx.clamp n = 1073741824 := by unfold Fx.clamp; rw [if_pos h]
theorem clamp_lo {n : Int} (h : n < -1073741824) : Fx.clamp n = -1073741824 := by unfold Fx.clamp; rw [if_neg (by omega), if_pos h]
theorem clamp_in {n : Int} (h : -1073741824 ≤ n) (h' : n ≤ 1073741824) : Fx.clamp n = n := Fx.clamp_of ⟨h, h'⟩
theorem clamp_bd (n : Int) : -1073741824 ≤ Fx.clamp n ∧ Fx.clamp n ≤ 1073741824 := Fx.clamp_fixed n
theorem below_dn (w : World) (n : Nat) : Below w.heap.size w (w.drewN n) := ⟨rfl, rfl, rfl, Nat.le_refl _, fun _ _ => rfl⟩
theorem ret_int {k : IntKind} {a b : Int} (h : a = b) : Ending.returned (.int k a) = .returned (.int k b) := by rw [h]

set_option maxHeartbeats 400000 in
theorem clamp_any (n : Int) (w : World) (h0 : -9223372036854775808 ≤ n) (h1 : n ≤ 9223372036854775807) :
    Calls Tryd.prog 13 #[.int .i64 n] w fun e w' => e = .returned (.int .i64 (Fx.clamp n)) ∧ w = w' := by
  rcases (show 1073741824 < n ∨ n < -1073741824 ∨ (-1073741824 ≤ n ∧ n ≤ 1073741824) by omega) with h | h | ⟨h, h'⟩
  · have hc := Lib.hid (clamp_hi h)
    go_enter Tryd.func13, Tryd.ntmps13
    go_wp2
    all_goals
      go_ret
      exact ⟨ret_int (by rw [hc.out]), rfl⟩
  · have hc := Lib.hid (clamp_lo h)
    go_enter Tryd.func13, Tryd.ntmps13
    go_wp2
    all_goals
      go_ret
      exact ⟨ret_int (by rw [hc.out]), rfl⟩
  · have hc := Lib.hid (clamp_in h h')
    go_enter Tryd.func13, Tryd.ntmps13
    go_wp2
    all_goals
      go_ret
      exact ⟨ret_int (by rw [hc.out]; try omega), rfl⟩
set_option maxHeartbeats 400000 in
theorem rclamp_any (n : Int) (w : World) (h0 : -9223372036854775808 ≤ n) (h1 : n ≤ 9223372036854775807) :
    Calls Tryd.prog 14 #[.int .i64 n] w fun e w' => e = .returned (.int .i64 (Fx.clamp n)) ∧ w = w' := by
  rcases (show 1073741824 < n ∨ n < -1073741824 ∨ (-1073741824 ≤ n ∧ n ≤ 1073741824) by omega) with h | h | ⟨h, h'⟩
  · go_enter Tryd.func14, Tryd.ntmps14
    go_wp2
    go_ret
    exact ⟨ret_int (clamp_hi h).symm, rfl⟩
  · go_enter Tryd.func14, Tryd.ntmps14
    go_wp2
    go_ret
    exact ⟨ret_int (clamp_lo h).symm, rfl⟩
  · go_enter Tryd.func14, Tryd.ntmps14
    go_wp2
    go_ret
    exact ⟨ret_int (clamp_in h h').symm, rfl⟩

namespace Fx
/-- the greatest whole number that is not above a / b -/
def fq (a b : Int) : Int := if 0 < b then a / b else (-a) / (-b)
theorem quo_unique {a b q r : Int} (hb : 0 < b) (h : r + b * q = a) (h0 : 0 ≤ r) (h1 : r < b) : a / b = q := ((Int.ediv_emod_unique hb).2 ⟨h, h0, h1⟩).1
theorem t_parts (a b : Int) : b * a.tdiv b + a.tmod b = a := Int.mul_tdiv_add_tmod a b
theorem t_pos (a : Int) {b : Int} (hb : 0 < b) : -b < a.tmod b ∧ a.tmod b < b := by
  refine ⟨?_, Int.tmod_lt_of_pos a hb⟩
  have := Int.tmod_lt_of_pos (-a) hb
  rw [Int.neg_tmod] at this
  omega
theorem fq_pos {a b q r : Int} (hb : 0 < b) (h : b * q + r = a) (h0 : -b < r) (h1 : r < b) : (0 ≤ r → fq a b = q) ∧ (r < 0 → fq a b = q - 1) := by
  unfold fq
  rw [if_pos hb]
  refine ⟨fun hr => quo_unique hb (by omega) hr h1, fun hr => quo_unique (r := r + b) hb ?_ (by omega) (by omega)⟩
  rw [Int.mul_sub]; omega
theorem fq_neg {a b q r : Int} (hb : b < 0) (h : b * q + r = a) (h0 : b < r) (h1 : r < -b) : (r ≤ 0 → fq a b = q) ∧ (0 < r → fq a b = q - 1) := by
  unfold fq
  rw [if_neg (by omega)]
  have e : -b * q = -(b * q) := Int.neg_mul b q
  refine ⟨fun hr => quo_unique (r := -r) (by omega) (by rw [e]; omega) (by omega) (by omega), fun hr => quo_unique (r := -b - r) (by omega) ?_ (by omega) (by omega)⟩
  rw [Int.mul_sub, e]; omega
theorem fq_same {a b : Int} (hb : b ≠ 0) (h : a.tmod b = 0 ∨ (a.tmod b < 0 ∧ b < 0) ∨ (0 < a.tmod b ∧ 0 < b)) : fq a b = a.tdiv b := by
  have hp := t_parts a b
  rcases Int.lt_or_gt_of_ne hb with h' | h'
  · have := t_pos a (b := -b) (by omega)
    rw [Int.tmod_neg] at this
    exact (fq_neg h' hp (by omega) (by omega)).1 (by omega)
  · have := t_pos a h'
    exact (fq_pos h' hp this.1 this.2).1 (by omega)
theorem fq_other {a b : Int} (hb : b ≠ 0) (h : (0 < a.tmod b ∧ b < 0) ∨ (a.tmod b < 0 ∧ 0 < b)) : fq a b = a.tdiv b - 1 := by
  have hp := t_parts a b
  rcases Int.lt_or_gt_of_ne hb with h' | h'
  · have := t_pos a (b := -b) (by omega)
    rw [Int.tmod_neg] at this
    exact (fq_neg h' hp (by omega) (by omega)).2 (by omega)
  · have := t_pos a h'
    exact (fq_pos h' hp this.1 this.2).2 (by omega)
theorem tdiv_bd (a b : Int) (B : Nat) (h0 : -(B : Int) ≤ a) (h1 : a ≤ B) : -(B : Int) ≤ a.tdiv b ∧ a.tdiv b ≤ B := by
  have := Int.natAbs_tdiv_le_natAbs a b
  omega
theorem tmod_bd (a b : Int) (B : Nat) (h0 : -(B : Int) ≤ a) (h1 : a ≤ B) : -(B : Int) ≤ a.tmod b ∧ a.tmod b ≤ B := by
  have : (a.tmod b).natAbs ≤ a.natAbs := by rw [Int.natAbs_tmod]; exact Nat.mod_le _ _
  omega
theorem mul_bd (a b : Int) : -1152921504606846976 ≤ clamp a * clamp b ∧ clamp a * clamp b ≤ 1152921504606846976 := by
  have ha := clamp_bd a
  have hb := clamp_bd b
  have h : (clamp a * clamp b).natAbs ≤ 1073741824 * 1073741824 := by
    rw [Int.natAbs_mul]
    exact Nat.mul_le_mul (by omega) (by omega)
  omega
def mul (a b : Int) : Int := clamp (fq (clamp a * clamp b) 256)
def quo (a b : Int) : Int := clamp (fq (clamp a * 256) (clamp b))
theorem fq_bd {a b : Int} (B : Nat) (hb : b ≠ 0) (h0 : -(B : Int) ≤ a) (h1 : a ≤ B) : -(B : Int) - 1 ≤ fq a b ∧ fq a b ≤ B := by
  have hq := tdiv_bd a b B h0 h1
  have h : fq a b = a.tdiv b ∨ fq a b = a.tdiv b - 1 := by
    rcases (show (a.tmod b = 0 ∨ (a.tmod b < 0 ∧ b < 0) ∨ (0 < a.tmod b ∧ 0 < b)) ∨ ((0 < a.tmod b ∧ b < 0) ∨ (a.tmod b < 0 ∧ 0 < b)) by omega) with h | h
    · exact .inl (fq_same hb h)
    · exact .inr (fq_other hb h)
  omega
end Fx

set_option maxHeartbeats 1000000 in
theorem floor_any (a b : Int) (w : World) (ha0 : -1152921504606846976 ≤ a) (ha1 : a ≤ 1152921504606846976) (hb : b ≠ 0) (hb0 : -1073741824 ≤ b) (hb1 : b ≤ 1073741824) :
    Calls Tryd.prog 26 #[.int .i64 a, .int .i64 b] w fun e w' => e = .returned (.int .i64 (Fx.fq a b)) ∧ Below w.heap.size w w' := by
  have q := Fx.tdiv_bd a b 1152921504606846976 ha0 ha1
  have r := Fx.tmod_bd a b 1152921504606846976 ha0 ha1
  have q0 := q.1
  have q1 := q.2
  have r0 := r.1
  have r1 := r.2
  clear q r
  have hbz : (b == 0) = false := by simpa using hb
  rcases (show a.tmod b = 0 ∨ (a.tmod b < 0 ∧ b < 0) ∨ (0 < a.tmod b ∧ 0 < b) ∨ (0 < a.tmod b ∧ b < 0) ∨ (a.tmod b < 0 ∧ 0 < b) by omega) with h | ⟨h, hs⟩ | ⟨h, hs⟩ | ⟨h, hs⟩ | ⟨h, hs⟩
  · have F := Lib.hid (Fx.fq_same hb (.inl h))
    go_enter Tryd.func26, Tryd.ntmps26
    go_wp2
    go_quiet (fail)
    go_wp2
    go_ret
    exact ⟨ret_int F.out.symm, below_dn _ _⟩
  · have F := Lib.hid (Fx.fq_same hb (.inr (.inl ⟨h, hs⟩)))
    have t1 : (a.tmod b != 0) = true := by simp; omega
    have t2 : decide (a.tmod b < 0) = true := by simpa using h
    have t3 : decide (b < 0) = true := by simpa using hs
    go_enter Tryd.func26, Tryd.ntmps26
    go_wp2
    go_quiet (fail)
    go_wp2
    go_ret
    exact ⟨ret_int F.out.symm, below_dn _ _⟩
  · have F := Lib.hid (Fx.fq_same hb (.inr (.inr ⟨h, hs⟩)))
    have t1 : (a.tmod b != 0) = true := by simp; omega
    have t2 : decide (a.tmod b < 0) = false := by simp; omega
    have t3 : decide (b < 0) = false := by simp; omega
    go_enter Tryd.func26, Tryd.ntmps26
    go_wp2
    go_quiet (fail)
    go_wp2
    go_ret
    exact ⟨ret_int F.out.symm, below_dn _ _⟩
  · have F := Lib.hid (Fx.fq_other hb (.inl ⟨h, hs⟩))
    have t1 : (a.tmod b != 0) = true := by simp; omega
    have t2 : decide (a.tmod b < 0) = false := by simp; omega
    have t3 : decide (b < 0) = true := by simpa using hs
    go_enter Tryd.func26, Tryd.ntmps26
    go_wp2
    go_quiet (fail)
    go_wp2
    go_ret
    exact ⟨ret_int F.out.symm, below_dn _ _⟩
  · have F := Lib.hid (Fx.fq_other hb (.inr ⟨h, hs⟩))
    have t1 : (a.tmod b != 0) = true := by simp; omega
    have t2 : decide (a.tmod b < 0) = true := by simpa using h
    have t3 : decide (b < 0) = false := by simp; omega
    go_enter Tryd.func26, Tryd.ntmps26
    go_wp2
    go_quiet (fail)
    go_wp2
    go_ret
    exact ⟨ret_int F.out.symm, below_dn _ _⟩

set_option maxHeartbeats 1000000 in
theorem mul_any (a b : Int) (w : World) (ha0 : -9223372036854775808 ≤ a) (ha1 : a ≤ 9223372036854775807) (hb0 : -9223372036854775808 ≤ b) (hb1 : b ≤ 9223372036854775807) :
    Calls Tryd.prog 18 #[.int .i64 a, .int .i64 b] w fun e w' => e = .returned (.int .i64 (Fx.mul a b)) ∧ Below w.heap.size w w' := by
  obtain ⟨p0, p1⟩ := Fx.mul_bd a b
  obtain ⟨f0, f1⟩ := Fx.fq_bd (a := Fx.clamp a * Fx.clamp b) (b := 256) 1152921504606846976 (by omega) (by omega) (by omega)
  go_enter Tryd.func18, Tryd.ntmps18
  go_wp2_with (first | (go_at_call 13; refine (clamp_any _ _ (by omega) (by omega)).mono ?_; rintro e w' ⟨rfl, rfl⟩) | (go_at_call 26; refine (floor_any _ _ _ (by omega) (by omega) (by omega) (by omega) (by omega)).mono ?_; rintro e w1 ⟨rfl, hb1⟩))
  go_ret
  exact ⟨rfl, hb1⟩

set_option maxHeartbeats 1000000 in
theorem div_zero (a : Int) (w : World) :
    Calls Tryd.prog 20 #[.int .i64 a, .int .i64 0] w fun e w' => e = .returned (.tuple #[.int .i64 0, .int .i64 11]) ∧ Below w.heap.size w w' := by
  go_enter Tryd.func20, Tryd.ntmps20
  go_wp2
  go_ret2
  exact ⟨rfl, Below.refl _ _⟩
theorem clamp_ne {b : Int} (h : b ≠ 0) : Fx.clamp b ≠ 0 := by
  unfold Fx.clamp
  split
  · omega
  · split <;> omega
set_option maxHeartbeats 1000000 in
theorem div_any (a b : Int) (w : World) (ha0 : -9223372036854775808 ≤ a) (ha1 : a ≤ 9223372036854775807) (hb0 : -9223372036854775808 ≤ b) (hb1 : b ≤ 9223372036854775807) (hb : b ≠ 0) :
    Calls Tryd.prog 20 #[.int .i64 a, .int .i64 b] w fun e w' => e = .returned (.tuple #[.int .i64 (Fx.quo a b), .int .i64 0]) ∧ Below w.heap.size w w' := by
  have hc := clamp_ne hb
  obtain ⟨c0, c1⟩ := clamp_bd a
  obtain ⟨d0, d1⟩ := clamp_bd b
  obtain ⟨f0, f1⟩ := Fx.fq_bd (a := Fx.clamp a * 256) (b := Fx.clamp b) 1152921504606846976 hc (by omega) (by omega)
  have hbz : (b == 0) = false := by simpa using hb
  go_enter Tryd.func20, Tryd.ntmps20
  go_wp2_with (first | (go_at_call 13; refine (clamp_any _ _ (by omega) (by omega)).mono ?_; rintro e w' ⟨rfl, rfl⟩) | (go_at_call 26; refine (floor_any _ _ _ (by omega) (by omega) hc (by omega) (by omega)).mono ?_; rintro e w1 ⟨rfl, hb1⟩))
  go_ret2
  exact ⟨rfl, hb1⟩
end Go.Proofs.YtoogfjndkecdfaaDoor
