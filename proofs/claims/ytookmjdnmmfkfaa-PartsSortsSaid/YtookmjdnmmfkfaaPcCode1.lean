/- The code's small parts: within, nameMayBe, takes, Has, a number, the errors, the order of names. Written by wip/tools/genpc1.py. -/
import Derived.Test.YtookmjdnmmfkfaaPzEq
import Derived.Test.YtookmjdnmmfkfaaPzRef5
namespace Go.Proofs.Ytookmjdnmmfkfaa
open Go.RowKit Pz
set_option linter.unusedVariables false

namespace Pz
def within (n lo hi : Int) : Bool := decide (lo ≤ n) && decide (n ≤ hi)
/-- has a mask all bits of another one? -/
def hasB (m k : Int) : Bool := bits .and .i64 m k == k
theorem rightID_is (s i g : Int) : rightID s i g = ((within s 0 15 && within i 0 15) && within g 0 1048575) := by
  unfold rightID within
  rw [show decide (g < 1048576) = decide (g ≤ 1048575) from decide_eq_decide.2 (by omega)]
  simp only [ge_iff_le, Bool.and_assoc]
theorem inB_is (n lo hi : Int) (b : Bool) : inB n lo hi b = if b then within n lo hi else decide (n = 0) := rfl
theorem and_pow (m : Int) {j : Nat} (hj : j ≤ 4) : bits .and .i64 m ((2 : Int) ^ j) = if bitB m j then (2 : Int) ^ j else 0 := by
  have e : BitVec.ofInt 64 ((2 : Int) ^ j) = BitVec.twoPow 64 j := by
    have : j = 0 ∨ j = 1 ∨ j = 2 ∨ j = 3 ∨ j = 4 := by omega
    rcases this with rfl | rfl | rfl | rfl | rfl <;> rfl
  rw [bits_and, e, BitVec.and_twoPow, getLsb_of hj]
  split
  · have : j = 0 ∨ j = 1 ∨ j = 2 ∨ j = 3 ∨ j = 4 := by omega
    rcases this with rfl | rfl | rfl | rfl | rfl <;> rfl
  · rfl
theorem has_bit (m : Int) {j : Nat} (hj : j ≤ 4) : hasB m ((2 : Int) ^ j) = bitB m j := by
  have h0 : (2 : Int) ^ j ≠ 0 := by
    have : j = 0 ∨ j = 1 ∨ j = 2 ∨ j = 3 ∨ j = 4 := by omega
    rcases this with rfl | rfl | rfl | rfl | rfl <;> decide
  unfold hasB
  rw [and_pow m hj]
  cases bitB m j with
  | true => rw [if_pos rfl]; exact beq_self_eq_true _
  | false =>
    rw [if_neg (by decide)]
    exact beq_eq_false_iff_ne.2 fun e => h0 e.symm
theorem takes_is (m : Int) : takesB m = (within m 1 31 && (bits .and .i64 m 1 == 0)) := by
  have := and_pow m (j := 0) (by decide)
  rw [show (2 : Int) ^ 0 = 1 from rfl] at this
  unfold takesB within
  rw [this]
  cases bitB m 0 <;> rfl
def cmpI (x y : Int) : Int := if x < y then -1 else if x > y then 1 else 0
/-- the first one that is not 0 -/
def orI (x y z : Int) : Int := if x ≠ 0 then x else if y ≠ 0 then y else z
def cmpB (a b : Int × Int × Int) : Int := orI (cmpI a.1 b.1) (cmpI a.2.1 b.2.1) (cmpI a.2.2 b.2.2)
end Pz
set_option maxHeartbeats 4000000 in
theorem within_any (n lo hi : Int) (w : World) : Calls Try.prog 48 #[.int .i64 n, .int .i64 lo, .int .i64 hi] w fun e w' => e = .returned (.bool (within n lo hi)) ∧ w = w' := by
  unfold within
  obtain ⟨b1, t1⟩ : ∃ b, decide (lo ≤ n) = b := ⟨_, rfl⟩
  obtain ⟨b2, t2⟩ : ∃ b, decide (n ≤ hi) = b := ⟨_, rfl⟩
  rw [t1, t2]
  cases b1 with
  | false =>
    go_enter Try.func48, Try.ntmps48
    go_wp2
    go_ret
    exact ⟨rfl, rfl⟩
  | true =>
    go_enter Try.func48, Try.ntmps48
    go_wp2
    go_ret
    exact ⟨rfl, rfl⟩
set_option maxHeartbeats 4000000 in
theorem unless_any (b : Bool) (w : World) : Calls Try.prog 32 #[.bool b] w fun e w' => e = .returned (.int .i64 (errB b)) ∧ w = w' := by
  cases b with
  | false =>
    go_enter Try.func32, Try.ntmps32
    go_wp2
    go_ret
    exact ⟨rfl, rfl⟩
  | true =>
    go_enter Try.func32, Try.ntmps32
    go_wp2
    go_ret
    exact ⟨rfl, rfl⟩
set_option maxHeartbeats 4000000 in
theorem ctakes_any (m : Int) (w : World) : Calls Try.prog 49 #[.int .i64 m] w fun e w' => e = .returned (.bool (takesB m)) ∧ w = w' := by
  rw [takes_is]
  have H := Lib.hid fun W => within_any m 1 31 W
  obtain ⟨b1, t1⟩ : ∃ b, within m 1 31 = b := ⟨_, rfl⟩
  obtain ⟨b2, t2⟩ : ∃ b, (bits .and .i64 m 1 == 0) = b := ⟨_, rfl⟩
  rw [t1] at H
  rw [t1, t2]
  clear t1
  cases b1 with
  | false =>
    go_enter Try.func49, Try.ntmps49
    go_wp2_with (go_at_call 48; with_reducible refine (H.out _).mono ?_; rintro e w' ⟨rfl, rfl⟩)
    go_ret
    exact ⟨rfl, rfl⟩
  | true =>
    go_enter Try.func49, Try.ntmps49
    go_wp2_with (go_at_call 48; with_reducible refine (H.out _).mono ?_; rintro e w' ⟨rfl, rfl⟩)
    go_ret
    exact ⟨rfl, rfl⟩
set_option maxHeartbeats 8000000 in
theorem name_any (s i g : Int) (w : World) : Calls Try.prog 35 #[.agg #[.int .i64 s, .int .i64 i, .int .i64 g]] w fun e w' => e = .returned (.bool (rightID s i g)) ∧ Below w.heap.size w w' := by
  have FIN := Lib.hid (bel1 w (.cells #[.int .i64 s, .int .i64 i, .int .i64 g] 23))
  obtain ⟨⟨c0, c1, c2⟩, _⟩ := Bx.b3 (at1 w (.cells #[.int .i64 s, .int .i64 i, .int .i64 g] 23))
  rw [rightID_is]
  have H1 := Lib.hid fun W => within_any s 0 15 W
  have H2 := Lib.hid fun W => within_any i 0 15 W
  have H3 := Lib.hid fun W => within_any g 0 1048575 W
  generalize within s 0 15 = b1 at *
  generalize within i 0 15 = b2 at *
  generalize within g 0 1048575 = b3 at *
  generalize hww : w.alloc (.cells #[.int .i64 s, .int .i64 i, .int .i64 g] 23) = w1 at *
  cases b1 with
  | false =>
    go_enter Try.func35, Try.ntmps35
    go_wp2_with (first | (go_at_call 48; with_reducible refine (H1.out _).mono ?_; rintro e w' ⟨rfl, rfl⟩) | (go_at_call 48; with_reducible refine (H2.out _).mono ?_; rintro e w' ⟨rfl, rfl⟩) | (go_at_call 48; with_reducible refine (H3.out _).mono ?_; rintro e w' ⟨rfl, rfl⟩))
    go_ret
    exact ⟨rfl, FIN.out⟩
  | true =>
    cases b2 with
    | false =>
      go_enter Try.func35, Try.ntmps35
      go_wp2_with (first | (go_at_call 48; with_reducible refine (H1.out _).mono ?_; rintro e w' ⟨rfl, rfl⟩) | (go_at_call 48; with_reducible refine (H2.out _).mono ?_; rintro e w' ⟨rfl, rfl⟩) | (go_at_call 48; with_reducible refine (H3.out _).mono ?_; rintro e w' ⟨rfl, rfl⟩))
      go_ret
      exact ⟨rfl, FIN.out⟩
    | true =>
      go_enter Try.func35, Try.ntmps35
      go_wp2_with (first | (go_at_call 48; with_reducible refine (H1.out _).mono ?_; rintro e w' ⟨rfl, rfl⟩) | (go_at_call 48; with_reducible refine (H2.out _).mono ?_; rintro e w' ⟨rfl, rfl⟩) | (go_at_call 48; with_reducible refine (H3.out _).mono ?_; rintro e w' ⟨rfl, rfl⟩))
      go_ret
      exact ⟨rfl, FIN.out⟩
set_option maxHeartbeats 8000000 in
theorem has_any (b : Bn) (k : Int) (w : World) : Calls Try.prog 23 #[b.val, .int .i64 k] w fun e w' => e = .returned (.bool (hasB b.m k)) ∧ Below w.heap.size w w' := by
  obtain ⟨s, i, g, m, x, y, vx, vy, h, p, l⟩ := b
  unfold hasB
  simp only [Bn.val]
  obtain ⟨r, hr⟩ : ∃ r, bits .and .i64 m k = r := ⟨_, rfl⟩
  obtain ⟨t, ht⟩ : ∃ t, (r == k) = t := ⟨_, rfl⟩
  rw [hr, ht]
  have FIN := Lib.hid (bel1 w (.cells #[.int .i64 s, .int .i64 i, .int .i64 g, .int .i64 m, .int .i64 x, .int .i64 y, .int .i64 vx, .int .i64 vy, .int .i64 h, .int .i64 p, .int .i64 l] 25))
  obtain ⟨⟨k0, k1, k2, k3, k4, k5, k6, k7, k8, k9, k10⟩, _⟩ := Bx.b11 (at1 w (.cells #[.int .i64 s, .int .i64 i, .int .i64 g, .int .i64 m, .int .i64 x, .int .i64 y, .int .i64 vx, .int .i64 vy, .int .i64 h, .int .i64 p, .int .i64 l] 25))
  generalize hww : w.alloc (.cells #[.int .i64 s, .int .i64 i, .int .i64 g, .int .i64 m, .int .i64 x, .int .i64 y, .int .i64 vx, .int .i64 vy, .int .i64 h, .int .i64 p, .int .i64 l] 25) = w1 at *
  go_enter Try.func23, Try.ntmps23
  go_wp2
  go_ret
  exact ⟨rfl, FIN.out⟩

/-- of one component -/
theorem has_one (b : Bn) {j : Nat} (hj : j ≤ 4) (w : World) : Calls Try.prog 23 #[b.val, .int .i64 ((2 : Int) ^ j)] w fun e w' => e = .returned (.bool (bitB b.m j)) ∧ Below w.heap.size w w' := by
  have := has_any b ((2 : Int) ^ j) w
  rw [has_bit _ hj] at this
  exact this
set_option maxHeartbeats 8000000 in
theorem number_any (n c lo hi : Int) (there : Bool) (w : World) : Calls Try.prog 53 #[.agg #[.int .i64 n, .int .i64 c, .int .i64 lo, .int .i64 hi], .bool there] w fun e w' => e = .returned (.bool (inB n lo hi there)) ∧ Below w.heap.size w w' := by
  have FIN := Lib.hid (bel1 w (.cells #[.int .i64 n, .int .i64 c, .int .i64 lo, .int .i64 hi] 67))
  obtain ⟨⟨c0, c1, c2, c3⟩, _⟩ := box4 (at1 w (.cells #[.int .i64 n, .int .i64 c, .int .i64 lo, .int .i64 hi] 67))
  rw [inB_is]
  have H := Lib.hid fun W => within_any n lo hi W
  generalize within n lo hi = r at *
  obtain ⟨d, hd⟩ : ∃ d, (n == 0) = d := ⟨_, rfl⟩
  have hd' : decide (n = 0) = d := by rw [← hd]; rfl
  rw [hd']
  clear hd'
  generalize hww : w.alloc (.cells #[.int .i64 n, .int .i64 c, .int .i64 lo, .int .i64 hi] 67) = w1 at *
  cases there with
  | false =>
    rw [if_neg (by decide)]
    go_enter Try.func53, Try.ntmps53
    go_wp2
    go_ret
    exact ⟨rfl, FIN.out⟩
  | true =>
    rw [if_pos rfl]
    go_enter Try.func53, Try.ntmps53
    go_wp2_with ((go_at_call 48; with_reducible refine (H.out _).mono ?_; rintro e w' ⟨rfl, rfl⟩))
    go_ret
    exact ⟨rfl, FIN.out⟩

set_option maxHeartbeats 4000000 in
theorem isnan_any (n : Int) (w : World) : Calls Try.prog 50 #[.int .i64 n] w fun e w' => e = .returned (.bool false) ∧ w = w' := by
  have h : (n != n) = false := by simp
  go_enter Try.func50, Try.ntmps50
  go_wp2
  go_ret
  exact ⟨rfl, rfl⟩

set_option maxHeartbeats 8000000 in
theorem cmpi_any (x y : Int) (w : World) : Calls Try.prog 39 #[.int .i64 x, .int .i64 y] w fun e w' => e = .returned (.int .i64 (cmpI x y)) ∧ w = w' := by
  have N := Lib.hid isnan_any
  unfold cmpI
  by_cases h1 : x < y
  · rw [if_pos h1]
    have t1 : decide (x < y) = true := decide_eq_true h1
    go_enter Try.func39, Try.ntmps39
    go_wp2_with (go_at_call 50; with_reducible refine (N.out _ _).mono ?_; rintro e w' ⟨rfl, rfl⟩)
    go_ret
    exact ⟨rfl, rfl⟩
  · rw [if_neg h1]
    have t1 : decide (x < y) = false := decide_eq_false h1
    by_cases h2 : x > y
    · rw [if_pos h2]
      have t2 : decide (x > y) = true := decide_eq_true h2
      go_enter Try.func39, Try.ntmps39
      go_wp2_with (go_at_call 50; with_reducible refine (N.out _ _).mono ?_; rintro e w' ⟨rfl, rfl⟩)
      go_ret
      exact ⟨rfl, rfl⟩
    · rw [if_neg h2]
      have t2 : decide (x > y) = false := decide_eq_false h2
      go_enter Try.func39, Try.ntmps39
      go_wp2_with (go_at_call 50; with_reducible refine (N.out _ _).mono ?_; rintro e w' ⟨rfl, rfl⟩)
      go_ret
      exact ⟨rfl, rfl⟩
end Go.Proofs.Ytookmjdnmmfkfaa
