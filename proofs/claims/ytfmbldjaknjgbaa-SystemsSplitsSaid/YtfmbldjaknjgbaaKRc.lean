/- RcCore, RcRef, QuFar, in one text. -/
import Derived.Test.YtfmbldjaknjgbaaKPu
import Derived.Test.YtfmbldjaknjgbaaKBase
import Derived.Test.YtfmbldjaknjgbaaRows
namespace Go.Proofs.Ytfmbldjaknjgbaa
open Go.RowKit
attribute [local go_sem high] run_max_ints3

set_option maxHeartbeats 400000 in
set_option maxRecDepth 100000 in
theorem clamp_any (n : Int) (w : World) (_ : -9223372036854775808 ≤ n) (_ : n ≤ 9223372036854775807) :
    Calls Try.prog 73 #[.int .i64 n] w fun e w' => e = .returned (.int .i64 (Rc.clamp n)) ∧ w = w' := by
  go_enter Try.func73, Try.ntmps73
  go_wp2
  go_ret
  exact ⟨rfl, rfl⟩

set_option maxHeartbeats 1000000 in
set_option maxRecDepth 100000 in
theorem counted_none (a b c d : Int) (w : World) (ha : I a) (hb : I b) (hc : I c) (hd : I d) (h : Rc.None a b c d) :
    Calls Try.prog 85 #[.agg #[.int .i64 a, .int .i64 b, .int .i64 c, .int .i64 d]] w fun e w' => e = .returned (.agg #[.int .i64 0, .int .i64 0, .int .i64 0, .int .i64 0]) ∧ Below w.heap.size w w' := by
  obtain ⟨a0, a1⟩ := ha
  obtain ⟨b0, b1⟩ := hb
  obtain ⟨c0, c1⟩ := hc
  obtain ⟨d0, d1⟩ := hd
  have hx : Rc.clamp a < Rc.clamp c → Rc.clamp d ≤ Rc.clamp b := fun h' => by rcases h with h | h <;> omega
  clear h
  go_enter Try.func85, Try.ntmps85
  go_wp2
  refine still_tail 13 (by kernel_rfl) (by kernel_rfl) fun W hW hD => ?_
  simp only [List.take_succ_cons, List.take_zero, List.drop_succ_cons, List.drop_zero]
  repeat (first | still_step | still_call (still_of (clamp_any _ _ (by omega) (by omega))))
  refine wpStill_nil ?_
  have hD' := hD.out
  subst hD'
  clear hW hD
  go_wp2
  all_goals exact bodyPost_ret (v := .agg #[.int .i64 0, .int .i64 0, .int .i64 0, .int .i64 0]) (by simp [results, Try.results85, go_sem]) rfl ⟨rfl, Below.d' (bel2 _ _ _)⟩
set_option maxHeartbeats 1000000 in
set_option maxRecDepth 100000 in
theorem counted_some (a b c d : Int) (w : World) (ha : I a) (hb : I b) (hc : I c) (hd : I d) (h : ¬ Rc.None a b c d) :
    Calls Try.prog 85 #[.agg #[.int .i64 a, .int .i64 b, .int .i64 c, .int .i64 d]] w fun e w' => e = .returned (.agg #[.int .i64 (Rc.clamp a), .int .i64 (Rc.clamp b), .int .i64 (Rc.clamp c), .int .i64 (Rc.clamp d)]) ∧ Below w.heap.size w w' := by
  obtain ⟨a0, a1⟩ := ha
  obtain ⟨b0, b1⟩ := hb
  obtain ⟨c0, c1⟩ := hc
  obtain ⟨d0, d1⟩ := hd
  have hx : Rc.clamp a < Rc.clamp c := by unfold Rc.None at h; omega
  have hy : Rc.clamp b < Rc.clamp d := by unfold Rc.None at h; omega
  clear h
  go_enter Try.func85, Try.ntmps85
  go_wp2
  refine still_tail 13 (by kernel_rfl) (by kernel_rfl) fun W hW hD => ?_
  simp only [List.take_succ_cons, List.take_zero, List.drop_succ_cons, List.drop_zero]
  repeat (first | still_step | still_call (still_of (clamp_any _ _ (by omega) (by omega))))
  refine wpStill_nil ?_
  have hD' := hD.out
  subst hD'
  clear hW hD
  go_wp2
  all_goals exact bodyPost_ret (v := .agg #[.int .i64 (Rc.clamp a), .int .i64 (Rc.clamp b), .int .i64 (Rc.clamp c), .int .i64 (Rc.clamp d)]) (by simp [results, Try.results85, go_sem]) rfl ⟨rfl, Below.d' (bel2 _ _ _)⟩

set_option maxHeartbeats 400000 in
set_option maxRecDepth 100000 in
theorem none_yes (w : World) :
    Calls Try.prog 86 #[.agg #[.int .i64 0, .int .i64 0, .int .i64 0, .int .i64 0]] w fun e w' => e = .returned (.bool true) ∧ Below w.heap.size w w' := by
  go_enter Try.func86, Try.ntmps86
  go_wp2
  go_ret
  exact ⟨rfl, bel1 _ _⟩
set_option maxHeartbeats 400000 in
set_option maxRecDepth 100000 in
theorem none_no (a b c d : Int) (w : World) (h : a < c) :
    Calls Try.prog 86 #[.agg #[.int .i64 a, .int .i64 b, .int .i64 c, .int .i64 d]] w fun e w' => e = .returned (.bool false) ∧ Below w.heap.size w w' := by
  go_enter Try.func86, Try.ntmps86
  go_wp2
  all_goals
    go_ret
    exact ⟨rfl, bel1 _ _⟩
set_option maxHeartbeats 1000000 in
set_option maxRecDepth 100000 in
theorem outside_any (n lo hi : Int) (w : World) (hn : I n) (hl : -1073741824 ≤ lo ∧ lo ≤ 1073741824) (hh : -1073741824 ≤ hi ∧ hi ≤ 1073741824) :
    Calls Try.prog 87 #[.int .i64 n, .int .i64 lo, .int .i64 hi] w fun e w' => e = .returned (.int .i64 (Rc.out n lo hi)) ∧ w = w' := by
  obtain ⟨n0, n1⟩ := hn
  obtain ⟨l0, l1⟩ := hl
  obtain ⟨h0, h1⟩ := hh
  obtain ⟨c0, c1⟩ := Rc.clamp_bd n
  go_enter Try.func87, Try.ntmps87
  go_wp2_with (go_at_call 73; refine (clamp_any _ _ (by omega) (by omega)).mono ?_; rintro e w' ⟨rfl, rfl⟩)
  go_ret
  exact ⟨rfl, rfl⟩

set_option maxHeartbeats 1000000 in
set_option maxRecDepth 100000 in
theorem gap_none (a b c d x y : Int) (w : World) (ha : I a) (hb : I b) (hc : I c) (hd : I d) (h : Rc.None a b c d) :
    Calls Try.prog 76 #[.agg #[.int .i64 a, .int .i64 b, .int .i64 c, .int .i64 d], .int .i64 x, .int .i64 y] w fun e w' => e = .returned (.int .i64 (-1)) ∧ Below w.heap.size w w' := by
  have C := Lib.hid (fun W => counted_none a b c d W ha hb hc hd h)
  clear ha hb hc hd h
  go_enter Try.func76, Try.ntmps76
  go_wp2_with fail
  refine (C.out _).mono ?_
  rintro e w1 ⟨rfl, b1⟩
  obtain ⟨c1, f1⟩ := bcell b1
  go_wp2_with fail
  refine (none_yes _).mono ?_
  rintro e w2 ⟨rfl, b2⟩
  clear c1 f1
  have b1' := (bel1 w _).trans (b1.mono (by simp))
  have b3 := (set4 b1' _ (Nat.le_refl _) _ _ _ _).trans (b2.mono (by simpa using b1'.size))
  clear b1 b2 b1'
  go_wp2
  go_ret
  exact ⟨rfl, b3⟩
set_option maxHeartbeats 1000000 in
set_option maxRecDepth 100000 in
theorem gap_some (a b c d x y : Int) (w : World) (ha : I a) (hb : I b) (hc : I c) (hd : I d) (hx : I x) (hy : I y) (h : ¬ Rc.None a b c d) :
    Calls Try.prog 76 #[.agg #[.int .i64 a, .int .i64 b, .int .i64 c, .int .i64 d], .int .i64 x, .int .i64 y] w fun e w' => e = .returned (.int .i64 (max (Rc.out x (Rc.clamp a) (Rc.clamp c)) (Rc.out y (Rc.clamp b) (Rc.clamp d)))) ∧ Below w.heap.size w w' := by
  have C := Lib.hid (fun W => counted_some a b c d W ha hb hc hd h)
  have D := Lib.hid (fun W => none_no (Rc.clamp a) (Rc.clamp b) (Rc.clamp c) (Rc.clamp d) W (by unfold Rc.None at h; omega))
  have X := Lib.hid (fun W => outside_any x (Rc.clamp a) (Rc.clamp c) W hx (Rc.clamp_bd a) (Rc.clamp_bd c))
  have Y := Lib.hid (fun W => outside_any y (Rc.clamp b) (Rc.clamp d) W hy (Rc.clamp_bd b) (Rc.clamp_bd d))
  clear ha hb hc hd h hx hy
  go_enter Try.func76, Try.ntmps76
  go_wp2_with fail
  refine (C.out _).mono ?_
  rintro e w1 ⟨rfl, b1⟩
  obtain ⟨c1, f1⟩ := bcell b1
  go_wp2_with fail
  refine (D.out _).mono ?_
  rintro e w2 ⟨rfl, b2⟩
  obtain ⟨c2, f2⟩ := bcell b2
  have b1' := (bel1 w _).trans (b1.mono (by simp))
  have b3 := (set4 b1' _ (Nat.le_refl _) _ _ _ _).trans (b2.mono (by simpa using b1'.size))
  have hz : w.heap.size < w1.heap.size := by have := b1.size; simp at this; omega
  clear b1 b2 b1'
  go_wp2_with fail
  refine still_tail 12 (by kernel_rfl) (by kernel_rfl) fun W hW hD => ?_
  simp only [List.take_succ_cons, List.take_zero, List.drop_succ_cons, List.drop_zero]
  iterate 5 still_step
  still_call (still_of (X.out _))
  iterate 5 still_step
  still_call (still_of (Y.out _))
  refine wpStill_nil ?_
  have hD' := hD.out
  subst hD'
  clear hW hD
  go_wp2
  go_ret
  exact ⟨rfl, Below.d' b3⟩

set_option maxHeartbeats 1000000 in
set_option maxRecDepth 100000 in
theorem apart_any (a b : Int) (w : World) (ha : I a) (hb : I b) :
    Calls Try.prog 77 #[.int .i64 a, .int .i64 b] w fun e w' => e = .returned (.int .i64 (Rc.dist a b)) ∧ w = w' := by
  obtain ⟨a0, a1⟩ := ha
  obtain ⟨b0, b1⟩ := hb
  obtain ⟨c0, c1⟩ := Rc.clamp_bd a
  obtain ⟨d0, d1⟩ := Rc.clamp_bd b
  go_enter Try.func77, Try.ntmps77
  go_wp2_with (go_at_call 73; refine (clamp_any _ _ (by omega) (by omega)).mono ?_; rintro e w' ⟨rfl, rfl⟩)
  go_ret
  exact ⟨rfl, rfl⟩
set_option maxHeartbeats 1000000 in
set_option maxRecDepth 100000 in
theorem far_any (x y u v : Int) (w : World) (hx : I x) (hy : I y) (hu : I u) (hv : I v) :
    Calls Try.prog 56 #[.int .i64 x, .int .i64 y, .int .i64 u, .int .i64 v] w fun e w' => e = .returned (.int .i64 (Rc.far x y u v)) ∧ w = w' := by
  go_enter Try.func56, Try.ntmps56
  go_wp2_with fail
  refine (apart_any _ _ _ hx hu).mono ?_
  rintro e w' ⟨rfl, rfl⟩
  go_wp2_with fail
  refine (apart_any _ _ _ hy hv).mono ?_
  rintro e w' ⟨rfl, rfl⟩
  go_wp2
  go_ret
  exact ⟨rfl, rfl⟩

theorem gap_any (a b c d x y : Int) (w : World) (ha : I a) (hb : I b) (hc : I c) (hd : I d) (hx : I x) (hy : I y) :
    Calls Try.prog 76 #[.agg #[.int .i64 a, .int .i64 b, .int .i64 c, .int .i64 d], .int .i64 x, .int .i64 y] w fun e w' => e = .returned (.int .i64 (Rc.gap a b c d x y)) ∧ Below w.heap.size w w' := by
  unfold Rc.gap
  by_cases h : Rc.None a b c d
  · rw [if_pos h]; exact gap_none a b c d x y w ha hb hc hd h
  · rw [if_neg h]; exact gap_some a b c d x y w ha hb hc hd hx hy h
def hasB (a b c d x y : Int) : Bool := decide (Rc.gap a b c d x y = 0)
def nearB (a b c d x y n : Int) : Bool := decide (0 ≤ Rc.gap a b c d x y ∧ Rc.gap a b c d x y ≤ n)
set_option maxHeartbeats 1000000 in
set_option maxRecDepth 100000 in
theorem rchas_any (a b c d x y : Int) (w : World) (ha : I a) (hb : I b) (hc : I c) (hd : I d) (hx : I x) (hy : I y) :
    Calls Try.prog 52 #[.agg #[.int .i64 a, .int .i64 b, .int .i64 c, .int .i64 d], .int .i64 x, .int .i64 y] w fun e w' => e = .returned (.bool (hasB a b c d x y)) ∧ Below w.heap.size w w' := by
  have G := Lib.hid (fun W => gap_any a b c d x y W ha hb hc hd hx hy)
  unfold hasB
  generalize Rc.gap a b c d x y = g at *
  clear ha hb hc hd hx hy
  go_enter Try.func52, Try.ntmps52
  go_wp2_with fail
  refine (G.out _).mono ?_
  rintro e w1 ⟨rfl, b1⟩
  go_wp2
  go_ret
  exact ⟨ret_bool (by rw [Bool.eq_iff_iff]; simp), (bel1 w _).trans (b1.mono (by simp))⟩
end Go.Proofs.Ytfmbldjaknjgbaa
namespace Go.Proofs.Ytfmbldjaknjgbaa
open Go.RowKit

set_option maxHeartbeats 400000 in
set_option maxRecDepth 100000 in
theorem rclamp_any (n : Int) (w : World) (_ : -9223372036854775808 ≤ n) (_ : n ≤ 9223372036854775807) :
    Calls Try.prog 49 #[.int .i64 n] w fun e w' => e = .returned (.int .i64 (Rc.clamp n)) ∧ w = w' := by
  have e : Rc.clamp n = if 1073741824 < n then 1073741824 else if n < -1073741824 then -1073741824 else n := by unfold Rc.clamp; split <;> (try split) <;> omega
  have E := Lib.hid e
  clear e
  go_enter Try.func49, Try.ntmps49
  go_wp2
  all_goals
    go_ret
    refine ⟨ret_int ?_, rfl⟩
    rw [E.out]
    split <;> (try split) <;> omega
set_option maxHeartbeats 400000 in
set_option maxRecDepth 100000 in
theorem rsize_any (n : Int) (w : World) (h0 : -4294967296 ≤ n) (h1 : n ≤ 4294967296) :
    Calls Try.prog 84 #[.int .i64 n] w fun e w' => e = .returned (.int .i64 (max n (-n))) ∧ w = w' := by
  go_enter Try.func84, Try.ntmps84
  go_wp2
  all_goals
    go_ret
    exact ⟨ret_int (by omega), rfl⟩
set_option maxHeartbeats 1000000 in
set_option maxRecDepth 100000 in
theorem rfar_any (x y u v : Int) (w : World) (hx : I x) (hy : I y) (hu : I u) (hv : I v) :
    Calls Try.prog 71 #[.int .i64 x, .int .i64 y, .int .i64 u, .int .i64 v] w fun e w' => e = .returned (.int .i64 (Rc.far x y u v)) ∧ w = w' := by
  obtain ⟨x0, x1⟩ := hx
  obtain ⟨y0, y1⟩ := hy
  obtain ⟨u0, u1⟩ := hu
  obtain ⟨v0, v1⟩ := hv
  obtain ⟨a0, a1⟩ := Rc.clamp_bd x
  obtain ⟨b0, b1⟩ := Rc.clamp_bd y
  obtain ⟨c0, c1⟩ := Rc.clamp_bd u
  obtain ⟨d0, d1⟩ := Rc.clamp_bd v
  go_enter Try.func71, Try.ntmps71
  go_wp2_with (first | (go_at_call 49; refine (rclamp_any _ _ (by omega) (by omega)).mono ?_; rintro e w' ⟨rfl, rfl⟩) | (go_at_call 84; refine (rsize_any _ _ (by omega) (by omega)).mono ?_; rintro e w' ⟨rfl, rfl⟩))
  all_goals
    go_ret
    refine ⟨ret_int ?_, rfl⟩
    unfold Rc.far Rc.dist
    omega
end Go.Proofs.Ytfmbldjaknjgbaa
namespace Go.Proofs.Ytfmbldjaknjgbaa
open Go.RowKit
set_option linter.unusedVariables false
set_option linter.unusedSimpArgs false

set_option maxHeartbeats 400000 in
set_option maxRecDepth 100000 in
theorem clamp_all (n : Int) (w : World) :
    Calls Try.prog 73 #[.int .i64 n] w fun e w' => e = .returned (.int .i64 (Rc.clamp n)) ∧ w = w' := by
  go_enter Try.func73, Try.ntmps73
  go_wp2
  go_ret
  exact ⟨rfl, rfl⟩

set_option maxHeartbeats 1000000 in
set_option maxRecDepth 100000 in
theorem apart_all (a b : Int) (w : World) :
    Calls Try.prog 77 #[.int .i64 a, .int .i64 b] w fun e w' => e = .returned (.int .i64 (Rc.dist a b)) ∧ w = w' := by
  obtain ⟨c0, c1⟩ := Rc.clamp_bd a
  obtain ⟨d0, d1⟩ := Rc.clamp_bd b
  go_enter Try.func77, Try.ntmps77
  go_wp2_with (go_at_call 73; refine (clamp_all _ _).mono ?_; rintro e w' ⟨rfl, rfl⟩)
  go_ret
  exact ⟨rfl, rfl⟩

set_option maxHeartbeats 1000000 in
set_option maxRecDepth 100000 in
theorem far_all (x y u v : Int) (w : World) :
    Calls Try.prog 56 #[.int .i64 x, .int .i64 y, .int .i64 u, .int .i64 v] w fun e w' => e = .returned (.int .i64 (Rc.far x y u v)) ∧ w = w' := by
  go_enter Try.func56, Try.ntmps56
  go_wp2_with fail
  refine (apart_all _ _ _).mono ?_
  rintro e w' ⟨rfl, rfl⟩
  go_wp2_with fail
  refine (apart_all _ _ _).mono ?_
  rintro e w' ⟨rfl, rfl⟩
  go_wp2
  go_ret
  exact ⟨rfl, rfl⟩

set_option maxHeartbeats 400000 in
set_option maxRecDepth 100000 in
theorem rclamp_all (n : Int) (w : World) :
    Calls Try.prog 49 #[.int .i64 n] w fun e w' => e = .returned (.int .i64 (Rc.clamp n)) ∧ w = w' := by
  have e : Rc.clamp n = if 1073741824 < n then 1073741824 else if n < -1073741824 then -1073741824 else n := by unfold Rc.clamp; split <;> (try split) <;> omega
  have E := Lib.hid e
  clear e
  go_enter Try.func49, Try.ntmps49
  go_wp2
  all_goals
    go_ret
    refine ⟨ret_int ?_, rfl⟩
    rw [E.out]
    split <;> (try split) <;> omega

set_option maxHeartbeats 1000000 in
set_option maxRecDepth 100000 in
theorem rfar_all (x y u v : Int) (w : World) :
    Calls Try.prog 71 #[.int .i64 x, .int .i64 y, .int .i64 u, .int .i64 v] w fun e w' => e = .returned (.int .i64 (Rc.far x y u v)) ∧ w = w' := by
  obtain ⟨a0, a1⟩ := Rc.clamp_bd x
  obtain ⟨b0, b1⟩ := Rc.clamp_bd y
  obtain ⟨c0, c1⟩ := Rc.clamp_bd u
  obtain ⟨d0, d1⟩ := Rc.clamp_bd v
  go_enter Try.func71, Try.ntmps71
  go_wp2_with (first | (go_at_call 49; refine (rclamp_all _ _).mono ?_; rintro e w' ⟨rfl, rfl⟩) | (go_at_call 84; refine (rsize_any _ _ (by omega) (by omega)).mono ?_; rintro e w' ⟨rfl, rfl⟩))
  all_goals
    go_ret
    refine ⟨ret_int ?_, rfl⟩
    unfold Rc.far Rc.dist
    omega
theorem dist_comm (a b : Int) : Rc.dist a b = Rc.dist b a := by unfold Rc.dist; omega
theorem far_comm (x y u v : Int) : Rc.far x y u v = Rc.far u v x y := by unfold Rc.far; rw [dist_comm x u, dist_comm y v]
end Go.Proofs.Ytfmbldjaknjgbaa
