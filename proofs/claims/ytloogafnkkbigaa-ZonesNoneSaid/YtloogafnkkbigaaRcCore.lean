/- fixed.Clamp, rect.counted: what they answer. -/
import Derived.Test.YtloogafnkkbigaaRcPure
import Derived.Test.YtloogafnkkbigaaWb
import Derived.Test.YtloogafnkkbigaaRows
namespace Go.Proofs.Ytloogafnkkbigaa
open Go.RowKit
attribute [local go_sem high] run_max_ints3

set_option maxHeartbeats 400000 in
theorem clamp_any (n : Int) (w : World) (_ : -9223372036854775808 ≤ n) (_ : n ≤ 9223372036854775807) :
    Calls Try.prog 54 #[.int .i64 n] w fun e w' => e = .returned (.int .i64 (Rc.clamp n)) ∧ w = w' := by
  go_enter Try.func54, Try.ntmps54
  go_wp2
  go_ret
  exact ⟨rfl, rfl⟩

set_option maxHeartbeats 1000000 in
theorem counted_none (a b c d : Int) (w : World) (ha : I a) (hb : I b) (hc : I c) (hd : I d) (h : Rc.None a b c d) :
    Calls Try.prog 47 #[.agg #[.int .i64 a, .int .i64 b, .int .i64 c, .int .i64 d]] w fun e w' => e = .returned (.agg #[.int .i64 0, .int .i64 0, .int .i64 0, .int .i64 0]) ∧ Below w.heap.size w w' := by
  obtain ⟨a0, a1⟩ := ha
  obtain ⟨b0, b1⟩ := hb
  obtain ⟨c0, c1⟩ := hc
  obtain ⟨d0, d1⟩ := hd
  have hx : Rc.clamp a < Rc.clamp c → Rc.clamp d ≤ Rc.clamp b := fun h' => by rcases h with h | h <;> omega
  clear h
  go_enter Try.func47, Try.ntmps47
  go_wp2
  refine still_tail 13 (by kernel_rfl) (by kernel_rfl) fun W hW hD => ?_
  simp only [List.take_succ_cons, List.take_zero, List.drop_succ_cons, List.drop_zero]
  repeat (first | still_step | still_call (still_of (clamp_any _ _ (by omega) (by omega))))
  refine wpStill_nil ?_
  have hD' := hD.out
  subst hD'
  clear hW hD
  go_wp2
  all_goals exact bodyPost_ret (v := .agg #[.int .i64 0, .int .i64 0, .int .i64 0, .int .i64 0]) (by simp [results, Try.results47, go_sem]) rfl ⟨rfl, Below.d' (bel2 _ _ _)⟩
set_option maxHeartbeats 1000000 in
theorem counted_some (a b c d : Int) (w : World) (ha : I a) (hb : I b) (hc : I c) (hd : I d) (h : ¬ Rc.None a b c d) :
    Calls Try.prog 47 #[.agg #[.int .i64 a, .int .i64 b, .int .i64 c, .int .i64 d]] w fun e w' => e = .returned (.agg #[.int .i64 (Rc.clamp a), .int .i64 (Rc.clamp b), .int .i64 (Rc.clamp c), .int .i64 (Rc.clamp d)]) ∧ Below w.heap.size w w' := by
  obtain ⟨a0, a1⟩ := ha
  obtain ⟨b0, b1⟩ := hb
  obtain ⟨c0, c1⟩ := hc
  obtain ⟨d0, d1⟩ := hd
  have hx : Rc.clamp a < Rc.clamp c := by unfold Rc.None at h; omega
  have hy : Rc.clamp b < Rc.clamp d := by unfold Rc.None at h; omega
  clear h
  go_enter Try.func47, Try.ntmps47
  go_wp2
  refine still_tail 13 (by kernel_rfl) (by kernel_rfl) fun W hW hD => ?_
  simp only [List.take_succ_cons, List.take_zero, List.drop_succ_cons, List.drop_zero]
  repeat (first | still_step | still_call (still_of (clamp_any _ _ (by omega) (by omega))))
  refine wpStill_nil ?_
  have hD' := hD.out
  subst hD'
  clear hW hD
  go_wp2
  all_goals exact bodyPost_ret (v := .agg #[.int .i64 (Rc.clamp a), .int .i64 (Rc.clamp b), .int .i64 (Rc.clamp c), .int .i64 (Rc.clamp d)]) (by simp [results, Try.results47, go_sem]) rfl ⟨rfl, Below.d' (bel2 _ _ _)⟩

set_option maxHeartbeats 400000 in
theorem none_yes (w : World) :
    Calls Try.prog 48 #[.agg #[.int .i64 0, .int .i64 0, .int .i64 0, .int .i64 0]] w fun e w' => e = .returned (.bool true) ∧ Below w.heap.size w w' := by
  go_enter Try.func48, Try.ntmps48
  go_wp2
  go_ret
  exact ⟨rfl, bel1 _ _⟩
set_option maxHeartbeats 400000 in
theorem none_no (a b c d : Int) (w : World) (h : a < c) :
    Calls Try.prog 48 #[.agg #[.int .i64 a, .int .i64 b, .int .i64 c, .int .i64 d]] w fun e w' => e = .returned (.bool false) ∧ Below w.heap.size w w' := by
  go_enter Try.func48, Try.ntmps48
  go_wp2
  all_goals
    go_ret
    exact ⟨rfl, bel1 _ _⟩
set_option maxHeartbeats 1000000 in
theorem outside_any (n lo hi : Int) (w : World) (hn : I n) (hl : -1073741824 ≤ lo ∧ lo ≤ 1073741824) (hh : -1073741824 ≤ hi ∧ hi ≤ 1073741824) :
    Calls Try.prog 49 #[.int .i64 n, .int .i64 lo, .int .i64 hi] w fun e w' => e = .returned (.int .i64 (Rc.out n lo hi)) ∧ w = w' := by
  obtain ⟨n0, n1⟩ := hn
  obtain ⟨l0, l1⟩ := hl
  obtain ⟨h0, h1⟩ := hh
  obtain ⟨c0, c1⟩ := Rc.clamp_bd n
  go_enter Try.func49, Try.ntmps49
  go_wp2_with (go_at_call 54; refine (clamp_any _ _ (by omega) (by omega)).mono ?_; rintro e w' ⟨rfl, rfl⟩)
  go_ret
  exact ⟨rfl, rfl⟩

set_option maxHeartbeats 1000000 in
theorem gap_none (a b c d x y : Int) (w : World) (ha : I a) (hb : I b) (hc : I c) (hd : I d) (h : Rc.None a b c d) :
    Calls Try.prog 32 #[.agg #[.int .i64 a, .int .i64 b, .int .i64 c, .int .i64 d], .int .i64 x, .int .i64 y] w fun e w' => e = .returned (.int .i64 (-1)) ∧ Below w.heap.size w w' := by
  have C := Lib.hid (fun W => counted_none a b c d W ha hb hc hd h)
  clear ha hb hc hd h
  go_enter Try.func32, Try.ntmps32
  go_wp2_with fail
  refine (C.out _).mono ?_
  rintro e w1 ⟨rfl, b1⟩
  obtain ⟨c1, f1⟩ := bcell b1
  go_wp2_with fail
  refine (none_yes _).mono ?_
  rintro e w2 ⟨rfl, b2⟩
  clear c1 f1
  have b1' := (bel1 w _).trans (b1.mono (by simp))
  have b3 := (set4 b1' _ (Nat.le_refl _) _ _ _ _).trans (b2.mono (by simpa using b1'.size))
  clear b1 b2 b1'
  go_wp2
  go_ret
  exact ⟨rfl, b3⟩
set_option maxHeartbeats 1000000 in
theorem gap_some (a b c d x y : Int) (w : World) (ha : I a) (hb : I b) (hc : I c) (hd : I d) (hx : I x) (hy : I y) (h : ¬ Rc.None a b c d) :
    Calls Try.prog 32 #[.agg #[.int .i64 a, .int .i64 b, .int .i64 c, .int .i64 d], .int .i64 x, .int .i64 y] w fun e w' => e = .returned (.int .i64 (max (Rc.out x (Rc.clamp a) (Rc.clamp c)) (Rc.out y (Rc.clamp b) (Rc.clamp d)))) ∧ Below w.heap.size w w' := by
  have C := Lib.hid (fun W => counted_some a b c d W ha hb hc hd h)
  have D := Lib.hid (fun W => none_no (Rc.clamp a) (Rc.clamp b) (Rc.clamp c) (Rc.clamp d) W (by unfold Rc.None at h; omega))
  have X := Lib.hid (fun W => outside_any x (Rc.clamp a) (Rc.clamp c) W hx (Rc.clamp_bd a) (Rc.clamp_bd c))
  have Y := Lib.hid (fun W => outside_any y (Rc.clamp b) (Rc.clamp d) W hy (Rc.clamp_bd b) (Rc.clamp_bd d))
  clear ha hb hc hd h hx hy
  go_enter Try.func32, Try.ntmps32
  go_wp2_with fail
  refine (C.out _).mono ?_
  rintro e w1 ⟨rfl, b1⟩
  obtain ⟨c1, f1⟩ := bcell b1
  go_wp2_with fail
  refine (D.out _).mono ?_
  rintro e w2 ⟨rfl, b2⟩
  obtain ⟨c2, f2⟩ := bcell b2
  have b1' := (bel1 w _).trans (b1.mono (by simp))
  have b3 := (set4 b1' _ (Nat.le_refl _) _ _ _ _).trans (b2.mono (by simpa using b1'.size))
  have hz : w.heap.size < w1.heap.size := by have := b1.size; simp at this; omega
  clear b1 b2 b1'
  go_wp2_with fail
  refine still_tail 12 (by kernel_rfl) (by kernel_rfl) fun W hW hD => ?_
  simp only [List.take_succ_cons, List.take_zero, List.drop_succ_cons, List.drop_zero]
  iterate 5 still_step
  still_call (still_of (X.out _))
  iterate 5 still_step
  still_call (still_of (Y.out _))
  refine wpStill_nil ?_
  have hD' := hD.out
  subst hD'
  clear hW hD
  go_wp2
  go_ret
  exact ⟨rfl, Below.d' b3⟩

set_option maxHeartbeats 1000000 in
theorem apart_any (a b : Int) (w : World) (ha : I a) (hb : I b) :
    Calls Try.prog 53 #[.int .i64 a, .int .i64 b] w fun e w' => e = .returned (.int .i64 (Rc.dist a b)) ∧ w = w' := by
  obtain ⟨a0, a1⟩ := ha
  obtain ⟨b0, b1⟩ := hb
  obtain ⟨c0, c1⟩ := Rc.clamp_bd a
  obtain ⟨d0, d1⟩ := Rc.clamp_bd b
  go_enter Try.func53, Try.ntmps53
  go_wp2_with (go_at_call 54; refine (clamp_any _ _ (by omega) (by omega)).mono ?_; rintro e w' ⟨rfl, rfl⟩)
  go_ret
  exact ⟨rfl, rfl⟩
set_option maxHeartbeats 1000000 in
theorem far_any (x y u v : Int) (w : World) (hx : I x) (hy : I y) (hu : I u) (hv : I v) :
    Calls Try.prog 43 #[.int .i64 x, .int .i64 y, .int .i64 u, .int .i64 v] w fun e w' => e = .returned (.int .i64 (Rc.far x y u v)) ∧ w = w' := by
  go_enter Try.func43, Try.ntmps43
  go_wp2_with fail
  refine (apart_any _ _ _ hx hu).mono ?_
  rintro e w' ⟨rfl, rfl⟩
  go_wp2_with fail
  refine (apart_any _ _ _ hy hv).mono ?_
  rintro e w' ⟨rfl, rfl⟩
  go_wp2
  go_ret
  exact ⟨rfl, rfl⟩

theorem gap_any (a b c d x y : Int) (w : World) (ha : I a) (hb : I b) (hc : I c) (hd : I d) (hx : I x) (hy : I y) :
    Calls Try.prog 32 #[.agg #[.int .i64 a, .int .i64 b, .int .i64 c, .int .i64 d], .int .i64 x, .int .i64 y] w fun e w' => e = .returned (.int .i64 (Rc.gap a b c d x y)) ∧ Below w.heap.size w w' := by
  unfold Rc.gap
  by_cases h : Rc.None a b c d
  · rw [if_pos h]; exact gap_none a b c d x y w ha hb hc hd h
  · rw [if_neg h]; exact gap_some a b c d x y w ha hb hc hd hx hy h
def hasB (a b c d x y : Int) : Bool := decide (Rc.gap a b c d x y = 0)
def nearB (a b c d x y n : Int) : Bool := decide (0 ≤ Rc.gap a b c d x y ∧ Rc.gap a b c d x y ≤ n)
set_option maxHeartbeats 1000000 in
theorem has_any (a b c d x y : Int) (w : World) (ha : I a) (hb : I b) (hc : I c) (hd : I d) (hx : I x) (hy : I y) :
    Calls Try.prog 29 #[.agg #[.int .i64 a, .int .i64 b, .int .i64 c, .int .i64 d], .int .i64 x, .int .i64 y] w fun e w' => e = .returned (.bool (hasB a b c d x y)) ∧ Below w.heap.size w w' := by
  have G := Lib.hid (fun W => gap_any a b c d x y W ha hb hc hd hx hy)
  unfold hasB
  generalize Rc.gap a b c d x y = g at *
  clear ha hb hc hd hx hy
  go_enter Try.func29, Try.ntmps29
  go_wp2_with fail
  refine (G.out _).mono ?_
  rintro e w1 ⟨rfl, b1⟩
  go_wp2
  go_ret
  exact ⟨ret_bool (by rw [Bool.eq_iff_iff]; simp), (bel1 w _).trans (b1.mono (by simp))⟩
set_option maxHeartbeats 1000000 in
theorem near_any (a b c d x y n : Int) (w : World) (ha : I a) (hb : I b) (hc : I c) (hd : I d) (hx : I x) (hy : I y) :
    Calls Try.prog 41 #[.agg #[.int .i64 a, .int .i64 b, .int .i64 c, .int .i64 d], .int .i64 x, .int .i64 y, .int .i64 n] w fun e w' => e = .returned (.bool (nearB a b c d x y n)) ∧ Below w.heap.size w w' := by
  have G := Lib.hid (fun W => gap_any a b c d x y W ha hb hc hd hx hy)
  unfold nearB
  generalize Rc.gap a b c d x y = g at *
  clear ha hb hc hd hx hy
  go_enter Try.func41, Try.ntmps41
  go_wp2_with fail
  refine (G.out _).mono ?_
  rintro e w1 ⟨rfl, b1⟩
  have b2 := (bel1 w _).trans (b1.mono (by simp))
  clear b1
  go_wp2
  all_goals
    go_ret
    refine ⟨?_, b2⟩
    simp
  all_goals omega
end Go.Proofs.Ytloogafnkkbigaa
