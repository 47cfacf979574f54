/- RcPure, RcCore, RcRef, in one text. -/
import Derived.RowKit
import Derived.Test.YtgmgenggboicnaaKBase
import Derived.Test.YtgmgenggboicnaaRows
namespace Go.Proofs.Ytgmgenggboicnaa
namespace Rc

/-- the nearest fixed number -/
def clamp (n : Int) : Int := max (-1073741824) (min n 1073741824)
theorem clamp_bd (n : Int) : -1073741824 ≤ clamp n ∧ clamp n ≤ 1073741824 := by unfold clamp; omega
theorem clamp_in {n : Int} (h : -1073741824 ≤ n) (h' : n ≤ 1073741824) : clamp n = n := by unfold clamp; omega
theorem clamp_clamp (n : Int) : clamp (clamp n) = clamp n := clamp_in (clamp_bd n).1 (clamp_bd n).2

/-- has a rectangle no point? -/
def None (a b c d : Int) : Prop := clamp c ≤ clamp a ∨ clamp d ≤ clamp b
instance (a b c d : Int) : Decidable (None a b c d) := by unfold None; infer_instance
def noneB (a b c d : Int) : Bool := decide (clamp c ≤ clamp a ∨ clamp d ≤ clamp b)
theorem noneB_yes {a b c d : Int} (h : None a b c d) : noneB a b c d = true := decide_eq_true h
theorem noneB_no {a b c d : Int} (h : ¬ None a b c d) : noneB a b c d = false := decide_eq_false h
/-- a rectangle's four numbers, as they count -/
structure R where
  a : Int
  b : Int
  c : Int
  d : Int
  deriving DecidableEq
def ctd (a b c d : Int) : R := if None a b c d then ⟨0, 0, 0, 0⟩ else ⟨clamp a, clamp b, clamp c, clamp d⟩
theorem ctd_none {a b c d : Int} (h : None a b c d) : ctd a b c d = ⟨0, 0, 0, 0⟩ := if_pos h
theorem ctd_some {a b c d : Int} (h : ¬ None a b c d) : ctd a b c d = ⟨clamp a, clamp b, clamp c, clamp d⟩ := if_neg h

/-- a distance -/
def dist (a b : Int) : Int := max (clamp a - clamp b) (clamp b - clamp a)
def far (x y u v : Int) : Int := max (dist x u) (dist y v)
/-- how far a number lies from the nearest from lo on and below hi -/
def out (n lo hi : Int) : Int := max (lo - clamp n) (max 0 (clamp n - (hi - 1)))
def gap (a b c d x y : Int) : Int := if None a b c d then -1 else max (out x (clamp a) (clamp c)) (out y (clamp b) (clamp d))
/-- one side moved -/
def mv (a d : Int) : Int := clamp (clamp a + clamp d)
theorem gap_has (a b c d x y : Int) : (gap a b c d x y = 0) ↔ (clamp a ≤ clamp x ∧ clamp x < clamp c ∧ clamp b ≤ clamp y ∧ clamp y < clamp d) := by
  unfold gap
  by_cases h : None a b c d
  · rw [if_pos h]
    unfold None at h
    omega
  · rw [if_neg h]
    unfold None at h
    unfold out
    omega
/-- does the document say that a point is one of a rectangle's? -/
def hasR (a b c d x y : Int) : Bool := decide (clamp a ≤ clamp x ∧ clamp x < clamp c ∧ clamp b ≤ clamp y ∧ clamp y < clamp d)
/-- what two rectangles have in common -/
def two (a0 a1 a2 a3 q0 q1 q2 q3 : Int) : R :=
  if None (max (clamp a0) (clamp q0)) (max (clamp a1) (clamp q1)) (min (clamp a2) (clamp q2)) (min (clamp a3) (clamp q3)) then ⟨0, 0, 0, 0⟩
  else ⟨max (clamp a0) (clamp q0), max (clamp a1) (clamp q1), min (clamp a2) (clamp q2), min (clamp a3) (clamp q3)⟩
/-- the greater begins, the lesser ends -/
def cf (r s : Int × Int × Int × Int) : Int × Int × Int × Int := (max r.1 s.1, max r.2.1 s.2.1, min r.2.2.1 s.2.2.1, min r.2.2.2 s.2.2.2)
def fold (x : Int × Int × Int × Int) (l : List (Int × Int × Int × Int)) : Int × Int × Int × Int := l.foldl cf x
theorem fold_snoc (x : Int × Int × Int × Int) (l : List (Int × Int × Int × Int)) (y : Int × Int × Int × Int) : fold x (l ++ [y]) = cf (fold x l) y := by unfold fold; rw [List.foldl_append]; rfl
/-- what a row of rectangles has in common, as it counts -/
def cut (x : Int × Int × Int × Int) (l : List (Int × Int × Int × Int)) : R := ctd (fold x l).1 (fold x l).2.1 (fold x l).2.2.1 (fold x l).2.2.2
def twR (r : R) (s : Int × Int × Int × Int) : R := two r.a r.b r.c r.d s.1 s.2.1 s.2.2.1 s.2.2.2
theorem two_self (x : Int × Int × Int × Int) : two x.1 x.2.1 x.2.2.1 x.2.2.2 x.1 x.2.1 x.2.2.1 x.2.2.2 = cut x [] := by
  obtain ⟨a, b, c, d⟩ := x
  unfold two cut fold
  simp only [List.foldl_nil, Int.max_self, Int.min_self]
  by_cases h : None a b c d
  · rw [ctd_none h, if_pos (by unfold None at *; rw [clamp_clamp, clamp_clamp, clamp_clamp, clamp_clamp]; exact h)]
  · rw [ctd_some h, if_neg (by unfold None at *; rw [clamp_clamp, clamp_clamp, clamp_clamp, clamp_clamp]; exact h)]
theorem clamp_max (a b : Int) : clamp (max a b) = max (clamp a) (clamp b) := by unfold clamp; omega
theorem clamp_min (a b : Int) : clamp (min a b) = min (clamp a) (clamp b) := by unfold clamp; omega
theorem two_next (f s : Int × Int × Int × Int) : twR (ctd f.1 f.2.1 f.2.2.1 f.2.2.2) s = ctd (cf f s).1 (cf f s).2.1 (cf f s).2.2.1 (cf f s).2.2.2 := by
  obtain ⟨a, b, c, d⟩ := f
  obtain ⟨p, q, r, t⟩ := s
  unfold twR two cf
  simp only
  by_cases h : None a b c d
  · have h2 : None (max a p) (max b q) (min c r) (min d t) := by unfold None at *; rw [clamp_max, clamp_max, clamp_min, clamp_min]; omega
    rw [ctd_none h, ctd_none h2]
    simp only
    rw [if_pos]
    unfold None
    rw [clamp_max, clamp_max, clamp_min, clamp_min, clamp_clamp, clamp_clamp, clamp_clamp, clamp_clamp, clamp_in (n := 0) (by omega) (by omega)]
    omega
  · rw [ctd_some h]
    simp only [clamp_clamp]
    rw [← clamp_max, ← clamp_max, ← clamp_min, ← clamp_min]
    by_cases h2 : None (max a p) (max b q) (min c r) (min d t)
    · rw [ctd_none h2, if_pos]
      unfold None at *
      rw [clamp_clamp, clamp_clamp, clamp_clamp, clamp_clamp]
      exact h2
    · rw [ctd_some h2, if_neg]
      unfold None at *
      rw [clamp_clamp, clamp_clamp, clamp_clamp, clamp_clamp]
      exact h2
theorem cut_snoc (x : Int × Int × Int × Int) (l : List (Int × Int × Int × Int)) (y : Int × Int × Int × Int) : twR (cut x l) y = cut x (l ++ [y]) := by
  unfold cut
  rw [two_next, fold_snoc]
theorem ctd_bd (a b c d : Int) : (-1073741824 ≤ (ctd a b c d).a ∧ (ctd a b c d).a ≤ 1073741824) ∧ (-1073741824 ≤ (ctd a b c d).b ∧ (ctd a b c d).b ≤ 1073741824) ∧ (-1073741824 ≤ (ctd a b c d).c ∧ (ctd a b c d).c ≤ 1073741824) ∧ (-1073741824 ≤ (ctd a b c d).d ∧ (ctd a b c d).d ≤ 1073741824) := by
  by_cases h : None a b c d
  · rw [ctd_none h]; refine ⟨⟨?_, ?_⟩, ⟨?_, ?_⟩, ⟨?_, ?_⟩, ⟨?_, ?_⟩⟩ <;> simp
  · rw [ctd_some h]; exact ⟨clamp_bd a, clamp_bd b, clamp_bd c, clamp_bd d⟩
/-- the points of what they have in common are those that each has -/
theorem has_ctd (a b c d x y : Int) : hasR (ctd a b c d).a (ctd a b c d).b (ctd a b c d).c (ctd a b c d).d x y = hasR a b c d x y := by
  by_cases h : None a b c d
  · rw [ctd_none h]
    unfold hasR None at *
    rw [Bool.eq_iff_iff]
    simp only [decide_eq_true_eq]
    rw [clamp_in (n := 0) (by omega) (by omega)]
    omega
  · rw [ctd_some h]
    unfold hasR
    rw [clamp_clamp, clamp_clamp, clamp_clamp, clamp_clamp]
theorem has_cf (f s : Int × Int × Int × Int) (x y : Int) : hasR (cf f s).1 (cf f s).2.1 (cf f s).2.2.1 (cf f s).2.2.2 x y = (hasR f.1 f.2.1 f.2.2.1 f.2.2.2 x y && hasR s.1 s.2.1 s.2.2.1 s.2.2.2 x y) := by
  unfold hasR cf
  rw [Bool.eq_iff_iff]
  simp only [decide_eq_true_eq, Bool.and_eq_true, clamp_max, clamp_min]
  omega
def hasQ (x y : Int) (r : Int × Int × Int × Int) : Bool := hasR r.1 r.2.1 r.2.2.1 r.2.2.2 x y
theorem has_fold (x y : Int) : ∀ (l : List (Int × Int × Int × Int)) (r : Int × Int × Int × Int), hasQ x y (fold r l) = (hasQ x y r && l.all (hasQ x y))
  | [], r => by simp [fold]
  | s :: l, r => by
    have := has_fold x y l (cf r s)
    show hasQ x y (fold (cf r s) l) = _
    rw [this, List.all_cons]
    unfold hasQ
    rw [has_cf, Bool.and_assoc]
theorem has_cut (x y : Int) (r : Int × Int × Int × Int) (l : List (Int × Int × Int × Int)) : hasR (cut r l).a (cut r l).b (cut r l).c (cut r l).d x y = (r :: l).all (hasQ x y) := by
  unfold cut
  rw [has_ctd]
  exact has_fold x y l r
/-- how far to move -/
def by_ (n : Int) : Int := max 0 (clamp n)
theorem mv_neg (a n : Int) : mv (clamp a) (-(max n 0)) = clamp (clamp a - by_ n) := by unfold mv by_ clamp; omega
theorem mv_pos (a n : Int) : mv (clamp a) (max n 0) = clamp (clamp a + by_ n) := by unfold mv by_ clamp; omega
/-- what a rectangle is grown to -/
def grown (a b c d n : Int) : R := if None a b c d then ⟨0, 0, 0, 0⟩ else ⟨clamp (clamp a - by_ n), clamp (clamp b - by_ n), clamp (clamp c + by_ n), clamp (clamp d + by_ n)⟩
theorem by_bd (n : Int) : 0 ≤ by_ n ∧ by_ n ≤ 1073741824 := by unfold by_ clamp; omega
theorem clamp_zero : clamp 0 = 0 := clamp_in (by omega) (by omega)
end Rc
end Go.Proofs.Ytgmgenggboicnaa
namespace Go.Proofs.Ytgmgenggboicnaa
open Go.RowKit
attribute [local go_sem high] run_max_ints3

set_option maxHeartbeats 400000 in
set_option maxRecDepth 100000 in
theorem clamp_any (n : Int) (w : World) (_ : -9223372036854775808 ≤ n) (_ : n ≤ 9223372036854775807) :
    Calls Try.prog 98 #[.int .i64 n] w fun e w' => e = .returned (.int .i64 (Rc.clamp n)) ∧ w = w' := by
  go_enter Try.func98, Try.ntmps98
  go_wp2
  go_ret
  exact ⟨rfl, rfl⟩

set_option maxHeartbeats 1000000 in
set_option maxRecDepth 100000 in
theorem counted_none (a b c d : Int) (w : World) (ha : I a) (hb : I b) (hc : I c) (hd : I d) (h : Rc.None a b c d) :
    Calls Try.prog 95 #[.agg #[.int .i64 a, .int .i64 b, .int .i64 c, .int .i64 d]] w fun e w' => e = .returned (.agg #[.int .i64 0, .int .i64 0, .int .i64 0, .int .i64 0]) ∧ Below w.heap.size w w' := by
  obtain ⟨a0, a1⟩ := ha
  obtain ⟨b0, b1⟩ := hb
  obtain ⟨c0, c1⟩ := hc
  obtain ⟨d0, d1⟩ := hd
  have hx : Rc.clamp a < Rc.clamp c → Rc.clamp d ≤ Rc.clamp b := fun h' => by rcases h with h | h <;> omega
  clear h
  go_enter Try.func95, Try.ntmps95
  go_wp2
  refine still_tail 13 (by kernel_rfl) (by kernel_rfl) fun W hW hD => ?_
  simp only [List.take_succ_cons, List.take_zero, List.drop_succ_cons, List.drop_zero]
  repeat (first | still_step | still_call (still_of (clamp_any _ _ (by omega) (by omega))))
  refine wpStill_nil ?_
  have hD' := hD.out
  subst hD'
  clear hW hD
  go_wp2
  all_goals exact bodyPost_ret (v := .agg #[.int .i64 0, .int .i64 0, .int .i64 0, .int .i64 0]) (by simp [results, Try.results95, go_sem]) rfl ⟨rfl, Below.d' (bel2 _ _ _)⟩
set_option maxHeartbeats 1000000 in
set_option maxRecDepth 100000 in
theorem counted_some (a b c d : Int) (w : World) (ha : I a) (hb : I b) (hc : I c) (hd : I d) (h : ¬ Rc.None a b c d) :
    Calls Try.prog 95 #[.agg #[.int .i64 a, .int .i64 b, .int .i64 c, .int .i64 d]] w fun e w' => e = .returned (.agg #[.int .i64 (Rc.clamp a), .int .i64 (Rc.clamp b), .int .i64 (Rc.clamp c), .int .i64 (Rc.clamp d)]) ∧ Below w.heap.size w w' := by
  obtain ⟨a0, a1⟩ := ha
  obtain ⟨b0, b1⟩ := hb
  obtain ⟨c0, c1⟩ := hc
  obtain ⟨d0, d1⟩ := hd
  have hx : Rc.clamp a < Rc.clamp c := by unfold Rc.None at h; omega
  have hy : Rc.clamp b < Rc.clamp d := by unfold Rc.None at h; omega
  clear h
  go_enter Try.func95, Try.ntmps95
  go_wp2
  refine still_tail 13 (by kernel_rfl) (by kernel_rfl) fun W hW hD => ?_
  simp only [List.take_succ_cons, List.take_zero, List.drop_succ_cons, List.drop_zero]
  repeat (first | still_step | still_call (still_of (clamp_any _ _ (by omega) (by omega))))
  refine wpStill_nil ?_
  have hD' := hD.out
  subst hD'
  clear hW hD
  go_wp2
  all_goals exact bodyPost_ret (v := .agg #[.int .i64 (Rc.clamp a), .int .i64 (Rc.clamp b), .int .i64 (Rc.clamp c), .int .i64 (Rc.clamp d)]) (by simp [results, Try.results95, go_sem]) rfl ⟨rfl, Below.d' (bel2 _ _ _)⟩

set_option maxHeartbeats 400000 in
set_option maxRecDepth 100000 in
theorem none_yes (w : World) :
    Calls Try.prog 96 #[.agg #[.int .i64 0, .int .i64 0, .int .i64 0, .int .i64 0]] w fun e w' => e = .returned (.bool true) ∧ Below w.heap.size w w' := by
  go_enter Try.func96, Try.ntmps96
  go_wp2
  go_ret
  exact ⟨rfl, bel1 _ _⟩
set_option maxHeartbeats 400000 in
set_option maxRecDepth 100000 in
theorem none_no (a b c d : Int) (w : World) (h : a < c) :
    Calls Try.prog 96 #[.agg #[.int .i64 a, .int .i64 b, .int .i64 c, .int .i64 d]] w fun e w' => e = .returned (.bool false) ∧ Below w.heap.size w w' := by
  go_enter Try.func96, Try.ntmps96
  go_wp2
  all_goals
    go_ret
    exact ⟨rfl, bel1 _ _⟩
set_option maxHeartbeats 1000000 in
set_option maxRecDepth 100000 in
theorem outside_any (n lo hi : Int) (w : World) (hn : I n) (hl : -1073741824 ≤ lo ∧ lo ≤ 1073741824) (hh : -1073741824 ≤ hi ∧ hi ≤ 1073741824) :
    Calls Try.prog 97 #[.int .i64 n, .int .i64 lo, .int .i64 hi] w fun e w' => e = .returned (.int .i64 (Rc.out n lo hi)) ∧ w = w' := by
  obtain ⟨n0, n1⟩ := hn
  obtain ⟨l0, l1⟩ := hl
  obtain ⟨h0, h1⟩ := hh
  obtain ⟨c0, c1⟩ := Rc.clamp_bd n
  go_enter Try.func97, Try.ntmps97
  go_wp2_with (go_at_call 98; refine (clamp_any _ _ (by omega) (by omega)).mono ?_; rintro e w' ⟨rfl, rfl⟩)
  go_ret
  exact ⟨rfl, rfl⟩

set_option maxHeartbeats 1000000 in
set_option maxRecDepth 100000 in
theorem gap_none (a b c d x y : Int) (w : World) (ha : I a) (hb : I b) (hc : I c) (hd : I d) (h : Rc.None a b c d) :
    Calls Try.prog 83 #[.agg #[.int .i64 a, .int .i64 b, .int .i64 c, .int .i64 d], .int .i64 x, .int .i64 y] w fun e w' => e = .returned (.int .i64 (-1)) ∧ Below w.heap.size w w' := by
  have C := Lib.hid (fun W => counted_none a b c d W ha hb hc hd h)
  clear ha hb hc hd h
  go_enter Try.func83, Try.ntmps83
  go_wp2_with fail
  refine (C.out _).mono ?_
  rintro e w1 ⟨rfl, b1⟩
  obtain ⟨c1, f1⟩ := bcell b1
  go_wp2_with fail
  refine (none_yes _).mono ?_
  rintro e w2 ⟨rfl, b2⟩
  clear c1 f1
  have b1' := (bel1 w _).trans (b1.mono (by simp))
  have b3 := (set4 b1' _ (Nat.le_refl _) _ _ _ _).trans (b2.mono (by simpa using b1'.size))
  clear b1 b2 b1'
  go_wp2
  go_ret
  exact ⟨rfl, b3⟩
set_option maxHeartbeats 1000000 in
set_option maxRecDepth 100000 in
theorem gap_some (a b c d x y : Int) (w : World) (ha : I a) (hb : I b) (hc : I c) (hd : I d) (hx : I x) (hy : I y) (h : ¬ Rc.None a b c d) :
    Calls Try.prog 83 #[.agg #[.int .i64 a, .int .i64 b, .int .i64 c, .int .i64 d], .int .i64 x, .int .i64 y] w fun e w' => e = .returned (.int .i64 (max (Rc.out x (Rc.clamp a) (Rc.clamp c)) (Rc.out y (Rc.clamp b) (Rc.clamp d)))) ∧ Below w.heap.size w w' := by
  have C := Lib.hid (fun W => counted_some a b c d W ha hb hc hd h)
  have D := Lib.hid (fun W => none_no (Rc.clamp a) (Rc.clamp b) (Rc.clamp c) (Rc.clamp d) W (by unfold Rc.None at h; omega))
  have X := Lib.hid (fun W => outside_any x (Rc.clamp a) (Rc.clamp c) W hx (Rc.clamp_bd a) (Rc.clamp_bd c))
  have Y := Lib.hid (fun W => outside_any y (Rc.clamp b) (Rc.clamp d) W hy (Rc.clamp_bd b) (Rc.clamp_bd d))
  clear ha hb hc hd h hx hy
  go_enter Try.func83, Try.ntmps83
  go_wp2_with fail
  refine (C.out _).mono ?_
  rintro e w1 ⟨rfl, b1⟩
  obtain ⟨c1, f1⟩ := bcell b1
  go_wp2_with fail
  refine (D.out _).mono ?_
  rintro e w2 ⟨rfl, b2⟩
  obtain ⟨c2, f2⟩ := bcell b2
  have b1' := (bel1 w _).trans (b1.mono (by simp))
  have b3 := (set4 b1' _ (Nat.le_refl _) _ _ _ _).trans (b2.mono (by simpa using b1'.size))
  have hz : w.heap.size < w1.heap.size := by have := b1.size; simp at this; omega
  clear b1 b2 b1'
  go_wp2_with fail
  refine still_tail 12 (by kernel_rfl) (by kernel_rfl) fun W hW hD => ?_
  simp only [List.take_succ_cons, List.take_zero, List.drop_succ_cons, List.drop_zero]
  iterate 5 still_step
  still_call (still_of (X.out _))
  iterate 5 still_step
  still_call (still_of (Y.out _))
  refine wpStill_nil ?_
  have hD' := hD.out
  subst hD'
  clear hW hD
  go_wp2
  go_ret
  exact ⟨rfl, Below.d' b3⟩

set_option maxHeartbeats 1000000 in
set_option maxRecDepth 100000 in
theorem apart_any (a b : Int) (w : World) (ha : I a) (hb : I b) :
    Calls Try.prog 84 #[.int .i64 a, .int .i64 b] w fun e w' => e = .returned (.int .i64 (Rc.dist a b)) ∧ w = w' := by
  obtain ⟨a0, a1⟩ := ha
  obtain ⟨b0, b1⟩ := hb
  obtain ⟨c0, c1⟩ := Rc.clamp_bd a
  obtain ⟨d0, d1⟩ := Rc.clamp_bd b
  go_enter Try.func84, Try.ntmps84
  go_wp2_with (go_at_call 98; refine (clamp_any _ _ (by omega) (by omega)).mono ?_; rintro e w' ⟨rfl, rfl⟩)
  go_ret
  exact ⟨rfl, rfl⟩
set_option maxHeartbeats 1000000 in
set_option maxRecDepth 100000 in
theorem far_any (x y u v : Int) (w : World) (hx : I x) (hy : I y) (hu : I u) (hv : I v) :
    Calls Try.prog 66 #[.int .i64 x, .int .i64 y, .int .i64 u, .int .i64 v] w fun e w' => e = .returned (.int .i64 (Rc.far x y u v)) ∧ w = w' := by
  go_enter Try.func66, Try.ntmps66
  go_wp2_with fail
  refine (apart_any _ _ _ hx hu).mono ?_
  rintro e w' ⟨rfl, rfl⟩
  go_wp2_with fail
  refine (apart_any _ _ _ hy hv).mono ?_
  rintro e w' ⟨rfl, rfl⟩
  go_wp2
  go_ret
  exact ⟨rfl, rfl⟩

theorem gap_any (a b c d x y : Int) (w : World) (ha : I a) (hb : I b) (hc : I c) (hd : I d) (hx : I x) (hy : I y) :
    Calls Try.prog 83 #[.agg #[.int .i64 a, .int .i64 b, .int .i64 c, .int .i64 d], .int .i64 x, .int .i64 y] w fun e w' => e = .returned (.int .i64 (Rc.gap a b c d x y)) ∧ Below w.heap.size w w' := by
  unfold Rc.gap
  by_cases h : Rc.None a b c d
  · rw [if_pos h]; exact gap_none a b c d x y w ha hb hc hd h
  · rw [if_neg h]; exact gap_some a b c d x y w ha hb hc hd hx hy h
def hasB (a b c d x y : Int) : Bool := decide (Rc.gap a b c d x y = 0)
def nearB (a b c d x y n : Int) : Bool := decide (0 ≤ Rc.gap a b c d x y ∧ Rc.gap a b c d x y ≤ n)
set_option maxHeartbeats 1000000 in
set_option maxRecDepth 100000 in
theorem rchas_any (a b c d x y : Int) (w : World) (ha : I a) (hb : I b) (hc : I c) (hd : I d) (hx : I x) (hy : I y) :
    Calls Try.prog 63 #[.agg #[.int .i64 a, .int .i64 b, .int .i64 c, .int .i64 d], .int .i64 x, .int .i64 y] w fun e w' => e = .returned (.bool (hasB a b c d x y)) ∧ Below w.heap.size w w' := by
  have G := Lib.hid (fun W => gap_any a b c d x y W ha hb hc hd hx hy)
  unfold hasB
  generalize Rc.gap a b c d x y = g at *
  clear ha hb hc hd hx hy
  go_enter Try.func63, Try.ntmps63
  go_wp2_with fail
  refine (G.out _).mono ?_
  rintro e w1 ⟨rfl, b1⟩
  go_wp2
  go_ret
  exact ⟨ret_bool (by rw [Bool.eq_iff_iff]; simp), (bel1 w _).trans (b1.mono (by simp))⟩
end Go.Proofs.Ytgmgenggboicnaa
namespace Go.Proofs.Ytgmgenggboicnaa
open Go.RowKit

set_option maxHeartbeats 400000 in
set_option maxRecDepth 100000 in
theorem rclamp_any (n : Int) (w : World) (_ : -9223372036854775808 ≤ n) (_ : n ≤ 9223372036854775807) :
    Calls Try.prog 74 #[.int .i64 n] w fun e w' => e = .returned (.int .i64 (Rc.clamp n)) ∧ w = w' := by
  have e : Rc.clamp n = if 1073741824 < n then 1073741824 else if n < -1073741824 then -1073741824 else n := by unfold Rc.clamp; split <;> (try split) <;> omega
  have E := Lib.hid e
  clear e
  go_enter Try.func74, Try.ntmps74
  go_wp2
  all_goals
    go_ret
    refine ⟨ret_int ?_, rfl⟩
    rw [E.out]
    split <;> (try split) <;> omega
set_option maxHeartbeats 400000 in
set_option maxRecDepth 100000 in
theorem rsize_any (n : Int) (w : World) (h0 : -4294967296 ≤ n) (h1 : n ≤ 4294967296) :
    Calls Try.prog 73 #[.int .i64 n] w fun e w' => e = .returned (.int .i64 (max n (-n))) ∧ w = w' := by
  go_enter Try.func73, Try.ntmps73
  go_wp2
  all_goals
    go_ret
    exact ⟨ret_int (by omega), rfl⟩
set_option maxHeartbeats 1000000 in
set_option maxRecDepth 100000 in
theorem rfar_any (x y u v : Int) (w : World) (hx : I x) (hy : I y) (hu : I u) (hv : I v) :
    Calls Try.prog 46 #[.int .i64 x, .int .i64 y, .int .i64 u, .int .i64 v] w fun e w' => e = .returned (.int .i64 (Rc.far x y u v)) ∧ w = w' := by
  obtain ⟨x0, x1⟩ := hx
  obtain ⟨y0, y1⟩ := hy
  obtain ⟨u0, u1⟩ := hu
  obtain ⟨v0, v1⟩ := hv
  obtain ⟨a0, a1⟩ := Rc.clamp_bd x
  obtain ⟨b0, b1⟩ := Rc.clamp_bd y
  obtain ⟨c0, c1⟩ := Rc.clamp_bd u
  obtain ⟨d0, d1⟩ := Rc.clamp_bd v
  go_enter Try.func46, Try.ntmps46
  go_wp2_with (first | (go_at_call 74; refine (rclamp_any _ _ (by omega) (by omega)).mono ?_; rintro e w' ⟨rfl, rfl⟩) | (go_at_call 73; refine (rsize_any _ _ (by omega) (by omega)).mono ?_; rintro e w' ⟨rfl, rfl⟩))
  all_goals
    go_ret
    refine ⟨ret_int ?_, rfl⟩
    unfold Rc.far Rc.dist
    omega
set_option maxHeartbeats 1000000 in
set_option maxRecDepth 100000 in
theorem rhas_any (a b c d x y : Int) (w : World) (ha : I a) (hb : I b) (hc : I c) (hd : I d) (hx : I x) (hy : I y) :
    Calls Try.prog 64 #[.agg #[.int .i64 a, .int .i64 b, .int .i64 c, .int .i64 d], .int .i64 x, .int .i64 y] w fun e w' => e = .returned (.bool (Rc.hasR a b c d x y)) ∧ Below w.heap.size w w' := by
  obtain ⟨a0, a1⟩ := ha
  obtain ⟨b0, b1⟩ := hb
  obtain ⟨c0, c1⟩ := hc
  obtain ⟨d0, d1⟩ := hd
  obtain ⟨x0, x1⟩ := hx
  obtain ⟨y0, y1⟩ := hy
  unfold Rc.hasR
  go_enter Try.func64, Try.ntmps64
  go_wp2_with (go_at_call 74; refine (rclamp_any _ _ (by omega) (by omega)).mono ?_; rintro e w' ⟨rfl, rfl⟩)
  all_goals
    go_ret
    refine ⟨ret_bool ?_, bel1 _ _⟩
    simp [*]
  all_goals omega
end Go.Proofs.Ytgmgenggboicnaa
