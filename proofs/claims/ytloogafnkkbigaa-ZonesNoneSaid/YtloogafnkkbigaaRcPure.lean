/- Chapter 3's rectangles, as integers: nothing of the program. -/
import Derived.RowKit
namespace Go.Proofs.Ytloogafnkkbigaa
namespace Rc

/-- the nearest fixed number -/
def clamp (n : Int) : Int := max (-1073741824) (min n 1073741824)
theorem clamp_bd (n : Int) : -1073741824 ≤ clamp n ∧ clamp n ≤ 1073741824 := by unfold clamp; omega
theorem clamp_in {n : Int} (h : -1073741824 ≤ n) (h' : n ≤ 1073741824) : clamp n = n := by unfold clamp; omega
theorem clamp_clamp (n : Int) : clamp (clamp n) = clamp n := clamp_in (clamp_bd n).1 (clamp_bd n).2

/-- has a rectangle no point? -/
def None (a b c d : Int) : Prop := clamp c ≤ clamp a ∨ clamp d ≤ clamp b
instance (a b c d : Int) : Decidable (None a b c d) := by unfold None; infer_instance
def noneB (a b c d : Int) : Bool := decide (clamp c ≤ clamp a ∨ clamp d ≤ clamp b)
theorem noneB_yes {a b c d : Int} (h : None a b c d) : noneB a b c d = true := decide_eq_true h
theorem noneB_no {a b c d : Int} (h : ¬ None a b c d) : noneB a b c d = false := decide_eq_false h
/-- a rectangle's four numbers, as they count -/
structure R where
  a : Int
  b : Int
  c : Int
  d : Int
  deriving DecidableEq
def ctd (a b c d : Int) : R := if None a b c d then ⟨0, 0, 0, 0⟩ else ⟨clamp a, clamp b, clamp c, clamp d⟩
theorem ctd_none {a b c d : Int} (h : None a b c d) : ctd a b c d = ⟨0, 0, 0, 0⟩ := if_pos h
theorem ctd_some {a b c d : Int} (h : ¬ None a b c d) : ctd a b c d = ⟨clamp a, clamp b, clamp c, clamp d⟩ := if_neg h

/-- a distance -/
def dist (a b : Int) : Int := max (clamp a - clamp b) (clamp b - clamp a)
def far (x y u v : Int) : Int := max (dist x u) (dist y v)
/-- how far a number lies from the nearest from lo on and below hi -/
def out (n lo hi : Int) : Int := max (lo - clamp n) (max 0 (clamp n - (hi - 1)))
def gap (a b c d x y : Int) : Int := if None a b c d then -1 else max (out x (clamp a) (clamp c)) (out y (clamp b) (clamp d))
/-- one side moved -/
def mv (a d : Int) : Int := clamp (clamp a + clamp d)
theorem gap_has (a b c d x y : Int) : (gap a b c d x y = 0) ↔ (clamp a ≤ clamp x ∧ clamp x < clamp c ∧ clamp b ≤ clamp y ∧ clamp y < clamp d) := by
  unfold gap
  by_cases h : None a b c d
  · rw [if_pos h]
    unfold None at h
    omega
  · rw [if_neg h]
    unfold None at h
    unfold out
    omega
/-- does the document say that a point is one of a rectangle's? -/
def hasR (a b c d x y : Int) : Bool := decide (clamp a ≤ clamp x ∧ clamp x < clamp c ∧ clamp b ≤ clamp y ∧ clamp y < clamp d)
/-- what two rectangles have in common -/
def two (a0 a1 a2 a3 q0 q1 q2 q3 : Int) : R :=
  if None (max (clamp a0) (clamp q0)) (max (clamp a1) (clamp q1)) (min (clamp a2) (clamp q2)) (min (clamp a3) (clamp q3)) then ⟨0, 0, 0, 0⟩
  else ⟨max (clamp a0) (clamp q0), max (clamp a1) (clamp q1), min (clamp a2) (clamp q2), min (clamp a3) (clamp q3)⟩
/-- the greater begins, the lesser ends -/
def cf (r s : Int × Int × Int × Int) : Int × Int × Int × Int := (max r.1 s.1, max r.2.1 s.2.1, min r.2.2.1 s.2.2.1, min r.2.2.2 s.2.2.2)
def fold (x : Int × Int × Int × Int) (l : List (Int × Int × Int × Int)) : Int × Int × Int × Int := l.foldl cf x
theorem fold_snoc (x : Int × Int × Int × Int) (l : List (Int × Int × Int × Int)) (y : Int × Int × Int × Int) : fold x (l ++ [y]) = cf (fold x l) y := by unfold fold; rw [List.foldl_append]; rfl
/-- what a row of rectangles has in common, as it counts -/
def cut (x : Int × Int × Int × Int) (l : List (Int × Int × Int × Int)) : R := ctd (fold x l).1 (fold x l).2.1 (fold x l).2.2.1 (fold x l).2.2.2
def twR (r : R) (s : Int × Int × Int × Int) : R := two r.a r.b r.c r.d s.1 s.2.1 s.2.2.1 s.2.2.2
theorem two_self (x : Int × Int × Int × Int) : two x.1 x.2.1 x.2.2.1 x.2.2.2 x.1 x.2.1 x.2.2.1 x.2.2.2 = cut x [] := by
  obtain ⟨a, b, c, d⟩ := x
  unfold two cut fold
  simp only [List.foldl_nil, Int.max_self, Int.min_self]
  by_cases h : None a b c d
  · rw [ctd_none h, if_pos (by unfold None at *; rw [clamp_clamp, clamp_clamp, clamp_clamp, clamp_clamp]; exact h)]
  · rw [ctd_some h, if_neg (by unfold None at *; rw [clamp_clamp, clamp_clamp, clamp_clamp, clamp_clamp]; exact h)]
theorem clamp_max (a b : Int) : clamp (max a b) = max (clamp a) (clamp b) := by unfold clamp; omega
theorem clamp_min (a b : Int) : clamp (min a b) = min (clamp a) (clamp b) := by unfold clamp; omega
theorem two_next (f s : Int × Int × Int × Int) : twR (ctd f.1 f.2.1 f.2.2.1 f.2.2.2) s = ctd (cf f s).1 (cf f s).2.1 (cf f s).2.2.1 (cf f s).2.2.2 := by
  obtain ⟨a, b, c, d⟩ := f
  obtain ⟨p, q, r, t⟩ := s
  unfold twR two cf
  simp only
  by_cases h : None a b c d
  · have h2 : None (max a p) (max b q) (min c r) (min d t) := by unfold None at *; rw [clamp_max, clamp_max, clamp_min, clamp_min]; omega
    rw [ctd_none h, ctd_none h2]
    simp only
    rw [if_pos]
    unfold None
    rw [clamp_max, clamp_max, clamp_min, clamp_min, clamp_clamp, clamp_clamp, clamp_clamp, clamp_clamp, clamp_in (n := 0) (by omega) (by omega)]
    omega
  · rw [ctd_some h]
    simp only [clamp_clamp]
    rw [← clamp_max, ← clamp_max, ← clamp_min, ← clamp_min]
    by_cases h2 : None (max a p) (max b q) (min c r) (min d t)
    · rw [ctd_none h2, if_pos]
      unfold None at *
      rw [clamp_clamp, clamp_clamp, clamp_clamp, clamp_clamp]
      exact h2
    · rw [ctd_some h2, if_neg]
      unfold None at *
      rw [clamp_clamp, clamp_clamp, clamp_clamp, clamp_clamp]
      exact h2
theorem cut_snoc (x : Int × Int × Int × Int) (l : List (Int × Int × Int × Int)) (y : Int × Int × Int × Int) : twR (cut x l) y = cut x (l ++ [y]) := by
  unfold cut
  rw [two_next, fold_snoc]
theorem ctd_bd (a b c d : Int) : (-1073741824 ≤ (ctd a b c d).a ∧ (ctd a b c d).a ≤ 1073741824) ∧ (-1073741824 ≤ (ctd a b c d).b ∧ (ctd a b c d).b ≤ 1073741824) ∧ (-1073741824 ≤ (ctd a b c d).c ∧ (ctd a b c d).c ≤ 1073741824) ∧ (-1073741824 ≤ (ctd a b c d).d ∧ (ctd a b c d).d ≤ 1073741824) := by
  by_cases h : None a b c d
  · rw [ctd_none h]; refine ⟨⟨?_, ?_⟩, ⟨?_, ?_⟩, ⟨?_, ?_⟩, ⟨?_, ?_⟩⟩ <;> simp
  · rw [ctd_some h]; exact ⟨clamp_bd a, clamp_bd b, clamp_bd c, clamp_bd d⟩
/-- the points of what they have in common are those that each has -/
theorem has_ctd (a b c d x y : Int) : hasR (ctd a b c d).a (ctd a b c d).b (ctd a b c d).c (ctd a b c d).d x y = hasR a b c d x y := by
  by_cases h : None a b c d
  · rw [ctd_none h]
    unfold hasR None at *
    rw [Bool.eq_iff_iff]
    simp only [decide_eq_true_eq]
    rw [clamp_in (n := 0) (by omega) (by omega)]
    omega
  · rw [ctd_some h]
    unfold hasR
    rw [clamp_clamp, clamp_clamp, clamp_clamp, clamp_clamp]
theorem has_cf (f s : Int × Int × Int × Int) (x y : Int) : hasR (cf f s).1 (cf f s).2.1 (cf f s).2.2.1 (cf f s).2.2.2 x y = (hasR f.1 f.2.1 f.2.2.1 f.2.2.2 x y && hasR s.1 s.2.1 s.2.2.1 s.2.2.2 x y) := by
  unfold hasR cf
  rw [Bool.eq_iff_iff]
  simp only [decide_eq_true_eq, Bool.and_eq_true, clamp_max, clamp_min]
  omega
def hasQ (x y : Int) (r : Int × Int × Int × Int) : Bool := hasR r.1 r.2.1 r.2.2.1 r.2.2.2 x y
theorem has_fold (x y : Int) : ∀ (l : List (Int × Int × Int × Int)) (r : Int × Int × Int × Int), hasQ x y (fold r l) = (hasQ x y r && l.all (hasQ x y))
  | [], r => by simp [fold]
  | s :: l, r => by
    have := has_fold x y l (cf r s)
    show hasQ x y (fold (cf r s) l) = _
    rw [this, List.all_cons]
    unfold hasQ
    rw [has_cf, Bool.and_assoc]
theorem has_cut (x y : Int) (r : Int × Int × Int × Int) (l : List (Int × Int × Int × Int)) : hasR (cut r l).a (cut r l).b (cut r l).c (cut r l).d x y = (r :: l).all (hasQ x y) := by
  unfold cut
  rw [has_ctd]
  exact has_fold x y l r
/-- how far to move -/
def by_ (n : Int) : Int := max 0 (clamp n)
theorem mv_neg (a n : Int) : mv (clamp a) (-(max n 0)) = clamp (clamp a - by_ n) := by unfold mv by_ clamp; omega
theorem mv_pos (a n : Int) : mv (clamp a) (max n 0) = clamp (clamp a + by_ n) := by unfold mv by_ clamp; omega
/-- what a rectangle is grown to -/
def grown (a b c d n : Int) : R := if None a b c d then ⟨0, 0, 0, 0⟩ else ⟨clamp (clamp a - by_ n), clamp (clamp b - by_ n), clamp (clamp c + by_ n), clamp (clamp d + by_ n)⟩
theorem by_bd (n : Int) : 0 ≤ by_ n ∧ by_ n ≤ 1073741824 := by unfold by_ clamp; omega
theorem clamp_zero : clamp 0 = 0 := clamp_in (by omega) (by omega)
end Rc
end Go.Proofs.Ytloogafnkkbigaa
