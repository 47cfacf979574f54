/- PzPure, PzMod, RcPure, ZnPure, in one text. -/
import Derived.Laws.BitsAllLaws
import Derived.IntWalk
import Derived.RowKit
namespace Go.Proofs.Ytfmbldjaknjgbaa
open Go
set_option linter.unusedVariables false

def Fit (n : Int) : Prop := -9223372036854775808 ≤ n ∧ n ≤ 9223372036854775807
/-! ### bits -/
theorem wrap_toInt (r : BitVec 64) : IntKind.i64.wrap (r.toNat : Int) = r.toInt := by
  rw [IntKind.wrap_i64, BitVec.toInt_eq_toNat_cond]
  have := r.isLt
  split <;> omega
theorem bits_or (x y : Int) : bits .or .i64 x y = (BitVec.ofInt 64 x ||| BitVec.ofInt 64 y).toInt := wrap_toInt _
theorem bits_and (x y : Int) : bits .and .i64 x y = (BitVec.ofInt 64 x &&& BitVec.ofInt 64 y).toInt := wrap_toInt _
theorem bits_andNot (x y : Int) : bits .andNot .i64 x y = (BitVec.ofInt 64 x &&& ~~~ BitVec.ofInt 64 y).toInt := wrap_toInt _
theorem bits_xor (x y : Int) : bits .xor .i64 x y = (BitVec.ofInt 64 x ^^^ BitVec.ofInt 64 y).toInt := wrap_toInt _
theorem of_toInt (r : BitVec 64) : BitVec.ofInt 64 r.toInt = r := BitVec.ofInt_toInt
theorem toInt_of {x : Int} (h : Fit x) : (BitVec.ofInt 64 x).toInt = x := by
  obtain ⟨h1, h2⟩ := h
  rw [BitVec.toInt_ofInt]
  simp only [Int.bmod]
  omega
theorem fit_toInt (r : BitVec 64) : Fit r.toInt := by
  have h1 := BitVec.toInt_lt (x := r)
  have h2 := BitVec.le_toInt (x := r)
  unfold Fit
  omega
theorem fit_or (x y : Int) : Fit (bits .or .i64 x y) := by rw [bits_or]; exact fit_toInt _
theorem fit_and (x y : Int) : Fit (bits .and .i64 x y) := by rw [bits_and]; exact fit_toInt _
theorem fit_andNot (x y : Int) : Fit (bits .andNot .i64 x y) := by rw [bits_andNot]; exact fit_toInt _
/-- bit k of a number, also of one below 0 -/
def bitB (x : Int) (k : Nat) : Bool := decide (x / (2 : Int) ^ k % 2 = 1)
theorem getLsb_of {x : Int} {k : Nat} (hk : k ≤ 4) : (BitVec.ofInt 64 x).getLsbD k = bitB x k := by
  rw [← BitVec.testBit_toNat, Nat.testBit_eq_decide_div_mod_eq, BitVec.toNat_ofInt]
  unfold bitB
  rw [decide_eq_decide]
  have : k = 0 ∨ k = 1 ∨ k = 2 ∨ k = 3 ∨ k = 4 := by omega
  rcases this with rfl | rfl | rfl | rfl | rfl <;> simp only [Nat.reducePow, Int.reducePow] <;> omega
theorem bit_or (x y : Int) {k : Nat} (hk : k ≤ 4) : bitB (bits .or .i64 x y) k = (bitB x k || bitB y k) := by
  rw [← getLsb_of hk, bits_or, of_toInt, BitVec.getLsbD_or, getLsb_of hk, getLsb_of hk]
theorem bit_and (x y : Int) {k : Nat} (hk : k ≤ 4) : bitB (bits .and .i64 x y) k = (bitB x k && bitB y k) := by
  rw [← getLsb_of hk, bits_and, of_toInt, BitVec.getLsbD_and, getLsb_of hk, getLsb_of hk]
theorem bit_andNot (x y : Int) {k : Nat} (hk : k ≤ 4) : bitB (bits .andNot .i64 x y) k = (bitB x k && !bitB y k) := by
  rw [← getLsb_of hk, bits_andNot, of_toInt, BitVec.getLsbD_and, BitVec.getLsbD_not, getLsb_of hk, getLsb_of hk]
  simp [show k < 64 by omega]
theorem or_assoc' (x y z : Int) : bits .or .i64 (bits .or .i64 x y) z = bits .or .i64 x (bits .or .i64 y z) := by
  rw [bits_or, bits_or, bits_or, bits_or, of_toInt, of_toInt, BitVec.or_assoc]
theorem or_self' {x : Int} (h : Fit x) : bits .or .i64 x x = x := by rw [bits_or, BitVec.or_self, toInt_of h]
theorem or_zero' {x : Int} (h : Fit x) : bits .or .i64 x 0 = x := by
  rw [bits_or, show BitVec.ofInt 64 0 = 0#64 from rfl, BitVec.or_zero, toInt_of h]
theorem andNot_zero' {x : Int} (h : Fit x) : bits .andNot .i64 x 0 = x := by
  rw [bits_andNot, show ~~~ BitVec.ofInt 64 0 = BitVec.allOnes 64 by decide, BitVec.and_allOnes, toInt_of h]
theorem andNot_two (x y z : Int) : bits .andNot .i64 (bits .andNot .i64 x y) z = bits .andNot .i64 x (bits .or .i64 y z) := by
  rw [bits_andNot, bits_andNot, bits_andNot, bits_or, of_toInt, of_toInt]
  congr 1
  rw [BitVec.and_assoc, ← BitVec.not_or]
theorem andNot_or (x y : Int) : bits .andNot .i64 (bits .or .i64 x y) y = bits .andNot .i64 x y := by
  rw [bits_andNot, bits_andNot, bits_or, of_toInt]
  congr 1
  apply BitVec.eq_of_getLsbD_eq
  intro i hi
  simp only [BitVec.getLsbD_and, BitVec.getLsbD_or, BitVec.getLsbD_not, hi, decide_true, Bool.true_and]
  cases (BitVec.ofInt 64 x).getLsbD i <;> cases (BitVec.ofInt 64 y).getLsbD i <;> rfl
theorem or_andNot {x : Int} (hx : Fit x) (y : Int) : bits .or .i64 (bits .andNot .i64 x y) x = x := by
  rw [bits_or, bits_andNot, of_toInt]
  have : (BitVec.ofInt 64 x &&& ~~~ BitVec.ofInt 64 y) ||| BitVec.ofInt 64 x = BitVec.ofInt 64 x := by
    apply BitVec.eq_of_getLsbD_eq
    intro i hi
    simp only [BitVec.getLsbD_and, BitVec.getLsbD_or, BitVec.getLsbD_not, hi, decide_true, Bool.true_and]
    cases (BitVec.ofInt 64 x).getLsbD i <;> cases (BitVec.ofInt 64 y).getLsbD i <;> rfl
  rw [this, toInt_of hx]
theorem and_or_right (x y : Int) : bits .and .i64 (bits .or .i64 x y) y = bits .and .i64 y y := by
  rw [bits_and, bits_and, bits_or, of_toInt]
  congr 1
  apply BitVec.eq_of_getLsbD_eq
  intro i hi
  simp only [BitVec.getLsbD_and, BitVec.getLsbD_or]
  cases (BitVec.ofInt 64 x).getLsbD i <;> cases (BitVec.ofInt 64 y).getLsbD i <;> rfl
theorem and_or_left (x y : Int) : bits .and .i64 (bits .or .i64 x y) x = bits .and .i64 x x := by
  rw [bits_and, bits_and, bits_or, of_toInt]
  congr 1
  apply BitVec.eq_of_getLsbD_eq
  intro i hi
  simp only [BitVec.getLsbD_and, BitVec.getLsbD_or]
  cases (BitVec.ofInt 64 x).getLsbD i <;> cases (BitVec.ofInt 64 y).getLsbD i <;> rfl
theorem and_self' {x : Int} (h : Fit x) : bits .and .i64 x x = x := by rw [bits_and, BitVec.and_self, toInt_of h]
theorem and_andNot (x y : Int) : bits .and .i64 (bits .andNot .i64 x y) y = 0 := by
  rw [bits_and, bits_andNot, of_toInt]
  have : (BitVec.ofInt 64 x &&& ~~~ BitVec.ofInt 64 y) &&& BitVec.ofInt 64 y = 0#64 := by
    apply BitVec.eq_of_getLsbD_eq
    intro i hi
    simp only [BitVec.getLsbD_and, BitVec.getLsbD_not, hi, decide_true, Bool.true_and, BitVec.getLsbD_zero]
    cases (BitVec.ofInt 64 x).getLsbD i <;> cases (BitVec.ofInt 64 y).getLsbD i <;> rfl
  rw [this]
  rfl
/-- what is left of x without what it has of y -/
theorem sub_and (x y : Int) : IntKind.i64.wrap (x - bits .and .i64 x y) = bits .andNot .i64 x y := by
  have h1 : BitVec.ofInt 64 x - (BitVec.ofInt 64 x &&& BitVec.ofInt 64 y) = BitVec.ofInt 64 x &&& ~~~ BitVec.ofInt 64 y := by
    have h2 : (BitVec.ofInt 64 x &&& ~~~ BitVec.ofInt 64 y) + (BitVec.ofInt 64 x &&& BitVec.ofInt 64 y) = BitVec.ofInt 64 x := by
      rw [BitVec.add_eq_or_of_and_eq_zero]
      · apply BitVec.eq_of_getLsbD_eq
        intro i hi
        simp only [BitVec.getLsbD_and, BitVec.getLsbD_or, BitVec.getLsbD_not, hi, decide_true, Bool.true_and]
        cases (BitVec.ofInt 64 x).getLsbD i <;> cases (BitVec.ofInt 64 y).getLsbD i <;> rfl
      · apply BitVec.eq_of_getLsbD_eq
        intro i hi
        simp only [BitVec.getLsbD_and, BitVec.getLsbD_not, hi, decide_true, Bool.true_and, BitVec.getLsbD_zero]
        cases (BitVec.ofInt 64 x).getLsbD i <;> cases (BitVec.ofInt 64 y).getLsbD i <;> rfl
    generalize BitVec.ofInt 64 x &&& ~~~ BitVec.ofInt 64 y = p at *
    generalize BitVec.ofInt 64 x &&& BitVec.ofInt 64 y = q at *
    rw [← h2, BitVec.add_sub_cancel]
  rw [bits_andNot, ← h1, bits_and, IntKind.wrap_i64]
  generalize hq : BitVec.ofInt 64 x &&& BitVec.ofInt 64 y = q
  rw [BitVec.toInt_sub, BitVec.toInt_ofInt]
  simp only [Int.bmod]
  omega
/-- two masks with 31 as their greatest: their bits tell them -/
theorem mask_lt {x : Int} : 0 ≤ x ∧ x ≤ 31 ↔ (0 ≤ x ∧ x / 32 = 0) := by omega
end Go.Proofs.Ytfmbldjaknjgbaa
namespace Go.Proofs.Ytfmbldjaknjgbaa
open Go
set_option linter.unusedVariables false

namespace Pz
/-- an entity: its name, its mask, its numbers -/
structure Bn where
  s : Int
  i : Int
  g : Int
  m : Int
  x : Int
  y : Int
  vx : Int
  vy : Int
  h : Int
  p : Int
  l : Int
abbrev Bn.row (b : Bn) : List Value := [.int .i64 b.s, .int .i64 b.i, .int .i64 b.g, .int .i64 b.m, .int .i64 b.x, .int .i64 b.y, .int .i64 b.vx, .int .i64 b.vy, .int .i64 b.h, .int .i64 b.p, .int .i64 b.l]
abbrev Bn.val (b : Bn) : Value := .agg #[.int .i64 b.s, .int .i64 b.i, .int .i64 b.g, .int .i64 b.m, .int .i64 b.x, .int .i64 b.y, .int .i64 b.vx, .int .i64 b.vy, .int .i64 b.h, .int .i64 b.p, .int .i64 b.l]
structure Bn.Fits (b : Bn) : Prop where
  s : Fit b.s
  i : Fit b.i
  g : Fit b.g
  m : Fit b.m
  x : Fit b.x
  y : Fit b.y
  vx : Fit b.vx
  vy : Fit b.vy
  h : Fit b.h
  p : Fit b.p
  l : Fit b.l
def inB (n lo hi : Int) (has : Bool) : Bool := if has then decide (lo ≤ n) && decide (n ≤ hi) else decide (n = 0)
def rightID (s i g : Int) : Bool := ((((decide (s ≥ 0) && decide (s ≤ 15)) && decide (i ≥ 0)) && decide (i ≤ 15)) && decide (g ≥ 0)) && decide (g < 1048576)
def right (b : Bn) : Bool :=
  (!(decide (b.m < 0) || decide (b.m > 31)) && (inB b.x (-1073741824) 1073741824 (bitB b.m 0) && inB b.y (-1073741824) 1073741824 (bitB b.m 0)) && (inB b.vx (-1073741824) 1073741824 (bitB b.m 1) && inB b.vy (-1073741824) 1073741824 (bitB b.m 1))) &&
    ((inB b.h 1 1048576 (bitB b.m 2) && inB b.p 0 1024 (bitB b.m 3)) && inB b.l 1 1048576 (bitB b.m 4))
def may (b : Bn) : Bool := (rightID b.s b.i b.g && right b) && bitB b.m 0
def takesB (m : Int) : Bool := (decide (m ≥ 1) && decide (m ≤ 31)) && !bitB m 0
def errB (b : Bool) : Int := if b then 0 else 1
/-- a command: its kind, name, entity, mask -/
structure Cn where
  k : Int
  s : Int
  i : Int
  g : Int
  b : Bn
  m : Int
abbrev Cn.val (c : Cn) : Value := .agg #[.int .i64 c.k, .int .i64 c.s, .int .i64 c.i, .int .i64 c.g, .int .i64 c.b.s, .int .i64 c.b.i, .int .i64 c.b.g, .int .i64 c.b.m, .int .i64 c.b.x, .int .i64 c.b.y, .int .i64 c.b.vx, .int .i64 c.b.vy, .int .i64 c.b.h, .int .i64 c.b.p, .int .i64 c.b.l, .int .i64 c.m]
def noID (s i g : Int) : Bool := (s == 0) && ((i == 0) && (g == 0))
def empty (b : Bn) : Bool := noID b.s b.i b.g && ((b.m == 0) && ((b.x == 0) && ((b.y == 0) && ((b.vx == 0) && ((b.vy == 0) && ((b.h == 0) && ((b.p == 0) && (b.l == 0))))))))
/-- the same entity? -/
def sameB (a b : Bn) : Bool := ((a.s == b.s) && ((a.i == b.i) && (a.g == b.g))) && ((a.m == b.m) && ((a.x == b.x) && ((a.y == b.y) && ((a.vx == b.vx) && ((a.vy == b.vy) && ((a.h == b.h) && ((a.p == b.p) && (a.l == b.l))))))))
def mayCmd (c : Cn) : Bool :=
  if c.k = 1 then (noID c.s c.i c.g && decide (c.m = 0)) && may c.b else
  if c.k = 2 then (rightID c.s c.i c.g && decide (c.m = 0)) && empty c.b else
  if c.k = 3 then (((rightID c.s c.i c.g && decide (c.m = 0)) && noID c.b.s c.b.i c.b.g) && takesB c.b.m) && right c.b else
  if c.k = 4 then (rightID c.s c.i c.g && empty c.b) && takesB c.m else false
def withB (b c : Bn) : Bn :=
  { b with
    x := if bitB c.m 0 then c.x else b.x
    y := if bitB c.m 0 then c.y else b.y
    vx := if bitB c.m 1 then c.vx else b.vx
    vy := if bitB c.m 1 then c.vy else b.vy
    h := if bitB c.m 2 then c.h else b.h
    p := if bitB c.m 3 then c.p else b.p
    l := if bitB c.m 4 then c.l else b.l
    m := bits .or .i64 b.m c.m }
def withoutB (b : Bn) (k : Int) : Bn :=
  { b with
    x := if bitB k 0 then 0 else b.x
    y := if bitB k 0 then 0 else b.y
    vx := if bitB k 1 then 0 else b.vx
    vy := if bitB k 1 then 0 else b.vy
    h := if bitB k 2 then 0 else b.h
    p := if bitB k 3 then 0 else b.p
    l := if bitB k 4 then 0 else b.l
    m := bits .andNot .i64 b.m k }
def before (a b : Int × Int × Int) : Bool := if a.1 ≠ b.1 then decide (a.1 < b.1) else if a.2.1 ≠ b.2.1 then decide (a.2.1 < b.2.1) else decide (a.2.2 < b.2.2)
abbrev Bn.id (b : Bn) : Int × Int × Int := (b.s, b.i, b.g)
end Pz
end Go.Proofs.Ytfmbldjaknjgbaa
namespace Go.Proofs.Ytfmbldjaknjgbaa
namespace Rc

/-- the nearest fixed number -/
def clamp (n : Int) : Int := max (-1073741824) (min n 1073741824)
theorem clamp_bd (n : Int) : -1073741824 ≤ clamp n ∧ clamp n ≤ 1073741824 := by unfold clamp; omega
theorem clamp_in {n : Int} (h : -1073741824 ≤ n) (h' : n ≤ 1073741824) : clamp n = n := by unfold clamp; omega
theorem clamp_clamp (n : Int) : clamp (clamp n) = clamp n := clamp_in (clamp_bd n).1 (clamp_bd n).2

/-- has a rectangle no point? -/
def None (a b c d : Int) : Prop := clamp c ≤ clamp a ∨ clamp d ≤ clamp b
instance (a b c d : Int) : Decidable (None a b c d) := by unfold None; infer_instance
def noneB (a b c d : Int) : Bool := decide (clamp c ≤ clamp a ∨ clamp d ≤ clamp b)
theorem noneB_yes {a b c d : Int} (h : None a b c d) : noneB a b c d = true := decide_eq_true h
theorem noneB_no {a b c d : Int} (h : ¬ None a b c d) : noneB a b c d = false := decide_eq_false h
/-- a rectangle's four numbers, as they count -/
structure R where
  a : Int
  b : Int
  c : Int
  d : Int
  deriving DecidableEq
def ctd (a b c d : Int) : R := if None a b c d then ⟨0, 0, 0, 0⟩ else ⟨clamp a, clamp b, clamp c, clamp d⟩
theorem ctd_none {a b c d : Int} (h : None a b c d) : ctd a b c d = ⟨0, 0, 0, 0⟩ := if_pos h
theorem ctd_some {a b c d : Int} (h : ¬ None a b c d) : ctd a b c d = ⟨clamp a, clamp b, clamp c, clamp d⟩ := if_neg h

/-- a distance -/
def dist (a b : Int) : Int := max (clamp a - clamp b) (clamp b - clamp a)
def far (x y u v : Int) : Int := max (dist x u) (dist y v)
/-- how far a number lies from the nearest from lo on and below hi -/
def out (n lo hi : Int) : Int := max (lo - clamp n) (max 0 (clamp n - (hi - 1)))
def gap (a b c d x y : Int) : Int := if None a b c d then -1 else max (out x (clamp a) (clamp c)) (out y (clamp b) (clamp d))
/-- one side moved -/
def mv (a d : Int) : Int := clamp (clamp a + clamp d)
theorem gap_has (a b c d x y : Int) : (gap a b c d x y = 0) ↔ (clamp a ≤ clamp x ∧ clamp x < clamp c ∧ clamp b ≤ clamp y ∧ clamp y < clamp d) := by
  unfold gap
  by_cases h : None a b c d
  · rw [if_pos h]
    unfold None at h
    omega
  · rw [if_neg h]
    unfold None at h
    unfold out
    omega
/-- does the document say that a point is one of a rectangle's? -/
def hasR (a b c d x y : Int) : Bool := decide (clamp a ≤ clamp x ∧ clamp x < clamp c ∧ clamp b ≤ clamp y ∧ clamp y < clamp d)
/-- what two rectangles have in common -/
def two (a0 a1 a2 a3 q0 q1 q2 q3 : Int) : R :=
  if None (max (clamp a0) (clamp q0)) (max (clamp a1) (clamp q1)) (min (clamp a2) (clamp q2)) (min (clamp a3) (clamp q3)) then ⟨0, 0, 0, 0⟩
  else ⟨max (clamp a0) (clamp q0), max (clamp a1) (clamp q1), min (clamp a2) (clamp q2), min (clamp a3) (clamp q3)⟩
/-- the greater begins, the lesser ends -/
def cf (r s : Int × Int × Int × Int) : Int × Int × Int × Int := (max r.1 s.1, max r.2.1 s.2.1, min r.2.2.1 s.2.2.1, min r.2.2.2 s.2.2.2)
def fold (x : Int × Int × Int × Int) (l : List (Int × Int × Int × Int)) : Int × Int × Int × Int := l.foldl cf x
theorem fold_snoc (x : Int × Int × Int × Int) (l : List (Int × Int × Int × Int)) (y : Int × Int × Int × Int) : fold x (l ++ [y]) = cf (fold x l) y := by unfold fold; rw [List.foldl_append]; rfl
/-- what a row of rectangles has in common, as it counts -/
def cut (x : Int × Int × Int × Int) (l : List (Int × Int × Int × Int)) : R := ctd (fold x l).1 (fold x l).2.1 (fold x l).2.2.1 (fold x l).2.2.2
def twR (r : R) (s : Int × Int × Int × Int) : R := two r.a r.b r.c r.d s.1 s.2.1 s.2.2.1 s.2.2.2
theorem two_self (x : Int × Int × Int × Int) : two x.1 x.2.1 x.2.2.1 x.2.2.2 x.1 x.2.1 x.2.2.1 x.2.2.2 = cut x [] := by
  obtain ⟨a, b, c, d⟩ := x
  unfold two cut fold
  simp only [List.foldl_nil, Int.max_self, Int.min_self]
  by_cases h : None a b c d
  · rw [ctd_none h, if_pos (by unfold None at *; rw [clamp_clamp, clamp_clamp, clamp_clamp, clamp_clamp]; exact h)]
  · rw [ctd_some h, if_neg (by unfold None at *; rw [clamp_clamp, clamp_clamp, clamp_clamp, clamp_clamp]; exact h)]
theorem clamp_max (a b : Int) : clamp (max a b) = max (clamp a) (clamp b) := by unfold clamp; omega
theorem clamp_min (a b : Int) : clamp (min a b) = min (clamp a) (clamp b) := by unfold clamp; omega
theorem two_next (f s : Int × Int × Int × Int) : twR (ctd f.1 f.2.1 f.2.2.1 f.2.2.2) s = ctd (cf f s).1 (cf f s).2.1 (cf f s).2.2.1 (cf f s).2.2.2 := by
  obtain ⟨a, b, c, d⟩ := f
  obtain ⟨p, q, r, t⟩ := s
  unfold twR two cf
  simp only
  by_cases h : None a b c d
  · have h2 : None (max a p) (max b q) (min c r) (min d t) := by unfold None at *; rw [clamp_max, clamp_max, clamp_min, clamp_min]; omega
    rw [ctd_none h, ctd_none h2]
    simp only
    rw [if_pos]
    unfold None
    rw [clamp_max, clamp_max, clamp_min, clamp_min, clamp_clamp, clamp_clamp, clamp_clamp, clamp_clamp, clamp_in (n := 0) (by omega) (by omega)]
    omega
  · rw [ctd_some h]
    simp only [clamp_clamp]
    rw [← clamp_max, ← clamp_max, ← clamp_min, ← clamp_min]
    by_cases h2 : None (max a p) (max b q) (min c r) (min d t)
    · rw [ctd_none h2, if_pos]
      unfold None at *
      rw [clamp_clamp, clamp_clamp, clamp_clamp, clamp_clamp]
      exact h2
    · rw [ctd_some h2, if_neg]
      unfold None at *
      rw [clamp_clamp, clamp_clamp, clamp_clamp, clamp_clamp]
      exact h2
theorem cut_snoc (x : Int × Int × Int × Int) (l : List (Int × Int × Int × Int)) (y : Int × Int × Int × Int) : twR (cut x l) y = cut x (l ++ [y]) := by
  unfold cut
  rw [two_next, fold_snoc]
theorem ctd_bd (a b c d : Int) : (-1073741824 ≤ (ctd a b c d).a ∧ (ctd a b c d).a ≤ 1073741824) ∧ (-1073741824 ≤ (ctd a b c d).b ∧ (ctd a b c d).b ≤ 1073741824) ∧ (-1073741824 ≤ (ctd a b c d).c ∧ (ctd a b c d).c ≤ 1073741824) ∧ (-1073741824 ≤ (ctd a b c d).d ∧ (ctd a b c d).d ≤ 1073741824) := by
  by_cases h : None a b c d
  · rw [ctd_none h]; refine ⟨⟨?_, ?_⟩, ⟨?_, ?_⟩, ⟨?_, ?_⟩, ⟨?_, ?_⟩⟩ <;> simp
  · rw [ctd_some h]; exact ⟨clamp_bd a, clamp_bd b, clamp_bd c, clamp_bd d⟩
/-- the points of what they have in common are those that each has -/
theorem has_ctd (a b c d x y : Int) : hasR (ctd a b c d).a (ctd a b c d).b (ctd a b c d).c (ctd a b c d).d x y = hasR a b c d x y := by
  by_cases h : None a b c d
  · rw [ctd_none h]
    unfold hasR None at *
    rw [Bool.eq_iff_iff]
    simp only [decide_eq_true_eq]
    rw [clamp_in (n := 0) (by omega) (by omega)]
    omega
  · rw [ctd_some h]
    unfold hasR
    rw [clamp_clamp, clamp_clamp, clamp_clamp, clamp_clamp]
theorem has_cf (f s : Int × Int × Int × Int) (x y : Int) : hasR (cf f s).1 (cf f s).2.1 (cf f s).2.2.1 (cf f s).2.2.2 x y = (hasR f.1 f.2.1 f.2.2.1 f.2.2.2 x y && hasR s.1 s.2.1 s.2.2.1 s.2.2.2 x y) := by
  unfold hasR cf
  rw [Bool.eq_iff_iff]
  simp only [decide_eq_true_eq, Bool.and_eq_true, clamp_max, clamp_min]
  omega
def hasQ (x y : Int) (r : Int × Int × Int × Int) : Bool := hasR r.1 r.2.1 r.2.2.1 r.2.2.2 x y
theorem has_fold (x y : Int) : ∀ (l : List (Int × Int × Int × Int)) (r : Int × Int × Int × Int), hasQ x y (fold r l) = (hasQ x y r && l.all (hasQ x y))
  | [], r => by simp [fold]
  | s :: l, r => by
    have := has_fold x y l (cf r s)
    show hasQ x y (fold (cf r s) l) = _
    rw [this, List.all_cons]
    unfold hasQ
    rw [has_cf, Bool.and_assoc]
theorem has_cut (x y : Int) (r : Int × Int × Int × Int) (l : List (Int × Int × Int × Int)) : hasR (cut r l).a (cut r l).b (cut r l).c (cut r l).d x y = (r :: l).all (hasQ x y) := by
  unfold cut
  rw [has_ctd]
  exact has_fold x y l r
/-- how far to move -/
def by_ (n : Int) : Int := max 0 (clamp n)
theorem mv_neg (a n : Int) : mv (clamp a) (-(max n 0)) = clamp (clamp a - by_ n) := by unfold mv by_ clamp; omega
theorem mv_pos (a n : Int) : mv (clamp a) (max n 0) = clamp (clamp a + by_ n) := by unfold mv by_ clamp; omega
/-- what a rectangle is grown to -/
def grown (a b c d n : Int) : R := if None a b c d then ⟨0, 0, 0, 0⟩ else ⟨clamp (clamp a - by_ n), clamp (clamp b - by_ n), clamp (clamp c + by_ n), clamp (clamp d + by_ n)⟩
theorem by_bd (n : Int) : 0 ≤ by_ n ∧ by_ n ≤ 1073741824 := by unfold by_ clamp; omega
theorem clamp_zero : clamp 0 = 0 := clamp_in (by omega) (by omega)
end Rc
end Go.Proofs.Ytfmbldjaknjgbaa
namespace Go.Proofs.Ytfmbldjaknjgbaa
namespace Zn
open Rc (clamp)

/-- what Check asks -/
def okB (C R S D V N Q : Int) : Bool := decide ((1 ≤ C ∧ C ≤ 4) ∧ (1 ≤ R ∧ R ≤ 4) ∧ (256 ≤ S ∧ S ≤ 1048576) ∧ (0 ≤ D ∧ D ≤ S) ∧ (0 ≤ V ∧ V ≤ S) ∧ (1 ≤ N ∧ N ≤ 16) ∧ (1 ≤ Q ∧ Q ≤ 64))
/-- the part of it that the zones' places hang on -/
structure Ok (C R S D V : Int) : Prop where
  c0 : 1 ≤ C
  c1 : C ≤ 4
  r0 : 1 ≤ R
  r1 : R ≤ 4
  s0 : 256 ≤ S
  s1 : S ≤ 1048576
  d0 : 0 ≤ D
  d1 : D ≤ S
  v0 : 0 ≤ V
  v1 : V ≤ S

section
variable {C R S D V : Int}
theorem mul4 (h0 : 0 ≤ C) (h1 : C ≤ 4) : C * S = 0 ∨ C * S = S ∨ C * S = 2 * S ∨ C * S = 3 * S ∨ C * S = 4 * S := by
  rcases (show C = 0 ∨ C = 1 ∨ C = 2 ∨ C = 3 ∨ C = 4 by omega) with rfl | rfl | rfl | rfl | rfl <;> omega
theorem mul_bd (h : Ok C R S D V) : 1 ≤ C * R ∧ C * R ≤ 16 := by
  obtain ⟨c0, c1, r0, r1, _⟩ := h
  rcases (show C = 1 ∨ C = 2 ∨ C = 3 ∨ C = 4 by omega) with rfl | rfl | rfl | rfl <;> omega
theorem side_bd {q : Int} (s0 : 256 ≤ S) (s1 : S ≤ 1048576) (h0 : 0 ≤ q) (h1 : q ≤ 4) : 0 ≤ q * S ∧ q * S ≤ 4194304 := by
  rcases (show q = 0 ∨ q = 1 ∨ q = 2 ∨ q = 3 ∨ q = 4 by omega) with rfl | rfl | rfl | rfl | rfl <;> omega

/-- is there such a zone? -/
def There (C R k : Int) : Prop := 0 ≤ k ∧ k < C * R
instance (C R k : Int) : Decidable (There C R k) := by unfold There; infer_instance
theorem col_bd {k : Int} (h : Ok C R S D V) : 0 ≤ k % C ∧ k % C < C := ⟨Int.emod_nonneg _ (by have := h.c0; omega), Int.emod_lt_of_pos _ (by have := h.c0; omega)⟩
theorem row_bd {k : Int} (h : Ok C R S D V) (hk : There C R k) : 0 ≤ k / C ∧ k / C < R := by
  have := h.c0
  refine ⟨Int.ediv_nonneg hk.1 (by omega), Int.ediv_lt_of_lt_mul (by omega) ?_⟩
  rw [Int.mul_comm]; exact hk.2
/-- a zone's rectangle -/
def zone (C R S k : Int) : Rc.R := if There C R k then ⟨k % C * S, k / C * S, k % C * S + S, k / C * S + S⟩ else ⟨0, 0, 0, 0⟩
theorem zone_yes {k : Int} (h : There C R k) : zone C R S k = ⟨k % C * S, k / C * S, k % C * S + S, k / C * S + S⟩ := if_pos h
theorem zone_no {k : Int} (h : ¬ There C R k) : zone C R S k = ⟨0, 0, 0, 0⟩ := if_neg h
/-- the zone that has a point -/
def of (C R S x y : Int) : Int := if 0 ≤ x ∧ x < C * S ∧ 0 ≤ y ∧ y < R * S then y / S * C + x / S else -1
/-- a number brought below an end -/
def into (x e : Int) : Int := max 0 (min x (e - 1))

theorem div_is {q x : Int} (s0 : 256 ≤ S) : x / S = q ↔ q * S ≤ x ∧ x < q * S + S := by
  have h1 : q ≤ x / S ↔ q * S ≤ x := Int.le_ediv_iff_mul_le (by omega)
  have h2 : x / S < q + 1 ↔ x < (q + 1) * S := Int.ediv_lt_iff_lt_mul (by omega)
  rw [Int.add_mul, Int.one_mul] at h2
  omega
theorem div_lt {x n : Int} (s0 : 256 ≤ S) : x / S < n ↔ x < n * S := Int.ediv_lt_iff_lt_mul (by omega)
theorem div_ge {x n : Int} (s0 : 256 ≤ S) : n ≤ x / S ↔ n * S ≤ x := Int.le_ediv_iff_mul_le (by omega)
theorem le_clamp {a x : Int} (h0 : -1073741824 < a) (h1 : a ≤ 1073741824) : a ≤ clamp x ↔ a ≤ x := by unfold clamp; omega
theorem clamp_lt {a x : Int} (h0 : -1073741824 < a) (h1 : a ≤ 1073741824) : clamp x < a ↔ x < a := by unfold clamp; omega

theorem zone_bd {k : Int} (h : Ok C R S D V) (hk : There C R k) : (0 ≤ k % C * S ∧ k % C * S ≤ 4194304) ∧ (0 ≤ k / C * S ∧ k / C * S ≤ 4194304) ∧ (0 ≤ k % C * S + S ∧ k % C * S + S ≤ 5242880) ∧ (0 ≤ k / C * S + S ∧ k / C * S + S ≤ 5242880) := by
  have a := col_bd (k := k) h
  have b := row_bd h hk
  have c := side_bd (q := k % C) h.s0 h.s1 (by omega) (by have := h.c1; omega)
  have d := side_bd (q := k / C) h.s0 h.s1 (by omega) (by have := h.r1; omega)
  have := h.s0
  have := h.s1
  omega
theorem zone_some {k : Int} (h : Ok C R S D V) (hk : There C R k) : ¬ Rc.None (k % C * S) (k / C * S) (k % C * S + S) (k / C * S + S) := by
  have := zone_bd h hk
  have := h.s0
  unfold Rc.None clamp
  omega
/-- a point's zone is the one whose rectangle has it -/
theorem has_zone {k : Int} (h : Ok C R S D V) (hk : There C R k) (x y : Int) : Rc.hasR (zone C R S k).a (zone C R S k).b (zone C R S k).c (zone C R S k).d x y = decide (of C R S x y = k) := by
  have zb := zone_bd h hk
  have cb := col_bd (k := k) h
  have rb := row_bd h hk
  have s0 := h.s0
  rw [zone_yes hk]
  unfold Rc.hasR
  rw [decide_eq_decide]
  simp only
  rw [Rc.clamp_in (n := k % C * S) (by omega) (by omega), Rc.clamp_in (n := k / C * S) (by omega) (by omega), Rc.clamp_in (n := k % C * S + S) (by omega) (by omega), Rc.clamp_in (n := k / C * S + S) (by omega) (by omega)]
  rw [le_clamp (by omega) (by omega), le_clamp (by omega) (by omega), clamp_lt (by omega) (by omega), clamp_lt (by omega) (by omega)]
  have hx : (k % C * S ≤ x ∧ x < k % C * S + S) ↔ x / S = k % C := (div_is s0).symm
  have hy : (k / C * S ≤ y ∧ y < k / C * S + S) ↔ y / S = k / C := (div_is s0).symm
  have hk2 : k / C * C + k % C = k := Int.ediv_mul_add_emod k C
  have gx0 : 0 ≤ x / S ↔ 0 * S ≤ x := div_ge s0
  have gx1 : x / S < C ↔ x < C * S := div_lt s0
  have gy0 : 0 ≤ y / S ↔ 0 * S ≤ y := div_ge s0
  have gy1 : y / S < R ↔ y < R * S := div_lt s0
  rw [Int.zero_mul] at gx0 gy0
  unfold of
  constructor
  · intro hh
    have ex := hx.1 ⟨by omega, by omega⟩
    have ey := hy.1 ⟨by omega, by omega⟩
    rw [if_pos ⟨gx0.1 (by omega), gx1.1 (by omega), gy0.1 (by omega), gy1.1 (by omega)⟩, ex, ey]
    exact hk2
  · intro hh
    by_cases hin : 0 ≤ x ∧ x < C * S ∧ 0 ≤ y ∧ y < R * S
    · rw [if_pos hin] at hh
      have c0 := h.c0
      have e1 : x / S = k % C := by
        rw [← hh, Int.mul_comm, Int.add_comm, Int.add_mul_emod_self_left, Int.emod_eq_of_lt (by omega) (by omega)]
      have e2 : y / S = k / C := by
        rw [← hh, Int.add_comm, Int.add_mul_ediv_right _ _ (by omega), Int.ediv_eq_zero_of_lt (a := x / S) (by omega) (by omega)]; omega
      have := hx.2 e1
      have := hy.2 e2
      omega
    · rw [if_neg hin] at hh
      have := hk.1
      omega
theorem of_bd (h : Ok C R S D V) (x y : Int) : of C R S x y = -1 ∨ There C R (of C R S x y) := by
  unfold of
  by_cases hin : 0 ≤ x ∧ x < C * S ∧ 0 ≤ y ∧ y < R * S
  · rw [if_pos hin]
    right
    have s0 := h.s0
    obtain ⟨x0, x1, y0, y1⟩ := hin
    have gx0 : 0 ≤ x / S := (div_ge s0).2 (by omega)
    have gy0 : 0 ≤ y / S := (div_ge s0).2 (by omega)
    have gx1 : x / S < C := (div_lt s0).2 x1
    have gy1 : y / S < R := (div_lt s0).2 y1
    obtain ⟨c0, c1, r0, r1, _⟩ := h
    unfold There
    generalize x / S = a at *
    generalize y / S = b at *
    rcases (show C = 1 ∨ C = 2 ∨ C = 3 ∨ C = 4 by omega) with rfl | rfl | rfl | rfl <;> constructor <;> omega
  · rw [if_neg hin]; exact .inl rfl
/-- of a point of the world: its column and its row -/
theorem of_yes (h : Ok C R S D V) {x y : Int} (hin : There C R (of C R S x y)) : of C R S x y % C = x / S ∧ of C R S x y / C = y / S ∧ 0 ≤ x ∧ x < C * S ∧ 0 ≤ y ∧ y < R * S := by
  by_cases h' : 0 ≤ x ∧ x < C * S ∧ 0 ≤ y ∧ y < R * S
  · have e : of C R S x y = y / S * C + x / S := if_pos h'
    have s0 := h.s0
    obtain ⟨x0, x1, y0, y1⟩ := h'
    have gx0 : 0 ≤ x / S := (div_ge s0).2 (by omega)
    have gx1 : x / S < C := (div_lt s0).2 x1
    have c0 := h.c0
    refine ⟨?_, ?_, x0, x1, y0, y1⟩
    · rw [e, Int.mul_comm, Int.add_comm, Int.add_mul_emod_self_left, Int.emod_eq_of_lt (by omega) (by omega)]
    · rw [e, Int.add_comm, Int.add_mul_ediv_right _ _ (by omega), Int.ediv_eq_zero_of_lt (by omega) (by omega)]; omega
  · rw [show of C R S x y = -1 from if_neg h'] at hin
    have := hin.1
    omega

/-- do two zones lie beside each other (or are one)? -/
def nextB (C k n : Int) : Bool := decide (Rc.far (n % C) (n / C) (k % C) (k / C) ≤ 1)
theorem next_is {k n : Int} (h : Ok C R S D V) (hk : There C R k) (hn : There C R n) : nextB C k n = true ↔ ((n % C ≤ k % C + 1 ∧ k % C ≤ n % C + 1) ∧ (n / C ≤ k / C + 1 ∧ k / C ≤ n / C + 1)) := by
  have a := col_bd (k := k) h
  have b := row_bd h hk
  have c := col_bd (k := n) h
  have d := row_bd h hn
  have c1 := h.c1
  have r1 := h.r1
  unfold nextB Rc.far Rc.dist
  rw [Rc.clamp_in (n := n % C) (by omega) (by omega), Rc.clamp_in (n := n / C) (by omega) (by omega), Rc.clamp_in (n := k % C) (by omega) (by omega), Rc.clamp_in (n := k / C) (by omega) (by omega), decide_eq_true_eq]
  omega
/-- as the document's own text has it: the grown rectangle has a point of the other -/
theorem next_two {k n : Int} (h : Ok C R S D V) (hk : There C R k) (hn : There C R n) :
    (Rc.noneB (Rc.twR (Rc.grown (zone C R S k).a (zone C R S k).b (zone C R S k).c (zone C R S k).d 1) ((zone C R S n).a, (zone C R S n).b, (zone C R S n).c, (zone C R S n).d)).a
      (Rc.twR (Rc.grown (zone C R S k).a (zone C R S k).b (zone C R S k).c (zone C R S k).d 1) ((zone C R S n).a, (zone C R S n).b, (zone C R S n).c, (zone C R S n).d)).b
      (Rc.twR (Rc.grown (zone C R S k).a (zone C R S k).b (zone C R S k).c (zone C R S k).d 1) ((zone C R S n).a, (zone C R S n).b, (zone C R S n).c, (zone C R S n).d)).c
      (Rc.twR (Rc.grown (zone C R S k).a (zone C R S k).b (zone C R S k).c (zone C R S k).d 1) ((zone C R S n).a, (zone C R S n).b, (zone C R S n).c, (zone C R S n).d)).d) = !nextB C k n := by
  have zb := zone_bd h hk
  have zn := zone_bd h hn
  have zs := zone_some h hk
  have s0 := h.s0
  have s1 := h.s1
  have ni := next_is h hk hn
  have a := col_bd (k := k) h
  have b := row_bd h hk
  have c := col_bd (k := n) h
  have d := row_bd h hn
  have c1 := h.c1
  have r1 := h.r1
  -- the comparisons of the corners
  have m1 : ∀ p q : Int, p ≤ q + 1 ↔ p * S ≤ q * S + S := fun p q => by
    have : p * S ≤ (q + 1) * S ↔ p ≤ q + 1 := Int.mul_le_mul_iff_of_pos_right (by omega)
    rw [Int.add_mul, Int.one_mul] at this
    exact this.symm
  have m2 := m1 (n % C) (k % C)
  have m3 := m1 (k % C) (n % C)
  have m4 := m1 (n / C) (k / C)
  have m5 := m1 (k / C) (n / C)
  rw [zone_yes hk, zone_yes hn]
  simp only
  generalize k % C * S = ka at *
  generalize k / C * S = kb at *
  generalize n % C * S = na at *
  generalize n / C * S = nb at *
  rw [show Rc.grown ka kb (ka + S) (kb + S) 1 = ⟨ka - 1, kb - 1, ka + S + 1, kb + S + 1⟩ by
    unfold Rc.grown
    rw [if_neg zs, show Rc.by_ 1 = 1 by decide]
    rw [Rc.clamp_in (n := ka) (by omega) (by omega), Rc.clamp_in (n := kb) (by omega) (by omega), Rc.clamp_in (n := ka + S) (by omega) (by omega), Rc.clamp_in (n := kb + S) (by omega) (by omega)]
    rw [Rc.clamp_in (by omega) (by omega), Rc.clamp_in (by omega) (by omega), Rc.clamp_in (by omega) (by omega), Rc.clamp_in (by omega) (by omega)]]
  have e : Rc.twR ⟨ka - 1, kb - 1, ka + S + 1, kb + S + 1⟩ (na, nb, na + S, nb + S) = if Rc.None (max (ka - 1) na) (max (kb - 1) nb) (min (ka + S + 1) (na + S)) (min (kb + S + 1) (nb + S)) then ⟨0, 0, 0, 0⟩ else ⟨max (ka - 1) na, max (kb - 1) nb, min (ka + S + 1) (na + S), min (kb + S + 1) (nb + S)⟩ := by
    unfold Rc.twR Rc.two
    simp only
    rw [Rc.clamp_in (n := ka - 1) (by omega) (by omega), Rc.clamp_in (n := kb - 1) (by omega) (by omega), Rc.clamp_in (n := ka + S + 1) (by omega) (by omega), Rc.clamp_in (n := kb + S + 1) (by omega) (by omega)]
    rw [Rc.clamp_in (n := na) (by omega) (by omega), Rc.clamp_in (n := nb) (by omega) (by omega), Rc.clamp_in (n := na + S) (by omega) (by omega), Rc.clamp_in (n := nb + S) (by omega) (by omega)]
  rw [e]
  by_cases hh : Rc.None (max (ka - 1) na) (max (kb - 1) nb) (min (ka + S + 1) (na + S)) (min (kb + S + 1) (nb + S))
  · rw [if_pos hh]
    have hno : nextB C k n = false := by
      cases hx : nextB C k n
      · rfl
      · have := ni.1 hx
        unfold Rc.None at hh
        rw [Rc.clamp_in (by omega) (by omega), Rc.clamp_in (by omega) (by omega), Rc.clamp_in (by omega) (by omega), Rc.clamp_in (by omega) (by omega)] at hh
        omega
    rw [hno]
    decide
  · rw [if_neg hh]
    have hyes : nextB C k n = true := by
      refine ni.2 ?_
      unfold Rc.None at hh
      rw [Rc.clamp_in (by omega) (by omega), Rc.clamp_in (by omega) (by omega), Rc.clamp_in (by omega) (by omega), Rc.clamp_in (by omega) (by omega)] at hh
      omega
    rw [hyes]
    exact Rc.noneB_no hh

/-- how far a point lies from a zone -/
def gapZ (C R S k x y : Int) : Int := Rc.gap (zone C R S k).a (zone C R S k).b (zone C R S k).c (zone C R S k).d x y
theorem gap_is {k : Int} (h : Ok C R S D V) (hk : There C R k) (x y : Int) : gapZ C R S k x y = max (Rc.out x (k % C * S) (k % C * S + S)) (Rc.out y (k / C * S) (k / C * S + S)) := by
  have zb := zone_bd h hk
  have zs := zone_some h hk
  unfold gapZ
  rw [zone_yes hk]
  simp only
  unfold Rc.gap
  rw [if_neg zs, Rc.clamp_in (n := k % C * S) (by omega) (by omega), Rc.clamp_in (n := k / C * S) (by omega) (by omega), Rc.clamp_in (n := k % C * S + S) (by omega) (by omega), Rc.clamp_in (n := k / C * S + S) (by omega) (by omega)]
theorem gap_pos {k : Int} (h : Ok C R S D V) (hk : There C R k) (x y : Int) : 0 ≤ gapZ C R S k x y := by
  rw [gap_is h hk]
  unfold Rc.out
  omega
/-- what a point is near to lies beside its own zone -/
theorem near_next {k x y : Int} (h : Ok C R S D V) (hk : There C R k) (hin : There C R (of C R S x y)) (hg : gapZ C R S k x y ≤ D) : nextB C (of C R S x y) k = true := by
  rw [next_is h hin hk]
  rw [gap_is h hk] at hg
  obtain ⟨e1, e2, x0, x1, y0, y1⟩ := of_yes h hin
  rw [e1, e2]
  have zb := zone_bd h hk
  have s0 := h.s0
  have s1 := h.s1
  have d1 := h.d1
  have bx := side_bd (q := C) h.s0 h.s1 (by have := h.c0; omega) h.c1
  have by_ := side_bd (q := R) h.s0 h.s1 (by have := h.r0; omega) h.r1
  have cx : clamp x = x := Rc.clamp_in (by omega) (by omega)
  have cy : clamp y = y := Rc.clamp_in (by omega) (by omega)
  unfold Rc.out at hg
  rw [cx, cy] at hg
  have hx := (div_is (S := S) (q := x / S) (x := x) s0).1 rfl
  have hy := (div_is (S := S) (q := y / S) (x := y) s0).1 rfl
  have m1 : ∀ p q : Int, p ≤ q ↔ p * S ≤ q * S := fun p q => (Int.mul_le_mul_iff_of_pos_right (by omega)).symm
  have l1 : ∀ p q : Int, p * S < q * S + S + S → p ≤ q + 1 := fun p q hpq => by
    have : p * S < (q + 2) * S := by rw [Int.add_mul]; omega
    have := Int.lt_of_mul_lt_mul_right this (by omega)
    omega
  refine ⟨⟨l1 _ _ (by omega), l1 _ _ (by omega)⟩, l1 _ _ (by omega), l1 _ _ (by omega)⟩

/-- of the first m zones those beside a zone -/
def besP (C k : Int) (n : Nat) : Bool := decide ((n : Int) ≠ k) && nextB C k n
def bes (C k : Int) (m : Nat) : List Int := ((List.range m).filter (besP C k)).map Int.ofNat
theorem bes_zero (C k : Int) : bes C k 0 = [] := rfl
theorem bes_succ (C k : Int) (m : Nat) : bes C k (m + 1) = bes C k m ++ if besP C k m then [(m : Int)] else [] := by
  unfold bes
  rw [List.range_succ, List.filter_append, List.map_append]
  congr 1
  cases hb : besP C k m <;> simp [List.filter, hb]
theorem bes_len (C k : Int) (m : Nat) : (bes C k m).length ≤ m := by
  unfold bes
  rw [List.length_map]
  exact Nat.le_trans (List.length_filter_le _ _) (by simp)
theorem bes_mem {C k : Int} {m : Nat} {z : Int} : z ∈ bes C k m ↔ (0 ≤ z ∧ z < m ∧ z ≠ k ∧ nextB C k z = true) := by
  unfold bes besP
  simp only [List.mem_map, List.mem_filter, List.mem_range, Bool.and_eq_true, decide_eq_true_eq]
  constructor
  · rintro ⟨n, ⟨hn, h1, h2⟩, rfl⟩
    exact ⟨by show (0 : Int) ≤ (n : Int); omega, by show (n : Int) < m; omega, h1, h2⟩
  · rintro ⟨h0, h1, h2, h3⟩
    have : z = (z.toNat : Int) := by omega
    exact ⟨z.toNat, ⟨by omega, by rw [← this]; exact h2, by rw [← this]; exact h3⟩, this.symm⟩
/-- the zones beside a zone -/
def beside (C R k : Int) : List Int := if There C R k then bes C k (C * R).toNat else []
theorem beside_mem {C R k z : Int} : z ∈ beside C R k ↔ There C R k ∧ There C R z ∧ z ≠ k ∧ nextB C k z = true := by
  unfold beside
  by_cases h : There C R k
  · rw [if_pos h, bes_mem]
    have e : ((C * R).toNat : Int) = C * R := by unfold There at h; omega
    rw [e]
    unfold There
    constructor
    · rintro ⟨h1, h2, h3, h4⟩; exact ⟨h, ⟨h1, h2⟩, h3, h4⟩
    · rintro ⟨_, ⟨h1, h2⟩, h3, h4⟩; exact ⟨h1, h2, h3, h4⟩
  · rw [if_neg h]
    simp [h]
theorem next_comm {k n : Int} (h : Ok C R S D V) (hk : There C R k) (hn : There C R n) : nextB C k n = nextB C n k := by
  rw [Bool.eq_iff_iff, next_is h hk hn, next_is h hn hk]
  omega
/-- of the first of a row those near to a point -/
def nearQ (C R S D x y : Int) (k : Int) : Bool := decide (gapZ C R S k x y ≤ D)
def near (C R S D x y : Int) : List Int := (beside C R (of C R S x y)).filter (nearQ C R S D x y)
/-- and so by the document's own text: of all zones -/
def nrP (C R S D x y : Int) (n : Nat) : Bool := decide ((n : Int) ≠ of C R S x y) && nearQ C R S D x y n
def nr (C R S D x y : Int) (m : Nat) : List Int := ((List.range m).filter (nrP C R S D x y)).map Int.ofNat
theorem nr_succ (C R S D x y : Int) (m : Nat) : nr C R S D x y (m + 1) = nr C R S D x y m ++ if nrP C R S D x y m then [(m : Int)] else [] := by
  unfold nr
  rw [List.range_succ, List.filter_append, List.map_append]
  congr 1
  cases hb : nrP C R S D x y m <;> simp [List.filter, hb]
theorem nr_len (C R S D x y : Int) (m : Nat) : (nr C R S D x y m).length ≤ m := by
  unfold nr
  rw [List.length_map]
  exact Nat.le_trans (List.length_filter_le _ _) (by simp)
theorem near_nr {x y : Int} (h : Ok C R S D V) (hin : There C R (of C R S x y)) : near C R S D x y = nr C R S D x y (C * R).toNat := by
  unfold near beside bes nr
  rw [if_pos hin, List.filter_map, List.filter_filter]
  congr 1
  refine List.filter_congr fun n hn => ?_
  have hm := mul_bd h
  have ht : There C R (n : Int) := by
    have := List.mem_range.1 hn
    unfold There
    omega
  show (nearQ C R S D x y (n : Int) && besP C (of C R S x y) n) = nrP C R S D x y n
  unfold besP nrP
  by_cases hg : nearQ C R S D x y (n : Int) = true
  · rw [hg, near_next h ht hin (by unfold nearQ at hg; simpa using hg)]
    simp
  · simp only [Bool.not_eq_true] at hg
    rw [hg]
    simp
theorem near_none {x y : Int} (h : of C R S x y = -1) : near C R S D x y = [] := by
  unfold near beside
  rw [h, if_neg (by unfold There; omega)]
  rfl
theorem near_mem {x y z : Int} (h : Ok C R S D V) : z ∈ near C R S D x y ↔ There C R (of C R S x y) ∧ There C R z ∧ z ≠ of C R S x y ∧ gapZ C R S z x y ≤ D := by
  unfold near
  rw [List.mem_filter, beside_mem]
  unfold nearQ
  rw [decide_eq_true_eq]
  constructor
  · rintro ⟨⟨h1, h2, h3, _⟩, h4⟩; exact ⟨h1, h2, h3, h4⟩
  · rintro ⟨h1, h2, h3, h4⟩; exact ⟨⟨h1, h2, h3, near_next h h2 h1 h4⟩, h4⟩
theorem bes_sorted (C k : Int) (m : Nat) : (bes C k m).Pairwise (· < ·) := by
  induction m with
  | zero => simp [bes]
  | succ m ih =>
    rw [bes_succ]
    split
    · rw [List.pairwise_append]
      refine ⟨ih, by simp, fun a ha b hb => ?_⟩
      have := (bes_mem.1 ha).2.1
      simp at hb
      omega
    · simpa using ih
theorem near_sorted (C R S D x y : Int) : (near C R S D x y).Pairwise (· < ·) := by
  unfold near beside
  split
  · exact List.Pairwise.filter _ (bes_sorted _ _ _)
  · simp
theorem beside_bd (h : Ok C R S D V) (k : Int) : (beside C R k).length ≤ 16 := by
  have := mul_bd h
  unfold beside
  split
  · have := bes_len C k (C * R).toNat; omega
  · simp
theorem near_bd (h : Ok C R S D V) (x y : Int) : (near C R S D x y).length ≤ 16 := Nat.le_trans (List.length_filter_le _ _) (beside_bd h _)

/-- whoever goes no farther than a side is brought into a zone beside -/
theorem into_in {x e : Int} (h : 0 < e) : 0 ≤ into x e ∧ into x e < e := by unfold into; omega
theorem step_div {x t e : Int} (s0 : 256 ≤ S) (hx0 : 0 ≤ x) (hx1 : x < e) (ht0 : -S ≤ t) (ht1 : t ≤ S) : into (x + t) e / S ≤ x / S + 1 ∧ x / S ≤ into (x + t) e / S + 1 := by
  have hu : into (x + t) e ≤ x + S ∧ x ≤ into (x + t) e + S := by unfold into; omega
  have hx := (div_is (S := S) (q := x / S) (x := x) s0).1 rfl
  have hy := (div_is (S := S) (q := into (x + t) e / S) (x := into (x + t) e) s0).1 rfl
  have l1 : ∀ p q : Int, p * S < q * S + S + S → p ≤ q + 1 := fun p q hpq => by
    have : p * S < (q + 2) * S := by rw [Int.add_mul]; omega
    have := Int.lt_of_mul_lt_mul_right this (by omega)
    omega
  exact ⟨l1 _ _ (by omega), l1 _ _ (by omega)⟩
theorem of_in (h : Ok C R S D V) {x y : Int} (x0 : 0 ≤ x) (x1 : x < C * S) (y0 : 0 ≤ y) (y1 : y < R * S) : There C R (of C R S x y) := by
  rcases of_bd h x y with e | e
  · unfold of at e
    rw [if_pos ⟨x0, x1, y0, y1⟩] at e
    have s0 := h.s0
    have gx0 : 0 ≤ x / S := (div_ge s0).2 (by omega)
    have gy0 : 0 ≤ y / S := (div_ge s0).2 (by omega)
    have := Int.mul_nonneg gy0 (show 0 ≤ C by have := h.c0; omega)
    omega
  · exact e
theorem reach {x y s t : Int} (h : Ok C R S D V) (x0 : 0 ≤ x) (x1 : x < C * S) (y0 : 0 ≤ y) (y1 : y < R * S) (hs0 : -V ≤ s) (hs1 : s ≤ V) (ht0 : -V ≤ t) (ht1 : t ≤ V) :
    of C R S (into (x + s) (C * S)) (into (y + t) (R * S)) = of C R S x y ∨ of C R S (into (x + s) (C * S)) (into (y + t) (R * S)) ∈ beside C R (of C R S x y) := by
  have v1 := h.v1
  have s0 := h.s0
  have bx := into_in (x := x + s) (e := C * S) (by omega)
  have by_ := into_in (x := y + t) (e := R * S) (by omega)
  have hk := of_in h x0 x1 y0 y1
  have hj := of_in h bx.1 bx.2 by_.1 by_.2
  by_cases e : of C R S (into (x + s) (C * S)) (into (y + t) (R * S)) = of C R S x y
  · exact .inl e
  · refine .inr (beside_mem.2 ⟨hk, hj, e, (next_is h hk hj).2 ?_⟩)
    rw [(of_yes h hk).1, (of_yes h hk).2.1, (of_yes h hj).1, (of_yes h hj).2.1]
    exact ⟨step_div s0 x0 x1 (by omega) (by omega), step_div s0 y0 y1 (by omega) (by omega)⟩
end
end Zn
end Go.Proofs.Ytfmbldjaknjgbaa
