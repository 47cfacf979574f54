/- PzPure, PzMod, in one text. -/
import Derived.Laws.BitsAllLaws
import Derived.IntWalk
namespace Go.Proofs.Yteohkbepefjjlaa
open Go
set_option linter.unusedVariables false

def Fit (n : Int) : Prop := -9223372036854775808 ≤ n ∧ n ≤ 9223372036854775807
/-! ### bits -/
theorem wrap_toInt (r : BitVec 64) : IntKind.i64.wrap (r.toNat : Int) = r.toInt := by
  rw [IntKind.wrap_i64, BitVec.toInt_eq_toNat_cond]
  have := r.isLt
  split <;> omega
theorem bits_or (x y : Int) : bits .or .i64 x y = (BitVec.ofInt 64 x ||| BitVec.ofInt 64 y).toInt := wrap_toInt _
theorem bits_and (x y : Int) : bits .and .i64 x y = (BitVec.ofInt 64 x &&& BitVec.ofInt 64 y).toInt := wrap_toInt _
theorem bits_andNot (x y : Int) : bits .andNot .i64 x y = (BitVec.ofInt 64 x &&& ~~~ BitVec.ofInt 64 y).toInt := wrap_toInt _
theorem bits_xor (x y : Int) : bits .xor .i64 x y = (BitVec.ofInt 64 x ^^^ BitVec.ofInt 64 y).toInt := wrap_toInt _
theorem of_toInt (r : BitVec 64) : BitVec.ofInt 64 r.toInt = r := BitVec.ofInt_toInt
theorem toInt_of {x : Int} (h : Fit x) : (BitVec.ofInt 64 x).toInt = x := by
  obtain ⟨h1, h2⟩ := h
  rw [BitVec.toInt_ofInt]
  simp only [Int.bmod]
  omega
theorem fit_toInt (r : BitVec 64) : Fit r.toInt := by
  have h1 := BitVec.toInt_lt (x := r)
  have h2 := BitVec.le_toInt (x := r)
  unfold Fit
  omega
theorem fit_or (x y : Int) : Fit (bits .or .i64 x y) := by rw [bits_or]; exact fit_toInt _
theorem fit_and (x y : Int) : Fit (bits .and .i64 x y) := by rw [bits_and]; exact fit_toInt _
theorem fit_andNot (x y : Int) : Fit (bits .andNot .i64 x y) := by rw [bits_andNot]; exact fit_toInt _
/-- bit k of a number, also of one below 0 -/
def bitB (x : Int) (k : Nat) : Bool := decide (x / (2 : Int) ^ k % 2 = 1)
theorem getLsb_of {x : Int} {k : Nat} (hk : k ≤ 4) : (BitVec.ofInt 64 x).getLsbD k = bitB x k := by
  rw [← BitVec.testBit_toNat, Nat.testBit_eq_decide_div_mod_eq, BitVec.toNat_ofInt]
  unfold bitB
  rw [decide_eq_decide]
  have : k = 0 ∨ k = 1 ∨ k = 2 ∨ k = 3 ∨ k = 4 := by omega
  rcases this with rfl | rfl | rfl | rfl | rfl <;> simp only [Nat.reducePow, Int.reducePow] <;> omega
theorem bit_or (x y : Int) {k : Nat} (hk : k ≤ 4) : bitB (bits .or .i64 x y) k = (bitB x k || bitB y k) := by
  rw [← getLsb_of hk, bits_or, of_toInt, BitVec.getLsbD_or, getLsb_of hk, getLsb_of hk]
theorem bit_and (x y : Int) {k : Nat} (hk : k ≤ 4) : bitB (bits .and .i64 x y) k = (bitB x k && bitB y k) := by
  rw [← getLsb_of hk, bits_and, of_toInt, BitVec.getLsbD_and, getLsb_of hk, getLsb_of hk]
theorem bit_andNot (x y : Int) {k : Nat} (hk : k ≤ 4) : bitB (bits .andNot .i64 x y) k = (bitB x k && !bitB y k) := by
  rw [← getLsb_of hk, bits_andNot, of_toInt, BitVec.getLsbD_and, BitVec.getLsbD_not, getLsb_of hk, getLsb_of hk]
  simp [show k < 64 by omega]
theorem or_assoc' (x y z : Int) : bits .or .i64 (bits .or .i64 x y) z = bits .or .i64 x (bits .or .i64 y z) := by
  rw [bits_or, bits_or, bits_or, bits_or, of_toInt, of_toInt, BitVec.or_assoc]
theorem or_self' {x : Int} (h : Fit x) : bits .or .i64 x x = x := by rw [bits_or, BitVec.or_self, toInt_of h]
theorem or_zero' {x : Int} (h : Fit x) : bits .or .i64 x 0 = x := by
  rw [bits_or, show BitVec.ofInt 64 0 = 0#64 from rfl, BitVec.or_zero, toInt_of h]
theorem andNot_zero' {x : Int} (h : Fit x) : bits .andNot .i64 x 0 = x := by
  rw [bits_andNot, show ~~~ BitVec.ofInt 64 0 = BitVec.allOnes 64 by decide, BitVec.and_allOnes, toInt_of h]
theorem andNot_two (x y z : Int) : bits .andNot .i64 (bits .andNot .i64 x y) z = bits .andNot .i64 x (bits .or .i64 y z) := by
  rw [bits_andNot, bits_andNot, bits_andNot, bits_or, of_toInt, of_toInt]
  congr 1
  rw [BitVec.and_assoc, ← BitVec.not_or]
theorem andNot_or (x y : Int) : bits .andNot .i64 (bits .or .i64 x y) y = bits .andNot .i64 x y := by
  rw [bits_andNot, bits_andNot, bits_or, of_toInt]
  congr 1
  apply BitVec.eq_of_getLsbD_eq
  intro i hi
  simp only [BitVec.getLsbD_and, BitVec.getLsbD_or, BitVec.getLsbD_not, hi, decide_true, Bool.true_and]
  cases (BitVec.ofInt 64 x).getLsbD i <;> cases (BitVec.ofInt 64 y).getLsbD i <;> rfl
theorem or_andNot {x : Int} (hx : Fit x) (y : Int) : bits .or .i64 (bits .andNot .i64 x y) x = x := by
  rw [bits_or, bits_andNot, of_toInt]
  have : (BitVec.ofInt 64 x &&& ~~~ BitVec.ofInt 64 y) ||| BitVec.ofInt 64 x = BitVec.ofInt 64 x := by
    apply BitVec.eq_of_getLsbD_eq
    intro i hi
    simp only [BitVec.getLsbD_and, BitVec.getLsbD_or, BitVec.getLsbD_not, hi, decide_true, Bool.true_and]
    cases (BitVec.ofInt 64 x).getLsbD i <;> cases (BitVec.ofInt 64 y).getLsbD i <;> rfl
  rw [this, toInt_of hx]
theorem and_or_right (x y : Int) : bits .and .i64 (bits .or .i64 x y) y = bits .and .i64 y y := by
  rw [bits_and, bits_and, bits_or, of_toInt]
  congr 1
  apply BitVec.eq_of_getLsbD_eq
  intro i hi
  simp only [BitVec.getLsbD_and, BitVec.getLsbD_or]
  cases (BitVec.ofInt 64 x).getLsbD i <;> cases (BitVec.ofInt 64 y).getLsbD i <;> rfl
theorem and_or_left (x y : Int) : bits .and .i64 (bits .or .i64 x y) x = bits .and .i64 x x := by
  rw [bits_and, bits_and, bits_or, of_toInt]
  congr 1
  apply BitVec.eq_of_getLsbD_eq
  intro i hi
  simp only [BitVec.getLsbD_and, BitVec.getLsbD_or]
  cases (BitVec.ofInt 64 x).getLsbD i <;> cases (BitVec.ofInt 64 y).getLsbD i <;> rfl
theorem and_self' {x : Int} (h : Fit x) : bits .and .i64 x x = x := by rw [bits_and, BitVec.and_self, toInt_of h]
theorem and_andNot (x y : Int) : bits .and .i64 (bits .andNot .i64 x y) y = 0 := by
  rw [bits_and, bits_andNot, of_toInt]
  have : (BitVec.ofInt 64 x &&& ~~~ BitVec.ofInt 64 y) &&& BitVec.ofInt 64 y = 0#64 := by
    apply BitVec.eq_of_getLsbD_eq
    intro i hi
    simp only [BitVec.getLsbD_and, BitVec.getLsbD_not, hi, decide_true, Bool.true_and, BitVec.getLsbD_zero]
    cases (BitVec.ofInt 64 x).getLsbD i <;> cases (BitVec.ofInt 64 y).getLsbD i <;> rfl
  rw [this]
  rfl
/-- what is left of x without what it has of y -/
theorem sub_and (x y : Int) : IntKind.i64.wrap (x - bits .and .i64 x y) = bits .andNot .i64 x y := by
  have h1 : BitVec.ofInt 64 x - (BitVec.ofInt 64 x &&& BitVec.ofInt 64 y) = BitVec.ofInt 64 x &&& ~~~ BitVec.ofInt 64 y := by
    have h2 : (BitVec.ofInt 64 x &&& ~~~ BitVec.ofInt 64 y) + (BitVec.ofInt 64 x &&& BitVec.ofInt 64 y) = BitVec.ofInt 64 x := by
      rw [BitVec.add_eq_or_of_and_eq_zero]
      · apply BitVec.eq_of_getLsbD_eq
        intro i hi
        simp only [BitVec.getLsbD_and, BitVec.getLsbD_or, BitVec.getLsbD_not, hi, decide_true, Bool.true_and]
        cases (BitVec.ofInt 64 x).getLsbD i <;> cases (BitVec.ofInt 64 y).getLsbD i <;> rfl
      · apply BitVec.eq_of_getLsbD_eq
        intro i hi
        simp only [BitVec.getLsbD_and, BitVec.getLsbD_not, hi, decide_true, Bool.true_and, BitVec.getLsbD_zero]
        cases (BitVec.ofInt 64 x).getLsbD i <;> cases (BitVec.ofInt 64 y).getLsbD i <;> rfl
    generalize BitVec.ofInt 64 x &&& ~~~ BitVec.ofInt 64 y = p at *
    generalize BitVec.ofInt 64 x &&& BitVec.ofInt 64 y = q at *
    rw [← h2, BitVec.add_sub_cancel]
  rw [bits_andNot, ← h1, bits_and, IntKind.wrap_i64]
  generalize hq : BitVec.ofInt 64 x &&& BitVec.ofInt 64 y = q
  rw [BitVec.toInt_sub, BitVec.toInt_ofInt]
  simp only [Int.bmod]
  omega
/-- two masks with 31 as their greatest: their bits tell them -/
theorem mask_lt {x : Int} : 0 ≤ x ∧ x ≤ 31 ↔ (0 ≤ x ∧ x / 32 = 0) := by omega
end Go.Proofs.Yteohkbepefjjlaa
namespace Go.Proofs.Yteohkbepefjjlaa
open Go
set_option linter.unusedVariables false

namespace Pz
/-- an entity: its name, its mask, its numbers -/
structure Bn where
  s : Int
  i : Int
  g : Int
  m : Int
  x : Int
  y : Int
  vx : Int
  vy : Int
  h : Int
  p : Int
  l : Int
abbrev Bn.row (b : Bn) : List Value := [.int .i64 b.s, .int .i64 b.i, .int .i64 b.g, .int .i64 b.m, .int .i64 b.x, .int .i64 b.y, .int .i64 b.vx, .int .i64 b.vy, .int .i64 b.h, .int .i64 b.p, .int .i64 b.l]
abbrev Bn.val (b : Bn) : Value := .agg #[.int .i64 b.s, .int .i64 b.i, .int .i64 b.g, .int .i64 b.m, .int .i64 b.x, .int .i64 b.y, .int .i64 b.vx, .int .i64 b.vy, .int .i64 b.h, .int .i64 b.p, .int .i64 b.l]
structure Bn.Fits (b : Bn) : Prop where
  s : Fit b.s
  i : Fit b.i
  g : Fit b.g
  m : Fit b.m
  x : Fit b.x
  y : Fit b.y
  vx : Fit b.vx
  vy : Fit b.vy
  h : Fit b.h
  p : Fit b.p
  l : Fit b.l
def inB (n lo hi : Int) (has : Bool) : Bool := if has then decide (lo ≤ n) && decide (n ≤ hi) else decide (n = 0)
def rightID (s i g : Int) : Bool := ((((decide (s ≥ 0) && decide (s ≤ 15)) && decide (i ≥ 0)) && decide (i ≤ 15)) && decide (g ≥ 0)) && decide (g < 1048576)
def right (b : Bn) : Bool :=
  (!(decide (b.m < 0) || decide (b.m > 31)) && (inB b.x (-1073741824) 1073741824 (bitB b.m 0) && inB b.y (-1073741824) 1073741824 (bitB b.m 0)) && (inB b.vx (-1073741824) 1073741824 (bitB b.m 1) && inB b.vy (-1073741824) 1073741824 (bitB b.m 1))) &&
    ((inB b.h 1 1048576 (bitB b.m 2) && inB b.p 0 1024 (bitB b.m 3)) && inB b.l 1 1048576 (bitB b.m 4))
def may (b : Bn) : Bool := (rightID b.s b.i b.g && right b) && bitB b.m 0
def takesB (m : Int) : Bool := (decide (m ≥ 1) && decide (m ≤ 31)) && !bitB m 0
def errB (b : Bool) : Int := if b then 0 else 1
/-- a command: its kind, name, entity, mask -/
structure Cn where
  k : Int
  s : Int
  i : Int
  g : Int
  b : Bn
  m : Int
abbrev Cn.val (c : Cn) : Value := .agg #[.int .i64 c.k, .int .i64 c.s, .int .i64 c.i, .int .i64 c.g, .int .i64 c.b.s, .int .i64 c.b.i, .int .i64 c.b.g, .int .i64 c.b.m, .int .i64 c.b.x, .int .i64 c.b.y, .int .i64 c.b.vx, .int .i64 c.b.vy, .int .i64 c.b.h, .int .i64 c.b.p, .int .i64 c.b.l, .int .i64 c.m]
def noID (s i g : Int) : Bool := (s == 0) && ((i == 0) && (g == 0))
def empty (b : Bn) : Bool := noID b.s b.i b.g && ((b.m == 0) && ((b.x == 0) && ((b.y == 0) && ((b.vx == 0) && ((b.vy == 0) && ((b.h == 0) && ((b.p == 0) && (b.l == 0))))))))
/-- the same entity? -/
def sameB (a b : Bn) : Bool := ((a.s == b.s) && ((a.i == b.i) && (a.g == b.g))) && ((a.m == b.m) && ((a.x == b.x) && ((a.y == b.y) && ((a.vx == b.vx) && ((a.vy == b.vy) && ((a.h == b.h) && ((a.p == b.p) && (a.l == b.l))))))))
def mayCmd (c : Cn) : Bool :=
  if c.k = 1 then (noID c.s c.i c.g && decide (c.m = 0)) && may c.b else
  if c.k = 2 then (rightID c.s c.i c.g && decide (c.m = 0)) && empty c.b else
  if c.k = 3 then (((rightID c.s c.i c.g && decide (c.m = 0)) && noID c.b.s c.b.i c.b.g) && takesB c.b.m) && right c.b else
  if c.k = 4 then (rightID c.s c.i c.g && empty c.b) && takesB c.m else false
def withB (b c : Bn) : Bn :=
  { b with
    x := if bitB c.m 0 then c.x else b.x
    y := if bitB c.m 0 then c.y else b.y
    vx := if bitB c.m 1 then c.vx else b.vx
    vy := if bitB c.m 1 then c.vy else b.vy
    h := if bitB c.m 2 then c.h else b.h
    p := if bitB c.m 3 then c.p else b.p
    l := if bitB c.m 4 then c.l else b.l
    m := bits .or .i64 b.m c.m }
def withoutB (b : Bn) (k : Int) : Bn :=
  { b with
    x := if bitB k 0 then 0 else b.x
    y := if bitB k 0 then 0 else b.y
    vx := if bitB k 1 then 0 else b.vx
    vy := if bitB k 1 then 0 else b.vy
    h := if bitB k 2 then 0 else b.h
    p := if bitB k 3 then 0 else b.p
    l := if bitB k 4 then 0 else b.l
    m := bits .andNot .i64 b.m k }
def before (a b : Int × Int × Int) : Bool := if a.1 ≠ b.1 then decide (a.1 < b.1) else if a.2.1 ≠ b.2.1 then decide (a.2.1 < b.2.1) else decide (a.2.2 < b.2.2)
abbrev Bn.id (b : Bn) : Int × Int × Int := (b.s, b.i, b.g)
end Pz
end Go.Proofs.Yteohkbepefjjlaa
