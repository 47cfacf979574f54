/- PzPure, PzMod, ArPure, ArPure2, ArPure3, ArTabsP, ArWrP, in one text. -/
import Derived.Laws.BitsAllLaws
import Derived.IntWalk
namespace Go.Proofs.Yteollbioeamciaa
open Go
set_option linter.unusedVariables false

def Fit (n : Int) : Prop := -9223372036854775808 ≤ n ∧ n ≤ 9223372036854775807
/-! ### bits -/
theorem wrap_toInt (r : BitVec 64) : IntKind.i64.wrap (r.toNat : Int) = r.toInt := by
  rw [IntKind.wrap_i64, BitVec.toInt_eq_toNat_cond]
  have := r.isLt
  split <;> omega
theorem bits_or (x y : Int) : bits .or .i64 x y = (BitVec.ofInt 64 x ||| BitVec.ofInt 64 y).toInt := wrap_toInt _
theorem bits_and (x y : Int) : bits .and .i64 x y = (BitVec.ofInt 64 x &&& BitVec.ofInt 64 y).toInt := wrap_toInt _
theorem bits_andNot (x y : Int) : bits .andNot .i64 x y = (BitVec.ofInt 64 x &&& ~~~ BitVec.ofInt 64 y).toInt := wrap_toInt _
theorem bits_xor (x y : Int) : bits .xor .i64 x y = (BitVec.ofInt 64 x ^^^ BitVec.ofInt 64 y).toInt := wrap_toInt _
theorem of_toInt (r : BitVec 64) : BitVec.ofInt 64 r.toInt = r := BitVec.ofInt_toInt
theorem toInt_of {x : Int} (h : Fit x) : (BitVec.ofInt 64 x).toInt = x := by
  obtain ⟨h1, h2⟩ := h
  rw [BitVec.toInt_ofInt]
  simp only [Int.bmod]
  omega
theorem fit_toInt (r : BitVec 64) : Fit r.toInt := by
  have h1 := BitVec.toInt_lt (x := r)
  have h2 := BitVec.le_toInt (x := r)
  unfold Fit
  omega
theorem fit_or (x y : Int) : Fit (bits .or .i64 x y) := by rw [bits_or]; exact fit_toInt _
theorem fit_and (x y : Int) : Fit (bits .and .i64 x y) := by rw [bits_and]; exact fit_toInt _
theorem fit_andNot (x y : Int) : Fit (bits .andNot .i64 x y) := by rw [bits_andNot]; exact fit_toInt _
/-- bit k of a number, also of one below 0 -/
def bitB (x : Int) (k : Nat) : Bool := decide (x / (2 : Int) ^ k % 2 = 1)
theorem getLsb_of {x : Int} {k : Nat} (hk : k ≤ 4) : (BitVec.ofInt 64 x).getLsbD k = bitB x k := by
  rw [← BitVec.testBit_toNat, Nat.testBit_eq_decide_div_mod_eq, BitVec.toNat_ofInt]
  unfold bitB
  rw [decide_eq_decide]
  have : k = 0 ∨ k = 1 ∨ k = 2 ∨ k = 3 ∨ k = 4 := by omega
  rcases this with rfl | rfl | rfl | rfl | rfl <;> simp only [Nat.reducePow, Int.reducePow] <;> omega
theorem bit_or (x y : Int) {k : Nat} (hk : k ≤ 4) : bitB (bits .or .i64 x y) k = (bitB x k || bitB y k) := by
  rw [← getLsb_of hk, bits_or, of_toInt, BitVec.getLsbD_or, getLsb_of hk, getLsb_of hk]
theorem bit_and (x y : Int) {k : Nat} (hk : k ≤ 4) : bitB (bits .and .i64 x y) k = (bitB x k && bitB y k) := by
  rw [← getLsb_of hk, bits_and, of_toInt, BitVec.getLsbD_and, getLsb_of hk, getLsb_of hk]
theorem bit_andNot (x y : Int) {k : Nat} (hk : k ≤ 4) : bitB (bits .andNot .i64 x y) k = (bitB x k && !bitB y k) := by
  rw [← getLsb_of hk, bits_andNot, of_toInt, BitVec.getLsbD_and, BitVec.getLsbD_not, getLsb_of hk, getLsb_of hk]
  simp [show k < 64 by omega]
theorem or_assoc' (x y z : Int) : bits .or .i64 (bits .or .i64 x y) z = bits .or .i64 x (bits .or .i64 y z) := by
  rw [bits_or, bits_or, bits_or, bits_or, of_toInt, of_toInt, BitVec.or_assoc]
theorem or_self' {x : Int} (h : Fit x) : bits .or .i64 x x = x := by rw [bits_or, BitVec.or_self, toInt_of h]
theorem or_zero' {x : Int} (h : Fit x) : bits .or .i64 x 0 = x := by
  rw [bits_or, show BitVec.ofInt 64 0 = 0#64 from rfl, BitVec.or_zero, toInt_of h]
theorem andNot_zero' {x : Int} (h : Fit x) : bits .andNot .i64 x 0 = x := by
  rw [bits_andNot, show ~~~ BitVec.ofInt 64 0 = BitVec.allOnes 64 by decide, BitVec.and_allOnes, toInt_of h]
theorem andNot_two (x y z : Int) : bits .andNot .i64 (bits .andNot .i64 x y) z = bits .andNot .i64 x (bits .or .i64 y z) := by
  rw [bits_andNot, bits_andNot, bits_andNot, bits_or, of_toInt, of_toInt]
  congr 1
  rw [BitVec.and_assoc, ← BitVec.not_or]
theorem andNot_or (x y : Int) : bits .andNot .i64 (bits .or .i64 x y) y = bits .andNot .i64 x y := by
  rw [bits_andNot, bits_andNot, bits_or, of_toInt]
  congr 1
  apply BitVec.eq_of_getLsbD_eq
  intro i hi
  simp only [BitVec.getLsbD_and, BitVec.getLsbD_or, BitVec.getLsbD_not, hi, decide_true, Bool.true_and]
  cases (BitVec.ofInt 64 x).getLsbD i <;> cases (BitVec.ofInt 64 y).getLsbD i <;> rfl
theorem or_andNot {x : Int} (hx : Fit x) (y : Int) : bits .or .i64 (bits .andNot .i64 x y) x = x := by
  rw [bits_or, bits_andNot, of_toInt]
  have : (BitVec.ofInt 64 x &&& ~~~ BitVec.ofInt 64 y) ||| BitVec.ofInt 64 x = BitVec.ofInt 64 x := by
    apply BitVec.eq_of_getLsbD_eq
    intro i hi
    simp only [BitVec.getLsbD_and, BitVec.getLsbD_or, BitVec.getLsbD_not, hi, decide_true, Bool.true_and]
    cases (BitVec.ofInt 64 x).getLsbD i <;> cases (BitVec.ofInt 64 y).getLsbD i <;> rfl
  rw [this, toInt_of hx]
theorem and_or_right (x y : Int) : bits .and .i64 (bits .or .i64 x y) y = bits .and .i64 y y := by
  rw [bits_and, bits_and, bits_or, of_toInt]
  congr 1
  apply BitVec.eq_of_getLsbD_eq
  intro i hi
  simp only [BitVec.getLsbD_and, BitVec.getLsbD_or]
  cases (BitVec.ofInt 64 x).getLsbD i <;> cases (BitVec.ofInt 64 y).getLsbD i <;> rfl
theorem and_or_left (x y : Int) : bits .and .i64 (bits .or .i64 x y) x = bits .and .i64 x x := by
  rw [bits_and, bits_and, bits_or, of_toInt]
  congr 1
  apply BitVec.eq_of_getLsbD_eq
  intro i hi
  simp only [BitVec.getLsbD_and, BitVec.getLsbD_or]
  cases (BitVec.ofInt 64 x).getLsbD i <;> cases (BitVec.ofInt 64 y).getLsbD i <;> rfl
theorem and_self' {x : Int} (h : Fit x) : bits .and .i64 x x = x := by rw [bits_and, BitVec.and_self, toInt_of h]
theorem and_andNot (x y : Int) : bits .and .i64 (bits .andNot .i64 x y) y = 0 := by
  rw [bits_and, bits_andNot, of_toInt]
  have : (BitVec.ofInt 64 x &&& ~~~ BitVec.ofInt 64 y) &&& BitVec.ofInt 64 y = 0#64 := by
    apply BitVec.eq_of_getLsbD_eq
    intro i hi
    simp only [BitVec.getLsbD_and, BitVec.getLsbD_not, hi, decide_true, Bool.true_and, BitVec.getLsbD_zero]
    cases (BitVec.ofInt 64 x).getLsbD i <;> cases (BitVec.ofInt 64 y).getLsbD i <;> rfl
  rw [this]
  rfl
/-- what is left of x without what it has of y -/
theorem sub_and (x y : Int) : IntKind.i64.wrap (x - bits .and .i64 x y) = bits .andNot .i64 x y := by
  have h1 : BitVec.ofInt 64 x - (BitVec.ofInt 64 x &&& BitVec.ofInt 64 y) = BitVec.ofInt 64 x &&& ~~~ BitVec.ofInt 64 y := by
    have h2 : (BitVec.ofInt 64 x &&& ~~~ BitVec.ofInt 64 y) + (BitVec.ofInt 64 x &&& BitVec.ofInt 64 y) = BitVec.ofInt 64 x := by
      rw [BitVec.add_eq_or_of_and_eq_zero]
      · apply BitVec.eq_of_getLsbD_eq
        intro i hi
        simp only [BitVec.getLsbD_and, BitVec.getLsbD_or, BitVec.getLsbD_not, hi, decide_true, Bool.true_and]
        cases (BitVec.ofInt 64 x).getLsbD i <;> cases (BitVec.ofInt 64 y).getLsbD i <;> rfl
      · apply BitVec.eq_of_getLsbD_eq
        intro i hi
        simp only [BitVec.getLsbD_and, BitVec.getLsbD_not, hi, decide_true, Bool.true_and, BitVec.getLsbD_zero]
        cases (BitVec.ofInt 64 x).getLsbD i <;> cases (BitVec.ofInt 64 y).getLsbD i <;> rfl
    generalize BitVec.ofInt 64 x &&& ~~~ BitVec.ofInt 64 y = p at *
    generalize BitVec.ofInt 64 x &&& BitVec.ofInt 64 y = q at *
    rw [← h2, BitVec.add_sub_cancel]
  rw [bits_andNot, ← h1, bits_and, IntKind.wrap_i64]
  generalize hq : BitVec.ofInt 64 x &&& BitVec.ofInt 64 y = q
  rw [BitVec.toInt_sub, BitVec.toInt_ofInt]
  simp only [Int.bmod]
  omega
/-- two masks with 31 as their greatest: their bits tell them -/
theorem mask_lt {x : Int} : 0 ≤ x ∧ x ≤ 31 ↔ (0 ≤ x ∧ x / 32 = 0) := by omega
end Go.Proofs.Yteollbioeamciaa
namespace Go.Proofs.Yteollbioeamciaa
open Go
set_option linter.unusedVariables false

namespace Pz
/-- an entity: its name, its mask, its numbers -/
structure Bn where
  s : Int
  i : Int
  g : Int
  m : Int
  x : Int
  y : Int
  vx : Int
  vy : Int
  h : Int
  p : Int
  l : Int
abbrev Bn.row (b : Bn) : List Value := [.int .i64 b.s, .int .i64 b.i, .int .i64 b.g, .int .i64 b.m, .int .i64 b.x, .int .i64 b.y, .int .i64 b.vx, .int .i64 b.vy, .int .i64 b.h, .int .i64 b.p, .int .i64 b.l]
abbrev Bn.val (b : Bn) : Value := .agg #[.int .i64 b.s, .int .i64 b.i, .int .i64 b.g, .int .i64 b.m, .int .i64 b.x, .int .i64 b.y, .int .i64 b.vx, .int .i64 b.vy, .int .i64 b.h, .int .i64 b.p, .int .i64 b.l]
structure Bn.Fits (b : Bn) : Prop where
  s : Fit b.s
  i : Fit b.i
  g : Fit b.g
  m : Fit b.m
  x : Fit b.x
  y : Fit b.y
  vx : Fit b.vx
  vy : Fit b.vy
  h : Fit b.h
  p : Fit b.p
  l : Fit b.l
def inB (n lo hi : Int) (has : Bool) : Bool := if has then decide (lo ≤ n) && decide (n ≤ hi) else decide (n = 0)
def rightID (s i g : Int) : Bool := ((((decide (s ≥ 0) && decide (s ≤ 15)) && decide (i ≥ 0)) && decide (i ≤ 15)) && decide (g ≥ 0)) && decide (g < 1048576)
def right (b : Bn) : Bool :=
  (!(decide (b.m < 0) || decide (b.m > 31)) && (inB b.x (-1073741824) 1073741824 (bitB b.m 0) && inB b.y (-1073741824) 1073741824 (bitB b.m 0)) && (inB b.vx (-1073741824) 1073741824 (bitB b.m 1) && inB b.vy (-1073741824) 1073741824 (bitB b.m 1))) &&
    ((inB b.h 1 1048576 (bitB b.m 2) && inB b.p 0 1024 (bitB b.m 3)) && inB b.l 1 1048576 (bitB b.m 4))
def may (b : Bn) : Bool := (rightID b.s b.i b.g && right b) && bitB b.m 0
def takesB (m : Int) : Bool := (decide (m ≥ 1) && decide (m ≤ 31)) && !bitB m 0
def errB (b : Bool) : Int := if b then 0 else 1
/-- a command: its kind, name, entity, mask -/
structure Cn where
  k : Int
  s : Int
  i : Int
  g : Int
  b : Bn
  m : Int
abbrev Cn.val (c : Cn) : Value := .agg #[.int .i64 c.k, .int .i64 c.s, .int .i64 c.i, .int .i64 c.g, .int .i64 c.b.s, .int .i64 c.b.i, .int .i64 c.b.g, .int .i64 c.b.m, .int .i64 c.b.x, .int .i64 c.b.y, .int .i64 c.b.vx, .int .i64 c.b.vy, .int .i64 c.b.h, .int .i64 c.b.p, .int .i64 c.b.l, .int .i64 c.m]
def noID (s i g : Int) : Bool := (s == 0) && ((i == 0) && (g == 0))
def empty (b : Bn) : Bool := noID b.s b.i b.g && ((b.m == 0) && ((b.x == 0) && ((b.y == 0) && ((b.vx == 0) && ((b.vy == 0) && ((b.h == 0) && ((b.p == 0) && (b.l == 0))))))))
/-- the same entity? -/
def sameB (a b : Bn) : Bool := ((a.s == b.s) && ((a.i == b.i) && (a.g == b.g))) && ((a.m == b.m) && ((a.x == b.x) && ((a.y == b.y) && ((a.vx == b.vx) && ((a.vy == b.vy) && ((a.h == b.h) && ((a.p == b.p) && (a.l == b.l))))))))
def mayCmd (c : Cn) : Bool :=
  if c.k = 1 then (noID c.s c.i c.g && decide (c.m = 0)) && may c.b else
  if c.k = 2 then (rightID c.s c.i c.g && decide (c.m = 0)) && empty c.b else
  if c.k = 3 then (((rightID c.s c.i c.g && decide (c.m = 0)) && noID c.b.s c.b.i c.b.g) && takesB c.b.m) && right c.b else
  if c.k = 4 then (rightID c.s c.i c.g && empty c.b) && takesB c.m else false
def withB (b c : Bn) : Bn :=
  { b with
    x := if bitB c.m 0 then c.x else b.x
    y := if bitB c.m 0 then c.y else b.y
    vx := if bitB c.m 1 then c.vx else b.vx
    vy := if bitB c.m 1 then c.vy else b.vy
    h := if bitB c.m 2 then c.h else b.h
    p := if bitB c.m 3 then c.p else b.p
    l := if bitB c.m 4 then c.l else b.l
    m := bits .or .i64 b.m c.m }
def withoutB (b : Bn) (k : Int) : Bn :=
  { b with
    x := if bitB k 0 then 0 else b.x
    y := if bitB k 0 then 0 else b.y
    vx := if bitB k 1 then 0 else b.vx
    vy := if bitB k 1 then 0 else b.vy
    h := if bitB k 2 then 0 else b.h
    p := if bitB k 3 then 0 else b.p
    l := if bitB k 4 then 0 else b.l
    m := bits .andNot .i64 b.m k }
def before (a b : Int × Int × Int) : Bool := if a.1 ≠ b.1 then decide (a.1 < b.1) else if a.2.1 ≠ b.2.1 then decide (a.2.1 < b.2.1) else decide (a.2.2 < b.2.2)
abbrev Bn.id (b : Bn) : Int × Int × Int := (b.s, b.i, b.g)
end Pz
end Go.Proofs.Yteollbioeamciaa
namespace Go.Proofs.Yteollbioeamciaa
open Go Pz
set_option linter.unusedVariables false

namespace Ar
abbrev NK := Int × Int × Int
/-- of each mask the rows -/
abbrev Tb := Nat → List Bn
def rowOf (l : List Bn) (k : NK) : Option Nat := l.findIdx? (fun b => decide (b.id = k))
def find (t : Tb) (k : NK) : Option (Nat × Nat) := (List.range 32).findSome? (fun m => (rowOf (t m) k).map (fun i => (m, i)))
def up (t : Tb) (m : Nat) (l : List Bn) : Tb := fun j => if j = m then l else t j
/-- the last row comes into one -/
def cutL (l : List Bn) (i : Nat) : List Bn := (match l[l.length - 1]? with | some z => l.set i z | none => l).take (l.length - 1)
def put0 (t : Tb) (b : Bn) : Tb := up t b.m.toNat (t b.m.toNat ++ [b])
def cut0 (t : Tb) (m i : Nat) : Tb := up t m (cutL (t m) i)
def put (t : Tb) (b : Bn) : Tb × Int := if may b then (if (find t b.id).isSome then (t, 7) else (put0 t b, 0)) else (t, 1)
def write (t : Tb) (b : Bn) : Tb × Int :=
  if may b then
    match find t b.id with
    | none => (t, 6)
    | some (m, i) => if (m : Int) = b.m then (up t m ((t m).set i b), 0) else (put0 (cut0 t m i) b, 0)
  else (t, 1)
def remove (t : Tb) (k : NK) : Tb × Bool :=
  match find t k with
  | none => (t, false)
  | some (m, i) => (cut0 t m i, true)
def all (t : Tb) : List Bn := (List.range 32).flatMap t
def tabs (t : Tb) : List (Nat × List NK) := (List.range 32).filterMap (fun m => if (t m).isEmpty then none else some (m, (t m).map Bn.id))
/-- who is there may be, stands in its table, and once -/
structure Good (t : Tb) : Prop where
  ok : ∀ m b, b ∈ t m → may b = true ∧ b.m = (m : Int)
  one : ∀ (m i m' i' : Nat) (b b' : Bn), (t m)[i]? = some b → (t m')[i']? = some b' → b.id = b'.id → m = m' ∧ i = i'
theorem may_mask {b : Bn} (h : may b = true) : 0 ≤ b.m ∧ b.m ≤ 31 := by
  unfold may right at h
  simp only [Bool.and_eq_true, Bool.not_eq_true', Bool.or_eq_false_iff, decide_eq_false_iff_not] at h
  omega
theorem Good.lt {t : Tb} (h : Good t) {m : Nat} {b : Bn} (hb : b ∈ t m) : m < 32 := by
  obtain ⟨h1, h2⟩ := h.ok m b hb
  have := may_mask h1
  omega
theorem rowOf_some {l : List Bn} {k : NK} {i : Nat} (h : rowOf l k = some i) : ∃ b, l[i]? = some b ∧ b.id = k := by
  unfold rowOf at h
  obtain ⟨hi, hp, _⟩ := List.findIdx?_eq_some_iff_getElem.1 h
  exact ⟨l[i], List.getElem?_eq_getElem hi, of_decide_eq_true hp⟩
theorem rowOf_none {l : List Bn} {k : NK} (h : rowOf l k = none) : ∀ b ∈ l, b.id ≠ k := by
  unfold rowOf at h
  intro b hb e
  have := List.findIdx?_eq_none_iff.1 h b hb
  simp [e] at this
theorem find_at {t : Tb} {k : NK} {m i : Nat} (h : find t k = some (m, i)) : m < 32 ∧ ∃ b, (t m)[i]? = some b ∧ b.id = k := by
  unfold find at h
  obtain ⟨a, ha, hr⟩ := List.exists_of_findSome?_eq_some h
  cases hx : rowOf (t a) k with
  | none => rw [hx] at hr; cases hr
  | some j =>
    rw [hx] at hr
    simp only [Option.map_some, Option.some.injEq, Prod.mk.injEq] at hr
    obtain ⟨rfl, rfl⟩ := hr
    exact ⟨List.mem_range.1 ha, rowOf_some hx⟩
theorem find_none {t : Tb} {k : NK} (h : find t k = none) : ∀ m, m < 32 → ∀ b ∈ t m, b.id ≠ k := by
  unfold find at h
  intro m hm b hb
  have := List.findSome?_eq_none_iff.1 h m (List.mem_range.2 hm)
  cases hx : rowOf (t m) k with
  | none => exact rowOf_none hx b hb
  | some j => rw [hx] at this; cases this
theorem find_is {t : Tb} (hg : Good t) {m i : Nat} {b : Bn} (h : (t m)[i]? = some b) : find t b.id = some (m, i) := by
  cases hf : find t b.id with
  | none => exact absurd rfl (find_none hf m (hg.lt (List.mem_of_getElem? h)) b (List.mem_of_getElem? h))
  | some p =>
    obtain ⟨m', i'⟩ := p
    obtain ⟨_, b', h1, h2⟩ := find_at hf
    obtain ⟨rfl, rfl⟩ := hg.one m' i' m i b' b h1 h h2
    rfl
theorem up_same (t : Tb) (m : Nat) (l : List Bn) : up t m l m = l := by unfold up; rw [if_pos rfl]
theorem up_ne (t : Tb) {m j : Nat} (l : List Bn) (h : j ≠ m) : up t m l j = t j := by unfold up; rw [if_neg h]
theorem cutL_len {l : List Bn} {i : Nat} : (cutL l i).length = l.length - 1 := by
  unfold cutL
  split <;> simp
theorem cutL_get {l : List Bn} {i j : Nat} (hj : j + 1 < l.length) : (cutL l i)[j]? = if j = i then l[l.length - 1]? else l[j]? := by
  unfold cutL
  have hl : l.length - 1 < l.length := by omega
  rw [List.getElem?_eq_getElem hl]
  simp only
  rw [List.getElem?_take_of_lt (by omega)]
  by_cases h : j = i
  · subst h
    rw [if_pos rfl, List.getElem?_set_self (by omega)]
  · rw [if_neg h, List.getElem?_set_ne (fun e => h e.symm)]
/-- who stands there behind a cut stood there, or was the last -/
theorem cutL_from {l : List Bn} {i j : Nat} {b : Bn} (h : (cutL l i)[j]? = some b) : j + 1 < l.length ∧ ((j ≠ i ∧ l[j]? = some b) ∨ (j = i ∧ l[l.length - 1]? = some b)) := by
  have hlt := (List.getElem?_eq_some_iff.1 h).1
  rw [cutL_len] at hlt
  have hj : j + 1 < l.length := by omega
  rw [cutL_get hj] at h
  refine ⟨hj, ?_⟩
  by_cases e : j = i
  · rw [if_pos e] at h; exact .inr ⟨e, h⟩
  · rw [if_neg e] at h; exact .inl ⟨e, h⟩
theorem cut_good {t : Tb} (hg : Good t) {m i : Nat} (hi : i < (t m).length) : Good (cut0 t m i) := by
  have key : ∀ (a j : Nat) (b : Bn), (cut0 t m i a)[j]? = some b → (a ≠ m ∧ (t a)[j]? = some b) ∨ (a = m ∧ j + 1 < (t m).length ∧ ((j ≠ i ∧ (t m)[j]? = some b) ∨ (j = i ∧ (t m)[(t m).length - 1]? = some b))) := by
    intro a j b h
    unfold cut0 at h
    by_cases e : a = m
    · subst e
      rw [up_same] at h
      exact .inr ⟨rfl, cutL_from h⟩
    · rw [up_ne _ _ e] at h
      exact .inl ⟨e, h⟩
  refine ⟨fun a b hb => ?_, fun a j a' j' b b' h h' e => ?_⟩
  · obtain ⟨j, hj⟩ := List.mem_iff_getElem?.1 hb
    rcases key a j b hj with ⟨_, h⟩ | ⟨rfl, _, ⟨_, h⟩ | ⟨_, h⟩⟩
    · exact hg.ok a b (List.mem_of_getElem? h)
    · exact hg.ok a b (List.mem_of_getElem? h)
    · exact hg.ok a b (List.mem_of_getElem? h)
  · rcases key a j b h with ⟨n1, h1⟩ | ⟨rfl, l1, ⟨n1, h1⟩ | ⟨n1, h1⟩⟩ <;> rcases key a' j' b' h' with ⟨n2, h2⟩ | ⟨rfl, l2, ⟨n2, h2⟩ | ⟨n2, h2⟩⟩ <;> (obtain ⟨e1, e2⟩ := hg.one _ _ _ _ _ _ h1 h2 e) <;> (first | exact ⟨e1, e2⟩ | omega)
theorem put_good {t : Tb} (hg : Good t) {b : Bn} (hb : may b = true) (hf : find t b.id = none) : Good (put0 t b) := by
  have hm := may_mask hb
  have key : ∀ (a j : Nat) (x : Bn), (put0 t b a)[j]? = some x → (t a)[j]? = some x ∨ (a = b.m.toNat ∧ j = (t a).length ∧ x = b) := by
    intro a j x h
    unfold put0 at h
    by_cases e : a = b.m.toNat
    · subst e
      rw [up_same] at h
      by_cases hj : j < (t b.m.toNat).length
      · rw [List.getElem?_append_left hj] at h; exact .inl h
      · rw [List.getElem?_append_right (by omega)] at h
        have h0 := (List.getElem?_eq_some_iff.1 h).1
        simp at h0
        have hj0 : j - (t b.m.toNat).length = 0 := by omega
        rw [hj0] at h
        exact .inr ⟨rfl, by omega, (Option.some.inj h).symm⟩
    · rw [up_ne _ _ e] at h; exact .inl h
  have nf : ∀ (a j : Nat) (x : Bn), (t a)[j]? = some x → x.id ≠ b.id := fun a j x h => find_none hf a (hg.lt (List.mem_of_getElem? h)) x (List.mem_of_getElem? h)
  refine ⟨fun a x hx => ?_, fun a j a' j' x x' h h' e => ?_⟩
  · obtain ⟨j, hj⟩ := List.mem_iff_getElem?.1 hx
    rcases key a j x hj with h | ⟨rfl, _, rfl⟩
    · exact hg.ok a x (List.mem_of_getElem? h)
    · exact ⟨hb, by omega⟩
  · rcases key a j x h with h1 | ⟨rfl, rfl, rfl⟩
    · rcases key a' j' x' h' with h2 | ⟨rfl, rfl, rfl⟩
      · exact hg.one _ _ _ _ _ _ h1 h2 e
      · exact absurd e (nf _ _ _ h1)
    · rcases key a' j' x' h' with h2 | ⟨rfl, rfl, rfl⟩
      · exact absurd e.symm (nf _ _ _ h2)
      · exact ⟨rfl, rfl⟩
theorem set_good {t : Tb} (hg : Good t) {b x : Bn} {m i : Nat} (hb : may b = true) (hx : (t m)[i]? = some x) (he : x.id = b.id) (hm : (m : Int) = b.m) : Good (up t m ((t m).set i b)) := by
  have hi := (List.getElem?_eq_some_iff.1 hx).1
  have key : ∀ (a j : Nat) (y : Bn), (up t m ((t m).set i b) a)[j]? = some y → ((a ≠ m ∨ j ≠ i) ∧ (t a)[j]? = some y) ∨ (a = m ∧ j = i ∧ y = b) := by
    intro a j y h
    by_cases e : a = m
    · subst e
      rw [up_same] at h
      by_cases hj : j = i
      · subst hj
        rw [List.getElem?_set_self hi] at h
        exact .inr ⟨rfl, rfl, (Option.some.inj h).symm⟩
      · rw [List.getElem?_set_ne (fun e => hj e.symm)] at h
        exact .inl ⟨.inr hj, h⟩
    · rw [up_ne _ _ e] at h
      exact .inl ⟨.inl e, h⟩
  refine ⟨fun a y hy => ?_, fun a j a' j' y y' h h' e => ?_⟩
  · obtain ⟨j, hj⟩ := List.mem_iff_getElem?.1 hy
    rcases key a j y hj with ⟨_, h⟩ | ⟨rfl, _, rfl⟩
    · exact hg.ok a y (List.mem_of_getElem? h)
    · exact ⟨hb, hm.symm⟩
  · rcases key a j y h with ⟨n1, h1⟩ | ⟨rfl, rfl, rfl⟩
    · rcases key a' j' y' h' with ⟨n2, h2⟩ | ⟨rfl, rfl, rfl⟩
      · exact hg.one _ _ _ _ _ _ h1 h2 e
      · obtain ⟨e1, e2⟩ := hg.one _ _ _ _ _ _ h1 hx (e.trans he.symm)
        rcases n1 with n | n
        · exact absurd e1 n
        · exact absurd e2 n
    · rcases key a' j' y' h' with ⟨n2, h2⟩ | ⟨rfl, rfl, rfl⟩
      · obtain ⟨e1, e2⟩ := hg.one _ _ _ _ _ _ h2 hx (e.symm.trans he.symm)
        rcases n2 with n | n
        · exact absurd e1 n
        · exact absurd e2 n
      · exact ⟨rfl, rfl⟩
/-- who is cut out is nowhere -/
theorem cut_gone {t : Tb} (hg : Good t) {m i : Nat} {x : Bn} (hx : (t m)[i]? = some x) : find (cut0 t m i) x.id = none := by
  have hi := (List.getElem?_eq_some_iff.1 hx).1
  cases hf : find (cut0 t m i) x.id with
  | none => rfl
  | some p =>
    exfalso
    obtain ⟨a, j⟩ := p
    obtain ⟨_, b, h1, h2⟩ := find_at hf
    unfold cut0 at h1
    by_cases e : a = m
    · subst e
      rw [up_same] at h1
      obtain ⟨hj, ⟨n, h⟩ | ⟨n, h⟩⟩ := cutL_from h1
      · obtain ⟨_, e2⟩ := hg.one _ _ _ _ _ _ h hx h2
        exact n e2
      · obtain ⟨_, e2⟩ := hg.one _ _ _ _ _ _ h hx h2
        omega
    · rw [up_ne _ _ e] at h1
      obtain ⟨e1, _⟩ := hg.one _ _ _ _ _ _ h1 hx h2
      exact e e1
theorem Good.put {t : Tb} (hg : Good t) (b : Bn) : Good (put t b).1 := by
  unfold Ar.put
  split
  · rename_i hb
    split
    · exact hg
    · rename_i hf
      exact put_good hg hb (by simpa using hf)
  · exact hg
theorem Good.remove {t : Tb} (hg : Good t) (k : NK) : Good (remove t k).1 := by
  unfold Ar.remove
  split
  · exact hg
  · rename_i m i hf
    obtain ⟨_, b, h, _⟩ := find_at hf
    exact cut_good hg (List.getElem?_eq_some_iff.1 h).1
theorem Good.write {t : Tb} (hg : Good t) (b : Bn) : Good (write t b).1 := by
  unfold Ar.write
  split
  · rename_i hb
    split
    · exact hg
    · rename_i m i hf
      obtain ⟨_, x, h, he⟩ := find_at hf
      split
      · rename_i hm
        exact set_good hg hb h he hm
      · exact put_good (cut_good hg (List.getElem?_eq_some_iff.1 h).1) hb (by rw [← he]; exact cut_gone hg h)
  · exact hg
theorem good_none : Good (fun _ => []) := ⟨fun m b hb => (by cases hb), fun m i m' i' b b' h => (by simp at h)⟩
end Ar
end Go.Proofs.Yteollbioeamciaa
namespace Go.Proofs.Yteollbioeamciaa
open Go Pz
set_option linter.unusedVariables false

namespace Ar
theorem find_iff {t : Tb} (hg : Good t) {k : NK} {m i : Nat} : find t k = some (m, i) ↔ ∃ b, (t m)[i]? = some b ∧ b.id = k :=
  ⟨fun h => (find_at h).2, fun ⟨b, h, e⟩ => by subst e; exact find_is hg h⟩
/-- how many -/
def total (t : Tb) : Nat := ((List.range 32).map fun m => (t m).length).sum
theorem sum_up (f : Nat → Nat) (m n : Nat) : ∀ l : List Nat, l.Nodup → m ∈ l → (l.map fun j => if j = m then n else f j).sum + f m = (l.map f).sum + n
  | [], _, h => by cases h
  | x :: r, hd, h => by
    obtain ⟨hx, hr⟩ := List.nodup_cons.1 hd
    simp only [List.map_cons, List.sum_cons]
    by_cases e : x = m
    · subst e
      have : (r.map fun j => if j = x then n else f j) = r.map f := List.map_congr_left fun j hj => if_neg (fun e => hx (by rw [← e]; exact hj))
      rw [if_pos rfl, this]; omega
    · rw [if_neg e]
      have := sum_up f m n r hr (by rcases List.mem_cons.1 h with h | h; exact absurd h.symm e; exact h)
      omega
theorem total_up (t : Tb) {m : Nat} (hm : m < 32) (l : List Bn) : total (up t m l) + (t m).length = total t + l.length := by
  have := sum_up (fun j => (t j).length) m l.length (List.range 32) List.nodup_range (List.mem_range.2 hm)
  unfold total
  have e : ((List.range 32).map fun j => (up t m l j).length) = (List.range 32).map fun j => if j = m then l.length else (t j).length := List.map_congr_left fun j _ => by
    unfold up; split <;> rfl
  rw [e]
  exact this
theorem total_none : total (fun _ => []) = 0 := by decide
theorem len_total : ∀ (t : Tb) {m : Nat}, m < 32 → (t m).length ≤ total t := by
  intro t m hm
  have := total_up t hm []
  simp at this
  omega
theorem total_all (t : Tb) : (all t).length = total t := by
  unfold all total
  rw [List.length_flatMap]
/-- a list of pairs that says where everybody stands -/
structure Rep (L : List (NK × Nat × Nat)) (t : Tb) : Prop where
  apart : (L.map (·.1)).Nodup
  is : ∀ k x, (k, x) ∈ L ↔ find t k = some x
  len : L.length = total t
theorem rep_none : Rep [] (fun _ => []) := by
  refine ⟨by simp, fun k x => ⟨fun h => (by cases h), fun h => ?_⟩, total_none.symm⟩
  obtain ⟨m, i⟩ := x
  obtain ⟨_, b, h, _⟩ := find_at h
  simp at h
theorem Rep.find {L : List (NK × Nat × Nat)} {t : Tb} (h : Rep L t) (k : NK) : (L.find? fun p => decide (p.1 = k)).map (·.2) = Ar.find t k := by
  cases hf : L.find? fun p => decide (p.1 = k) with
  | none =>
    cases hx : Ar.find t k with
    | none => rfl
    | some x =>
      have := List.find?_eq_none.1 hf _ ((h.is k x).2 hx)
      simp at this
  | some p =>
    have h1 := List.mem_of_find?_eq_some hf
    have h2 := List.find?_some hf
    obtain ⟨k', x⟩ := p
    have e : k' = k := of_decide_eq_true h2
    subst e
    exact ((h.is _ x).1 h1).symm
theorem Rep.write {L : List (NK × Nat × Nat)} {t : Tb} (h : Rep L t) (hg : Good t) {b x : Bn} {m i : Nat} (hb : may b = true) (hx : (t m)[i]? = some x) (he : x.id = b.id) (hm : (m : Int) = b.m) : Rep L (up t m ((t m).set i b)) := by
  have hg' := set_good hg hb hx he hm
  have hi := (List.getElem?_eq_some_iff.1 hx).1
  refine ⟨h.apart, fun k y => ?_, ?_⟩
  · rw [h.is]
    obtain ⟨a, j⟩ := y
    rw [find_iff hg, find_iff hg']
    by_cases e : a = m
    · subst e
      rw [up_same]
      by_cases e2 : j = i
      · subst e2
        rw [List.getElem?_set_self hi]
        constructor
        · rintro ⟨c, h1, rfl⟩
          rw [hx] at h1
          obtain rfl := Option.some.inj h1
          exact ⟨b, rfl, he.symm⟩
        · rintro ⟨c, h1, rfl⟩
          obtain rfl := Option.some.inj h1
          exact ⟨x, hx, he⟩
      · rw [List.getElem?_set_ne (fun e => e2 e.symm)]
    · rw [up_ne _ _ e]
  · rw [h.len]
    have := total_up t (hg.lt (List.mem_of_getElem? hx)) ((t m).set i b)
    simp at this
    omega
theorem Rep.put {L : List (NK × Nat × Nat)} {t : Tb} (h : Rep L t) (hg : Good t) {b : Bn} (hb : may b = true) (hf : Ar.find t b.id = none) : Rep (L ++ [(b.id, b.m.toNat, (t b.m.toNat).length)]) (put0 t b) := by
  have hm := may_mask hb
  have hg' := put_good hg hb hf
  have hn : ∀ x, (b.id, x) ∉ L := fun x hx => by rw [h.is, hf] at hx; cases hx
  refine ⟨?_, fun k y => ?_, ?_⟩
  · rw [List.map_append, List.nodup_append]
    refine ⟨h.apart, by simp, fun a ha c hc e => ?_⟩
    obtain ⟨⟨k, x⟩, hx, rfl⟩ := List.mem_map.1 ha
    simp at hc
    subst hc
    simp only at e
    subst e
    exact hn x hx
  · rw [List.mem_append, h.is]
    obtain ⟨a, j⟩ := y
    rw [find_iff hg, find_iff hg']
    unfold put0
    simp only [List.mem_singleton, Prod.mk.injEq]
    by_cases e : a = b.m.toNat
    · subst e
      rw [up_same]
      by_cases hj : j < (t b.m.toNat).length
      · rw [List.getElem?_append_left hj]
        exact ⟨fun h => h.resolve_right (by rintro ⟨_, _, rfl⟩; omega), .inl⟩
      · rw [List.getElem?_append_right (by omega)]
        constructor
        · rintro (⟨c, h1, _⟩ | ⟨rfl, _, rfl⟩)
          · exact absurd (List.getElem?_eq_some_iff.1 h1).1 hj
          · exact ⟨b, by simp, rfl⟩
        · rintro ⟨c, h1, rfl⟩
          have h0 := (List.getElem?_eq_some_iff.1 h1).1
          simp at h0
          have hj0 : j - (t b.m.toNat).length = 0 := by omega
          rw [hj0] at h1
          obtain rfl := Option.some.inj h1
          exact .inr ⟨rfl, rfl, by omega⟩
    · rw [up_ne _ _ e]
      exact ⟨fun h => h.resolve_right (by rintro ⟨_, h, _⟩; exact e h), .inl⟩
  · rw [List.length_append, h.len]
    unfold put0
    have := total_up t (show b.m.toNat < 32 by omega) (t b.m.toNat ++ [b])
    simp at this ⊢
    omega
/-- who stands there behind a cut -/
theorem cut_iff {t : Tb} (hg : Good t) {m i : Nat} {x z : Bn} (hx : (t m)[i]? = some x) (hz : (t m)[(t m).length - 1]? = some z) (k : NK) (y : Nat × Nat) :
    Ar.find (cut0 t m i) k = some y ↔ k ≠ x.id ∧ ((k = z.id ∧ y = (m, i)) ∨ (k ≠ z.id ∧ Ar.find t k = some y)) := by
  have hi := (List.getElem?_eq_some_iff.1 hx).1
  have hg' := cut_good hg hi
  obtain ⟨a, j⟩ := y
  rw [find_iff hg', find_iff hg]
  constructor
  · rintro ⟨c, h1, rfl⟩
    have hcx : c.id ≠ x.id := fun e => by
      have := find_is hg' h1
      rw [e, cut_gone hg hx] at this
      cases this
    refine ⟨hcx, ?_⟩
    unfold cut0 at h1
    by_cases e : a = m
    · subst e
      rw [up_same] at h1
      obtain ⟨hj, ⟨hn, hc⟩ | ⟨rfl, hc⟩⟩ := cutL_from h1
      · refine .inr ⟨fun e => ?_, c, hc, rfl⟩
        obtain ⟨_, e2⟩ := hg.one _ _ _ _ _ _ hc hz e
        omega
      · rw [hz] at hc
        obtain rfl := Option.some.inj hc
        exact .inl ⟨rfl, rfl⟩
    · rw [up_ne _ _ e] at h1
      refine .inr ⟨fun e2 => ?_, c, h1, rfl⟩
      exact e (hg.one _ _ _ _ _ _ h1 hz e2).1
  · rintro ⟨hn, ⟨rfl, e⟩ | ⟨hkz, c, h1, rfl⟩⟩
    · cases e
      have hlt : i + 1 < (t m).length := by
        refine Nat.lt_of_le_of_ne (by omega) (fun e => hn ?_)
        have : (t m).length - 1 = i := by omega
        rw [this, hx] at hz
        rw [Option.some.inj hz]
      refine ⟨z, ?_, rfl⟩
      unfold cut0
      rw [up_same, cutL_get hlt, if_pos rfl, hz]
    · refine ⟨c, ?_, rfl⟩
      unfold cut0
      by_cases e : a = m
      · subst e
        have hjl := (List.getElem?_eq_some_iff.1 h1).1
        have hji : j ≠ i := fun e => by
          subst e
          rw [hx] at h1
          exact hn (by rw [Option.some.inj h1])
        have hlt : j + 1 < (t a).length := by
          refine Nat.lt_of_le_of_ne (by omega) (fun e => hkz ?_)
          have : (t a).length - 1 = j := by omega
          rw [this, h1] at hz
          rw [Option.some.inj hz]
        rw [up_same, cutL_get hlt, if_neg hji, h1]
      · rw [up_ne _ _ e, h1]
/-- a pair's second part another one -/
def setK (L : List (NK × Nat × Nat)) (k : NK) (x : Nat × Nat) : List (NK × Nat × Nat) := L.map fun p => if p.1 = k then (p.1, x) else p
def delK (L : List (NK × Nat × Nat)) (k : NK) : List (NK × Nat × Nat) := L.filter fun p => !decide (p.1 = k)
theorem keys_setK (L : List (NK × Nat × Nat)) (k : NK) (x : Nat × Nat) : (setK L k x).map (·.1) = L.map (·.1) := by
  unfold setK
  rw [List.map_map]
  refine List.map_congr_left fun p _ => ?_
  simp only [Function.comp]
  split <;> rfl
theorem mem_setK {L : List (NK × Nat × Nat)} {k : NK} {x : Nat × Nat} {k' : NK} {y : Nat × Nat} : (k', y) ∈ setK L k x ↔ (k' = k ∧ y = x ∧ ∃ z, (k, z) ∈ L) ∨ (k' ≠ k ∧ (k', y) ∈ L) := by
  unfold setK
  rw [List.mem_map]
  constructor
  · rintro ⟨⟨a, z⟩, h, e⟩
    simp only at e
    by_cases ha : a = k
    · rw [if_pos ha] at e
      cases e
      subst ha
      exact .inl ⟨rfl, rfl, z, h⟩
    · rw [if_neg ha] at e
      cases e
      exact .inr ⟨ha, h⟩
  · rintro (⟨rfl, rfl, z, h⟩ | ⟨h1, h2⟩)
    · exact ⟨_, h, by simp⟩
    · exact ⟨_, h2, by simp [h1]⟩
theorem Rep.cut {L : List (NK × Nat × Nat)} {t : Tb} (h : Rep L t) (hg : Good t) {m i : Nat} {x z : Bn} (hx : (t m)[i]? = some x) (hz : (t m)[(t m).length - 1]? = some z) : Rep (delK (setK L z.id (m, i)) x.id) (cut0 t m i) := by
  have hi := (List.getElem?_eq_some_iff.1 hx).1
  have hm := hg.lt (List.mem_of_getElem? hx)
  have hzL : (z.id, m, (t m).length - 1) ∈ L := (h.is _ _).2 (find_is hg hz)
  have hxL : (x.id, m, i) ∈ L := (h.is _ _).2 (find_is hg hx)
  refine ⟨?_, fun k y => ?_, ?_⟩
  · have : ((setK L z.id (m, i)).map (·.1)).Nodup := by rw [keys_setK]; exact h.apart
    exact this.sublist (List.Sublist.map _ List.filter_sublist)
  · rw [cut_iff hg hx hz]
    unfold delK
    rw [List.mem_filter, mem_setK, h.is]
    simp only [Bool.not_eq_true', decide_eq_false_iff_not]
    constructor
    · rintro ⟨⟨rfl, rfl, _⟩ | ⟨h1, h2⟩, h3⟩
      · exact ⟨h3, .inl ⟨rfl, rfl⟩⟩
      · exact ⟨h3, .inr ⟨h1, h2⟩⟩
    · rintro ⟨h3, ⟨rfl, rfl⟩ | ⟨h1, h2⟩⟩
      · exact ⟨.inl ⟨rfl, rfl, _, hzL⟩, h3⟩
      · exact ⟨.inr ⟨h1, h2⟩, h3⟩
  · have hk : ∀ l : List (NK × Nat × Nat), (l.map (·.1)).Nodup → x.id ∈ l.map (·.1) → (delK l x.id).length + 1 = l.length := by
      intro l
      induction l with
      | nil => intro _ h; simp at h
      | cons p r ih =>
        intro hd hmem
        rw [List.map_cons, List.nodup_cons] at hd
        unfold delK
        rw [List.filter_cons]
        by_cases e : p.1 = x.id
        · have : delK r x.id = r := List.filter_eq_self.2 fun q hq => by
            simp only [Bool.not_eq_true', decide_eq_false_iff_not]
            intro e2
            exact hd.1 (by rw [e, ← e2]; exact List.mem_map.2 ⟨q, hq, rfl⟩)
          unfold delK at this
          simp [e, this]
        · have hr : x.id ∈ r.map (·.1) := by
            rw [List.map_cons] at hmem
            rcases List.mem_cons.1 hmem with h | h
            · exact absurd h.symm e
            · exact h
          have := ih hd.2 hr
          unfold delK at this
          simp [e, this]
    have h1 := hk (setK L z.id (m, i)) (by rw [keys_setK]; exact h.apart) (by rw [keys_setK]; exact List.mem_map.2 ⟨_, hxL, rfl⟩)
    have h2 : (setK L z.id (m, i)).length = L.length := by unfold setK; simp
    have h3 := total_up t hm (cutL (t m) i)
    rw [cutL_len] at h3
    unfold cut0
    have h4 := h.len
    omega
/-- tables that nobody stands in -/
theorem Good.none {t : Tb} (hg : Good t) {m : Nat} (hm : 32 ≤ m) : t m = [] := by
  cases ht : t m with
  | nil => rfl
  | cons b r =>
    have := hg.lt (m := m) (b := b) (by rw [ht]; simp)
    omega
/-- tables cut to those ahead of m, and the first i rows of m -/
def upto (t : Tb) (m i : Nat) : Tb := fun a => if a < m then t a else if a = m then (t m).take i else []
theorem upto_zero (t : Tb) : upto t 0 0 = fun _ => [] := by
  funext a
  unfold upto
  rw [if_neg (by omega)]
  split <;> simp
theorem upto_row (t : Tb) {m i : Nat} {b : Bn} (hb : (t m)[i]? = some b) (hm : b.m = (m : Int)) : put0 (upto t m i) b = upto t m (i + 1) := by
  have hi := (List.getElem?_eq_some_iff.1 hb).1
  have hmt : b.m.toNat = m := by omega
  funext a
  unfold put0
  rw [hmt]
  by_cases e : a = m
  · subst e
    rw [up_same]
    unfold upto
    rw [if_neg (by omega), if_pos rfl, if_neg (by omega), if_pos rfl, List.take_add_one, hb]
    rfl
  · rw [up_ne _ _ e]
    unfold upto
    split
    · rfl
    · simp
theorem upto_table (t : Tb) (m : Nat) : upto t m (t m).length = upto t (m + 1) 0 := by
  funext a
  unfold upto
  by_cases h : a < m
  · rw [if_pos h, if_pos (by omega)]
  · rw [if_neg h]
    by_cases e : a = m
    · subst e
      rw [if_pos rfl, if_pos (by omega), List.take_length]
    · rw [if_neg e, if_neg (by omega)]
      split <;> simp
theorem upto_all {t : Tb} (hg : Good t) : upto t 32 0 = t := by
  funext a
  unfold upto
  by_cases h : a < 32
  · rw [if_pos h]
  · rw [if_neg h, hg.none (m := a) (by omega)]
    split
    · rename_i e
      subst e
      simp [hg.none (m := 32) (by omega)]
    · rfl
theorem upto_sub {t : Tb} {m i a j : Nat} {b : Bn} (h : (upto t m i a)[j]? = some b) : (t a)[j]? = some b ∧ (a < m ∨ (a = m ∧ j < i)) := by
  unfold upto at h
  split at h
  · exact ⟨h, .inl (by assumption)⟩
  · split at h
    · rename_i e
      subst e
      have hj := (List.getElem?_eq_some_iff.1 h).1
      rw [List.length_take] at hj
      rw [List.getElem?_take_of_lt (by omega)] at h
      exact ⟨h, .inr ⟨rfl, by omega⟩⟩
    · simp at h
theorem upto_good {t : Tb} (hg : Good t) (m i : Nat) : Good (upto t m i) := by
  refine ⟨fun a b hb => ?_, fun a j a' j' b b' h h' e => hg.one a j a' j' b b' (upto_sub h).1 (upto_sub h').1 e⟩
  obtain ⟨j, hj⟩ := List.mem_iff_getElem?.1 hb
  exact hg.ok a b (List.mem_of_getElem? (upto_sub hj).1)
theorem upto_new {t : Tb} (hg : Good t) {m i : Nat} {b : Bn} (hb : (t m)[i]? = some b) : find (upto t m i) b.id = Option.none := by
  cases hf : find (upto t m i) b.id with
  | none => rfl
  | some p =>
    obtain ⟨a, j⟩ := p
    obtain ⟨_, c, h1, h2⟩ := find_at hf
    obtain ⟨h3, h4⟩ := upto_sub h1
    obtain ⟨rfl, rfl⟩ := hg.one _ _ _ _ _ _ h3 hb h2
    omega
/-- those ahead of a row -/
theorem all_upto (t : Tb) {m : Nat} (hm : m ≤ 32) (i : Nat) : all (upto t m i) = (List.range m).flatMap t ++ (if m < 32 then (t m).take i else []) := by
  unfold all
  have e : List.range 32 = List.range m ++ (List.range 32).drop m := by
    have e1 := List.take_append_drop m (List.range 32)
    rw [List.take_range, Nat.min_eq_left hm] at e1
    exact e1.symm
  rw [e, List.flatMap_append]
  have e2 : (List.range m).flatMap (upto t m i) = (List.range m).flatMap t := by
    rw [List.flatMap_def, List.flatMap_def]
    congr 1
    refine List.map_congr_left fun a ha => ?_
    have := List.mem_range.1 ha
    unfold upto
    rw [if_pos this]
  rw [e2]
  congr 1
  by_cases h : m < 32
  · rw [if_pos h, List.drop_eq_getElem_cons (by simpa using h), List.getElem_range, List.flatMap_cons]
    have e3 : upto t m i m = (t m).take i := by unfold upto; rw [if_neg (by omega), if_pos rfl]
    have e4 : ((List.range 32).drop (m + 1)).flatMap (upto t m i) = [] := List.flatMap_eq_nil_iff.2 fun a ha => by
      obtain ⟨j, hj⟩ := List.mem_iff_getElem?.1 ha
      rw [List.getElem?_drop] at hj
      have hlt := (List.getElem?_eq_some_iff.1 hj).1
      rw [List.length_range] at hlt
      rw [List.getElem?_range hlt] at hj
      have := Option.some.inj hj
      unfold upto
      rw [if_neg (by omega), if_neg (by omega)]
    rw [e3, e4, List.append_nil]
  · rw [if_neg h, List.drop_eq_nil_of_le (by simp; omega)]
    rfl
end Ar
end Go.Proofs.Yteollbioeamciaa
namespace Go.Proofs.Yteollbioeamciaa
open Go Pz
set_option linter.unusedVariables false

namespace Ar
def addAll (l : List Bn) : Tb := fun m => l.filter fun b => decide (b.m.toNat = m)
theorem addAll_snoc (l : List Bn) (x : Bn) : addAll (l ++ [x]) = put0 (addAll l) x := by
  funext m
  unfold addAll put0 up
  rw [List.filter_append]
  by_cases e : m = x.m.toNat
  · subst e
    rw [if_pos rfl]
    simp
  · rw [if_neg e]
    have : ¬ x.m.toNat = m := fun h => e h.symm
    simp [this]
theorem addAll_nil : addAll [] = fun _ => [] := rfl
theorem addAll_len (l : List Bn) (m : Nat) : (addAll l m).length ≤ l.length := List.length_filter_le _ _
theorem addAll_mem {l : List Bn} {m : Nat} {b : Bn} (h : b ∈ addAll l m) : b ∈ l ∧ b.m.toNat = m := by
  unfold addAll at h
  have := List.mem_filter.1 h
  exact ⟨this.1, of_decide_eq_true this.2⟩
theorem addAll_find {l : List Bn} {k : NK} (h : ∀ b ∈ l, b.id ≠ k) : find (addAll l) k = none := by
  cases hf : find (addAll l) k with
  | none => rfl
  | some p =>
    obtain ⟨m, i⟩ := p
    obtain ⟨_, b, h1, h2⟩ := find_at hf
    exact absurd h2 (h b (addAll_mem (List.mem_of_getElem? h1)).1)
/-- entities that may be, each of another name -/
structure Ok (l : List Bn) : Prop where
  may : ∀ b ∈ l, may b = true
  apart : (l.map Bn.id).Nodup
theorem Ok.pre {l r : List Bn} (h : Ok l) (hp : r <+: l) : Ok r :=
  ⟨fun b hb => h.may b (hp.subset hb), h.apart.sublist (hp.sublist.map _)⟩
theorem Ok.new {l : List Bn} {x : Bn} (h : Ok (l ++ [x])) : ∀ b ∈ l, b.id ≠ x.id := fun b hb e => by
  have := h.apart
  rw [List.map_append, List.nodup_append] at this
  exact this.2.2 b.id (List.mem_map.2 ⟨b, hb, rfl⟩) x.id (by simp) e
theorem all_mem {t : Tb} {b : Bn} (h : b ∈ all t) : ∃ m i : Nat, m < 32 ∧ (t m)[i]? = some b := by
  unfold all at h
  obtain ⟨m, hm, hb⟩ := List.mem_flatMap.1 h
  obtain ⟨i, hi⟩ := List.mem_iff_getElem?.1 hb
  exact ⟨m, i, List.mem_range.1 hm, hi⟩
theorem mem_all {t : Tb} {m : Nat} {b : Bn} (hm : m < 32) (h : b ∈ t m) : b ∈ all t := List.mem_flatMap.2 ⟨m, List.mem_range.2 hm, h⟩
theorem nodup_flat {t : Tb} (hg : Good t) : ∀ ms : List Nat, ms.Nodup → ((ms.flatMap t).map Bn.id).Nodup
  | [], _ => by simp
  | m :: ms, h => by
    obtain ⟨h1, h2⟩ := List.nodup_cons.1 h
    rw [List.flatMap_cons, List.map_append, List.nodup_append]
    refine ⟨?_, nodup_flat hg ms h2, fun a ha b hb e => ?_⟩
    · refine List.pairwise_iff_getElem.2 fun i j hi hj hij e => ?_
      rw [List.length_map] at hi hj
      rw [List.getElem_map, List.getElem_map] at e
      have := hg.one m i m j _ _ (List.getElem?_eq_getElem hi) (List.getElem?_eq_getElem hj) e
      omega
    · obtain ⟨x, hx, rfl⟩ := List.mem_map.1 ha
      obtain ⟨y, hy, rfl⟩ := List.mem_map.1 hb
      obtain ⟨m', hm', hy'⟩ := List.mem_flatMap.1 hy
      obtain ⟨i, hi⟩ := List.mem_iff_getElem?.1 hx
      obtain ⟨j, hj⟩ := List.mem_iff_getElem?.1 hy'
      have := (hg.one m i m' j _ _ hi hj e).1
      subst this
      exact h1 hm'
theorem all_ok {t : Tb} (hg : Good t) : Ok (all t) :=
  ⟨fun b hb => by
    obtain ⟨m, i, _, h⟩ := all_mem hb
    exact (hg.ok m b (List.mem_of_getElem? h)).1, nodup_flat hg _ List.nodup_range⟩
theorem filter_flat {t : Tb} (hg : Good t) (m : Nat) : ∀ ms : List Nat, ms.Nodup → (ms.flatMap t).filter (fun b => decide (b.m.toNat = m)) = if m ∈ ms then t m else []
  | [], _ => by simp
  | a :: ms, h => by
    obtain ⟨h1, h2⟩ := List.nodup_cons.1 h
    rw [List.flatMap_cons, List.filter_append, filter_flat hg m ms h2]
    have hk : ∀ b ∈ t a, b.m.toNat = a := fun b hb => by have := (hg.ok a b hb).2; omega
    by_cases e : a = m
    · subst e
      have : (t a).filter (fun b => decide (b.m.toNat = a)) = t a := List.filter_eq_self.2 fun b hb => by simpa using hk b hb
      rw [this, if_neg h1, if_pos (by simp), List.append_nil]
    · have : (t a).filter (fun b => decide (b.m.toNat = m)) = [] := List.filter_eq_nil_iff.2 fun b hb => by
        have := hk b hb
        simp; omega
      rw [this, List.nil_append]
      by_cases h3 : m ∈ ms
      · rw [if_pos h3, if_pos (by simp [h3])]
      · rw [if_neg h3, if_neg (by simp [h3]; exact fun e' => e e'.symm)]
theorem addAll_all {t : Tb} (hg : Good t) : addAll (all t) = t := by
  funext m
  unfold addAll all
  rw [filter_flat hg m _ List.nodup_range]
  by_cases h : m < 32
  · rw [if_pos (List.mem_range.2 h)]
  · rw [if_neg (fun h' => h (List.mem_range.1 h')), hg.none (by omega)]
end Ar
end Go.Proofs.Yteollbioeamciaa
namespace Go.Proofs.Yteollbioeamciaa
open Go Pz
set_option linter.unusedVariables false

namespace Ar
abbrev tabF (t : Tb) (m : Nat) : Option (Nat × List NK) := if (t m).isEmpty then none else some (m, (t m).map Bn.id)
theorem tabF_some {t : Tb} {m : Nat} {y : Nat × List NK} (h : tabF t m = some y) : y = (m, (t m).map Bn.id) ∧ 0 < (t m).length := by
  unfold tabF at h
  split at h
  · cases h
  · rename_i hn
    cases h
    exact ⟨rfl, Nat.pos_of_ne_zero fun e => hn (by rw [List.length_eq_zero_iff.1 e]; rfl)⟩
theorem tabs_at {t : Tb} {j m : Nat} {ks : List NK} (h : (tabs t)[j]? = some (m, ks)) : m < 32 ∧ ks = (t m).map Bn.id ∧ 0 < (t m).length := by
  obtain ⟨a, ha, he⟩ := List.mem_filterMap.1 (List.mem_of_getElem? h)
  obtain ⟨e, hl⟩ := tabF_some he
  cases e
  exact ⟨List.mem_range.1 ha, rfl, hl⟩
theorem tabs_pair (t : Tb) : (tabs t).Pairwise fun x y => x.1 < y.1 := by
  refine List.Pairwise.filterMap (tabF t) (fun a a' h b hb b' hb' => ?_) List.pairwise_lt_range
  obtain ⟨rfl, _⟩ := tabF_some hb
  obtain ⟨rfl, _⟩ := tabF_some hb'
  exact h
theorem tabs_lt {t : Tb} {i j : Nat} (hij : i < j) {x y : Nat × List NK} (hx : (tabs t)[i]? = some x) (hy : (tabs t)[j]? = some y) : x.1 < y.1 := by
  obtain ⟨h1, rfl⟩ := List.getElem?_eq_some_iff.1 hx
  obtain ⟨h2, rfl⟩ := List.getElem?_eq_some_iff.1 hy
  exact List.pairwise_iff_getElem.1 (tabs_pair t) i j h1 h2 hij
theorem flat_tabs (t : Tb) : ∀ ms : List Nat, (ms.filterMap (tabF t)).flatMap (fun y => t y.1) = ms.flatMap t
  | [] => rfl
  | m :: ms => by
    rw [List.filterMap_cons, List.flatMap_cons, ← flat_tabs t ms]
    cases h : tabF t m with
    | none =>
      have : t m = [] := by
        unfold tabF at h
        split at h
        · rename_i he; exact List.isEmpty_iff.1 he
        · cases h
      rw [this]; rfl
    | some y =>
      obtain ⟨rfl, _⟩ := tabF_some h
      rw [List.flatMap_cons]
theorem tabs_flat (t : Tb) : (tabs t).flatMap (fun y => t y.1) = all t := flat_tabs t _
/-- how many rows the first so many tables have -/
def rowsTo (t : Tb) (j : Nat) : Nat := (((tabs t).take j).flatMap fun y => t y.1).length
theorem rowsTo_succ {t : Tb} {j m : Nat} {ks : List NK} (h : (tabs t)[j]? = some (m, ks)) : rowsTo t (j + 1) = rowsTo t j + (t m).length := by
  unfold rowsTo
  rw [List.take_add_one, h, List.flatMap_append, List.length_append]
  simp
theorem rowsTo_all (t : Tb) : rowsTo t (tabs t).length = total t := by
  unfold rowsTo
  rw [List.take_length, tabs_flat, total_all]
theorem rowsTo_le (t : Tb) (j : Nat) : rowsTo t j ≤ total t := by
  rw [← rowsTo_all t]
  unfold rowsTo
  rw [List.take_length]
  have h := List.take_append_drop j (tabs t)
  conv => rhs; rw [← h]
  rw [List.flatMap_append, List.length_append]
  omega
end Ar
end Go.Proofs.Yteollbioeamciaa
namespace Go.Proofs.Yteollbioeamciaa
open Go Pz
set_option linter.unusedVariables false

namespace Ar
theorem cutL_mem {l : List Bn} {i j : Nat} {y : Bn} (hi : i < l.length) (hy : l[j]? = some y) (hne : j ≠ i) : y ∈ cutL l i := by
  have hj := (List.getElem?_eq_some_iff.1 hy).1
  by_cases hl : j + 1 < l.length
  · have := cutL_get (l := l) (i := i) hl
    rw [if_neg hne, hy] at this
    exact List.mem_of_getElem? this
  · have e : l.length - 1 = j := by omega
    have := cutL_get (l := l) (i := i) (j := i) (by omega)
    rw [if_pos rfl, e, hy] at this
    exact List.mem_of_getElem? this
theorem get_of_mem {t : Tb} (hg : Good t) {m : Nat} {y : Bn} (h : y ∈ t m) : ∃ i, find t y.id = some (m, i) ∧ (t m)[i]? = some y := by
  obtain ⟨i, hi⟩ := List.getElem?_of_mem h
  exact ⟨i, find_is hg hi, hi⟩
theorem write_eq {t : Tb} {b : Bn} {m i : Nat} (hb : may b = true) (hf : find t b.id = some (m, i)) : write t b = if (m : Int) = b.m then (up t m ((t m).set i b), 0) else (put0 (cut0 t m i) b, 0) := by
  unfold write
  rw [if_pos hb, hf]
theorem write_mem {t : Tb} {b : Bn} {m i : Nat} (hb : may b = true) (hf : find t b.id = some (m, i)) (hg : Good t) : (∃ M, b ∈ (write t b).1 M) ∧ ∀ y ∈ all t, y.id ≠ b.id → ∃ M, y ∈ (write t b).1 M := by
  obtain ⟨hm, x, hx, hid⟩ := find_at hf
  have hi := (List.getElem?_eq_some_iff.1 hx).1
  rw [write_eq hb hf]
  split
  · dsimp only
    refine ⟨⟨m, ?_⟩, fun y hy hne => ?_⟩
    · rw [up_same]
      exact List.mem_of_getElem? (List.getElem?_set_self hi)
    · obtain ⟨m', j, _, hj⟩ := all_mem hy
      refine ⟨m', ?_⟩
      by_cases hmm : m' = m
      · subst hmm
        have hji : i ≠ j := fun e => by subst e; rw [hx] at hj; cases hj; exact hne hid
        rw [up_same]
        exact List.mem_of_getElem? ((List.getElem?_set_ne hji).trans hj)
      · rw [up_ne _ _ hmm]
        exact List.mem_of_getElem? hj
  · rename_i hne0
    have hpm : ∀ {M : Nat} {y : Bn}, y ∈ cut0 t m i M → y ∈ put0 (cut0 t m i) b M := fun {M y} h => by
      unfold put0
      by_cases hM : M = b.m.toNat
      · subst hM
        rw [up_same]
        exact List.mem_append_left _ h
      · rw [up_ne _ _ hM]
        exact h
    dsimp only
    refine ⟨⟨b.m.toNat, ?_⟩, fun y hy hne => ?_⟩
    · unfold put0
      rw [up_same]
      exact List.mem_append_right _ (List.mem_singleton.2 rfl)
    · obtain ⟨m', j, _, hj⟩ := all_mem hy
      refine ⟨m', hpm ?_⟩
      unfold cut0
      by_cases hmm : m' = m
      · subst hmm
        have hji : j ≠ i := fun e => by subst e; rw [hx] at hj; cases hj; exact hne hid
        rw [up_same]
        exact cutL_mem hi hj hji
      · rw [up_ne _ _ hmm]
        exact List.mem_of_getElem? hj
theorem write_get {t : Tb} {b : Bn} {m i : Nat} (hb : may b = true) (hf : find t b.id = some (m, i)) (hg : Good t) {y : Bn} (hy : y ∈ all t) : ∃ M I, find (write t b).1 y.id = some (M, I) ∧ ((write t b).1 M)[I]? = some (if y.id = b.id then b else y) := by
  obtain ⟨⟨M, h1⟩, h2⟩ := write_mem hb hf hg
  by_cases e : y.id = b.id
  · obtain ⟨I, k1, k2⟩ := get_of_mem (hg.write b) h1
    exact ⟨M, I, by rw [e]; exact k1, by rw [if_pos e]; exact k2⟩
  · obtain ⟨M', h3⟩ := h2 y hy e
    obtain ⟨I, k1, k2⟩ := get_of_mem (hg.write b) h3
    exact ⟨M', I, k1, by rw [if_neg e]; exact k2⟩
theorem write_total {t : Tb} {b : Bn} {m i : Nat} (hb : may b = true) (hf : find t b.id = some (m, i)) : total (write t b).1 = total t := by
  obtain ⟨hm, x, hx, hid⟩ := find_at hf
  have hi := (List.getElem?_eq_some_iff.1 hx).1
  rw [write_eq hb hf]
  split
  · have := total_up t hm ((t m).set i b)
    rw [List.length_set] at this
    show total (up t m ((t m).set i b)) = _
    omega
  · have h1 := total_up t hm (cutL (t m) i)
    rw [cutL_len] at h1
    obtain ⟨k1, k2⟩ := may_mask hb
    have h2 := total_up (cut0 t m i) (m := b.m.toNat) (by omega) (cut0 t m i b.m.toNat ++ [b])
    rw [List.length_append] at h2
    simp only [List.length_singleton] at h2
    show total (up (cut0 t m i) b.m.toNat (cut0 t m i b.m.toNat ++ [b])) = _
    have h3 : total (cut0 t m i) = total (up t m (cutL (t m) i)) := rfl
    omega
theorem write_tabs {t : Tb} {b : Bn} {m i : Nat} (hb : may b = true) (hf : find t b.id = some (m, i)) (hm : (m : Int) = b.m) : tabs (write t b).1 = tabs t := by
  obtain ⟨_, x, hx, hid⟩ := find_at hf
  have hi := (List.getElem?_eq_some_iff.1 hx).1
  rw [write_eq hb hf, if_pos hm]
  show (List.range 32).filterMap (tabF (up t m ((t m).set i b))) = (List.range 32).filterMap (tabF t)
  refine congrArg (fun f => (List.range 32).filterMap f) (funext fun a => ?_)
  unfold tabF
  by_cases ha : a = m
  · subst ha
    rw [up_same]
    have e1 : ((t a).set i b).isEmpty = (t a).isEmpty := by
      cases h : t a with
      | nil => rfl
      | cons c r => cases i <;> rfl
    have e2 : ((t a).set i b).map Bn.id = (t a).map Bn.id := by
      rw [List.map_set, ← hid]
      refine List.ext_getElem? fun q => ?_
      by_cases hq : i = q
      · subst hq
        rw [List.getElem?_set_self (by simpa using hi), List.getElem?_map, hx]; rfl
      · rw [List.getElem?_set_ne hq]
    rw [e1, e2]
  · rw [up_ne _ _ ha]
end Ar
end Go.Proofs.Yteollbioeamciaa
