/- Entities over numbers: their components, names and masks; bits of masks. Nothing of the program. Entities, over numbers: what may be, what is put and taken away, the order of names. Nothing of the program. A drawn region whose first n operations are quiet in a class of worlds, and whose last ones wait for all of them and come in one order: walked once. Nothing of the program. A drawn region walked once, its calls and allocations too: each operation of the head is shown to do its part in whatever world of a class, with what it looks at alone; the operations of the tail wait for all of these and come in one order. Nothing of the program. -/
import Derived.Laws.BitsAllLaws
import Derived.IntWalk
import Derived.StillTail
import Derived.Deep.Quiet
import Derived.Deep.QuietTactic
import Derived.Below
import Derived.RowKit
import Derived.Lib.Hide
namespace Go.Proofs.YtljaahemlcaffaaGreat
open Go
set_option linter.unusedVariables false

def Fit (n : Int) : Prop := -9223372036854775808 ≤ n ∧ n ≤ 9223372036854775807
/-! ### bits -/
theorem wrap_toInt (r : BitVec 64) : IntKind.i64.wrap (r.toNat : Int) = r.toInt := by
  rw [IntKind.wrap_i64, BitVec.toInt_eq_toNat_cond]
  have := r.isLt
  split <;> omega
theorem bits_or (x y : Int) : bits .or .i64 x y = (BitVec.ofInt 64 x ||| BitVec.ofInt 64 y).toInt := wrap_toInt _
theorem bits_and (x y : Int) : bits .and .i64 x y = (BitVec.ofInt 64 x &&& BitVec.ofInt 64 y).toInt := wrap_toInt _
theorem bits_andNot (x y : Int) : bits .andNot .i64 x y = (BitVec.ofInt 64 x &&& ~~~ BitVec.ofInt 64 y).toInt := wrap_toInt _
theorem bits_xor (x y : Int) : bits .xor .i64 x y = (BitVec.ofInt 64 x ^^^ BitVec.ofInt 64 y).toInt := wrap_toInt _
theorem of_toInt (r : BitVec 64) : BitVec.ofInt 64 r.toInt = r := BitVec.ofInt_toInt
theorem toInt_of {x : Int} (h : Fit x) : (BitVec.ofInt 64 x).toInt = x := by
  obtain ⟨h1, h2⟩ := h
  rw [BitVec.toInt_ofInt]
  simp only [Int.bmod]
  omega
theorem fit_toInt (r : BitVec 64) : Fit r.toInt := by
  have h1 := BitVec.toInt_lt (x := r)
  have h2 := BitVec.le_toInt (x := r)
  unfold Fit
  omega
theorem fit_or (x y : Int) : Fit (bits .or .i64 x y) := by rw [bits_or]; exact fit_toInt _
theorem fit_and (x y : Int) : Fit (bits .and .i64 x y) := by rw [bits_and]; exact fit_toInt _
theorem fit_andNot (x y : Int) : Fit (bits .andNot .i64 x y) := by rw [bits_andNot]; exact fit_toInt _
/-- bit k of a number, also of one below 0 -/
def bitB (x : Int) (k : Nat) : Bool := decide (x / (2 : Int) ^ k % 2 = 1)
theorem getLsb_of {x : Int} {k : Nat} (hk : k ≤ 4) : (BitVec.ofInt 64 x).getLsbD k = bitB x k := by
  rw [← BitVec.testBit_toNat, Nat.testBit_eq_decide_div_mod_eq, BitVec.toNat_ofInt]
  unfold bitB
  rw [decide_eq_decide]
  have : k = 0 ∨ k = 1 ∨ k = 2 ∨ k = 3 ∨ k = 4 := by omega
  rcases this with rfl | rfl | rfl | rfl | rfl <;> simp only [Nat.reducePow, Int.reducePow] <;> omega
theorem bit_or (x y : Int) {k : Nat} (hk : k ≤ 4) : bitB (bits .or .i64 x y) k = (bitB x k || bitB y k) := by
  rw [← getLsb_of hk, bits_or, of_toInt, BitVec.getLsbD_or, getLsb_of hk, getLsb_of hk]
theorem bit_and (x y : Int) {k : Nat} (hk : k ≤ 4) : bitB (bits .and .i64 x y) k = (bitB x k && bitB y k) := by
  rw [← getLsb_of hk, bits_and, of_toInt, BitVec.getLsbD_and, getLsb_of hk, getLsb_of hk]
theorem bit_andNot (x y : Int) {k : Nat} (hk : k ≤ 4) : bitB (bits .andNot .i64 x y) k = (bitB x k && !bitB y k) := by
  rw [← getLsb_of hk, bits_andNot, of_toInt, BitVec.getLsbD_and, BitVec.getLsbD_not, getLsb_of hk, getLsb_of hk]
  simp [show k < 64 by omega]
theorem or_assoc' (x y z : Int) : bits .or .i64 (bits .or .i64 x y) z = bits .or .i64 x (bits .or .i64 y z) := by
  rw [bits_or, bits_or, bits_or, bits_or, of_toInt, of_toInt, BitVec.or_assoc]
theorem or_self' {x : Int} (h : Fit x) : bits .or .i64 x x = x := by rw [bits_or, BitVec.or_self, toInt_of h]
theorem or_zero' {x : Int} (h : Fit x) : bits .or .i64 x 0 = x := by
  rw [bits_or, show BitVec.ofInt 64 0 = 0#64 from rfl, BitVec.or_zero, toInt_of h]
theorem andNot_zero' {x : Int} (h : Fit x) : bits .andNot .i64 x 0 = x := by
  rw [bits_andNot, show ~~~ BitVec.ofInt 64 0 = BitVec.allOnes 64 by decide, BitVec.and_allOnes, toInt_of h]
theorem andNot_two (x y z : Int) : bits .andNot .i64 (bits .andNot .i64 x y) z = bits .andNot .i64 x (bits .or .i64 y z) := by
  rw [bits_andNot, bits_andNot, bits_andNot, bits_or, of_toInt, of_toInt]
  congr 1
  rw [BitVec.and_assoc, ← BitVec.not_or]
theorem andNot_or (x y : Int) : bits .andNot .i64 (bits .or .i64 x y) y = bits .andNot .i64 x y := by
  rw [bits_andNot, bits_andNot, bits_or, of_toInt]
  congr 1
  apply BitVec.eq_of_getLsbD_eq
  intro i hi
  simp only [BitVec.getLsbD_and, BitVec.getLsbD_or, BitVec.getLsbD_not, hi, decide_true, Bool.true_and]
  cases (BitVec.ofInt 64 x).getLsbD i <;> cases (BitVec.ofInt 64 y).getLsbD i <;> rfl
theorem or_andNot {x : Int} (hx : Fit x) (y : Int) : bits .or .i64 (bits .andNot .i64 x y) x = x := by
  rw [bits_or, bits_andNot, of_toInt]
  have : (BitVec.ofInt 64 x &&& ~~~ BitVec.ofInt 64 y) ||| BitVec.ofInt 64 x = BitVec.ofInt 64 x := by
    apply BitVec.eq_of_getLsbD_eq
    intro i hi
    simp only [BitVec.getLsbD_and, BitVec.getLsbD_or, BitVec.getLsbD_not, hi, decide_true, Bool.true_and]
    cases (BitVec.ofInt 64 x).getLsbD i <;> cases (BitVec.ofInt 64 y).getLsbD i <;> rfl
  rw [this, toInt_of hx]
theorem and_or_right (x y : Int) : bits .and .i64 (bits .or .i64 x y) y = bits .and .i64 y y := by
  rw [bits_and, bits_and, bits_or, of_toInt]
  congr 1
  apply BitVec.eq_of_getLsbD_eq
  intro i hi
  simp only [BitVec.getLsbD_and, BitVec.getLsbD_or]
  cases (BitVec.ofInt 64 x).getLsbD i <;> cases (BitVec.ofInt 64 y).getLsbD i <;> rfl
theorem and_or_left (x y : Int) : bits .and .i64 (bits .or .i64 x y) x = bits .and .i64 x x := by
  rw [bits_and, bits_and, bits_or, of_toInt]
  congr 1
  apply BitVec.eq_of_getLsbD_eq
  intro i hi
  simp only [BitVec.getLsbD_and, BitVec.getLsbD_or]
  cases (BitVec.ofInt 64 x).getLsbD i <;> cases (BitVec.ofInt 64 y).getLsbD i <;> rfl
theorem and_self' {x : Int} (h : Fit x) : bits .and .i64 x x = x := by rw [bits_and, BitVec.and_self, toInt_of h]
theorem and_andNot (x y : Int) : bits .and .i64 (bits .andNot .i64 x y) y = 0 := by
  rw [bits_and, bits_andNot, of_toInt]
  have : (BitVec.ofInt 64 x &&& ~~~ BitVec.ofInt 64 y) &&& BitVec.ofInt 64 y = 0#64 := by
    apply BitVec.eq_of_getLsbD_eq
    intro i hi
    simp only [BitVec.getLsbD_and, BitVec.getLsbD_not, hi, decide_true, Bool.true_and, BitVec.getLsbD_zero]
    cases (BitVec.ofInt 64 x).getLsbD i <;> cases (BitVec.ofInt 64 y).getLsbD i <;> rfl
  rw [this]
  rfl
/-- what is left of x without what it has of y -/
theorem sub_and (x y : Int) : IntKind.i64.wrap (x - bits .and .i64 x y) = bits .andNot .i64 x y := by
  have h1 : BitVec.ofInt 64 x - (BitVec.ofInt 64 x &&& BitVec.ofInt 64 y) = BitVec.ofInt 64 x &&& ~~~ BitVec.ofInt 64 y := by
    have h2 : (BitVec.ofInt 64 x &&& ~~~ BitVec.ofInt 64 y) + (BitVec.ofInt 64 x &&& BitVec.ofInt 64 y) = BitVec.ofInt 64 x := by
      rw [BitVec.add_eq_or_of_and_eq_zero]
      · apply BitVec.eq_of_getLsbD_eq
        intro i hi
        simp only [BitVec.getLsbD_and, BitVec.getLsbD_or, BitVec.getLsbD_not, hi, decide_true, Bool.true_and]
        cases (BitVec.ofInt 64 x).getLsbD i <;> cases (BitVec.ofInt 64 y).getLsbD i <;> rfl
      · apply BitVec.eq_of_getLsbD_eq
        intro i hi
        simp only [BitVec.getLsbD_and, BitVec.getLsbD_not, hi, decide_true, Bool.true_and, BitVec.getLsbD_zero]
        cases (BitVec.ofInt 64 x).getLsbD i <;> cases (BitVec.ofInt 64 y).getLsbD i <;> rfl
    generalize BitVec.ofInt 64 x &&& ~~~ BitVec.ofInt 64 y = p at *
    generalize BitVec.ofInt 64 x &&& BitVec.ofInt 64 y = q at *
    rw [← h2, BitVec.add_sub_cancel]
  rw [bits_andNot, ← h1, bits_and, IntKind.wrap_i64]
  generalize hq : BitVec.ofInt 64 x &&& BitVec.ofInt 64 y = q
  rw [BitVec.toInt_sub, BitVec.toInt_ofInt]
  simp only [Int.bmod]
  omega
/-- two masks with 31 as their greatest: their bits tell them -/
theorem mask_lt {x : Int} : 0 ≤ x ∧ x ≤ 31 ↔ (0 ≤ x ∧ x / 32 = 0) := by omega
end Go.Proofs.YtljaahemlcaffaaGreat
namespace Go.Proofs.YtljaahemlcaffaaGreat
open Go
set_option linter.unusedVariables false

namespace Pz
/-- an entity: its name, its mask, its numbers -/
structure Bn where
  s : Int
  i : Int
  g : Int
  m : Int
  x : Int
  y : Int
  vx : Int
  vy : Int
  h : Int
  p : Int
  l : Int
abbrev Bn.row (b : Bn) : List Value := [.int .i64 b.s, .int .i64 b.i, .int .i64 b.g, .int .i64 b.m, .int .i64 b.x, .int .i64 b.y, .int .i64 b.vx, .int .i64 b.vy, .int .i64 b.h, .int .i64 b.p, .int .i64 b.l]
abbrev Bn.val (b : Bn) : Value := .agg #[.int .i64 b.s, .int .i64 b.i, .int .i64 b.g, .int .i64 b.m, .int .i64 b.x, .int .i64 b.y, .int .i64 b.vx, .int .i64 b.vy, .int .i64 b.h, .int .i64 b.p, .int .i64 b.l]
structure Bn.Fits (b : Bn) : Prop where
  s : Fit b.s
  i : Fit b.i
  g : Fit b.g
  m : Fit b.m
  x : Fit b.x
  y : Fit b.y
  vx : Fit b.vx
  vy : Fit b.vy
  h : Fit b.h
  p : Fit b.p
  l : Fit b.l
def inB (n lo hi : Int) (has : Bool) : Bool := if has then decide (lo ≤ n) && decide (n ≤ hi) else decide (n = 0)
def rightID (s i g : Int) : Bool := ((((decide (s ≥ 0) && decide (s ≤ 15)) && decide (i ≥ 0)) && decide (i ≤ 15)) && decide (g ≥ 0)) && decide (g < 1048576)
def right (b : Bn) : Bool :=
  (!(decide (b.m < 0) || decide (b.m > 31)) && (inB b.x (-1073741824) 1073741824 (bitB b.m 0) && inB b.y (-1073741824) 1073741824 (bitB b.m 0)) && (inB b.vx (-1073741824) 1073741824 (bitB b.m 1) && inB b.vy (-1073741824) 1073741824 (bitB b.m 1))) &&
    ((inB b.h 1 1048576 (bitB b.m 2) && inB b.p 0 1024 (bitB b.m 3)) && inB b.l 1 1048576 (bitB b.m 4))
def may (b : Bn) : Bool := (rightID b.s b.i b.g && right b) && bitB b.m 0
def takesB (m : Int) : Bool := (decide (m ≥ 1) && decide (m ≤ 31)) && !bitB m 0
def errB (b : Bool) : Int := if b then 0 else 1
/-- a command: its kind, name, entity, mask -/
structure Cn where
  k : Int
  s : Int
  i : Int
  g : Int
  b : Bn
  m : Int
abbrev Cn.val (c : Cn) : Value := .agg #[.int .i64 c.k, .int .i64 c.s, .int .i64 c.i, .int .i64 c.g, .int .i64 c.b.s, .int .i64 c.b.i, .int .i64 c.b.g, .int .i64 c.b.m, .int .i64 c.b.x, .int .i64 c.b.y, .int .i64 c.b.vx, .int .i64 c.b.vy, .int .i64 c.b.h, .int .i64 c.b.p, .int .i64 c.b.l, .int .i64 c.m]
def noID (s i g : Int) : Bool := (s == 0) && ((i == 0) && (g == 0))
def empty (b : Bn) : Bool := noID b.s b.i b.g && ((b.m == 0) && ((b.x == 0) && ((b.y == 0) && ((b.vx == 0) && ((b.vy == 0) && ((b.h == 0) && ((b.p == 0) && (b.l == 0))))))))
/-- the same entity? -/
def sameB (a b : Bn) : Bool := ((a.s == b.s) && ((a.i == b.i) && (a.g == b.g))) && ((a.m == b.m) && ((a.x == b.x) && ((a.y == b.y) && ((a.vx == b.vx) && ((a.vy == b.vy) && ((a.h == b.h) && ((a.p == b.p) && (a.l == b.l))))))))
def mayCmd (c : Cn) : Bool :=
  if c.k = 1 then (noID c.s c.i c.g && decide (c.m = 0)) && may c.b else
  if c.k = 2 then (rightID c.s c.i c.g && decide (c.m = 0)) && empty c.b else
  if c.k = 3 then (((rightID c.s c.i c.g && decide (c.m = 0)) && noID c.b.s c.b.i c.b.g) && takesB c.b.m) && right c.b else
  if c.k = 4 then (rightID c.s c.i c.g && empty c.b) && takesB c.m else false
def withB (b c : Bn) : Bn :=
  { b with
    x := if bitB c.m 0 then c.x else b.x
    y := if bitB c.m 0 then c.y else b.y
    vx := if bitB c.m 1 then c.vx else b.vx
    vy := if bitB c.m 1 then c.vy else b.vy
    h := if bitB c.m 2 then c.h else b.h
    p := if bitB c.m 3 then c.p else b.p
    l := if bitB c.m 4 then c.l else b.l
    m := bits .or .i64 b.m c.m }
def withoutB (b : Bn) (k : Int) : Bn :=
  { b with
    x := if bitB k 0 then 0 else b.x
    y := if bitB k 0 then 0 else b.y
    vx := if bitB k 1 then 0 else b.vx
    vy := if bitB k 1 then 0 else b.vy
    h := if bitB k 2 then 0 else b.h
    p := if bitB k 3 then 0 else b.p
    l := if bitB k 4 then 0 else b.l
    m := bits .andNot .i64 b.m k }
def before (a b : Int × Int × Int) : Bool := if a.1 ≠ b.1 then decide (a.1 < b.1) else if a.2.1 ≠ b.2.1 then decide (a.2.1 < b.2.1) else decide (a.2.2 < b.2.2)
abbrev Bn.id (b : Bn) : Int × Int × Int := (b.s, b.i, b.g)
end Pz
end Go.Proofs.YtljaahemlcaffaaGreat
namespace Go.Proofs.YtljaahemlcaffaaGreat
open Go Go.RowKit

namespace Qt
variable {P : Program} {md : Region.Mode}

/-- each operation of the head waits for earlier ones alone, and looks at a guard among the head's -/
def backB (md : Region.Mode) (hd : List Oper) : Bool :=
  (List.range hd.length).all fun j => match hd[j]? with
    | some o => (o.after.all fun e => !Region.binds md e || decide (e.on < j)) && (match o.guard with | some g => decide (g.1 < hd.length) | none => true)
    | none => true
theorem backB_spec {hd : List Oper} (h : backB md hd = true) {j : Nat} {o : Oper} (hj : hd[j]? = some o) :
    (∀ e ∈ o.after, Region.binds md e = true → e.on < j) ∧ ∀ g b, o.guard = some (g, b) → g < hd.length := by
  have hjl : j < hd.length := (List.getElem?_eq_some_iff.1 hj).1
  have h1 := List.all_eq_true.1 h j (List.mem_range.2 hjl)
  simp only [hj, Bool.and_eq_true, Array.all_eq_true_iff_forall_mem, Bool.or_eq_true, Bool.not_eq_true', decide_eq_true_eq] at h1
  refine ⟨fun e he hb => (h1.1 e he).resolve_left (by simp [hb]), fun g b hg => ?_⟩
  have := h1.2
  rw [hg] at this
  simpa using this

/-- what the two lists of marks, the whole region's and its head's, have to do with each other -/
structure Marks (l : List Oper) (n : Nat) (m m' : Array Bool) : Prop where
  inv : HeadInv md l.toArray n m
  size : m'.size = n
  same : ∀ j, j < n → m[j]? = m'[j]?

section
variable {l : List Oper} {n : Nat} {m m' : Array Bool}
theorem head_at {j : Nat} (hj : j < n) : (l.take n).toArray[j]? = l.toArray[j]? := by simp [hj]
theorem Marks.getD (R : Marks (md := md) l n m m') {j : Nat} (hj : j < n) (d : Bool) : m.getD j d = m'.getD j d := by
  have := R.same j hj
  simp only [Array.getD_eq_getD_getElem?, this]
theorem Marks.ready (R : Marks (md := md) l n m m') (hb : backB md (l.take n) = true) {j : Nat} (hj : j < n) : j ∈ Region.ready md l.toArray m ↔ j ∈ Region.ready md (l.take n).toArray m' := by
  rw [mem_ready, mem_ready, R.getD hj, head_at hj]
  constructor
  · rintro ⟨h0, o, ho, ha⟩
    refine ⟨h0, o, ho, fun e he hbd => ?_⟩
    have hlt := (backB_spec hb (j := j) (o := o) (by simpa [List.getElem?_take, hj] using ho)).1 e he hbd
    rw [← R.getD (by omega)]
    exact ha e he hbd
  · rintro ⟨h0, o, ho, ha⟩
    refine ⟨h0, o, ho, fun e he hbd => ?_⟩
    have hlt := (backB_spec hb (j := j) (o := o) (by simpa [List.getElem?_take, hj] using ho)).1 e he hbd
    rw [R.getD (by omega)]
    exact ha e he hbd
theorem Marks.set (R : Marks (md := md) l n m m') {i : Nat} (hi : i < n) (hr : i ∈ Region.ready md l.toArray m) : Marks (md := md) l n (m.setIfInBounds i true) (m'.setIfInBounds i true) := by
  refine ⟨R.inv.set hr hi, by simp [R.size], fun j hj => ?_⟩
  by_cases hij : i = j
  · subst hij
    have hm : i < m.size := by
      have h1 := (mem_ready.1 hr).2
      obtain ⟨o, ho, _⟩ := h1
      rw [R.inv.size]
      exact (Array.getElem?_eq_some_iff.1 ho).1
    simp [R.size, hm, hi]
  · simp [Array.getElem?_setIfInBounds_ne hij, R.same j hj]
/-- where none of the head is ready, all of it is done -/
theorem done_of_none (hs : m'.size = n) (hn : n ≤ l.length) (hb : backB md (l.take n) = true) (h0 : Region.ready md (l.take n).toArray m' = []) : ∀ j, j < n → m'.getD j true = true := by
  intro j
  induction j using Nat.strongRecOn with
  | _ j ih =>
    intro hj
    by_cases hc : m'.getD j true = true
    · exact hc
    · exfalso
      have hlen : j < l.length := by omega
      have hmem : j ∈ Region.ready md (l.take n).toArray m' := by
        rw [mem_ready]
        refine ⟨by simpa using hc, l[j], by simp [hj, hlen], fun e he hbd => ?_⟩
        have hlt := (backB_spec hb (j := j) (o := l[j]) (by simp [hj, hlen])).1 e he hbd
        have h1 := ih e.on hlt (by omega)
        rw [Array.getD_eq_getD_getElem?, Array.getElem?_eq_getElem (by omega)] at h1 ⊢
        simpa using h1
      rw [h0] at hmem
      cases hmem
theorem yielded_head {a : Act} {g : Nat} (hg : g < n) : yielded (l.take n).toArray a.tmps g = yielded l.toArray a.tmps g := by
  unfold yielded
  rw [head_at hg]
theorem wanted_head (hb : backB md (l.take n) = true) {j : Nat} {o : Oper} (hn : n ≤ l.length) (hj : (l.take n)[j]? = some o) (a : Act) : Region.wanted o (yielded (l.take n).toArray a.tmps) = Region.wanted o (yielded l.toArray a.tmps) := by
  have h := (backB_spec hb hj).2
  unfold Region.wanted
  cases hg : o.guard with
  | none => rfl
  | some gw =>
    obtain ⟨g, b⟩ := gw
    have hlt := h g b hg
    have : g < n := by simp at hlt; omega
    simp only [yielded_head this]
theorem op_head (hb : backB md (l.take n) = true) (hn : n ≤ l.length) {j : Nat} (hj : j < n) {Q : Exit → Act → World → Prop} {K : Act → World → Prop} {a : Act} {w : World}
    (h : wpOp P (l.take n).toArray Q j K a w) : wpOp P l.toArray Q j K a w := by
  unfold wpOp at *
  rw [head_at hj] at h
  have hlen : j < l.length := by omega
  rw [show l.toArray[j]? = some l[j] by simp [hlen]] at h ⊢
  simp only at h ⊢
  rwa [wanted_head hb hn (j := j) (by simp [hj, hlen])] at h

variable {C : World → Prop} {Q : Act → Prop} {Q' : Exit → Act → World → Prop}
theorem any_of_head (hb : backB md (l.take n) = true) (hn : n < l.length) (hs : Region.sinkB md l.toArray n = true) (hc : Region.chainB md l.toArray n = true) {g : Nat}
    (hQ : ∀ (f : Nat) (m : Array Bool) (a : Act) (w : World), HeadInv md l.toArray n m → (∀ j, j < n → m.getD j true = true) → C w → Q a → wpAny P md l.toArray Q' (f + g) m a w) :
    ∀ (f : Nat) (m m' : Array Bool) (a : Act) (w : World), C w → Marks (md := md) l n m m' → wpAnyQ P md (l.take n).toArray C Q f m' a → wpAny P md l.toArray Q' (f + g) m a w
  | 0, m, m', a, w, hw, R, h => hQ 0 m a w R.inv (fun j hj => by rw [R.getD hj]; exact done_of_none R.size (by omega) hb h.1 j hj) hw h.2
  | f + 1, m, m', a, w, hw, R, h => by
    by_cases hd : Region.ready md (l.take n).toArray m' = []
    · exact hQ (f + 1) m a w R.inv (fun j hj => by rw [R.getD hj]; exact done_of_none R.size (by omega) hb hd j hj) hw (h.1 hd)
    · obtain ⟨i0, hi0⟩ := List.exists_mem_of_ne_nil _ hd
      have hi0n : i0 < n := by
        obtain ⟨_, o, ho, _⟩ := mem_ready.1 hi0
        have := (Array.getElem?_eq_some_iff.1 ho).1
        simp at this; omega
      have hir : i0 ∈ Region.ready md l.toArray m := (R.ready hb hi0n).2 hi0
      rw [show f + 1 + g = (f + g) + 1 by omega]
      refine ⟨fun h0 => (by rw [h0] at hir; cases hir), fun i hi => ?_⟩
      have hin : i < n := by
        rcases Nat.lt_or_ge i n with h' | h'
        · exact h'
        · exact absurd hi (tail_waits hs hc (by simpa using hn) R.inv _ i0 rfl hi0n (mem_ready.1 hir).1 i h')
      exact op_head hb (by omega) hin (wpOp_of_qOp hw (fun a' w' hw' h' => any_of_head hb hn hs hc hQ f _ _ a' w' hw' (R.set hin hi) h') (h.2 i ((R.ready hb hin).1 hi)))

/-- a forced row of operations, with fuel to spare -/
theorem any_of_seq : ∀ (r : List Oper) (k f : Nat) (m : Array Bool) (a : Act) (w : World), (∀ j, r[j]? = l.toArray[k + j]?) →
    Region.seqB md l.toArray r.length k m = true → wpList P l.toArray Q' r a w → wpAny P md l.toArray Q' (f + r.length) m a w
  | [], k, 0, m, a, w, _, hB, h => ⟨by simpa [Region.seqB] using hB, h⟩
  | [], k, f + 1, m, a, w, _, hB, h => by
    have h0 : Region.ready md l.toArray m = [] := by simpa [Region.seqB] using hB
    exact ⟨fun _ => h, fun i hi => (by rw [h0] at hi; cases hi)⟩
  | o :: r, k, f, m, a, w, hl, hB, h => by
    have h0 : l.toArray[k]? = some o := by simpa using (hl 0).symm
    simp only [List.length_cons, Region.seqB, Bool.and_eq_true, decide_eq_true_eq] at hB
    rw [show f + (o :: r).length = (f + r.length) + 1 by simp; omega]
    refine ⟨fun h1 => (by rw [hB.1] at h1; cases h1), fun i hi => ?_⟩
    rw [hB.1] at hi
    have hik : i = k := by simpa using hi
    subst hik
    have hw : wpOp P l.toArray Q' i (wpList P l.toArray Q' r) a w := by unfold wpOp; simp only [h0]; exact h
    exact wpOp_mono (fun a' w' h' => any_of_seq r (i + 1) f _ a' w' (fun j => by have := hl (j + 1); simpa [Nat.add_assoc, Nat.add_comm 1 j] using this) hB.2 h') hw

/-- all of the head is marked, none of what is behind it -/
def full (k n : Nat) : Array Bool := Array.replicate n true ++ Array.replicate (k - n) false
theorem eq_full (hn : n < l.length) (inv : HeadInv md l.toArray n m) (h : ∀ j, j < n → m.getD j true = true) : m = full l.length n := by
  have hsz : m.size = l.length := by simpa using inv.size
  apply Array.ext
  · simp [full, hsz]; omega
  · intro i h1 h2
    by_cases hi : i < n
    · have := h i hi
      rw [Array.getD_eq_getD_getElem?, Array.getElem?_eq_getElem h1] at this
      have h3 : m[i] = true := by simpa using this
      rw [h3]
      simp [full, hi]
    · have := inv.tail i (by omega) (by simpa [hsz] using h1)
      rw [Array.getD_eq_getD_getElem?, Array.getElem?_eq_getElem h1] at this
      have h3 : m[i] = false := by simpa using this
      rw [h3]
      simp [full, Array.getElem_append, hi]

def tailB (md : Region.Mode) (l : List Oper) (n : Nat) : Bool :=
  decide (n < l.length) && backB md (l.take n) && Region.lexB md (l.take n).toArray && Region.sinkB md l.toArray n && Region.chainB md l.toArray n && Region.seqB md l.toArray (l.length - n) n (full l.length n)

/-- **The head in any order, the tail in its own**: one walk of the text's order. -/
theorem wp_region_tail {id : Nat} {Q : Exit → Act → World → Prop} {a : Act} {w : World} (n : Nat) (hm : P.follows .mixedOrders = true) (hB : tailB .any l n = true) (hC : C w.drew)
    (h : wpQuiet P (l.take n).toArray C (fun a' => ∀ w', C w' → wpList P l.toArray Q (l.drop n) a' w') (l.take n) a) : (Code.region id l.toArray true).wp P Q a w := by
  simp only [tailB, Bool.and_eq_true, decide_eq_true_eq] at hB
  obtain ⟨⟨⟨⟨⟨hn, hb⟩, hx⟩, hs⟩, hc⟩, hq⟩ := hB
  simp only [Region.lexB, Bool.and_eq_true] at hx
  have hlen : (l.take n).length = n := by simp; omega
  refine wp_region_any hm ?_
  have H := wpAnyQ_lex (C := C) (md := .any) hx.1 (l.take n) 0 (Array.replicate (l.take n).toArray.size false) a (by simp) (by simpa using hx.2) h
  have key := any_of_head (P := P) (md := .any) (l := l) (n := n) (C := C) (Q := fun a' => ∀ w', C w' → wpList P l.toArray Q (l.drop n) a' w') (Q' := Q) hb hn hs hc (g := l.length - n)
    (fun f m a w inv hd hw hQ => by
      have e := eq_full hn inv hd
      have := any_of_seq (P := P) (md := .any) (l := l) (Q' := Q) (l.drop n) n f m a w (fun j => by simp [List.getElem?_drop]) (by rw [e]; simpa using hq) (hQ w hw)
      simpa using this) (l.take n).length (Array.replicate l.toArray.size false) (Array.replicate (l.take n).toArray.size false) a w.drew hC
    ⟨⟨by simp, fun j oj _ hl => (by rw [getD_replicate_false] at hl; cases hl), fun t _ ht => getD_in (by simpa using ht) (getD_replicate_false _ _)⟩, by simp; omega, fun j hj => by rw [Array.getElem?_replicate, Array.getElem?_replicate, if_pos (by rw [List.size_toArray]; omega), if_pos (by rw [List.size_toArray]; omega)]⟩ H
  rw [hlen, show n + (l.length - n) = l.toArray.size by simp; omega] at key
  exact key
end
end Qt
end Go.Proofs.YtljaahemlcaffaaGreat
namespace Go.Proofs.YtljaahemlcaffaaGreat
open Go Go.RowKit

/-- how a world may go on -/
structure Rl where
  r : World → World → Prop
  refl : ∀ w, r w w
  trans : ∀ {a b c}, r a b → r b c → r a c
  drew : ∀ w, r w w.drew
/-- of what was there nothing has turned -/
def grows : Rl where
  r w w' := Below w.heap.size w w'
  refl _ := Below.refl _ _
  trans h k := h.trans (k.mono h.size)
  drew w := (Below.refl _ w).drew
/-- a world that one has gone on to -/
structure Lat (ρ : Rl) (w : World) where
  W : World
  h : ρ.r w W
instance (ρ : Rl) (w : World) : Inhabited (Lat ρ w) := ⟨⟨w, ρ.refl w⟩⟩

namespace Og
/-- what is known of a value that is not told -/
abbrev Ph := Value → World → Prop
variable {P : Program} {ρ : Rl}

/-- what an operation has yielded is such -/
def one (P : Program) (ρ : Rl) (W : World) (φ : Ph) : Result Next → Prop
  | .ok (.value u) W' => ρ.r W W' ∧ φ u W'
  | .ok .skip W' => ρ.r W W' ∧ φ undef W'
  | .ok (.enter f args) W' => Calls P f args W' fun e W'' => ∃ v, e = .returned v ∧ ρ.r W W'' ∧ φ v W''
  | _ => False
/-- the slots that are not told, taken in -/
def opened : List (Nat × Ph) → World → Act → (Act → Prop) → Prop
  | [], _, a, K => K a
  | u :: us, W, a, K => ∀ v, u.2 v W → opened us W (a.put (some u.1) v) K
/-- those of them that the operation looks at -/
def seen (ops : Array Oper) (o : Oper) (U : List (Nat × Ph)) : List (Nat × Ph) := U.filter fun u => (o.looksAt ops).contains u.1
/-- what lasts -/
def Lasts (ρ : Rl) (φ : Ph) : Prop := ∀ v W W', φ v W → ρ.r W W' → φ v W'
def NoBool (φ : Ph) : Prop := ∀ b W, ¬ φ (.bool b) W

/-- the walk of the head, in the text's order -/
def walk (P : Program) (ρ : Rl) (ops : Array Oper) (w : World) (Q : List (Nat × Ph) → Act → Prop) : List Oper → List (Nat × Ph) → Act → Prop
  | [], U, a => Q U a
  | o :: rest, U, a =>
    if Region.wanted o (yielded ops a.tmps) then
      (∃ v, (∀ p : Lat ρ w, opened (seen ops o U) p.W a fun a' => one P ρ p.W (fun u _ => u = v) ((execOp a'.eval o).run P p.W)) ∧ walk P ρ ops w Q rest U (a.put o.dst v)) ∨
      (∃ (d : Nat) (φ : Ph), o.dst = some d ∧ d < a.tmps.size ∧ Lasts ρ φ ∧ NoBool φ ∧ (∀ p : Lat ρ w, opened (seen ops o U) p.W a fun a' => one P ρ p.W φ ((execOp a'.eval o).run P p.W)) ∧
        walk P ρ ops w Q rest ((d, φ) :: U) (a.put (some d) undef))
    else walk P ρ ops w Q rest U (a.put o.dst undef)

section frames
variable {a b : Act} {d s : Nat} {v : Value}
theorem put_size (a : Act) (x : Option Tmp) (v : Value) : (a.put x v).tmps.size = a.tmps.size := by cases x <;> simp [Act.put]
theorem put_defers (a : Act) (x : Option Tmp) (v : Value) : (a.put x v).defers = a.defers := by cases x <;> rfl
theorem eval_ne (h : d ≠ s) : (a.put (some d) v).eval (.tmp s) = a.eval (.tmp s) := by
  simp [Act.eval, Act.put, Array.getElem?_setIfInBounds_ne h]
theorem eval_eq (h : d < a.tmps.size) : (a.put (some d) v).eval (.tmp d) = v := by
  simp [Act.eval, Act.put, h]
theorem eval_off (h : ¬ d < a.tmps.size) (b : Act) (hs : b.tmps.size = a.tmps.size) : b.eval (.tmp d) = undef := by
  simp [Act.eval, Array.getElem?_eq_none (xs := b.tmps) (i := d) (by omega)]
/-- two frames that agree on the slots of a list -/
def Agree (L : List Nat) (a b : Act) : Prop := ∀ s ∈ L, a.eval (.tmp s) = b.eval (.tmp s)
theorem Agree.put {L : List Nat} (h : Agree L a b) (hs : a.tmps.size = b.tmps.size) (d : Nat) (v : Value) : Agree L (a.put (some d) v) (b.put (some d) v) := fun s hsL => by
  by_cases e : d = s
  · subst e
    by_cases hd : d < a.tmps.size
    · rw [eval_eq hd, eval_eq (by omega)]
    · rw [eval_off hd _ (put_size ..), eval_off (a := b) (by omega) _ (put_size ..)]
  · rw [eval_ne e, eval_ne e]; exact h s hsL
theorem Agree.put_left {L : List Nat} (h : Agree L a b) (hd : d ∉ L) : Agree L (a.put (some d) v) b := fun s hs => by
  rw [eval_ne (fun e => hd (by rw [e]; exact hs))]; exact h s hs
end frames

theorem exec_agree {ops : Array Oper} {o : Oper} (hs : ∀ cs b, o.op ≠ .select cs b) {a b : Act} (h : Agree (o.looksAt ops) a b) : execOp a.eval o = execOp b.eval o :=
  execOp_congr o hs fun x hx => by
    cases x with
    | tmp t => exact h t (List.mem_append_left _ (List.mem_filterMap.2 ⟨.tmp t, by simpa using hx, rfl⟩))
    | _ => rfl

theorem opened_agree {L : List Nat} {K K' : Act → Prop} (hK : ∀ a b, a.tmps.size = b.tmps.size → Agree L a b → K a → K' b) : ∀ (us : List (Nat × Ph)) {W : World} {a b : Act}, a.tmps.size = b.tmps.size → Agree L a b → opened us W a K → opened us W b K'
  | [], _, _, _, hs, h, k => hK _ _ hs h k
  | u :: us, W, a, b, hs, h, k => fun v hv => opened_agree hK us (by rw [put_size, put_size]; exact hs) (h.put hs _ _) (k v hv)

/-- a's own values put into A -/
def fill (a : Act) : List (Nat × Ph) → Act → Act
  | [], A => A
  | u :: us, A => fill a us (A.put (some u.1) (a.eval (.tmp u.1)))
theorem opened_fill (a : Act) {K : Act → Prop} : ∀ (us : List (Nat × Ph)) {W : World} {A : Act}, (∀ u ∈ us, u.2 (a.eval (.tmp u.1)) W) → opened us W A K → K (fill a us A)
  | [], _, _, _, k => k
  | u :: us, _, _, h, k => opened_fill a us (fun x hx => h x (List.mem_cons_of_mem _ hx)) (k _ (h u (List.mem_cons_self ..)))
theorem fill_size (a : Act) : ∀ (us : List (Nat × Ph)) (A : Act), (fill a us A).tmps.size = A.tmps.size
  | [], _ => rfl
  | u :: us, A => by rw [fill, fill_size a us, put_size]
theorem fill_defers (a : Act) : ∀ (us : List (Nat × Ph)) (A : Act), (fill a us A).defers = A.defers
  | [], _ => rfl
  | u :: us, A => by rw [fill, fill_defers a us, put_defers]
/-- a slot that agrees stays so -/
theorem fill_keep (a : Act) {s : Nat} : ∀ (us : List (Nat × Ph)) {A : Act}, A.tmps.size = a.tmps.size → A.eval (.tmp s) = a.eval (.tmp s) → (fill a us A).eval (.tmp s) = a.eval (.tmp s)
  | [], _, _, h => h
  | u :: us, A, hs, h => fill_keep a us (by rw [put_size]; exact hs) (by
    by_cases e : u.1 = s
    · subst e
      by_cases hd : u.1 < A.tmps.size
      · rw [eval_eq hd]
      · rw [eval_off hd _ (put_size ..), eval_off hd a hs.symm]
    · rw [eval_ne e]; exact h)
theorem fill_at (a : Act) {s : Nat} : ∀ (us : List (Nat × Ph)) {A : Act}, A.tmps.size = a.tmps.size → s ∈ us.map (·.1) → (fill a us A).eval (.tmp s) = a.eval (.tmp s)
  | [], _, _, h => by cases h
  | u :: us, A, hs, h => by
    by_cases e : u.1 = s
    · refine fill_keep a us (by rw [put_size]; exact hs) ?_
      subst e
      by_cases hd : u.1 < A.tmps.size
      · rw [eval_eq hd]
      · rw [eval_off hd _ (put_size ..), eval_off hd a hs.symm]
    · refine fill_at a us (by rw [put_size]; exact hs) ?_
      rcases List.mem_cons.1 h with h | h
      · exact absurd h.symm e
      · exact h

/-! ### what the walk shows of each operation, said of the frame behind all of them -/
/-- what one operation does -/
def Cert (P : Program) (ρ : Rl) (ops : Array Oper) (w : World) (U : List (Nat × Ph)) (A : Act) (o : Oper) : Prop :=
  (Region.wanted o (yielded ops A.tmps) = false ∧ ∀ d, o.dst = some d → d ∉ U.map (·.1) ∧ A.eval (.tmp d) = undef) ∨
  (Region.wanted o (yielded ops A.tmps) = true ∧ ∃ φ : Ph, Lasts ρ φ ∧
    (∀ d, o.dst = some d → (∃ v, φ = (fun u _ => u = v) ∧ d ∉ U.map (·.1) ∧ (d < A.tmps.size → A.eval (.tmp d) = v)) ∨ ((d, φ) ∈ U ∧ d < A.tmps.size)) ∧
    ∀ p : Lat ρ w, opened (seen ops o U) p.W A fun a' => one P ρ p.W φ ((execOp a'.eval o).run P p.W))

variable {ops : Array Oper} {w : World}
/-- a guard's Bool, off a frame's slots -/
theorem yielded_eval (a : Act) (g : Nat) : yielded ops a.tmps g = match ((ops[g]?).bind (·.dst)) with | some t => (match a.eval (.tmp t) with | .bool b => some b | _ => none) | none => none := by
  unfold yielded
  cases (ops[g]?).bind (·.dst) with
  | none => rfl
  | some t =>
    simp only [Option.bind_some, Act.eval]
    cases h : a.tmps[t]? with
    | none => simp [h, undef]
    | some v =>
      simp only [h, Array.getD_eq_getD_getElem?, Option.getD_some]
      cases v <;> rfl
theorem guard_looked {o : Oper} {g : Nat} {b : Bool} (hg : o.guard = some (g, b)) {t : Nat} (ht : (ops[g]?).bind (·.dst) = some t) : t ∈ o.looksAt ops := by
  unfold Oper.looksAt
  rw [hg]
  exact List.mem_append_right _ (by simp [ht])
theorem wanted_of {o : Oper} {a b : Act} (h : ∀ t ∈ o.looksAt ops, (match a.eval (.tmp t) with | .bool x => some x | _ => none) = (match b.eval (.tmp t) with | .bool x => some x | _ => none)) : Region.wanted o (yielded ops a.tmps) = Region.wanted o (yielded ops b.tmps) := by
  unfold Region.wanted
  cases hg : o.guard with
  | none => rfl
  | some gw =>
    obtain ⟨g, x⟩ := gw
    have : yielded ops a.tmps g = yielded ops b.tmps g := by
      rw [yielded_eval, yielded_eval]
      cases ht : (ops[g]?).bind (·.dst) with
      | none => rfl
      | some t => exact h t (guard_looked hg ht)
    simp only [this]

theorem seen_cons {o : Oper} {d : Nat} {φ : Ph} {U : List (Nat × Ph)} (h : d ∉ o.looksAt ops) : seen ops o ((d, φ) :: U) = seen ops o U := by
  unfold seen
  rw [List.filter_cons_of_neg (by simpa using h)]

/-- a later operation's value turns nothing of it -/
theorem Cert.put {U : List (Nat × Ph)} {A : Act} {o : Oper} (hs : ∀ cs b, o.op ≠ .select cs b) (h : Cert P ρ ops w U A o) {x : Option Tmp} (hx : ∀ d, x = some d → d ∉ o.looksAt ops ∧ o.dst ≠ some d) (v : Value) : Cert P ρ ops w U (A.put x v) o := by
  cases x with
  | none => exact h
  | some d =>
    obtain ⟨h1, h2⟩ := hx d rfl
    have hw : Region.wanted o (yielded ops (A.put (some d) v).tmps) = Region.wanted o (yielded ops A.tmps) := wanted_put o A (some d) v (fun e he => by cases he; exact h1)
    have hev : ∀ e, o.dst = some e → (A.put (some d) v).eval (.tmp e) = A.eval (.tmp e) := fun e he => eval_ne (fun h' => h2 (by rw [h']; exact he))
    rcases h with ⟨a1, a2⟩ | ⟨a1, φ, a2, a3, a4⟩
    · exact .inl ⟨hw.trans a1, fun e he => ⟨(a2 e he).1, (hev e he).trans (a2 e he).2⟩⟩
    · refine .inr ⟨hw.trans a1, φ, a2, fun e he => ?_, fun p => opened_agree (L := o.looksAt ops) (fun a b _ hab k => by rw [← exec_agree hs hab]; exact k) _ (put_size ..).symm ?_ (a4 p)⟩
      · rw [hev e he, put_size]; exact a3 e he
      · intro s hs'
        rw [eval_ne (fun e => h1 (by rw [e]; exact hs'))]
theorem Cert.cons {U : List (Nat × Ph)} {A : Act} {o : Oper} (h : Cert P ρ ops w U A o) {d : Nat} (hd : d ∉ o.looksAt ops) (hd' : o.dst ≠ some d) (φ : Ph) : Cert P ρ ops w ((d, φ) :: U) A o := by
  rcases h with ⟨a1, a2⟩ | ⟨a1, ψ, a2, a3, a4⟩
  · refine .inl ⟨a1, fun e he => ⟨?_, (a2 e he).2⟩⟩
    simp only [List.map_cons, List.mem_cons, not_or]
    exact ⟨fun h' => hd' (h' ▸ he), (a2 e he).1⟩
  · refine .inr ⟨a1, ψ, a2, fun e he => ?_, fun p => by rw [seen_cons hd]; exact a4 p⟩
    rcases a3 e he with ⟨v, b1, b2, b3⟩ | ⟨b1, b2⟩
    · refine .inl ⟨v, b1, ?_, b3⟩
      simp only [List.map_cons, List.mem_cons, not_or]
      exact ⟨fun h' => hd' (h' ▸ he), b2⟩
    · exact .inr ⟨List.mem_cons_of_mem _ b1, b2⟩

/-- what the walk needs of the text: none looks at a slot that it, or a later one, writes; none writes another's slot -/
def apartB (ops : Array Oper) : List Oper → Bool
  | [] => true
  | o :: rest => (match o.dst with | some d => !(o.looksAt ops).contains d | none => true) && (rest.all fun x => match x.dst with | some d => !(o.looksAt ops).contains d && o.dst != some d | none => true) && apartB ops rest

/-- what is known behind the walk -/
structure Done (P : Program) (ρ : Rl) (ops : Array Oper) (w : World) (a0 : Act) (hd : List Oper) (U : List (Nat × Ph)) (A : Act) : Prop where
  size : A.tmps.size = a0.tmps.size
  defers : A.defers = a0.defers
  other : ∀ s, (∀ o ∈ hd, o.dst ≠ some s) → A.eval (.tmp s) = a0.eval (.tmp s)
  cert : ∀ o ∈ hd, Cert P ρ ops w U A o
  noBool : ∀ u ∈ U, NoBool u.2
  hidden : ∀ u ∈ U, A.eval (.tmp u.1) = undef
  slots : ∀ u ∈ U, ∃ o ∈ hd, o.dst = some u.1
  nodup : (U.map (·.1)).Nodup

theorem done_of_walk (hsel : ∀ o cs b, o ∈ ops.toList → o.op ≠ .select cs b) {Q : List (Nat × Ph) → Act → Prop} : ∀ (rest : List Oper) (pre : List Oper) (a0 : Act) (U : List (Nat × Ph)) (a : Act),
    (∀ o ∈ pre ++ rest, o ∈ ops.toList) → apartB ops (pre ++ rest) = true → Done P ρ ops w a0 pre U a → walk P ρ ops w Q rest U a → ∃ U' A, Done P ρ ops w a0 (pre ++ rest) U' A ∧ Q U' A
  | [], pre, a0, U, a, _, _, D, h => ⟨U, a, by simpa using D, h⟩
  | o :: rest, pre, a0, U, a, hm, hB, D, h => by
    have key : ∀ (l : List Oper), apartB ops (l ++ o :: rest) = true → (∀ x ∈ l, ∀ d, o.dst = some d → d ∉ x.looksAt ops ∧ x.dst ≠ some d) ∧ ∀ d, o.dst = some d → d ∉ o.looksAt ops := by
      intro l
      induction l with
      | nil =>
        intro hB
        refine ⟨fun x hx => (by cases hx), fun d hd => ?_⟩
        simp only [List.nil_append, apartB, hd, Bool.and_eq_true] at hB
        simpa using hB.1.1
      | cons y l ih =>
        intro hB
        simp only [List.cons_append, apartB, Bool.and_eq_true] at hB
        obtain ⟨h1, h2⟩ := ih hB.2
        refine ⟨fun x hx d hd => ?_, h2⟩
        rcases List.mem_cons.1 hx with rfl | hx
        · have := List.all_eq_true.1 hB.1.2 o (by simp)
          simp only [hd, Bool.and_eq_true] at this
          exact ⟨by simpa using this.1, by simpa using this.2⟩
        · exact h1 x hx d hd
    obtain ⟨k1, k2⟩ := key pre hB
    have ho : o ∈ ops.toList := hm o (by simp)
    have e1 : pre ++ o :: rest = (pre ++ [o]) ++ rest := by simp
    have nin : ∀ d, o.dst = some d → d ∉ U.map (·.1) := fun d hd hmem => by
      obtain ⟨u, hu, rfl⟩ := List.mem_map.1 hmem
      obtain ⟨x, hx, hxd⟩ := D.slots u hu
      exact (k1 x hx _ hd).2 hxd
    have other : ∀ (v : Value) s, (∀ x ∈ pre ++ [o], x.dst ≠ some s) → (a.put o.dst v).eval (.tmp s) = a0.eval (.tmp s) := fun v s hs => by
      have h0 := D.other s (fun x hx => hs x (by simp [hx]))
      cases hd : o.dst with
      | none => exact h0
      | some d => rw [eval_ne (fun e => hs o (by simp) (by rw [← e]; exact hd))]; exact h0
    have hid : ∀ (v : Value), ∀ u ∈ U, (a.put o.dst v).eval (.tmp u.1) = undef := fun v u hu => by
      cases hd : o.dst with
      | none => exact D.hidden u hu
      | some d => rw [eval_ne (fun e => nin d hd (by rw [e]; exact List.mem_map.2 ⟨u, hu, rfl⟩))]; exact D.hidden u hu
    have old : ∀ (v : Value), ∀ x ∈ pre, Cert P ρ ops w U (a.put o.dst v) x := fun v x hx => (D.cert x hx).put (fun cs b => hsel x cs b (hm x (by simp [hx]))) (fun d hd => k1 x hx d hd) v
    have agr : ∀ (v : Value), Agree (o.looksAt ops) a (a.put o.dst v) := fun v s hs => by
      cases hd : o.dst with
      | none => rfl
      | some d => rw [eval_ne (fun e => k2 d hd (by rw [e]; exact hs))]
    have wnt : ∀ (v : Value), Region.wanted o (yielded ops (a.put o.dst v).tmps) = Region.wanted o (yielded ops a.tmps) := fun v => wanted_put o a o.dst v (fun d hd => k2 d hd)
    have mk : ∀ (v : Value), Cert P ρ ops w U (a.put o.dst v) o → Done P ρ ops w a0 (pre ++ [o]) U (a.put o.dst v) := fun v hc =>
      { size := (put_size ..).trans D.size, defers := (put_defers ..).trans D.defers, other := other v,
        cert := fun x hx => (List.mem_append.1 hx).elim (old v x) (fun h => (List.mem_singleton.1 h) ▸ hc),
        noBool := D.noBool, hidden := hid v, slots := fun u hu => let ⟨x, hx, hxd⟩ := D.slots u hu; ⟨x, by simp [hx], hxd⟩, nodup := D.nodup }
    unfold walk at h
    split at h
    · rename_i hw
      rcases h with ⟨v, hrun, hrest⟩ | ⟨d, φ, hd, hlt, hlast, hnb, hrun, hrest⟩
      · rw [e1]
        refine done_of_walk hsel rest (pre ++ [o]) a0 U _ (by rw [← e1]; exact hm) (by rw [← e1]; exact hB) (mk v (.inr ⟨(wnt v).trans hw, fun u _ => u = v, fun _ _ _ h _ => h, fun d hd => .inl ⟨v, rfl, nin d hd, fun hlt => ?_⟩, fun p => ?_⟩)) hrest
        · rw [hd, eval_eq (by rw [put_size] at hlt; exact hlt)]
        · exact opened_agree (L := o.looksAt ops) (fun a b _ hab k => by rw [← exec_agree (fun cs b => hsel o cs b ho) hab]; exact k) _ (put_size ..).symm (agr v) (hrun p)
      · rw [e1]
        have hnd := nin d hd
        have step : Done P ρ ops w a0 (pre ++ [o]) ((d, φ) :: U) (a.put (some d) undef) := by
          have hx : a.put (some d) undef = a.put o.dst undef := by rw [hd]
          refine { size := (put_size ..).trans D.size, defers := (put_defers ..).trans D.defers, other := by rw [hx]; exact other undef, cert := fun x hx' => ?_, noBool := fun u hu => ?_, hidden := fun u hu => ?_, slots := fun u hu => ?_, nodup := ?_ }
          · rcases List.mem_append.1 hx' with h | h
            · have := old undef x h
              rw [← hx] at this
              exact this.cons (k1 x h d hd).1 (k1 x h d hd).2 φ
            · rw [List.mem_singleton.1 h]
              refine .inr ⟨by rw [hx]; exact (wnt undef).trans hw, φ, hlast, fun e he => .inr ⟨?_, ?_⟩, fun p => ?_⟩
              · rw [hd] at he; cases he; exact List.mem_cons_self ..
              · rw [hd] at he; cases he; rw [put_size]; exact hlt
              · rw [seen_cons (k2 d hd), hx]
                exact opened_agree (L := o.looksAt ops) (fun a b _ hab k => by rw [← exec_agree (fun cs b => hsel o cs b ho) hab]; exact k) _ (put_size ..).symm (agr undef) (hrun p)
          · rcases List.mem_cons.1 hu with rfl | hu
            · exact hnb
            · exact D.noBool u hu
          · rcases List.mem_cons.1 hu with rfl | hu
            · exact eval_eq hlt
            · rw [hx]; exact hid undef u hu
          · rcases List.mem_cons.1 hu with rfl | hu
            · exact ⟨o, by simp, hd⟩
            · let ⟨x, hx, hxd⟩ := D.slots u hu
              exact ⟨x, by simp [hx], hxd⟩
          · simp only [List.map_cons, List.nodup_cons]
            exact ⟨hnd, D.nodup⟩
        exact done_of_walk hsel rest (pre ++ [o]) a0 _ _ (by rw [← e1]; exact hm) (by rw [← e1]; exact hB) step hrest
    · rename_i hw
      rw [e1]
      refine done_of_walk hsel rest (pre ++ [o]) a0 U _ (by rw [← e1]; exact hm) (by rw [← e1]; exact hB) (mk undef (.inl ⟨(wnt undef).trans (by simpa using hw), fun d hd => ⟨nin d hd, ?_⟩⟩)) h
      rw [hd]
      by_cases hlt : d < a.tmps.size
      · exact eval_eq hlt
      · exact eval_off hlt _ (put_size ..)

/-! ### every order -/
variable {md : Region.Mode} {l : List Oper} {n : Nat}
/-- what an operation looks at it waits for -/
def edgeB (md : Region.Mode) (ops : Array Oper) (hd : List Oper) : Bool :=
  hd.all fun o => (o.looksAt ops).all fun s => (List.range hd.length).all fun k => match hd[k]? with
    | some x => x.dst != some s || o.after.any fun e => Region.binds md e && e.on == k
    | none => true
theorem edgeB_spec {hd : List Oper} (h : edgeB md ops hd = true) {o : Oper} (ho : o ∈ hd) {s k : Nat} (hs : s ∈ o.looksAt ops) {x : Oper} (hk : hd[k]? = some x) (hx : x.dst = some s) : ∃ e ∈ o.after, Region.binds md e = true ∧ e.on = k := by
  have h1 := List.all_eq_true.1 (List.all_eq_true.1 (List.all_eq_true.1 h o ho) s hs) k (List.mem_range.2 (List.getElem?_eq_some_iff.1 hk).1)
  simp only [hk, hx] at h1
  simp only [bne_self_eq_false, Bool.false_or] at h1
  obtain ⟨e, he, h2⟩ := Array.any_eq_true'.1 h1
  simp only [Bool.and_eq_true, beq_iff_eq] at h2
  exact ⟨e, he, h2.1, h2.2⟩

/-- what holds on the way, whatever has been done -/
structure Inv (ρ : Rl) (w : World) (l : List Oper) (n : Nat) (U : List (Nat × Ph)) (A : Act) (m : Array Bool) (a : Act) (W : World) : Prop where
  rel : ρ.r w W
  size : a.tmps.size = A.tmps.size
  defers : a.defers = A.defers
  other : ∀ s, (∀ o ∈ l.take n, o.dst ≠ some s) → a.eval (.tmp s) = A.eval (.tmp s)
  told : ∀ j o d, j < n → l[j]? = some o → m.getD j true = true → o.dst = some d → d ∉ U.map (·.1) → a.eval (.tmp d) = A.eval (.tmp d)
  such : ∀ j o d φ, j < n → l[j]? = some o → m.getD j true = true → o.dst = some d → (d, φ) ∈ U → φ (a.eval (.tmp d)) W

theorem once {U : List (Nat × Ph)} (h : (U.map (·.1)).Nodup) {d : Nat} {φ ψ : Ph} (h1 : (d, φ) ∈ U) (h2 : (d, ψ) ∈ U) : φ = ψ := by
  induction U with
  | nil => cases h1
  | cons u U ih =>
    simp only [List.map_cons, List.nodup_cons] at h
    rcases List.mem_cons.1 h1 with e1 | e1
    · rcases List.mem_cons.1 h2 with e2 | e2
      · rw [← e1] at e2; injection e2 with _ e3; exact e3.symm
      · exact absurd (List.mem_map.2 ⟨_, e2, by rw [← e1]⟩) h.1
    · rcases List.mem_cons.1 h2 with e2 | e2
      · exact absurd (List.mem_map.2 ⟨_, e1, by rw [← e2]⟩) h.1
      · exact ih h.2 e1 e2

theorem apart_at {ops : Array Oper} : ∀ {hd : List Oper}, apartB ops hd = true → ∀ {i j : Nat} {o x : Oper}, hd[i]? = some o → hd[j]? = some x → i ≠ j → ∀ d, o.dst = some d → x.dst ≠ some d
  | [], _, _, _, _, _, h, _, _ => by simp at h
  | y :: hd, h, i, j, o, x, hi, hj, hne => by
    simp only [apartB, Bool.and_eq_true] at h
    intro d hd'
    match i, j, hi, hj, hne with
    | 0, 0, _, _, hne => exact absurd rfl hne
    | 0, j + 1, hi, hj, _ =>
      have e : y = o := by simpa using hi
      subst e
      have hm : x ∈ hd := List.mem_of_getElem? (by simpa using hj)
      have := List.all_eq_true.1 h.1.2 x hm
      intro hx
      simp only [hx, Bool.and_eq_true] at this
      have h2 := this.2
      rw [hd'] at h2
      simp at h2
    | i + 1, 0, hi, hj, _ =>
      have e : y = x := by simpa using hj
      subst e
      have hm : o ∈ hd := List.mem_of_getElem? (by simpa using hi)
      have := List.all_eq_true.1 h.1.2 o hm
      simp only [hd', Bool.and_eq_true] at this
      intro hx
      have h2 := this.2
      rw [hx] at h2
      simp at h2
    | i + 1, j + 1, hi, hj, hne => exact apart_at h.2 (by simpa using hi) (by simpa using hj) (by omega) d hd'

theorem step_of {a0 : Act} {U : List (Nat × Ph)} {A : Act} (hsel : Region.noSelect l.toArray = true) (hap : apartB (l.take n).toArray (l.take n) = true) (hed : edgeB md (l.take n).toArray (l.take n) = true) (hb : Qt.backB md (l.take n) = true) (hn : n ≤ l.length)
    (D : Done P ρ (l.take n).toArray w a0 (l.take n) U A) {Q : Exit → Act → World → Prop} {m : Array Bool} {a : Act} {W : World} (I : Inv ρ w l n U A m a W) {i : Nat} (hi : i < n) (hsz : m.size = l.length) (hr : i ∈ Region.ready md l.toArray m) :
    wpOp P l.toArray Q i (fun a' W' => Inv ρ w l n U A (m.setIfInBounds i true) a' W') a W := by
  have hil : i < l.length := by omega
  have hoi : l[i]? = some l[i] := List.getElem?_eq_getElem hil
  have hoh : (l.take n)[i]? = some l[i] := by simp [hi, hil]
  generalize ho : l[i] = o at hoi hoh
  have hom : o ∈ l.take n := List.mem_of_getElem? hoh
  have hsel' : ∀ cs b, o.op ≠ .select cs b := fun cs b => Region.noSelect_spec hsel i o cs b (by simpa using hoi)
  -- what it looks at is there
  have look : ∀ s ∈ o.looksAt (l.take n).toArray, (s ∉ U.map (·.1) → a.eval (.tmp s) = A.eval (.tmp s)) ∧ ∀ φ, (s, φ) ∈ U → φ (a.eval (.tmp s)) W := by
    intro s hs
    by_cases hex : ∃ x ∈ l.take n, x.dst = some s
    · obtain ⟨x, hx, hxs⟩ := hex
      obtain ⟨k, hk⟩ := List.mem_iff_getElem?.1 hx
      have hkn : k < n := by have := (List.getElem?_eq_some_iff.1 hk).1; simp at this; omega
      have hkl : l[k]? = some x := by simpa [List.getElem?_take, hkn] using hk
      obtain ⟨e, he, hbd, hon⟩ := edgeB_spec hed hom hs hk hxs
      obtain ⟨_, o', ho', hall⟩ := mem_ready.1 hr
      have hoo : o' = o := by
        have : l[i]? = some o' := by simpa using ho'
        rw [hoi] at this; injection this with e; exact e.symm
      subst hoo
      have hl := hall e he hbd
      rw [hon] at hl
      have hl' : m.getD k true = true := by
        rw [Array.getD_eq_getD_getElem?, Array.getElem?_eq_getElem (by omega)] at hl ⊢
        simpa using hl
      exact ⟨fun hU => I.told k x s hkn hkl hl' hxs hU, fun φ hφ => I.such k x s φ hkn hkl hl' hxs hφ⟩
    · have hno : ∀ x ∈ l.take n, x.dst ≠ some s := fun x hx hxs => hex ⟨x, hx, hxs⟩
      refine ⟨fun _ => I.other s hno, fun φ hφ => ?_⟩
      obtain ⟨x, hx, hxs⟩ := D.slots _ hφ
      exact absurd hxs (hno x hx)
  have hwant : Region.wanted o (yielded (l.take n).toArray a.tmps) = Region.wanted o (yielded (l.take n).toArray A.tmps) := wanted_of fun t ht => by
    by_cases hU : t ∈ U.map (·.1)
    · obtain ⟨u, hu, rfl⟩ := List.mem_map.1 hU
      have h1 := (look _ ht).2 u.2 hu
      have h2 := D.noBool u hu
      rw [D.hidden u hu]
      cases hv : a.eval (.tmp u.1) with
      | bool b => rw [hv] at h1; exact absurd h1 (h2 b W)
      | _ => rfl
    · rw [(look _ ht).1 hU]
  -- what it leaves
  have leave : ∀ (u : Value) (W' : World), ρ.r W W' → (∀ d, o.dst = some d → (d ∉ U.map (·.1) → d < A.tmps.size → A.eval (.tmp d) = u) ∧ ∀ φ, (d, φ) ∈ U → d < A.tmps.size ∧ φ u W') → Inv ρ w l n U A (m.setIfInBounds i true) (a.put o.dst u) W' := by
    intro u W' hrel hu
    have lasts : ∀ d φ, (d, φ) ∈ U → Lasts ρ φ := fun d φ hφ => by
      obtain ⟨x, hx, hxs⟩ := D.slots _ hφ
      rcases D.cert x hx with ⟨_, h2⟩ | ⟨_, ψ, h1, h2, _⟩
      · exact absurd (List.mem_map.2 ⟨_, hφ, rfl⟩) (h2 _ hxs).1
      · rcases h2 _ hxs with ⟨v, _, h4, _⟩ | ⟨h4, _⟩
        · exact absurd (List.mem_map.2 ⟨_, hφ, rfl⟩) h4
        · rw [once D.nodup hφ h4]; exact h1
    have apt : ∀ j x d, j < n → l[j]? = some x → j ≠ i → x.dst = some d → o.dst ≠ some d := fun j x d hj hx hne hd => by
      exact apart_at hap (i := j) (j := i) (by simpa [List.getElem?_take, hj] using hx) hoh hne d hd
    refine ⟨ρ.trans I.rel hrel, by rw [put_size]; exact I.size, by rw [put_defers]; exact I.defers, fun s hs => ?_, fun j x d hj hx hm hd hU => ?_, fun j x d φ hj hx hm hd hU => ?_⟩
    · have h0 := I.other s hs
      cases hd : o.dst with
      | none => exact h0
      | some d => rw [eval_ne (fun e => hs o hom (by rw [← e]; exact hd))]; exact h0
    · by_cases hji : j = i
      · subst hji
        have hxo : x = o := by rw [hoi] at hx; injection hx with e; exact e.symm
        subst hxo
        rw [hd]
        by_cases hlt : d < a.tmps.size
        · rw [eval_eq hlt, (hu d hd).1 hU (by rw [← I.size]; exact hlt)]
        · rw [eval_off hlt _ (put_size ..), eval_off hlt A I.size.symm]
      · have h0 := I.told j x d hj hx (by rw [getD_set_ne true (Ne.symm hji)] at hm; exact hm) hd hU
        cases hd' : o.dst with
        | none => exact h0
        | some e => rw [eval_ne (fun h => apt j x d hj hx hji hd (by rw [← h]; exact hd'))]; exact h0
    · by_cases hji : j = i
      · subst hji
        have hxo : x = o := by rw [hoi] at hx; injection hx with e; exact e.symm
        subst hxo
        obtain ⟨h1, h2⟩ := (hu d hd).2 φ hU
        rw [hd, eval_eq (by rw [I.size]; exact h1)]
        exact h2
      · have h0 := I.such j x d φ hj hx (by rw [getD_set_ne true (Ne.symm hji)] at hm; exact hm) hd hU
        have h1 := lasts d φ hU _ _ _ h0 hrel
        cases hd' : o.dst with
        | none => exact h1
        | some e => rw [eval_ne (fun h => apt j x d hj hx hji hd (by rw [← h]; exact hd'))]; exact h1
  unfold wpOp
  rw [show l.toArray[i]? = some o by simpa using hoi]
  simp only
  rw [← Qt.wanted_head hb hn hoh a, hwant]
  rcases D.cert o hom with ⟨hw, h2⟩ | ⟨hw, φ, h1, h2, h3⟩
  · rw [hw]
    simp only [Bool.false_eq_true, if_false]
    exact leave undef W (ρ.refl _) (fun d hd => ⟨fun _ _ => (h2 d hd).2, fun φ hφ => absurd (List.mem_map.2 ⟨_, hφ, rfl⟩) (h2 d hd).1⟩)
  · rw [hw]
    simp only [if_true]
    refine .inl ?_
    have h4 : one P ρ W φ ((execOp (fill a (seen (l.take n).toArray o U) A).eval o).run P W) := opened_fill a _ (fun u hu => (look u.1 (by have := (List.mem_filter.1 hu).2; simpa using this)).2 u.2 (List.mem_filter.1 hu).1) (h3 ⟨W, I.rel⟩)
    have hag : Agree (o.looksAt (l.take n).toArray) (fill a (seen (l.take n).toArray o U) A) a := fun s hs => by
      by_cases hU : s ∈ U.map (·.1)
      · obtain ⟨u, hu, rfl⟩ := List.mem_map.1 hU
        exact fill_at a _ I.size.symm (List.mem_map.2 ⟨u, List.mem_filter.2 ⟨hu, by simpa using hs⟩, rfl⟩)
      · exact fill_keep a _ I.size.symm ((look s hs).1 hU).symm
    rw [exec_agree hsel' hag] at h4
    have fin : ∀ (u : Value) (W' : World), ρ.r W W' → φ u W' → Inv ρ w l n U A (m.setIfInBounds i true) (a.put o.dst u) W' := fun u W' hrel hφ => leave u W' hrel (fun d hd => by
      rcases h2 d hd with ⟨v, e1, e2, e3⟩ | ⟨e1, e2⟩
      · subst e1
        refine ⟨fun _ hlt => (e3 hlt).trans hφ.symm, fun ψ hψ => absurd (List.mem_map.2 ⟨_, hψ, rfl⟩) e2⟩
      · refine ⟨fun hno => absurd (List.mem_map.2 ⟨_, e1, rfl⟩) hno, fun ψ hψ => ⟨e2, ?_⟩⟩
        rw [once D.nodup hψ e1]; exact hφ)
    unfold Oper.wp
    generalize (execOp a.eval o).run P W = r at h4
    cases r with
    | ok x W' =>
      cases x <;> simp only [one] at h4 <;> simp only [Oper.upon]
      case value u => exact fin u W' h4.1 h4.2
      case skip => exact fin undef W' h4.1 h4.2
      case enter f args => exact h4.mono fun e W'' ⟨v, he, hrel, hφ⟩ => by subst he; exact fin v W'' hrel hφ
    | halt x W' => simp only [one] at h4

/-- how many of the head are still to be done -/
def left (n : Nat) (m : Array Bool) : Nat := ((List.range n).filter fun j => !m.getD j true).length
theorem left_set {m : Array Bool} {i : Nat} (hi : i < n) (hu : m.getD i true = false) : left n (m.setIfInBounds i true) < left n m := by
  unfold left
  have e : ((List.range n).filter fun j => !(m.setIfInBounds i true).getD j true) = (((List.range n).filter fun j => !m.getD j true).filter fun j => j != i) := by
    rw [List.filter_filter]
    refine List.filter_congr fun j _ => ?_
    by_cases hij : i = j
    · subst hij
      have : (m.setIfInBounds i true).getD i true = true := by
        by_cases hs : i < m.size
        · simp [hs]
        · simp [Array.getElem?_eq_none (xs := m.setIfInBounds i true) (i := i) (by simp; omega)]
      rw [this]; simp
    · rw [getD_set_ne true hij]
      simp [Ne.symm hij]
  rw [e]
  have h1 : i ∈ (List.range n).filter fun j => !m.getD j true := List.mem_filter.2 ⟨List.mem_range.2 hi, by rw [hu]; rfl⟩
  exact List.length_filter_lt_length_iff_exists.2 ⟨i, h1, by simp⟩

theorem any_of_inv {g : Nat} {Q' : Exit → Act → World → Prop} {J : Array Bool → Act → World → Prop} (hb : Qt.backB md (l.take n) = true) (hn : n ≤ l.length) (hw : n = l.length ∨ (Region.sinkB md l.toArray n = true ∧ Region.chainB md l.toArray n = true))
    (hstep : ∀ m a W i, J m a W → i < n → m.size = l.length → i ∈ Region.ready md l.toArray m → wpOp P l.toArray Q' i (fun a' W' => J (m.setIfInBounds i true) a' W') a W)
    (hend : ∀ f m a W, HeadInv md l.toArray n m → (∀ j, j < n → m.getD j true = true) → J m a W → wpAny P md l.toArray Q' (f + g) m a W) :
    ∀ (f : Nat) (m : Array Bool) (a : Act) (W : World), left n m ≤ f → HeadInv md l.toArray n m → J m a W → wpAny P md l.toArray Q' (f + g) m a W := by
  intro f
  induction f with
  | zero =>
    intro m a W hl inv hJ
    refine hend 0 m a W inv (fun j hj => ?_) hJ
    by_cases hc : m.getD j true = true
    · exact hc
    · have h1 : j ∈ (List.range n).filter fun j => !m.getD j true := List.mem_filter.2 ⟨List.mem_range.2 hj, by simpa using hc⟩
      have h2 := List.length_pos_of_mem h1
      unfold left at hl
      omega
  | succ f ih =>
    intro m a W hl inv hJ
    by_cases hd : ∀ j, j < n → m.getD j true = true
    · exact hend (f + 1) m a W inv hd hJ
    · have hsz : m.size = l.length := by simpa using inv.size
      -- the first that is not done is ready
      have first : ∀ j, j < n → m.getD j true = false → ∃ i, i < n ∧ i ∈ Region.ready md l.toArray m := by
        intro j
        induction j using Nat.strongRecOn with
        | _ j ihj =>
          intro hj hun
          have hjl : j < l.length := by omega
          by_cases hall : ∀ e ∈ l[j].after, Region.binds md e = true → m.getD e.on false = true
          · exact ⟨j, hj, mem_ready.2 ⟨hun, l[j], by simp [hjl], hall⟩⟩
          · simp only [Classical.not_forall] at hall
            obtain ⟨e, he, hbd, hno⟩ := hall
            have hlt := (Qt.backB_spec hb (j := j) (o := l[j]) (by simp [hj, hjl])).1 e he hbd
            refine ihj e.on hlt (by omega) ?_
            rw [Array.getD_eq_getD_getElem?, Array.getElem?_eq_getElem (by omega)] at hno ⊢
            simpa using hno
      simp only [Classical.not_forall] at hd
      obtain ⟨j, hj, hun⟩ := hd
      have hun' : m.getD j true = false := by simpa using hun
      obtain ⟨i0, hi0, hr0⟩ := first j hj hun'
      rw [show f + 1 + g = (f + g) + 1 by omega]
      refine ⟨fun h0 => (by rw [h0] at hr0; cases hr0), fun i hi => ?_⟩
      have hin : i < n := by
        rcases hw with hw | ⟨hs, hc⟩
        · obtain ⟨_, o, ho, _⟩ := mem_ready.1 hi
          have := (Array.getElem?_eq_some_iff.1 ho).1
          simp at this; omega
        · rcases Nat.lt_or_ge i n with h' | h'
          · exact h'
          · rcases Nat.lt_or_ge n l.length with hlt | hge
            · exact absurd hi (tail_waits hs hc (by simpa using hlt) inv _ j rfl hj hun' i h')
            · obtain ⟨_, o, ho, _⟩ := mem_ready.1 hi
              have := (Array.getElem?_eq_some_iff.1 ho).1
              simp at this; omega
      have hui := (mem_ready.1 hi).1
      exact wpOp_mono (fun a' W' h' => ih _ a' W' (by have := left_set hin hui; omega) (inv.set hi hin) h') (hstep m a W i hJ hin hsz hi)

def okB (md : Region.Mode) (l : List Oper) (n : Nat) : Bool :=
  decide (n ≤ l.length) && Region.noSelect l.toArray && Qt.backB md (l.take n) && apartB (l.take n).toArray (l.take n) && edgeB md (l.take n).toArray (l.take n) &&
    (decide (n = l.length) || (Region.sinkB md l.toArray n && Region.chainB md l.toArray n && Region.seqB md l.toArray (l.length - n) n (Qt.full l.length n)))

theorem act_ext {a b : Act} (hs : a.tmps.size = b.tmps.size) (hd : a.defers = b.defers) (h : ∀ s, a.eval (.tmp s) = b.eval (.tmp s)) : a = b := by
  obtain ⟨ta, da⟩ := a
  obtain ⟨tb, db⟩ := b
  simp only at hs hd
  subst hd
  have : ta = tb := by
    apply Array.ext hs
    intro i h1 h2
    have := h i
    simp only [Act.eval, Array.getD_eq_getD_getElem?, Array.getElem?_eq_getElem h1, Array.getElem?_eq_getElem h2, Option.getD_some] at this
    exact this
  rw [this]

/-- **A drawn region, its head walked once**: behind it the frame has what the walk says, the world is one that the class lets come. -/
theorem region {id : Nat} {Q : Exit → Act → World → Prop} {a : Act} {w : World} {l : List Oper} (ρ : Rl) (n : Nat) (hm : P.follows .mixedOrders = true) (hB : okB .any l n = true)
    (h : walk P ρ (l.take n).toArray w (fun U A => ∀ p : Lat ρ w, opened U p.W A fun a' => wpList P l.toArray Q (l.drop n) a' p.W) (l.take n) [] a) : (Code.region id l.toArray true).wp P Q a w := by
  simp only [okB, Bool.and_eq_true, decide_eq_true_eq, Bool.or_eq_true] at hB
  obtain ⟨⟨⟨⟨⟨hn, hsel⟩, hb⟩, hap⟩, hed⟩, htl⟩ := hB
  have hlen : (l.take n).length = n := by simp; omega
  obtain ⟨U, A, D, hQ⟩ := done_of_walk (ops := (l.take n).toArray) (w := w) (ρ := ρ) (P := P) (fun o cs b ho => by
      obtain ⟨i, hi⟩ := List.mem_iff_getElem?.1 ho
      have hin : i < n := by have := (List.getElem?_eq_some_iff.1 hi).1; simp at this; omega
      exact Region.noSelect_spec hsel i o cs b (by simpa [List.getElem?_take, hin] using hi)) (l.take n) [] a [] a (fun o ho => by simpa using ho) (by simpa using hap)
    { size := rfl, defers := rfl, other := fun _ _ => rfl, cert := fun o ho => (by cases ho), noBool := fun u hu => (by cases hu), hidden := fun u hu => (by cases hu), slots := fun u hu => (by cases hu), nodup := by simp } h
  simp only [List.nil_append] at D
  have key := any_of_inv (P := P) (md := .any) (l := l) (n := n) (Q' := Q) (g := l.length - n) (J := Inv ρ w l n U A) hb hn
    (by rcases htl with h1 | ⟨⟨h1, h2⟩, _⟩; exact .inl h1; exact .inr ⟨h1, h2⟩)
    (fun m a' W i I hi hsz hr => step_of hsel hap hed hb hn D I hi hsz hr)
    (fun f m a' W inv hd I => by
      have ea : fill a' U A = a' := by
        refine act_ext ((fill_size ..).trans I.size.symm) ((fill_defers ..).trans I.defers.symm) fun s => ?_
        by_cases hU : s ∈ U.map (·.1)
        · exact fill_at a' U I.size.symm hU
        · refine fill_keep a' U I.size.symm ?_
          by_cases hex : ∃ x ∈ l.take n, x.dst = some s
          · obtain ⟨x, hx, hxs⟩ := hex
            obtain ⟨k, hk⟩ := List.mem_iff_getElem?.1 hx
            have hkn : k < n := by have := (List.getElem?_eq_some_iff.1 hk).1; simp at this; omega
            exact (I.told k x s hkn (by simpa [List.getElem?_take, hkn] using hk) (hd k hkn) hxs hU).symm
          · exact (I.other s (fun x hx hxs => hex ⟨x, hx, hxs⟩)).symm
      have hK := opened_fill a' U (fun u hu => by
        obtain ⟨x, hx, hxs⟩ := D.slots u hu
        obtain ⟨k, hk⟩ := List.mem_iff_getElem?.1 hx
        have hkn : k < n := by have := (List.getElem?_eq_some_iff.1 hk).1; simp at this; omega
        exact I.such k x u.1 u.2 hkn (by simpa [List.getElem?_take, hkn] using hk) (hd k hkn) hxs hu) (hQ ⟨W, I.rel⟩)
      rw [ea] at hK
      have hseq : Region.seqB .any l.toArray (l.drop n).length n m = true := by
        rcases htl with h1 | ⟨_, h3⟩
        · have : l.drop n = [] := List.drop_eq_nil_of_le (by omega)
          rw [this]
          simp only [List.length_nil, Region.seqB]
          rw [List.isEmpty_iff, List.eq_nil_iff_forall_not_mem]
          intro i hi
          obtain ⟨hun, o, ho, _⟩ := mem_ready.1 hi
          have hlt := (Array.getElem?_eq_some_iff.1 ho).1
          simp at hlt
          rw [hd i (by omega)] at hun
          cases hun
        · rcases Nat.lt_or_ge n l.length with hlt | hge
          · rw [Qt.eq_full hlt inv hd]
            simpa using h3
          · have : l.drop n = [] := List.drop_eq_nil_of_le hge
            rw [this]
            simp only [List.length_nil, Region.seqB]
            rw [List.isEmpty_iff, List.eq_nil_iff_forall_not_mem]
            intro i hi
            obtain ⟨hun, o, ho, _⟩ := mem_ready.1 hi
            have hlt := (Array.getElem?_eq_some_iff.1 ho).1
            simp at hlt
            rw [hd i (by omega)] at hun
            cases hun
      have := Qt.any_of_seq (P := P) (md := .any) (l := l) (Q' := Q) (l.drop n) n f m a' W (fun j => by simp [List.getElem?_drop]) hseq hK
      simpa using this)
    n (Array.replicate l.toArray.size false) a w.drew (by
      unfold left
      exact Nat.le_trans (List.length_filter_le _ _) (by simp))
    ⟨by simp, fun j oj _ hl => (by rw [getD_replicate_false] at hl; cases hl), fun t _ ht => getD_in (by simpa using ht) (getD_replicate_false _ _)⟩
    ⟨ρ.drew w, D.size.symm, D.defers.symm, fun s hs => (D.other s hs).symm, fun j o d hj _ hm _ _ => (by
        rw [Array.getD_eq_getD_getElem?, Array.getElem?_replicate, if_pos (by rw [List.size_toArray]; omega)] at hm; cases hm),
      fun j o d φ hj _ hm _ _ => (by
        rw [Array.getD_eq_getD_getElem?, Array.getElem?_replicate, if_pos (by rw [List.size_toArray]; omega)] at hm; cases hm)⟩
  refine wp_region_any hm ?_
  rw [show n + (l.length - n) = l.toArray.size by simp; omega] at key
  exact key
end Og
end Go.Proofs.YtljaahemlcaffaaGreat
