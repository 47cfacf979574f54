/- Entities, over numbers: what may be, what is put and taken away, the order of names. Nothing of the program. -/
import Derived.Test.YtookmjdnmmfkfaaPzPure
namespace Go.Proofs.Ytookmjdnmmfkfaa
open Go
set_option linter.unusedVariables false

namespace Pz
/-- an entity: its name, its mask, its numbers -/
structure Bn where
  s : Int
  i : Int
  g : Int
  m : Int
  x : Int
  y : Int
  vx : Int
  vy : Int
  h : Int
  p : Int
  l : Int
abbrev Bn.row (b : Bn) : List Value := [.int .i64 b.s, .int .i64 b.i, .int .i64 b.g, .int .i64 b.m, .int .i64 b.x, .int .i64 b.y, .int .i64 b.vx, .int .i64 b.vy, .int .i64 b.h, .int .i64 b.p, .int .i64 b.l]
abbrev Bn.val (b : Bn) : Value := .agg #[.int .i64 b.s, .int .i64 b.i, .int .i64 b.g, .int .i64 b.m, .int .i64 b.x, .int .i64 b.y, .int .i64 b.vx, .int .i64 b.vy, .int .i64 b.h, .int .i64 b.p, .int .i64 b.l]
structure Bn.Fits (b : Bn) : Prop where
  s : Fit b.s
  i : Fit b.i
  g : Fit b.g
  m : Fit b.m
  x : Fit b.x
  y : Fit b.y
  vx : Fit b.vx
  vy : Fit b.vy
  h : Fit b.h
  p : Fit b.p
  l : Fit b.l
def inB (n lo hi : Int) (has : Bool) : Bool := if has then decide (lo ≤ n) && decide (n ≤ hi) else decide (n = 0)
def rightID (s i g : Int) : Bool := ((((decide (s ≥ 0) && decide (s ≤ 15)) && decide (i ≥ 0)) && decide (i ≤ 15)) && decide (g ≥ 0)) && decide (g < 1048576)
def right (b : Bn) : Bool :=
  (!(decide (b.m < 0) || decide (b.m > 31)) && (inB b.x (-1073741824) 1073741824 (bitB b.m 0) && inB b.y (-1073741824) 1073741824 (bitB b.m 0)) && (inB b.vx (-1073741824) 1073741824 (bitB b.m 1) && inB b.vy (-1073741824) 1073741824 (bitB b.m 1))) &&
    ((inB b.h 1 1048576 (bitB b.m 2) && inB b.p 0 1024 (bitB b.m 3)) && inB b.l 1 1048576 (bitB b.m 4))
def may (b : Bn) : Bool := (rightID b.s b.i b.g && right b) && bitB b.m 0
def takesB (m : Int) : Bool := (decide (m ≥ 1) && decide (m ≤ 31)) && !bitB m 0
def errB (b : Bool) : Int := if b then 0 else 1
/-- a command: its kind, name, entity, mask -/
structure Cn where
  k : Int
  s : Int
  i : Int
  g : Int
  b : Bn
  m : Int
abbrev Cn.val (c : Cn) : Value := .agg #[.int .i64 c.k, .int .i64 c.s, .int .i64 c.i, .int .i64 c.g, .int .i64 c.b.s, .int .i64 c.b.i, .int .i64 c.b.g, .int .i64 c.b.m, .int .i64 c.b.x, .int .i64 c.b.y, .int .i64 c.b.vx, .int .i64 c.b.vy, .int .i64 c.b.h, .int .i64 c.b.p, .int .i64 c.b.l, .int .i64 c.m]
def noID (s i g : Int) : Bool := (s == 0) && ((i == 0) && (g == 0))
def empty (b : Bn) : Bool := noID b.s b.i b.g && ((b.m == 0) && ((b.x == 0) && ((b.y == 0) && ((b.vx == 0) && ((b.vy == 0) && ((b.h == 0) && ((b.p == 0) && (b.l == 0))))))))
/-- the same entity? -/
def sameB (a b : Bn) : Bool := ((a.s == b.s) && ((a.i == b.i) && (a.g == b.g))) && ((a.m == b.m) && ((a.x == b.x) && ((a.y == b.y) && ((a.vx == b.vx) && ((a.vy == b.vy) && ((a.h == b.h) && ((a.p == b.p) && (a.l == b.l))))))))
def mayCmd (c : Cn) : Bool :=
  if c.k = 1 then (noID c.s c.i c.g && decide (c.m = 0)) && may c.b else
  if c.k = 2 then (rightID c.s c.i c.g && decide (c.m = 0)) && empty c.b else
  if c.k = 3 then (((rightID c.s c.i c.g && decide (c.m = 0)) && noID c.b.s c.b.i c.b.g) && takesB c.b.m) && right c.b else
  if c.k = 4 then (rightID c.s c.i c.g && empty c.b) && takesB c.m else false
def withB (b c : Bn) : Bn :=
  { b with
    x := if bitB c.m 0 then c.x else b.x
    y := if bitB c.m 0 then c.y else b.y
    vx := if bitB c.m 1 then c.vx else b.vx
    vy := if bitB c.m 1 then c.vy else b.vy
    h := if bitB c.m 2 then c.h else b.h
    p := if bitB c.m 3 then c.p else b.p
    l := if bitB c.m 4 then c.l else b.l
    m := bits .or .i64 b.m c.m }
def withoutB (b : Bn) (k : Int) : Bn :=
  { b with
    x := if bitB k 0 then 0 else b.x
    y := if bitB k 0 then 0 else b.y
    vx := if bitB k 1 then 0 else b.vx
    vy := if bitB k 1 then 0 else b.vy
    h := if bitB k 2 then 0 else b.h
    p := if bitB k 3 then 0 else b.p
    l := if bitB k 4 then 0 else b.l
    m := bits .andNot .i64 b.m k }
def before (a b : Int × Int × Int) : Bool := if a.1 ≠ b.1 then decide (a.1 < b.1) else if a.2.1 ≠ b.2.1 then decide (a.2.1 < b.2.1) else decide (a.2.2 < b.2.2)
abbrev Bn.id (b : Bn) : Int × Int × Int := (b.s, b.i, b.g)
end Pz
end Go.Proofs.Ytookmjdnmmfkfaa
