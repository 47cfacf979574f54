/- The document's parts: an entity in its box, another one beside it. Written by wip/tools/genpz4.py. The document's parts: Without, Before. Written by wip/tools/genpz4.py. The document's parts: With. Written by wip/tools/genpz4.py. A row of whatever elements that a call made: what it holds, what an append makes of it. Nothing of the program. -/
import Derived.Test.YtljaahemlcaffaaGreatK02
import Derived.Test.YtljaahemlcaffaaGreatK01
import Derived.OwnWalk
import Derived.ArgAppend
import Derived.Deep.MidRow
namespace Go.Proofs.YtljaahemlcaffaaGreat
open Go.RowKit Pz
set_option linter.unusedVariables false

abbrev bobj (a : Bn) : Obj := .cells #[.int .i64 a.s, .int .i64 a.i, .int .i64 a.g, .int .i64 a.m, .int .i64 a.x, .int .i64 a.y, .int .i64 a.vx, .int .i64 a.vy, .int .i64 a.h, .int .i64 a.p, .int .i64 a.l] 42
abbrev Bn.zero : Bn := ⟨0, 0, 0, 0, 0, 0, 0, 0, 0, 0, 0⟩
/-- an entity in its box, another one beside it, the result's box -/
structure W2 (w : World) (rb : Nat) (a c : Bn) (W : World) : Prop where
  bel : Below w.heap.size w W
  own : W.heap[w.heap.size]? = some (.cells #[.int .i64 a.s, .int .i64 a.i, .int .i64 a.g, .int .i64 a.m, .int .i64 a.x, .int .i64 a.y, .int .i64 a.vx, .int .i64 a.vy, .int .i64 a.h, .int .i64 a.p, .int .i64 a.l] 42 (0, 0))
  oth : W.heap[w.heap.size + 1]? = some (.cells #[.int .i64 c.s, .int .i64 c.i, .int .i64 c.g, .int .i64 c.m, .int .i64 c.x, .int .i64 c.y, .int .i64 c.vx, .int .i64 c.vy, .int .i64 c.h, .int .i64 c.p, .int .i64 c.l] 42 (0, 0))
  res : W.heap[rb]? = some (.cells #[.int .i64 0, .int .i64 0, .int .i64 0, .int .i64 0, .int .i64 0, .int .i64 0, .int .i64 0, .int .i64 0, .int .i64 0, .int .i64 0, .int .i64 0] 42 (0, 0))
  rb : w.heap.size < rb
section
variable {w W W' : World} {rb : Nat} {a c : Bn}
theorem W2.step (h : W2 w rb a c W) (hb : Below W.heap.size W W') : W2 w rb a c W' :=
  ⟨h.bel.trans (hb.mono h.bel.size), (hb.block _ (Bx.lt h.own)).trans h.own, (hb.block _ (Bx.lt h.oth)).trans h.oth, (hb.block _ (Bx.lt h.res)).trans h.res, h.rb⟩
theorem W2.set_s {zs zi zg zm zx zy zvx zvy zh zp zl : Int} (h : W2 w rb ⟨zs, zi, zg, zm, zx, zy, zvx, zvy, zh, zp, zl⟩ c W) (v : Int) : W2 w rb ⟨v, zi, zg, zm, zx, zy, zvx, zvy, zh, zp, zl⟩ c (W.setCell ⟨w.heap.size, 0, none⟩ (.int .i64 v)) :=
  have h1 := h.rb
  ⟨h.bel.setCell (p := ⟨w.heap.size, 0, none⟩) (Nat.le_refl _) _, Bx.set h.own _, (Bx.ne (by omega) _).trans h.oth, (Bx.ne (by omega) _).trans h.res, h1⟩
theorem W2.set_i {zs zi zg zm zx zy zvx zvy zh zp zl : Int} (h : W2 w rb ⟨zs, zi, zg, zm, zx, zy, zvx, zvy, zh, zp, zl⟩ c W) (v : Int) : W2 w rb ⟨zs, v, zg, zm, zx, zy, zvx, zvy, zh, zp, zl⟩ c (W.setCell ⟨w.heap.size, 1, none⟩ (.int .i64 v)) :=
  have h1 := h.rb
  ⟨h.bel.setCell (p := ⟨w.heap.size, 1, none⟩) (Nat.le_refl _) _, Bx.set h.own _, (Bx.ne (by omega) _).trans h.oth, (Bx.ne (by omega) _).trans h.res, h1⟩
theorem W2.set_g {zs zi zg zm zx zy zvx zvy zh zp zl : Int} (h : W2 w rb ⟨zs, zi, zg, zm, zx, zy, zvx, zvy, zh, zp, zl⟩ c W) (v : Int) : W2 w rb ⟨zs, zi, v, zm, zx, zy, zvx, zvy, zh, zp, zl⟩ c (W.setCell ⟨w.heap.size, 2, none⟩ (.int .i64 v)) :=
  have h1 := h.rb
  ⟨h.bel.setCell (p := ⟨w.heap.size, 2, none⟩) (Nat.le_refl _) _, Bx.set h.own _, (Bx.ne (by omega) _).trans h.oth, (Bx.ne (by omega) _).trans h.res, h1⟩
theorem W2.set_m {zs zi zg zm zx zy zvx zvy zh zp zl : Int} (h : W2 w rb ⟨zs, zi, zg, zm, zx, zy, zvx, zvy, zh, zp, zl⟩ c W) (v : Int) : W2 w rb ⟨zs, zi, zg, v, zx, zy, zvx, zvy, zh, zp, zl⟩ c (W.setCell ⟨w.heap.size, 3, none⟩ (.int .i64 v)) :=
  have h1 := h.rb
  ⟨h.bel.setCell (p := ⟨w.heap.size, 3, none⟩) (Nat.le_refl _) _, Bx.set h.own _, (Bx.ne (by omega) _).trans h.oth, (Bx.ne (by omega) _).trans h.res, h1⟩
theorem W2.set_x {zs zi zg zm zx zy zvx zvy zh zp zl : Int} (h : W2 w rb ⟨zs, zi, zg, zm, zx, zy, zvx, zvy, zh, zp, zl⟩ c W) (v : Int) : W2 w rb ⟨zs, zi, zg, zm, v, zy, zvx, zvy, zh, zp, zl⟩ c (W.setCell ⟨w.heap.size, 4, none⟩ (.int .i64 v)) :=
  have h1 := h.rb
  ⟨h.bel.setCell (p := ⟨w.heap.size, 4, none⟩) (Nat.le_refl _) _, Bx.set h.own _, (Bx.ne (by omega) _).trans h.oth, (Bx.ne (by omega) _).trans h.res, h1⟩
theorem W2.set_y {zs zi zg zm zx zy zvx zvy zh zp zl : Int} (h : W2 w rb ⟨zs, zi, zg, zm, zx, zy, zvx, zvy, zh, zp, zl⟩ c W) (v : Int) : W2 w rb ⟨zs, zi, zg, zm, zx, v, zvx, zvy, zh, zp, zl⟩ c (W.setCell ⟨w.heap.size, 5, none⟩ (.int .i64 v)) :=
  have h1 := h.rb
  ⟨h.bel.setCell (p := ⟨w.heap.size, 5, none⟩) (Nat.le_refl _) _, Bx.set h.own _, (Bx.ne (by omega) _).trans h.oth, (Bx.ne (by omega) _).trans h.res, h1⟩
theorem W2.set_vx {zs zi zg zm zx zy zvx zvy zh zp zl : Int} (h : W2 w rb ⟨zs, zi, zg, zm, zx, zy, zvx, zvy, zh, zp, zl⟩ c W) (v : Int) : W2 w rb ⟨zs, zi, zg, zm, zx, zy, v, zvy, zh, zp, zl⟩ c (W.setCell ⟨w.heap.size, 6, none⟩ (.int .i64 v)) :=
  have h1 := h.rb
  ⟨h.bel.setCell (p := ⟨w.heap.size, 6, none⟩) (Nat.le_refl _) _, Bx.set h.own _, (Bx.ne (by omega) _).trans h.oth, (Bx.ne (by omega) _).trans h.res, h1⟩
theorem W2.set_vy {zs zi zg zm zx zy zvx zvy zh zp zl : Int} (h : W2 w rb ⟨zs, zi, zg, zm, zx, zy, zvx, zvy, zh, zp, zl⟩ c W) (v : Int) : W2 w rb ⟨zs, zi, zg, zm, zx, zy, zvx, v, zh, zp, zl⟩ c (W.setCell ⟨w.heap.size, 7, none⟩ (.int .i64 v)) :=
  have h1 := h.rb
  ⟨h.bel.setCell (p := ⟨w.heap.size, 7, none⟩) (Nat.le_refl _) _, Bx.set h.own _, (Bx.ne (by omega) _).trans h.oth, (Bx.ne (by omega) _).trans h.res, h1⟩
theorem W2.set_h {zs zi zg zm zx zy zvx zvy zh zp zl : Int} (h : W2 w rb ⟨zs, zi, zg, zm, zx, zy, zvx, zvy, zh, zp, zl⟩ c W) (v : Int) : W2 w rb ⟨zs, zi, zg, zm, zx, zy, zvx, zvy, v, zp, zl⟩ c (W.setCell ⟨w.heap.size, 8, none⟩ (.int .i64 v)) :=
  have h1 := h.rb
  ⟨h.bel.setCell (p := ⟨w.heap.size, 8, none⟩) (Nat.le_refl _) _, Bx.set h.own _, (Bx.ne (by omega) _).trans h.oth, (Bx.ne (by omega) _).trans h.res, h1⟩
theorem W2.set_p {zs zi zg zm zx zy zvx zvy zh zp zl : Int} (h : W2 w rb ⟨zs, zi, zg, zm, zx, zy, zvx, zvy, zh, zp, zl⟩ c W) (v : Int) : W2 w rb ⟨zs, zi, zg, zm, zx, zy, zvx, zvy, zh, v, zl⟩ c (W.setCell ⟨w.heap.size, 9, none⟩ (.int .i64 v)) :=
  have h1 := h.rb
  ⟨h.bel.setCell (p := ⟨w.heap.size, 9, none⟩) (Nat.le_refl _) _, Bx.set h.own _, (Bx.ne (by omega) _).trans h.oth, (Bx.ne (by omega) _).trans h.res, h1⟩
theorem W2.set_l {zs zi zg zm zx zy zvx zvy zh zp zl : Int} (h : W2 w rb ⟨zs, zi, zg, zm, zx, zy, zvx, zvy, zh, zp, zl⟩ c W) (v : Int) : W2 w rb ⟨zs, zi, zg, zm, zx, zy, zvx, zvy, zh, zp, v⟩ c (W.setCell ⟨w.heap.size, 10, none⟩ (.int .i64 v)) :=
  have h1 := h.rb
  ⟨h.bel.setCell (p := ⟨w.heap.size, 10, none⟩) (Nat.le_refl _) _, Bx.set h.own _, (Bx.ne (by omega) _).trans h.oth, (Bx.ne (by omega) _).trans h.res, h1⟩
/-- the result, stored -/
theorem W2.fin (h : W2 w rb a c W) : (W.cell? ⟨rb, 0, none⟩ = some (.int .i64 0) ∧ W.cell? ⟨rb, 1, none⟩ = some (.int .i64 0) ∧ W.cell? ⟨rb, 2, none⟩ = some (.int .i64 0) ∧ W.cell? ⟨rb, 3, none⟩ = some (.int .i64 0) ∧ W.cell? ⟨rb, 4, none⟩ = some (.int .i64 0) ∧ W.cell? ⟨rb, 5, none⟩ = some (.int .i64 0) ∧ W.cell? ⟨rb, 6, none⟩ = some (.int .i64 0) ∧ W.cell? ⟨rb, 7, none⟩ = some (.int .i64 0) ∧ W.cell? ⟨rb, 8, none⟩ = some (.int .i64 0) ∧ W.cell? ⟨rb, 9, none⟩ = some (.int .i64 0) ∧ W.cell? ⟨rb, 10, none⟩ = some (.int .i64 0)) ∧ (W.frozen? ⟨rb, 0, none⟩ = false ∧ W.frozen? ⟨rb, 1, none⟩ = false ∧ W.frozen? ⟨rb, 2, none⟩ = false ∧ W.frozen? ⟨rb, 3, none⟩ = false ∧ W.frozen? ⟨rb, 4, none⟩ = false ∧ W.frozen? ⟨rb, 5, none⟩ = false ∧ W.frozen? ⟨rb, 6, none⟩ = false ∧ W.frozen? ⟨rb, 7, none⟩ = false ∧ W.frozen? ⟨rb, 8, none⟩ = false ∧ W.frozen? ⟨rb, 9, none⟩ = false ∧ W.frozen? ⟨rb, 10, none⟩ = false) ∧
    Hid (((((((((((((W.setCell ⟨rb, 0, none⟩ (.int .i64 a.s)).setCell ⟨rb, 1, none⟩ (.int .i64 a.i)).setCell ⟨rb, 2, none⟩ (.int .i64 a.g)).setCell ⟨rb, 3, none⟩ (.int .i64 a.m)).setCell ⟨rb, 4, none⟩ (.int .i64 a.x)).setCell ⟨rb, 5, none⟩ (.int .i64 a.y)).setCell ⟨rb, 6, none⟩ (.int .i64 a.vx)).setCell ⟨rb, 7, none⟩ (.int .i64 a.vy)).setCell ⟨rb, 8, none⟩ (.int .i64 a.h)).setCell ⟨rb, 9, none⟩ (.int .i64 a.p)).setCell ⟨rb, 10, none⟩ (.int .i64 a.l)).cell? ⟨rb, 0, none⟩ = some (.int .i64 a.s) ∧ (((((((((((W.setCell ⟨rb, 0, none⟩ (.int .i64 a.s)).setCell ⟨rb, 1, none⟩ (.int .i64 a.i)).setCell ⟨rb, 2, none⟩ (.int .i64 a.g)).setCell ⟨rb, 3, none⟩ (.int .i64 a.m)).setCell ⟨rb, 4, none⟩ (.int .i64 a.x)).setCell ⟨rb, 5, none⟩ (.int .i64 a.y)).setCell ⟨rb, 6, none⟩ (.int .i64 a.vx)).setCell ⟨rb, 7, none⟩ (.int .i64 a.vy)).setCell ⟨rb, 8, none⟩ (.int .i64 a.h)).setCell ⟨rb, 9, none⟩ (.int .i64 a.p)).setCell ⟨rb, 10, none⟩ (.int .i64 a.l)).cell? ⟨rb, 1, none⟩ = some (.int .i64 a.i) ∧ (((((((((((W.setCell ⟨rb, 0, none⟩ (.int .i64 a.s)).setCell ⟨rb, 1, none⟩ (.int .i64 a.i)).setCell ⟨rb, 2, none⟩ (.int .i64 a.g)).setCell ⟨rb, 3, none⟩ (.int .i64 a.m)).setCell ⟨rb, 4, none⟩ (.int .i64 a.x)).setCell ⟨rb, 5, none⟩ (.int .i64 a.y)).setCell ⟨rb, 6, none⟩ (.int .i64 a.vx)).setCell ⟨rb, 7, none⟩ (.int .i64 a.vy)).setCell ⟨rb, 8, none⟩ (.int .i64 a.h)).setCell ⟨rb, 9, none⟩ (.int .i64 a.p)).setCell ⟨rb, 10, none⟩ (.int .i64 a.l)).cell? ⟨rb, 2, none⟩ = some (.int .i64 a.g) ∧ (((((((((((W.setCell ⟨rb, 0, none⟩ (.int .i64 a.s)).setCell ⟨rb, 1, none⟩ (.int .i64 a.i)).setCell ⟨rb, 2, none⟩ (.int .i64 a.g)).setCell ⟨rb, 3, none⟩ (.int .i64 a.m)).setCell ⟨rb, 4, none⟩ (.int .i64 a.x)).setCell ⟨rb, 5, none⟩ (.int .i64 a.y)).setCell ⟨rb, 6, none⟩ (.int .i64 a.vx)).setCell ⟨rb, 7, none⟩ (.int .i64 a.vy)).setCell ⟨rb, 8, none⟩ (.int .i64 a.h)).setCell ⟨rb, 9, none⟩ (.int .i64 a.p)).setCell ⟨rb, 10, none⟩ (.int .i64 a.l)).cell? ⟨rb, 3, none⟩ = some (.int .i64 a.m) ∧ (((((((((((W.setCell ⟨rb, 0, none⟩ (.int .i64 a.s)).setCell ⟨rb, 1, none⟩ (.int .i64 a.i)).setCell ⟨rb, 2, none⟩ (.int .i64 a.g)).setCell ⟨rb, 3, none⟩ (.int .i64 a.m)).setCell ⟨rb, 4, none⟩ (.int .i64 a.x)).setCell ⟨rb, 5, none⟩ (.int .i64 a.y)).setCell ⟨rb, 6, none⟩ (.int .i64 a.vx)).setCell ⟨rb, 7, none⟩ (.int .i64 a.vy)).setCell ⟨rb, 8, none⟩ (.int .i64 a.h)).setCell ⟨rb, 9, none⟩ (.int .i64 a.p)).setCell ⟨rb, 10, none⟩ (.int .i64 a.l)).cell? ⟨rb, 4, none⟩ = some (.int .i64 a.x) ∧ (((((((((((W.setCell ⟨rb, 0, none⟩ (.int .i64 a.s)).setCell ⟨rb, 1, none⟩ (.int .i64 a.i)).setCell ⟨rb, 2, none⟩ (.int .i64 a.g)).setCell ⟨rb, 3, none⟩ (.int .i64 a.m)).setCell ⟨rb, 4, none⟩ (.int .i64 a.x)).setCell ⟨rb, 5, none⟩ (.int .i64 a.y)).setCell ⟨rb, 6, none⟩ (.int .i64 a.vx)).setCell ⟨rb, 7, none⟩ (.int .i64 a.vy)).setCell ⟨rb, 8, none⟩ (.int .i64 a.h)).setCell ⟨rb, 9, none⟩ (.int .i64 a.p)).setCell ⟨rb, 10, none⟩ (.int .i64 a.l)).cell? ⟨rb, 5, none⟩ = some (.int .i64 a.y) ∧ (((((((((((W.setCell ⟨rb, 0, none⟩ (.int .i64 a.s)).setCell ⟨rb, 1, none⟩ (.int .i64 a.i)).setCell ⟨rb, 2, none⟩ (.int .i64 a.g)).setCell ⟨rb, 3, none⟩ (.int .i64 a.m)).setCell ⟨rb, 4, none⟩ (.int .i64 a.x)).setCell ⟨rb, 5, none⟩ (.int .i64 a.y)).setCell ⟨rb, 6, none⟩ (.int .i64 a.vx)).setCell ⟨rb, 7, none⟩ (.int .i64 a.vy)).setCell ⟨rb, 8, none⟩ (.int .i64 a.h)).setCell ⟨rb, 9, none⟩ (.int .i64 a.p)).setCell ⟨rb, 10, none⟩ (.int .i64 a.l)).cell? ⟨rb, 6, none⟩ = some (.int .i64 a.vx) ∧ (((((((((((W.setCell ⟨rb, 0, none⟩ (.int .i64 a.s)).setCell ⟨rb, 1, none⟩ (.int .i64 a.i)).setCell ⟨rb, 2, none⟩ (.int .i64 a.g)).setCell ⟨rb, 3, none⟩ (.int .i64 a.m)).setCell ⟨rb, 4, none⟩ (.int .i64 a.x)).setCell ⟨rb, 5, none⟩ (.int .i64 a.y)).setCell ⟨rb, 6, none⟩ (.int .i64 a.vx)).setCell ⟨rb, 7, none⟩ (.int .i64 a.vy)).setCell ⟨rb, 8, none⟩ (.int .i64 a.h)).setCell ⟨rb, 9, none⟩ (.int .i64 a.p)).setCell ⟨rb, 10, none⟩ (.int .i64 a.l)).cell? ⟨rb, 7, none⟩ = some (.int .i64 a.vy) ∧ (((((((((((W.setCell ⟨rb, 0, none⟩ (.int .i64 a.s)).setCell ⟨rb, 1, none⟩ (.int .i64 a.i)).setCell ⟨rb, 2, none⟩ (.int .i64 a.g)).setCell ⟨rb, 3, none⟩ (.int .i64 a.m)).setCell ⟨rb, 4, none⟩ (.int .i64 a.x)).setCell ⟨rb, 5, none⟩ (.int .i64 a.y)).setCell ⟨rb, 6, none⟩ (.int .i64 a.vx)).setCell ⟨rb, 7, none⟩ (.int .i64 a.vy)).setCell ⟨rb, 8, none⟩ (.int .i64 a.h)).setCell ⟨rb, 9, none⟩ (.int .i64 a.p)).setCell ⟨rb, 10, none⟩ (.int .i64 a.l)).cell? ⟨rb, 8, none⟩ = some (.int .i64 a.h) ∧ (((((((((((W.setCell ⟨rb, 0, none⟩ (.int .i64 a.s)).setCell ⟨rb, 1, none⟩ (.int .i64 a.i)).setCell ⟨rb, 2, none⟩ (.int .i64 a.g)).setCell ⟨rb, 3, none⟩ (.int .i64 a.m)).setCell ⟨rb, 4, none⟩ (.int .i64 a.x)).setCell ⟨rb, 5, none⟩ (.int .i64 a.y)).setCell ⟨rb, 6, none⟩ (.int .i64 a.vx)).setCell ⟨rb, 7, none⟩ (.int .i64 a.vy)).setCell ⟨rb, 8, none⟩ (.int .i64 a.h)).setCell ⟨rb, 9, none⟩ (.int .i64 a.p)).setCell ⟨rb, 10, none⟩ (.int .i64 a.l)).cell? ⟨rb, 9, none⟩ = some (.int .i64 a.p) ∧ (((((((((((W.setCell ⟨rb, 0, none⟩ (.int .i64 a.s)).setCell ⟨rb, 1, none⟩ (.int .i64 a.i)).setCell ⟨rb, 2, none⟩ (.int .i64 a.g)).setCell ⟨rb, 3, none⟩ (.int .i64 a.m)).setCell ⟨rb, 4, none⟩ (.int .i64 a.x)).setCell ⟨rb, 5, none⟩ (.int .i64 a.y)).setCell ⟨rb, 6, none⟩ (.int .i64 a.vx)).setCell ⟨rb, 7, none⟩ (.int .i64 a.vy)).setCell ⟨rb, 8, none⟩ (.int .i64 a.h)).setCell ⟨rb, 9, none⟩ (.int .i64 a.p)).setCell ⟨rb, 10, none⟩ (.int .i64 a.l)).cell? ⟨rb, 10, none⟩ = some (.int .i64 a.l)) ∧ Below w.heap.size w (((((((((((W.setCell ⟨rb, 0, none⟩ (.int .i64 a.s)).setCell ⟨rb, 1, none⟩ (.int .i64 a.i)).setCell ⟨rb, 2, none⟩ (.int .i64 a.g)).setCell ⟨rb, 3, none⟩ (.int .i64 a.m)).setCell ⟨rb, 4, none⟩ (.int .i64 a.x)).setCell ⟨rb, 5, none⟩ (.int .i64 a.y)).setCell ⟨rb, 6, none⟩ (.int .i64 a.vx)).setCell ⟨rb, 7, none⟩ (.int .i64 a.vy)).setCell ⟨rb, 8, none⟩ (.int .i64 a.h)).setCell ⟨rb, 9, none⟩ (.int .i64 a.p)).setCell ⟨rb, 10, none⟩ (.int .i64 a.l))) :=
  ⟨(Bx.b11 h.res).1, (Bx.b11 h.res).2, Lib.hid ⟨(Bx.b11 (Bx.set11 h.res (.int .i64 a.s) (.int .i64 a.i) (.int .i64 a.g) (.int .i64 a.m) (.int .i64 a.x) (.int .i64 a.y) (.int .i64 a.vx) (.int .i64 a.vy) (.int .i64 a.h) (.int .i64 a.p) (.int .i64 a.l))).1, Bx.put11 h.bel (Nat.le_of_lt h.rb) (.int .i64 a.s) (.int .i64 a.i) (.int .i64 a.g) (.int .i64 a.m) (.int .i64 a.x) (.int .i64 a.y) (.int .i64 a.vx) (.int .i64 a.vy) (.int .i64 a.h) (.int .i64 a.p) (.int .i64 a.l)⟩⟩
end
end Go.Proofs.YtljaahemlcaffaaGreat
namespace Go.Proofs.YtljaahemlcaffaaGreat
open Go.RowKit Pz
set_option linter.unusedVariables false

set_option maxHeartbeats 16000000 in
set_option maxRecDepth 100000 in
/-- components taken away -/
theorem rwithout_any (b : Bn) (n : Int) (hm : Fit n) (w : World) : Calls Tryz.prog 27 #[b.val, .int .i64 n] w fun e w' => e = .returned (withoutB b n).val ∧ Below w.heap.size w w' := by
  have B0 : Hid (∀ W, Calls Tryz.prog 55 #[.int .i64 n, .int .i64 1] W fun e w' => e = .returned (.bool (bitB n 0)) ∧ W = w') := Lib.hid fun W => bit_any n hm 0 (by decide) W
  have B1 : Hid (∀ W, Calls Tryz.prog 55 #[.int .i64 n, .int .i64 2] W fun e w' => e = .returned (.bool (bitB n 1)) ∧ W = w') := Lib.hid fun W => bit_any n hm 1 (by decide) W
  have B2 : Hid (∀ W, Calls Tryz.prog 55 #[.int .i64 n, .int .i64 4] W fun e w' => e = .returned (.bool (bitB n 2)) ∧ W = w') := Lib.hid fun W => bit_any n hm 2 (by decide) W
  have B3 : Hid (∀ W, Calls Tryz.prog 55 #[.int .i64 n, .int .i64 8] W fun e w' => e = .returned (.bool (bitB n 3)) ∧ W = w') := Lib.hid fun W => bit_any n hm 3 (by decide) W
  have B4 : Hid (∀ W, Calls Tryz.prog 55 #[.int .i64 n, .int .i64 16] W fun e w' => e = .returned (.bool (bitB n 4)) ∧ W = w') := Lib.hid fun W => bit_any n hm 4 (by decide) W
  obtain ⟨bbs, bbi, bbg, bbm, bbx, bby, bbvx, bbvy, bbh, bbp, bbl⟩ := b
  unfold withoutB
  simp only [Bn.val] at *
  clear hm
  generalize ht0 : bitB n 0 = t0 at *
  generalize ht1 : bitB n 1 = t1 at *
  generalize ht2 : bitB n 2 = t2 at *
  generalize ht3 : bitB n 3 = t3 at *
  generalize ht4 : bitB n 4 = t4 at *
  obtain ⟨Xx, Hx⟩ : ∃ X, (if t0 = true then 0 else bbx) = X := ⟨_, rfl⟩
  obtain ⟨Xy, Hy⟩ : ∃ X, (if t0 = true then 0 else bby) = X := ⟨_, rfl⟩
  obtain ⟨Xvx, Hvx⟩ : ∃ X, (if t1 = true then 0 else bbvx) = X := ⟨_, rfl⟩
  obtain ⟨Xvy, Hvy⟩ : ∃ X, (if t1 = true then 0 else bbvy) = X := ⟨_, rfl⟩
  obtain ⟨Xh, Hh⟩ : ∃ X, (if t2 = true then 0 else bbh) = X := ⟨_, rfl⟩
  obtain ⟨Xp, Hp⟩ : ∃ X, (if t3 = true then 0 else bbp) = X := ⟨_, rfl⟩
  obtain ⟨Xl, Hl⟩ : ∃ X, (if t4 = true then 0 else bbl) = X := ⟨_, rfl⟩
  rw [Hx, Hy, Hvx, Hvy, Hh, Hp, Hl]
  replace Hx := Lib.hid Hx
  replace Hy := Lib.hid Hy
  replace Hvx := Lib.hid Hvx
  replace Hvy := Lib.hid Hvy
  replace Hh := Lib.hid Hh
  replace Hp := Lib.hid Hp
  replace Hl := Lib.hid Hl
  have es := sub_and bbm n
  obtain ⟨Xm, hXm⟩ : ∃ X, bits .andNot .i64 bbm n = X := ⟨_, rfl⟩
  rw [hXm] at es ⊢
  clear hXm
  have HB : Hid (W2 w (w.heap.size + 1) ⟨bbs, bbi, bbg, bbm, bbx, bby, bbvx, bbvy, bbh, bbp, bbl⟩ Bn.zero ((w.alloc (.cells #[.int .i64 bbs, .int .i64 bbi, .int .i64 bbg, .int .i64 bbm, .int .i64 bbx, .int .i64 bby, .int .i64 bbvx, .int .i64 bbvy, .int .i64 bbh, .int .i64 bbp, .int .i64 bbl] 42)).alloc (.cells #[.int .i64 0, .int .i64 0, .int .i64 0, .int .i64 0, .int .i64 0, .int .i64 0, .int .i64 0, .int .i64 0, .int .i64 0, .int .i64 0, .int .i64 0] 42))) := Lib.hid ⟨bel2 w _ _, at2a w _ _, at2b w _ _, at2b w _ _, by omega⟩
  go_enter Tryz.func27, Tryz.ntmps27
  go_upto_region 1 with fail
  generalize (w.alloc (.cells #[.int .i64 bbs, .int .i64 bbi, .int .i64 bbg, .int .i64 bbm, .int .i64 bbx, .int .i64 bby, .int .i64 bbvx, .int .i64 bbvy, .int .i64 bbh, .int .i64 bbp, .int .i64 bbl] 42)).alloc (.cells #[.int .i64 0, .int .i64 0, .int .i64 0, .int .i64 0, .int .i64 0, .int .i64 0, .int .i64 0, .int .i64 0, .int .i64 0, .int .i64 0, .int .i64 0] 42) = V0 at *
  obtain ⟨⟨k0, k1, k2, k3, k4, k5, k6, k7, k8, k9, k10⟩, ⟨f0, f1, f2, f3, f4, f5, f6, f7, f8, f9, f10⟩⟩ := Bx.b11 HB.out.own
  obtain ⟨⟨m0, m1, m2, m3, m4, m5, m6, m7, m8, m9, m10⟩, ⟨g0, g1, g2, g3, g4, g5, g6, g7, g8, g9, g10⟩⟩ := Bx.b11 HB.out.oth
  go_upto_if 6 with (go_at_call 55; with_reducible refine (B0.out _).mono ?_; rintro e w' ⟨rfl, rfl⟩)
  go_cut [] (fun wx => W2 w (w.heap.size + 1) ⟨bbs, bbi, bbg, bbm, Xx, Xy, bbvx, bbvy, bbh, bbp, bbl⟩ Bn.zero wx)
  case first =>
    cases t0 with
    | false =>
      go_wp2
      go_meet
      rw [← show bbx = Xx from Hx.out]
      rw [← show bby = Xy from Hy.out]
      exact HB.out
    | true =>
      go_wp2
      go_meet
      rw [← show 0 = Xx from Hx.out]
      rw [← show 0 = Xy from Hy.out]
      exact (HB.out.set_x 0).set_y 0
  clear k0 k1 k2 k3 k4 k5 k6 k7 k8 k9 k10 f0 f1 f2 f3 f4 f5 f6 f7 f8 f9 f10 m0 m1 m2 m3 m4 m5 m6 m7 m8 m9 m10 g0 g1 g2 g3 g4 g5 g6 g7 g8 g9 g10 HB
  generalize wc = V1 at *
  have HB := Lib.hid hcut
  clear hcut
  obtain ⟨⟨k0, k1, k2, k3, k4, k5, k6, k7, k8, k9, k10⟩, ⟨f0, f1, f2, f3, f4, f5, f6, f7, f8, f9, f10⟩⟩ := Bx.b11 HB.out.own
  obtain ⟨⟨m0, m1, m2, m3, m4, m5, m6, m7, m8, m9, m10⟩, ⟨g0, g1, g2, g3, g4, g5, g6, g7, g8, g9, g10⟩⟩ := Bx.b11 HB.out.oth
  go_upto_if 10 with (go_at_call 55; with_reducible refine (B1.out _).mono ?_; rintro e w' ⟨rfl, rfl⟩)
  go_cut [] (fun wx => W2 w (w.heap.size + 1) ⟨bbs, bbi, bbg, bbm, Xx, Xy, Xvx, Xvy, bbh, bbp, bbl⟩ Bn.zero wx)
  case first =>
    cases t1 with
    | false =>
      go_wp2
      go_meet
      rw [← show bbvx = Xvx from Hvx.out]
      rw [← show bbvy = Xvy from Hvy.out]
      exact HB.out
    | true =>
      go_wp2
      go_meet
      rw [← show 0 = Xvx from Hvx.out]
      rw [← show 0 = Xvy from Hvy.out]
      exact (HB.out.set_vx 0).set_vy 0
  clear k0 k1 k2 k3 k4 k5 k6 k7 k8 k9 k10 f0 f1 f2 f3 f4 f5 f6 f7 f8 f9 f10 m0 m1 m2 m3 m4 m5 m6 m7 m8 m9 m10 g0 g1 g2 g3 g4 g5 g6 g7 g8 g9 g10 HB
  generalize wc = V2 at *
  have HB := Lib.hid hcut
  clear hcut
  obtain ⟨⟨k0, k1, k2, k3, k4, k5, k6, k7, k8, k9, k10⟩, ⟨f0, f1, f2, f3, f4, f5, f6, f7, f8, f9, f10⟩⟩ := Bx.b11 HB.out.own
  obtain ⟨⟨m0, m1, m2, m3, m4, m5, m6, m7, m8, m9, m10⟩, ⟨g0, g1, g2, g3, g4, g5, g6, g7, g8, g9, g10⟩⟩ := Bx.b11 HB.out.oth
  go_upto_if 14 with (go_at_call 55; with_reducible refine (B2.out _).mono ?_; rintro e w' ⟨rfl, rfl⟩)
  go_cut [] (fun wx => W2 w (w.heap.size + 1) ⟨bbs, bbi, bbg, bbm, Xx, Xy, Xvx, Xvy, Xh, bbp, bbl⟩ Bn.zero wx)
  case first =>
    cases t2 with
    | false =>
      go_wp2
      go_meet
      rw [← show bbh = Xh from Hh.out]
      exact HB.out
    | true =>
      go_wp2
      go_meet
      rw [← show 0 = Xh from Hh.out]
      exact HB.out.set_h 0
  clear k0 k1 k2 k3 k4 k5 k6 k7 k8 k9 k10 f0 f1 f2 f3 f4 f5 f6 f7 f8 f9 f10 m0 m1 m2 m3 m4 m5 m6 m7 m8 m9 m10 g0 g1 g2 g3 g4 g5 g6 g7 g8 g9 g10 HB
  generalize wc = V3 at *
  have HB := Lib.hid hcut
  clear hcut
  obtain ⟨⟨k0, k1, k2, k3, k4, k5, k6, k7, k8, k9, k10⟩, ⟨f0, f1, f2, f3, f4, f5, f6, f7, f8, f9, f10⟩⟩ := Bx.b11 HB.out.own
  obtain ⟨⟨m0, m1, m2, m3, m4, m5, m6, m7, m8, m9, m10⟩, ⟨g0, g1, g2, g3, g4, g5, g6, g7, g8, g9, g10⟩⟩ := Bx.b11 HB.out.oth
  go_upto_if 17 with (go_at_call 55; with_reducible refine (B3.out _).mono ?_; rintro e w' ⟨rfl, rfl⟩)
  go_cut [] (fun wx => W2 w (w.heap.size + 1) ⟨bbs, bbi, bbg, bbm, Xx, Xy, Xvx, Xvy, Xh, Xp, bbl⟩ Bn.zero wx)
  case first =>
    cases t3 with
    | false =>
      go_wp2
      go_meet
      rw [← show bbp = Xp from Hp.out]
      exact HB.out
    | true =>
      go_wp2
      go_meet
      rw [← show 0 = Xp from Hp.out]
      exact HB.out.set_p 0
  clear k0 k1 k2 k3 k4 k5 k6 k7 k8 k9 k10 f0 f1 f2 f3 f4 f5 f6 f7 f8 f9 f10 m0 m1 m2 m3 m4 m5 m6 m7 m8 m9 m10 g0 g1 g2 g3 g4 g5 g6 g7 g8 g9 g10 HB
  generalize wc = V4 at *
  have HB := Lib.hid hcut
  clear hcut
  obtain ⟨⟨k0, k1, k2, k3, k4, k5, k6, k7, k8, k9, k10⟩, ⟨f0, f1, f2, f3, f4, f5, f6, f7, f8, f9, f10⟩⟩ := Bx.b11 HB.out.own
  obtain ⟨⟨m0, m1, m2, m3, m4, m5, m6, m7, m8, m9, m10⟩, ⟨g0, g1, g2, g3, g4, g5, g6, g7, g8, g9, g10⟩⟩ := Bx.b11 HB.out.oth
  go_upto_if 20 with (go_at_call 55; with_reducible refine (B4.out _).mono ?_; rintro e w' ⟨rfl, rfl⟩)
  go_cut [] (fun wx => W2 w (w.heap.size + 1) ⟨bbs, bbi, bbg, bbm, Xx, Xy, Xvx, Xvy, Xh, Xp, Xl⟩ Bn.zero wx)
  case first =>
    cases t4 with
    | false =>
      go_wp2
      go_meet
      rw [← show bbl = Xl from Hl.out]
      exact HB.out
    | true =>
      go_wp2
      go_meet
      rw [← show 0 = Xl from Hl.out]
      exact HB.out.set_l 0
  clear k0 k1 k2 k3 k4 k5 k6 k7 k8 k9 k10 f0 f1 f2 f3 f4 f5 f6 f7 f8 f9 f10 m0 m1 m2 m3 m4 m5 m6 m7 m8 m9 m10 g0 g1 g2 g3 g4 g5 g6 g7 g8 g9 g10 HB
  generalize wc = V5 at *
  have HB := Lib.hid hcut
  clear hcut
  obtain ⟨⟨k0, k1, k2, k3, k4, k5, k6, k7, k8, k9, k10⟩, ⟨f0, f1, f2, f3, f4, f5, f6, f7, f8, f9, f10⟩⟩ := Bx.b11 HB.out.own
  obtain ⟨⟨m0, m1, m2, m3, m4, m5, m6, m7, m8, m9, m10⟩, ⟨g0, g1, g2, g3, g4, g5, g6, g7, g8, g9, g10⟩⟩ := Bx.b11 HB.out.oth
  have HB6 := Lib.hid (HB.out.set_m (Xm))
  go_upto_region 14 with fail
  clear k0 k1 k2 k3 k4 k5 k6 k7 k8 k9 k10 f0 f1 f2 f3 f4 f5 f6 f7 f8 f9 f10 m0 m1 m2 m3 m4 m5 m6 m7 m8 m9 m10 g0 g1 g2 g3 g4 g5 g6 g7 g8 g9 g10 HB
  generalize V5.setCell ⟨w.heap.size, 3, none⟩ (.int .i64 (Xm)) = V6 at *
  obtain ⟨⟨k0, k1, k2, k3, k4, k5, k6, k7, k8, k9, k10⟩, _⟩ := Bx.b11 HB6.out.own
  obtain ⟨⟨n0, n1, n2, n3, n4, n5, n6, n7, n8, n9, n10⟩, ⟨p0, p1, p2, p3, p4, p5, p6, p7, p8, p9, p10⟩, HF⟩ := HB6.out.fin
  clear HB6
  go_wp2
  obtain ⟨⟨r0, r1, r2, r3, r4, r5, r6, r7, r8, r9, r10⟩, hbel⟩ := HF.out
  exact bodyPost_ret (v := .agg #[.int .i64 bbs, .int .i64 bbi, .int .i64 bbg, .int .i64 Xm, .int .i64 Xx, .int .i64 Xy, .int .i64 Xvx, .int .i64 Xvy, .int .i64 Xh, .int .i64 Xp, .int .i64 Xl]) (by simp [results, Tryz.results27, go_sem, r0, r1, r2, r3, r4, r5, r6, r7, r8, r9, r10]) rfl ⟨rfl, hbel⟩
set_option maxHeartbeats 8000000 in
theorem before_any (s i g s' i' g' : Int) (w : World) : Calls Tryz.prog 44 #[.agg #[.int .i64 s, .int .i64 i, .int .i64 g], .agg #[.int .i64 s', .int .i64 i', .int .i64 g']] w fun e w' => e = .returned (.bool (before (s, i, g) (s', i', g'))) ∧ Below w.heap.size w w' := by
  have FIN := Lib.hid (bel2 w (.cells #[.int .i64 s, .int .i64 i, .int .i64 g] 40) (.cells #[.int .i64 s', .int .i64 i', .int .i64 g'] 40))
  obtain ⟨⟨c0, c1, c2⟩, _⟩ := Bx.b3 (at2a w (.cells #[.int .i64 s, .int .i64 i, .int .i64 g] 40) (.cells #[.int .i64 s', .int .i64 i', .int .i64 g'] 40))
  obtain ⟨⟨d0, d1, d2⟩, _⟩ := Bx.b3 (at2b w (.cells #[.int .i64 s, .int .i64 i, .int .i64 g] 40) (.cells #[.int .i64 s', .int .i64 i', .int .i64 g'] 40))
  unfold before
  simp only
  by_cases h1 : s ≠ s'
  · rw [if_pos h1]
    have t1 : (s != s') = true := bne_iff_ne.2 h1
    obtain ⟨b, t2⟩ : ∃ b, decide (s < s') = b := ⟨_, rfl⟩
    rw [t2]
    clear h1
    go_enter Tryz.func44, Tryz.ntmps44
    go_wp2
    go_ret
    exact ⟨rfl, FIN.out⟩
  · rw [if_neg h1]
    have t1 : (s != s') = false := by rw [bne, beq_iff_eq.2 (by omega)]; rfl
    by_cases h2 : i ≠ i'
    · rw [if_pos h2]
      have t3 : (i != i') = true := bne_iff_ne.2 h2
      obtain ⟨b, t4⟩ : ∃ b, decide (i < i') = b := ⟨_, rfl⟩
      rw [t4]
      clear h1 h2
      go_enter Tryz.func44, Tryz.ntmps44
      go_wp2
      go_ret
      exact ⟨rfl, FIN.out⟩
    · rw [if_neg h2]
      have t3 : (i != i') = false := by rw [bne, beq_iff_eq.2 (by omega)]; rfl
      obtain ⟨b, t5⟩ : ∃ b, decide (g < g') = b := ⟨_, rfl⟩
      rw [t5]
      clear h1 h2
      go_enter Tryz.func44, Tryz.ntmps44
      go_wp2
      go_ret
      exact ⟨rfl, FIN.out⟩
end Go.Proofs.YtljaahemlcaffaaGreat
namespace Go.Proofs.YtljaahemlcaffaaGreat
open Go.RowKit Pz
set_option linter.unusedVariables false

end Go.Proofs.YtljaahemlcaffaaGreat
namespace Go.Proofs.YtljaahemlcaffaaGreat
open Go Go.RowKit
set_option linter.unusedVariables false

section
variable {α : Type} (enc : α → List Value) (T s : Nat)
/-- the slice v has just these elements; its block lies from B on -/
def Rw (W : World) (B : Nat) (v : Value) (l : List α) : Prop :=
  (v = .slice none 0 0 ∧ l = []) ∨ ∃ (g off cap : Nat) (cur : Array Value), v = .slice (some ⟨g, off, none⟩) l.length cap ∧ B ≤ g ∧ W.heap[g]? = some (.cells cur T (0, 0)) ∧ l.length ≤ cap ∧ cap ≤ 9223372036854775807 ∧ off + cap * s ≤ cur.size ∧
    ∀ (j : Nat) (x : α), l[j]? = some x → ∀ (c : Nat) (u : Value), (enc x)[c]? = some u → cur[off + (j * s + c)]? = some u
end
section
variable {α : Type} {enc : α → List Value} {T s : Nat} {W W' : World} {B : Nat} {v : Value} {l : List α}
theorem flat_len (he : ∀ x, (enc x).length = s) : ∀ l : List α, (l.flatMap enc).length = l.length * s
  | [] => by simp
  | x :: r => by
    rw [List.flatMap_cons, List.length_append, he, flat_len he r, List.length_cons, Nat.succ_mul, Nat.add_comm]
theorem flat_at (he : ∀ x, (enc x).length = s) : ∀ (l : List α) (j : Nat) (x : α), l[j]? = some x → ∀ c, c < s → (l.flatMap enc)[j * s + c]? = (enc x)[c]?
  | [], j, x, h, _, _ => by simp at h
  | y :: r, 0, x, h, c, hc => by
    simp only [List.getElem?_cons_zero, Option.some.injEq] at h
    subst h
    rw [List.flatMap_cons, Nat.zero_mul, Nat.zero_add, List.getElem?_append_left (by rw [he]; exact hc)]
  | y :: r, j + 1, x, h, c, hc => by
    rw [List.getElem?_cons_succ] at h
    rw [List.flatMap_cons, List.getElem?_append_right (by rw [he, Nat.succ_mul]; omega), he, Nat.succ_mul, show j * s + s + c - s = j * s + c by omega]
    exact flat_at he r j x h c hc
theorem flat_inv (he : ∀ x, (enc x).length = s) : ∀ (l : List α) (i : Nat) (u : Value), (l.flatMap enc)[i]? = some u → ∃ j x c, l[j]? = some x ∧ (enc x)[c]? = some u ∧ i = j * s + c
  | [], i, u, h => by simp at h
  | y :: r, i, u, h => by
    rw [List.flatMap_cons] at h
    by_cases hi : i < s
    · rw [List.getElem?_append_left (by rw [he]; exact hi)] at h
      exact ⟨0, y, i, rfl, h, by omega⟩
    · rw [List.getElem?_append_right (by rw [he]; omega), he] at h
      obtain ⟨j, x, c, h1, h2, h3⟩ := flat_inv he r _ u h
      exact ⟨j + 1, x, c, h1, h2, by rw [Nat.succ_mul]; omega⟩
theorem rw_nil (W : World) (B : Nat) : Rw enc T s W B (.slice none 0 0) [] := .inl ⟨rfl, rfl⟩
theorem Rw.form (h : Rw enc T s W B v l) : ∃ A c, v = .slice A l.length c := by
  rcases h with ⟨rfl, rfl⟩ | ⟨g, off, cap, cur, rfl, _⟩
  · exact ⟨none, 0, rfl⟩
  · exact ⟨_, _, rfl⟩
theorem Rw.blk (h : Rw enc T s W B v l) {b : Nat} (hb : v.ownBlock = some b) : B ≤ b ∧ ∃ cur, W.heap[b]? = some (.cells cur T (0, 0)) := by
  rcases h with ⟨rfl, rfl⟩ | ⟨g, off, cap, cur, rfl, h1, h2, _⟩
  · cases hb
  · cases hb
    exact ⟨h1, cur, h2⟩
theorem Rw.kept (h : Rw enc T s W B v l) (hk : ∀ b, v.ownBlock = some b → W'.heap[b]? = W.heap[b]?) : Rw enc T s W' B v l := by
  rcases h with h | ⟨g, off, cap, cur, rfl, h1, h2, h3⟩
  · exact .inl h
  · exact .inr ⟨g, off, cap, cur, rfl, h1, (hk g rfl).trans h2, h3⟩
theorem Rw.below (h : Rw enc T s W B v l) (hb : Below W.heap.size W W') : Rw enc T s W' B v l := h.kept fun b hv => by
  obtain ⟨_, cur, h2⟩ := h.blk hv
  exact hb.block b ((Array.getElem?_eq_some_iff.1 h2).1)
theorem Rw.base (h : Rw enc T s W B v l) {B' : Nat} (hb : B' ≤ B) : Rw enc T s W B' v l := by
  rcases h with h | ⟨g, off, cap, cur, rfl, h1, h2⟩
  · exact .inl h
  · exact .inr ⟨g, off, cap, cur, rfl, by omega, h2⟩
theorem Rw.at_ (h : Rw enc T s W B v l) {j : Nat} {x : α} (hj : l[j]? = some x) : ∃ g off c, v = .slice (some ⟨g, off, none⟩) l.length c ∧ B ≤ g ∧ g < W.heap.size ∧ ∀ (c : Nat) (u : Value), (enc x)[c]? = some u → W.cell? ⟨g, off + (j * s + c), none⟩ = some u ∧ W.frozen? ⟨g, off + (j * s + c), none⟩ = false := by
  rcases h with ⟨rfl, rfl⟩ | ⟨g, off, cap, cur, rfl, h1, h2, _, _, _, h3⟩
  · simp at hj
  · refine ⟨g, off, cap, rfl, h1, (Array.getElem?_eq_some_iff.1 h2).1, fun c u hu => ?_⟩
    have := h3 j x hj c u hu
    simp [World.cell?, World.frozen?, h2, this]
theorem setCells_other (b : Nat) : ∀ (vs : List Value) (o : Nat) (w : World) (k : Nat), k ≠ b → (w.setCells b o vs).heap[k]? = w.heap[k]?
  | [], _, _, _, _ => rfl
  | v :: r, o, w, k, hk => by rw [World.setCells, setCells_other b r _ _ k hk, Below.heap_setCell _ _ _ _ hk]
theorem setCells_size (b : Nat) : ∀ (vs : List Value) (o : Nat) (w : World), (w.setCells b o vs).heap.size = w.heap.size ∧ (w.setCells b o vs).os = w.os ∧ (w.setCells b o vs).tape = w.tape ∧ (w.setCells b o vs).output = w.output
  | [], _, _ => ⟨rfl, rfl, rfl, rfl⟩
  | v :: r, o, w => by
    obtain ⟨h1, h2, h3, h4⟩ := setCells_size b r (o + 1) (w.setCell ⟨b, o, none⟩ v)
    exact ⟨h1.trans (by simp), h2, h3, h4⟩
theorem setCells_same (b : Nat) {T : Nat} : ∀ (vs : List Value) (o : Nat) (w : World) (cur : Array Value), w.heap[b]? = some (.cells cur T (0, 0)) → ∃ cur' : Array Value, (w.setCells b o vs).heap[b]? = some (.cells cur' T (0, 0)) ∧ cur'.size = cur.size ∧
    (∀ k, k < o → cur'[k]? = cur[k]?) ∧ (∀ (j : Nat) (u : Value), vs[j]? = some u → o + j < cur.size → cur'[o + j]? = some u)
  | [], o, w, cur, h => ⟨cur, h, rfl, fun _ _ => rfl, fun j u hj => by simp at hj⟩
  | v :: r, o, w, cur, h => by
    have h1 := heap_setCell_same w b o cur T v h
    obtain ⟨cur', e1, e2, e3, e4⟩ := setCells_same b r (o + 1) (w.setCell ⟨b, o, none⟩ v) _ h1
    refine ⟨cur', e1, e2.trans (by simp), fun k hk => ?_, fun j u hj hlt => ?_⟩
    · rw [e3 k (by omega), Array.getElem?_setIfInBounds, if_neg (by omega)]
    · cases j with
      | zero =>
        simp only [List.getElem?_cons_zero, Option.some.injEq] at hj
        subst hj
        rw [Nat.add_zero, e3 o (by omega), Array.getElem?_setIfInBounds, if_pos rfl, if_pos (by omega)]
      | succ j =>
        rw [List.getElem?_cons_succ] at hj
        have := e4 j u hj (by simpa using (show o + 1 + j < cur.size by omega))
        rwa [show o + (j + 1) = o + 1 + j by omega]
/-- elements more at its end -/
theorem Rw.app {P : Program} {t ty : TypeId} {z : Value} {bytes : Nat} (ht : P.underlying t = some (.slice T)) (hi : (P.info? T).map (fun i => (i.zero, i.size, i.bytes)) = some (some z, s, bytes)) (hzs : z.cells.size = s) (hs : 0 < s)
    (he : ∀ x, (enc x).length = s) (h1 : ∀ x, ∀ u ∈ enc x, u.oneCell' = true)
    (h : Rw enc T s W B v l) (hB : B ≤ W.heap.size) (y : List α) (a : Addr) (c : Nat) (hy : ∀ (j : Nat) (x : α), y[j]? = some x → ∀ (c : Nat) (u : Value), (enc x)[c]? = some u → W.cell? (a.add (j * s + c)) = some u)
    (hn : l.length + y.length ≤ 1000000) (hby : bytes ≤ 1000) (hne : 0 < y.length ∨ v ≠ .slice none 0 0) :
    ∃ v' w', (Builtin.append_ #[t, t] ty #[v, .slice (some a) y.length c]).run P W = .ok v' w' ∧ Rw enc T s w' B v' (l ++ y) ∧ W.grownBy w' v.ownBlock ∧ ∀ b, v'.ownBlock = some b → v.ownBlock = some b ∨ W.heap.size ≤ b := by
  obtain ⟨i, hi, hz, h2, h3⟩ := info_parts hi
  have hnews : ∀ j u, (y.flatMap enc)[j]? = some u → W.cell? (a.add j) = some u := fun j u hj => by
    obtain ⟨k, x, c, e1, e2, rfl⟩ := flat_inv he y j u hj
    exact hy k x e1 c u e2
  have hone : ∀ u ∈ y.flatMap enc, u.oneCell' = true := fun u hu => by
    obtain ⟨x, _, hx⟩ := List.mem_flatMap.1 hu
    exact h1 x u hx
  have hlen := flat_len he y
  have hbb : (l.length + y.length) * bytes ≤ 140737488355328 := Nat.le_trans (Nat.mul_le_mul hn hby) (by decide)
  -- a new block that holds all
  have fresh : ∀ (old : Nat), old < l.length + y.length →
      Rw enc T s (W.drew.alloc (.cells ((l.flatMap enc).toArray ++ (y.flatMap enc).toArray ++ Builtin.zeroCells z.cells (grownCap W (l.length + y.length) old T - (l.length + y.length))) T)) B (.slice (some ⟨W.heap.size, 0, none⟩) (l.length + y.length) (grownCap W (l.length + y.length) old T)) (l ++ y) := by
    intro old ho
    have hge := grownCap_ge W (l.length + y.length) old T
    have hcm : grownCap W (l.length + y.length) old T ≤ maxLen := grownCap_le_maxLen W (l.length + y.length) old T (by unfold maxLen; omega)
    refine .inr ⟨W.heap.size, 0, _, _, by rw [List.length_append], hB, heap_alloc_new W.drew _, by rw [List.length_append]; exact hge, hcm, ?_, fun j x hj c u hu => ?_⟩
    · simp only [Array.size_append, List.size_toArray, size_zeroCells, hzs, flat_len he, ← Nat.add_mul, Nat.zero_add]
      exact Nat.mul_le_mul_right _ (by omega)
    · have hc : c < s := by have := (List.getElem?_eq_some_iff.1 hu).1; rw [he] at this; exact this
      have hf := flat_at he (l ++ y) j x hj c hc
      rw [hu, List.flatMap_append] at hf
      have hlt := (List.getElem?_eq_some_iff.1 hf).1
      rw [Nat.zero_add, Array.getElem?_append_left (by simpa using hlt)]
      simpa using hf
  have fgrow : ∀ (old : Nat) (row : Option Nat), W.grownBy (W.drew.alloc (.cells ((l.flatMap enc).toArray ++ (y.flatMap enc).toArray ++ Builtin.zeroCells z.cells (grownCap W (l.length + y.length) old T - (l.length + y.length))) T)) row :=
    fun old row => ⟨rfl, rfl, rfl, by simp, fun k hk _ => Below.heap_alloc W.drew _ k hk⟩
  rcases h with ⟨rfl, rfl⟩ | ⟨g, off, cap, cur, rfl, hg1, hg2, hg3, hg4, hg5, hg6⟩
  · have h0 : 0 < y.length := hne.resolve_right (fun e => e rfl)
    have hr := run_append_nil (P := P) W t ty T i z ht hi hz a y.length c (y.flatMap enc) (by rw [hlen, h2]) hnews h0 (by simp only [List.length_nil] at hn; omega) (by rw [h3]; simp only [List.length_nil, Nat.zero_add] at hbb; omega)
    have hfr := fresh 0 (by omega)
    have hfg := fgrow 0 none
    simp only [List.length_nil, Nat.zero_add, List.flatMap_nil, List.nil_append] at hfr hfg
    refine ⟨_, _, hr, ?_, ?_, fun b hb => .inr ?_⟩
    · simpa using hfr
    · simpa [Value.ownBlock] using hfg
    · simp only [Value.ownBlock, Option.some.injEq] at hb; omega
  · by_cases hroom : l.length + y.length ≤ cap
    · have hsz : off + (l.length + y.length) * s ≤ cur.size := Nat.le_trans (Nat.add_le_add_left (Nat.mul_le_mul_right s hroom) off) hg5
      rw [Nat.add_mul] at hsz
      have hcell : ∀ j, j < (y.flatMap enc).length → (W.cell? ⟨g, off + l.length * i.size + j, none⟩).isSome = true ∧ W.frozen? ⟨g, off + l.length * i.size + j, none⟩ = false := fun j hj => by
        rw [hlen] at hj
        rw [h2]
        have hx : off + l.length * s + j < cur.size := by omega
        simp [World.cell?, World.frozen?, hg2, hx]
      have hr := run_append_room_cells (P := P) W t ty T i ht hi g off l.length cap a y.length c (y.flatMap enc) (by rw [hlen, h2]) hnews hone hroom (fun j hj => (hcell j hj).1) (fun j hj => (hcell j hj).2)
      refine ⟨_, _, hr, ?_, ?_, fun b hb => .inl hb⟩
      · obtain ⟨cur', e1, e2, e3, e4⟩ := setCells_same g (T := T) (y.flatMap enc) (off + l.length * i.size) W cur hg2
        refine .inr ⟨g, off, cap, cur', by rw [List.length_append], hg1, e1, by rw [List.length_append]; exact hroom, hg4, by rw [e2]; exact hg5, fun j x hj c u hu => ?_⟩
        have hc : c < s := by have := (List.getElem?_eq_some_iff.1 hu).1; rw [he] at this; exact this
        by_cases hjl : j < l.length
        · rw [List.getElem?_append_left hjl] at hj
          have hx : j * s + s ≤ l.length * s := by have := Nat.mul_le_mul_right s (show j + 1 ≤ l.length by omega); rwa [Nat.succ_mul] at this
          rw [e3 _ (by rw [h2]; omega)]
          exact hg6 j x hj c u hu
        · rw [List.getElem?_append_right (by omega)] at hj
          have hf := flat_at he y _ x hj c hc
          rw [hu] at hf
          have hjy := (List.getElem?_eq_some_iff.1 hj).1
          have hx : (j - l.length) * s + s ≤ y.length * s := by have := Nat.mul_le_mul_right s (show j - l.length + 1 ≤ y.length by omega); rwa [Nat.succ_mul] at this
          have hj2 : j * s = l.length * s + (j - l.length) * s := by rw [← Nat.add_mul]; congr 1; omega
          have := e4 _ u hf (by rw [h2]; omega)
          rw [h2] at this
          rwa [show off + (j * s + c) = off + l.length * s + ((j - l.length) * s + c) by omega]
      · obtain ⟨e1, e2, e3, e4⟩ := setCells_size g (y.flatMap enc) (off + l.length * i.size) W
        exact ⟨e2, e3, e4, by rw [e1]; exact Nat.le_refl _, fun k hk hne => setCells_other g _ _ _ k (fun e => hne (by rw [e]; rfl))⟩
    · have hold : ∀ j u, (l.flatMap enc)[j]? = some u → W.cell? ((⟨g, off, none⟩ : Addr).add j) = some u := fun j u hj => by
        obtain ⟨k, x, c, e1, e2, rfl⟩ := flat_inv he l j u hj
        rw [Addr.add_mid]
        simp [World.cell?, hg2, hg6 k x e1 c u e2]
      have hr := run_append_grow (P := P) W t ty T i z ht hi hz ⟨g, off, none⟩ l.length cap (l.flatMap enc) (by rw [flat_len he, h2]) hold a y.length c (y.flatMap enc) (by rw [hlen, h2]) hnews (by omega) (by omega) (growslice_fits (by omega) (by rw [h3]; exact hbb))
      refine ⟨_, _, hr, fresh cap (by omega), fgrow cap _, fun b hb => .inr ?_⟩
      simp only [Value.ownBlock, Option.some.injEq] at hb
      omega
end
end Go.Proofs.YtljaahemlcaffaaGreat
