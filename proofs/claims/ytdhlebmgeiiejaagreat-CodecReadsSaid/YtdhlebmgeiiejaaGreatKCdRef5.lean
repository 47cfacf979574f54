/- The document's codec: components are taken. Written by wip/tools/gencd5.py. -/
import Derived.Test.YtdhlebmgeiiejaaGreatKCdRef4
import Derived.Deep.DeepCutAuto
namespace Go.Proofs.YtdhlebmgeiiejaaGreat
open Go.RowKit Pz Cd
set_option linter.unusedVariables false
set_option linter.unusedSimpArgs false

abbrev BT : TypeId := 34
/-- while components are taken: the reader, the result's box -/
structure T0 (b : Nat) (w : World) (q : Rr) (W : World) : Prop where
  rq : RQ b w q W
  res : W.heap[w.heap.size]? = some (.cells #[.int .i64 0, .int .i64 0, .int .i64 0, .int .i64 0, .int .i64 0, .int .i64 0, .int .i64 0, .int .i64 0, .int .i64 0, .int .i64 0, .int .i64 0] BT (0, 0))
/-- and one's own box at block o -/
structure TR (b o : Nat) (w : World) (v : Bn) (q : Rr) (W : World) : Prop extends T0 b w q W where
  lo : w.heap.size < o
  own : W.heap[o]? = some (.cells #[.int .i64 v.s, .int .i64 v.i, .int .i64 v.g, .int .i64 v.m, .int .i64 v.x, .int .i64 v.y, .int .i64 v.vx, .int .i64 v.vy, .int .i64 v.h, .int .i64 v.p, .int .i64 v.l] BT (0, 0))
theorem T0.call {b : Nat} {w W W' : World} {q q' : Rr} (h : T0 b w q W) (hr : RQ b w q' W') (hg : W.grownBy W' (some b)) : T0 b w q' W' := by
  have hb := h.rq.lt
  exact ⟨hr, (hg.block _ (lt_of_row h.res) (by simp; omega)).trans h.res⟩
theorem T0.below {b : Nat} {w W W' : World} {q : Rr} (h : T0 b w q W) (hb : Below W.heap.size W W') : T0 b w q W' :=
  ⟨h.rq.below hb, (hb.block _ (lt_of_row h.res)).trans h.res⟩
theorem T0.start {b : Nat} {w : World} {q : Rr} (h : RQ b w q w) : T0 b w q (w.alloc (.cells #[.int .i64 0, .int .i64 0, .int .i64 0, .int .i64 0, .int .i64 0, .int .i64 0, .int .i64 0, .int .i64 0, .int .i64 0, .int .i64 0, .int .i64 0] BT)) := ⟨h.below (bel1 w _), at1 w _⟩
theorem TR.start {b : Nat} {w W : World} {q : Rr} (h : T0 b w q W) (v : Bn) : TR b W.heap.size w v q (W.alloc (.cells #[.int .i64 v.s, .int .i64 v.i, .int .i64 v.g, .int .i64 v.m, .int .i64 v.x, .int .i64 v.y, .int .i64 v.vx, .int .i64 v.vy, .int .i64 v.h, .int .i64 v.p, .int .i64 v.l] BT)) :=
  ⟨h.below (bel1 W _), lt_of_row h.res, at1 W _⟩
theorem TR.call {b o : Nat} {w W W' : World} {v : Bn} {q q' : Rr} (h : TR b o w v q W) (hr : RQ b w q' W') (hg : W.grownBy W' (some b)) : TR b o w v q' W' := by
  have hb := h.rq.lt
  have hl := h.lo
  exact ⟨h.toT0.call hr hg, hl, (hg.block _ (lt_of_row h.own) (by simp; omega)).trans h.own⟩
theorem TR.below {b o : Nat} {w W W' : World} {v : Bn} {q : Rr} (h : TR b o w v q W) (hb : Below W.heap.size W W') : TR b o w v q W' :=
  ⟨h.toT0.below hb, h.lo, (hb.block _ (lt_of_row h.own)).trans h.own⟩
theorem TR.set {b o : Nat} {w W : World} {v v' : Bn} {q : Rr} (h : TR b o w v q W) (j : Nat) (n : Int) (e : (#[.int .i64 v.s, .int .i64 v.i, .int .i64 v.g, .int .i64 v.m, .int .i64 v.x, .int .i64 v.y, .int .i64 v.vx, .int .i64 v.vy, .int .i64 v.h, .int .i64 v.p, .int .i64 v.l] : Array Value).setIfInBounds j (.int .i64 n) = #[.int .i64 v'.s, .int .i64 v'.i, .int .i64 v'.g, .int .i64 v'.m, .int .i64 v'.x, .int .i64 v'.y, .int .i64 v'.vx, .int .i64 v'.vy, .int .i64 v'.h, .int .i64 v'.p, .int .i64 v'.l]) : TR b o w v' q (W.setCell ⟨o, j, none⟩ (.int .i64 n)) := by
  have hb := h.rq.lt
  have hl := h.lo
  refine ⟨⟨⟨(Bx.ne (by omega) _).trans h.rq.rd, h.rq.ok, h.rq.len, hb, only_set h.rq.grow (.inr (by simp; omega)) _⟩, (Bx.ne (by omega) _).trans h.res⟩, hl, ?_⟩
  rw [← e]
  exact Bx.set h.own _
theorem T0.fin {b : Nat} {w W : World} {q : Rr} (h : T0 b w q W) (u : Bn) :
    ((((((((((((W.setCell ⟨w.heap.size, 0, none⟩ (.int .i64 u.s)).setCell ⟨w.heap.size, 1, none⟩ (.int .i64 u.i)).setCell ⟨w.heap.size, 2, none⟩ (.int .i64 u.g)).setCell ⟨w.heap.size, 3, none⟩ (.int .i64 u.m)).setCell ⟨w.heap.size, 4, none⟩ (.int .i64 u.x)).setCell ⟨w.heap.size, 5, none⟩ (.int .i64 u.y)).setCell ⟨w.heap.size, 6, none⟩ (.int .i64 u.vx)).setCell ⟨w.heap.size, 7, none⟩ (.int .i64 u.vy)).setCell ⟨w.heap.size, 8, none⟩ (.int .i64 u.h)).setCell ⟨w.heap.size, 9, none⟩ (.int .i64 u.p)).setCell ⟨w.heap.size, 10, none⟩ (.int .i64 u.l)).cell? ⟨w.heap.size, 0, none⟩ = some (.int .i64 u.s) ∧ (((((((((((W.setCell ⟨w.heap.size, 0, none⟩ (.int .i64 u.s)).setCell ⟨w.heap.size, 1, none⟩ (.int .i64 u.i)).setCell ⟨w.heap.size, 2, none⟩ (.int .i64 u.g)).setCell ⟨w.heap.size, 3, none⟩ (.int .i64 u.m)).setCell ⟨w.heap.size, 4, none⟩ (.int .i64 u.x)).setCell ⟨w.heap.size, 5, none⟩ (.int .i64 u.y)).setCell ⟨w.heap.size, 6, none⟩ (.int .i64 u.vx)).setCell ⟨w.heap.size, 7, none⟩ (.int .i64 u.vy)).setCell ⟨w.heap.size, 8, none⟩ (.int .i64 u.h)).setCell ⟨w.heap.size, 9, none⟩ (.int .i64 u.p)).setCell ⟨w.heap.size, 10, none⟩ (.int .i64 u.l)).cell? ⟨w.heap.size, 1, none⟩ = some (.int .i64 u.i) ∧ (((((((((((W.setCell ⟨w.heap.size, 0, none⟩ (.int .i64 u.s)).setCell ⟨w.heap.size, 1, none⟩ (.int .i64 u.i)).setCell ⟨w.heap.size, 2, none⟩ (.int .i64 u.g)).setCell ⟨w.heap.size, 3, none⟩ (.int .i64 u.m)).setCell ⟨w.heap.size, 4, none⟩ (.int .i64 u.x)).setCell ⟨w.heap.size, 5, none⟩ (.int .i64 u.y)).setCell ⟨w.heap.size, 6, none⟩ (.int .i64 u.vx)).setCell ⟨w.heap.size, 7, none⟩ (.int .i64 u.vy)).setCell ⟨w.heap.size, 8, none⟩ (.int .i64 u.h)).setCell ⟨w.heap.size, 9, none⟩ (.int .i64 u.p)).setCell ⟨w.heap.size, 10, none⟩ (.int .i64 u.l)).cell? ⟨w.heap.size, 2, none⟩ = some (.int .i64 u.g) ∧ (((((((((((W.setCell ⟨w.heap.size, 0, none⟩ (.int .i64 u.s)).setCell ⟨w.heap.size, 1, none⟩ (.int .i64 u.i)).setCell ⟨w.heap.size, 2, none⟩ (.int .i64 u.g)).setCell ⟨w.heap.size, 3, none⟩ (.int .i64 u.m)).setCell ⟨w.heap.size, 4, none⟩ (.int .i64 u.x)).setCell ⟨w.heap.size, 5, none⟩ (.int .i64 u.y)).setCell ⟨w.heap.size, 6, none⟩ (.int .i64 u.vx)).setCell ⟨w.heap.size, 7, none⟩ (.int .i64 u.vy)).setCell ⟨w.heap.size, 8, none⟩ (.int .i64 u.h)).setCell ⟨w.heap.size, 9, none⟩ (.int .i64 u.p)).setCell ⟨w.heap.size, 10, none⟩ (.int .i64 u.l)).cell? ⟨w.heap.size, 3, none⟩ = some (.int .i64 u.m) ∧ (((((((((((W.setCell ⟨w.heap.size, 0, none⟩ (.int .i64 u.s)).setCell ⟨w.heap.size, 1, none⟩ (.int .i64 u.i)).setCell ⟨w.heap.size, 2, none⟩ (.int .i64 u.g)).setCell ⟨w.heap.size, 3, none⟩ (.int .i64 u.m)).setCell ⟨w.heap.size, 4, none⟩ (.int .i64 u.x)).setCell ⟨w.heap.size, 5, none⟩ (.int .i64 u.y)).setCell ⟨w.heap.size, 6, none⟩ (.int .i64 u.vx)).setCell ⟨w.heap.size, 7, none⟩ (.int .i64 u.vy)).setCell ⟨w.heap.size, 8, none⟩ (.int .i64 u.h)).setCell ⟨w.heap.size, 9, none⟩ (.int .i64 u.p)).setCell ⟨w.heap.size, 10, none⟩ (.int .i64 u.l)).cell? ⟨w.heap.size, 4, none⟩ = some (.int .i64 u.x) ∧ (((((((((((W.setCell ⟨w.heap.size, 0, none⟩ (.int .i64 u.s)).setCell ⟨w.heap.size, 1, none⟩ (.int .i64 u.i)).setCell ⟨w.heap.size, 2, none⟩ (.int .i64 u.g)).setCell ⟨w.heap.size, 3, none⟩ (.int .i64 u.m)).setCell ⟨w.heap.size, 4, none⟩ (.int .i64 u.x)).setCell ⟨w.heap.size, 5, none⟩ (.int .i64 u.y)).setCell ⟨w.heap.size, 6, none⟩ (.int .i64 u.vx)).setCell ⟨w.heap.size, 7, none⟩ (.int .i64 u.vy)).setCell ⟨w.heap.size, 8, none⟩ (.int .i64 u.h)).setCell ⟨w.heap.size, 9, none⟩ (.int .i64 u.p)).setCell ⟨w.heap.size, 10, none⟩ (.int .i64 u.l)).cell? ⟨w.heap.size, 5, none⟩ = some (.int .i64 u.y) ∧ (((((((((((W.setCell ⟨w.heap.size, 0, none⟩ (.int .i64 u.s)).setCell ⟨w.heap.size, 1, none⟩ (.int .i64 u.i)).setCell ⟨w.heap.size, 2, none⟩ (.int .i64 u.g)).setCell ⟨w.heap.size, 3, none⟩ (.int .i64 u.m)).setCell ⟨w.heap.size, 4, none⟩ (.int .i64 u.x)).setCell ⟨w.heap.size, 5, none⟩ (.int .i64 u.y)).setCell ⟨w.heap.size, 6, none⟩ (.int .i64 u.vx)).setCell ⟨w.heap.size, 7, none⟩ (.int .i64 u.vy)).setCell ⟨w.heap.size, 8, none⟩ (.int .i64 u.h)).setCell ⟨w.heap.size, 9, none⟩ (.int .i64 u.p)).setCell ⟨w.heap.size, 10, none⟩ (.int .i64 u.l)).cell? ⟨w.heap.size, 6, none⟩ = some (.int .i64 u.vx) ∧ (((((((((((W.setCell ⟨w.heap.size, 0, none⟩ (.int .i64 u.s)).setCell ⟨w.heap.size, 1, none⟩ (.int .i64 u.i)).setCell ⟨w.heap.size, 2, none⟩ (.int .i64 u.g)).setCell ⟨w.heap.size, 3, none⟩ (.int .i64 u.m)).setCell ⟨w.heap.size, 4, none⟩ (.int .i64 u.x)).setCell ⟨w.heap.size, 5, none⟩ (.int .i64 u.y)).setCell ⟨w.heap.size, 6, none⟩ (.int .i64 u.vx)).setCell ⟨w.heap.size, 7, none⟩ (.int .i64 u.vy)).setCell ⟨w.heap.size, 8, none⟩ (.int .i64 u.h)).setCell ⟨w.heap.size, 9, none⟩ (.int .i64 u.p)).setCell ⟨w.heap.size, 10, none⟩ (.int .i64 u.l)).cell? ⟨w.heap.size, 7, none⟩ = some (.int .i64 u.vy) ∧ (((((((((((W.setCell ⟨w.heap.size, 0, none⟩ (.int .i64 u.s)).setCell ⟨w.heap.size, 1, none⟩ (.int .i64 u.i)).setCell ⟨w.heap.size, 2, none⟩ (.int .i64 u.g)).setCell ⟨w.heap.size, 3, none⟩ (.int .i64 u.m)).setCell ⟨w.heap.size, 4, none⟩ (.int .i64 u.x)).setCell ⟨w.heap.size, 5, none⟩ (.int .i64 u.y)).setCell ⟨w.heap.size, 6, none⟩ (.int .i64 u.vx)).setCell ⟨w.heap.size, 7, none⟩ (.int .i64 u.vy)).setCell ⟨w.heap.size, 8, none⟩ (.int .i64 u.h)).setCell ⟨w.heap.size, 9, none⟩ (.int .i64 u.p)).setCell ⟨w.heap.size, 10, none⟩ (.int .i64 u.l)).cell? ⟨w.heap.size, 8, none⟩ = some (.int .i64 u.h) ∧ (((((((((((W.setCell ⟨w.heap.size, 0, none⟩ (.int .i64 u.s)).setCell ⟨w.heap.size, 1, none⟩ (.int .i64 u.i)).setCell ⟨w.heap.size, 2, none⟩ (.int .i64 u.g)).setCell ⟨w.heap.size, 3, none⟩ (.int .i64 u.m)).setCell ⟨w.heap.size, 4, none⟩ (.int .i64 u.x)).setCell ⟨w.heap.size, 5, none⟩ (.int .i64 u.y)).setCell ⟨w.heap.size, 6, none⟩ (.int .i64 u.vx)).setCell ⟨w.heap.size, 7, none⟩ (.int .i64 u.vy)).setCell ⟨w.heap.size, 8, none⟩ (.int .i64 u.h)).setCell ⟨w.heap.size, 9, none⟩ (.int .i64 u.p)).setCell ⟨w.heap.size, 10, none⟩ (.int .i64 u.l)).cell? ⟨w.heap.size, 9, none⟩ = some (.int .i64 u.p) ∧ (((((((((((W.setCell ⟨w.heap.size, 0, none⟩ (.int .i64 u.s)).setCell ⟨w.heap.size, 1, none⟩ (.int .i64 u.i)).setCell ⟨w.heap.size, 2, none⟩ (.int .i64 u.g)).setCell ⟨w.heap.size, 3, none⟩ (.int .i64 u.m)).setCell ⟨w.heap.size, 4, none⟩ (.int .i64 u.x)).setCell ⟨w.heap.size, 5, none⟩ (.int .i64 u.y)).setCell ⟨w.heap.size, 6, none⟩ (.int .i64 u.vx)).setCell ⟨w.heap.size, 7, none⟩ (.int .i64 u.vy)).setCell ⟨w.heap.size, 8, none⟩ (.int .i64 u.h)).setCell ⟨w.heap.size, 9, none⟩ (.int .i64 u.p)).setCell ⟨w.heap.size, 10, none⟩ (.int .i64 u.l)).cell? ⟨w.heap.size, 10, none⟩ = some (.int .i64 u.l)) ∧ RQ b w q (((((((((((W.setCell ⟨w.heap.size, 0, none⟩ (.int .i64 u.s)).setCell ⟨w.heap.size, 1, none⟩ (.int .i64 u.i)).setCell ⟨w.heap.size, 2, none⟩ (.int .i64 u.g)).setCell ⟨w.heap.size, 3, none⟩ (.int .i64 u.m)).setCell ⟨w.heap.size, 4, none⟩ (.int .i64 u.x)).setCell ⟨w.heap.size, 5, none⟩ (.int .i64 u.y)).setCell ⟨w.heap.size, 6, none⟩ (.int .i64 u.vx)).setCell ⟨w.heap.size, 7, none⟩ (.int .i64 u.vy)).setCell ⟨w.heap.size, 8, none⟩ (.int .i64 u.h)).setCell ⟨w.heap.size, 9, none⟩ (.int .i64 u.p)).setCell ⟨w.heap.size, 10, none⟩ (.int .i64 u.l)) := by
  have hb := h.rq.lt
  refine ⟨(Bx.b11 (Bx.set11 h.res _ _ _ _ _ _ _ _ _ _ _)).1, ⟨?_, h.rq.ok, h.rq.len, hb, (only_set (only_set (only_set (only_set (only_set (only_set (only_set (only_set (only_set (only_set (only_set h.rq.grow (.inr (by simp)) _) (.inr (by simp)) _) (.inr (by simp)) _) (.inr (by simp)) _) (.inr (by simp)) _) (.inr (by simp)) _) (.inr (by simp)) _) (.inr (by simp)) _) (.inr (by simp)) _) (.inr (by simp)) _) (.inr (by simp)) _)⟩⟩
  unfold Rdr
  repeat rw [Bx.ne (by omega)]
  exact h.rq.rd
theorem opt_call (b : Nat) (w : World) (t : Bool) (q : Rr) : (t = true → ∀ W, RQ b w q W → Calls Tryz.prog 39 #[.pointer (some ⟨b, 0, none⟩)] W fun e W' => e = .returned (.int .i64 (optT t q).1) ∧ RQ b w (optT t q).2 W' ∧ W.grownBy W' (some b)) ∧ (t = false → (optT t q).1 = 0 ∧ (optT t q).2 = q) := by
  cases t with
  | true => exact ⟨fun _ W h => rtake_int h, fun h => by cases h⟩
  | false => exact ⟨(fun h => by cases h), fun _ => ⟨rfl, rfl⟩⟩
set_option maxHeartbeats 16000000 in
set_option maxRecDepth 100000 in
theorem rtakerest_any {b : Nat} {w : World} {q : Rr} (h : RQ b w q w) : Calls Tryz.prog 47 #[.pointer (some ⟨b, 0, none⟩)] w fun e W' => e = .returned (takeRest q).1.val ∧ RQ b w (takeRest q).2 W' := by
  have CM := Lib.hid fun W (hW : RQ b w q W) => rtake_int hW
  have FM : Fit (tInt q).1 := tInt_fit q
  have B0 : Hid (∀ W, Calls Tryz.prog 83 #[.int .i64 (tInt q).1, .int .i64 1] W fun e w' => e = .returned (.bool (bitB (tInt q).1 0)) ∧ W = w') := Lib.hid fun W => bit_any (tInt q).1 FM 0 (by decide) W
  have B1 : Hid (∀ W, Calls Tryz.prog 83 #[.int .i64 (tInt q).1, .int .i64 2] W fun e w' => e = .returned (.bool (bitB (tInt q).1 1)) ∧ W = w') := Lib.hid fun W => bit_any (tInt q).1 FM 1 (by decide) W
  have B2 : Hid (∀ W, Calls Tryz.prog 83 #[.int .i64 (tInt q).1, .int .i64 4] W fun e w' => e = .returned (.bool (bitB (tInt q).1 2)) ∧ W = w') := Lib.hid fun W => bit_any (tInt q).1 FM 2 (by decide) W
  have B3 : Hid (∀ W, Calls Tryz.prog 83 #[.int .i64 (tInt q).1, .int .i64 8] W fun e w' => e = .returned (.bool (bitB (tInt q).1 3)) ∧ W = w') := Lib.hid fun W => bit_any (tInt q).1 FM 3 (by decide) W
  have B4 : Hid (∀ W, Calls Tryz.prog 83 #[.int .i64 (tInt q).1, .int .i64 16] W fun e w' => e = .returned (.bool (bitB (tInt q).1 4)) ∧ W = w') := Lib.hid fun W => bit_any (tInt q).1 FM 4 (by decide) W
  clear FM
  obtain ⟨Cx, Nx⟩ := opt_call b w (bitB (tInt q).1 0) (tInt q).2
  obtain ⟨Cy, Ny⟩ := opt_call b w (bitB (tInt q).1 0) (optT (bitB (tInt q).1 0) (tInt q).2).2
  obtain ⟨Cvx, Nvx⟩ := opt_call b w (bitB (tInt q).1 1) (optT (bitB (tInt q).1 0) (optT (bitB (tInt q).1 0) (tInt q).2).2).2
  obtain ⟨Cvy, Nvy⟩ := opt_call b w (bitB (tInt q).1 1) (optT (bitB (tInt q).1 1) (optT (bitB (tInt q).1 0) (optT (bitB (tInt q).1 0) (tInt q).2).2).2).2
  obtain ⟨Ch, Nh⟩ := opt_call b w (bitB (tInt q).1 2) (optT (bitB (tInt q).1 1) (optT (bitB (tInt q).1 1) (optT (bitB (tInt q).1 0) (optT (bitB (tInt q).1 0) (tInt q).2).2).2).2).2
  obtain ⟨Cp, Np⟩ := opt_call b w (bitB (tInt q).1 3) (optT (bitB (tInt q).1 2) (optT (bitB (tInt q).1 1) (optT (bitB (tInt q).1 1) (optT (bitB (tInt q).1 0) (optT (bitB (tInt q).1 0) (tInt q).2).2).2).2).2).2
  obtain ⟨Cl, Nl⟩ := opt_call b w (bitB (tInt q).1 4) (optT (bitB (tInt q).1 3) (optT (bitB (tInt q).1 2) (optT (bitB (tInt q).1 1) (optT (bitB (tInt q).1 1) (optT (bitB (tInt q).1 0) (optT (bitB (tInt q).1 0) (tInt q).2).2).2).2).2).2).2
  have HT : takeRest q = if ((tInt q).2.bad || decide ((tInt q).1 < 0)) || decide ((tInt q).1 > 31) then (zeroB, Rr.no) else (⟨0, 0, 0, (tInt q).1, (optT (bitB (tInt q).1 0) (tInt q).2).1, (optT (bitB (tInt q).1 0) (optT (bitB (tInt q).1 0) (tInt q).2).2).1, (optT (bitB (tInt q).1 1) (optT (bitB (tInt q).1 0) (optT (bitB (tInt q).1 0) (tInt q).2).2).2).1, (optT (bitB (tInt q).1 1) (optT (bitB (tInt q).1 1) (optT (bitB (tInt q).1 0) (optT (bitB (tInt q).1 0) (tInt q).2).2).2).2).1, (optT (bitB (tInt q).1 2) (optT (bitB (tInt q).1 1) (optT (bitB (tInt q).1 1) (optT (bitB (tInt q).1 0) (optT (bitB (tInt q).1 0) (tInt q).2).2).2).2).2).1, (optT (bitB (tInt q).1 3) (optT (bitB (tInt q).1 2) (optT (bitB (tInt q).1 1) (optT (bitB (tInt q).1 1) (optT (bitB (tInt q).1 0) (optT (bitB (tInt q).1 0) (tInt q).2).2).2).2).2).2).1, (optT (bitB (tInt q).1 4) (optT (bitB (tInt q).1 3) (optT (bitB (tInt q).1 2) (optT (bitB (tInt q).1 1) (optT (bitB (tInt q).1 1) (optT (bitB (tInt q).1 0) (optT (bitB (tInt q).1 0) (tInt q).2).2).2).2).2).2).2).1⟩, (optT (bitB (tInt q).1 4) (optT (bitB (tInt q).1 3) (optT (bitB (tInt q).1 2) (optT (bitB (tInt q).1 1) (optT (bitB (tInt q).1 1) (optT (bitB (tInt q).1 0) (optT (bitB (tInt q).1 0) (tInt q).2).2).2).2).2).2).2).2) := rfl
  rw [HT]
  clear HT
  generalize (optT (bitB (tInt q).1 4) (optT (bitB (tInt q).1 3) (optT (bitB (tInt q).1 2) (optT (bitB (tInt q).1 1) (optT (bitB (tInt q).1 1) (optT (bitB (tInt q).1 0) (optT (bitB (tInt q).1 0) (tInt q).2).2).2).2).2).2).2).1 = nl at *
  generalize (optT (bitB (tInt q).1 4) (optT (bitB (tInt q).1 3) (optT (bitB (tInt q).1 2) (optT (bitB (tInt q).1 1) (optT (bitB (tInt q).1 1) (optT (bitB (tInt q).1 0) (optT (bitB (tInt q).1 0) (tInt q).2).2).2).2).2).2).2).2 = ql at *
  generalize (optT (bitB (tInt q).1 3) (optT (bitB (tInt q).1 2) (optT (bitB (tInt q).1 1) (optT (bitB (tInt q).1 1) (optT (bitB (tInt q).1 0) (optT (bitB (tInt q).1 0) (tInt q).2).2).2).2).2).2).1 = np at *
  generalize (optT (bitB (tInt q).1 3) (optT (bitB (tInt q).1 2) (optT (bitB (tInt q).1 1) (optT (bitB (tInt q).1 1) (optT (bitB (tInt q).1 0) (optT (bitB (tInt q).1 0) (tInt q).2).2).2).2).2).2).2 = qp at *
  generalize (optT (bitB (tInt q).1 2) (optT (bitB (tInt q).1 1) (optT (bitB (tInt q).1 1) (optT (bitB (tInt q).1 0) (optT (bitB (tInt q).1 0) (tInt q).2).2).2).2).2).1 = nh at *
  generalize (optT (bitB (tInt q).1 2) (optT (bitB (tInt q).1 1) (optT (bitB (tInt q).1 1) (optT (bitB (tInt q).1 0) (optT (bitB (tInt q).1 0) (tInt q).2).2).2).2).2).2 = qh at *
  generalize (optT (bitB (tInt q).1 1) (optT (bitB (tInt q).1 1) (optT (bitB (tInt q).1 0) (optT (bitB (tInt q).1 0) (tInt q).2).2).2).2).1 = nvy at *
  generalize (optT (bitB (tInt q).1 1) (optT (bitB (tInt q).1 1) (optT (bitB (tInt q).1 0) (optT (bitB (tInt q).1 0) (tInt q).2).2).2).2).2 = qvy at *
  generalize (optT (bitB (tInt q).1 1) (optT (bitB (tInt q).1 0) (optT (bitB (tInt q).1 0) (tInt q).2).2).2).1 = nvx at *
  generalize (optT (bitB (tInt q).1 1) (optT (bitB (tInt q).1 0) (optT (bitB (tInt q).1 0) (tInt q).2).2).2).2 = qvx at *
  generalize (optT (bitB (tInt q).1 0) (optT (bitB (tInt q).1 0) (tInt q).2).2).1 = ny at *
  generalize (optT (bitB (tInt q).1 0) (optT (bitB (tInt q).1 0) (tInt q).2).2).2 = qy at *
  generalize (optT (bitB (tInt q).1 0) (tInt q).2).1 = nx at *
  generalize (optT (bitB (tInt q).1 0) (tInt q).2).2 = qx at *
  generalize bitB (tInt q).1 0 = t0 at *
  generalize bitB (tInt q).1 1 = t1 at *
  generalize bitB (tInt q).1 2 = t2 at *
  generalize bitB (tInt q).1 3 = t3 at *
  generalize bitB (tInt q).1 4 = t4 at *
  generalize (tInt q).1 = nm at *
  generalize (tInt q).2 = qm at *
  replace Cx := Lib.hid Cx
  replace Nx := Lib.hid Nx
  replace Cy := Lib.hid Cy
  replace Ny := Lib.hid Ny
  replace Cvx := Lib.hid Cvx
  replace Nvx := Lib.hid Nvx
  replace Cvy := Lib.hid Cvy
  replace Nvy := Lib.hid Nvy
  replace Ch := Lib.hid Ch
  replace Nh := Lib.hid Nh
  replace Cp := Lib.hid Cp
  replace Np := Lib.hid Np
  replace Cl := Lib.hid Cl
  replace Nl := Lib.hid Nl
  obtain ⟨bb, eb⟩ : ∃ x, qm.bad = x := ⟨_, rfl⟩
  obtain ⟨b1, z1⟩ : ∃ x, decide (nm < 0) = x := ⟨_, rfl⟩
  obtain ⟨b2, z2⟩ : ∃ x, decide (nm > 31) = x := ⟨_, rfl⟩
  rw [eb, z1, z2]
  have EB := Lib.hid eb
  clear eb
  have H := Lib.hid (T0.start h)
  clear h
  have PW : Hid (True) := Lib.hid trivial
  go_enter Tryz.func47, Tryz.ntmps47
  go_wp2_with fail
  refine (CM.out _ H.out.rq).mono ?_
  rintro e w1 ⟨rfl, r1, g1⟩
  replace H := Lib.hid (H.out.call r1 g1)
  clear r1 g1 CM
  go_upto_region 2 with fail
  replace H := Lib.hid (TR.start H.out ⟨0, 0, 0, nm, 0, 0, 0, 0, 0, 0, 0⟩)
  simp only at H
  generalize w1.alloc (.cells #[.int .i64 0, .int .i64 0, .int .i64 0, .int .i64 nm, .int .i64 0, .int .i64 0, .int .i64 0, .int .i64 0, .int .i64 0, .int .i64 0, .int .i64 0] BT) = v1 at *
  generalize w1.heap.size = o at *
  have QB := H.out.rq.rd.c1
  have BAD := Lib.hid fun W (hW : RQ b w qm W) => rbad_any hW
  obtain ⟨⟨k0, k1, k2, k3, k4, k5, k6, k7, k8, k9, k10⟩, ⟨f0, f1, f2, f3, f4, f5, f6, f7, f8, f9, f10⟩⟩ := Bx.b11 H.out.own
  clear f0 f1 f2 f3 f4 f5 f6 f7 f8 f9 f10
  rw [EB.out] at QB
  clear PW
  cases bb with
  | true =>
      go_wp2_with fail
      refine (BAD.out _ H.out.rq).mono ?_
      rintro e w4 ⟨rfl, r1, g1⟩
      replace H := Lib.hid (H.out.call r1 g1)
      clear r1 g1 QB k0 k1 k2 k3 k4 k5 k6 k7 k8 k9 k10
      obtain ⟨⟨k0, k1, k2, k3, k4, k5, k6, k7, k8, k9, k10⟩, ⟨f0, f1, f2, f3, f4, f5, f6, f7, f8, f9, f10⟩⟩ := Bx.b11 H.out.res
      have HF := H.out.fin ⟨0, 0, 0, 0, 0, 0, 0, 0, 0, 0, 0⟩
      simp only at HF
      replace HF := Lib.hid HF
      go_wp2
      obtain ⟨⟨p0, p1, p2, p3, p4, p5, p6, p7, p8, p9, p10⟩, hq⟩ := HF.out
      exact bodyPost_ret (v := .agg #[.int .i64 0, .int .i64 0, .int .i64 0, .int .i64 0, .int .i64 0, .int .i64 0, .int .i64 0, .int .i64 0, .int .i64 0, .int .i64 0, .int .i64 0]) (by simp [results, Tryz.results47, go_sem, p0, p1, p2, p3, p4, p5, p6, p7, p8, p9, p10]) rfl ⟨rfl, hq⟩
  | false =>
    cases b1 with
    | true =>
        go_wp2_with fail
        refine (BAD.out _ H.out.rq).mono ?_
        rintro e w4 ⟨rfl, r1, g1⟩
        replace H := Lib.hid (H.out.call r1 g1)
        clear r1 g1 QB k0 k1 k2 k3 k4 k5 k6 k7 k8 k9 k10
        obtain ⟨⟨k0, k1, k2, k3, k4, k5, k6, k7, k8, k9, k10⟩, ⟨f0, f1, f2, f3, f4, f5, f6, f7, f8, f9, f10⟩⟩ := Bx.b11 H.out.res
        have HF := H.out.fin ⟨0, 0, 0, 0, 0, 0, 0, 0, 0, 0, 0⟩
        simp only at HF
        replace HF := Lib.hid HF
        go_wp2
        obtain ⟨⟨p0, p1, p2, p3, p4, p5, p6, p7, p8, p9, p10⟩, hq⟩ := HF.out
        exact bodyPost_ret (v := .agg #[.int .i64 0, .int .i64 0, .int .i64 0, .int .i64 0, .int .i64 0, .int .i64 0, .int .i64 0, .int .i64 0, .int .i64 0, .int .i64 0, .int .i64 0]) (by simp [results, Tryz.results47, go_sem, p0, p1, p2, p3, p4, p5, p6, p7, p8, p9, p10]) rfl ⟨rfl, hq⟩
    | false =>
      cases b2 with
      | true =>
          go_wp2_with fail
          refine (BAD.out _ H.out.rq).mono ?_
          rintro e w4 ⟨rfl, r1, g1⟩
          replace H := Lib.hid (H.out.call r1 g1)
          clear r1 g1 QB k0 k1 k2 k3 k4 k5 k6 k7 k8 k9 k10
          obtain ⟨⟨k0, k1, k2, k3, k4, k5, k6, k7, k8, k9, k10⟩, ⟨f0, f1, f2, f3, f4, f5, f6, f7, f8, f9, f10⟩⟩ := Bx.b11 H.out.res
          have HF := H.out.fin ⟨0, 0, 0, 0, 0, 0, 0, 0, 0, 0, 0⟩
          simp only at HF
          replace HF := Lib.hid HF
          go_wp2
          obtain ⟨⟨p0, p1, p2, p3, p4, p5, p6, p7, p8, p9, p10⟩, hq⟩ := HF.out
          exact bodyPost_ret (v := .agg #[.int .i64 0, .int .i64 0, .int .i64 0, .int .i64 0, .int .i64 0, .int .i64 0, .int .i64 0, .int .i64 0, .int .i64 0, .int .i64 0, .int .i64 0]) (by simp [results, Tryz.results47, go_sem, p0, p1, p2, p3, p4, p5, p6, p7, p8, p9, p10]) rfl ⟨rfl, hq⟩
      | false =>
        clear BAD
        go_upto_if 26 with (go_at_call 83; refine (B0.out _).mono ?_; rintro e w' ⟨rfl, rfl⟩)
        clear QB z1 z2
        go_cut [] (fun wx => TR b o w ⟨0, 0, 0, nm, nx, ny, 0, 0, 0, 0, 0⟩ qy wx)
        case first =>
          cases t0 with
          | false =>
            have Ax := Lib.hid (Nx.out rfl)
            have Ay := Lib.hid (Ny.out rfl)
            clear Nx Cx Ny Cy
            go_wp2
            go_meet
            rw [Ax.out.1, Ay.out.1, Ay.out.2, Ax.out.2]
            exact H.out
          | true =>
            have Ax := Lib.hid (Cx.out rfl)
            have Ay := Lib.hid (Cy.out rfl)
            clear Nx Cx Ny Cy
            clear k0 k1 k2 k3 k4 k5 k6 k7 k8 k9 k10
            go_wp2_with fail
            refine (Ax.out _ H.out.rq).mono ?_
            rintro e w5 ⟨rfl, r1, g1⟩
            replace H := Lib.hid (H.out.call r1 g1)
            clear r1 g1
            obtain ⟨⟨k0, k1, k2, k3, k4, k5, k6, k7, k8, k9, k10⟩, ⟨f0, f1, f2, f3, f4, f5, f6, f7, f8, f9, f10⟩⟩ := Bx.b11 H.out.own
            go_wp2_with fail
            replace H := Lib.hid (TR.set (v' := ⟨0, 0, 0, nm, nx, 0, 0, 0, 0, 0, 0⟩) H.out 4 nx rfl)
            clear k0 k1 k2 k3 k4 k5 k6 k7 k8 k9 k10 f0 f1 f2 f3 f4 f5 f6 f7 f8 f9 f10
            generalize w5.setCell ⟨o, 4, none⟩ (.int .i64 nx) = y5 at *
            go_wp2_with fail
            refine (Ay.out _ H.out.rq).mono ?_
            rintro e w6 ⟨rfl, r1, g1⟩
            replace H := Lib.hid (H.out.call r1 g1)
            clear r1 g1
            obtain ⟨⟨k0, k1, k2, k3, k4, k5, k6, k7, k8, k9, k10⟩, ⟨f0, f1, f2, f3, f4, f5, f6, f7, f8, f9, f10⟩⟩ := Bx.b11 H.out.own
            go_wp2
            go_meet
            exact TR.set (v' := ⟨0, 0, 0, nm, nx, ny, 0, 0, 0, 0, 0⟩) H.out 5 ny rfl
        clear k0 k1 k2 k3 k4 k5 k6 k7 k8 k9 k10 H
        generalize wc = V1 at *
        have H := Lib.hid hcut
        clear hcut
        obtain ⟨⟨k0, k1, k2, k3, k4, k5, k6, k7, k8, k9, k10⟩, ⟨f0, f1, f2, f3, f4, f5, f6, f7, f8, f9, f10⟩⟩ := Bx.b11 H.out.own
        clear f0 f1 f2 f3 f4 f5 f6 f7 f8 f9 f10
        go_upto_if 35 with (go_at_call 83; refine (B1.out _).mono ?_; rintro e w' ⟨rfl, rfl⟩)
        go_cut [] (fun wx => TR b o w ⟨0, 0, 0, nm, nx, ny, nvx, nvy, 0, 0, 0⟩ qvy wx)
        case first =>
          cases t1 with
          | false =>
            have Avx := Lib.hid (Nvx.out rfl)
            have Avy := Lib.hid (Nvy.out rfl)
            clear Nvx Cvx Nvy Cvy
            go_wp2
            go_meet
            rw [Avx.out.1, Avy.out.1, Avy.out.2, Avx.out.2]
            exact H.out
          | true =>
            have Avx := Lib.hid (Cvx.out rfl)
            have Avy := Lib.hid (Cvy.out rfl)
            clear Nvx Cvx Nvy Cvy
            clear k0 k1 k2 k3 k4 k5 k6 k7 k8 k9 k10
            go_wp2_with fail
            refine (Avx.out _ H.out.rq).mono ?_
            rintro e w5 ⟨rfl, r1, g1⟩
            replace H := Lib.hid (H.out.call r1 g1)
            clear r1 g1
            obtain ⟨⟨k0, k1, k2, k3, k4, k5, k6, k7, k8, k9, k10⟩, ⟨f0, f1, f2, f3, f4, f5, f6, f7, f8, f9, f10⟩⟩ := Bx.b11 H.out.own
            go_wp2_with fail
            replace H := Lib.hid (TR.set (v' := ⟨0, 0, 0, nm, nx, ny, nvx, 0, 0, 0, 0⟩) H.out 6 nvx rfl)
            clear k0 k1 k2 k3 k4 k5 k6 k7 k8 k9 k10 f0 f1 f2 f3 f4 f5 f6 f7 f8 f9 f10
            generalize w5.setCell ⟨o, 6, none⟩ (.int .i64 nvx) = y5 at *
            go_wp2_with fail
            refine (Avy.out _ H.out.rq).mono ?_
            rintro e w6 ⟨rfl, r1, g1⟩
            replace H := Lib.hid (H.out.call r1 g1)
            clear r1 g1
            obtain ⟨⟨k0, k1, k2, k3, k4, k5, k6, k7, k8, k9, k10⟩, ⟨f0, f1, f2, f3, f4, f5, f6, f7, f8, f9, f10⟩⟩ := Bx.b11 H.out.own
            go_wp2
            go_meet
            exact TR.set (v' := ⟨0, 0, 0, nm, nx, ny, nvx, nvy, 0, 0, 0⟩) H.out 7 nvy rfl
        clear k0 k1 k2 k3 k4 k5 k6 k7 k8 k9 k10 H
        generalize wc = V2 at *
        have H := Lib.hid hcut
        clear hcut
        obtain ⟨⟨k0, k1, k2, k3, k4, k5, k6, k7, k8, k9, k10⟩, ⟨f0, f1, f2, f3, f4, f5, f6, f7, f8, f9, f10⟩⟩ := Bx.b11 H.out.own
        clear f0 f1 f2 f3 f4 f5 f6 f7 f8 f9 f10
        go_upto_if 44 with (go_at_call 83; refine (B2.out _).mono ?_; rintro e w' ⟨rfl, rfl⟩)
        go_cut [] (fun wx => TR b o w ⟨0, 0, 0, nm, nx, ny, nvx, nvy, nh, 0, 0⟩ qh wx)
        case first =>
          cases t2 with
          | false =>
            have Ah := Lib.hid (Nh.out rfl)
            clear Nh Ch
            go_wp2
            go_meet
            rw [Ah.out.1, Ah.out.2]
            exact H.out
          | true =>
            have Ah := Lib.hid (Ch.out rfl)
            clear Nh Ch
            clear k0 k1 k2 k3 k4 k5 k6 k7 k8 k9 k10
            go_wp2_with fail
            refine (Ah.out _ H.out.rq).mono ?_
            rintro e w5 ⟨rfl, r1, g1⟩
            replace H := Lib.hid (H.out.call r1 g1)
            clear r1 g1
            obtain ⟨⟨k0, k1, k2, k3, k4, k5, k6, k7, k8, k9, k10⟩, ⟨f0, f1, f2, f3, f4, f5, f6, f7, f8, f9, f10⟩⟩ := Bx.b11 H.out.own
            go_wp2
            go_meet
            exact TR.set (v' := ⟨0, 0, 0, nm, nx, ny, nvx, nvy, nh, 0, 0⟩) H.out 8 nh rfl
        clear k0 k1 k2 k3 k4 k5 k6 k7 k8 k9 k10 H
        generalize wc = V3 at *
        have H := Lib.hid hcut
        clear hcut
        obtain ⟨⟨k0, k1, k2, k3, k4, k5, k6, k7, k8, k9, k10⟩, ⟨f0, f1, f2, f3, f4, f5, f6, f7, f8, f9, f10⟩⟩ := Bx.b11 H.out.own
        clear f0 f1 f2 f3 f4 f5 f6 f7 f8 f9 f10
        go_upto_if 50 with (go_at_call 83; refine (B3.out _).mono ?_; rintro e w' ⟨rfl, rfl⟩)
        go_cut [] (fun wx => TR b o w ⟨0, 0, 0, nm, nx, ny, nvx, nvy, nh, np, 0⟩ qp wx)
        case first =>
          cases t3 with
          | false =>
            have Ap := Lib.hid (Np.out rfl)
            clear Np Cp
            go_wp2
            go_meet
            rw [Ap.out.1, Ap.out.2]
            exact H.out
          | true =>
            have Ap := Lib.hid (Cp.out rfl)
            clear Np Cp
            clear k0 k1 k2 k3 k4 k5 k6 k7 k8 k9 k10
            go_wp2_with fail
            refine (Ap.out _ H.out.rq).mono ?_
            rintro e w5 ⟨rfl, r1, g1⟩
            replace H := Lib.hid (H.out.call r1 g1)
            clear r1 g1
            obtain ⟨⟨k0, k1, k2, k3, k4, k5, k6, k7, k8, k9, k10⟩, ⟨f0, f1, f2, f3, f4, f5, f6, f7, f8, f9, f10⟩⟩ := Bx.b11 H.out.own
            go_wp2
            go_meet
            exact TR.set (v' := ⟨0, 0, 0, nm, nx, ny, nvx, nvy, nh, np, 0⟩) H.out 9 np rfl
        clear k0 k1 k2 k3 k4 k5 k6 k7 k8 k9 k10 H
        generalize wc = V4 at *
        have H := Lib.hid hcut
        clear hcut
        obtain ⟨⟨k0, k1, k2, k3, k4, k5, k6, k7, k8, k9, k10⟩, ⟨f0, f1, f2, f3, f4, f5, f6, f7, f8, f9, f10⟩⟩ := Bx.b11 H.out.own
        clear f0 f1 f2 f3 f4 f5 f6 f7 f8 f9 f10
        go_upto_if 56 with (go_at_call 83; refine (B4.out _).mono ?_; rintro e w' ⟨rfl, rfl⟩)
        go_cut [] (fun wx => TR b o w ⟨0, 0, 0, nm, nx, ny, nvx, nvy, nh, np, nl⟩ ql wx)
        case first =>
          cases t4 with
          | false =>
            have Al := Lib.hid (Nl.out rfl)
            clear Nl Cl
            go_wp2
            go_meet
            rw [Al.out.1, Al.out.2]
            exact H.out
          | true =>
            have Al := Lib.hid (Cl.out rfl)
            clear Nl Cl
            clear k0 k1 k2 k3 k4 k5 k6 k7 k8 k9 k10
            go_wp2_with fail
            refine (Al.out _ H.out.rq).mono ?_
            rintro e w5 ⟨rfl, r1, g1⟩
            replace H := Lib.hid (H.out.call r1 g1)
            clear r1 g1
            obtain ⟨⟨k0, k1, k2, k3, k4, k5, k6, k7, k8, k9, k10⟩, ⟨f0, f1, f2, f3, f4, f5, f6, f7, f8, f9, f10⟩⟩ := Bx.b11 H.out.own
            go_wp2
            go_meet
            exact TR.set (v' := ⟨0, 0, 0, nm, nx, ny, nvx, nvy, nh, np, nl⟩) H.out 10 nl rfl
        clear k0 k1 k2 k3 k4 k5 k6 k7 k8 k9 k10 H
        generalize wc = V5 at *
        have H := Lib.hid hcut
        clear hcut
        obtain ⟨⟨k0, k1, k2, k3, k4, k5, k6, k7, k8, k9, k10⟩, ⟨f0, f1, f2, f3, f4, f5, f6, f7, f8, f9, f10⟩⟩ := Bx.b11 H.out.own
        clear f0 f1 f2 f3 f4 f5 f6 f7 f8 f9 f10
        obtain ⟨⟨l0, l1, l2, l3, l4, l5, l6, l7, l8, l9, l10⟩, ⟨f0, f1, f2, f3, f4, f5, f6, f7, f8, f9, f10⟩⟩ := Bx.b11 H.out.res
        have HF := H.out.fin ⟨0, 0, 0, nm, nx, ny, nvx, nvy, nh, np, nl⟩
        simp only at HF
        replace HF := Lib.hid HF
        go_wp2
        obtain ⟨⟨p0, p1, p2, p3, p4, p5, p6, p7, p8, p9, p10⟩, hq⟩ := HF.out
        exact bodyPost_ret (v := .agg #[.int .i64 0, .int .i64 0, .int .i64 0, .int .i64 nm, .int .i64 nx, .int .i64 ny, .int .i64 nvx, .int .i64 nvy, .int .i64 nh, .int .i64 np, .int .i64 nl]) (by simp [results, Tryz.results47, go_sem, p0, p1, p2, p3, p4, p5, p6, p7, p8, p9, p10]) rfl ⟨rfl, hq⟩
end Go.Proofs.YtdhlebmgeiiejaaGreat
