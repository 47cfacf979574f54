/- The code: what a command does to each, and the end of a tick. Written by wip/tools/gentc.py. -/
import Derived.Test.YtljaahemlcaffaaGreatK09
import Derived.Test.YtljaahemlcaffaaGreatK17
import Derived.Test.YtljaahemlcaffaaGreatK18
import Derived.Shelf.Abstract
namespace Go.Proofs.YtljaahemlcaffaaGreat
open Go.RowKit Pz Sp Go.Shelf
set_option linter.unusedVariables false
set_option linter.unusedSimpArgs false

theorem em_do : ∀ args w, (callFunc 71 args).run Tryz.prog w = .ok (.enter 71 args) w := enters_of Tryz.func71 (by kernel_rfl) rfl
set_option maxHeartbeats 8000000 in
set_option maxRecDepth 100000 in
theorem do1_any (b : Bn) (c : Cn) (bc : Nat) (w : World) (hc : w.heap[bc]? = some (.cells #[.int .i64 c.k, .int .i64 c.s, .int .i64 c.i, .int .i64 c.g, .int .i64 c.b.s, .int .i64 c.b.i, .int .i64 c.b.g, .int .i64 c.b.m, .int .i64 c.b.x, .int .i64 c.b.y, .int .i64 c.b.vx, .int .i64 c.b.vy, .int .i64 c.b.h, .int .i64 c.b.p, .int .i64 c.b.l, .int .i64 c.m] 55 (0, 0))) :
    Calls Tryz.prog 71 #[b.val, .pointer (some ⟨bc, 0, none⟩)] w fun e w' => e = .returned (.tuple #[(Tk.obeys c b).1.val, .bool (Tk.obeys c b).2]) ∧ Below w.heap.size w w' := by
  have OB : Hid (∀ W, Calls Tryz.prog 72 #[b.val, c.val] W fun e w' => e = .returned (.tuple #[(Tk.obeys c b).1.val, .bool (Tk.obeys c b).2]) ∧ Below W.heap.size W w') := Lib.hid fun W => cobey_any b.s b.i b.g b.m b.x b.y b.vx b.vy b.h b.p b.l c.k c.s c.i c.g c.b.s c.b.i c.b.g c.b.m c.b.x c.b.y c.b.vx c.b.vy c.b.h c.b.p c.b.l c.m W
  generalize Tk.obeys c b = yo at *
  obtain ⟨y, flag⟩ := yo
  obtain ⟨qs, qi, qg, qm, qx, qy, qvx, qvy, qh, qp, ql⟩ := b
  obtain ⟨ys, yi, yg, ym, yx, yy, yvx, yvy, yh, yp, yl⟩ := y
  obtain ⟨ck, cs_, ci_, cg_, ⟨cs, ci, cg, cm, cx, cy, cvx, cvy, ch, cp, cl⟩, cm_⟩ := c
  simp only [Bn.val, Cn.val] at *
  have H0 : Hid (Sep w [box (w.heap.size + 1) (.cells #[.int .i64 0, .int .i64 0, .int .i64 0, .int .i64 0, .int .i64 0, .int .i64 0, .int .i64 0, .int .i64 0, .int .i64 0, .int .i64 0, .int .i64 0] 42), box w.heap.size (.cells #[.int .i64 qs, .int .i64 qi, .int .i64 qg, .int .i64 qm, .int .i64 qx, .int .i64 qy, .int .i64 qvx, .int .i64 qvy, .int .i64 qh, .int .i64 qp, .int .i64 ql] 42)] ((w.alloc (.cells #[.int .i64 qs, .int .i64 qi, .int .i64 qg, .int .i64 qm, .int .i64 qx, .int .i64 qy, .int .i64 qvx, .int .i64 qvy, .int .i64 qh, .int .i64 qp, .int .i64 ql] 42)).alloc (.cells #[.int .i64 0, .int .i64 0, .int .i64 0, .int .i64 0, .int .i64 0, .int .i64 0, .int .i64 0, .int .i64 0, .int .i64 0, .int .i64 0, .int .i64 0] 42))) := Lib.hid (by
    have := sep_box (sep_box (sep_new w) (.cells #[.int .i64 qs, .int .i64 qi, .int .i64 qg, .int .i64 qm, .int .i64 qx, .int .i64 qy, .int .i64 qvx, .int .i64 qvy, .int .i64 qh, .int .i64 qp, .int .i64 ql] 42)) (.cells #[.int .i64 0, .int .i64 0, .int .i64 0, .int .i64 0, .int .i64 0, .int .i64 0, .int .i64 0, .int .i64 0, .int .i64 0, .int .i64 0, .int .i64 0] 42)
    rw [size1] at this
    exact this)
  have HC := Lib.hid ((H0.out.bel.block _ (Bx.lt hc)).trans hc)
  clear hc
  go_enter Tryz.func71, Tryz.ntmps71
  go_upto_region 1 with fail
  generalize (w.alloc (.cells #[.int .i64 qs, .int .i64 qi, .int .i64 qg, .int .i64 qm, .int .i64 qx, .int .i64 qy, .int .i64 qvx, .int .i64 qvy, .int .i64 qh, .int .i64 qp, .int .i64 ql] 42)).alloc (.cells #[.int .i64 0, .int .i64 0, .int .i64 0, .int .i64 0, .int .i64 0, .int .i64 0, .int .i64 0, .int .i64 0, .int .i64 0, .int .i64 0, .int .i64 0] 42) = w0 at *
  obtain ⟨⟨k0, k1, k2, k3, k4, k5, k6, k7, k8, k9, k10⟩, _⟩ := Bx.b11 (H0.out.held 1 rfl)
  obtain ⟨_, ⟨z0, z1, z2, z3, z4, z5, z6, z7, z8, z9, z10⟩⟩ := Bx.b11 (H0.out.held 0 rfl)
  obtain ⟨⟨c0, c1, c2, c3, c4, c5, c6, c7, c8, c9, c10, c11, c12, c13, c14, c15⟩, _⟩ := Bx.b16 HC.out
  clear HC
  go_wp2_with (go_at_call 72; with_reducible refine (OB.out _).mono ?_; rintro e w1 ⟨rfl, b1⟩; clear OB k0 k1 k2 k3 k4 k5 k6 k7 k8 k9 k10 z0 z1 z2 z3 z4 z5 z6 z7 z8 z9 z10 c0 c1 c2 c3 c4 c5 c6 c7 c8 c9 c10 c11 c12 c13 c14 c15; have H1 := Lib.hid (H0.out.below b1); clear H0 b1; obtain ⟨_, ⟨z0, z1, z2, z3, z4, z5, z6, z7, z8, z9, z10⟩⟩ := Bx.b11 (H1.out.held 0 rfl))
  have HF := Lib.hid (H1.out.set11 (.int .i64 ys) (.int .i64 yi) (.int .i64 yg) (.int .i64 ym) (.int .i64 yx) (.int .i64 yy) (.int .i64 yvx) (.int .i64 yvy) (.int .i64 yh) (.int .i64 yp) (.int .i64 yl))
  generalize ((((((((((w1.setCell ⟨w.heap.size + 1, 0, none⟩ (.int .i64 ys)).setCell ⟨w.heap.size + 1, 1, none⟩ (.int .i64 yi)).setCell ⟨w.heap.size + 1, 2, none⟩ (.int .i64 yg)).setCell ⟨w.heap.size + 1, 3, none⟩ (.int .i64 ym)).setCell ⟨w.heap.size + 1, 4, none⟩ (.int .i64 yx)).setCell ⟨w.heap.size + 1, 5, none⟩ (.int .i64 yy)).setCell ⟨w.heap.size + 1, 6, none⟩ (.int .i64 yvx)).setCell ⟨w.heap.size + 1, 7, none⟩ (.int .i64 yvy)).setCell ⟨w.heap.size + 1, 8, none⟩ (.int .i64 yh)).setCell ⟨w.heap.size + 1, 9, none⟩ (.int .i64 yp)).setCell ⟨w.heap.size + 1, 10, none⟩ (.int .i64 yl) = wF at *
  obtain ⟨r0, r1, r2, r3, r4, r5, r6, r7, r8, r9, r10⟩ := (Bx.b11 (HF.out.held 0 rfl)).1
  exact bodyPost_ret (v := .tuple #[.agg #[.int .i64 ys, .int .i64 yi, .int .i64 yg, .int .i64 ym, .int .i64 yx, .int .i64 yy, .int .i64 yvx, .int .i64 yvy, .int .i64 yh, .int .i64 yp, .int .i64 yl], .bool flag]) (by simp [results, Tryz.results71, go_sem, r0, r1, r2, r3, r4, r5, r6, r7, r8, r9, r10]) rfl ⟨rfl, HF.out.bel⟩
theorem em_run1 : ∀ args w, (callFunc 37 args).run Tryz.prog w = .ok (.enter 37 args) w := enters_of Tryz.func37 (by kernel_rfl) rfl
set_option maxHeartbeats 8000000 in
set_option maxRecDepth 100000 in
theorem run1_any (cC cR cS cD cV cN cQ : Int) (ok : Zn.Ok cC cR cS cD cV) (b : Bn) (hb : Tk.Fi b) (bm q : Nat) (w : World) (hq : MapAt w q cC cR cS cD cV cN cQ) (hm : w.heap[bm]? = some (.cells #[.pointer (some ⟨q, 0, none⟩)] 27 (0, 0))) :
    Calls Tryz.prog 37 #[b.val, .pointer (some ⟨bm, 0, none⟩)] w fun e w' => e = .returned (.tuple #[(Tk.ends cC cR cS cV b).1.val, .bool (Tk.ends cC cR cS cV b).2]) ∧ Below w.heap.size w w' := by
  have MV : Hid (∀ W, Below w.heap.size w W → Calls Tryz.prog 39 #[.pointer (some ⟨q, 0, none⟩), b.val] W fun e w' => e = .returned (Sy.move cC cR cS cV b).val ∧ Below W.heap.size W w') := Lib.hid fun W hW => cmove_any cC cR cS cD cV cN cQ (hq.below hW) ok b.s b.i b.g b.m b.x b.y b.vx b.vy b.h b.p b.l hb.x hb.y hb.vx hb.vy
  have AG_ : Hid (∀ W, Calls Tryz.prog 38 #[(Sy.move cC cR cS cV b).val] W fun e w' => e = .returned (.tuple #[(Tk.ends cC cR cS cV b).1.val, .bool (Tk.ends cC cR cS cV b).2]) ∧ Below W.heap.size W w') := Lib.hid fun W => cage_any _ _ _ _ _ _ _ _ _ _ _ (Tk.move_fi ok hb).l W
  clear hb ok hq
  generalize Tk.ends cC cR cS cV b = yo at *
  generalize Sy.move cC cR cS cV b = v at *
  obtain ⟨y, flag⟩ := yo
  obtain ⟨qs, qi, qg, qm, qx, qy, qvx, qvy, qh, qp, ql⟩ := b
  obtain ⟨ys, yi, yg, ym, yx, yy, yvx, yvy, yh, yp, yl⟩ := y
  obtain ⟨vs, vi, vg, vm, vx, vy, vvx, vvy, vh, vp, vl⟩ := v
  simp only [Bn.val] at *
  have H0 : Hid (Sep w [box (w.heap.size + 1) (.cells #[.int .i64 0, .int .i64 0, .int .i64 0, .int .i64 0, .int .i64 0, .int .i64 0, .int .i64 0, .int .i64 0, .int .i64 0, .int .i64 0, .int .i64 0] 42), box w.heap.size (.cells #[.int .i64 qs, .int .i64 qi, .int .i64 qg, .int .i64 qm, .int .i64 qx, .int .i64 qy, .int .i64 qvx, .int .i64 qvy, .int .i64 qh, .int .i64 qp, .int .i64 ql] 42)] ((w.alloc (.cells #[.int .i64 qs, .int .i64 qi, .int .i64 qg, .int .i64 qm, .int .i64 qx, .int .i64 qy, .int .i64 qvx, .int .i64 qvy, .int .i64 qh, .int .i64 qp, .int .i64 ql] 42)).alloc (.cells #[.int .i64 0, .int .i64 0, .int .i64 0, .int .i64 0, .int .i64 0, .int .i64 0, .int .i64 0, .int .i64 0, .int .i64 0, .int .i64 0, .int .i64 0] 42))) := Lib.hid (by
    have := sep_box (sep_box (sep_new w) (.cells #[.int .i64 qs, .int .i64 qi, .int .i64 qg, .int .i64 qm, .int .i64 qx, .int .i64 qy, .int .i64 qvx, .int .i64 qvy, .int .i64 qh, .int .i64 qp, .int .i64 ql] 42)) (.cells #[.int .i64 0, .int .i64 0, .int .i64 0, .int .i64 0, .int .i64 0, .int .i64 0, .int .i64 0, .int .i64 0, .int .i64 0, .int .i64 0, .int .i64 0] 42)
    rw [size1] at this
    exact this)
  have HM := Lib.hid ((H0.out.bel.block _ (Bx.lt hm)).trans hm)
  clear hm
  go_enter Tryz.func37, Tryz.ntmps37
  go_upto_region 1 with fail
  generalize (w.alloc (.cells #[.int .i64 qs, .int .i64 qi, .int .i64 qg, .int .i64 qm, .int .i64 qx, .int .i64 qy, .int .i64 qvx, .int .i64 qvy, .int .i64 qh, .int .i64 qp, .int .i64 ql] 42)).alloc (.cells #[.int .i64 0, .int .i64 0, .int .i64 0, .int .i64 0, .int .i64 0, .int .i64 0, .int .i64 0, .int .i64 0, .int .i64 0, .int .i64 0, .int .i64 0] 42) = w0 at *
  obtain ⟨⟨k0, k1, k2, k3, k4, k5, k6, k7, k8, k9, k10⟩, _⟩ := Bx.b11 (H0.out.held 1 rfl)
  obtain ⟨_, ⟨z0, z1, z2, z3, z4, z5, z6, z7, z8, z9, z10⟩⟩ := Bx.b11 (H0.out.held 0 rfl)
  obtain ⟨m0, _⟩ := Bx.b1 HM.out
  clear HM
  go_wp2_with (first
    | (go_at_call 39; with_reducible refine (MV.out _ H0.out.bel).mono ?_; rintro e w1 ⟨rfl, b1⟩; clear MV k0 k1 k2 k3 k4 k5 k6 k7 k8 k9 k10 z0 z1 z2 z3 z4 z5 z6 z7 z8 z9 z10 m0; have H1 := Lib.hid (H0.out.below b1); clear H0 b1)
    | (go_at_call 38; with_reducible refine (AG_.out _).mono ?_; rintro e w2 ⟨rfl, b2⟩; clear AG_; have H2 := Lib.hid (H1.out.below b2); clear H1 b2; obtain ⟨_, ⟨z0, z1, z2, z3, z4, z5, z6, z7, z8, z9, z10⟩⟩ := Bx.b11 (H2.out.held 0 rfl)))
  have HF := Lib.hid (H2.out.set11 (.int .i64 ys) (.int .i64 yi) (.int .i64 yg) (.int .i64 ym) (.int .i64 yx) (.int .i64 yy) (.int .i64 yvx) (.int .i64 yvy) (.int .i64 yh) (.int .i64 yp) (.int .i64 yl))
  generalize ((((((((((w2.setCell ⟨w.heap.size + 1, 0, none⟩ (.int .i64 ys)).setCell ⟨w.heap.size + 1, 1, none⟩ (.int .i64 yi)).setCell ⟨w.heap.size + 1, 2, none⟩ (.int .i64 yg)).setCell ⟨w.heap.size + 1, 3, none⟩ (.int .i64 ym)).setCell ⟨w.heap.size + 1, 4, none⟩ (.int .i64 yx)).setCell ⟨w.heap.size + 1, 5, none⟩ (.int .i64 yy)).setCell ⟨w.heap.size + 1, 6, none⟩ (.int .i64 yvx)).setCell ⟨w.heap.size + 1, 7, none⟩ (.int .i64 yvy)).setCell ⟨w.heap.size + 1, 8, none⟩ (.int .i64 yh)).setCell ⟨w.heap.size + 1, 9, none⟩ (.int .i64 yp)).setCell ⟨w.heap.size + 1, 10, none⟩ (.int .i64 yl) = wF at *
  obtain ⟨r0, r1, r2, r3, r4, r5, r6, r7, r8, r9, r10⟩ := (Bx.b11 (HF.out.held 0 rfl)).1
  exact bodyPost_ret (v := .tuple #[.agg #[.int .i64 ys, .int .i64 yi, .int .i64 yg, .int .i64 ym, .int .i64 yx, .int .i64 yy, .int .i64 yvx, .int .i64 yvy, .int .i64 yh, .int .i64 yp, .int .i64 yl], .bool flag]) (by simp [results, Tryz.results37, go_sem, r0, r1, r2, r3, r4, r5, r6, r7, r8, r9, r10]) rfl ⟨rfl, HF.out.bel⟩
end Go.Proofs.YtljaahemlcaffaaGreat
