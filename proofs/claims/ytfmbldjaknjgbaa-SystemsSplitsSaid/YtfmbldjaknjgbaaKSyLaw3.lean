/- The law SystemsMay, walked. Written by wip/tools/gensy.py. -/
import Derived.Test.YtfmbldjaknjgbaaKSyCt
import Derived.Test.YtfmbldjaknjgbaaKSyD
import Derived.Test.YtfmbldjaknjgbaaKPz
namespace Go.Proofs.Ytfmbldjaknjgbaa
open Go.RowKit Pz Sp
set_option linter.unusedVariables false
set_option linter.unusedSimpArgs false

set_option maxHeartbeats 4000000 in
set_option maxRecDepth 100000 in
theorem law_may (K : SyCt) (w : World) (b : Bn) (hb : b.Fits) (n : Int) (hn : Fit n) (c : Cn) (hc : c.b.Fits) (hm : Fit c.m) : Calls Try.prog 9 #[b.val, .int .i64 n, c.val] w fun e w' => e = .returned (.bool true) ∧ Below w.heap.size w w' := by
  have m0 := fun W => may_any b hb.m W
  have mc := fun W => maycmd_any c hc.m W
  have m1 := fun W => may_any (Sy.hurt b n).1 (Sy.hurt_fit hb.m n) W
  have m2 := fun W => may_any (Sy.age b).1 (Sy.age_fit hb.m) W
  have m3 := fun W => may_any (Sy.obey b c.k b.id c.b c.m).1 (Sy.obey_fit hb.m _ _ _ _) W
  have k1 := fun W => K.hurt b n W hb hn
  have k2 := fun W => K.age b W hb
  have k3 := fun W => K.obey b { c with s := b.s, i := b.i, g := b.g } W hb hc hm
  have f1 := fun h => Sy.hurt_may (b := b) h n
  have f2 := fun h => Sy.age_may (b := b) h
  have f3 := fun h h' => Sy.obey_may (b := b) (c := c) h h'
  dsimp only at k3
  rw [show ((b.s, b.i, b.g) : Int × Int × Int) = b.id from rfl] at k3
  generalize Sy.hurt b n = xo at *
  generalize Sy.age b = yo at *
  generalize Sy.obey b c.k b.id c.b c.m = zo at *
  obtain ⟨⟨xs, xi, xg, xm, xx, xy, xvx, xvy, xh, xp, xl⟩, ok1⟩ := xo
  obtain ⟨⟨ys, yi, yg, ym, yx, yy, yvx, yvy, yh, yp, yl⟩, ok2⟩ := yo
  obtain ⟨⟨zs, zi, zg, zm, zx, zy, zvx, zvy, zh, zp, zl⟩, ok3⟩ := zo
  dsimp only at f1 f2 f3 m1 m2 m3 k1 k2 k3
  generalize may ⟨xs, xi, xg, xm, xx, xy, xvx, xvy, xh, xp, xl⟩ = mx at *
  generalize may ⟨ys, yi, yg, ym, yx, yy, yvx, yvy, yh, yp, yl⟩ = my at *
  generalize may ⟨zs, zi, zg, zm, zx, zy, zvx, zvy, zh, zp, zl⟩ = mz at *
  generalize may b = mb at *
  generalize mayCmd c = mcc at *
  obtain ⟨qs, qi, qg, qm, qx, qy, qvx, qvy, qh, qp, ql⟩ := b
  obtain ⟨ck, cs_, ci_, cg_, ⟨cs, ci, cg, cm, cx, cy, cvx, cvy, ch, cp, cl⟩, cm_⟩ := c
  simp only [Bn.val, Cn.val] at *
  have H0 : Hid (Sep w [box (w.heap.size + 1) (.cells #[.int .i64 ck, .int .i64 cs_, .int .i64 ci_, .int .i64 cg_, .int .i64 cs, .int .i64 ci, .int .i64 cg, .int .i64 cm, .int .i64 cx, .int .i64 cy, .int .i64 cvx, .int .i64 cvy, .int .i64 ch, .int .i64 cp, .int .i64 cl, .int .i64 cm_] 40), box w.heap.size (.cells #[.int .i64 qs, .int .i64 qi, .int .i64 qg, .int .i64 qm, .int .i64 qx, .int .i64 qy, .int .i64 qvx, .int .i64 qvy, .int .i64 qh, .int .i64 qp, .int .i64 ql] 34)] ((w.alloc (.cells #[.int .i64 qs, .int .i64 qi, .int .i64 qg, .int .i64 qm, .int .i64 qx, .int .i64 qy, .int .i64 qvx, .int .i64 qvy, .int .i64 qh, .int .i64 qp, .int .i64 ql] 34)).alloc (.cells #[.int .i64 ck, .int .i64 cs_, .int .i64 ci_, .int .i64 cg_, .int .i64 cs, .int .i64 ci, .int .i64 cg, .int .i64 cm, .int .i64 cx, .int .i64 cy, .int .i64 cvx, .int .i64 cvy, .int .i64 ch, .int .i64 cp, .int .i64 cl, .int .i64 cm_] 40))) := Lib.hid (by
    have := sep_box (sep_box (sep_new w) (.cells #[.int .i64 qs, .int .i64 qi, .int .i64 qg, .int .i64 qm, .int .i64 qx, .int .i64 qy, .int .i64 qvx, .int .i64 qvy, .int .i64 qh, .int .i64 qp, .int .i64 ql] 34)) (.cells #[.int .i64 ck, .int .i64 cs_, .int .i64 ci_, .int .i64 cg_, .int .i64 cs, .int .i64 ci, .int .i64 cg, .int .i64 cm, .int .i64 cx, .int .i64 cy, .int .i64 cvx, .int .i64 cvy, .int .i64 ch, .int .i64 cp, .int .i64 cl, .int .i64 cm_] 40)
    rw [size1] at this
    exact this)
  have M0 : Hid (∀ L W, Sep w L W → Calls Try.prog 31 #[.agg #[.int .i64 qs, .int .i64 qi, .int .i64 qg, .int .i64 qm, .int .i64 qx, .int .i64 qy, .int .i64 qvx, .int .i64 qvy, .int .i64 qh, .int .i64 qp, .int .i64 ql]] W fun e W' => e = .returned (.bool mb) ∧ Sep w L W') := Lib.hid fun L W hW => (m0 W).mono fun e W' ⟨a, b⟩ => ⟨a, hW.below b⟩
  have MC : Hid (∀ L W, Sep w L W → Calls Try.prog 32 #[.agg #[.int .i64 ck, .int .i64 cs_, .int .i64 ci_, .int .i64 cg_, .int .i64 cs, .int .i64 ci, .int .i64 cg, .int .i64 cm, .int .i64 cx, .int .i64 cy, .int .i64 cvx, .int .i64 cvy, .int .i64 ch, .int .i64 cp, .int .i64 cl, .int .i64 cm_]] W fun e W' => e = .returned (.bool mcc) ∧ Sep w L W') := Lib.hid fun L W hW => (mc W).mono fun e W' ⟨a, b⟩ => ⟨a, hW.below b⟩
  have AW := Lib.hid K.awake
  clear m0 mc K hb hc hm hn
  cases mb
  · clear m1 m2 m3 k1 k2 k3 f1 f2 f3 MC
    go_enter Try.func9, Try.ntmps9
    go_upto_region 1 with fail
    generalize (w.alloc (.cells #[.int .i64 qs, .int .i64 qi, .int .i64 qg, .int .i64 qm, .int .i64 qx, .int .i64 qy, .int .i64 qvx, .int .i64 qvy, .int .i64 qh, .int .i64 qp, .int .i64 ql] 34)).alloc (.cells #[.int .i64 ck, .int .i64 cs_, .int .i64 ci_, .int .i64 cg_, .int .i64 cs, .int .i64 ci, .int .i64 cg, .int .i64 cm, .int .i64 cx, .int .i64 cy, .int .i64 cvx, .int .i64 cvy, .int .i64 ch, .int .i64 cp, .int .i64 cl, .int .i64 cm_] 40) = w0 at *
    obtain ⟨k0, k1, k2, k3, k4, k5, k6, k7, k8, k9, k10⟩ := (Bx.b11 (H0.out.held 1 rfl)).1
    obtain ⟨e0, e1, e2, e3, e4, e5, e6, e7, e8, e9, e10, e11, e12, e13, e14, e15⟩ := (Bx.b16 (H0.out.held 0 rfl)).1
    go_wp2_with (first
      | (go_at_call 31; refine (M0.out _ _ H0.out).mono ?_; rintro e w1 ⟨rfl, h1⟩; clear M0 H0)
      | (go_at_call 16; refine (AW.out _).mono ?_; rintro e w6 ⟨rfl, b6⟩; clear AW))
    go_ret
    exact ⟨rfl, h1.bel.trans (b6.mono h1.bel.size)⟩
  · cases mcc
    · clear m1 m2 m3 k1 k2 k3 f1 f2 f3
      go_enter Try.func9, Try.ntmps9
      go_upto_region 1 with fail
      generalize (w.alloc (.cells #[.int .i64 qs, .int .i64 qi, .int .i64 qg, .int .i64 qm, .int .i64 qx, .int .i64 qy, .int .i64 qvx, .int .i64 qvy, .int .i64 qh, .int .i64 qp, .int .i64 ql] 34)).alloc (.cells #[.int .i64 ck, .int .i64 cs_, .int .i64 ci_, .int .i64 cg_, .int .i64 cs, .int .i64 ci, .int .i64 cg, .int .i64 cm, .int .i64 cx, .int .i64 cy, .int .i64 cvx, .int .i64 cvy, .int .i64 ch, .int .i64 cp, .int .i64 cl, .int .i64 cm_] 40) = w0 at *
      obtain ⟨k0, k1, k2, k3, k4, k5, k6, k7, k8, k9, k10⟩ := (Bx.b11 (H0.out.held 1 rfl)).1
      obtain ⟨e0, e1, e2, e3, e4, e5, e6, e7, e8, e9, e10, e11, e12, e13, e14, e15⟩ := (Bx.b16 (H0.out.held 0 rfl)).1
      go_wp2_with (first
        | (go_at_call 31; refine (M0.out _ _ H0.out).mono ?_; rintro e w1 ⟨rfl, h1⟩; clear M0 H0 k0 k1 k2 k3 k4 k5 k6 k7 k8 k9 k10 e0 e1 e2 e3 e4 e5 e6 e7 e8 e9 e10 e11 e12 e13 e14 e15; obtain ⟨k0, k1, k2, k3, k4, k5, k6, k7, k8, k9, k10⟩ := (Bx.b11 (h1.held 1 rfl)).1; obtain ⟨e0, e1, e2, e3, e4, e5, e6, e7, e8, e9, e10, e11, e12, e13, e14, e15⟩ := (Bx.b16 (h1.held 0 rfl)).1)
        | (go_at_call 32; refine (MC.out _ _ h1).mono ?_; rintro e w2 ⟨rfl, h2⟩; clear MC)
        | (go_at_call 16; refine (AW.out _).mono ?_; rintro e w6 ⟨rfl, b6⟩; clear AW))
      go_ret
      exact ⟨rfl, h2.bel.trans (b6.mono h2.bel.size)⟩
    · obtain ⟨rfl, g1⟩ := f1 rfl
      obtain ⟨rfl, g2⟩ := f2 rfl
      have e3 := f3 rfl rfl
      subst e3
      have M1 : Hid (∀ L W, Sep w L W → Calls Try.prog 31 #[.agg #[.int .i64 xs, .int .i64 xi, .int .i64 xg, .int .i64 xm, .int .i64 xx, .int .i64 xy, .int .i64 xvx, .int .i64 xvy, .int .i64 xh, .int .i64 xp, .int .i64 xl]] W fun e W' => e = .returned (.bool mx) ∧ Sep w L W') := Lib.hid fun L W hW => (m1 W).mono fun e W' ⟨a, b⟩ => ⟨a, hW.below b⟩
      have M2 : Hid (∀ L W, Sep w L W → Calls Try.prog 31 #[.agg #[.int .i64 ys, .int .i64 yi, .int .i64 yg, .int .i64 ym, .int .i64 yx, .int .i64 yy, .int .i64 yvx, .int .i64 yvy, .int .i64 yh, .int .i64 yp, .int .i64 yl]] W fun e W' => e = .returned (.bool my) ∧ Sep w L W') := Lib.hid fun L W hW => (m2 W).mono fun e W' ⟨a, b⟩ => ⟨a, hW.below b⟩
      have M3 : Hid (∀ L W, Sep w L W → Calls Try.prog 31 #[.agg #[.int .i64 zs, .int .i64 zi, .int .i64 zg, .int .i64 zm, .int .i64 zx, .int .i64 zy, .int .i64 zvx, .int .i64 zvy, .int .i64 zh, .int .i64 zp, .int .i64 zl]] W fun e W' => e = .returned (.bool mz) ∧ Sep w L W') := Lib.hid fun L W hW => (m3 W).mono fun e W' ⟨a, b⟩ => ⟨a, hW.below b⟩
      have K1 : Hid (∀ L W, Sep w (box (w.heap.size + 1) (.cells #[.int .i64 ck, .int .i64 cs_, .int .i64 ci_, .int .i64 cg_, .int .i64 cs, .int .i64 ci, .int .i64 cg, .int .i64 cm, .int .i64 cx, .int .i64 cy, .int .i64 cvx, .int .i64 cvy, .int .i64 ch, .int .i64 cp, .int .i64 cl, .int .i64 cm_] 40) :: box w.heap.size (.cells #[.int .i64 qs, .int .i64 qi, .int .i64 qg, .int .i64 qm, .int .i64 qx, .int .i64 qy, .int .i64 qvx, .int .i64 qvy, .int .i64 qh, .int .i64 qp, .int .i64 ql] 34) :: L) W → Calls Try.prog 17 #[.agg #[.int .i64 qs, .int .i64 qi, .int .i64 qg, .int .i64 qm, .int .i64 qx, .int .i64 qy, .int .i64 qvx, .int .i64 qvy, .int .i64 qh, .int .i64 qp, .int .i64 ql], .int .i64 n] W fun e W' => e = .returned (.tuple #[.agg #[.int .i64 xs, .int .i64 xi, .int .i64 xg, .int .i64 xm, .int .i64 xx, .int .i64 xy, .int .i64 xvx, .int .i64 xvy, .int .i64 xh, .int .i64 xp, .int .i64 xl], .bool mx]) ∧ Sep w (box (w.heap.size + 1) (.cells #[.int .i64 ck, .int .i64 cs_, .int .i64 ci_, .int .i64 cg_, .int .i64 cs, .int .i64 ci, .int .i64 cg, .int .i64 cm, .int .i64 cx, .int .i64 cy, .int .i64 cvx, .int .i64 cvy, .int .i64 ch, .int .i64 cp, .int .i64 cl, .int .i64 cm_] 40) :: box w.heap.size (.cells #[.int .i64 qs, .int .i64 qi, .int .i64 qg, .int .i64 qm, .int .i64 qx, .int .i64 qy, .int .i64 qvx, .int .i64 qvy, .int .i64 qh, .int .i64 qp, .int .i64 ql] 34) :: box W'.heap.size (.cells #[.int .i64 xs, .int .i64 xi, .int .i64 xg, .int .i64 xm, .int .i64 xx, .int .i64 xy, .int .i64 xvx, .int .i64 xvy, .int .i64 xh, .int .i64 xp, .int .i64 xl] 34) :: L) (W'.alloc (.cells #[.int .i64 xs, .int .i64 xi, .int .i64 xg, .int .i64 xm, .int .i64 xx, .int .i64 xy, .int .i64 xvx, .int .i64 xvy, .int .i64 xh, .int .i64 xp, .int .i64 xl] 34))) := Lib.hid fun L W hW => by
        refine (k1 W).mono ?_
        rintro e W' ⟨a, b⟩
        exact ⟨a, (sep_box (hW.below b) _).pull 2 rfl |>.pull 2 rfl⟩
      have K2 : Hid (∀ L W, Sep w (box (w.heap.size + 1) (.cells #[.int .i64 ck, .int .i64 cs_, .int .i64 ci_, .int .i64 cg_, .int .i64 cs, .int .i64 ci, .int .i64 cg, .int .i64 cm, .int .i64 cx, .int .i64 cy, .int .i64 cvx, .int .i64 cvy, .int .i64 ch, .int .i64 cp, .int .i64 cl, .int .i64 cm_] 40) :: box w.heap.size (.cells #[.int .i64 qs, .int .i64 qi, .int .i64 qg, .int .i64 qm, .int .i64 qx, .int .i64 qy, .int .i64 qvx, .int .i64 qvy, .int .i64 qh, .int .i64 qp, .int .i64 ql] 34) :: L) W → Calls Try.prog 19 #[.agg #[.int .i64 qs, .int .i64 qi, .int .i64 qg, .int .i64 qm, .int .i64 qx, .int .i64 qy, .int .i64 qvx, .int .i64 qvy, .int .i64 qh, .int .i64 qp, .int .i64 ql]] W fun e W' => e = .returned (.tuple #[.agg #[.int .i64 ys, .int .i64 yi, .int .i64 yg, .int .i64 ym, .int .i64 yx, .int .i64 yy, .int .i64 yvx, .int .i64 yvy, .int .i64 yh, .int .i64 yp, .int .i64 yl], .bool my]) ∧ Sep w (box (w.heap.size + 1) (.cells #[.int .i64 ck, .int .i64 cs_, .int .i64 ci_, .int .i64 cg_, .int .i64 cs, .int .i64 ci, .int .i64 cg, .int .i64 cm, .int .i64 cx, .int .i64 cy, .int .i64 cvx, .int .i64 cvy, .int .i64 ch, .int .i64 cp, .int .i64 cl, .int .i64 cm_] 40) :: box w.heap.size (.cells #[.int .i64 qs, .int .i64 qi, .int .i64 qg, .int .i64 qm, .int .i64 qx, .int .i64 qy, .int .i64 qvx, .int .i64 qvy, .int .i64 qh, .int .i64 qp, .int .i64 ql] 34) :: box W'.heap.size (.cells #[.int .i64 ys, .int .i64 yi, .int .i64 yg, .int .i64 ym, .int .i64 yx, .int .i64 yy, .int .i64 yvx, .int .i64 yvy, .int .i64 yh, .int .i64 yp, .int .i64 yl] 34) :: L) (W'.alloc (.cells #[.int .i64 ys, .int .i64 yi, .int .i64 yg, .int .i64 ym, .int .i64 yx, .int .i64 yy, .int .i64 yvx, .int .i64 yvy, .int .i64 yh, .int .i64 yp, .int .i64 yl] 34))) := Lib.hid fun L W hW => by
        refine (k2 W).mono ?_
        rintro e W' ⟨a, b⟩
        exact ⟨a, (sep_box (hW.below b) _).pull 2 rfl |>.pull 2 rfl⟩
      have K3 : Hid (∀ L W, Sep w (box (w.heap.size + 1) (.cells #[.int .i64 ck, .int .i64 qs, .int .i64 qi, .int .i64 qg, .int .i64 cs, .int .i64 ci, .int .i64 cg, .int .i64 cm, .int .i64 cx, .int .i64 cy, .int .i64 cvx, .int .i64 cvy, .int .i64 ch, .int .i64 cp, .int .i64 cl, .int .i64 cm_] 40) :: box w.heap.size (.cells #[.int .i64 qs, .int .i64 qi, .int .i64 qg, .int .i64 qm, .int .i64 qx, .int .i64 qy, .int .i64 qvx, .int .i64 qvy, .int .i64 qh, .int .i64 qp, .int .i64 ql] 34) :: L) W → Calls Try.prog 21 #[.agg #[.int .i64 qs, .int .i64 qi, .int .i64 qg, .int .i64 qm, .int .i64 qx, .int .i64 qy, .int .i64 qvx, .int .i64 qvy, .int .i64 qh, .int .i64 qp, .int .i64 ql], .agg #[.int .i64 ck, .int .i64 qs, .int .i64 qi, .int .i64 qg, .int .i64 cs, .int .i64 ci, .int .i64 cg, .int .i64 cm, .int .i64 cx, .int .i64 cy, .int .i64 cvx, .int .i64 cvy, .int .i64 ch, .int .i64 cp, .int .i64 cl, .int .i64 cm_]] W fun e W' => e = .returned (.tuple #[.agg #[.int .i64 zs, .int .i64 zi, .int .i64 zg, .int .i64 zm, .int .i64 zx, .int .i64 zy, .int .i64 zvx, .int .i64 zvy, .int .i64 zh, .int .i64 zp, .int .i64 zl], .bool mz]) ∧ Sep w (box (w.heap.size + 1) (.cells #[.int .i64 ck, .int .i64 qs, .int .i64 qi, .int .i64 qg, .int .i64 cs, .int .i64 ci, .int .i64 cg, .int .i64 cm, .int .i64 cx, .int .i64 cy, .int .i64 cvx, .int .i64 cvy, .int .i64 ch, .int .i64 cp, .int .i64 cl, .int .i64 cm_] 40) :: box w.heap.size (.cells #[.int .i64 qs, .int .i64 qi, .int .i64 qg, .int .i64 qm, .int .i64 qx, .int .i64 qy, .int .i64 qvx, .int .i64 qvy, .int .i64 qh, .int .i64 qp, .int .i64 ql] 34) :: box W'.heap.size (.cells #[.int .i64 zs, .int .i64 zi, .int .i64 zg, .int .i64 zm, .int .i64 zx, .int .i64 zy, .int .i64 zvx, .int .i64 zvy, .int .i64 zh, .int .i64 zp, .int .i64 zl] 34) :: L) (W'.alloc (.cells #[.int .i64 zs, .int .i64 zi, .int .i64 zg, .int .i64 zm, .int .i64 zx, .int .i64 zy, .int .i64 zvx, .int .i64 zvy, .int .i64 zh, .int .i64 zp, .int .i64 zl] 34))) := Lib.hid fun L W hW => by
        refine (k3 W).mono ?_
        rintro e W' ⟨a, b⟩
        exact ⟨a, (sep_box (hW.below b) _).pull 2 rfl |>.pull 2 rfl⟩
      clear m1 m2 m3 k1 k2 k3 f1 f2 f3
      go_enter Try.func9, Try.ntmps9
      go_upto_region 1 with fail
      generalize (w.alloc (.cells #[.int .i64 qs, .int .i64 qi, .int .i64 qg, .int .i64 qm, .int .i64 qx, .int .i64 qy, .int .i64 qvx, .int .i64 qvy, .int .i64 qh, .int .i64 qp, .int .i64 ql] 34)).alloc (.cells #[.int .i64 ck, .int .i64 cs_, .int .i64 ci_, .int .i64 cg_, .int .i64 cs, .int .i64 ci, .int .i64 cg, .int .i64 cm, .int .i64 cx, .int .i64 cy, .int .i64 cvx, .int .i64 cvy, .int .i64 ch, .int .i64 cp, .int .i64 cl, .int .i64 cm_] 40) = w0 at *
      obtain ⟨k0, k1, k2, k3, k4, k5, k6, k7, k8, k9, k10⟩ := (Bx.b11 (H0.out.held 1 rfl)).1
      obtain ⟨e0, e1, e2, e3, e4, e5, e6, e7, e8, e9, e10, e11, e12, e13, e14, e15⟩ := (Bx.b16 (H0.out.held 0 rfl)).1
      go_upto_region 5 with (first
        | (go_at_call 31; refine (M0.out _ _ H0.out).mono ?_; rintro e w1 ⟨rfl, h1⟩; clear M0 H0 k0 k1 k2 k3 k4 k5 k6 k7 k8 k9 k10 e0 e1 e2 e3 e4 e5 e6 e7 e8 e9 e10 e11 e12 e13 e14 e15; obtain ⟨k0, k1, k2, k3, k4, k5, k6, k7, k8, k9, k10⟩ := (Bx.b11 (h1.held 1 rfl)).1; obtain ⟨e0, e1, e2, e3, e4, e5, e6, e7, e8, e9, e10, e11, e12, e13, e14, e15⟩ := (Bx.b16 (h1.held 0 rfl)).1)
        | (go_at_call 32; refine (MC.out _ _ h1).mono ?_; rintro e w2 ⟨rfl, h2⟩; clear MC h1 k0 k1 k2 k3 k4 k5 k6 k7 k8 k9 k10 e0 e1 e2 e3 e4 e5 e6 e7 e8 e9 e10 e11 e12 e13 e14 e15; obtain ⟨k0, k1, k2, k3, k4, k5, k6, k7, k8, k9, k10⟩ := (Bx.b11 (h2.held 1 rfl)).1; obtain ⟨e0, e1, e2, e3, e4, e5, e6, e7, e8, e9, e10, e11, e12, e13, e14, e15⟩ := (Bx.b16 (h2.held 0 rfl)).1)
        | (go_at_call 17; refine (K1.out _ _ h2).mono ?_; rintro e w3 ⟨rfl, h3⟩; clear K1 h2 k0 k1 k2 k3 k4 k5 k6 k7 k8 k9 k10 e0 e1 e2 e3 e4 e5 e6 e7 e8 e9 e10 e11 e12 e13 e14 e15; obtain ⟨k0, k1, k2, k3, k4, k5, k6, k7, k8, k9, k10⟩ := (Bx.b11 (h3.held 1 rfl)).1; obtain ⟨e0, e1, e2, e3, e4, e5, e6, e7, e8, e9, e10, e11, e12, e13, e14, e15⟩ := (Bx.b16 (h3.held 0 rfl)).1)
        | (go_at_call 19; refine (K2.out _ _ h3).mono ?_; rintro e w4 ⟨rfl, h4⟩; clear K2 h3 k0 k1 k2 k3 k4 k5 k6 k7 k8 k9 k10 e0 e1 e2 e3 e4 e5 e6 e7 e8 e9 e10 e11 e12 e13 e14 e15; obtain ⟨k0, k1, k2, k3, k4, k5, k6, k7, k8, k9, k10⟩ := (Bx.b11 (h4.held 1 rfl)).1; obtain ⟨e0, e1, e2, e3, e4, e5, e6, e7, e8, e9, e10, e11, e12, e13, e14, e15⟩ := (Bx.b16 (h4.held 0 rfl)).1))
      generalize w4.alloc (.cells #[.int .i64 ys, .int .i64 yi, .int .i64 yg, .int .i64 ym, .int .i64 yx, .int .i64 yy, .int .i64 yvx, .int .i64 yvy, .int .i64 yh, .int .i64 yp, .int .i64 yl] 34) = V4 at *
      obtain ⟨_, ⟨f0, f1, f2, f3, f4, f5, f6, f7, f8, f9, f10, f11, f12, f13, f14, f15⟩⟩ := Bx.b16 (h4.held 0 rfl)
      have h5 := ((h4.cell (o := 1) (.int .i64 qs)).cell (o := 2) (.int .i64 qi)).cell (o := 3) (.int .i64 qg)
      simp only [Array.setIfInBounds] at h5
      go_upto_region 6 with fail
      clear k0 k1 k2 k3 k4 k5 k6 k7 k8 k9 k10 e0 e1 e2 e3 e4 e5 e6 e7 e8 e9 e10 e11 e12 e13 e14 e15 h4 f0 f1 f2 f3 f4 f5 f6 f7 f8 f9 f10 f11 f12 f13 f14 f15
      generalize (((V4.setCell ⟨w.heap.size + 1, 1, none⟩ (.int .i64 qs)).setCell ⟨w.heap.size + 1, 2, none⟩ (.int .i64 qi)).setCell ⟨w.heap.size + 1, 3, none⟩ (.int .i64 qg)) = w5 at *
      obtain ⟨k0, k1, k2, k3, k4, k5, k6, k7, k8, k9, k10⟩ := (Bx.b11 (h5.held 1 rfl)).1; obtain ⟨e0, e1, e2, e3, e4, e5, e6, e7, e8, e9, e10, e11, e12, e13, e14, e15⟩ := (Bx.b16 (h5.held 0 rfl)).1
      go_upto_region 7 with (go_at_call 21; refine (K3.out _ _ h5).mono ?_; rintro e w6 ⟨rfl, h6⟩; clear K3 h5 k0 k1 k2 k3 k4 k5 k6 k7 k8 k9 k10 e0 e1 e2 e3 e4 e5 e6 e7 e8 e9 e10 e11 e12 e13 e14 e15)
      generalize w6.alloc (.cells #[.int .i64 zs, .int .i64 zi, .int .i64 zg, .int .i64 zm, .int .i64 zx, .int .i64 zy, .int .i64 zvx, .int .i64 zvy, .int .i64 zh, .int .i64 zp, .int .i64 zl] 34) = w6 at *
      obtain ⟨k0, k1, k2, k3, k4, k5, k6, k7, k8, k9, k10⟩ := (Bx.b11 (h6.held 1 rfl)).1; obtain ⟨a0, a1, a2, a3, a4, a5, a6, a7, a8, a9, a10⟩ := (Bx.b11 (h6.held 4 rfl)).1; obtain ⟨b0, b1, b2, b3, b4, b5, b6, b7, b8, b9, b10⟩ := (Bx.b11 (h6.held 3 rfl)).1; obtain ⟨d0, d1, d2, d3, d4, d5, d6, d7, d8, d9, d10⟩ := (Bx.b11 (h6.held 2 rfl)).1
      cases mx <;> cases my <;> simp only [reduceCtorEq, false_implies, true_implies] at g1 g2
      all_goals
        go_wp2_with (first
          | (go_at_call 31; refine (M1.out _ _ h6).mono ?_; rintro e w7 ⟨rfl, h7⟩; clear M1 h6 k0 k1 k2 k3 k4 k5 k6 k7 k8 k9 k10 a0 a1 a2 a3 a4 a5 a6 a7 a8 a9 a10 b0 b1 b2 b3 b4 b5 b6 b7 b8 b9 b10 d0 d1 d2 d3 d4 d5 d6 d7 d8 d9 d10; obtain ⟨k0, k1, k2, k3, k4, k5, k6, k7, k8, k9, k10⟩ := (Bx.b11 (h7.held 1 rfl)).1; obtain ⟨a0, a1, a2, a3, a4, a5, a6, a7, a8, a9, a10⟩ := (Bx.b11 (h7.held 4 rfl)).1; obtain ⟨b0, b1, b2, b3, b4, b5, b6, b7, b8, b9, b10⟩ := (Bx.b11 (h7.held 3 rfl)).1; obtain ⟨d0, d1, d2, d3, d4, d5, d6, d7, d8, d9, d10⟩ := (Bx.b11 (h7.held 2 rfl)).1)
          | (go_at_call 31; refine (M2.out _ _ h7).mono ?_; rintro e w8 ⟨rfl, h8⟩; clear M2 h7 k0 k1 k2 k3 k4 k5 k6 k7 k8 k9 k10 a0 a1 a2 a3 a4 a5 a6 a7 a8 a9 a10 b0 b1 b2 b3 b4 b5 b6 b7 b8 b9 b10 d0 d1 d2 d3 d4 d5 d6 d7 d8 d9 d10; obtain ⟨k0, k1, k2, k3, k4, k5, k6, k7, k8, k9, k10⟩ := (Bx.b11 (h8.held 1 rfl)).1; obtain ⟨a0, a1, a2, a3, a4, a5, a6, a7, a8, a9, a10⟩ := (Bx.b11 (h8.held 4 rfl)).1; obtain ⟨b0, b1, b2, b3, b4, b5, b6, b7, b8, b9, b10⟩ := (Bx.b11 (h8.held 3 rfl)).1; obtain ⟨d0, d1, d2, d3, d4, d5, d6, d7, d8, d9, d10⟩ := (Bx.b11 (h8.held 2 rfl)).1)
          | (go_at_call 31; refine (M3.out _ _ h8).mono ?_; rintro e w9 ⟨rfl, h9⟩; clear M3 h8 k0 k1 k2 k3 k4 k5 k6 k7 k8 k9 k10 a0 a1 a2 a3 a4 a5 a6 a7 a8 a9 a10 b0 b1 b2 b3 b4 b5 b6 b7 b8 b9 b10 d0 d1 d2 d3 d4 d5 d6 d7 d8 d9 d10; obtain ⟨k0, k1, k2, k3, k4, k5, k6, k7, k8, k9, k10⟩ := (Bx.b11 (h9.held 1 rfl)).1; obtain ⟨a0, a1, a2, a3, a4, a5, a6, a7, a8, a9, a10⟩ := (Bx.b11 (h9.held 4 rfl)).1; obtain ⟨b0, b1, b2, b3, b4, b5, b6, b7, b8, b9, b10⟩ := (Bx.b11 (h9.held 3 rfl)).1; obtain ⟨d0, d1, d2, d3, d4, d5, d6, d7, d8, d9, d10⟩ := (Bx.b11 (h9.held 2 rfl)).1)
          | (clear k0 k1 k2 k3 k4 k5 k6 k7 k8 k9 k10 a0 a1 a2 a3 a4 a5 a6 a7 a8 a9 a10 b0 b1 b2 b3 b4 b5 b6 b7 b8 b9 b10 d0 d1 d2 d3 d4 d5 d6 d7 d8 d9 d10; (go_at_call 16; refine (AW.out _).mono ?_; rintro e w10 ⟨rfl, b10⟩; clear AW)))
        go_ret
        exact ⟨rfl, h9.bel.trans (b10.mono h9.bel.size)⟩
end Go.Proofs.Ytfmbldjaknjgbaa
