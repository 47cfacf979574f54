/- The law SystemsHurts, walked. Written by wip/tools/gensy.py. -/
import Derived.Test.YtfmbldjaknjgbaaKSyCt
namespace Go.Proofs.Ytfmbldjaknjgbaa
open Go.RowKit Pz Sp
set_option linter.unusedVariables false
set_option linter.unusedSimpArgs false

set_option maxHeartbeats 4000000 in
set_option maxRecDepth 100000 in
theorem law_hurts (K : SyCt) (w : World) (b : Bn) (hb : b.Fits) (n : Int) (hn : Fit n) : Calls Try.prog 4 #[b.val, .int .i64 n] w fun e w' => e = .returned (.bool true) ∧ Below w.heap.size w w' := by
  obtain ⟨qs, qi, qg, qm, qx, qy, qvx, qvy, qh, qp, ql⟩ := b
  have k1 := fun W => K.hurt ⟨qs, qi, qg, qm, qx, qy, qvx, qvy, qh, qp, ql⟩ n W hb hn
  have k2 := fun W => K.age ⟨qs, qi, qg, qm, qx, qy, qvx, qvy, qh, qp, ql⟩ W hb
  have r1 := fun W => rhurt_any qs qi qg qm qx qy qvx qvy qh qp ql n hb.m hb.h hn W
  have r2 := fun W => rage_any qs qi qg qm qx qy qvx qvy qh qp ql hb.m hb.l W
  generalize Sy.hurt ⟨qs, qi, qg, qm, qx, qy, qvx, qvy, qh, qp, ql⟩ n = xo at *
  generalize Sy.age ⟨qs, qi, qg, qm, qx, qy, qvx, qvy, qh, qp, ql⟩ = yo at *
  obtain ⟨⟨xs, xi, xg, xm, xx, xy, xvx, xvy, xh, xp, xl⟩, ok1⟩ := xo
  obtain ⟨⟨ys, yi, yg, ym, yx, yy, yvx, yvy, yh, yp, yl⟩, ok2⟩ := yo
  simp only [Bn.val] at k1 k2 r1 r2 ⊢
  have K1 : Hid (∀ L W, Sep w (box w.heap.size (.cells #[.int .i64 qs, .int .i64 qi, .int .i64 qg, .int .i64 qm, .int .i64 qx, .int .i64 qy, .int .i64 qvx, .int .i64 qvy, .int .i64 qh, .int .i64 qp, .int .i64 ql] 34) :: L) W → Calls Try.prog 17 #[.agg #[.int .i64 qs, .int .i64 qi, .int .i64 qg, .int .i64 qm, .int .i64 qx, .int .i64 qy, .int .i64 qvx, .int .i64 qvy, .int .i64 qh, .int .i64 qp, .int .i64 ql], .int .i64 n] W fun e W' => e = .returned (.tuple #[.agg #[.int .i64 xs, .int .i64 xi, .int .i64 xg, .int .i64 xm, .int .i64 xx, .int .i64 xy, .int .i64 xvx, .int .i64 xvy, .int .i64 xh, .int .i64 xp, .int .i64 xl], .bool ok1]) ∧ Sep w (box w.heap.size (.cells #[.int .i64 qs, .int .i64 qi, .int .i64 qg, .int .i64 qm, .int .i64 qx, .int .i64 qy, .int .i64 qvx, .int .i64 qvy, .int .i64 qh, .int .i64 qp, .int .i64 ql] 34) :: box W'.heap.size (.cells #[.int .i64 xs, .int .i64 xi, .int .i64 xg, .int .i64 xm, .int .i64 xx, .int .i64 xy, .int .i64 xvx, .int .i64 xvy, .int .i64 xh, .int .i64 xp, .int .i64 xl] 34) :: L) (W'.alloc (.cells #[.int .i64 xs, .int .i64 xi, .int .i64 xg, .int .i64 xm, .int .i64 xx, .int .i64 xy, .int .i64 xvx, .int .i64 xvy, .int .i64 xh, .int .i64 xp, .int .i64 xl] 34))) := Lib.hid fun L W hW => by
    refine (k1 W).mono ?_
    rintro e W' ⟨a, b⟩
    exact ⟨a, (sep_box (hW.below b) _).pull 1 rfl⟩
  have R1 : Hid (∀ L W, Sep w (box w.heap.size (.cells #[.int .i64 qs, .int .i64 qi, .int .i64 qg, .int .i64 qm, .int .i64 qx, .int .i64 qy, .int .i64 qvx, .int .i64 qvy, .int .i64 qh, .int .i64 qp, .int .i64 ql] 34) :: L) W → Calls Try.prog 18 #[.agg #[.int .i64 qs, .int .i64 qi, .int .i64 qg, .int .i64 qm, .int .i64 qx, .int .i64 qy, .int .i64 qvx, .int .i64 qvy, .int .i64 qh, .int .i64 qp, .int .i64 ql], .int .i64 n] W fun e W' => e = .returned (.tuple #[.agg #[.int .i64 xs, .int .i64 xi, .int .i64 xg, .int .i64 xm, .int .i64 xx, .int .i64 xy, .int .i64 xvx, .int .i64 xvy, .int .i64 xh, .int .i64 xp, .int .i64 xl], .bool ok1]) ∧ Sep w (box w.heap.size (.cells #[.int .i64 qs, .int .i64 qi, .int .i64 qg, .int .i64 qm, .int .i64 qx, .int .i64 qy, .int .i64 qvx, .int .i64 qvy, .int .i64 qh, .int .i64 qp, .int .i64 ql] 34) :: box W'.heap.size (.cells #[.int .i64 xs, .int .i64 xi, .int .i64 xg, .int .i64 xm, .int .i64 xx, .int .i64 xy, .int .i64 xvx, .int .i64 xvy, .int .i64 xh, .int .i64 xp, .int .i64 xl] 34) :: L) (W'.alloc (.cells #[.int .i64 xs, .int .i64 xi, .int .i64 xg, .int .i64 xm, .int .i64 xx, .int .i64 xy, .int .i64 xvx, .int .i64 xvy, .int .i64 xh, .int .i64 xp, .int .i64 xl] 34))) := Lib.hid fun L W hW => by
    refine (r1 W).mono ?_
    rintro e W' ⟨a, b⟩
    exact ⟨a, (sep_box (hW.below b) _).pull 1 rfl⟩
  have K2 : Hid (∀ L W, Sep w (box w.heap.size (.cells #[.int .i64 qs, .int .i64 qi, .int .i64 qg, .int .i64 qm, .int .i64 qx, .int .i64 qy, .int .i64 qvx, .int .i64 qvy, .int .i64 qh, .int .i64 qp, .int .i64 ql] 34) :: L) W → Calls Try.prog 19 #[.agg #[.int .i64 qs, .int .i64 qi, .int .i64 qg, .int .i64 qm, .int .i64 qx, .int .i64 qy, .int .i64 qvx, .int .i64 qvy, .int .i64 qh, .int .i64 qp, .int .i64 ql]] W fun e W' => e = .returned (.tuple #[.agg #[.int .i64 ys, .int .i64 yi, .int .i64 yg, .int .i64 ym, .int .i64 yx, .int .i64 yy, .int .i64 yvx, .int .i64 yvy, .int .i64 yh, .int .i64 yp, .int .i64 yl], .bool ok2]) ∧ Sep w (box w.heap.size (.cells #[.int .i64 qs, .int .i64 qi, .int .i64 qg, .int .i64 qm, .int .i64 qx, .int .i64 qy, .int .i64 qvx, .int .i64 qvy, .int .i64 qh, .int .i64 qp, .int .i64 ql] 34) :: box W'.heap.size (.cells #[.int .i64 ys, .int .i64 yi, .int .i64 yg, .int .i64 ym, .int .i64 yx, .int .i64 yy, .int .i64 yvx, .int .i64 yvy, .int .i64 yh, .int .i64 yp, .int .i64 yl] 34) :: L) (W'.alloc (.cells #[.int .i64 ys, .int .i64 yi, .int .i64 yg, .int .i64 ym, .int .i64 yx, .int .i64 yy, .int .i64 yvx, .int .i64 yvy, .int .i64 yh, .int .i64 yp, .int .i64 yl] 34))) := Lib.hid fun L W hW => by
    refine (k2 W).mono ?_
    rintro e W' ⟨a, b⟩
    exact ⟨a, (sep_box (hW.below b) _).pull 1 rfl⟩
  have R2 : Hid (∀ L W, Sep w (box w.heap.size (.cells #[.int .i64 qs, .int .i64 qi, .int .i64 qg, .int .i64 qm, .int .i64 qx, .int .i64 qy, .int .i64 qvx, .int .i64 qvy, .int .i64 qh, .int .i64 qp, .int .i64 ql] 34) :: L) W → Calls Try.prog 20 #[.agg #[.int .i64 qs, .int .i64 qi, .int .i64 qg, .int .i64 qm, .int .i64 qx, .int .i64 qy, .int .i64 qvx, .int .i64 qvy, .int .i64 qh, .int .i64 qp, .int .i64 ql]] W fun e W' => e = .returned (.tuple #[.agg #[.int .i64 ys, .int .i64 yi, .int .i64 yg, .int .i64 ym, .int .i64 yx, .int .i64 yy, .int .i64 yvx, .int .i64 yvy, .int .i64 yh, .int .i64 yp, .int .i64 yl], .bool ok2]) ∧ Sep w (box w.heap.size (.cells #[.int .i64 qs, .int .i64 qi, .int .i64 qg, .int .i64 qm, .int .i64 qx, .int .i64 qy, .int .i64 qvx, .int .i64 qvy, .int .i64 qh, .int .i64 qp, .int .i64 ql] 34) :: box W'.heap.size (.cells #[.int .i64 ys, .int .i64 yi, .int .i64 yg, .int .i64 ym, .int .i64 yx, .int .i64 yy, .int .i64 yvx, .int .i64 yvy, .int .i64 yh, .int .i64 yp, .int .i64 yl] 34) :: L) (W'.alloc (.cells #[.int .i64 ys, .int .i64 yi, .int .i64 yg, .int .i64 ym, .int .i64 yx, .int .i64 yy, .int .i64 yvx, .int .i64 yvy, .int .i64 yh, .int .i64 yp, .int .i64 yl] 34))) := Lib.hid fun L W hW => by
    refine (r2 W).mono ?_
    rintro e W' ⟨a, b⟩
    exact ⟨a, (sep_box (hW.below b) _).pull 1 rfl⟩
  have H0 := Lib.hid (sep_box (sep_new w) (.cells #[.int .i64 qs, .int .i64 qi, .int .i64 qg, .int .i64 qm, .int .i64 qx, .int .i64 qy, .int .i64 qvx, .int .i64 qvy, .int .i64 qh, .int .i64 qp, .int .i64 ql] 34))
  have T0 := Lib.hid (Bx.b11 (at1 w (.cells #[.int .i64 qs, .int .i64 qi, .int .i64 qg, .int .i64 qm, .int .i64 qx, .int .i64 qy, .int .i64 qvx, .int .i64 qvy, .int .i64 qh, .int .i64 qp, .int .i64 ql] 34))).1
  have AW := Lib.hid K.awake
  have E1 := fun V => eq_self 0 xs xi xg xm xx xy xvx xvy xh xp xl V
  have E2 := fun V => eq_self 0 ys yi yg ym yx yy yvx yvy yh yp yl V
  simp only [Nat.reduceAdd] at E1 E2
  have n1 : (ok1 == ok1) = true := by simp
  have n2 : (ok2 == ok2) = true := by simp
  clear k1 k2 r1 r2 hb hn K
  obtain ⟨k0, k1, k2, k3, k4, k5, k6, k7, k8, k9, k10⟩ := T0.out
  clear T0
  go_enter Try.func4, Try.ntmps4
  go_upto_region 1 with fail
  generalize w.alloc (.cells #[.int .i64 qs, .int .i64 qi, .int .i64 qg, .int .i64 qm, .int .i64 qx, .int .i64 qy, .int .i64 qvx, .int .i64 qvy, .int .i64 qh, .int .i64 qp, .int .i64 ql] 34) = w0 at *
  go_upto_region 5 with (first
    | (go_at_call 17; refine (K1.out _ _ H0.out).mono ?_; rintro e w1 ⟨rfl, h1⟩; clear K1 H0 k0 k1 k2 k3 k4 k5 k6 k7 k8 k9 k10; obtain ⟨k0, k1, k2, k3, k4, k5, k6, k7, k8, k9, k10⟩ := (Bx.b11 (h1.held 0 rfl)).1)
    | (go_at_call 18; refine (R1.out _ _ h1).mono ?_; rintro e w2 ⟨rfl, h2⟩; clear R1 h1 k0 k1 k2 k3 k4 k5 k6 k7 k8 k9 k10; obtain ⟨k0, k1, k2, k3, k4, k5, k6, k7, k8, k9, k10⟩ := (Bx.b11 (h2.held 0 rfl)).1)
    | (go_at_call 19; refine (K2.out _ _ h2).mono ?_; rintro e w3 ⟨rfl, h3⟩; clear K2 h2 k0 k1 k2 k3 k4 k5 k6 k7 k8 k9 k10; obtain ⟨k0, k1, k2, k3, k4, k5, k6, k7, k8, k9, k10⟩ := (Bx.b11 (h3.held 0 rfl)).1)
    | (go_at_call 20; refine (R2.out _ _ h3).mono ?_; rintro e w4 ⟨rfl, h4⟩; clear R2 h3 k0 k1 k2 k3 k4 k5 k6 k7 k8 k9 k10))
  obtain ⟨a0, a1, a2, a3, a4, a5, a6, a7, a8, a9, a10⟩ := (Bx.b11 (h4.held 4 rfl)).1
  obtain ⟨c0, c1, c2, c3, c4, c5, c6, c7, c8, c9, c10⟩ := (Bx.b11 (h4.held 3 rfl)).1
  obtain ⟨d0, d1, d2, d3, d4, d5, d6, d7, d8, d9, d10⟩ := (Bx.b11 (h4.held 2 rfl)).1
  obtain ⟨f0, f1, f2, f3, f4, f5, f6, f7, f8, f9, f10⟩ := (Bx.b11 (h4.held 1 rfl)).1
  have H5 := Lib.hid h4.bel
  clear h4
  generalize w4.alloc (.cells #[.int .i64 ys, .int .i64 yi, .int .i64 yg, .int .i64 ym, .int .i64 yx, .int .i64 yy, .int .i64 yvx, .int .i64 yvy, .int .i64 yh, .int .i64 yp, .int .i64 yl] 34) = w5 at *
  go_wp2_with (go_at_call 16; refine (AW.out _).mono ?_; rintro e w6 ⟨rfl, b6⟩; clear AW)
  go_ret
  exact ⟨rfl, H5.out.trans (b6.mono H5.out.size)⟩
end Go.Proofs.Ytfmbldjaknjgbaa
