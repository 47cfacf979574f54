/- The law SystemsObeys, walked. Written by wip/tools/gensy.py. -/
import Derived.Test.YtfmbldjaknjgbaaKSyCt
namespace Go.Proofs.Ytfmbldjaknjgbaa
open Go.RowKit Pz Sp
set_option linter.unusedVariables false
set_option linter.unusedSimpArgs false

set_option maxHeartbeats 4000000 in
set_option maxRecDepth 100000 in
theorem law_obeys (K : SyCt) (w : World) (b : Bn) (hb : b.Fits) (c : Cn) (hc : c.b.Fits) (hm : Fit c.m) : Calls Try.prog 5 #[b.val, c.val] w fun e w' => e = .returned (.bool true) ∧ Below w.heap.size w w' := by
  obtain ⟨qs, qi, qg, qm, qx, qy, qvx, qvy, qh, qp, ql⟩ := b
  obtain ⟨ck, cs_, ci_, cg_, ⟨cs, ci, cg, cm, cx, cy, cvx, cvy, ch, cp, cl⟩, cm_⟩ := c
  have k1 := fun W => K.obey ⟨qs, qi, qg, qm, qx, qy, qvx, qvy, qh, qp, ql⟩ ⟨ck, cs_, ci_, cg_, ⟨cs, ci, cg, cm, cx, cy, cvx, cvy, ch, cp, cl⟩, cm_⟩ W hb hc hm
  have r1 := fun W => robey_any qs qi qg qm qx qy qvx qvy qh qp ql ck cs_ ci_ cg_ cs ci cg cm cx cy cvx cvy ch cp cl cm_ hc.m hm W
  dsimp only at k1 r1
  generalize Sy.obey ⟨qs, qi, qg, qm, qx, qy, qvx, qvy, qh, qp, ql⟩ ck (cs_, ci_, cg_) ⟨cs, ci, cg, cm, cx, cy, cvx, cvy, ch, cp, cl⟩ cm_ = xo at *
  obtain ⟨⟨xs, xi, xg, xm, xx, xy, xvx, xvy, xh, xp, xl⟩, ok1⟩ := xo
  simp only [Bn.val, Cn.val] at k1 r1 ⊢
  have K1 : Hid (∀ L W, Sep w (box (w.heap.size + 1) (.cells #[.int .i64 ck, .int .i64 cs_, .int .i64 ci_, .int .i64 cg_, .int .i64 cs, .int .i64 ci, .int .i64 cg, .int .i64 cm, .int .i64 cx, .int .i64 cy, .int .i64 cvx, .int .i64 cvy, .int .i64 ch, .int .i64 cp, .int .i64 cl, .int .i64 cm_] 40) :: box w.heap.size (.cells #[.int .i64 qs, .int .i64 qi, .int .i64 qg, .int .i64 qm, .int .i64 qx, .int .i64 qy, .int .i64 qvx, .int .i64 qvy, .int .i64 qh, .int .i64 qp, .int .i64 ql] 34) :: L) W → Calls Try.prog 21 #[.agg #[.int .i64 qs, .int .i64 qi, .int .i64 qg, .int .i64 qm, .int .i64 qx, .int .i64 qy, .int .i64 qvx, .int .i64 qvy, .int .i64 qh, .int .i64 qp, .int .i64 ql], .agg #[.int .i64 ck, .int .i64 cs_, .int .i64 ci_, .int .i64 cg_, .int .i64 cs, .int .i64 ci, .int .i64 cg, .int .i64 cm, .int .i64 cx, .int .i64 cy, .int .i64 cvx, .int .i64 cvy, .int .i64 ch, .int .i64 cp, .int .i64 cl, .int .i64 cm_]] W fun e W' => e = .returned (.tuple #[.agg #[.int .i64 xs, .int .i64 xi, .int .i64 xg, .int .i64 xm, .int .i64 xx, .int .i64 xy, .int .i64 xvx, .int .i64 xvy, .int .i64 xh, .int .i64 xp, .int .i64 xl], .bool ok1]) ∧ Sep w (box (w.heap.size + 1) (.cells #[.int .i64 ck, .int .i64 cs_, .int .i64 ci_, .int .i64 cg_, .int .i64 cs, .int .i64 ci, .int .i64 cg, .int .i64 cm, .int .i64 cx, .int .i64 cy, .int .i64 cvx, .int .i64 cvy, .int .i64 ch, .int .i64 cp, .int .i64 cl, .int .i64 cm_] 40) :: box w.heap.size (.cells #[.int .i64 qs, .int .i64 qi, .int .i64 qg, .int .i64 qm, .int .i64 qx, .int .i64 qy, .int .i64 qvx, .int .i64 qvy, .int .i64 qh, .int .i64 qp, .int .i64 ql] 34) :: box W'.heap.size (.cells #[.int .i64 xs, .int .i64 xi, .int .i64 xg, .int .i64 xm, .int .i64 xx, .int .i64 xy, .int .i64 xvx, .int .i64 xvy, .int .i64 xh, .int .i64 xp, .int .i64 xl] 34) :: L) (W'.alloc (.cells #[.int .i64 xs, .int .i64 xi, .int .i64 xg, .int .i64 xm, .int .i64 xx, .int .i64 xy, .int .i64 xvx, .int .i64 xvy, .int .i64 xh, .int .i64 xp, .int .i64 xl] 34))) := Lib.hid fun L W hW => by
    refine (k1 W).mono ?_
    rintro e W' ⟨a, b⟩
    exact ⟨a, (sep_box (hW.below b) _).pull 2 rfl |>.pull 2 rfl⟩
  have R1 : Hid (∀ L W, Sep w (box (w.heap.size + 1) (.cells #[.int .i64 ck, .int .i64 cs_, .int .i64 ci_, .int .i64 cg_, .int .i64 cs, .int .i64 ci, .int .i64 cg, .int .i64 cm, .int .i64 cx, .int .i64 cy, .int .i64 cvx, .int .i64 cvy, .int .i64 ch, .int .i64 cp, .int .i64 cl, .int .i64 cm_] 40) :: box w.heap.size (.cells #[.int .i64 qs, .int .i64 qi, .int .i64 qg, .int .i64 qm, .int .i64 qx, .int .i64 qy, .int .i64 qvx, .int .i64 qvy, .int .i64 qh, .int .i64 qp, .int .i64 ql] 34) :: L) W → Calls Try.prog 22 #[.agg #[.int .i64 qs, .int .i64 qi, .int .i64 qg, .int .i64 qm, .int .i64 qx, .int .i64 qy, .int .i64 qvx, .int .i64 qvy, .int .i64 qh, .int .i64 qp, .int .i64 ql], .agg #[.int .i64 ck, .int .i64 cs_, .int .i64 ci_, .int .i64 cg_, .int .i64 cs, .int .i64 ci, .int .i64 cg, .int .i64 cm, .int .i64 cx, .int .i64 cy, .int .i64 cvx, .int .i64 cvy, .int .i64 ch, .int .i64 cp, .int .i64 cl, .int .i64 cm_]] W fun e W' => e = .returned (.tuple #[.agg #[.int .i64 xs, .int .i64 xi, .int .i64 xg, .int .i64 xm, .int .i64 xx, .int .i64 xy, .int .i64 xvx, .int .i64 xvy, .int .i64 xh, .int .i64 xp, .int .i64 xl], .bool ok1]) ∧ Sep w (box (w.heap.size + 1) (.cells #[.int .i64 ck, .int .i64 cs_, .int .i64 ci_, .int .i64 cg_, .int .i64 cs, .int .i64 ci, .int .i64 cg, .int .i64 cm, .int .i64 cx, .int .i64 cy, .int .i64 cvx, .int .i64 cvy, .int .i64 ch, .int .i64 cp, .int .i64 cl, .int .i64 cm_] 40) :: box w.heap.size (.cells #[.int .i64 qs, .int .i64 qi, .int .i64 qg, .int .i64 qm, .int .i64 qx, .int .i64 qy, .int .i64 qvx, .int .i64 qvy, .int .i64 qh, .int .i64 qp, .int .i64 ql] 34) :: box W'.heap.size (.cells #[.int .i64 xs, .int .i64 xi, .int .i64 xg, .int .i64 xm, .int .i64 xx, .int .i64 xy, .int .i64 xvx, .int .i64 xvy, .int .i64 xh, .int .i64 xp, .int .i64 xl] 34) :: L) (W'.alloc (.cells #[.int .i64 xs, .int .i64 xi, .int .i64 xg, .int .i64 xm, .int .i64 xx, .int .i64 xy, .int .i64 xvx, .int .i64 xvy, .int .i64 xh, .int .i64 xp, .int .i64 xl] 34))) := Lib.hid fun L W hW => by
    refine (r1 W).mono ?_
    rintro e W' ⟨a, b⟩
    exact ⟨a, (sep_box (hW.below b) _).pull 2 rfl |>.pull 2 rfl⟩
  have H0 : Hid (Sep w [box (w.heap.size + 1) (.cells #[.int .i64 ck, .int .i64 cs_, .int .i64 ci_, .int .i64 cg_, .int .i64 cs, .int .i64 ci, .int .i64 cg, .int .i64 cm, .int .i64 cx, .int .i64 cy, .int .i64 cvx, .int .i64 cvy, .int .i64 ch, .int .i64 cp, .int .i64 cl, .int .i64 cm_] 40), box w.heap.size (.cells #[.int .i64 qs, .int .i64 qi, .int .i64 qg, .int .i64 qm, .int .i64 qx, .int .i64 qy, .int .i64 qvx, .int .i64 qvy, .int .i64 qh, .int .i64 qp, .int .i64 ql] 34)] ((w.alloc (.cells #[.int .i64 qs, .int .i64 qi, .int .i64 qg, .int .i64 qm, .int .i64 qx, .int .i64 qy, .int .i64 qvx, .int .i64 qvy, .int .i64 qh, .int .i64 qp, .int .i64 ql] 34)).alloc (.cells #[.int .i64 ck, .int .i64 cs_, .int .i64 ci_, .int .i64 cg_, .int .i64 cs, .int .i64 ci, .int .i64 cg, .int .i64 cm, .int .i64 cx, .int .i64 cy, .int .i64 cvx, .int .i64 cvy, .int .i64 ch, .int .i64 cp, .int .i64 cl, .int .i64 cm_] 40))) := Lib.hid (by
    have := sep_box (sep_box (sep_new w) (.cells #[.int .i64 qs, .int .i64 qi, .int .i64 qg, .int .i64 qm, .int .i64 qx, .int .i64 qy, .int .i64 qvx, .int .i64 qvy, .int .i64 qh, .int .i64 qp, .int .i64 ql] 34)) (.cells #[.int .i64 ck, .int .i64 cs_, .int .i64 ci_, .int .i64 cg_, .int .i64 cs, .int .i64 ci, .int .i64 cg, .int .i64 cm, .int .i64 cx, .int .i64 cy, .int .i64 cvx, .int .i64 cvy, .int .i64 ch, .int .i64 cp, .int .i64 cl, .int .i64 cm_] 40)
    rw [size1] at this
    exact this)
  have AW := Lib.hid K.awake
  have E1 := fun V => eq_self 0 xs xi xg xm xx xy xvx xvy xh xp xl V
  simp only [Nat.reduceAdd] at E1
  have n1 : (ok1 == ok1) = true := by simp
  clear k1 r1 hb hc hm K
  go_enter Try.func5, Try.ntmps5
  go_upto_region 1 with fail
  generalize (w.alloc (.cells #[.int .i64 qs, .int .i64 qi, .int .i64 qg, .int .i64 qm, .int .i64 qx, .int .i64 qy, .int .i64 qvx, .int .i64 qvy, .int .i64 qh, .int .i64 qp, .int .i64 ql] 34)).alloc (.cells #[.int .i64 ck, .int .i64 cs_, .int .i64 ci_, .int .i64 cg_, .int .i64 cs, .int .i64 ci, .int .i64 cg, .int .i64 cm, .int .i64 cx, .int .i64 cy, .int .i64 cvx, .int .i64 cvy, .int .i64 ch, .int .i64 cp, .int .i64 cl, .int .i64 cm_] 40) = w0 at *
  obtain ⟨k0, k1, k2, k3, k4, k5, k6, k7, k8, k9, k10⟩ := (Bx.b11 (H0.out.held 1 rfl)).1
  obtain ⟨e0, e1, e2, e3, e4, e5, e6, e7, e8, e9, e10, e11, e12, e13, e14, e15⟩ := (Bx.b16 (H0.out.held 0 rfl)).1
  go_upto_region 3 with (first
    | (go_at_call 21; refine (K1.out _ _ H0.out).mono ?_; rintro e w1 ⟨rfl, h1⟩; clear K1 H0 k0 k1 k2 k3 k4 k5 k6 k7 k8 k9 k10 e0 e1 e2 e3 e4 e5 e6 e7 e8 e9 e10 e11 e12 e13 e14 e15; obtain ⟨k0, k1, k2, k3, k4, k5, k6, k7, k8, k9, k10⟩ := (Bx.b11 (h1.held 1 rfl)).1; obtain ⟨e0, e1, e2, e3, e4, e5, e6, e7, e8, e9, e10, e11, e12, e13, e14, e15⟩ := (Bx.b16 (h1.held 0 rfl)).1)
    | (go_at_call 22; refine (R1.out _ _ h1).mono ?_; rintro e w2 ⟨rfl, h2⟩; clear R1 h1 k0 k1 k2 k3 k4 k5 k6 k7 k8 k9 k10 e0 e1 e2 e3 e4 e5 e6 e7 e8 e9 e10 e11 e12 e13 e14 e15))
  obtain ⟨a0, a1, a2, a3, a4, a5, a6, a7, a8, a9, a10⟩ := (Bx.b11 (h2.held 3 rfl)).1
  obtain ⟨c0, c1, c2, c3, c4, c5, c6, c7, c8, c9, c10⟩ := (Bx.b11 (h2.held 2 rfl)).1
  have H5 := Lib.hid h2.bel
  clear h2
  generalize w2.alloc (.cells #[.int .i64 xs, .int .i64 xi, .int .i64 xg, .int .i64 xm, .int .i64 xx, .int .i64 xy, .int .i64 xvx, .int .i64 xvy, .int .i64 xh, .int .i64 xp, .int .i64 xl] 34) = w5 at *
  go_wp2_with (go_at_call 16; refine (AW.out _).mono ?_; rintro e w6 ⟨rfl, b6⟩; clear AW)
  go_ret
  exact ⟨rfl, H5.out.trans (b6.mono H5.out.size)⟩
end Go.Proofs.Ytfmbldjaknjgbaa
