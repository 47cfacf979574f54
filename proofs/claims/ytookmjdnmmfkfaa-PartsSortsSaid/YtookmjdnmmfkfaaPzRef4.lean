/- The document's parts: With. Written by wip/tools/genpz4.py. -/
import Derived.Test.YtookmjdnmmfkfaaPzW2
namespace Go.Proofs.Ytookmjdnmmfkfaa
open Go.RowKit Pz
set_option linter.unusedVariables false

set_option maxHeartbeats 16000000 in
set_option maxRecDepth 100000 in
/-- components put over others -/
theorem rwith_any (b c : Bn) (hm : Fit c.m) (w : World) : Calls Try.prog 20 #[b.val, c.val] w fun e w' => e = .returned (withB b c).val ∧ Below w.heap.size w w' := by
  have B0 : Hid (∀ W, Calls Try.prog 34 #[.int .i64 c.m, .int .i64 1] W fun e w' => e = .returned (.bool (bitB c.m 0)) ∧ W = w') := Lib.hid fun W => bit_any c.m hm 0 (by decide) W
  have B1 : Hid (∀ W, Calls Try.prog 34 #[.int .i64 c.m, .int .i64 2] W fun e w' => e = .returned (.bool (bitB c.m 1)) ∧ W = w') := Lib.hid fun W => bit_any c.m hm 1 (by decide) W
  have B2 : Hid (∀ W, Calls Try.prog 34 #[.int .i64 c.m, .int .i64 4] W fun e w' => e = .returned (.bool (bitB c.m 2)) ∧ W = w') := Lib.hid fun W => bit_any c.m hm 2 (by decide) W
  have B3 : Hid (∀ W, Calls Try.prog 34 #[.int .i64 c.m, .int .i64 8] W fun e w' => e = .returned (.bool (bitB c.m 3)) ∧ W = w') := Lib.hid fun W => bit_any c.m hm 3 (by decide) W
  have B4 : Hid (∀ W, Calls Try.prog 34 #[.int .i64 c.m, .int .i64 16] W fun e w' => e = .returned (.bool (bitB c.m 4)) ∧ W = w') := Lib.hid fun W => bit_any c.m hm 4 (by decide) W
  obtain ⟨bbs, bbi, bbg, bbm, bbx, bby, bbvx, bbvy, bbh, bbp, bbl⟩ := b
  obtain ⟨ccs, cci, ccg, ccm, ccx, ccy, ccvx, ccvy, cch, ccp, ccl⟩ := c
  unfold withB
  simp only [Bn.val] at *
  clear hm
  generalize ht0 : bitB ccm 0 = t0 at *
  generalize ht1 : bitB ccm 1 = t1 at *
  generalize ht2 : bitB ccm 2 = t2 at *
  generalize ht3 : bitB ccm 3 = t3 at *
  generalize ht4 : bitB ccm 4 = t4 at *
  obtain ⟨Xx, Hx⟩ : ∃ X, (if t0 = true then ccx else bbx) = X := ⟨_, rfl⟩
  obtain ⟨Xy, Hy⟩ : ∃ X, (if t0 = true then ccy else bby) = X := ⟨_, rfl⟩
  obtain ⟨Xvx, Hvx⟩ : ∃ X, (if t1 = true then ccvx else bbvx) = X := ⟨_, rfl⟩
  obtain ⟨Xvy, Hvy⟩ : ∃ X, (if t1 = true then ccvy else bbvy) = X := ⟨_, rfl⟩
  obtain ⟨Xh, Hh⟩ : ∃ X, (if t2 = true then cch else bbh) = X := ⟨_, rfl⟩
  obtain ⟨Xp, Hp⟩ : ∃ X, (if t3 = true then ccp else bbp) = X := ⟨_, rfl⟩
  obtain ⟨Xl, Hl⟩ : ∃ X, (if t4 = true then ccl else bbl) = X := ⟨_, rfl⟩
  rw [Hx, Hy, Hvx, Hvy, Hh, Hp, Hl]
  replace Hx := Lib.hid Hx
  replace Hy := Lib.hid Hy
  replace Hvx := Lib.hid Hvx
  replace Hvy := Lib.hid Hvy
  replace Hh := Lib.hid Hh
  replace Hp := Lib.hid Hp
  replace Hl := Lib.hid Hl
  obtain ⟨Xm, hXm⟩ : ∃ X, bits .or .i64 bbm ccm = X := ⟨_, rfl⟩
  rw [hXm]
  have HB : Hid (W2 w (w.heap.size + 2) ⟨bbs, bbi, bbg, bbm, bbx, bby, bbvx, bbvy, bbh, bbp, bbl⟩ ⟨ccs, cci, ccg, ccm, ccx, ccy, ccvx, ccvy, cch, ccp, ccl⟩ (((w.alloc (.cells #[.int .i64 bbs, .int .i64 bbi, .int .i64 bbg, .int .i64 bbm, .int .i64 bbx, .int .i64 bby, .int .i64 bbvx, .int .i64 bbvy, .int .i64 bbh, .int .i64 bbp, .int .i64 bbl] 25)).alloc (.cells #[.int .i64 ccs, .int .i64 cci, .int .i64 ccg, .int .i64 ccm, .int .i64 ccx, .int .i64 ccy, .int .i64 ccvx, .int .i64 ccvy, .int .i64 cch, .int .i64 ccp, .int .i64 ccl] 25)).alloc (.cells #[.int .i64 0, .int .i64 0, .int .i64 0, .int .i64 0, .int .i64 0, .int .i64 0, .int .i64 0, .int .i64 0, .int .i64 0, .int .i64 0, .int .i64 0] 25))) := Lib.hid ⟨bel3 w _ _ _, at3a w _ _ _, at3b w _ _ _, at3c w _ _ _, by omega⟩
  go_enter Try.func20, Try.ntmps20
  go_upto_region 1 with fail
  generalize ((w.alloc (.cells #[.int .i64 bbs, .int .i64 bbi, .int .i64 bbg, .int .i64 bbm, .int .i64 bbx, .int .i64 bby, .int .i64 bbvx, .int .i64 bbvy, .int .i64 bbh, .int .i64 bbp, .int .i64 bbl] 25)).alloc (.cells #[.int .i64 ccs, .int .i64 cci, .int .i64 ccg, .int .i64 ccm, .int .i64 ccx, .int .i64 ccy, .int .i64 ccvx, .int .i64 ccvy, .int .i64 cch, .int .i64 ccp, .int .i64 ccl] 25)).alloc (.cells #[.int .i64 0, .int .i64 0, .int .i64 0, .int .i64 0, .int .i64 0, .int .i64 0, .int .i64 0, .int .i64 0, .int .i64 0, .int .i64 0, .int .i64 0] 25) = V0 at *
  obtain ⟨⟨k0, k1, k2, k3, k4, k5, k6, k7, k8, k9, k10⟩, ⟨f0, f1, f2, f3, f4, f5, f6, f7, f8, f9, f10⟩⟩ := Bx.b11 HB.out.own
  obtain ⟨⟨m0, m1, m2, m3, m4, m5, m6, m7, m8, m9, m10⟩, ⟨g0, g1, g2, g3, g4, g5, g6, g7, g8, g9, g10⟩⟩ := Bx.b11 HB.out.oth
  go_upto_if 7 with (go_at_call 34; with_reducible refine (B0.out _).mono ?_; rintro e w' ⟨rfl, rfl⟩)
  go_cut [] (fun wx => W2 w (w.heap.size + 2) ⟨bbs, bbi, bbg, bbm, Xx, Xy, bbvx, bbvy, bbh, bbp, bbl⟩ ⟨ccs, cci, ccg, ccm, ccx, ccy, ccvx, ccvy, cch, ccp, ccl⟩ wx)
  case first =>
    cases t0 with
    | false =>
      go_wp2
      go_meet
      rw [← show bbx = Xx from Hx.out]
      rw [← show bby = Xy from Hy.out]
      exact HB.out
    | true =>
      go_wp2
      go_meet
      rw [← show ccx = Xx from Hx.out]
      rw [← show ccy = Xy from Hy.out]
      exact (HB.out.set_x ccx).set_y ccy
  clear k0 k1 k2 k3 k4 k5 k6 k7 k8 k9 k10 f0 f1 f2 f3 f4 f5 f6 f7 f8 f9 f10 m0 m1 m2 m3 m4 m5 m6 m7 m8 m9 m10 g0 g1 g2 g3 g4 g5 g6 g7 g8 g9 g10 HB
  generalize wc = V1 at *
  have HB := Lib.hid hcut
  clear hcut
  obtain ⟨⟨k0, k1, k2, k3, k4, k5, k6, k7, k8, k9, k10⟩, ⟨f0, f1, f2, f3, f4, f5, f6, f7, f8, f9, f10⟩⟩ := Bx.b11 HB.out.own
  obtain ⟨⟨m0, m1, m2, m3, m4, m5, m6, m7, m8, m9, m10⟩, ⟨g0, g1, g2, g3, g4, g5, g6, g7, g8, g9, g10⟩⟩ := Bx.b11 HB.out.oth
  go_upto_if 16 with (go_at_call 34; with_reducible refine (B1.out _).mono ?_; rintro e w' ⟨rfl, rfl⟩)
  go_cut [] (fun wx => W2 w (w.heap.size + 2) ⟨bbs, bbi, bbg, bbm, Xx, Xy, Xvx, Xvy, bbh, bbp, bbl⟩ ⟨ccs, cci, ccg, ccm, ccx, ccy, ccvx, ccvy, cch, ccp, ccl⟩ wx)
  case first =>
    cases t1 with
    | false =>
      go_wp2
      go_meet
      rw [← show bbvx = Xvx from Hvx.out]
      rw [← show bbvy = Xvy from Hvy.out]
      exact HB.out
    | true =>
      go_wp2
      go_meet
      rw [← show ccvx = Xvx from Hvx.out]
      rw [← show ccvy = Xvy from Hvy.out]
      exact (HB.out.set_vx ccvx).set_vy ccvy
  clear k0 k1 k2 k3 k4 k5 k6 k7 k8 k9 k10 f0 f1 f2 f3 f4 f5 f6 f7 f8 f9 f10 m0 m1 m2 m3 m4 m5 m6 m7 m8 m9 m10 g0 g1 g2 g3 g4 g5 g6 g7 g8 g9 g10 HB
  generalize wc = V2 at *
  have HB := Lib.hid hcut
  clear hcut
  obtain ⟨⟨k0, k1, k2, k3, k4, k5, k6, k7, k8, k9, k10⟩, ⟨f0, f1, f2, f3, f4, f5, f6, f7, f8, f9, f10⟩⟩ := Bx.b11 HB.out.own
  obtain ⟨⟨m0, m1, m2, m3, m4, m5, m6, m7, m8, m9, m10⟩, ⟨g0, g1, g2, g3, g4, g5, g6, g7, g8, g9, g10⟩⟩ := Bx.b11 HB.out.oth
  go_upto_if 25 with (go_at_call 34; with_reducible refine (B2.out _).mono ?_; rintro e w' ⟨rfl, rfl⟩)
  go_cut [] (fun wx => W2 w (w.heap.size + 2) ⟨bbs, bbi, bbg, bbm, Xx, Xy, Xvx, Xvy, Xh, bbp, bbl⟩ ⟨ccs, cci, ccg, ccm, ccx, ccy, ccvx, ccvy, cch, ccp, ccl⟩ wx)
  case first =>
    cases t2 with
    | false =>
      go_wp2
      go_meet
      rw [← show bbh = Xh from Hh.out]
      exact HB.out
    | true =>
      go_wp2
      go_meet
      rw [← show cch = Xh from Hh.out]
      exact HB.out.set_h cch
  clear k0 k1 k2 k3 k4 k5 k6 k7 k8 k9 k10 f0 f1 f2 f3 f4 f5 f6 f7 f8 f9 f10 m0 m1 m2 m3 m4 m5 m6 m7 m8 m9 m10 g0 g1 g2 g3 g4 g5 g6 g7 g8 g9 g10 HB
  generalize wc = V3 at *
  have HB := Lib.hid hcut
  clear hcut
  obtain ⟨⟨k0, k1, k2, k3, k4, k5, k6, k7, k8, k9, k10⟩, ⟨f0, f1, f2, f3, f4, f5, f6, f7, f8, f9, f10⟩⟩ := Bx.b11 HB.out.own
  obtain ⟨⟨m0, m1, m2, m3, m4, m5, m6, m7, m8, m9, m10⟩, ⟨g0, g1, g2, g3, g4, g5, g6, g7, g8, g9, g10⟩⟩ := Bx.b11 HB.out.oth
  go_upto_if 31 with (go_at_call 34; with_reducible refine (B3.out _).mono ?_; rintro e w' ⟨rfl, rfl⟩)
  go_cut [] (fun wx => W2 w (w.heap.size + 2) ⟨bbs, bbi, bbg, bbm, Xx, Xy, Xvx, Xvy, Xh, Xp, bbl⟩ ⟨ccs, cci, ccg, ccm, ccx, ccy, ccvx, ccvy, cch, ccp, ccl⟩ wx)
  case first =>
    cases t3 with
    | false =>
      go_wp2
      go_meet
      rw [← show bbp = Xp from Hp.out]
      exact HB.out
    | true =>
      go_wp2
      go_meet
      rw [← show ccp = Xp from Hp.out]
      exact HB.out.set_p ccp
  clear k0 k1 k2 k3 k4 k5 k6 k7 k8 k9 k10 f0 f1 f2 f3 f4 f5 f6 f7 f8 f9 f10 m0 m1 m2 m3 m4 m5 m6 m7 m8 m9 m10 g0 g1 g2 g3 g4 g5 g6 g7 g8 g9 g10 HB
  generalize wc = V4 at *
  have HB := Lib.hid hcut
  clear hcut
  obtain ⟨⟨k0, k1, k2, k3, k4, k5, k6, k7, k8, k9, k10⟩, ⟨f0, f1, f2, f3, f4, f5, f6, f7, f8, f9, f10⟩⟩ := Bx.b11 HB.out.own
  obtain ⟨⟨m0, m1, m2, m3, m4, m5, m6, m7, m8, m9, m10⟩, ⟨g0, g1, g2, g3, g4, g5, g6, g7, g8, g9, g10⟩⟩ := Bx.b11 HB.out.oth
  go_upto_if 37 with (go_at_call 34; with_reducible refine (B4.out _).mono ?_; rintro e w' ⟨rfl, rfl⟩)
  go_cut [] (fun wx => W2 w (w.heap.size + 2) ⟨bbs, bbi, bbg, bbm, Xx, Xy, Xvx, Xvy, Xh, Xp, Xl⟩ ⟨ccs, cci, ccg, ccm, ccx, ccy, ccvx, ccvy, cch, ccp, ccl⟩ wx)
  case first =>
    cases t4 with
    | false =>
      go_wp2
      go_meet
      rw [← show bbl = Xl from Hl.out]
      exact HB.out
    | true =>
      go_wp2
      go_meet
      rw [← show ccl = Xl from Hl.out]
      exact HB.out.set_l ccl
  clear k0 k1 k2 k3 k4 k5 k6 k7 k8 k9 k10 f0 f1 f2 f3 f4 f5 f6 f7 f8 f9 f10 m0 m1 m2 m3 m4 m5 m6 m7 m8 m9 m10 g0 g1 g2 g3 g4 g5 g6 g7 g8 g9 g10 HB
  generalize wc = V5 at *
  have HB := Lib.hid hcut
  clear hcut
  obtain ⟨⟨k0, k1, k2, k3, k4, k5, k6, k7, k8, k9, k10⟩, ⟨f0, f1, f2, f3, f4, f5, f6, f7, f8, f9, f10⟩⟩ := Bx.b11 HB.out.own
  obtain ⟨⟨m0, m1, m2, m3, m4, m5, m6, m7, m8, m9, m10⟩, ⟨g0, g1, g2, g3, g4, g5, g6, g7, g8, g9, g10⟩⟩ := Bx.b11 HB.out.oth
  have HB6 := Lib.hid (HB.out.set_m (Xm))
  go_upto_region 14 with fail
  clear k0 k1 k2 k3 k4 k5 k6 k7 k8 k9 k10 f0 f1 f2 f3 f4 f5 f6 f7 f8 f9 f10 m0 m1 m2 m3 m4 m5 m6 m7 m8 m9 m10 g0 g1 g2 g3 g4 g5 g6 g7 g8 g9 g10 HB
  generalize V5.setCell ⟨w.heap.size, 3, none⟩ (.int .i64 (Xm)) = V6 at *
  obtain ⟨⟨k0, k1, k2, k3, k4, k5, k6, k7, k8, k9, k10⟩, _⟩ := Bx.b11 HB6.out.own
  obtain ⟨⟨n0, n1, n2, n3, n4, n5, n6, n7, n8, n9, n10⟩, ⟨p0, p1, p2, p3, p4, p5, p6, p7, p8, p9, p10⟩, HF⟩ := HB6.out.fin
  clear HB6
  go_wp2
  obtain ⟨⟨r0, r1, r2, r3, r4, r5, r6, r7, r8, r9, r10⟩, hbel⟩ := HF.out
  exact bodyPost_ret (v := .agg #[.int .i64 bbs, .int .i64 bbi, .int .i64 bbg, .int .i64 Xm, .int .i64 Xx, .int .i64 Xy, .int .i64 Xvx, .int .i64 Xvy, .int .i64 Xh, .int .i64 Xp, .int .i64 Xl]) (by simp [results, Try.results20, go_sem, r0, r1, r2, r3, r4, r5, r6, r7, r8, r9, r10]) rfl ⟨rfl, hbel⟩
end Go.Proofs.Ytookmjdnmmfkfaa
