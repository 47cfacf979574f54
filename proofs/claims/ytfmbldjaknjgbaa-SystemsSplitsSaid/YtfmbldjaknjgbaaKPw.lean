/- PzRef4, PzRef5, PcCode5, PcCode8, in one text. -/
import Derived.Test.YtfmbldjaknjgbaaKPz
import Derived.Test.YtfmbldjaknjgbaaKPc
import Derived.Deep.DeepCutAuto
namespace Go.Proofs.Ytfmbldjaknjgbaa
open Go.RowKit Pz
set_option linter.unusedVariables false

set_option maxHeartbeats 16000000 in
set_option maxRecDepth 100000 in
/-- components put over others -/
theorem rwith_any (b c : Bn) (hm : Fit c.m) (w : World) : Calls Try.prog 42 #[b.val, c.val] w fun e w' => e = .returned (withB b c).val ∧ Below w.heap.size w w' := by
  have B0 : Hid (∀ W, Calls Try.prog 38 #[.int .i64 c.m, .int .i64 1] W fun e w' => e = .returned (.bool (bitB c.m 0)) ∧ W = w') := Lib.hid fun W => bit_any c.m hm 0 (by decide) W
  have B1 : Hid (∀ W, Calls Try.prog 38 #[.int .i64 c.m, .int .i64 2] W fun e w' => e = .returned (.bool (bitB c.m 1)) ∧ W = w') := Lib.hid fun W => bit_any c.m hm 1 (by decide) W
  have B2 : Hid (∀ W, Calls Try.prog 38 #[.int .i64 c.m, .int .i64 4] W fun e w' => e = .returned (.bool (bitB c.m 2)) ∧ W = w') := Lib.hid fun W => bit_any c.m hm 2 (by decide) W
  have B3 : Hid (∀ W, Calls Try.prog 38 #[.int .i64 c.m, .int .i64 8] W fun e w' => e = .returned (.bool (bitB c.m 3)) ∧ W = w') := Lib.hid fun W => bit_any c.m hm 3 (by decide) W
  have B4 : Hid (∀ W, Calls Try.prog 38 #[.int .i64 c.m, .int .i64 16] W fun e w' => e = .returned (.bool (bitB c.m 4)) ∧ W = w') := Lib.hid fun W => bit_any c.m hm 4 (by decide) W
  obtain ⟨bbs, bbi, bbg, bbm, bbx, bby, bbvx, bbvy, bbh, bbp, bbl⟩ := b
  obtain ⟨ccs, cci, ccg, ccm, ccx, ccy, ccvx, ccvy, cch, ccp, ccl⟩ := c
  unfold withB
  simp only [Bn.val] at *
  clear hm
  generalize ht0 : bitB ccm 0 = t0 at *
  generalize ht1 : bitB ccm 1 = t1 at *
  generalize ht2 : bitB ccm 2 = t2 at *
  generalize ht3 : bitB ccm 3 = t3 at *
  generalize ht4 : bitB ccm 4 = t4 at *
  obtain ⟨Xx, Hx⟩ : ∃ X, (if t0 = true then ccx else bbx) = X := ⟨_, rfl⟩
  obtain ⟨Xy, Hy⟩ : ∃ X, (if t0 = true then ccy else bby) = X := ⟨_, rfl⟩
  obtain ⟨Xvx, Hvx⟩ : ∃ X, (if t1 = true then ccvx else bbvx) = X := ⟨_, rfl⟩
  obtain ⟨Xvy, Hvy⟩ : ∃ X, (if t1 = true then ccvy else bbvy) = X := ⟨_, rfl⟩
  obtain ⟨Xh, Hh⟩ : ∃ X, (if t2 = true then cch else bbh) = X := ⟨_, rfl⟩
  obtain ⟨Xp, Hp⟩ : ∃ X, (if t3 = true then ccp else bbp) = X := ⟨_, rfl⟩
  obtain ⟨Xl, Hl⟩ : ∃ X, (if t4 = true then ccl else bbl) = X := ⟨_, rfl⟩
  rw [Hx, Hy, Hvx, Hvy, Hh, Hp, Hl]
  replace Hx := Lib.hid Hx
  replace Hy := Lib.hid Hy
  replace Hvx := Lib.hid Hvx
  replace Hvy := Lib.hid Hvy
  replace Hh := Lib.hid Hh
  replace Hp := Lib.hid Hp
  replace Hl := Lib.hid Hl
  obtain ⟨Xm, hXm⟩ : ∃ X, bits .or .i64 bbm ccm = X := ⟨_, rfl⟩
  rw [hXm]
  have HB : Hid (W2 w (w.heap.size + 2) ⟨bbs, bbi, bbg, bbm, bbx, bby, bbvx, bbvy, bbh, bbp, bbl⟩ ⟨ccs, cci, ccg, ccm, ccx, ccy, ccvx, ccvy, cch, ccp, ccl⟩ (((w.alloc (.cells #[.int .i64 bbs, .int .i64 bbi, .int .i64 bbg, .int .i64 bbm, .int .i64 bbx, .int .i64 bby, .int .i64 bbvx, .int .i64 bbvy, .int .i64 bbh, .int .i64 bbp, .int .i64 bbl] 34)).alloc (.cells #[.int .i64 ccs, .int .i64 cci, .int .i64 ccg, .int .i64 ccm, .int .i64 ccx, .int .i64 ccy, .int .i64 ccvx, .int .i64 ccvy, .int .i64 cch, .int .i64 ccp, .int .i64 ccl] 34)).alloc (.cells #[.int .i64 0, .int .i64 0, .int .i64 0, .int .i64 0, .int .i64 0, .int .i64 0, .int .i64 0, .int .i64 0, .int .i64 0, .int .i64 0, .int .i64 0] 34))) := Lib.hid ⟨bel3 w _ _ _, at3a w _ _ _, at3b w _ _ _, at3c w _ _ _, by omega⟩
  go_enter Try.func42, Try.ntmps42
  go_upto_region 1 with fail
  generalize ((w.alloc (.cells #[.int .i64 bbs, .int .i64 bbi, .int .i64 bbg, .int .i64 bbm, .int .i64 bbx, .int .i64 bby, .int .i64 bbvx, .int .i64 bbvy, .int .i64 bbh, .int .i64 bbp, .int .i64 bbl] 34)).alloc (.cells #[.int .i64 ccs, .int .i64 cci, .int .i64 ccg, .int .i64 ccm, .int .i64 ccx, .int .i64 ccy, .int .i64 ccvx, .int .i64 ccvy, .int .i64 cch, .int .i64 ccp, .int .i64 ccl] 34)).alloc (.cells #[.int .i64 0, .int .i64 0, .int .i64 0, .int .i64 0, .int .i64 0, .int .i64 0, .int .i64 0, .int .i64 0, .int .i64 0, .int .i64 0, .int .i64 0] 34) = V0 at *
  obtain ⟨⟨k0, k1, k2, k3, k4, k5, k6, k7, k8, k9, k10⟩, ⟨f0, f1, f2, f3, f4, f5, f6, f7, f8, f9, f10⟩⟩ := Bx.b11 HB.out.own
  obtain ⟨⟨m0, m1, m2, m3, m4, m5, m6, m7, m8, m9, m10⟩, ⟨g0, g1, g2, g3, g4, g5, g6, g7, g8, g9, g10⟩⟩ := Bx.b11 HB.out.oth
  go_upto_if 7 with (go_at_call 38; with_reducible refine (B0.out _).mono ?_; rintro e w' ⟨rfl, rfl⟩)
  go_cut [] (fun wx => W2 w (w.heap.size + 2) ⟨bbs, bbi, bbg, bbm, Xx, Xy, bbvx, bbvy, bbh, bbp, bbl⟩ ⟨ccs, cci, ccg, ccm, ccx, ccy, ccvx, ccvy, cch, ccp, ccl⟩ wx)
  case first =>
    cases t0 with
    | false =>
      go_wp2
      go_meet
      rw [← show bbx = Xx from Hx.out]
      rw [← show bby = Xy from Hy.out]
      exact HB.out
    | true =>
      go_wp2
      go_meet
      rw [← show ccx = Xx from Hx.out]
      rw [← show ccy = Xy from Hy.out]
      exact (HB.out.set_x ccx).set_y ccy
  clear k0 k1 k2 k3 k4 k5 k6 k7 k8 k9 k10 f0 f1 f2 f3 f4 f5 f6 f7 f8 f9 f10 m0 m1 m2 m3 m4 m5 m6 m7 m8 m9 m10 g0 g1 g2 g3 g4 g5 g6 g7 g8 g9 g10 HB
  generalize wc = V1 at *
  have HB := Lib.hid hcut
  clear hcut
  obtain ⟨⟨k0, k1, k2, k3, k4, k5, k6, k7, k8, k9, k10⟩, ⟨f0, f1, f2, f3, f4, f5, f6, f7, f8, f9, f10⟩⟩ := Bx.b11 HB.out.own
  obtain ⟨⟨m0, m1, m2, m3, m4, m5, m6, m7, m8, m9, m10⟩, ⟨g0, g1, g2, g3, g4, g5, g6, g7, g8, g9, g10⟩⟩ := Bx.b11 HB.out.oth
  go_upto_if 16 with (go_at_call 38; with_reducible refine (B1.out _).mono ?_; rintro e w' ⟨rfl, rfl⟩)
  go_cut [] (fun wx => W2 w (w.heap.size + 2) ⟨bbs, bbi, bbg, bbm, Xx, Xy, Xvx, Xvy, bbh, bbp, bbl⟩ ⟨ccs, cci, ccg, ccm, ccx, ccy, ccvx, ccvy, cch, ccp, ccl⟩ wx)
  case first =>
    cases t1 with
    | false =>
      go_wp2
      go_meet
      rw [← show bbvx = Xvx from Hvx.out]
      rw [← show bbvy = Xvy from Hvy.out]
      exact HB.out
    | true =>
      go_wp2
      go_meet
      rw [← show ccvx = Xvx from Hvx.out]
      rw [← show ccvy = Xvy from Hvy.out]
      exact (HB.out.set_vx ccvx).set_vy ccvy
  clear k0 k1 k2 k3 k4 k5 k6 k7 k8 k9 k10 f0 f1 f2 f3 f4 f5 f6 f7 f8 f9 f10 m0 m1 m2 m3 m4 m5 m6 m7 m8 m9 m10 g0 g1 g2 g3 g4 g5 g6 g7 g8 g9 g10 HB
  generalize wc = V2 at *
  have HB := Lib.hid hcut
  clear hcut
  obtain ⟨⟨k0, k1, k2, k3, k4, k5, k6, k7, k8, k9, k10⟩, ⟨f0, f1, f2, f3, f4, f5, f6, f7, f8, f9, f10⟩⟩ := Bx.b11 HB.out.own
  obtain ⟨⟨m0, m1, m2, m3, m4, m5, m6, m7, m8, m9, m10⟩, ⟨g0, g1, g2, g3, g4, g5, g6, g7, g8, g9, g10⟩⟩ := Bx.b11 HB.out.oth
  go_upto_if 25 with (go_at_call 38; with_reducible refine (B2.out _).mono ?_; rintro e w' ⟨rfl, rfl⟩)
  go_cut [] (fun wx => W2 w (w.heap.size + 2) ⟨bbs, bbi, bbg, bbm, Xx, Xy, Xvx, Xvy, Xh, bbp, bbl⟩ ⟨ccs, cci, ccg, ccm, ccx, ccy, ccvx, ccvy, cch, ccp, ccl⟩ wx)
  case first =>
    cases t2 with
    | false =>
      go_wp2
      go_meet
      rw [← show bbh = Xh from Hh.out]
      exact HB.out
    | true =>
      go_wp2
      go_meet
      rw [← show cch = Xh from Hh.out]
      exact HB.out.set_h cch
  clear k0 k1 k2 k3 k4 k5 k6 k7 k8 k9 k10 f0 f1 f2 f3 f4 f5 f6 f7 f8 f9 f10 m0 m1 m2 m3 m4 m5 m6 m7 m8 m9 m10 g0 g1 g2 g3 g4 g5 g6 g7 g8 g9 g10 HB
  generalize wc = V3 at *
  have HB := Lib.hid hcut
  clear hcut
  obtain ⟨⟨k0, k1, k2, k3, k4, k5, k6, k7, k8, k9, k10⟩, ⟨f0, f1, f2, f3, f4, f5, f6, f7, f8, f9, f10⟩⟩ := Bx.b11 HB.out.own
  obtain ⟨⟨m0, m1, m2, m3, m4, m5, m6, m7, m8, m9, m10⟩, ⟨g0, g1, g2, g3, g4, g5, g6, g7, g8, g9, g10⟩⟩ := Bx.b11 HB.out.oth
  go_upto_if 31 with (go_at_call 38; with_reducible refine (B3.out _).mono ?_; rintro e w' ⟨rfl, rfl⟩)
  go_cut [] (fun wx => W2 w (w.heap.size + 2) ⟨bbs, bbi, bbg, bbm, Xx, Xy, Xvx, Xvy, Xh, Xp, bbl⟩ ⟨ccs, cci, ccg, ccm, ccx, ccy, ccvx, ccvy, cch, ccp, ccl⟩ wx)
  case first =>
    cases t3 with
    | false =>
      go_wp2
      go_meet
      rw [← show bbp = Xp from Hp.out]
      exact HB.out
    | true =>
      go_wp2
      go_meet
      rw [← show ccp = Xp from Hp.out]
      exact HB.out.set_p ccp
  clear k0 k1 k2 k3 k4 k5 k6 k7 k8 k9 k10 f0 f1 f2 f3 f4 f5 f6 f7 f8 f9 f10 m0 m1 m2 m3 m4 m5 m6 m7 m8 m9 m10 g0 g1 g2 g3 g4 g5 g6 g7 g8 g9 g10 HB
  generalize wc = V4 at *
  have HB := Lib.hid hcut
  clear hcut
  obtain ⟨⟨k0, k1, k2, k3, k4, k5, k6, k7, k8, k9, k10⟩, ⟨f0, f1, f2, f3, f4, f5, f6, f7, f8, f9, f10⟩⟩ := Bx.b11 HB.out.own
  obtain ⟨⟨m0, m1, m2, m3, m4, m5, m6, m7, m8, m9, m10⟩, ⟨g0, g1, g2, g3, g4, g5, g6, g7, g8, g9, g10⟩⟩ := Bx.b11 HB.out.oth
  go_upto_if 37 with (go_at_call 38; with_reducible refine (B4.out _).mono ?_; rintro e w' ⟨rfl, rfl⟩)
  go_cut [] (fun wx => W2 w (w.heap.size + 2) ⟨bbs, bbi, bbg, bbm, Xx, Xy, Xvx, Xvy, Xh, Xp, Xl⟩ ⟨ccs, cci, ccg, ccm, ccx, ccy, ccvx, ccvy, cch, ccp, ccl⟩ wx)
  case first =>
    cases t4 with
    | false =>
      go_wp2
      go_meet
      rw [← show bbl = Xl from Hl.out]
      exact HB.out
    | true =>
      go_wp2
      go_meet
      rw [← show ccl = Xl from Hl.out]
      exact HB.out.set_l ccl
  clear k0 k1 k2 k3 k4 k5 k6 k7 k8 k9 k10 f0 f1 f2 f3 f4 f5 f6 f7 f8 f9 f10 m0 m1 m2 m3 m4 m5 m6 m7 m8 m9 m10 g0 g1 g2 g3 g4 g5 g6 g7 g8 g9 g10 HB
  generalize wc = V5 at *
  have HB := Lib.hid hcut
  clear hcut
  obtain ⟨⟨k0, k1, k2, k3, k4, k5, k6, k7, k8, k9, k10⟩, ⟨f0, f1, f2, f3, f4, f5, f6, f7, f8, f9, f10⟩⟩ := Bx.b11 HB.out.own
  obtain ⟨⟨m0, m1, m2, m3, m4, m5, m6, m7, m8, m9, m10⟩, ⟨g0, g1, g2, g3, g4, g5, g6, g7, g8, g9, g10⟩⟩ := Bx.b11 HB.out.oth
  have HB6 := Lib.hid (HB.out.set_m (Xm))
  go_upto_region 14 with fail
  clear k0 k1 k2 k3 k4 k5 k6 k7 k8 k9 k10 f0 f1 f2 f3 f4 f5 f6 f7 f8 f9 f10 m0 m1 m2 m3 m4 m5 m6 m7 m8 m9 m10 g0 g1 g2 g3 g4 g5 g6 g7 g8 g9 g10 HB
  generalize V5.setCell ⟨w.heap.size, 3, none⟩ (.int .i64 (Xm)) = V6 at *
  obtain ⟨⟨k0, k1, k2, k3, k4, k5, k6, k7, k8, k9, k10⟩, _⟩ := Bx.b11 HB6.out.own
  obtain ⟨⟨n0, n1, n2, n3, n4, n5, n6, n7, n8, n9, n10⟩, ⟨p0, p1, p2, p3, p4, p5, p6, p7, p8, p9, p10⟩, HF⟩ := HB6.out.fin
  clear HB6
  go_wp2
  obtain ⟨⟨r0, r1, r2, r3, r4, r5, r6, r7, r8, r9, r10⟩, hbel⟩ := HF.out
  exact bodyPost_ret (v := .agg #[.int .i64 bbs, .int .i64 bbi, .int .i64 bbg, .int .i64 Xm, .int .i64 Xx, .int .i64 Xy, .int .i64 Xvx, .int .i64 Xvy, .int .i64 Xh, .int .i64 Xp, .int .i64 Xl]) (by simp [results, Try.results42, go_sem, r0, r1, r2, r3, r4, r5, r6, r7, r8, r9, r10]) rfl ⟨rfl, hbel⟩
end Go.Proofs.Ytfmbldjaknjgbaa
namespace Go.Proofs.Ytfmbldjaknjgbaa
open Go.RowKit Pz
set_option linter.unusedVariables false

set_option maxHeartbeats 16000000 in
set_option maxRecDepth 100000 in
/-- components taken away -/
theorem rwithout_any (b : Bn) (n : Int) (hm : Fit n) (w : World) : Calls Try.prog 43 #[b.val, .int .i64 n] w fun e w' => e = .returned (withoutB b n).val ∧ Below w.heap.size w w' := by
  have B0 : Hid (∀ W, Calls Try.prog 38 #[.int .i64 n, .int .i64 1] W fun e w' => e = .returned (.bool (bitB n 0)) ∧ W = w') := Lib.hid fun W => bit_any n hm 0 (by decide) W
  have B1 : Hid (∀ W, Calls Try.prog 38 #[.int .i64 n, .int .i64 2] W fun e w' => e = .returned (.bool (bitB n 1)) ∧ W = w') := Lib.hid fun W => bit_any n hm 1 (by decide) W
  have B2 : Hid (∀ W, Calls Try.prog 38 #[.int .i64 n, .int .i64 4] W fun e w' => e = .returned (.bool (bitB n 2)) ∧ W = w') := Lib.hid fun W => bit_any n hm 2 (by decide) W
  have B3 : Hid (∀ W, Calls Try.prog 38 #[.int .i64 n, .int .i64 8] W fun e w' => e = .returned (.bool (bitB n 3)) ∧ W = w') := Lib.hid fun W => bit_any n hm 3 (by decide) W
  have B4 : Hid (∀ W, Calls Try.prog 38 #[.int .i64 n, .int .i64 16] W fun e w' => e = .returned (.bool (bitB n 4)) ∧ W = w') := Lib.hid fun W => bit_any n hm 4 (by decide) W
  obtain ⟨bbs, bbi, bbg, bbm, bbx, bby, bbvx, bbvy, bbh, bbp, bbl⟩ := b
  unfold withoutB
  simp only [Bn.val] at *
  clear hm
  generalize ht0 : bitB n 0 = t0 at *
  generalize ht1 : bitB n 1 = t1 at *
  generalize ht2 : bitB n 2 = t2 at *
  generalize ht3 : bitB n 3 = t3 at *
  generalize ht4 : bitB n 4 = t4 at *
  obtain ⟨Xx, Hx⟩ : ∃ X, (if t0 = true then 0 else bbx) = X := ⟨_, rfl⟩
  obtain ⟨Xy, Hy⟩ : ∃ X, (if t0 = true then 0 else bby) = X := ⟨_, rfl⟩
  obtain ⟨Xvx, Hvx⟩ : ∃ X, (if t1 = true then 0 else bbvx) = X := ⟨_, rfl⟩
  obtain ⟨Xvy, Hvy⟩ : ∃ X, (if t1 = true then 0 else bbvy) = X := ⟨_, rfl⟩
  obtain ⟨Xh, Hh⟩ : ∃ X, (if t2 = true then 0 else bbh) = X := ⟨_, rfl⟩
  obtain ⟨Xp, Hp⟩ : ∃ X, (if t3 = true then 0 else bbp) = X := ⟨_, rfl⟩
  obtain ⟨Xl, Hl⟩ : ∃ X, (if t4 = true then 0 else bbl) = X := ⟨_, rfl⟩
  rw [Hx, Hy, Hvx, Hvy, Hh, Hp, Hl]
  replace Hx := Lib.hid Hx
  replace Hy := Lib.hid Hy
  replace Hvx := Lib.hid Hvx
  replace Hvy := Lib.hid Hvy
  replace Hh := Lib.hid Hh
  replace Hp := Lib.hid Hp
  replace Hl := Lib.hid Hl
  have es := sub_and bbm n
  obtain ⟨Xm, hXm⟩ : ∃ X, bits .andNot .i64 bbm n = X := ⟨_, rfl⟩
  rw [hXm] at es ⊢
  clear hXm
  have HB : Hid (W2 w (w.heap.size + 1) ⟨bbs, bbi, bbg, bbm, bbx, bby, bbvx, bbvy, bbh, bbp, bbl⟩ Bn.zero ((w.alloc (.cells #[.int .i64 bbs, .int .i64 bbi, .int .i64 bbg, .int .i64 bbm, .int .i64 bbx, .int .i64 bby, .int .i64 bbvx, .int .i64 bbvy, .int .i64 bbh, .int .i64 bbp, .int .i64 bbl] 34)).alloc (.cells #[.int .i64 0, .int .i64 0, .int .i64 0, .int .i64 0, .int .i64 0, .int .i64 0, .int .i64 0, .int .i64 0, .int .i64 0, .int .i64 0, .int .i64 0] 34))) := Lib.hid ⟨bel2 w _ _, at2a w _ _, at2b w _ _, at2b w _ _, by omega⟩
  go_enter Try.func43, Try.ntmps43
  go_upto_region 1 with fail
  generalize (w.alloc (.cells #[.int .i64 bbs, .int .i64 bbi, .int .i64 bbg, .int .i64 bbm, .int .i64 bbx, .int .i64 bby, .int .i64 bbvx, .int .i64 bbvy, .int .i64 bbh, .int .i64 bbp, .int .i64 bbl] 34)).alloc (.cells #[.int .i64 0, .int .i64 0, .int .i64 0, .int .i64 0, .int .i64 0, .int .i64 0, .int .i64 0, .int .i64 0, .int .i64 0, .int .i64 0, .int .i64 0] 34) = V0 at *
  obtain ⟨⟨k0, k1, k2, k3, k4, k5, k6, k7, k8, k9, k10⟩, ⟨f0, f1, f2, f3, f4, f5, f6, f7, f8, f9, f10⟩⟩ := Bx.b11 HB.out.own
  obtain ⟨⟨m0, m1, m2, m3, m4, m5, m6, m7, m8, m9, m10⟩, ⟨g0, g1, g2, g3, g4, g5, g6, g7, g8, g9, g10⟩⟩ := Bx.b11 HB.out.oth
  go_upto_if 6 with (go_at_call 38; with_reducible refine (B0.out _).mono ?_; rintro e w' ⟨rfl, rfl⟩)
  go_cut [] (fun wx => W2 w (w.heap.size + 1) ⟨bbs, bbi, bbg, bbm, Xx, Xy, bbvx, bbvy, bbh, bbp, bbl⟩ Bn.zero wx)
  case first =>
    cases t0 with
    | false =>
      go_wp2
      go_meet
      rw [← show bbx = Xx from Hx.out]
      rw [← show bby = Xy from Hy.out]
      exact HB.out
    | true =>
      go_wp2
      go_meet
      rw [← show 0 = Xx from Hx.out]
      rw [← show 0 = Xy from Hy.out]
      exact (HB.out.set_x 0).set_y 0
  clear k0 k1 k2 k3 k4 k5 k6 k7 k8 k9 k10 f0 f1 f2 f3 f4 f5 f6 f7 f8 f9 f10 m0 m1 m2 m3 m4 m5 m6 m7 m8 m9 m10 g0 g1 g2 g3 g4 g5 g6 g7 g8 g9 g10 HB
  generalize wc = V1 at *
  have HB := Lib.hid hcut
  clear hcut
  obtain ⟨⟨k0, k1, k2, k3, k4, k5, k6, k7, k8, k9, k10⟩, ⟨f0, f1, f2, f3, f4, f5, f6, f7, f8, f9, f10⟩⟩ := Bx.b11 HB.out.own
  obtain ⟨⟨m0, m1, m2, m3, m4, m5, m6, m7, m8, m9, m10⟩, ⟨g0, g1, g2, g3, g4, g5, g6, g7, g8, g9, g10⟩⟩ := Bx.b11 HB.out.oth
  go_upto_if 10 with (go_at_call 38; with_reducible refine (B1.out _).mono ?_; rintro e w' ⟨rfl, rfl⟩)
  go_cut [] (fun wx => W2 w (w.heap.size + 1) ⟨bbs, bbi, bbg, bbm, Xx, Xy, Xvx, Xvy, bbh, bbp, bbl⟩ Bn.zero wx)
  case first =>
    cases t1 with
    | false =>
      go_wp2
      go_meet
      rw [← show bbvx = Xvx from Hvx.out]
      rw [← show bbvy = Xvy from Hvy.out]
      exact HB.out
    | true =>
      go_wp2
      go_meet
      rw [← show 0 = Xvx from Hvx.out]
      rw [← show 0 = Xvy from Hvy.out]
      exact (HB.out.set_vx 0).set_vy 0
  clear k0 k1 k2 k3 k4 k5 k6 k7 k8 k9 k10 f0 f1 f2 f3 f4 f5 f6 f7 f8 f9 f10 m0 m1 m2 m3 m4 m5 m6 m7 m8 m9 m10 g0 g1 g2 g3 g4 g5 g6 g7 g8 g9 g10 HB
  generalize wc = V2 at *
  have HB := Lib.hid hcut
  clear hcut
  obtain ⟨⟨k0, k1, k2, k3, k4, k5, k6, k7, k8, k9, k10⟩, ⟨f0, f1, f2, f3, f4, f5, f6, f7, f8, f9, f10⟩⟩ := Bx.b11 HB.out.own
  obtain ⟨⟨m0, m1, m2, m3, m4, m5, m6, m7, m8, m9, m10⟩, ⟨g0, g1, g2, g3, g4, g5, g6, g7, g8, g9, g10⟩⟩ := Bx.b11 HB.out.oth
  go_upto_if 14 with (go_at_call 38; with_reducible refine (B2.out _).mono ?_; rintro e w' ⟨rfl, rfl⟩)
  go_cut [] (fun wx => W2 w (w.heap.size + 1) ⟨bbs, bbi, bbg, bbm, Xx, Xy, Xvx, Xvy, Xh, bbp, bbl⟩ Bn.zero wx)
  case first =>
    cases t2 with
    | false =>
      go_wp2
      go_meet
      rw [← show bbh = Xh from Hh.out]
      exact HB.out
    | true =>
      go_wp2
      go_meet
      rw [← show 0 = Xh from Hh.out]
      exact HB.out.set_h 0
  clear k0 k1 k2 k3 k4 k5 k6 k7 k8 k9 k10 f0 f1 f2 f3 f4 f5 f6 f7 f8 f9 f10 m0 m1 m2 m3 m4 m5 m6 m7 m8 m9 m10 g0 g1 g2 g3 g4 g5 g6 g7 g8 g9 g10 HB
  generalize wc = V3 at *
  have HB := Lib.hid hcut
  clear hcut
  obtain ⟨⟨k0, k1, k2, k3, k4, k5, k6, k7, k8, k9, k10⟩, ⟨f0, f1, f2, f3, f4, f5, f6, f7, f8, f9, f10⟩⟩ := Bx.b11 HB.out.own
  obtain ⟨⟨m0, m1, m2, m3, m4, m5, m6, m7, m8, m9, m10⟩, ⟨g0, g1, g2, g3, g4, g5, g6, g7, g8, g9, g10⟩⟩ := Bx.b11 HB.out.oth
  go_upto_if 17 with (go_at_call 38; with_reducible refine (B3.out _).mono ?_; rintro e w' ⟨rfl, rfl⟩)
  go_cut [] (fun wx => W2 w (w.heap.size + 1) ⟨bbs, bbi, bbg, bbm, Xx, Xy, Xvx, Xvy, Xh, Xp, bbl⟩ Bn.zero wx)
  case first =>
    cases t3 with
    | false =>
      go_wp2
      go_meet
      rw [← show bbp = Xp from Hp.out]
      exact HB.out
    | true =>
      go_wp2
      go_meet
      rw [← show 0 = Xp from Hp.out]
      exact HB.out.set_p 0
  clear k0 k1 k2 k3 k4 k5 k6 k7 k8 k9 k10 f0 f1 f2 f3 f4 f5 f6 f7 f8 f9 f10 m0 m1 m2 m3 m4 m5 m6 m7 m8 m9 m10 g0 g1 g2 g3 g4 g5 g6 g7 g8 g9 g10 HB
  generalize wc = V4 at *
  have HB := Lib.hid hcut
  clear hcut
  obtain ⟨⟨k0, k1, k2, k3, k4, k5, k6, k7, k8, k9, k10⟩, ⟨f0, f1, f2, f3, f4, f5, f6, f7, f8, f9, f10⟩⟩ := Bx.b11 HB.out.own
  obtain ⟨⟨m0, m1, m2, m3, m4, m5, m6, m7, m8, m9, m10⟩, ⟨g0, g1, g2, g3, g4, g5, g6, g7, g8, g9, g10⟩⟩ := Bx.b11 HB.out.oth
  go_upto_if 20 with (go_at_call 38; with_reducible refine (B4.out _).mono ?_; rintro e w' ⟨rfl, rfl⟩)
  go_cut [] (fun wx => W2 w (w.heap.size + 1) ⟨bbs, bbi, bbg, bbm, Xx, Xy, Xvx, Xvy, Xh, Xp, Xl⟩ Bn.zero wx)
  case first =>
    cases t4 with
    | false =>
      go_wp2
      go_meet
      rw [← show bbl = Xl from Hl.out]
      exact HB.out
    | true =>
      go_wp2
      go_meet
      rw [← show 0 = Xl from Hl.out]
      exact HB.out.set_l 0
  clear k0 k1 k2 k3 k4 k5 k6 k7 k8 k9 k10 f0 f1 f2 f3 f4 f5 f6 f7 f8 f9 f10 m0 m1 m2 m3 m4 m5 m6 m7 m8 m9 m10 g0 g1 g2 g3 g4 g5 g6 g7 g8 g9 g10 HB
  generalize wc = V5 at *
  have HB := Lib.hid hcut
  clear hcut
  obtain ⟨⟨k0, k1, k2, k3, k4, k5, k6, k7, k8, k9, k10⟩, ⟨f0, f1, f2, f3, f4, f5, f6, f7, f8, f9, f10⟩⟩ := Bx.b11 HB.out.own
  obtain ⟨⟨m0, m1, m2, m3, m4, m5, m6, m7, m8, m9, m10⟩, ⟨g0, g1, g2, g3, g4, g5, g6, g7, g8, g9, g10⟩⟩ := Bx.b11 HB.out.oth
  have HB6 := Lib.hid (HB.out.set_m (Xm))
  go_upto_region 14 with fail
  clear k0 k1 k2 k3 k4 k5 k6 k7 k8 k9 k10 f0 f1 f2 f3 f4 f5 f6 f7 f8 f9 f10 m0 m1 m2 m3 m4 m5 m6 m7 m8 m9 m10 g0 g1 g2 g3 g4 g5 g6 g7 g8 g9 g10 HB
  generalize V5.setCell ⟨w.heap.size, 3, none⟩ (.int .i64 (Xm)) = V6 at *
  obtain ⟨⟨k0, k1, k2, k3, k4, k5, k6, k7, k8, k9, k10⟩, _⟩ := Bx.b11 HB6.out.own
  obtain ⟨⟨n0, n1, n2, n3, n4, n5, n6, n7, n8, n9, n10⟩, ⟨p0, p1, p2, p3, p4, p5, p6, p7, p8, p9, p10⟩, HF⟩ := HB6.out.fin
  clear HB6
  go_wp2
  obtain ⟨⟨r0, r1, r2, r3, r4, r5, r6, r7, r8, r9, r10⟩, hbel⟩ := HF.out
  exact bodyPost_ret (v := .agg #[.int .i64 bbs, .int .i64 bbi, .int .i64 bbg, .int .i64 Xm, .int .i64 Xx, .int .i64 Xy, .int .i64 Xvx, .int .i64 Xvy, .int .i64 Xh, .int .i64 Xp, .int .i64 Xl]) (by simp [results, Try.results43, go_sem, r0, r1, r2, r3, r4, r5, r6, r7, r8, r9, r10]) rfl ⟨rfl, hbel⟩
set_option maxHeartbeats 8000000 in
theorem before_any (s i g s' i' g' : Int) (w : World) : Calls Try.prog 69 #[.agg #[.int .i64 s, .int .i64 i, .int .i64 g], .agg #[.int .i64 s', .int .i64 i', .int .i64 g']] w fun e w' => e = .returned (.bool (before (s, i, g) (s', i', g'))) ∧ Below w.heap.size w w' := by
  have FIN := Lib.hid (bel2 w (.cells #[.int .i64 s, .int .i64 i, .int .i64 g] 32) (.cells #[.int .i64 s', .int .i64 i', .int .i64 g'] 32))
  obtain ⟨⟨c0, c1, c2⟩, _⟩ := Bx.b3 (at2a w (.cells #[.int .i64 s, .int .i64 i, .int .i64 g] 32) (.cells #[.int .i64 s', .int .i64 i', .int .i64 g'] 32))
  obtain ⟨⟨d0, d1, d2⟩, _⟩ := Bx.b3 (at2b w (.cells #[.int .i64 s, .int .i64 i, .int .i64 g] 32) (.cells #[.int .i64 s', .int .i64 i', .int .i64 g'] 32))
  unfold before
  simp only
  by_cases h1 : s ≠ s'
  · rw [if_pos h1]
    have t1 : (s != s') = true := bne_iff_ne.2 h1
    obtain ⟨b, t2⟩ : ∃ b, decide (s < s') = b := ⟨_, rfl⟩
    rw [t2]
    clear h1
    go_enter Try.func69, Try.ntmps69
    go_wp2
    go_ret
    exact ⟨rfl, FIN.out⟩
  · rw [if_neg h1]
    have t1 : (s != s') = false := by rw [bne, beq_iff_eq.2 (by omega)]; rfl
    by_cases h2 : i ≠ i'
    · rw [if_pos h2]
      have t3 : (i != i') = true := bne_iff_ne.2 h2
      obtain ⟨b, t4⟩ : ∃ b, decide (i < i') = b := ⟨_, rfl⟩
      rw [t4]
      clear h1 h2
      go_enter Try.func69, Try.ntmps69
      go_wp2
      go_ret
      exact ⟨rfl, FIN.out⟩
    · rw [if_neg h2]
      have t3 : (i != i') = false := by rw [bne, beq_iff_eq.2 (by omega)]; rfl
      obtain ⟨b, t5⟩ : ∃ b, decide (g < g') = b := ⟨_, rfl⟩
      rw [t5]
      clear h1 h2
      go_enter Try.func69, Try.ntmps69
      go_wp2
      go_ret
      exact ⟨rfl, FIN.out⟩
end Go.Proofs.Ytfmbldjaknjgbaa
namespace Go.Proofs.Ytfmbldjaknjgbaa
open Go.RowKit Pz
set_option linter.unusedVariables false

set_option maxHeartbeats 16000000 in
set_option maxRecDepth 100000 in
/-- components put over others -/
theorem cwith_any (b c : Bn) (w : World) : Calls Try.prog 40 #[b.val, c.val] w fun e w' => e = .returned (withB b c).val ∧ Below w.heap.size w w' := by
  have B0 : Hid (∀ W, Calls Try.prog 35 #[c.val, .int .i64 1] W fun e w' => e = .returned (.bool (bitB c.m 0)) ∧ Below W.heap.size W w') := Lib.hid fun W => has_one c (j := 0) (by decide) W
  have B1 : Hid (∀ W, Calls Try.prog 35 #[c.val, .int .i64 2] W fun e w' => e = .returned (.bool (bitB c.m 1)) ∧ Below W.heap.size W w') := Lib.hid fun W => has_one c (j := 1) (by decide) W
  have B2 : Hid (∀ W, Calls Try.prog 35 #[c.val, .int .i64 4] W fun e w' => e = .returned (.bool (bitB c.m 2)) ∧ Below W.heap.size W w') := Lib.hid fun W => has_one c (j := 2) (by decide) W
  have B3 : Hid (∀ W, Calls Try.prog 35 #[c.val, .int .i64 8] W fun e w' => e = .returned (.bool (bitB c.m 3)) ∧ Below W.heap.size W w') := Lib.hid fun W => has_one c (j := 3) (by decide) W
  have B4 : Hid (∀ W, Calls Try.prog 35 #[c.val, .int .i64 16] W fun e w' => e = .returned (.bool (bitB c.m 4)) ∧ Below W.heap.size W w') := Lib.hid fun W => has_one c (j := 4) (by decide) W
  obtain ⟨bbs, bbi, bbg, bbm, bbx, bby, bbvx, bbvy, bbh, bbp, bbl⟩ := b
  obtain ⟨ccs, cci, ccg, ccm, ccx, ccy, ccvx, ccvy, cch, ccp, ccl⟩ := c
  unfold withB
  simp only [Bn.val] at *
  generalize ht0 : bitB ccm 0 = t0 at *
  generalize ht1 : bitB ccm 1 = t1 at *
  generalize ht2 : bitB ccm 2 = t2 at *
  generalize ht3 : bitB ccm 3 = t3 at *
  generalize ht4 : bitB ccm 4 = t4 at *
  obtain ⟨Xx, Hx⟩ : ∃ X, (if t0 = true then ccx else bbx) = X := ⟨_, rfl⟩
  obtain ⟨Xy, Hy⟩ : ∃ X, (if t0 = true then ccy else bby) = X := ⟨_, rfl⟩
  obtain ⟨Xvx, Hvx⟩ : ∃ X, (if t1 = true then ccvx else bbvx) = X := ⟨_, rfl⟩
  obtain ⟨Xvy, Hvy⟩ : ∃ X, (if t1 = true then ccvy else bbvy) = X := ⟨_, rfl⟩
  obtain ⟨Xh, Hh⟩ : ∃ X, (if t2 = true then cch else bbh) = X := ⟨_, rfl⟩
  obtain ⟨Xp, Hp⟩ : ∃ X, (if t3 = true then ccp else bbp) = X := ⟨_, rfl⟩
  obtain ⟨Xl, Hl⟩ : ∃ X, (if t4 = true then ccl else bbl) = X := ⟨_, rfl⟩
  rw [Hx, Hy, Hvx, Hvy, Hh, Hp, Hl]
  replace Hx := Lib.hid Hx
  replace Hy := Lib.hid Hy
  replace Hvx := Lib.hid Hvx
  replace Hvy := Lib.hid Hvy
  replace Hh := Lib.hid Hh
  replace Hp := Lib.hid Hp
  replace Hl := Lib.hid Hl
  obtain ⟨Xm, hXm⟩ : ∃ X, bits .or .i64 bbm ccm = X := ⟨_, rfl⟩
  rw [hXm]
  have HB : Hid (W2 w (w.heap.size + 2) ⟨bbs, bbi, bbg, bbm, bbx, bby, bbvx, bbvy, bbh, bbp, bbl⟩ ⟨ccs, cci, ccg, ccm, ccx, ccy, ccvx, ccvy, cch, ccp, ccl⟩ (((w.alloc (.cells #[.int .i64 bbs, .int .i64 bbi, .int .i64 bbg, .int .i64 bbm, .int .i64 bbx, .int .i64 bby, .int .i64 bbvx, .int .i64 bbvy, .int .i64 bbh, .int .i64 bbp, .int .i64 bbl] 34)).alloc (.cells #[.int .i64 ccs, .int .i64 cci, .int .i64 ccg, .int .i64 ccm, .int .i64 ccx, .int .i64 ccy, .int .i64 ccvx, .int .i64 ccvy, .int .i64 cch, .int .i64 ccp, .int .i64 ccl] 34)).alloc (.cells #[.int .i64 0, .int .i64 0, .int .i64 0, .int .i64 0, .int .i64 0, .int .i64 0, .int .i64 0, .int .i64 0, .int .i64 0, .int .i64 0, .int .i64 0] 34))) := Lib.hid ⟨bel3 w _ _ _, at3a w _ _ _, at3b w _ _ _, at3c w _ _ _, by omega⟩
  go_enter Try.func40, Try.ntmps40
  go_upto_region 1 with fail
  generalize ((w.alloc (.cells #[.int .i64 bbs, .int .i64 bbi, .int .i64 bbg, .int .i64 bbm, .int .i64 bbx, .int .i64 bby, .int .i64 bbvx, .int .i64 bbvy, .int .i64 bbh, .int .i64 bbp, .int .i64 bbl] 34)).alloc (.cells #[.int .i64 ccs, .int .i64 cci, .int .i64 ccg, .int .i64 ccm, .int .i64 ccx, .int .i64 ccy, .int .i64 ccvx, .int .i64 ccvy, .int .i64 cch, .int .i64 ccp, .int .i64 ccl] 34)).alloc (.cells #[.int .i64 0, .int .i64 0, .int .i64 0, .int .i64 0, .int .i64 0, .int .i64 0, .int .i64 0, .int .i64 0, .int .i64 0, .int .i64 0, .int .i64 0] 34) = V0 at *
  obtain ⟨⟨k0, k1, k2, k3, k4, k5, k6, k7, k8, k9, k10⟩, ⟨f0, f1, f2, f3, f4, f5, f6, f7, f8, f9, f10⟩⟩ := Bx.b11 HB.out.own
  obtain ⟨⟨m0, m1, m2, m3, m4, m5, m6, m7, m8, m9, m10⟩, ⟨g0, g1, g2, g3, g4, g5, g6, g7, g8, g9, g10⟩⟩ := Bx.b11 HB.out.oth
  go_upto_if 6 with (go_at_call 35; with_reducible refine (B0.out _).mono ?_; rintro e w2 ⟨rfl, hb2⟩; clear k0 k1 k2 k3 k4 k5 k6 k7 k8 k9 k10 f0 f1 f2 f3 f4 f5 f6 f7 f8 f9 f10 m0 m1 m2 m3 m4 m5 m6 m7 m8 m9 m10 g0 g1 g2 g3 g4 g5 g6 g7 g8 g9 g10; replace HB := Lib.hid (HB.out.step hb2); clear hb2; obtain ⟨⟨k0, k1, k2, k3, k4, k5, k6, k7, k8, k9, k10⟩, ⟨f0, f1, f2, f3, f4, f5, f6, f7, f8, f9, f10⟩⟩ := Bx.b11 HB.out.own; obtain ⟨⟨m0, m1, m2, m3, m4, m5, m6, m7, m8, m9, m10⟩, ⟨g0, g1, g2, g3, g4, g5, g6, g7, g8, g9, g10⟩⟩ := Bx.b11 HB.out.oth)
  go_cut [] (fun wx => W2 w (w.heap.size + 2) ⟨bbs, bbi, bbg, bbm, Xx, Xy, bbvx, bbvy, bbh, bbp, bbl⟩ ⟨ccs, cci, ccg, ccm, ccx, ccy, ccvx, ccvy, cch, ccp, ccl⟩ wx)
  case first =>
    cases t0 with
    | false =>
      go_wp2
      go_meet
      rw [← show bbx = Xx from Hx.out]
      rw [← show bby = Xy from Hy.out]
      exact HB.out
    | true =>
      go_wp2
      go_region
      all_goals go_wp2
      all_goals go_meet
      all_goals rw [← show ccx = Xx from Hx.out, ← show ccy = Xy from Hy.out]
      all_goals first | exact ((HB.out.set_x ccx).set_y ccy).step (Below.d' (Below.refl _ _)) | exact ((HB.out.set_y ccy).set_x ccx).step (Below.d' (Below.refl _ _))
  clear k0 k1 k2 k3 k4 k5 k6 k7 k8 k9 k10 f0 f1 f2 f3 f4 f5 f6 f7 f8 f9 f10 m0 m1 m2 m3 m4 m5 m6 m7 m8 m9 m10 g0 g1 g2 g3 g4 g5 g6 g7 g8 g9 g10 HB
  generalize wc = V1 at *
  have HB := Lib.hid hcut
  clear hcut
  obtain ⟨⟨k0, k1, k2, k3, k4, k5, k6, k7, k8, k9, k10⟩, ⟨f0, f1, f2, f3, f4, f5, f6, f7, f8, f9, f10⟩⟩ := Bx.b11 HB.out.own
  obtain ⟨⟨m0, m1, m2, m3, m4, m5, m6, m7, m8, m9, m10⟩, ⟨g0, g1, g2, g3, g4, g5, g6, g7, g8, g9, g10⟩⟩ := Bx.b11 HB.out.oth
  go_upto_if 14 with (go_at_call 35; with_reducible refine (B1.out _).mono ?_; rintro e w2 ⟨rfl, hb2⟩; clear k0 k1 k2 k3 k4 k5 k6 k7 k8 k9 k10 f0 f1 f2 f3 f4 f5 f6 f7 f8 f9 f10 m0 m1 m2 m3 m4 m5 m6 m7 m8 m9 m10 g0 g1 g2 g3 g4 g5 g6 g7 g8 g9 g10; replace HB := Lib.hid (HB.out.step hb2); clear hb2; obtain ⟨⟨k0, k1, k2, k3, k4, k5, k6, k7, k8, k9, k10⟩, ⟨f0, f1, f2, f3, f4, f5, f6, f7, f8, f9, f10⟩⟩ := Bx.b11 HB.out.own; obtain ⟨⟨m0, m1, m2, m3, m4, m5, m6, m7, m8, m9, m10⟩, ⟨g0, g1, g2, g3, g4, g5, g6, g7, g8, g9, g10⟩⟩ := Bx.b11 HB.out.oth)
  go_cut [] (fun wx => W2 w (w.heap.size + 2) ⟨bbs, bbi, bbg, bbm, Xx, Xy, Xvx, Xvy, bbh, bbp, bbl⟩ ⟨ccs, cci, ccg, ccm, ccx, ccy, ccvx, ccvy, cch, ccp, ccl⟩ wx)
  case first =>
    cases t1 with
    | false =>
      go_wp2
      go_meet
      rw [← show bbvx = Xvx from Hvx.out]
      rw [← show bbvy = Xvy from Hvy.out]
      exact HB.out
    | true =>
      go_wp2
      go_region
      all_goals go_wp2
      all_goals go_meet
      all_goals rw [← show ccvx = Xvx from Hvx.out, ← show ccvy = Xvy from Hvy.out]
      all_goals first | exact ((HB.out.set_vx ccvx).set_vy ccvy).step (Below.d' (Below.refl _ _)) | exact ((HB.out.set_vy ccvy).set_vx ccvx).step (Below.d' (Below.refl _ _))
  clear k0 k1 k2 k3 k4 k5 k6 k7 k8 k9 k10 f0 f1 f2 f3 f4 f5 f6 f7 f8 f9 f10 m0 m1 m2 m3 m4 m5 m6 m7 m8 m9 m10 g0 g1 g2 g3 g4 g5 g6 g7 g8 g9 g10 HB
  generalize wc = V2 at *
  have HB := Lib.hid hcut
  clear hcut
  obtain ⟨⟨k0, k1, k2, k3, k4, k5, k6, k7, k8, k9, k10⟩, ⟨f0, f1, f2, f3, f4, f5, f6, f7, f8, f9, f10⟩⟩ := Bx.b11 HB.out.own
  obtain ⟨⟨m0, m1, m2, m3, m4, m5, m6, m7, m8, m9, m10⟩, ⟨g0, g1, g2, g3, g4, g5, g6, g7, g8, g9, g10⟩⟩ := Bx.b11 HB.out.oth
  go_upto_if 22 with (go_at_call 35; with_reducible refine (B2.out _).mono ?_; rintro e w2 ⟨rfl, hb2⟩; clear k0 k1 k2 k3 k4 k5 k6 k7 k8 k9 k10 f0 f1 f2 f3 f4 f5 f6 f7 f8 f9 f10 m0 m1 m2 m3 m4 m5 m6 m7 m8 m9 m10 g0 g1 g2 g3 g4 g5 g6 g7 g8 g9 g10; replace HB := Lib.hid (HB.out.step hb2); clear hb2; obtain ⟨⟨k0, k1, k2, k3, k4, k5, k6, k7, k8, k9, k10⟩, ⟨f0, f1, f2, f3, f4, f5, f6, f7, f8, f9, f10⟩⟩ := Bx.b11 HB.out.own; obtain ⟨⟨m0, m1, m2, m3, m4, m5, m6, m7, m8, m9, m10⟩, ⟨g0, g1, g2, g3, g4, g5, g6, g7, g8, g9, g10⟩⟩ := Bx.b11 HB.out.oth)
  go_cut [] (fun wx => W2 w (w.heap.size + 2) ⟨bbs, bbi, bbg, bbm, Xx, Xy, Xvx, Xvy, Xh, bbp, bbl⟩ ⟨ccs, cci, ccg, ccm, ccx, ccy, ccvx, ccvy, cch, ccp, ccl⟩ wx)
  case first =>
    cases t2 with
    | false =>
      go_wp2
      go_meet
      rw [← show bbh = Xh from Hh.out]
      exact HB.out
    | true =>
      go_wp2
      go_meet
      rw [← show cch = Xh from Hh.out]
      exact HB.out.set_h cch
  clear k0 k1 k2 k3 k4 k5 k6 k7 k8 k9 k10 f0 f1 f2 f3 f4 f5 f6 f7 f8 f9 f10 m0 m1 m2 m3 m4 m5 m6 m7 m8 m9 m10 g0 g1 g2 g3 g4 g5 g6 g7 g8 g9 g10 HB
  generalize wc = V3 at *
  have HB := Lib.hid hcut
  clear hcut
  obtain ⟨⟨k0, k1, k2, k3, k4, k5, k6, k7, k8, k9, k10⟩, ⟨f0, f1, f2, f3, f4, f5, f6, f7, f8, f9, f10⟩⟩ := Bx.b11 HB.out.own
  obtain ⟨⟨m0, m1, m2, m3, m4, m5, m6, m7, m8, m9, m10⟩, ⟨g0, g1, g2, g3, g4, g5, g6, g7, g8, g9, g10⟩⟩ := Bx.b11 HB.out.oth
  go_upto_if 27 with (go_at_call 35; with_reducible refine (B3.out _).mono ?_; rintro e w2 ⟨rfl, hb2⟩; clear k0 k1 k2 k3 k4 k5 k6 k7 k8 k9 k10 f0 f1 f2 f3 f4 f5 f6 f7 f8 f9 f10 m0 m1 m2 m3 m4 m5 m6 m7 m8 m9 m10 g0 g1 g2 g3 g4 g5 g6 g7 g8 g9 g10; replace HB := Lib.hid (HB.out.step hb2); clear hb2; obtain ⟨⟨k0, k1, k2, k3, k4, k5, k6, k7, k8, k9, k10⟩, ⟨f0, f1, f2, f3, f4, f5, f6, f7, f8, f9, f10⟩⟩ := Bx.b11 HB.out.own; obtain ⟨⟨m0, m1, m2, m3, m4, m5, m6, m7, m8, m9, m10⟩, ⟨g0, g1, g2, g3, g4, g5, g6, g7, g8, g9, g10⟩⟩ := Bx.b11 HB.out.oth)
  go_cut [] (fun wx => W2 w (w.heap.size + 2) ⟨bbs, bbi, bbg, bbm, Xx, Xy, Xvx, Xvy, Xh, Xp, bbl⟩ ⟨ccs, cci, ccg, ccm, ccx, ccy, ccvx, ccvy, cch, ccp, ccl⟩ wx)
  case first =>
    cases t3 with
    | false =>
      go_wp2
      go_meet
      rw [← show bbp = Xp from Hp.out]
      exact HB.out
    | true =>
      go_wp2
      go_meet
      rw [← show ccp = Xp from Hp.out]
      exact HB.out.set_p ccp
  clear k0 k1 k2 k3 k4 k5 k6 k7 k8 k9 k10 f0 f1 f2 f3 f4 f5 f6 f7 f8 f9 f10 m0 m1 m2 m3 m4 m5 m6 m7 m8 m9 m10 g0 g1 g2 g3 g4 g5 g6 g7 g8 g9 g10 HB
  generalize wc = V4 at *
  have HB := Lib.hid hcut
  clear hcut
  obtain ⟨⟨k0, k1, k2, k3, k4, k5, k6, k7, k8, k9, k10⟩, ⟨f0, f1, f2, f3, f4, f5, f6, f7, f8, f9, f10⟩⟩ := Bx.b11 HB.out.own
  obtain ⟨⟨m0, m1, m2, m3, m4, m5, m6, m7, m8, m9, m10⟩, ⟨g0, g1, g2, g3, g4, g5, g6, g7, g8, g9, g10⟩⟩ := Bx.b11 HB.out.oth
  go_upto_if 32 with (go_at_call 35; with_reducible refine (B4.out _).mono ?_; rintro e w2 ⟨rfl, hb2⟩; clear k0 k1 k2 k3 k4 k5 k6 k7 k8 k9 k10 f0 f1 f2 f3 f4 f5 f6 f7 f8 f9 f10 m0 m1 m2 m3 m4 m5 m6 m7 m8 m9 m10 g0 g1 g2 g3 g4 g5 g6 g7 g8 g9 g10; replace HB := Lib.hid (HB.out.step hb2); clear hb2; obtain ⟨⟨k0, k1, k2, k3, k4, k5, k6, k7, k8, k9, k10⟩, ⟨f0, f1, f2, f3, f4, f5, f6, f7, f8, f9, f10⟩⟩ := Bx.b11 HB.out.own; obtain ⟨⟨m0, m1, m2, m3, m4, m5, m6, m7, m8, m9, m10⟩, ⟨g0, g1, g2, g3, g4, g5, g6, g7, g8, g9, g10⟩⟩ := Bx.b11 HB.out.oth)
  go_cut [] (fun wx => W2 w (w.heap.size + 2) ⟨bbs, bbi, bbg, bbm, Xx, Xy, Xvx, Xvy, Xh, Xp, Xl⟩ ⟨ccs, cci, ccg, ccm, ccx, ccy, ccvx, ccvy, cch, ccp, ccl⟩ wx)
  case first =>
    cases t4 with
    | false =>
      go_wp2
      go_meet
      rw [← show bbl = Xl from Hl.out]
      exact HB.out
    | true =>
      go_wp2
      go_meet
      rw [← show ccl = Xl from Hl.out]
      exact HB.out.set_l ccl
  clear k0 k1 k2 k3 k4 k5 k6 k7 k8 k9 k10 f0 f1 f2 f3 f4 f5 f6 f7 f8 f9 f10 m0 m1 m2 m3 m4 m5 m6 m7 m8 m9 m10 g0 g1 g2 g3 g4 g5 g6 g7 g8 g9 g10 HB
  generalize wc = V5 at *
  have HB := Lib.hid hcut
  clear hcut
  obtain ⟨⟨k0, k1, k2, k3, k4, k5, k6, k7, k8, k9, k10⟩, ⟨f0, f1, f2, f3, f4, f5, f6, f7, f8, f9, f10⟩⟩ := Bx.b11 HB.out.own
  obtain ⟨⟨m0, m1, m2, m3, m4, m5, m6, m7, m8, m9, m10⟩, ⟨g0, g1, g2, g3, g4, g5, g6, g7, g8, g9, g10⟩⟩ := Bx.b11 HB.out.oth
  have HB6 := Lib.hid (HB.out.set_m (Xm))
  go_upto_region 12 with fail
  clear k0 k1 k2 k3 k4 k5 k6 k7 k8 k9 k10 f0 f1 f2 f3 f4 f5 f6 f7 f8 f9 f10 m0 m1 m2 m3 m4 m5 m6 m7 m8 m9 m10 g0 g1 g2 g3 g4 g5 g6 g7 g8 g9 g10 HB
  generalize V5.setCell ⟨w.heap.size, 3, none⟩ (.int .i64 (Xm)) = V6 at *
  obtain ⟨⟨k0, k1, k2, k3, k4, k5, k6, k7, k8, k9, k10⟩, _⟩ := Bx.b11 HB6.out.own
  obtain ⟨⟨n0, n1, n2, n3, n4, n5, n6, n7, n8, n9, n10⟩, ⟨p0, p1, p2, p3, p4, p5, p6, p7, p8, p9, p10⟩, HF⟩ := HB6.out.fin
  clear HB6
  go_wp2
  obtain ⟨⟨r0, r1, r2, r3, r4, r5, r6, r7, r8, r9, r10⟩, hbel⟩ := HF.out
  exact bodyPost_ret (v := .agg #[.int .i64 bbs, .int .i64 bbi, .int .i64 bbg, .int .i64 Xm, .int .i64 Xx, .int .i64 Xy, .int .i64 Xvx, .int .i64 Xvy, .int .i64 Xh, .int .i64 Xp, .int .i64 Xl]) (by simp [results, Try.results40, go_sem, r0, r1, r2, r3, r4, r5, r6, r7, r8, r9, r10]) rfl ⟨rfl, hbel⟩
end Go.Proofs.Ytfmbldjaknjgbaa
namespace Go.Proofs.Ytfmbldjaknjgbaa
open Go.RowKit Pz
set_option linter.unusedVariables false

theorem W2.put {w W : World} {rb : Nat} {a c : Bn} (h : W2 w rb a c W) (x : Bn) : W2 w rb x c (((((((((((W.setCell ⟨w.heap.size, 0, none⟩ (.int .i64 x.s)).setCell ⟨w.heap.size, 1, none⟩ (.int .i64 x.i)).setCell ⟨w.heap.size, 2, none⟩ (.int .i64 x.g)).setCell ⟨w.heap.size, 3, none⟩ (.int .i64 x.m)).setCell ⟨w.heap.size, 4, none⟩ (.int .i64 x.x)).setCell ⟨w.heap.size, 5, none⟩ (.int .i64 x.y)).setCell ⟨w.heap.size, 6, none⟩ (.int .i64 x.vx)).setCell ⟨w.heap.size, 7, none⟩ (.int .i64 x.vy)).setCell ⟨w.heap.size, 8, none⟩ (.int .i64 x.h)).setCell ⟨w.heap.size, 9, none⟩ (.int .i64 x.p)).setCell ⟨w.heap.size, 10, none⟩ (.int .i64 x.l)) := by
  have h1 := h.rb
  refine ⟨Bx.put11 h.bel (Nat.le_refl _) (.int .i64 x.s) (.int .i64 x.i) (.int .i64 x.g) (.int .i64 x.m) (.int .i64 x.x) (.int .i64 x.y) (.int .i64 x.vx) (.int .i64 x.vy) (.int .i64 x.h) (.int .i64 x.p) (.int .i64 x.l), Bx.set11 h.own (.int .i64 x.s) (.int .i64 x.i) (.int .i64 x.g) (.int .i64 x.m) (.int .i64 x.x) (.int .i64 x.y) (.int .i64 x.vx) (.int .i64 x.vy) (.int .i64 x.h) (.int .i64 x.p) (.int .i64 x.l), ?_, ?_, h.rb⟩
  · simp only [Bx.ne (W := _) (show w.heap.size + 1 ≠ w.heap.size by omega)]
    exact h.oth
  · simp only [Bx.ne (W := _) (show rb ≠ w.heap.size by omega)]
    exact h.res
set_option maxHeartbeats 16000000 in
set_option maxRecDepth 100000 in
/-- components taken away -/
theorem cwithout_any (b : Bn) (n : Int) (w : World) : Calls Try.prog 41 #[b.val, .int .i64 n] w fun e w' => e = .returned (withoutB b n).val ∧ Below w.heap.size w w' := by
  have C1 : Hid (∀ W, Calls Try.prog 40 #[b.val, Bn.val ⟨0, 0, 0, n, 0, 0, 0, 0, 0, 0, 0⟩] W fun e w' => e = .returned (withB b ⟨0, 0, 0, n, 0, 0, 0, 0, 0, 0, 0⟩).val ∧ Below W.heap.size W w') := Lib.hid fun W => cwith_any b ⟨0, 0, 0, n, 0, 0, 0, 0, 0, 0, 0⟩ W
  have EV : withoutB b n = { withB b ⟨0, 0, 0, n, 0, 0, 0, 0, 0, 0, 0⟩ with m := bits .andNot .i64 (bits .or .i64 b.m n) n } := by
    unfold withoutB withB
    simp only
    rw [andNot_or]
  rw [EV]
  clear EV
  have EM : (withB b ⟨0, 0, 0, n, 0, 0, 0, 0, 0, 0, 0⟩).m = bits .or .i64 b.m n := rfl
  rw [← EM]
  clear EM
  generalize withB b ⟨0, 0, 0, n, 0, 0, 0, 0, 0, 0, 0⟩ = x at *
  obtain ⟨us, ui, ug, um, ux, uy, uvx, uvy, uh, up, ul⟩ := b
  obtain ⟨xs, xi, xg, xm, xx, xy, xvx, xvy, xh, xp, xl⟩ := x
  simp only [Bn.val] at *
  obtain ⟨Xm, hXm⟩ : ∃ X, bits .andNot .i64 xm n = X := ⟨_, rfl⟩
  rw [hXm]
  have HB : Hid (W2 w (w.heap.size + 1) ⟨us, ui, ug, um, ux, uy, uvx, uvy, uh, up, ul⟩ Bn.zero ((w.alloc (.cells #[.int .i64 us, .int .i64 ui, .int .i64 ug, .int .i64 um, .int .i64 ux, .int .i64 uy, .int .i64 uvx, .int .i64 uvy, .int .i64 uh, .int .i64 up, .int .i64 ul] 34)).alloc (.cells #[.int .i64 0, .int .i64 0, .int .i64 0, .int .i64 0, .int .i64 0, .int .i64 0, .int .i64 0, .int .i64 0, .int .i64 0, .int .i64 0, .int .i64 0] 34))) := Lib.hid ⟨bel2 w _ _, at2a w _ _, at2b w _ _, at2b w _ _, by omega⟩
  go_enter Try.func41, Try.ntmps41
  go_upto_region 1 with fail
  generalize (w.alloc (.cells #[.int .i64 us, .int .i64 ui, .int .i64 ug, .int .i64 um, .int .i64 ux, .int .i64 uy, .int .i64 uvx, .int .i64 uvy, .int .i64 uh, .int .i64 up, .int .i64 ul] 34)).alloc (.cells #[.int .i64 0, .int .i64 0, .int .i64 0, .int .i64 0, .int .i64 0, .int .i64 0, .int .i64 0, .int .i64 0, .int .i64 0, .int .i64 0, .int .i64 0] 34) = V0 at *
  obtain ⟨⟨k0, k1, k2, k3, k4, k5, k6, k7, k8, k9, k10⟩, ⟨f0, f1, f2, f3, f4, f5, f6, f7, f8, f9, f10⟩⟩ := Bx.b11 HB.out.own
  go_upto_region 2 with (go_at_call 40; with_reducible refine (C1.out _).mono ?_; rintro e w2 ⟨rfl, hb2⟩; clear k0 k1 k2 k3 k4 k5 k6 k7 k8 k9 k10 f0 f1 f2 f3 f4 f5 f6 f7 f8 f9 f10; replace HB := Lib.hid (HB.out.step hb2); clear hb2; obtain ⟨⟨k0, k1, k2, k3, k4, k5, k6, k7, k8, k9, k10⟩, ⟨f0, f1, f2, f3, f4, f5, f6, f7, f8, f9, f10⟩⟩ := Bx.b11 HB.out.own)
  replace HB := Lib.hid (HB.out.put ⟨xs, xi, xg, xm, xx, xy, xvx, xvy, xh, xp, xl⟩)
  simp only at HB
  clear k0 k1 k2 k3 k4 k5 k6 k7 k8 k9 k10 f0 f1 f2 f3 f4 f5 f6 f7 f8 f9 f10
  generalize (((((((((((w2.setCell ⟨w.heap.size, 0, none⟩ (.int .i64 xs)).setCell ⟨w.heap.size, 1, none⟩ (.int .i64 xi)).setCell ⟨w.heap.size, 2, none⟩ (.int .i64 xg)).setCell ⟨w.heap.size, 3, none⟩ (.int .i64 xm)).setCell ⟨w.heap.size, 4, none⟩ (.int .i64 xx)).setCell ⟨w.heap.size, 5, none⟩ (.int .i64 xy)).setCell ⟨w.heap.size, 6, none⟩ (.int .i64 xvx)).setCell ⟨w.heap.size, 7, none⟩ (.int .i64 xvy)).setCell ⟨w.heap.size, 8, none⟩ (.int .i64 xh)).setCell ⟨w.heap.size, 9, none⟩ (.int .i64 xp)).setCell ⟨w.heap.size, 10, none⟩ (.int .i64 xl)) = V2 at *
  obtain ⟨⟨k0, k1, k2, k3, k4, k5, k6, k7, k8, k9, k10⟩, ⟨f0, f1, f2, f3, f4, f5, f6, f7, f8, f9, f10⟩⟩ := Bx.b11 HB.out.own
  have HB6 := Lib.hid (HB.out.set_m Xm)
  clear HB
  go_upto_region 3 with fail
  clear k0 k1 k2 k3 k4 k5 k6 k7 k8 k9 k10 f0 f1 f2 f3 f4 f5 f6 f7 f8 f9 f10
  generalize V2.setCell ⟨w.heap.size, 3, none⟩ (.int .i64 Xm) = V6 at *
  obtain ⟨⟨k0, k1, k2, k3, k4, k5, k6, k7, k8, k9, k10⟩, _⟩ := Bx.b11 HB6.out.own
  obtain ⟨⟨n0, n1, n2, n3, n4, n5, n6, n7, n8, n9, n10⟩, ⟨p0, p1, p2, p3, p4, p5, p6, p7, p8, p9, p10⟩, HF⟩ := HB6.out.fin
  clear HB6
  go_wp2
  obtain ⟨⟨r0, r1, r2, r3, r4, r5, r6, r7, r8, r9, r10⟩, hbel⟩ := HF.out
  exact bodyPost_ret (v := .agg #[.int .i64 xs, .int .i64 xi, .int .i64 xg, .int .i64 Xm, .int .i64 xx, .int .i64 xy, .int .i64 xvx, .int .i64 xvy, .int .i64 xh, .int .i64 xp, .int .i64 xl]) (by simp [results, Try.results41, go_sem, r0, r1, r2, r3, r4, r5, r6, r7, r8, r9, r10]) rfl ⟨rfl, hbel⟩
end Go.Proofs.Ytfmbldjaknjgbaa
