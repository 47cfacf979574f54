/- The code's With. Written by wip/tools/genpc5.py. The code's Without. Written by wip/tools/genpc8.py. The code's Obey. Written by wip/tools/gensy.py. The code's Hurt, Age. Written by wip/tools/gensy.py. -/
import Derived.Test.YtljaahemlcaffaaGreatK06
import Derived.Test.YtljaahemlcaffaaGreatK03
import Derived.Deep.DeepCutAuto
import Derived.Test.YtljaahemlcaffaaGreatK07
import Derived.Test.YtljaahemlcaffaaGreatK04
import Derived.Test.YtljaahemlcaffaaGreatK02
namespace Go.Proofs.YtljaahemlcaffaaGreat
open Go.RowKit Pz
set_option linter.unusedVariables false

set_option maxHeartbeats 16000000 in
set_option maxRecDepth 100000 in
/-- components put over others -/
theorem cwith_any (b c : Bn) (w : World) : Calls Tryz.prog 95 #[b.val, c.val] w fun e w' => e = .returned (withB b c).val ∧ Below w.heap.size w w' := by
  have B0 : Hid (∀ W, Calls Tryz.prog 68 #[c.val, .int .i64 1] W fun e w' => e = .returned (.bool (bitB c.m 0)) ∧ Below W.heap.size W w') := Lib.hid fun W => has_one c (j := 0) (by decide) W
  have B1 : Hid (∀ W, Calls Tryz.prog 68 #[c.val, .int .i64 2] W fun e w' => e = .returned (.bool (bitB c.m 1)) ∧ Below W.heap.size W w') := Lib.hid fun W => has_one c (j := 1) (by decide) W
  have B2 : Hid (∀ W, Calls Tryz.prog 68 #[c.val, .int .i64 4] W fun e w' => e = .returned (.bool (bitB c.m 2)) ∧ Below W.heap.size W w') := Lib.hid fun W => has_one c (j := 2) (by decide) W
  have B3 : Hid (∀ W, Calls Tryz.prog 68 #[c.val, .int .i64 8] W fun e w' => e = .returned (.bool (bitB c.m 3)) ∧ Below W.heap.size W w') := Lib.hid fun W => has_one c (j := 3) (by decide) W
  have B4 : Hid (∀ W, Calls Tryz.prog 68 #[c.val, .int .i64 16] W fun e w' => e = .returned (.bool (bitB c.m 4)) ∧ Below W.heap.size W w') := Lib.hid fun W => has_one c (j := 4) (by decide) W
  obtain ⟨bbs, bbi, bbg, bbm, bbx, bby, bbvx, bbvy, bbh, bbp, bbl⟩ := b
  obtain ⟨ccs, cci, ccg, ccm, ccx, ccy, ccvx, ccvy, cch, ccp, ccl⟩ := c
  unfold withB
  simp only [Bn.val] at *
  generalize ht0 : bitB ccm 0 = t0 at *
  generalize ht1 : bitB ccm 1 = t1 at *
  generalize ht2 : bitB ccm 2 = t2 at *
  generalize ht3 : bitB ccm 3 = t3 at *
  generalize ht4 : bitB ccm 4 = t4 at *
  obtain ⟨Xx, Hx⟩ : ∃ X, (if t0 = true then ccx else bbx) = X := ⟨_, rfl⟩
  obtain ⟨Xy, Hy⟩ : ∃ X, (if t0 = true then ccy else bby) = X := ⟨_, rfl⟩
  obtain ⟨Xvx, Hvx⟩ : ∃ X, (if t1 = true then ccvx else bbvx) = X := ⟨_, rfl⟩
  obtain ⟨Xvy, Hvy⟩ : ∃ X, (if t1 = true then ccvy else bbvy) = X := ⟨_, rfl⟩
  obtain ⟨Xh, Hh⟩ : ∃ X, (if t2 = true then cch else bbh) = X := ⟨_, rfl⟩
  obtain ⟨Xp, Hp⟩ : ∃ X, (if t3 = true then ccp else bbp) = X := ⟨_, rfl⟩
  obtain ⟨Xl, Hl⟩ : ∃ X, (if t4 = true then ccl else bbl) = X := ⟨_, rfl⟩
  rw [Hx, Hy, Hvx, Hvy, Hh, Hp, Hl]
  replace Hx := Lib.hid Hx
  replace Hy := Lib.hid Hy
  replace Hvx := Lib.hid Hvx
  replace Hvy := Lib.hid Hvy
  replace Hh := Lib.hid Hh
  replace Hp := Lib.hid Hp
  replace Hl := Lib.hid Hl
  obtain ⟨Xm, hXm⟩ : ∃ X, bits .or .i64 bbm ccm = X := ⟨_, rfl⟩
  rw [hXm]
  have HB : Hid (W2 w (w.heap.size + 2) ⟨bbs, bbi, bbg, bbm, bbx, bby, bbvx, bbvy, bbh, bbp, bbl⟩ ⟨ccs, cci, ccg, ccm, ccx, ccy, ccvx, ccvy, cch, ccp, ccl⟩ (((w.alloc (.cells #[.int .i64 bbs, .int .i64 bbi, .int .i64 bbg, .int .i64 bbm, .int .i64 bbx, .int .i64 bby, .int .i64 bbvx, .int .i64 bbvy, .int .i64 bbh, .int .i64 bbp, .int .i64 bbl] 42)).alloc (.cells #[.int .i64 ccs, .int .i64 cci, .int .i64 ccg, .int .i64 ccm, .int .i64 ccx, .int .i64 ccy, .int .i64 ccvx, .int .i64 ccvy, .int .i64 cch, .int .i64 ccp, .int .i64 ccl] 42)).alloc (.cells #[.int .i64 0, .int .i64 0, .int .i64 0, .int .i64 0, .int .i64 0, .int .i64 0, .int .i64 0, .int .i64 0, .int .i64 0, .int .i64 0, .int .i64 0] 42))) := Lib.hid ⟨bel3 w _ _ _, at3a w _ _ _, at3b w _ _ _, at3c w _ _ _, by omega⟩
  go_enter Tryz.func95, Tryz.ntmps95
  go_upto_region 1 with fail
  generalize ((w.alloc (.cells #[.int .i64 bbs, .int .i64 bbi, .int .i64 bbg, .int .i64 bbm, .int .i64 bbx, .int .i64 bby, .int .i64 bbvx, .int .i64 bbvy, .int .i64 bbh, .int .i64 bbp, .int .i64 bbl] 42)).alloc (.cells #[.int .i64 ccs, .int .i64 cci, .int .i64 ccg, .int .i64 ccm, .int .i64 ccx, .int .i64 ccy, .int .i64 ccvx, .int .i64 ccvy, .int .i64 cch, .int .i64 ccp, .int .i64 ccl] 42)).alloc (.cells #[.int .i64 0, .int .i64 0, .int .i64 0, .int .i64 0, .int .i64 0, .int .i64 0, .int .i64 0, .int .i64 0, .int .i64 0, .int .i64 0, .int .i64 0] 42) = V0 at *
  obtain ⟨⟨k0, k1, k2, k3, k4, k5, k6, k7, k8, k9, k10⟩, ⟨f0, f1, f2, f3, f4, f5, f6, f7, f8, f9, f10⟩⟩ := Bx.b11 HB.out.own
  obtain ⟨⟨m0, m1, m2, m3, m4, m5, m6, m7, m8, m9, m10⟩, ⟨g0, g1, g2, g3, g4, g5, g6, g7, g8, g9, g10⟩⟩ := Bx.b11 HB.out.oth
  go_upto_if 6 with (go_at_call 68; with_reducible refine (B0.out _).mono ?_; rintro e w2 ⟨rfl, hb2⟩; clear k0 k1 k2 k3 k4 k5 k6 k7 k8 k9 k10 f0 f1 f2 f3 f4 f5 f6 f7 f8 f9 f10 m0 m1 m2 m3 m4 m5 m6 m7 m8 m9 m10 g0 g1 g2 g3 g4 g5 g6 g7 g8 g9 g10; replace HB := Lib.hid (HB.out.step hb2); clear hb2; obtain ⟨⟨k0, k1, k2, k3, k4, k5, k6, k7, k8, k9, k10⟩, ⟨f0, f1, f2, f3, f4, f5, f6, f7, f8, f9, f10⟩⟩ := Bx.b11 HB.out.own; obtain ⟨⟨m0, m1, m2, m3, m4, m5, m6, m7, m8, m9, m10⟩, ⟨g0, g1, g2, g3, g4, g5, g6, g7, g8, g9, g10⟩⟩ := Bx.b11 HB.out.oth)
  go_cut [] (fun wx => W2 w (w.heap.size + 2) ⟨bbs, bbi, bbg, bbm, Xx, Xy, bbvx, bbvy, bbh, bbp, bbl⟩ ⟨ccs, cci, ccg, ccm, ccx, ccy, ccvx, ccvy, cch, ccp, ccl⟩ wx)
  case first =>
    cases t0 with
    | false =>
      go_wp2
      go_meet
      rw [← show bbx = Xx from Hx.out]
      rw [← show bby = Xy from Hy.out]
      exact HB.out
    | true =>
      go_wp2
      go_region
      all_goals go_wp2
      all_goals go_meet
      all_goals rw [← show ccx = Xx from Hx.out, ← show ccy = Xy from Hy.out]
      all_goals first | exact ((HB.out.set_x ccx).set_y ccy).step (Below.d' (Below.refl _ _)) | exact ((HB.out.set_y ccy).set_x ccx).step (Below.d' (Below.refl _ _))
  clear k0 k1 k2 k3 k4 k5 k6 k7 k8 k9 k10 f0 f1 f2 f3 f4 f5 f6 f7 f8 f9 f10 m0 m1 m2 m3 m4 m5 m6 m7 m8 m9 m10 g0 g1 g2 g3 g4 g5 g6 g7 g8 g9 g10 HB
  generalize wc = V1 at *
  have HB := Lib.hid hcut
  clear hcut
  obtain ⟨⟨k0, k1, k2, k3, k4, k5, k6, k7, k8, k9, k10⟩, ⟨f0, f1, f2, f3, f4, f5, f6, f7, f8, f9, f10⟩⟩ := Bx.b11 HB.out.own
  obtain ⟨⟨m0, m1, m2, m3, m4, m5, m6, m7, m8, m9, m10⟩, ⟨g0, g1, g2, g3, g4, g5, g6, g7, g8, g9, g10⟩⟩ := Bx.b11 HB.out.oth
  go_upto_if 14 with (go_at_call 68; with_reducible refine (B1.out _).mono ?_; rintro e w2 ⟨rfl, hb2⟩; clear k0 k1 k2 k3 k4 k5 k6 k7 k8 k9 k10 f0 f1 f2 f3 f4 f5 f6 f7 f8 f9 f10 m0 m1 m2 m3 m4 m5 m6 m7 m8 m9 m10 g0 g1 g2 g3 g4 g5 g6 g7 g8 g9 g10; replace HB := Lib.hid (HB.out.step hb2); clear hb2; obtain ⟨⟨k0, k1, k2, k3, k4, k5, k6, k7, k8, k9, k10⟩, ⟨f0, f1, f2, f3, f4, f5, f6, f7, f8, f9, f10⟩⟩ := Bx.b11 HB.out.own; obtain ⟨⟨m0, m1, m2, m3, m4, m5, m6, m7, m8, m9, m10⟩, ⟨g0, g1, g2, g3, g4, g5, g6, g7, g8, g9, g10⟩⟩ := Bx.b11 HB.out.oth)
  go_cut [] (fun wx => W2 w (w.heap.size + 2) ⟨bbs, bbi, bbg, bbm, Xx, Xy, Xvx, Xvy, bbh, bbp, bbl⟩ ⟨ccs, cci, ccg, ccm, ccx, ccy, ccvx, ccvy, cch, ccp, ccl⟩ wx)
  case first =>
    cases t1 with
    | false =>
      go_wp2
      go_meet
      rw [← show bbvx = Xvx from Hvx.out]
      rw [← show bbvy = Xvy from Hvy.out]
      exact HB.out
    | true =>
      go_wp2
      go_region
      all_goals go_wp2
      all_goals go_meet
      all_goals rw [← show ccvx = Xvx from Hvx.out, ← show ccvy = Xvy from Hvy.out]
      all_goals first | exact ((HB.out.set_vx ccvx).set_vy ccvy).step (Below.d' (Below.refl _ _)) | exact ((HB.out.set_vy ccvy).set_vx ccvx).step (Below.d' (Below.refl _ _))
  clear k0 k1 k2 k3 k4 k5 k6 k7 k8 k9 k10 f0 f1 f2 f3 f4 f5 f6 f7 f8 f9 f10 m0 m1 m2 m3 m4 m5 m6 m7 m8 m9 m10 g0 g1 g2 g3 g4 g5 g6 g7 g8 g9 g10 HB
  generalize wc = V2 at *
  have HB := Lib.hid hcut
  clear hcut
  obtain ⟨⟨k0, k1, k2, k3, k4, k5, k6, k7, k8, k9, k10⟩, ⟨f0, f1, f2, f3, f4, f5, f6, f7, f8, f9, f10⟩⟩ := Bx.b11 HB.out.own
  obtain ⟨⟨m0, m1, m2, m3, m4, m5, m6, m7, m8, m9, m10⟩, ⟨g0, g1, g2, g3, g4, g5, g6, g7, g8, g9, g10⟩⟩ := Bx.b11 HB.out.oth
  go_upto_if 22 with (go_at_call 68; with_reducible refine (B2.out _).mono ?_; rintro e w2 ⟨rfl, hb2⟩; clear k0 k1 k2 k3 k4 k5 k6 k7 k8 k9 k10 f0 f1 f2 f3 f4 f5 f6 f7 f8 f9 f10 m0 m1 m2 m3 m4 m5 m6 m7 m8 m9 m10 g0 g1 g2 g3 g4 g5 g6 g7 g8 g9 g10; replace HB := Lib.hid (HB.out.step hb2); clear hb2; obtain ⟨⟨k0, k1, k2, k3, k4, k5, k6, k7, k8, k9, k10⟩, ⟨f0, f1, f2, f3, f4, f5, f6, f7, f8, f9, f10⟩⟩ := Bx.b11 HB.out.own; obtain ⟨⟨m0, m1, m2, m3, m4, m5, m6, m7, m8, m9, m10⟩, ⟨g0, g1, g2, g3, g4, g5, g6, g7, g8, g9, g10⟩⟩ := Bx.b11 HB.out.oth)
  go_cut [] (fun wx => W2 w (w.heap.size + 2) ⟨bbs, bbi, bbg, bbm, Xx, Xy, Xvx, Xvy, Xh, bbp, bbl⟩ ⟨ccs, cci, ccg, ccm, ccx, ccy, ccvx, ccvy, cch, ccp, ccl⟩ wx)
  case first =>
    cases t2 with
    | false =>
      go_wp2
      go_meet
      rw [← show bbh = Xh from Hh.out]
      exact HB.out
    | true =>
      go_wp2
      go_meet
      rw [← show cch = Xh from Hh.out]
      exact HB.out.set_h cch
  clear k0 k1 k2 k3 k4 k5 k6 k7 k8 k9 k10 f0 f1 f2 f3 f4 f5 f6 f7 f8 f9 f10 m0 m1 m2 m3 m4 m5 m6 m7 m8 m9 m10 g0 g1 g2 g3 g4 g5 g6 g7 g8 g9 g10 HB
  generalize wc = V3 at *
  have HB := Lib.hid hcut
  clear hcut
  obtain ⟨⟨k0, k1, k2, k3, k4, k5, k6, k7, k8, k9, k10⟩, ⟨f0, f1, f2, f3, f4, f5, f6, f7, f8, f9, f10⟩⟩ := Bx.b11 HB.out.own
  obtain ⟨⟨m0, m1, m2, m3, m4, m5, m6, m7, m8, m9, m10⟩, ⟨g0, g1, g2, g3, g4, g5, g6, g7, g8, g9, g10⟩⟩ := Bx.b11 HB.out.oth
  go_upto_if 27 with (go_at_call 68; with_reducible refine (B3.out _).mono ?_; rintro e w2 ⟨rfl, hb2⟩; clear k0 k1 k2 k3 k4 k5 k6 k7 k8 k9 k10 f0 f1 f2 f3 f4 f5 f6 f7 f8 f9 f10 m0 m1 m2 m3 m4 m5 m6 m7 m8 m9 m10 g0 g1 g2 g3 g4 g5 g6 g7 g8 g9 g10; replace HB := Lib.hid (HB.out.step hb2); clear hb2; obtain ⟨⟨k0, k1, k2, k3, k4, k5, k6, k7, k8, k9, k10⟩, ⟨f0, f1, f2, f3, f4, f5, f6, f7, f8, f9, f10⟩⟩ := Bx.b11 HB.out.own; obtain ⟨⟨m0, m1, m2, m3, m4, m5, m6, m7, m8, m9, m10⟩, ⟨g0, g1, g2, g3, g4, g5, g6, g7, g8, g9, g10⟩⟩ := Bx.b11 HB.out.oth)
  go_cut [] (fun wx => W2 w (w.heap.size + 2) ⟨bbs, bbi, bbg, bbm, Xx, Xy, Xvx, Xvy, Xh, Xp, bbl⟩ ⟨ccs, cci, ccg, ccm, ccx, ccy, ccvx, ccvy, cch, ccp, ccl⟩ wx)
  case first =>
    cases t3 with
    | false =>
      go_wp2
      go_meet
      rw [← show bbp = Xp from Hp.out]
      exact HB.out
    | true =>
      go_wp2
      go_meet
      rw [← show ccp = Xp from Hp.out]
      exact HB.out.set_p ccp
  clear k0 k1 k2 k3 k4 k5 k6 k7 k8 k9 k10 f0 f1 f2 f3 f4 f5 f6 f7 f8 f9 f10 m0 m1 m2 m3 m4 m5 m6 m7 m8 m9 m10 g0 g1 g2 g3 g4 g5 g6 g7 g8 g9 g10 HB
  generalize wc = V4 at *
  have HB := Lib.hid hcut
  clear hcut
  obtain ⟨⟨k0, k1, k2, k3, k4, k5, k6, k7, k8, k9, k10⟩, ⟨f0, f1, f2, f3, f4, f5, f6, f7, f8, f9, f10⟩⟩ := Bx.b11 HB.out.own
  obtain ⟨⟨m0, m1, m2, m3, m4, m5, m6, m7, m8, m9, m10⟩, ⟨g0, g1, g2, g3, g4, g5, g6, g7, g8, g9, g10⟩⟩ := Bx.b11 HB.out.oth
  go_upto_if 32 with (go_at_call 68; with_reducible refine (B4.out _).mono ?_; rintro e w2 ⟨rfl, hb2⟩; clear k0 k1 k2 k3 k4 k5 k6 k7 k8 k9 k10 f0 f1 f2 f3 f4 f5 f6 f7 f8 f9 f10 m0 m1 m2 m3 m4 m5 m6 m7 m8 m9 m10 g0 g1 g2 g3 g4 g5 g6 g7 g8 g9 g10; replace HB := Lib.hid (HB.out.step hb2); clear hb2; obtain ⟨⟨k0, k1, k2, k3, k4, k5, k6, k7, k8, k9, k10⟩, ⟨f0, f1, f2, f3, f4, f5, f6, f7, f8, f9, f10⟩⟩ := Bx.b11 HB.out.own; obtain ⟨⟨m0, m1, m2, m3, m4, m5, m6, m7, m8, m9, m10⟩, ⟨g0, g1, g2, g3, g4, g5, g6, g7, g8, g9, g10⟩⟩ := Bx.b11 HB.out.oth)
  go_cut [] (fun wx => W2 w (w.heap.size + 2) ⟨bbs, bbi, bbg, bbm, Xx, Xy, Xvx, Xvy, Xh, Xp, Xl⟩ ⟨ccs, cci, ccg, ccm, ccx, ccy, ccvx, ccvy, cch, ccp, ccl⟩ wx)
  case first =>
    cases t4 with
    | false =>
      go_wp2
      go_meet
      rw [← show bbl = Xl from Hl.out]
      exact HB.out
    | true =>
      go_wp2
      go_meet
      rw [← show ccl = Xl from Hl.out]
      exact HB.out.set_l ccl
  clear k0 k1 k2 k3 k4 k5 k6 k7 k8 k9 k10 f0 f1 f2 f3 f4 f5 f6 f7 f8 f9 f10 m0 m1 m2 m3 m4 m5 m6 m7 m8 m9 m10 g0 g1 g2 g3 g4 g5 g6 g7 g8 g9 g10 HB
  generalize wc = V5 at *
  have HB := Lib.hid hcut
  clear hcut
  obtain ⟨⟨k0, k1, k2, k3, k4, k5, k6, k7, k8, k9, k10⟩, ⟨f0, f1, f2, f3, f4, f5, f6, f7, f8, f9, f10⟩⟩ := Bx.b11 HB.out.own
  obtain ⟨⟨m0, m1, m2, m3, m4, m5, m6, m7, m8, m9, m10⟩, ⟨g0, g1, g2, g3, g4, g5, g6, g7, g8, g9, g10⟩⟩ := Bx.b11 HB.out.oth
  have HB6 := Lib.hid (HB.out.set_m (Xm))
  go_upto_region 12 with fail
  clear k0 k1 k2 k3 k4 k5 k6 k7 k8 k9 k10 f0 f1 f2 f3 f4 f5 f6 f7 f8 f9 f10 m0 m1 m2 m3 m4 m5 m6 m7 m8 m9 m10 g0 g1 g2 g3 g4 g5 g6 g7 g8 g9 g10 HB
  generalize V5.setCell ⟨w.heap.size, 3, none⟩ (.int .i64 (Xm)) = V6 at *
  obtain ⟨⟨k0, k1, k2, k3, k4, k5, k6, k7, k8, k9, k10⟩, _⟩ := Bx.b11 HB6.out.own
  obtain ⟨⟨n0, n1, n2, n3, n4, n5, n6, n7, n8, n9, n10⟩, ⟨p0, p1, p2, p3, p4, p5, p6, p7, p8, p9, p10⟩, HF⟩ := HB6.out.fin
  clear HB6
  go_wp2
  obtain ⟨⟨r0, r1, r2, r3, r4, r5, r6, r7, r8, r9, r10⟩, hbel⟩ := HF.out
  exact bodyPost_ret (v := .agg #[.int .i64 bbs, .int .i64 bbi, .int .i64 bbg, .int .i64 Xm, .int .i64 Xx, .int .i64 Xy, .int .i64 Xvx, .int .i64 Xvy, .int .i64 Xh, .int .i64 Xp, .int .i64 Xl]) (by simp [results, Tryz.results95, go_sem, r0, r1, r2, r3, r4, r5, r6, r7, r8, r9, r10]) rfl ⟨rfl, hbel⟩
end Go.Proofs.YtljaahemlcaffaaGreat
namespace Go.Proofs.YtljaahemlcaffaaGreat
open Go.RowKit Pz
set_option linter.unusedVariables false

theorem W2.put {w W : World} {rb : Nat} {a c : Bn} (h : W2 w rb a c W) (x : Bn) : W2 w rb x c (((((((((((W.setCell ⟨w.heap.size, 0, none⟩ (.int .i64 x.s)).setCell ⟨w.heap.size, 1, none⟩ (.int .i64 x.i)).setCell ⟨w.heap.size, 2, none⟩ (.int .i64 x.g)).setCell ⟨w.heap.size, 3, none⟩ (.int .i64 x.m)).setCell ⟨w.heap.size, 4, none⟩ (.int .i64 x.x)).setCell ⟨w.heap.size, 5, none⟩ (.int .i64 x.y)).setCell ⟨w.heap.size, 6, none⟩ (.int .i64 x.vx)).setCell ⟨w.heap.size, 7, none⟩ (.int .i64 x.vy)).setCell ⟨w.heap.size, 8, none⟩ (.int .i64 x.h)).setCell ⟨w.heap.size, 9, none⟩ (.int .i64 x.p)).setCell ⟨w.heap.size, 10, none⟩ (.int .i64 x.l)) := by
  have h1 := h.rb
  refine ⟨Bx.put11 h.bel (Nat.le_refl _) (.int .i64 x.s) (.int .i64 x.i) (.int .i64 x.g) (.int .i64 x.m) (.int .i64 x.x) (.int .i64 x.y) (.int .i64 x.vx) (.int .i64 x.vy) (.int .i64 x.h) (.int .i64 x.p) (.int .i64 x.l), Bx.set11 h.own (.int .i64 x.s) (.int .i64 x.i) (.int .i64 x.g) (.int .i64 x.m) (.int .i64 x.x) (.int .i64 x.y) (.int .i64 x.vx) (.int .i64 x.vy) (.int .i64 x.h) (.int .i64 x.p) (.int .i64 x.l), ?_, ?_, h.rb⟩
  · simp only [Bx.ne (W := _) (show w.heap.size + 1 ≠ w.heap.size by omega)]
    exact h.oth
  · simp only [Bx.ne (W := _) (show rb ≠ w.heap.size by omega)]
    exact h.res
set_option maxHeartbeats 16000000 in
set_option maxRecDepth 100000 in
/-- components taken away -/
theorem cwithout_any (b : Bn) (n : Int) (w : World) : Calls Tryz.prog 96 #[b.val, .int .i64 n] w fun e w' => e = .returned (withoutB b n).val ∧ Below w.heap.size w w' := by
  have C1 : Hid (∀ W, Calls Tryz.prog 95 #[b.val, Bn.val ⟨0, 0, 0, n, 0, 0, 0, 0, 0, 0, 0⟩] W fun e w' => e = .returned (withB b ⟨0, 0, 0, n, 0, 0, 0, 0, 0, 0, 0⟩).val ∧ Below W.heap.size W w') := Lib.hid fun W => cwith_any b ⟨0, 0, 0, n, 0, 0, 0, 0, 0, 0, 0⟩ W
  have EV : withoutB b n = { withB b ⟨0, 0, 0, n, 0, 0, 0, 0, 0, 0, 0⟩ with m := bits .andNot .i64 (bits .or .i64 b.m n) n } := by
    unfold withoutB withB
    simp only
    rw [andNot_or]
  rw [EV]
  clear EV
  have EM : (withB b ⟨0, 0, 0, n, 0, 0, 0, 0, 0, 0, 0⟩).m = bits .or .i64 b.m n := rfl
  rw [← EM]
  clear EM
  generalize withB b ⟨0, 0, 0, n, 0, 0, 0, 0, 0, 0, 0⟩ = x at *
  obtain ⟨us, ui, ug, um, ux, uy, uvx, uvy, uh, up, ul⟩ := b
  obtain ⟨xs, xi, xg, xm, xx, xy, xvx, xvy, xh, xp, xl⟩ := x
  simp only [Bn.val] at *
  obtain ⟨Xm, hXm⟩ : ∃ X, bits .andNot .i64 xm n = X := ⟨_, rfl⟩
  rw [hXm]
  have HB : Hid (W2 w (w.heap.size + 1) ⟨us, ui, ug, um, ux, uy, uvx, uvy, uh, up, ul⟩ Bn.zero ((w.alloc (.cells #[.int .i64 us, .int .i64 ui, .int .i64 ug, .int .i64 um, .int .i64 ux, .int .i64 uy, .int .i64 uvx, .int .i64 uvy, .int .i64 uh, .int .i64 up, .int .i64 ul] 42)).alloc (.cells #[.int .i64 0, .int .i64 0, .int .i64 0, .int .i64 0, .int .i64 0, .int .i64 0, .int .i64 0, .int .i64 0, .int .i64 0, .int .i64 0, .int .i64 0] 42))) := Lib.hid ⟨bel2 w _ _, at2a w _ _, at2b w _ _, at2b w _ _, by omega⟩
  go_enter Tryz.func96, Tryz.ntmps96
  go_upto_region 1 with fail
  generalize (w.alloc (.cells #[.int .i64 us, .int .i64 ui, .int .i64 ug, .int .i64 um, .int .i64 ux, .int .i64 uy, .int .i64 uvx, .int .i64 uvy, .int .i64 uh, .int .i64 up, .int .i64 ul] 42)).alloc (.cells #[.int .i64 0, .int .i64 0, .int .i64 0, .int .i64 0, .int .i64 0, .int .i64 0, .int .i64 0, .int .i64 0, .int .i64 0, .int .i64 0, .int .i64 0] 42) = V0 at *
  obtain ⟨⟨k0, k1, k2, k3, k4, k5, k6, k7, k8, k9, k10⟩, ⟨f0, f1, f2, f3, f4, f5, f6, f7, f8, f9, f10⟩⟩ := Bx.b11 HB.out.own
  go_upto_region 2 with (go_at_call 95; with_reducible refine (C1.out _).mono ?_; rintro e w2 ⟨rfl, hb2⟩; clear k0 k1 k2 k3 k4 k5 k6 k7 k8 k9 k10 f0 f1 f2 f3 f4 f5 f6 f7 f8 f9 f10; replace HB := Lib.hid (HB.out.step hb2); clear hb2; obtain ⟨⟨k0, k1, k2, k3, k4, k5, k6, k7, k8, k9, k10⟩, ⟨f0, f1, f2, f3, f4, f5, f6, f7, f8, f9, f10⟩⟩ := Bx.b11 HB.out.own)
  replace HB := Lib.hid (HB.out.put ⟨xs, xi, xg, xm, xx, xy, xvx, xvy, xh, xp, xl⟩)
  simp only at HB
  clear k0 k1 k2 k3 k4 k5 k6 k7 k8 k9 k10 f0 f1 f2 f3 f4 f5 f6 f7 f8 f9 f10
  generalize (((((((((((w2.setCell ⟨w.heap.size, 0, none⟩ (.int .i64 xs)).setCell ⟨w.heap.size, 1, none⟩ (.int .i64 xi)).setCell ⟨w.heap.size, 2, none⟩ (.int .i64 xg)).setCell ⟨w.heap.size, 3, none⟩ (.int .i64 xm)).setCell ⟨w.heap.size, 4, none⟩ (.int .i64 xx)).setCell ⟨w.heap.size, 5, none⟩ (.int .i64 xy)).setCell ⟨w.heap.size, 6, none⟩ (.int .i64 xvx)).setCell ⟨w.heap.size, 7, none⟩ (.int .i64 xvy)).setCell ⟨w.heap.size, 8, none⟩ (.int .i64 xh)).setCell ⟨w.heap.size, 9, none⟩ (.int .i64 xp)).setCell ⟨w.heap.size, 10, none⟩ (.int .i64 xl)) = V2 at *
  obtain ⟨⟨k0, k1, k2, k3, k4, k5, k6, k7, k8, k9, k10⟩, ⟨f0, f1, f2, f3, f4, f5, f6, f7, f8, f9, f10⟩⟩ := Bx.b11 HB.out.own
  have HB6 := Lib.hid (HB.out.set_m Xm)
  clear HB
  go_upto_region 3 with fail
  clear k0 k1 k2 k3 k4 k5 k6 k7 k8 k9 k10 f0 f1 f2 f3 f4 f5 f6 f7 f8 f9 f10
  generalize V2.setCell ⟨w.heap.size, 3, none⟩ (.int .i64 Xm) = V6 at *
  obtain ⟨⟨k0, k1, k2, k3, k4, k5, k6, k7, k8, k9, k10⟩, _⟩ := Bx.b11 HB6.out.own
  obtain ⟨⟨n0, n1, n2, n3, n4, n5, n6, n7, n8, n9, n10⟩, ⟨p0, p1, p2, p3, p4, p5, p6, p7, p8, p9, p10⟩, HF⟩ := HB6.out.fin
  clear HB6
  go_wp2
  obtain ⟨⟨r0, r1, r2, r3, r4, r5, r6, r7, r8, r9, r10⟩, hbel⟩ := HF.out
  exact bodyPost_ret (v := .agg #[.int .i64 xs, .int .i64 xi, .int .i64 xg, .int .i64 Xm, .int .i64 xx, .int .i64 xy, .int .i64 xvx, .int .i64 xvy, .int .i64 xh, .int .i64 xp, .int .i64 xl]) (by simp [results, Tryz.results96, go_sem, r0, r1, r2, r3, r4, r5, r6, r7, r8, r9, r10]) rfl ⟨rfl, hbel⟩
end Go.Proofs.YtljaahemlcaffaaGreat
namespace Go.Proofs.YtljaahemlcaffaaGreat
open Go.RowKit Pz Sp
set_option linter.unusedVariables false
set_option linter.unusedSimpArgs false

set_option maxHeartbeats 4000000 in
set_option maxRecDepth 100000 in
theorem cobey_any (qs qi qg qm qx qy qvx qvy qh qp ql ck cs_ ci_ cg_ cs ci cg cm cx cy cvx cvy ch cp cl cm_ : Int) (w : World) : Calls Tryz.prog 72 #[.agg #[.int .i64 qs, .int .i64 qi, .int .i64 qg, .int .i64 qm, .int .i64 qx, .int .i64 qy, .int .i64 qvx, .int .i64 qvy, .int .i64 qh, .int .i64 qp, .int .i64 ql], .agg #[.int .i64 ck, .int .i64 cs_, .int .i64 ci_, .int .i64 cg_, .int .i64 cs, .int .i64 ci, .int .i64 cg, .int .i64 cm, .int .i64 cx, .int .i64 cy, .int .i64 cvx, .int .i64 cvy, .int .i64 ch, .int .i64 cp, .int .i64 cl, .int .i64 cm_]] w fun e w' => e = .returned (.tuple #[(Sy.obey ⟨qs, qi, qg, qm, qx, qy, qvx, qvy, qh, qp, ql⟩ ck (cs_, ci_, cg_) ⟨cs, ci, cg, cm, cx, cy, cvx, cvy, ch, cp, cl⟩ cm_).1.val, .bool (Sy.obey ⟨qs, qi, qg, qm, qx, qy, qvx, qvy, qh, qp, ql⟩ ck (cs_, ci_, cg_) ⟨cs, ci, cg, cm, cx, cy, cvx, cvy, ch, cp, cl⟩ cm_).2]) ∧ Below w.heap.size w w' := by
  have WX : Hid (∀ V, Calls Tryz.prog 95 #[.agg #[.int .i64 qs, .int .i64 qi, .int .i64 qg, .int .i64 qm, .int .i64 qx, .int .i64 qy, .int .i64 qvx, .int .i64 qvy, .int .i64 qh, .int .i64 qp, .int .i64 ql], .agg #[.int .i64 cs, .int .i64 ci, .int .i64 cg, .int .i64 cm, .int .i64 cx, .int .i64 cy, .int .i64 cvx, .int .i64 cvy, .int .i64 ch, .int .i64 cp, .int .i64 cl]] V fun e w' => e = .returned (withB ⟨qs, qi, qg, qm, qx, qy, qvx, qvy, qh, qp, ql⟩ ⟨cs, ci, cg, cm, cx, cy, cvx, cvy, ch, cp, cl⟩).val ∧ Below V.heap.size V w') := Lib.hid fun V => cwith_any ⟨qs, qi, qg, qm, qx, qy, qvx, qvy, qh, qp, ql⟩ ⟨cs, ci, cg, cm, cx, cy, cvx, cvy, ch, cp, cl⟩ V
  have OX : Hid (∀ V, Calls Tryz.prog 96 #[.agg #[.int .i64 qs, .int .i64 qi, .int .i64 qg, .int .i64 qm, .int .i64 qx, .int .i64 qy, .int .i64 qvx, .int .i64 qvy, .int .i64 qh, .int .i64 qp, .int .i64 ql], .int .i64 cm_] V fun e w' => e = .returned (withoutB ⟨qs, qi, qg, qm, qx, qy, qvx, qvy, qh, qp, ql⟩ cm_).val ∧ Below V.heap.size V w') := Lib.hid fun V => cwithout_any ⟨qs, qi, qg, qm, qx, qy, qvx, qvy, qh, qp, ql⟩ cm_ V
  have H0 : Hid (Sep w [box (w.heap.size + 2) (.cells #[.int .i64 0, .int .i64 0, .int .i64 0, .int .i64 0, .int .i64 0, .int .i64 0, .int .i64 0, .int .i64 0, .int .i64 0, .int .i64 0, .int .i64 0] 42), box (w.heap.size + 1) (.cells #[.int .i64 ck, .int .i64 cs_, .int .i64 ci_, .int .i64 cg_, .int .i64 cs, .int .i64 ci, .int .i64 cg, .int .i64 cm, .int .i64 cx, .int .i64 cy, .int .i64 cvx, .int .i64 cvy, .int .i64 ch, .int .i64 cp, .int .i64 cl, .int .i64 cm_] 55), box w.heap.size (.cells #[.int .i64 qs, .int .i64 qi, .int .i64 qg, .int .i64 qm, .int .i64 qx, .int .i64 qy, .int .i64 qvx, .int .i64 qvy, .int .i64 qh, .int .i64 qp, .int .i64 ql] 42)] (((w.alloc (.cells #[.int .i64 qs, .int .i64 qi, .int .i64 qg, .int .i64 qm, .int .i64 qx, .int .i64 qy, .int .i64 qvx, .int .i64 qvy, .int .i64 qh, .int .i64 qp, .int .i64 ql] 42)).alloc (.cells #[.int .i64 ck, .int .i64 cs_, .int .i64 ci_, .int .i64 cg_, .int .i64 cs, .int .i64 ci, .int .i64 cg, .int .i64 cm, .int .i64 cx, .int .i64 cy, .int .i64 cvx, .int .i64 cvy, .int .i64 ch, .int .i64 cp, .int .i64 cl, .int .i64 cm_] 55)).alloc (.cells #[.int .i64 0, .int .i64 0, .int .i64 0, .int .i64 0, .int .i64 0, .int .i64 0, .int .i64 0, .int .i64 0, .int .i64 0, .int .i64 0, .int .i64 0] 42))) := Lib.hid (by
    have := sep_box (sep_box (sep_box (sep_new w) (.cells #[.int .i64 qs, .int .i64 qi, .int .i64 qg, .int .i64 qm, .int .i64 qx, .int .i64 qy, .int .i64 qvx, .int .i64 qvy, .int .i64 qh, .int .i64 qp, .int .i64 ql] 42)) (.cells #[.int .i64 ck, .int .i64 cs_, .int .i64 ci_, .int .i64 cg_, .int .i64 cs, .int .i64 ci, .int .i64 cg, .int .i64 cm, .int .i64 cx, .int .i64 cy, .int .i64 cvx, .int .i64 cvy, .int .i64 ch, .int .i64 cp, .int .i64 cl, .int .i64 cm_] 55)) (.cells #[.int .i64 0, .int .i64 0, .int .i64 0, .int .i64 0, .int .i64 0, .int .i64 0, .int .i64 0, .int .i64 0, .int .i64 0, .int .i64 0, .int .i64 0] 42)
    rw [size2, size1] at this
    exact this)
  have EQ := fun V => eq_id 9998 cs_ ci_ cg_ qs qi qg V
  have hid : (((cs_, ci_, cg_) : Int × Int × Int) = Bn.id ⟨qs, qi, qg, qm, qx, qy, qvx, qvy, qh, qp, ql⟩) ↔ ((cs_ == qs) && ((ci_ == qi) && (cg_ == qg))) = true := by
    simp only [Bn.id, Prod.mk.injEq]
    simp
  unfold Sy.obey
  by_cases hs : ((cs_ == qs) && ((ci_ == qi) && (cg_ == qg))) = true
  · rw [if_pos (hid.2 hs)]
    rw [hs] at EQ
    clear hid hs
    simp at EQ
    by_cases h2 : ck = 2
    · subst h2
      rw [if_pos rfl]
      clear WX OX
      go_enter Tryz.func72, Tryz.ntmps72
      go_upto_region 1 with fail
      generalize ((w.alloc (.cells #[.int .i64 qs, .int .i64 qi, .int .i64 qg, .int .i64 qm, .int .i64 qx, .int .i64 qy, .int .i64 qvx, .int .i64 qvy, .int .i64 qh, .int .i64 qp, .int .i64 ql] 42)).alloc (.cells #[.int .i64 2, .int .i64 cs_, .int .i64 ci_, .int .i64 cg_, .int .i64 cs, .int .i64 ci, .int .i64 cg, .int .i64 cm, .int .i64 cx, .int .i64 cy, .int .i64 cvx, .int .i64 cvy, .int .i64 ch, .int .i64 cp, .int .i64 cl, .int .i64 cm_] 55)).alloc (.cells #[.int .i64 0, .int .i64 0, .int .i64 0, .int .i64 0, .int .i64 0, .int .i64 0, .int .i64 0, .int .i64 0, .int .i64 0, .int .i64 0, .int .i64 0] 42) = w0 at *
      obtain ⟨⟨k0, k1, k2, k3, k4, k5, k6, k7, k8, k9, k10⟩, _⟩ := Bx.b11 (H0.out.held 2 rfl)
      obtain ⟨⟨e0, e1, e2, e3, e4, e5, e6, e7, e8, e9, e10, e11, e12, e13, e14, e15⟩, _⟩ := Bx.b16 (H0.out.held 1 rfl)
      obtain ⟨_, ⟨z0, z1, z2, z3, z4, z5, z6, z7, z8, z9, z10⟩⟩ := Bx.b11 (H0.out.held 0 rfl)
      have HF : Hid (Sep w [box (w.heap.size + 2) (.cells #[.int .i64 0, .int .i64 0, .int .i64 0, .int .i64 0, .int .i64 0, .int .i64 0, .int .i64 0, .int .i64 0, .int .i64 0, .int .i64 0, .int .i64 0] 42), box (w.heap.size + 1) (.cells #[.int .i64 2, .int .i64 cs_, .int .i64 ci_, .int .i64 cg_, .int .i64 cs, .int .i64 ci, .int .i64 cg, .int .i64 cm, .int .i64 cx, .int .i64 cy, .int .i64 cvx, .int .i64 cvy, .int .i64 ch, .int .i64 cp, .int .i64 cl, .int .i64 cm_] 55), box w.heap.size (.cells #[.int .i64 qs, .int .i64 qi, .int .i64 qg, .int .i64 qm, .int .i64 qx, .int .i64 qy, .int .i64 qvx, .int .i64 qvy, .int .i64 qh, .int .i64 qp, .int .i64 ql] 42)] (((((((((((w0.setCell ⟨w.heap.size + 2, 0, none⟩ (.int .i64 0)).setCell ⟨w.heap.size + 2, 1, none⟩ (.int .i64 0)).setCell ⟨w.heap.size + 2, 2, none⟩ (.int .i64 0)).setCell ⟨w.heap.size + 2, 3, none⟩ (.int .i64 0)).setCell ⟨w.heap.size + 2, 4, none⟩ (.int .i64 0)).setCell ⟨w.heap.size + 2, 5, none⟩ (.int .i64 0)).setCell ⟨w.heap.size + 2, 6, none⟩ (.int .i64 0)).setCell ⟨w.heap.size + 2, 7, none⟩ (.int .i64 0)).setCell ⟨w.heap.size + 2, 8, none⟩ (.int .i64 0)).setCell ⟨w.heap.size + 2, 9, none⟩ (.int .i64 0)).setCell ⟨w.heap.size + 2, 10, none⟩ (.int .i64 0))) := Lib.hid (H0.out.set11 (.int .i64 0) (.int .i64 0) (.int .i64 0) (.int .i64 0) (.int .i64 0) (.int .i64 0) (.int .i64 0) (.int .i64 0) (.int .i64 0) (.int .i64 0) (.int .i64 0))
      go_wp2
      generalize (((((((((((w0.setCell ⟨w.heap.size + 2, 0, none⟩ (.int .i64 0)).setCell ⟨w.heap.size + 2, 1, none⟩ (.int .i64 0)).setCell ⟨w.heap.size + 2, 2, none⟩ (.int .i64 0)).setCell ⟨w.heap.size + 2, 3, none⟩ (.int .i64 0)).setCell ⟨w.heap.size + 2, 4, none⟩ (.int .i64 0)).setCell ⟨w.heap.size + 2, 5, none⟩ (.int .i64 0)).setCell ⟨w.heap.size + 2, 6, none⟩ (.int .i64 0)).setCell ⟨w.heap.size + 2, 7, none⟩ (.int .i64 0)).setCell ⟨w.heap.size + 2, 8, none⟩ (.int .i64 0)).setCell ⟨w.heap.size + 2, 9, none⟩ (.int .i64 0)).setCell ⟨w.heap.size + 2, 10, none⟩ (.int .i64 0)) = V at *
      obtain ⟨r0, r1, r2, r3, r4, r5, r6, r7, r8, r9, r10⟩ := (Bx.b11 (HF.out.held 0 rfl)).1
      exact bodyPost_ret (v := .tuple #[.agg #[.int .i64 0, .int .i64 0, .int .i64 0, .int .i64 0, .int .i64 0, .int .i64 0, .int .i64 0, .int .i64 0, .int .i64 0, .int .i64 0, .int .i64 0], .bool false]) (by simp [results, Tryz.results72, go_sem, r0, r1, r2, r3, r4, r5, r6, r7, r8, r9, r10]) rfl ⟨rfl, HF.out.bel⟩
    · rw [if_neg h2]
      have f2 : (ck == 2) = false := by simpa using h2
      by_cases h3 : ck = 3
      · subst h3
        rw [if_pos rfl]
        clear OX h2
        generalize withB ⟨qs, qi, qg, qm, qx, qy, qvx, qvy, qh, qp, ql⟩ ⟨cs, ci, cg, cm, cx, cy, cvx, cvy, ch, cp, cl⟩ = y at *
        obtain ⟨ys, yi, yg, ym, yx, yy, yvx, yvy, yh, yp, yl⟩ := y
        simp only [Bn.val] at WX
        go_enter Tryz.func72, Tryz.ntmps72
        go_upto_region 1 with fail
        generalize ((w.alloc (.cells #[.int .i64 qs, .int .i64 qi, .int .i64 qg, .int .i64 qm, .int .i64 qx, .int .i64 qy, .int .i64 qvx, .int .i64 qvy, .int .i64 qh, .int .i64 qp, .int .i64 ql] 42)).alloc (.cells #[.int .i64 3, .int .i64 cs_, .int .i64 ci_, .int .i64 cg_, .int .i64 cs, .int .i64 ci, .int .i64 cg, .int .i64 cm, .int .i64 cx, .int .i64 cy, .int .i64 cvx, .int .i64 cvy, .int .i64 ch, .int .i64 cp, .int .i64 cl, .int .i64 cm_] 55)).alloc (.cells #[.int .i64 0, .int .i64 0, .int .i64 0, .int .i64 0, .int .i64 0, .int .i64 0, .int .i64 0, .int .i64 0, .int .i64 0, .int .i64 0, .int .i64 0] 42) = w0 at *
        obtain ⟨⟨k0, k1, k2, k3, k4, k5, k6, k7, k8, k9, k10⟩, _⟩ := Bx.b11 (H0.out.held 2 rfl)
        obtain ⟨⟨e0, e1, e2, e3, e4, e5, e6, e7, e8, e9, e10, e11, e12, e13, e14, e15⟩, _⟩ := Bx.b16 (H0.out.held 1 rfl)
        obtain ⟨_, ⟨z0, z1, z2, z3, z4, z5, z6, z7, z8, z9, z10⟩⟩ := Bx.b11 (H0.out.held 0 rfl)
        have HF : Hid (∀ V, Below w0.heap.size w0 V → Sep w [box (w.heap.size + 2) (.cells #[.int .i64 0, .int .i64 0, .int .i64 0, .int .i64 0, .int .i64 0, .int .i64 0, .int .i64 0, .int .i64 0, .int .i64 0, .int .i64 0, .int .i64 0] 42), box (w.heap.size + 1) (.cells #[.int .i64 3, .int .i64 cs_, .int .i64 ci_, .int .i64 cg_, .int .i64 cs, .int .i64 ci, .int .i64 cg, .int .i64 cm, .int .i64 cx, .int .i64 cy, .int .i64 cvx, .int .i64 cvy, .int .i64 ch, .int .i64 cp, .int .i64 cl, .int .i64 cm_] 55), box w.heap.size (.cells #[.int .i64 qs, .int .i64 qi, .int .i64 qg, .int .i64 qm, .int .i64 qx, .int .i64 qy, .int .i64 qvx, .int .i64 qvy, .int .i64 qh, .int .i64 qp, .int .i64 ql] 42)] V) := Lib.hid fun V hV => H0.out.below hV
        go_wp2_with (go_at_call 95; refine (WX.out _).mono ?_; rintro e w3 ⟨rfl, b3⟩; clear WX k0 k1 k2 k3 k4 k5 k6 k7 k8 k9 k10 e0 e1 e2 e3 e4 e5 e6 e7 e8 e9 e10 e11 e12 e13 e14 e15 z0 z1 z2 z3 z4 z5 z6 z7 z8 z9 z10; have H3 := Lib.hid (HF.out _ b3); clear HF b3 H0; obtain ⟨_, ⟨z0, z1, z2, z3, z4, z5, z6, z7, z8, z9, z10⟩⟩ := Bx.b11 (H3.out.held 0 rfl))
        have HG := H3.out.set11 (.int .i64 ys) (.int .i64 yi) (.int .i64 yg) (.int .i64 ym) (.int .i64 yx) (.int .i64 yy) (.int .i64 yvx) (.int .i64 yvy) (.int .i64 yh) (.int .i64 yp) (.int .i64 yl)
        generalize (((((((((((w3.setCell ⟨w.heap.size + 2, 0, none⟩ (.int .i64 ys)).setCell ⟨w.heap.size + 2, 1, none⟩ (.int .i64 yi)).setCell ⟨w.heap.size + 2, 2, none⟩ (.int .i64 yg)).setCell ⟨w.heap.size + 2, 3, none⟩ (.int .i64 ym)).setCell ⟨w.heap.size + 2, 4, none⟩ (.int .i64 yx)).setCell ⟨w.heap.size + 2, 5, none⟩ (.int .i64 yy)).setCell ⟨w.heap.size + 2, 6, none⟩ (.int .i64 yvx)).setCell ⟨w.heap.size + 2, 7, none⟩ (.int .i64 yvy)).setCell ⟨w.heap.size + 2, 8, none⟩ (.int .i64 yh)).setCell ⟨w.heap.size + 2, 9, none⟩ (.int .i64 yp)).setCell ⟨w.heap.size + 2, 10, none⟩ (.int .i64 yl)) = V at *
        obtain ⟨r0, r1, r2, r3, r4, r5, r6, r7, r8, r9, r10⟩ := (Bx.b11 (HG.held 0 rfl)).1
        exact bodyPost_ret (v := .tuple #[.agg #[.int .i64 ys, .int .i64 yi, .int .i64 yg, .int .i64 ym, .int .i64 yx, .int .i64 yy, .int .i64 yvx, .int .i64 yvy, .int .i64 yh, .int .i64 yp, .int .i64 yl], .bool true]) (by simp [results, Tryz.results72, go_sem, r0, r1, r2, r3, r4, r5, r6, r7, r8, r9, r10]) rfl ⟨rfl, HG.bel⟩
      · rw [if_neg h3]
        have f3 : (ck == 3) = false := by simpa using h3
        by_cases h4 : ck = 4
        · subst h4
          rw [if_pos rfl]
          clear WX h2 h3
          generalize withoutB ⟨qs, qi, qg, qm, qx, qy, qvx, qvy, qh, qp, ql⟩ cm_ = y at *
          obtain ⟨ys, yi, yg, ym, yx, yy, yvx, yvy, yh, yp, yl⟩ := y
          simp only [Bn.val] at OX
          go_enter Tryz.func72, Tryz.ntmps72
          go_upto_region 1 with fail
          generalize ((w.alloc (.cells #[.int .i64 qs, .int .i64 qi, .int .i64 qg, .int .i64 qm, .int .i64 qx, .int .i64 qy, .int .i64 qvx, .int .i64 qvy, .int .i64 qh, .int .i64 qp, .int .i64 ql] 42)).alloc (.cells #[.int .i64 4, .int .i64 cs_, .int .i64 ci_, .int .i64 cg_, .int .i64 cs, .int .i64 ci, .int .i64 cg, .int .i64 cm, .int .i64 cx, .int .i64 cy, .int .i64 cvx, .int .i64 cvy, .int .i64 ch, .int .i64 cp, .int .i64 cl, .int .i64 cm_] 55)).alloc (.cells #[.int .i64 0, .int .i64 0, .int .i64 0, .int .i64 0, .int .i64 0, .int .i64 0, .int .i64 0, .int .i64 0, .int .i64 0, .int .i64 0, .int .i64 0] 42) = w0 at *
          obtain ⟨⟨k0, k1, k2, k3, k4, k5, k6, k7, k8, k9, k10⟩, _⟩ := Bx.b11 (H0.out.held 2 rfl)
          obtain ⟨⟨e0, e1, e2, e3, e4, e5, e6, e7, e8, e9, e10, e11, e12, e13, e14, e15⟩, _⟩ := Bx.b16 (H0.out.held 1 rfl)
          obtain ⟨_, ⟨z0, z1, z2, z3, z4, z5, z6, z7, z8, z9, z10⟩⟩ := Bx.b11 (H0.out.held 0 rfl)
          have HF : Hid (∀ V, Below w0.heap.size w0 V → Sep w [box (w.heap.size + 2) (.cells #[.int .i64 0, .int .i64 0, .int .i64 0, .int .i64 0, .int .i64 0, .int .i64 0, .int .i64 0, .int .i64 0, .int .i64 0, .int .i64 0, .int .i64 0] 42), box (w.heap.size + 1) (.cells #[.int .i64 4, .int .i64 cs_, .int .i64 ci_, .int .i64 cg_, .int .i64 cs, .int .i64 ci, .int .i64 cg, .int .i64 cm, .int .i64 cx, .int .i64 cy, .int .i64 cvx, .int .i64 cvy, .int .i64 ch, .int .i64 cp, .int .i64 cl, .int .i64 cm_] 55), box w.heap.size (.cells #[.int .i64 qs, .int .i64 qi, .int .i64 qg, .int .i64 qm, .int .i64 qx, .int .i64 qy, .int .i64 qvx, .int .i64 qvy, .int .i64 qh, .int .i64 qp, .int .i64 ql] 42)] V) := Lib.hid fun V hV => H0.out.below hV
          go_wp2_with (go_at_call 96; refine (OX.out _).mono ?_; rintro e w3 ⟨rfl, b3⟩; clear OX k0 k1 k2 k3 k4 k5 k6 k7 k8 k9 k10 e0 e1 e2 e3 e4 e5 e6 e7 e8 e9 e10 e11 e12 e13 e14 e15 z0 z1 z2 z3 z4 z5 z6 z7 z8 z9 z10; have H3 := Lib.hid (HF.out _ b3); clear HF b3 H0; obtain ⟨_, ⟨z0, z1, z2, z3, z4, z5, z6, z7, z8, z9, z10⟩⟩ := Bx.b11 (H3.out.held 0 rfl))
          have HG := H3.out.set11 (.int .i64 ys) (.int .i64 yi) (.int .i64 yg) (.int .i64 ym) (.int .i64 yx) (.int .i64 yy) (.int .i64 yvx) (.int .i64 yvy) (.int .i64 yh) (.int .i64 yp) (.int .i64 yl)
          generalize (((((((((((w3.setCell ⟨w.heap.size + 2, 0, none⟩ (.int .i64 ys)).setCell ⟨w.heap.size + 2, 1, none⟩ (.int .i64 yi)).setCell ⟨w.heap.size + 2, 2, none⟩ (.int .i64 yg)).setCell ⟨w.heap.size + 2, 3, none⟩ (.int .i64 ym)).setCell ⟨w.heap.size + 2, 4, none⟩ (.int .i64 yx)).setCell ⟨w.heap.size + 2, 5, none⟩ (.int .i64 yy)).setCell ⟨w.heap.size + 2, 6, none⟩ (.int .i64 yvx)).setCell ⟨w.heap.size + 2, 7, none⟩ (.int .i64 yvy)).setCell ⟨w.heap.size + 2, 8, none⟩ (.int .i64 yh)).setCell ⟨w.heap.size + 2, 9, none⟩ (.int .i64 yp)).setCell ⟨w.heap.size + 2, 10, none⟩ (.int .i64 yl)) = V at *
          obtain ⟨r0, r1, r2, r3, r4, r5, r6, r7, r8, r9, r10⟩ := (Bx.b11 (HG.held 0 rfl)).1
          exact bodyPost_ret (v := .tuple #[.agg #[.int .i64 ys, .int .i64 yi, .int .i64 yg, .int .i64 ym, .int .i64 yx, .int .i64 yy, .int .i64 yvx, .int .i64 yvy, .int .i64 yh, .int .i64 yp, .int .i64 yl], .bool true]) (by simp [results, Tryz.results72, go_sem, r0, r1, r2, r3, r4, r5, r6, r7, r8, r9, r10]) rfl ⟨rfl, HG.bel⟩
        · rw [if_neg h4]
          have f4 : (ck == 4) = false := by simpa using h4
          clear WX OX h2 h3 h4
          go_enter Tryz.func72, Tryz.ntmps72
          go_upto_region 1 with fail
          generalize ((w.alloc (.cells #[.int .i64 qs, .int .i64 qi, .int .i64 qg, .int .i64 qm, .int .i64 qx, .int .i64 qy, .int .i64 qvx, .int .i64 qvy, .int .i64 qh, .int .i64 qp, .int .i64 ql] 42)).alloc (.cells #[.int .i64 ck, .int .i64 cs_, .int .i64 ci_, .int .i64 cg_, .int .i64 cs, .int .i64 ci, .int .i64 cg, .int .i64 cm, .int .i64 cx, .int .i64 cy, .int .i64 cvx, .int .i64 cvy, .int .i64 ch, .int .i64 cp, .int .i64 cl, .int .i64 cm_] 55)).alloc (.cells #[.int .i64 0, .int .i64 0, .int .i64 0, .int .i64 0, .int .i64 0, .int .i64 0, .int .i64 0, .int .i64 0, .int .i64 0, .int .i64 0, .int .i64 0] 42) = w0 at *
          obtain ⟨⟨k0, k1, k2, k3, k4, k5, k6, k7, k8, k9, k10⟩, _⟩ := Bx.b11 (H0.out.held 2 rfl)
          obtain ⟨⟨e0, e1, e2, e3, e4, e5, e6, e7, e8, e9, e10, e11, e12, e13, e14, e15⟩, _⟩ := Bx.b16 (H0.out.held 1 rfl)
          obtain ⟨_, ⟨z0, z1, z2, z3, z4, z5, z6, z7, z8, z9, z10⟩⟩ := Bx.b11 (H0.out.held 0 rfl)
          have HF : Hid (Sep w [box (w.heap.size + 2) (.cells #[.int .i64 qs, .int .i64 qi, .int .i64 qg, .int .i64 qm, .int .i64 qx, .int .i64 qy, .int .i64 qvx, .int .i64 qvy, .int .i64 qh, .int .i64 qp, .int .i64 ql] 42), box (w.heap.size + 1) (.cells #[.int .i64 ck, .int .i64 cs_, .int .i64 ci_, .int .i64 cg_, .int .i64 cs, .int .i64 ci, .int .i64 cg, .int .i64 cm, .int .i64 cx, .int .i64 cy, .int .i64 cvx, .int .i64 cvy, .int .i64 ch, .int .i64 cp, .int .i64 cl, .int .i64 cm_] 55), box w.heap.size (.cells #[.int .i64 qs, .int .i64 qi, .int .i64 qg, .int .i64 qm, .int .i64 qx, .int .i64 qy, .int .i64 qvx, .int .i64 qvy, .int .i64 qh, .int .i64 qp, .int .i64 ql] 42)] (((((((((((w0.setCell ⟨w.heap.size + 2, 0, none⟩ (.int .i64 qs)).setCell ⟨w.heap.size + 2, 1, none⟩ (.int .i64 qi)).setCell ⟨w.heap.size + 2, 2, none⟩ (.int .i64 qg)).setCell ⟨w.heap.size + 2, 3, none⟩ (.int .i64 qm)).setCell ⟨w.heap.size + 2, 4, none⟩ (.int .i64 qx)).setCell ⟨w.heap.size + 2, 5, none⟩ (.int .i64 qy)).setCell ⟨w.heap.size + 2, 6, none⟩ (.int .i64 qvx)).setCell ⟨w.heap.size + 2, 7, none⟩ (.int .i64 qvy)).setCell ⟨w.heap.size + 2, 8, none⟩ (.int .i64 qh)).setCell ⟨w.heap.size + 2, 9, none⟩ (.int .i64 qp)).setCell ⟨w.heap.size + 2, 10, none⟩ (.int .i64 ql))) := Lib.hid (H0.out.set11 (.int .i64 qs) (.int .i64 qi) (.int .i64 qg) (.int .i64 qm) (.int .i64 qx) (.int .i64 qy) (.int .i64 qvx) (.int .i64 qvy) (.int .i64 qh) (.int .i64 qp) (.int .i64 ql))
          go_wp2
          generalize (((((((((((w0.setCell ⟨w.heap.size + 2, 0, none⟩ (.int .i64 qs)).setCell ⟨w.heap.size + 2, 1, none⟩ (.int .i64 qi)).setCell ⟨w.heap.size + 2, 2, none⟩ (.int .i64 qg)).setCell ⟨w.heap.size + 2, 3, none⟩ (.int .i64 qm)).setCell ⟨w.heap.size + 2, 4, none⟩ (.int .i64 qx)).setCell ⟨w.heap.size + 2, 5, none⟩ (.int .i64 qy)).setCell ⟨w.heap.size + 2, 6, none⟩ (.int .i64 qvx)).setCell ⟨w.heap.size + 2, 7, none⟩ (.int .i64 qvy)).setCell ⟨w.heap.size + 2, 8, none⟩ (.int .i64 qh)).setCell ⟨w.heap.size + 2, 9, none⟩ (.int .i64 qp)).setCell ⟨w.heap.size + 2, 10, none⟩ (.int .i64 ql)) = V at *
          obtain ⟨r0, r1, r2, r3, r4, r5, r6, r7, r8, r9, r10⟩ := (Bx.b11 (HF.out.held 0 rfl)).1
          exact bodyPost_ret (v := .tuple #[.agg #[.int .i64 qs, .int .i64 qi, .int .i64 qg, .int .i64 qm, .int .i64 qx, .int .i64 qy, .int .i64 qvx, .int .i64 qvy, .int .i64 qh, .int .i64 qp, .int .i64 ql], .bool true]) (by simp [results, Tryz.results72, go_sem, r0, r1, r2, r3, r4, r5, r6, r7, r8, r9, r10]) rfl ⟨rfl, HF.out.bel⟩
  · rw [if_neg (fun h => hs (hid.1 h))]
    rw [Bool.eq_false_iff.2 hs] at EQ
    clear hid hs WX OX
    simp at EQ
    go_enter Tryz.func72, Tryz.ntmps72
    go_upto_region 1 with fail
    generalize ((w.alloc (.cells #[.int .i64 qs, .int .i64 qi, .int .i64 qg, .int .i64 qm, .int .i64 qx, .int .i64 qy, .int .i64 qvx, .int .i64 qvy, .int .i64 qh, .int .i64 qp, .int .i64 ql] 42)).alloc (.cells #[.int .i64 ck, .int .i64 cs_, .int .i64 ci_, .int .i64 cg_, .int .i64 cs, .int .i64 ci, .int .i64 cg, .int .i64 cm, .int .i64 cx, .int .i64 cy, .int .i64 cvx, .int .i64 cvy, .int .i64 ch, .int .i64 cp, .int .i64 cl, .int .i64 cm_] 55)).alloc (.cells #[.int .i64 0, .int .i64 0, .int .i64 0, .int .i64 0, .int .i64 0, .int .i64 0, .int .i64 0, .int .i64 0, .int .i64 0, .int .i64 0, .int .i64 0] 42) = w0 at *
    obtain ⟨⟨k0, k1, k2, k3, k4, k5, k6, k7, k8, k9, k10⟩, _⟩ := Bx.b11 (H0.out.held 2 rfl)
    obtain ⟨⟨e0, e1, e2, e3, e4, e5, e6, e7, e8, e9, e10, e11, e12, e13, e14, e15⟩, _⟩ := Bx.b16 (H0.out.held 1 rfl)
    obtain ⟨_, ⟨z0, z1, z2, z3, z4, z5, z6, z7, z8, z9, z10⟩⟩ := Bx.b11 (H0.out.held 0 rfl)
    have HF : Hid (Sep w [box (w.heap.size + 2) (.cells #[.int .i64 qs, .int .i64 qi, .int .i64 qg, .int .i64 qm, .int .i64 qx, .int .i64 qy, .int .i64 qvx, .int .i64 qvy, .int .i64 qh, .int .i64 qp, .int .i64 ql] 42), box (w.heap.size + 1) (.cells #[.int .i64 ck, .int .i64 cs_, .int .i64 ci_, .int .i64 cg_, .int .i64 cs, .int .i64 ci, .int .i64 cg, .int .i64 cm, .int .i64 cx, .int .i64 cy, .int .i64 cvx, .int .i64 cvy, .int .i64 ch, .int .i64 cp, .int .i64 cl, .int .i64 cm_] 55), box w.heap.size (.cells #[.int .i64 qs, .int .i64 qi, .int .i64 qg, .int .i64 qm, .int .i64 qx, .int .i64 qy, .int .i64 qvx, .int .i64 qvy, .int .i64 qh, .int .i64 qp, .int .i64 ql] 42)] (((((((((((w0.setCell ⟨w.heap.size + 2, 0, none⟩ (.int .i64 qs)).setCell ⟨w.heap.size + 2, 1, none⟩ (.int .i64 qi)).setCell ⟨w.heap.size + 2, 2, none⟩ (.int .i64 qg)).setCell ⟨w.heap.size + 2, 3, none⟩ (.int .i64 qm)).setCell ⟨w.heap.size + 2, 4, none⟩ (.int .i64 qx)).setCell ⟨w.heap.size + 2, 5, none⟩ (.int .i64 qy)).setCell ⟨w.heap.size + 2, 6, none⟩ (.int .i64 qvx)).setCell ⟨w.heap.size + 2, 7, none⟩ (.int .i64 qvy)).setCell ⟨w.heap.size + 2, 8, none⟩ (.int .i64 qh)).setCell ⟨w.heap.size + 2, 9, none⟩ (.int .i64 qp)).setCell ⟨w.heap.size + 2, 10, none⟩ (.int .i64 ql))) := Lib.hid (H0.out.set11 (.int .i64 qs) (.int .i64 qi) (.int .i64 qg) (.int .i64 qm) (.int .i64 qx) (.int .i64 qy) (.int .i64 qvx) (.int .i64 qvy) (.int .i64 qh) (.int .i64 qp) (.int .i64 ql))
    go_wp2
    generalize (((((((((((w0.setCell ⟨w.heap.size + 2, 0, none⟩ (.int .i64 qs)).setCell ⟨w.heap.size + 2, 1, none⟩ (.int .i64 qi)).setCell ⟨w.heap.size + 2, 2, none⟩ (.int .i64 qg)).setCell ⟨w.heap.size + 2, 3, none⟩ (.int .i64 qm)).setCell ⟨w.heap.size + 2, 4, none⟩ (.int .i64 qx)).setCell ⟨w.heap.size + 2, 5, none⟩ (.int .i64 qy)).setCell ⟨w.heap.size + 2, 6, none⟩ (.int .i64 qvx)).setCell ⟨w.heap.size + 2, 7, none⟩ (.int .i64 qvy)).setCell ⟨w.heap.size + 2, 8, none⟩ (.int .i64 qh)).setCell ⟨w.heap.size + 2, 9, none⟩ (.int .i64 qp)).setCell ⟨w.heap.size + 2, 10, none⟩ (.int .i64 ql)) = V at *
    obtain ⟨r0, r1, r2, r3, r4, r5, r6, r7, r8, r9, r10⟩ := (Bx.b11 (HF.out.held 0 rfl)).1
    exact bodyPost_ret (v := .tuple #[.agg #[.int .i64 qs, .int .i64 qi, .int .i64 qg, .int .i64 qm, .int .i64 qx, .int .i64 qy, .int .i64 qvx, .int .i64 qvy, .int .i64 qh, .int .i64 qp, .int .i64 ql], .bool true]) (by simp [results, Tryz.results72, go_sem, r0, r1, r2, r3, r4, r5, r6, r7, r8, r9, r10]) rfl ⟨rfl, HF.out.bel⟩
end Go.Proofs.YtljaahemlcaffaaGreat
namespace Go.Proofs.YtljaahemlcaffaaGreat
open Go.RowKit Pz Sp
set_option linter.unusedVariables false
set_option linter.unusedSimpArgs false

set_option maxHeartbeats 4000000 in
set_option maxRecDepth 100000 in
theorem churt_any (qs qi qg qm qx qy qvx qvy qh qp ql : Int) (n : Int) (hh : Fit qh) (hn : Fit n) (w : World) : Calls Tryz.prog 66 #[.agg #[.int .i64 qs, .int .i64 qi, .int .i64 qg, .int .i64 qm, .int .i64 qx, .int .i64 qy, .int .i64 qvx, .int .i64 qvy, .int .i64 qh, .int .i64 qp, .int .i64 ql], .int .i64 n] w fun e w' => e = .returned (.tuple #[(Sy.hurt ⟨qs, qi, qg, qm, qx, qy, qvx, qvy, qh, qp, ql⟩ n).1.val, .bool (Sy.hurt ⟨qs, qi, qg, qm, qx, qy, qvx, qvy, qh, qp, ql⟩ n).2]) ∧ Below w.heap.size w w' := by
  have BX : Hid (∀ W, Calls Tryz.prog 68 #[.agg #[.int .i64 qs, .int .i64 qi, .int .i64 qg, .int .i64 qm, .int .i64 qx, .int .i64 qy, .int .i64 qvx, .int .i64 qvy, .int .i64 qh, .int .i64 qp, .int .i64 ql], .int .i64 4] W fun e w' => e = .returned (.bool (bitB qm 2)) ∧ Below W.heap.size W w') := Lib.hid fun W => has_one ⟨qs, qi, qg, qm, qx, qy, qvx, qvy, qh, qp, ql⟩ (j := 2) (by decide) W
  have H0 : Hid (Sep w [box (w.heap.size + 1) (.cells #[.int .i64 0, .int .i64 0, .int .i64 0, .int .i64 0, .int .i64 0, .int .i64 0, .int .i64 0, .int .i64 0, .int .i64 0, .int .i64 0, .int .i64 0] 42), box w.heap.size (.cells #[.int .i64 qs, .int .i64 qi, .int .i64 qg, .int .i64 qm, .int .i64 qx, .int .i64 qy, .int .i64 qvx, .int .i64 qvy, .int .i64 qh, .int .i64 qp, .int .i64 ql] 42)] ((w.alloc (.cells #[.int .i64 qs, .int .i64 qi, .int .i64 qg, .int .i64 qm, .int .i64 qx, .int .i64 qy, .int .i64 qvx, .int .i64 qvy, .int .i64 qh, .int .i64 qp, .int .i64 ql] 42)).alloc (.cells #[.int .i64 0, .int .i64 0, .int .i64 0, .int .i64 0, .int .i64 0, .int .i64 0, .int .i64 0, .int .i64 0, .int .i64 0, .int .i64 0, .int .i64 0] 42))) := Lib.hid (by
    have := sep_box (sep_box (sep_new w) (.cells #[.int .i64 qs, .int .i64 qi, .int .i64 qg, .int .i64 qm, .int .i64 qx, .int .i64 qy, .int .i64 qvx, .int .i64 qvy, .int .i64 qh, .int .i64 qp, .int .i64 ql] 42)) (.cells #[.int .i64 0, .int .i64 0, .int .i64 0, .int .i64 0, .int .i64 0, .int .i64 0, .int .i64 0, .int .i64 0, .int .i64 0, .int .i64 0, .int .i64 0] 42)
    rw [size1] at this
    exact this)
  unfold Sy.hurt
  dsimp only
  generalize hb : bitB qm 2 = bit at *
  clear hb
  by_cases hc : bit = true ∧ 0 < n
  · obtain ⟨rfl, h1⟩ := hc
    have t1 : ¬ n ≤ 0 := by omega
    rw [if_pos ⟨rfl, h1⟩]
    by_cases h2 : qh ≤ n
    · rw [if_pos h2]
      go_enter Tryz.func66, Tryz.ntmps66
      go_upto_region 1 with fail
      generalize (w.alloc (.cells #[.int .i64 qs, .int .i64 qi, .int .i64 qg, .int .i64 qm, .int .i64 qx, .int .i64 qy, .int .i64 qvx, .int .i64 qvy, .int .i64 qh, .int .i64 qp, .int .i64 ql] 42)).alloc (.cells #[.int .i64 0, .int .i64 0, .int .i64 0, .int .i64 0, .int .i64 0, .int .i64 0, .int .i64 0, .int .i64 0, .int .i64 0, .int .i64 0, .int .i64 0] 42) = w0 at *
      obtain ⟨⟨k0, k1, k2, k3, k4, k5, k6, k7, k8, k9, k10⟩, ⟨f0, f1, f2, f3, f4, f5, f6, f7, f8, f9, f10⟩⟩ := Bx.b11 (H0.out.held 1 rfl)
      obtain ⟨_, ⟨z0, z1, z2, z3, z4, z5, z6, z7, z8, z9, z10⟩⟩ := Bx.b11 (H0.out.held 0 rfl)
      go_wp2_with (go_at_call 68; with_reducible refine (BX.out _).mono ?_; rintro e w1 ⟨rfl, b1⟩; clear BX k0 k1 k2 k3 k4 k5 k6 k7 k8 k9 k10 f0 f1 f2 f3 f4 f5 f6 f7 f8 f9 f10 z0 z1 z2 z3 z4 z5 z6 z7 z8 z9 z10; have H1 := Lib.hid (H0.out.below b1); clear H0 b1; obtain ⟨⟨k0, k1, k2, k3, k4, k5, k6, k7, k8, k9, k10⟩, ⟨f0, f1, f2, f3, f4, f5, f6, f7, f8, f9, f10⟩⟩ := Bx.b11 (H1.out.held 1 rfl); obtain ⟨_, ⟨z0, z1, z2, z3, z4, z5, z6, z7, z8, z9, z10⟩⟩ := Bx.b11 (H1.out.held 0 rfl))
      have HF := Lib.hid (H1.out.set11 (.int .i64 0) (.int .i64 0) (.int .i64 0) (.int .i64 0) (.int .i64 0) (.int .i64 0) (.int .i64 0) (.int .i64 0) (.int .i64 0) (.int .i64 0) (.int .i64 0))
      generalize (((((((((((w1.setCell ⟨w.heap.size + 1, 0, none⟩ (.int .i64 0)).setCell ⟨w.heap.size + 1, 1, none⟩ (.int .i64 0)).setCell ⟨w.heap.size + 1, 2, none⟩ (.int .i64 0)).setCell ⟨w.heap.size + 1, 3, none⟩ (.int .i64 0)).setCell ⟨w.heap.size + 1, 4, none⟩ (.int .i64 0)).setCell ⟨w.heap.size + 1, 5, none⟩ (.int .i64 0)).setCell ⟨w.heap.size + 1, 6, none⟩ (.int .i64 0)).setCell ⟨w.heap.size + 1, 7, none⟩ (.int .i64 0)).setCell ⟨w.heap.size + 1, 8, none⟩ (.int .i64 0)).setCell ⟨w.heap.size + 1, 9, none⟩ (.int .i64 0)).setCell ⟨w.heap.size + 1, 10, none⟩ (.int .i64 0)) = V at *
      obtain ⟨r0, r1, r2, r3, r4, r5, r6, r7, r8, r9, r10⟩ := (Bx.b11 (HF.out.held 0 rfl)).1
      exact bodyPost_ret (v := .tuple #[.agg #[.int .i64 0, .int .i64 0, .int .i64 0, .int .i64 0, .int .i64 0, .int .i64 0, .int .i64 0, .int .i64 0, .int .i64 0, .int .i64 0, .int .i64 0], .bool false]) (by simp [results, Tryz.results66, go_sem, r0, r1, r2, r3, r4, r5, r6, r7, r8, r9, r10]) rfl ⟨rfl, HF.out.bel⟩
    · rw [if_neg h2]
      have t3 : IntKind.i64.wrap (qh - n) = qh - n := IntWalk.i64_in _ ⟨by unfold Fit at hh hn; omega, by unfold Fit at hh hn; omega⟩
      go_enter Tryz.func66, Tryz.ntmps66
      go_upto_region 1 with fail
      generalize (w.alloc (.cells #[.int .i64 qs, .int .i64 qi, .int .i64 qg, .int .i64 qm, .int .i64 qx, .int .i64 qy, .int .i64 qvx, .int .i64 qvy, .int .i64 qh, .int .i64 qp, .int .i64 ql] 42)).alloc (.cells #[.int .i64 0, .int .i64 0, .int .i64 0, .int .i64 0, .int .i64 0, .int .i64 0, .int .i64 0, .int .i64 0, .int .i64 0, .int .i64 0, .int .i64 0] 42) = w0 at *
      obtain ⟨⟨k0, k1, k2, k3, k4, k5, k6, k7, k8, k9, k10⟩, ⟨f0, f1, f2, f3, f4, f5, f6, f7, f8, f9, f10⟩⟩ := Bx.b11 (H0.out.held 1 rfl)
      obtain ⟨_, ⟨z0, z1, z2, z3, z4, z5, z6, z7, z8, z9, z10⟩⟩ := Bx.b11 (H0.out.held 0 rfl)
      go_upto_region 6 with (go_at_call 68; with_reducible refine (BX.out _).mono ?_; rintro e w1 ⟨rfl, b1⟩; clear BX k0 k1 k2 k3 k4 k5 k6 k7 k8 k9 k10 f0 f1 f2 f3 f4 f5 f6 f7 f8 f9 f10 z0 z1 z2 z3 z4 z5 z6 z7 z8 z9 z10; have H1 := Lib.hid (H0.out.below b1); clear H0 b1; obtain ⟨⟨k0, k1, k2, k3, k4, k5, k6, k7, k8, k9, k10⟩, ⟨f0, f1, f2, f3, f4, f5, f6, f7, f8, f9, f10⟩⟩ := Bx.b11 (H1.out.held 1 rfl); obtain ⟨_, ⟨z0, z1, z2, z3, z4, z5, z6, z7, z8, z9, z10⟩⟩ := Bx.b11 (H1.out.held 0 rfl))
      have H2 : Hid (Sep w [box w.heap.size (.cells #[.int .i64 qs, .int .i64 qi, .int .i64 qg, .int .i64 qm, .int .i64 qx, .int .i64 qy, .int .i64 qvx, .int .i64 qvy, .int .i64 (qh - n), .int .i64 qp, .int .i64 ql] 42), box (w.heap.size + 1) (.cells #[.int .i64 0, .int .i64 0, .int .i64 0, .int .i64 0, .int .i64 0, .int .i64 0, .int .i64 0, .int .i64 0, .int .i64 0, .int .i64 0, .int .i64 0] 42)] (w1.setCell ⟨w.heap.size, 8, none⟩ (.int .i64 (qh - n)))) := Lib.hid (by
        have := (show Sep w [box w.heap.size (.cells #[.int .i64 qs, .int .i64 qi, .int .i64 qg, .int .i64 qm, .int .i64 qx, .int .i64 qy, .int .i64 qvx, .int .i64 qvy, .int .i64 qh, .int .i64 qp, .int .i64 ql] 42), box (w.heap.size + 1) (.cells #[.int .i64 0, .int .i64 0, .int .i64 0, .int .i64 0, .int .i64 0, .int .i64 0, .int .i64 0, .int .i64 0, .int .i64 0, .int .i64 0, .int .i64 0] 42)] w1 from H1.out.pull 1 rfl).cell (o := 8) (.int .i64 (qh - n))
        simpa using this)
      clear k0 k1 k2 k3 k4 k5 k6 k7 k8 k9 k10 f0 f1 f2 f3 f4 f5 f6 f7 f8 f9 f10 z0 z1 z2 z3 z4 z5 z6 z7 z8 z9 z10 H1
      generalize w1.setCell ⟨w.heap.size, 8, none⟩ (.int .i64 (qh - n)) = w2 at *
      obtain ⟨⟨k0, k1, k2, k3, k4, k5, k6, k7, k8, k9, k10⟩, _⟩ := Bx.b11 (H2.out.held 0 rfl)
      obtain ⟨_, ⟨z0, z1, z2, z3, z4, z5, z6, z7, z8, z9, z10⟩⟩ := Bx.b11 (H2.out.held 1 rfl)
      have HF := Lib.hid ((show Sep w [box (w.heap.size + 1) (.cells #[.int .i64 0, .int .i64 0, .int .i64 0, .int .i64 0, .int .i64 0, .int .i64 0, .int .i64 0, .int .i64 0, .int .i64 0, .int .i64 0, .int .i64 0] 42), box w.heap.size (.cells #[.int .i64 qs, .int .i64 qi, .int .i64 qg, .int .i64 qm, .int .i64 qx, .int .i64 qy, .int .i64 qvx, .int .i64 qvy, .int .i64 (qh - n), .int .i64 qp, .int .i64 ql] 42)] w2 from H2.out.pull 1 rfl).set11 (.int .i64 qs) (.int .i64 qi) (.int .i64 qg) (.int .i64 qm) (.int .i64 qx) (.int .i64 qy) (.int .i64 qvx) (.int .i64 qvy) (.int .i64 (qh - n)) (.int .i64 qp) (.int .i64 ql))
      go_wp2
      generalize (((((((((((w2.setCell ⟨w.heap.size + 1, 0, none⟩ (.int .i64 qs)).setCell ⟨w.heap.size + 1, 1, none⟩ (.int .i64 qi)).setCell ⟨w.heap.size + 1, 2, none⟩ (.int .i64 qg)).setCell ⟨w.heap.size + 1, 3, none⟩ (.int .i64 qm)).setCell ⟨w.heap.size + 1, 4, none⟩ (.int .i64 qx)).setCell ⟨w.heap.size + 1, 5, none⟩ (.int .i64 qy)).setCell ⟨w.heap.size + 1, 6, none⟩ (.int .i64 qvx)).setCell ⟨w.heap.size + 1, 7, none⟩ (.int .i64 qvy)).setCell ⟨w.heap.size + 1, 8, none⟩ (.int .i64 (qh - n))).setCell ⟨w.heap.size + 1, 9, none⟩ (.int .i64 qp)).setCell ⟨w.heap.size + 1, 10, none⟩ (.int .i64 ql)) = V at *
      obtain ⟨r0, r1, r2, r3, r4, r5, r6, r7, r8, r9, r10⟩ := (Bx.b11 (HF.out.held 0 rfl)).1
      exact bodyPost_ret (v := .tuple #[.agg #[.int .i64 qs, .int .i64 qi, .int .i64 qg, .int .i64 qm, .int .i64 qx, .int .i64 qy, .int .i64 qvx, .int .i64 qvy, .int .i64 (qh - n), .int .i64 qp, .int .i64 ql], .bool true]) (by simp [results, Tryz.results66, go_sem, r0, r1, r2, r3, r4, r5, r6, r7, r8, r9, r10]) rfl ⟨rfl, HF.out.bel⟩
  · rw [if_neg hc]
    by_cases hb : bit = true
    · subst hb
      have t1 : n ≤ 0 := by by_cases h : 0 < n; exact absurd ⟨rfl, h⟩ hc; omega
      clear hc
      go_enter Tryz.func66, Tryz.ntmps66
      go_upto_region 1 with fail
      generalize (w.alloc (.cells #[.int .i64 qs, .int .i64 qi, .int .i64 qg, .int .i64 qm, .int .i64 qx, .int .i64 qy, .int .i64 qvx, .int .i64 qvy, .int .i64 qh, .int .i64 qp, .int .i64 ql] 42)).alloc (.cells #[.int .i64 0, .int .i64 0, .int .i64 0, .int .i64 0, .int .i64 0, .int .i64 0, .int .i64 0, .int .i64 0, .int .i64 0, .int .i64 0, .int .i64 0] 42) = w0 at *
      obtain ⟨⟨k0, k1, k2, k3, k4, k5, k6, k7, k8, k9, k10⟩, ⟨f0, f1, f2, f3, f4, f5, f6, f7, f8, f9, f10⟩⟩ := Bx.b11 (H0.out.held 1 rfl)
      obtain ⟨_, ⟨z0, z1, z2, z3, z4, z5, z6, z7, z8, z9, z10⟩⟩ := Bx.b11 (H0.out.held 0 rfl)
      go_wp2_with (go_at_call 68; with_reducible refine (BX.out _).mono ?_; rintro e w1 ⟨rfl, b1⟩; clear BX k0 k1 k2 k3 k4 k5 k6 k7 k8 k9 k10 f0 f1 f2 f3 f4 f5 f6 f7 f8 f9 f10 z0 z1 z2 z3 z4 z5 z6 z7 z8 z9 z10; have H1 := Lib.hid (H0.out.below b1); clear H0 b1; obtain ⟨⟨k0, k1, k2, k3, k4, k5, k6, k7, k8, k9, k10⟩, ⟨f0, f1, f2, f3, f4, f5, f6, f7, f8, f9, f10⟩⟩ := Bx.b11 (H1.out.held 1 rfl); obtain ⟨_, ⟨z0, z1, z2, z3, z4, z5, z6, z7, z8, z9, z10⟩⟩ := Bx.b11 (H1.out.held 0 rfl))
      have HF := Lib.hid (H1.out.set11 (.int .i64 qs) (.int .i64 qi) (.int .i64 qg) (.int .i64 qm) (.int .i64 qx) (.int .i64 qy) (.int .i64 qvx) (.int .i64 qvy) (.int .i64 qh) (.int .i64 qp) (.int .i64 ql))
      generalize (((((((((((w1.setCell ⟨w.heap.size + 1, 0, none⟩ (.int .i64 qs)).setCell ⟨w.heap.size + 1, 1, none⟩ (.int .i64 qi)).setCell ⟨w.heap.size + 1, 2, none⟩ (.int .i64 qg)).setCell ⟨w.heap.size + 1, 3, none⟩ (.int .i64 qm)).setCell ⟨w.heap.size + 1, 4, none⟩ (.int .i64 qx)).setCell ⟨w.heap.size + 1, 5, none⟩ (.int .i64 qy)).setCell ⟨w.heap.size + 1, 6, none⟩ (.int .i64 qvx)).setCell ⟨w.heap.size + 1, 7, none⟩ (.int .i64 qvy)).setCell ⟨w.heap.size + 1, 8, none⟩ (.int .i64 qh)).setCell ⟨w.heap.size + 1, 9, none⟩ (.int .i64 qp)).setCell ⟨w.heap.size + 1, 10, none⟩ (.int .i64 ql)) = V at *
      obtain ⟨r0, r1, r2, r3, r4, r5, r6, r7, r8, r9, r10⟩ := (Bx.b11 (HF.out.held 0 rfl)).1
      exact bodyPost_ret (v := .tuple #[.agg #[.int .i64 qs, .int .i64 qi, .int .i64 qg, .int .i64 qm, .int .i64 qx, .int .i64 qy, .int .i64 qvx, .int .i64 qvy, .int .i64 qh, .int .i64 qp, .int .i64 ql], .bool true]) (by simp [results, Tryz.results66, go_sem, r0, r1, r2, r3, r4, r5, r6, r7, r8, r9, r10]) rfl ⟨rfl, HF.out.bel⟩
    · obtain rfl : bit = false := by simpa using hb
      clear hc hb
      go_enter Tryz.func66, Tryz.ntmps66
      go_upto_region 1 with fail
      generalize (w.alloc (.cells #[.int .i64 qs, .int .i64 qi, .int .i64 qg, .int .i64 qm, .int .i64 qx, .int .i64 qy, .int .i64 qvx, .int .i64 qvy, .int .i64 qh, .int .i64 qp, .int .i64 ql] 42)).alloc (.cells #[.int .i64 0, .int .i64 0, .int .i64 0, .int .i64 0, .int .i64 0, .int .i64 0, .int .i64 0, .int .i64 0, .int .i64 0, .int .i64 0, .int .i64 0] 42) = w0 at *
      obtain ⟨⟨k0, k1, k2, k3, k4, k5, k6, k7, k8, k9, k10⟩, ⟨f0, f1, f2, f3, f4, f5, f6, f7, f8, f9, f10⟩⟩ := Bx.b11 (H0.out.held 1 rfl)
      obtain ⟨_, ⟨z0, z1, z2, z3, z4, z5, z6, z7, z8, z9, z10⟩⟩ := Bx.b11 (H0.out.held 0 rfl)
      go_wp2_with (go_at_call 68; with_reducible refine (BX.out _).mono ?_; rintro e w1 ⟨rfl, b1⟩; clear BX k0 k1 k2 k3 k4 k5 k6 k7 k8 k9 k10 f0 f1 f2 f3 f4 f5 f6 f7 f8 f9 f10 z0 z1 z2 z3 z4 z5 z6 z7 z8 z9 z10; have H1 := Lib.hid (H0.out.below b1); clear H0 b1; obtain ⟨⟨k0, k1, k2, k3, k4, k5, k6, k7, k8, k9, k10⟩, ⟨f0, f1, f2, f3, f4, f5, f6, f7, f8, f9, f10⟩⟩ := Bx.b11 (H1.out.held 1 rfl); obtain ⟨_, ⟨z0, z1, z2, z3, z4, z5, z6, z7, z8, z9, z10⟩⟩ := Bx.b11 (H1.out.held 0 rfl))
      have HF := Lib.hid (H1.out.set11 (.int .i64 qs) (.int .i64 qi) (.int .i64 qg) (.int .i64 qm) (.int .i64 qx) (.int .i64 qy) (.int .i64 qvx) (.int .i64 qvy) (.int .i64 qh) (.int .i64 qp) (.int .i64 ql))
      generalize (((((((((((w1.setCell ⟨w.heap.size + 1, 0, none⟩ (.int .i64 qs)).setCell ⟨w.heap.size + 1, 1, none⟩ (.int .i64 qi)).setCell ⟨w.heap.size + 1, 2, none⟩ (.int .i64 qg)).setCell ⟨w.heap.size + 1, 3, none⟩ (.int .i64 qm)).setCell ⟨w.heap.size + 1, 4, none⟩ (.int .i64 qx)).setCell ⟨w.heap.size + 1, 5, none⟩ (.int .i64 qy)).setCell ⟨w.heap.size + 1, 6, none⟩ (.int .i64 qvx)).setCell ⟨w.heap.size + 1, 7, none⟩ (.int .i64 qvy)).setCell ⟨w.heap.size + 1, 8, none⟩ (.int .i64 qh)).setCell ⟨w.heap.size + 1, 9, none⟩ (.int .i64 qp)).setCell ⟨w.heap.size + 1, 10, none⟩ (.int .i64 ql)) = V at *
      obtain ⟨r0, r1, r2, r3, r4, r5, r6, r7, r8, r9, r10⟩ := (Bx.b11 (HF.out.held 0 rfl)).1
      exact bodyPost_ret (v := .tuple #[.agg #[.int .i64 qs, .int .i64 qi, .int .i64 qg, .int .i64 qm, .int .i64 qx, .int .i64 qy, .int .i64 qvx, .int .i64 qvy, .int .i64 qh, .int .i64 qp, .int .i64 ql], .bool true]) (by simp [results, Tryz.results66, go_sem, r0, r1, r2, r3, r4, r5, r6, r7, r8, r9, r10]) rfl ⟨rfl, HF.out.bel⟩
set_option maxHeartbeats 4000000 in
set_option maxRecDepth 100000 in
theorem cage_any (qs qi qg qm qx qy qvx qvy qh qp ql : Int) (hl : Fit ql) (w : World) : Calls Tryz.prog 38 #[.agg #[.int .i64 qs, .int .i64 qi, .int .i64 qg, .int .i64 qm, .int .i64 qx, .int .i64 qy, .int .i64 qvx, .int .i64 qvy, .int .i64 qh, .int .i64 qp, .int .i64 ql]] w fun e w' => e = .returned (.tuple #[(Sy.age ⟨qs, qi, qg, qm, qx, qy, qvx, qvy, qh, qp, ql⟩).1.val, .bool (Sy.age ⟨qs, qi, qg, qm, qx, qy, qvx, qvy, qh, qp, ql⟩).2]) ∧ Below w.heap.size w w' := by
  have BX : Hid (∀ W, Calls Tryz.prog 68 #[.agg #[.int .i64 qs, .int .i64 qi, .int .i64 qg, .int .i64 qm, .int .i64 qx, .int .i64 qy, .int .i64 qvx, .int .i64 qvy, .int .i64 qh, .int .i64 qp, .int .i64 ql], .int .i64 16] W fun e w' => e = .returned (.bool (bitB qm 4)) ∧ Below W.heap.size W w') := Lib.hid fun W => has_one ⟨qs, qi, qg, qm, qx, qy, qvx, qvy, qh, qp, ql⟩ (j := 4) (by decide) W
  have H0 : Hid (Sep w [box (w.heap.size + 1) (.cells #[.int .i64 0, .int .i64 0, .int .i64 0, .int .i64 0, .int .i64 0, .int .i64 0, .int .i64 0, .int .i64 0, .int .i64 0, .int .i64 0, .int .i64 0] 42), box w.heap.size (.cells #[.int .i64 qs, .int .i64 qi, .int .i64 qg, .int .i64 qm, .int .i64 qx, .int .i64 qy, .int .i64 qvx, .int .i64 qvy, .int .i64 qh, .int .i64 qp, .int .i64 ql] 42)] ((w.alloc (.cells #[.int .i64 qs, .int .i64 qi, .int .i64 qg, .int .i64 qm, .int .i64 qx, .int .i64 qy, .int .i64 qvx, .int .i64 qvy, .int .i64 qh, .int .i64 qp, .int .i64 ql] 42)).alloc (.cells #[.int .i64 0, .int .i64 0, .int .i64 0, .int .i64 0, .int .i64 0, .int .i64 0, .int .i64 0, .int .i64 0, .int .i64 0, .int .i64 0, .int .i64 0] 42))) := Lib.hid (by
    have := sep_box (sep_box (sep_new w) (.cells #[.int .i64 qs, .int .i64 qi, .int .i64 qg, .int .i64 qm, .int .i64 qx, .int .i64 qy, .int .i64 qvx, .int .i64 qvy, .int .i64 qh, .int .i64 qp, .int .i64 ql] 42)) (.cells #[.int .i64 0, .int .i64 0, .int .i64 0, .int .i64 0, .int .i64 0, .int .i64 0, .int .i64 0, .int .i64 0, .int .i64 0, .int .i64 0, .int .i64 0] 42)
    rw [size1] at this
    exact this)
  unfold Sy.age
  dsimp only
  generalize hb : bitB qm 4 = bit at *
  clear hb
  cases bit with
  | true =>
    rw [if_pos rfl]
    by_cases h2 : ql < 2
    · rw [if_pos h2]
      have t1 : ql ≤ 1 := by omega
      go_enter Tryz.func38, Tryz.ntmps38
      go_upto_region 1 with fail
      generalize (w.alloc (.cells #[.int .i64 qs, .int .i64 qi, .int .i64 qg, .int .i64 qm, .int .i64 qx, .int .i64 qy, .int .i64 qvx, .int .i64 qvy, .int .i64 qh, .int .i64 qp, .int .i64 ql] 42)).alloc (.cells #[.int .i64 0, .int .i64 0, .int .i64 0, .int .i64 0, .int .i64 0, .int .i64 0, .int .i64 0, .int .i64 0, .int .i64 0, .int .i64 0, .int .i64 0] 42) = w0 at *
      obtain ⟨⟨k0, k1, k2, k3, k4, k5, k6, k7, k8, k9, k10⟩, ⟨f0, f1, f2, f3, f4, f5, f6, f7, f8, f9, f10⟩⟩ := Bx.b11 (H0.out.held 1 rfl)
      obtain ⟨_, ⟨z0, z1, z2, z3, z4, z5, z6, z7, z8, z9, z10⟩⟩ := Bx.b11 (H0.out.held 0 rfl)
      go_wp2_with (go_at_call 68; with_reducible refine (BX.out _).mono ?_; rintro e w1 ⟨rfl, b1⟩; clear BX k0 k1 k2 k3 k4 k5 k6 k7 k8 k9 k10 f0 f1 f2 f3 f4 f5 f6 f7 f8 f9 f10 z0 z1 z2 z3 z4 z5 z6 z7 z8 z9 z10; have H1 := Lib.hid (H0.out.below b1); clear H0 b1; obtain ⟨⟨k0, k1, k2, k3, k4, k5, k6, k7, k8, k9, k10⟩, ⟨f0, f1, f2, f3, f4, f5, f6, f7, f8, f9, f10⟩⟩ := Bx.b11 (H1.out.held 1 rfl); obtain ⟨_, ⟨z0, z1, z2, z3, z4, z5, z6, z7, z8, z9, z10⟩⟩ := Bx.b11 (H1.out.held 0 rfl))
      have HF := Lib.hid (H1.out.set11 (.int .i64 0) (.int .i64 0) (.int .i64 0) (.int .i64 0) (.int .i64 0) (.int .i64 0) (.int .i64 0) (.int .i64 0) (.int .i64 0) (.int .i64 0) (.int .i64 0))
      generalize (((((((((((w1.setCell ⟨w.heap.size + 1, 0, none⟩ (.int .i64 0)).setCell ⟨w.heap.size + 1, 1, none⟩ (.int .i64 0)).setCell ⟨w.heap.size + 1, 2, none⟩ (.int .i64 0)).setCell ⟨w.heap.size + 1, 3, none⟩ (.int .i64 0)).setCell ⟨w.heap.size + 1, 4, none⟩ (.int .i64 0)).setCell ⟨w.heap.size + 1, 5, none⟩ (.int .i64 0)).setCell ⟨w.heap.size + 1, 6, none⟩ (.int .i64 0)).setCell ⟨w.heap.size + 1, 7, none⟩ (.int .i64 0)).setCell ⟨w.heap.size + 1, 8, none⟩ (.int .i64 0)).setCell ⟨w.heap.size + 1, 9, none⟩ (.int .i64 0)).setCell ⟨w.heap.size + 1, 10, none⟩ (.int .i64 0)) = V at *
      obtain ⟨r0, r1, r2, r3, r4, r5, r6, r7, r8, r9, r10⟩ := (Bx.b11 (HF.out.held 0 rfl)).1
      exact bodyPost_ret (v := .tuple #[.agg #[.int .i64 0, .int .i64 0, .int .i64 0, .int .i64 0, .int .i64 0, .int .i64 0, .int .i64 0, .int .i64 0, .int .i64 0, .int .i64 0, .int .i64 0], .bool false]) (by simp [results, Tryz.results38, go_sem, r0, r1, r2, r3, r4, r5, r6, r7, r8, r9, r10]) rfl ⟨rfl, HF.out.bel⟩
    · rw [if_neg h2]
      have t1 : ¬ ql ≤ 1 := by omega
      have t3 : IntKind.i64.wrap (ql - 1) = ql - 1 := IntWalk.i64_in _ ⟨by unfold Fit at hl; omega, by unfold Fit at hl; omega⟩
      go_enter Tryz.func38, Tryz.ntmps38
      go_upto_region 1 with fail
      generalize (w.alloc (.cells #[.int .i64 qs, .int .i64 qi, .int .i64 qg, .int .i64 qm, .int .i64 qx, .int .i64 qy, .int .i64 qvx, .int .i64 qvy, .int .i64 qh, .int .i64 qp, .int .i64 ql] 42)).alloc (.cells #[.int .i64 0, .int .i64 0, .int .i64 0, .int .i64 0, .int .i64 0, .int .i64 0, .int .i64 0, .int .i64 0, .int .i64 0, .int .i64 0, .int .i64 0] 42) = w0 at *
      obtain ⟨⟨k0, k1, k2, k3, k4, k5, k6, k7, k8, k9, k10⟩, ⟨f0, f1, f2, f3, f4, f5, f6, f7, f8, f9, f10⟩⟩ := Bx.b11 (H0.out.held 1 rfl)
      obtain ⟨_, ⟨z0, z1, z2, z3, z4, z5, z6, z7, z8, z9, z10⟩⟩ := Bx.b11 (H0.out.held 0 rfl)
      go_upto_region 6 with (go_at_call 68; with_reducible refine (BX.out _).mono ?_; rintro e w1 ⟨rfl, b1⟩; clear BX k0 k1 k2 k3 k4 k5 k6 k7 k8 k9 k10 f0 f1 f2 f3 f4 f5 f6 f7 f8 f9 f10 z0 z1 z2 z3 z4 z5 z6 z7 z8 z9 z10; have H1 := Lib.hid (H0.out.below b1); clear H0 b1; obtain ⟨⟨k0, k1, k2, k3, k4, k5, k6, k7, k8, k9, k10⟩, ⟨f0, f1, f2, f3, f4, f5, f6, f7, f8, f9, f10⟩⟩ := Bx.b11 (H1.out.held 1 rfl); obtain ⟨_, ⟨z0, z1, z2, z3, z4, z5, z6, z7, z8, z9, z10⟩⟩ := Bx.b11 (H1.out.held 0 rfl))
      have H2 : Hid (Sep w [box w.heap.size (.cells #[.int .i64 qs, .int .i64 qi, .int .i64 qg, .int .i64 qm, .int .i64 qx, .int .i64 qy, .int .i64 qvx, .int .i64 qvy, .int .i64 qh, .int .i64 qp, .int .i64 (ql - 1)] 42), box (w.heap.size + 1) (.cells #[.int .i64 0, .int .i64 0, .int .i64 0, .int .i64 0, .int .i64 0, .int .i64 0, .int .i64 0, .int .i64 0, .int .i64 0, .int .i64 0, .int .i64 0] 42)] (w1.setCell ⟨w.heap.size, 10, none⟩ (.int .i64 (ql - 1)))) := Lib.hid (by
        have := (show Sep w [box w.heap.size (.cells #[.int .i64 qs, .int .i64 qi, .int .i64 qg, .int .i64 qm, .int .i64 qx, .int .i64 qy, .int .i64 qvx, .int .i64 qvy, .int .i64 qh, .int .i64 qp, .int .i64 ql] 42), box (w.heap.size + 1) (.cells #[.int .i64 0, .int .i64 0, .int .i64 0, .int .i64 0, .int .i64 0, .int .i64 0, .int .i64 0, .int .i64 0, .int .i64 0, .int .i64 0, .int .i64 0] 42)] w1 from H1.out.pull 1 rfl).cell (o := 10) (.int .i64 (ql - 1))
        simpa using this)
      clear k0 k1 k2 k3 k4 k5 k6 k7 k8 k9 k10 f0 f1 f2 f3 f4 f5 f6 f7 f8 f9 f10 z0 z1 z2 z3 z4 z5 z6 z7 z8 z9 z10 H1
      generalize w1.setCell ⟨w.heap.size, 10, none⟩ (.int .i64 (ql - 1)) = w2 at *
      obtain ⟨⟨k0, k1, k2, k3, k4, k5, k6, k7, k8, k9, k10⟩, _⟩ := Bx.b11 (H2.out.held 0 rfl)
      obtain ⟨_, ⟨z0, z1, z2, z3, z4, z5, z6, z7, z8, z9, z10⟩⟩ := Bx.b11 (H2.out.held 1 rfl)
      have HF := Lib.hid ((show Sep w [box (w.heap.size + 1) (.cells #[.int .i64 0, .int .i64 0, .int .i64 0, .int .i64 0, .int .i64 0, .int .i64 0, .int .i64 0, .int .i64 0, .int .i64 0, .int .i64 0, .int .i64 0] 42), box w.heap.size (.cells #[.int .i64 qs, .int .i64 qi, .int .i64 qg, .int .i64 qm, .int .i64 qx, .int .i64 qy, .int .i64 qvx, .int .i64 qvy, .int .i64 qh, .int .i64 qp, .int .i64 (ql - 1)] 42)] w2 from H2.out.pull 1 rfl).set11 (.int .i64 qs) (.int .i64 qi) (.int .i64 qg) (.int .i64 qm) (.int .i64 qx) (.int .i64 qy) (.int .i64 qvx) (.int .i64 qvy) (.int .i64 qh) (.int .i64 qp) (.int .i64 (ql - 1)))
      go_wp2
      generalize (((((((((((w2.setCell ⟨w.heap.size + 1, 0, none⟩ (.int .i64 qs)).setCell ⟨w.heap.size + 1, 1, none⟩ (.int .i64 qi)).setCell ⟨w.heap.size + 1, 2, none⟩ (.int .i64 qg)).setCell ⟨w.heap.size + 1, 3, none⟩ (.int .i64 qm)).setCell ⟨w.heap.size + 1, 4, none⟩ (.int .i64 qx)).setCell ⟨w.heap.size + 1, 5, none⟩ (.int .i64 qy)).setCell ⟨w.heap.size + 1, 6, none⟩ (.int .i64 qvx)).setCell ⟨w.heap.size + 1, 7, none⟩ (.int .i64 qvy)).setCell ⟨w.heap.size + 1, 8, none⟩ (.int .i64 qh)).setCell ⟨w.heap.size + 1, 9, none⟩ (.int .i64 qp)).setCell ⟨w.heap.size + 1, 10, none⟩ (.int .i64 (ql - 1))) = V at *
      obtain ⟨r0, r1, r2, r3, r4, r5, r6, r7, r8, r9, r10⟩ := (Bx.b11 (HF.out.held 0 rfl)).1
      exact bodyPost_ret (v := .tuple #[.agg #[.int .i64 qs, .int .i64 qi, .int .i64 qg, .int .i64 qm, .int .i64 qx, .int .i64 qy, .int .i64 qvx, .int .i64 qvy, .int .i64 qh, .int .i64 qp, .int .i64 (ql - 1)], .bool true]) (by simp [results, Tryz.results38, go_sem, r0, r1, r2, r3, r4, r5, r6, r7, r8, r9, r10]) rfl ⟨rfl, HF.out.bel⟩
  | false =>
    rw [if_neg (by decide)]
    go_enter Tryz.func38, Tryz.ntmps38
    go_upto_region 1 with fail
    generalize (w.alloc (.cells #[.int .i64 qs, .int .i64 qi, .int .i64 qg, .int .i64 qm, .int .i64 qx, .int .i64 qy, .int .i64 qvx, .int .i64 qvy, .int .i64 qh, .int .i64 qp, .int .i64 ql] 42)).alloc (.cells #[.int .i64 0, .int .i64 0, .int .i64 0, .int .i64 0, .int .i64 0, .int .i64 0, .int .i64 0, .int .i64 0, .int .i64 0, .int .i64 0, .int .i64 0] 42) = w0 at *
    obtain ⟨⟨k0, k1, k2, k3, k4, k5, k6, k7, k8, k9, k10⟩, ⟨f0, f1, f2, f3, f4, f5, f6, f7, f8, f9, f10⟩⟩ := Bx.b11 (H0.out.held 1 rfl)
    obtain ⟨_, ⟨z0, z1, z2, z3, z4, z5, z6, z7, z8, z9, z10⟩⟩ := Bx.b11 (H0.out.held 0 rfl)
    go_wp2_with (go_at_call 68; with_reducible refine (BX.out _).mono ?_; rintro e w1 ⟨rfl, b1⟩; clear BX k0 k1 k2 k3 k4 k5 k6 k7 k8 k9 k10 f0 f1 f2 f3 f4 f5 f6 f7 f8 f9 f10 z0 z1 z2 z3 z4 z5 z6 z7 z8 z9 z10; have H1 := Lib.hid (H0.out.below b1); clear H0 b1; obtain ⟨⟨k0, k1, k2, k3, k4, k5, k6, k7, k8, k9, k10⟩, ⟨f0, f1, f2, f3, f4, f5, f6, f7, f8, f9, f10⟩⟩ := Bx.b11 (H1.out.held 1 rfl); obtain ⟨_, ⟨z0, z1, z2, z3, z4, z5, z6, z7, z8, z9, z10⟩⟩ := Bx.b11 (H1.out.held 0 rfl))
    have HF := Lib.hid (H1.out.set11 (.int .i64 qs) (.int .i64 qi) (.int .i64 qg) (.int .i64 qm) (.int .i64 qx) (.int .i64 qy) (.int .i64 qvx) (.int .i64 qvy) (.int .i64 qh) (.int .i64 qp) (.int .i64 ql))
    generalize (((((((((((w1.setCell ⟨w.heap.size + 1, 0, none⟩ (.int .i64 qs)).setCell ⟨w.heap.size + 1, 1, none⟩ (.int .i64 qi)).setCell ⟨w.heap.size + 1, 2, none⟩ (.int .i64 qg)).setCell ⟨w.heap.size + 1, 3, none⟩ (.int .i64 qm)).setCell ⟨w.heap.size + 1, 4, none⟩ (.int .i64 qx)).setCell ⟨w.heap.size + 1, 5, none⟩ (.int .i64 qy)).setCell ⟨w.heap.size + 1, 6, none⟩ (.int .i64 qvx)).setCell ⟨w.heap.size + 1, 7, none⟩ (.int .i64 qvy)).setCell ⟨w.heap.size + 1, 8, none⟩ (.int .i64 qh)).setCell ⟨w.heap.size + 1, 9, none⟩ (.int .i64 qp)).setCell ⟨w.heap.size + 1, 10, none⟩ (.int .i64 ql)) = V at *
    obtain ⟨r0, r1, r2, r3, r4, r5, r6, r7, r8, r9, r10⟩ := (Bx.b11 (HF.out.held 0 rfl)).1
    exact bodyPost_ret (v := .tuple #[.agg #[.int .i64 qs, .int .i64 qi, .int .i64 qg, .int .i64 qm, .int .i64 qx, .int .i64 qy, .int .i64 qvx, .int .i64 qvy, .int .i64 qh, .int .i64 qp, .int .i64 ql], .bool true]) (by simp [results, Tryz.results38, go_sem, r0, r1, r2, r3, r4, r5, r6, r7, r8, r9, r10]) rfl ⟨rfl, HF.out.bel⟩
end Go.Proofs.YtljaahemlcaffaaGreat
