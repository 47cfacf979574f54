/- The code's Hurt, Age. Written by wip/tools/gensy.py. -/
import Derived.Test.YtfmbldjaknjgbaaKSyA
import Derived.Test.YtfmbldjaknjgbaaKSp
import Derived.Test.YtfmbldjaknjgbaaKPc
import Derived.Deep.DeepCutAuto
namespace Go.Proofs.Ytfmbldjaknjgbaa
open Go.RowKit Pz Sp
set_option linter.unusedVariables false
set_option linter.unusedSimpArgs false

set_option maxHeartbeats 4000000 in
set_option maxRecDepth 100000 in
theorem churt_any (qs qi qg qm qx qy qvx qvy qh qp ql : Int) (n : Int) (hh : Fit qh) (hn : Fit n) (w : World) : Calls Try.prog 17 #[.agg #[.int .i64 qs, .int .i64 qi, .int .i64 qg, .int .i64 qm, .int .i64 qx, .int .i64 qy, .int .i64 qvx, .int .i64 qvy, .int .i64 qh, .int .i64 qp, .int .i64 ql], .int .i64 n] w fun e w' => e = .returned (.tuple #[(Sy.hurt ⟨qs, qi, qg, qm, qx, qy, qvx, qvy, qh, qp, ql⟩ n).1.val, .bool (Sy.hurt ⟨qs, qi, qg, qm, qx, qy, qvx, qvy, qh, qp, ql⟩ n).2]) ∧ Below w.heap.size w w' := by
  have BX : Hid (∀ W, Calls Try.prog 35 #[.agg #[.int .i64 qs, .int .i64 qi, .int .i64 qg, .int .i64 qm, .int .i64 qx, .int .i64 qy, .int .i64 qvx, .int .i64 qvy, .int .i64 qh, .int .i64 qp, .int .i64 ql], .int .i64 4] W fun e w' => e = .returned (.bool (bitB qm 2)) ∧ Below W.heap.size W w') := Lib.hid fun W => has_one ⟨qs, qi, qg, qm, qx, qy, qvx, qvy, qh, qp, ql⟩ (j := 2) (by decide) W
  have H0 : Hid (Sep w [box (w.heap.size + 1) (.cells #[.int .i64 0, .int .i64 0, .int .i64 0, .int .i64 0, .int .i64 0, .int .i64 0, .int .i64 0, .int .i64 0, .int .i64 0, .int .i64 0, .int .i64 0] 34), box w.heap.size (.cells #[.int .i64 qs, .int .i64 qi, .int .i64 qg, .int .i64 qm, .int .i64 qx, .int .i64 qy, .int .i64 qvx, .int .i64 qvy, .int .i64 qh, .int .i64 qp, .int .i64 ql] 34)] ((w.alloc (.cells #[.int .i64 qs, .int .i64 qi, .int .i64 qg, .int .i64 qm, .int .i64 qx, .int .i64 qy, .int .i64 qvx, .int .i64 qvy, .int .i64 qh, .int .i64 qp, .int .i64 ql] 34)).alloc (.cells #[.int .i64 0, .int .i64 0, .int .i64 0, .int .i64 0, .int .i64 0, .int .i64 0, .int .i64 0, .int .i64 0, .int .i64 0, .int .i64 0, .int .i64 0] 34))) := Lib.hid (by
    have := sep_box (sep_box (sep_new w) (.cells #[.int .i64 qs, .int .i64 qi, .int .i64 qg, .int .i64 qm, .int .i64 qx, .int .i64 qy, .int .i64 qvx, .int .i64 qvy, .int .i64 qh, .int .i64 qp, .int .i64 ql] 34)) (.cells #[.int .i64 0, .int .i64 0, .int .i64 0, .int .i64 0, .int .i64 0, .int .i64 0, .int .i64 0, .int .i64 0, .int .i64 0, .int .i64 0, .int .i64 0] 34)
    rw [size1] at this
    exact this)
  unfold Sy.hurt
  dsimp only
  generalize hb : bitB qm 2 = bit at *
  clear hb
  by_cases hc : bit = true ∧ 0 < n
  · obtain ⟨rfl, h1⟩ := hc
    have t1 : ¬ n ≤ 0 := by omega
    rw [if_pos ⟨rfl, h1⟩]
    by_cases h2 : qh ≤ n
    · rw [if_pos h2]
      go_enter Try.func17, Try.ntmps17
      go_upto_region 1 with fail
      generalize (w.alloc (.cells #[.int .i64 qs, .int .i64 qi, .int .i64 qg, .int .i64 qm, .int .i64 qx, .int .i64 qy, .int .i64 qvx, .int .i64 qvy, .int .i64 qh, .int .i64 qp, .int .i64 ql] 34)).alloc (.cells #[.int .i64 0, .int .i64 0, .int .i64 0, .int .i64 0, .int .i64 0, .int .i64 0, .int .i64 0, .int .i64 0, .int .i64 0, .int .i64 0, .int .i64 0] 34) = w0 at *
      obtain ⟨⟨k0, k1, k2, k3, k4, k5, k6, k7, k8, k9, k10⟩, ⟨f0, f1, f2, f3, f4, f5, f6, f7, f8, f9, f10⟩⟩ := Bx.b11 (H0.out.held 1 rfl)
      obtain ⟨_, ⟨z0, z1, z2, z3, z4, z5, z6, z7, z8, z9, z10⟩⟩ := Bx.b11 (H0.out.held 0 rfl)
      go_wp2_with (go_at_call 35; with_reducible refine (BX.out _).mono ?_; rintro e w1 ⟨rfl, b1⟩; clear BX k0 k1 k2 k3 k4 k5 k6 k7 k8 k9 k10 f0 f1 f2 f3 f4 f5 f6 f7 f8 f9 f10 z0 z1 z2 z3 z4 z5 z6 z7 z8 z9 z10; have H1 := Lib.hid (H0.out.below b1); clear H0 b1; obtain ⟨⟨k0, k1, k2, k3, k4, k5, k6, k7, k8, k9, k10⟩, ⟨f0, f1, f2, f3, f4, f5, f6, f7, f8, f9, f10⟩⟩ := Bx.b11 (H1.out.held 1 rfl); obtain ⟨_, ⟨z0, z1, z2, z3, z4, z5, z6, z7, z8, z9, z10⟩⟩ := Bx.b11 (H1.out.held 0 rfl))
      have HF := Lib.hid (H1.out.set11 (.int .i64 0) (.int .i64 0) (.int .i64 0) (.int .i64 0) (.int .i64 0) (.int .i64 0) (.int .i64 0) (.int .i64 0) (.int .i64 0) (.int .i64 0) (.int .i64 0))
      generalize (((((((((((w1.setCell ⟨w.heap.size + 1, 0, none⟩ (.int .i64 0)).setCell ⟨w.heap.size + 1, 1, none⟩ (.int .i64 0)).setCell ⟨w.heap.size + 1, 2, none⟩ (.int .i64 0)).setCell ⟨w.heap.size + 1, 3, none⟩ (.int .i64 0)).setCell ⟨w.heap.size + 1, 4, none⟩ (.int .i64 0)).setCell ⟨w.heap.size + 1, 5, none⟩ (.int .i64 0)).setCell ⟨w.heap.size + 1, 6, none⟩ (.int .i64 0)).setCell ⟨w.heap.size + 1, 7, none⟩ (.int .i64 0)).setCell ⟨w.heap.size + 1, 8, none⟩ (.int .i64 0)).setCell ⟨w.heap.size + 1, 9, none⟩ (.int .i64 0)).setCell ⟨w.heap.size + 1, 10, none⟩ (.int .i64 0)) = V at *
      obtain ⟨r0, r1, r2, r3, r4, r5, r6, r7, r8, r9, r10⟩ := (Bx.b11 (HF.out.held 0 rfl)).1
      exact bodyPost_ret (v := .tuple #[.agg #[.int .i64 0, .int .i64 0, .int .i64 0, .int .i64 0, .int .i64 0, .int .i64 0, .int .i64 0, .int .i64 0, .int .i64 0, .int .i64 0, .int .i64 0], .bool false]) (by simp [results, Try.results17, go_sem, r0, r1, r2, r3, r4, r5, r6, r7, r8, r9, r10]) rfl ⟨rfl, HF.out.bel⟩
    · rw [if_neg h2]
      have t3 : IntKind.i64.wrap (qh - n) = qh - n := IntWalk.i64_in _ ⟨by unfold Fit at hh hn; omega, by unfold Fit at hh hn; omega⟩
      go_enter Try.func17, Try.ntmps17
      go_upto_region 1 with fail
      generalize (w.alloc (.cells #[.int .i64 qs, .int .i64 qi, .int .i64 qg, .int .i64 qm, .int .i64 qx, .int .i64 qy, .int .i64 qvx, .int .i64 qvy, .int .i64 qh, .int .i64 qp, .int .i64 ql] 34)).alloc (.cells #[.int .i64 0, .int .i64 0, .int .i64 0, .int .i64 0, .int .i64 0, .int .i64 0, .int .i64 0, .int .i64 0, .int .i64 0, .int .i64 0, .int .i64 0] 34) = w0 at *
      obtain ⟨⟨k0, k1, k2, k3, k4, k5, k6, k7, k8, k9, k10⟩, ⟨f0, f1, f2, f3, f4, f5, f6, f7, f8, f9, f10⟩⟩ := Bx.b11 (H0.out.held 1 rfl)
      obtain ⟨_, ⟨z0, z1, z2, z3, z4, z5, z6, z7, z8, z9, z10⟩⟩ := Bx.b11 (H0.out.held 0 rfl)
      go_upto_region 6 with (go_at_call 35; with_reducible refine (BX.out _).mono ?_; rintro e w1 ⟨rfl, b1⟩; clear BX k0 k1 k2 k3 k4 k5 k6 k7 k8 k9 k10 f0 f1 f2 f3 f4 f5 f6 f7 f8 f9 f10 z0 z1 z2 z3 z4 z5 z6 z7 z8 z9 z10; have H1 := Lib.hid (H0.out.below b1); clear H0 b1; obtain ⟨⟨k0, k1, k2, k3, k4, k5, k6, k7, k8, k9, k10⟩, ⟨f0, f1, f2, f3, f4, f5, f6, f7, f8, f9, f10⟩⟩ := Bx.b11 (H1.out.held 1 rfl); obtain ⟨_, ⟨z0, z1, z2, z3, z4, z5, z6, z7, z8, z9, z10⟩⟩ := Bx.b11 (H1.out.held 0 rfl))
      have H2 : Hid (Sep w [box w.heap.size (.cells #[.int .i64 qs, .int .i64 qi, .int .i64 qg, .int .i64 qm, .int .i64 qx, .int .i64 qy, .int .i64 qvx, .int .i64 qvy, .int .i64 (qh - n), .int .i64 qp, .int .i64 ql] 34), box (w.heap.size + 1) (.cells #[.int .i64 0, .int .i64 0, .int .i64 0, .int .i64 0, .int .i64 0, .int .i64 0, .int .i64 0, .int .i64 0, .int .i64 0, .int .i64 0, .int .i64 0] 34)] (w1.setCell ⟨w.heap.size, 8, none⟩ (.int .i64 (qh - n)))) := Lib.hid (by
        have := (show Sep w [box w.heap.size (.cells #[.int .i64 qs, .int .i64 qi, .int .i64 qg, .int .i64 qm, .int .i64 qx, .int .i64 qy, .int .i64 qvx, .int .i64 qvy, .int .i64 qh, .int .i64 qp, .int .i64 ql] 34), box (w.heap.size + 1) (.cells #[.int .i64 0, .int .i64 0, .int .i64 0, .int .i64 0, .int .i64 0, .int .i64 0, .int .i64 0, .int .i64 0, .int .i64 0, .int .i64 0, .int .i64 0] 34)] w1 from H1.out.pull 1 rfl).cell (o := 8) (.int .i64 (qh - n))
        simpa using this)
      clear k0 k1 k2 k3 k4 k5 k6 k7 k8 k9 k10 f0 f1 f2 f3 f4 f5 f6 f7 f8 f9 f10 z0 z1 z2 z3 z4 z5 z6 z7 z8 z9 z10 H1
      generalize w1.setCell ⟨w.heap.size, 8, none⟩ (.int .i64 (qh - n)) = w2 at *
      obtain ⟨⟨k0, k1, k2, k3, k4, k5, k6, k7, k8, k9, k10⟩, _⟩ := Bx.b11 (H2.out.held 0 rfl)
      obtain ⟨_, ⟨z0, z1, z2, z3, z4, z5, z6, z7, z8, z9, z10⟩⟩ := Bx.b11 (H2.out.held 1 rfl)
      have HF := Lib.hid ((show Sep w [box (w.heap.size + 1) (.cells #[.int .i64 0, .int .i64 0, .int .i64 0, .int .i64 0, .int .i64 0, .int .i64 0, .int .i64 0, .int .i64 0, .int .i64 0, .int .i64 0, .int .i64 0] 34), box w.heap.size (.cells #[.int .i64 qs, .int .i64 qi, .int .i64 qg, .int .i64 qm, .int .i64 qx, .int .i64 qy, .int .i64 qvx, .int .i64 qvy, .int .i64 (qh - n), .int .i64 qp, .int .i64 ql] 34)] w2 from H2.out.pull 1 rfl).set11 (.int .i64 qs) (.int .i64 qi) (.int .i64 qg) (.int .i64 qm) (.int .i64 qx) (.int .i64 qy) (.int .i64 qvx) (.int .i64 qvy) (.int .i64 (qh - n)) (.int .i64 qp) (.int .i64 ql))
      go_wp2
      generalize (((((((((((w2.setCell ⟨w.heap.size + 1, 0, none⟩ (.int .i64 qs)).setCell ⟨w.heap.size + 1, 1, none⟩ (.int .i64 qi)).setCell ⟨w.heap.size + 1, 2, none⟩ (.int .i64 qg)).setCell ⟨w.heap.size + 1, 3, none⟩ (.int .i64 qm)).setCell ⟨w.heap.size + 1, 4, none⟩ (.int .i64 qx)).setCell ⟨w.heap.size + 1, 5, none⟩ (.int .i64 qy)).setCell ⟨w.heap.size + 1, 6, none⟩ (.int .i64 qvx)).setCell ⟨w.heap.size + 1, 7, none⟩ (.int .i64 qvy)).setCell ⟨w.heap.size + 1, 8, none⟩ (.int .i64 (qh - n))).setCell ⟨w.heap.size + 1, 9, none⟩ (.int .i64 qp)).setCell ⟨w.heap.size + 1, 10, none⟩ (.int .i64 ql)) = V at *
      obtain ⟨r0, r1, r2, r3, r4, r5, r6, r7, r8, r9, r10⟩ := (Bx.b11 (HF.out.held 0 rfl)).1
      exact bodyPost_ret (v := .tuple #[.agg #[.int .i64 qs, .int .i64 qi, .int .i64 qg, .int .i64 qm, .int .i64 qx, .int .i64 qy, .int .i64 qvx, .int .i64 qvy, .int .i64 (qh - n), .int .i64 qp, .int .i64 ql], .bool true]) (by simp [results, Try.results17, go_sem, r0, r1, r2, r3, r4, r5, r6, r7, r8, r9, r10]) rfl ⟨rfl, HF.out.bel⟩
  · rw [if_neg hc]
    by_cases hb : bit = true
    · subst hb
      have t1 : n ≤ 0 := by by_cases h : 0 < n; exact absurd ⟨rfl, h⟩ hc; omega
      clear hc
      go_enter Try.func17, Try.ntmps17
      go_upto_region 1 with fail
      generalize (w.alloc (.cells #[.int .i64 qs, .int .i64 qi, .int .i64 qg, .int .i64 qm, .int .i64 qx, .int .i64 qy, .int .i64 qvx, .int .i64 qvy, .int .i64 qh, .int .i64 qp, .int .i64 ql] 34)).alloc (.cells #[.int .i64 0, .int .i64 0, .int .i64 0, .int .i64 0, .int .i64 0, .int .i64 0, .int .i64 0, .int .i64 0, .int .i64 0, .int .i64 0, .int .i64 0] 34) = w0 at *
      obtain ⟨⟨k0, k1, k2, k3, k4, k5, k6, k7, k8, k9, k10⟩, ⟨f0, f1, f2, f3, f4, f5, f6, f7, f8, f9, f10⟩⟩ := Bx.b11 (H0.out.held 1 rfl)
      obtain ⟨_, ⟨z0, z1, z2, z3, z4, z5, z6, z7, z8, z9, z10⟩⟩ := Bx.b11 (H0.out.held 0 rfl)
      go_wp2_with (go_at_call 35; with_reducible refine (BX.out _).mono ?_; rintro e w1 ⟨rfl, b1⟩; clear BX k0 k1 k2 k3 k4 k5 k6 k7 k8 k9 k10 f0 f1 f2 f3 f4 f5 f6 f7 f8 f9 f10 z0 z1 z2 z3 z4 z5 z6 z7 z8 z9 z10; have H1 := Lib.hid (H0.out.below b1); clear H0 b1; obtain ⟨⟨k0, k1, k2, k3, k4, k5, k6, k7, k8, k9, k10⟩, ⟨f0, f1, f2, f3, f4, f5, f6, f7, f8, f9, f10⟩⟩ := Bx.b11 (H1.out.held 1 rfl); obtain ⟨_, ⟨z0, z1, z2, z3, z4, z5, z6, z7, z8, z9, z10⟩⟩ := Bx.b11 (H1.out.held 0 rfl))
      have HF := Lib.hid (H1.out.set11 (.int .i64 qs) (.int .i64 qi) (.int .i64 qg) (.int .i64 qm) (.int .i64 qx) (.int .i64 qy) (.int .i64 qvx) (.int .i64 qvy) (.int .i64 qh) (.int .i64 qp) (.int .i64 ql))
      generalize (((((((((((w1.setCell ⟨w.heap.size + 1, 0, none⟩ (.int .i64 qs)).setCell ⟨w.heap.size + 1, 1, none⟩ (.int .i64 qi)).setCell ⟨w.heap.size + 1, 2, none⟩ (.int .i64 qg)).setCell ⟨w.heap.size + 1, 3, none⟩ (.int .i64 qm)).setCell ⟨w.heap.size + 1, 4, none⟩ (.int .i64 qx)).setCell ⟨w.heap.size + 1, 5, none⟩ (.int .i64 qy)).setCell ⟨w.heap.size + 1, 6, none⟩ (.int .i64 qvx)).setCell ⟨w.heap.size + 1, 7, none⟩ (.int .i64 qvy)).setCell ⟨w.heap.size + 1, 8, none⟩ (.int .i64 qh)).setCell ⟨w.heap.size + 1, 9, none⟩ (.int .i64 qp)).setCell ⟨w.heap.size + 1, 10, none⟩ (.int .i64 ql)) = V at *
      obtain ⟨r0, r1, r2, r3, r4, r5, r6, r7, r8, r9, r10⟩ := (Bx.b11 (HF.out.held 0 rfl)).1
      exact bodyPost_ret (v := .tuple #[.agg #[.int .i64 qs, .int .i64 qi, .int .i64 qg, .int .i64 qm, .int .i64 qx, .int .i64 qy, .int .i64 qvx, .int .i64 qvy, .int .i64 qh, .int .i64 qp, .int .i64 ql], .bool true]) (by simp [results, Try.results17, go_sem, r0, r1, r2, r3, r4, r5, r6, r7, r8, r9, r10]) rfl ⟨rfl, HF.out.bel⟩
    · obtain rfl : bit = false := by simpa using hb
      clear hc hb
      go_enter Try.func17, Try.ntmps17
      go_upto_region 1 with fail
      generalize (w.alloc (.cells #[.int .i64 qs, .int .i64 qi, .int .i64 qg, .int .i64 qm, .int .i64 qx, .int .i64 qy, .int .i64 qvx, .int .i64 qvy, .int .i64 qh, .int .i64 qp, .int .i64 ql] 34)).alloc (.cells #[.int .i64 0, .int .i64 0, .int .i64 0, .int .i64 0, .int .i64 0, .int .i64 0, .int .i64 0, .int .i64 0, .int .i64 0, .int .i64 0, .int .i64 0] 34) = w0 at *
      obtain ⟨⟨k0, k1, k2, k3, k4, k5, k6, k7, k8, k9, k10⟩, ⟨f0, f1, f2, f3, f4, f5, f6, f7, f8, f9, f10⟩⟩ := Bx.b11 (H0.out.held 1 rfl)
      obtain ⟨_, ⟨z0, z1, z2, z3, z4, z5, z6, z7, z8, z9, z10⟩⟩ := Bx.b11 (H0.out.held 0 rfl)
      go_wp2_with (go_at_call 35; with_reducible refine (BX.out _).mono ?_; rintro e w1 ⟨rfl, b1⟩; clear BX k0 k1 k2 k3 k4 k5 k6 k7 k8 k9 k10 f0 f1 f2 f3 f4 f5 f6 f7 f8 f9 f10 z0 z1 z2 z3 z4 z5 z6 z7 z8 z9 z10; have H1 := Lib.hid (H0.out.below b1); clear H0 b1; obtain ⟨⟨k0, k1, k2, k3, k4, k5, k6, k7, k8, k9, k10⟩, ⟨f0, f1, f2, f3, f4, f5, f6, f7, f8, f9, f10⟩⟩ := Bx.b11 (H1.out.held 1 rfl); obtain ⟨_, ⟨z0, z1, z2, z3, z4, z5, z6, z7, z8, z9, z10⟩⟩ := Bx.b11 (H1.out.held 0 rfl))
      have HF := Lib.hid (H1.out.set11 (.int .i64 qs) (.int .i64 qi) (.int .i64 qg) (.int .i64 qm) (.int .i64 qx) (.int .i64 qy) (.int .i64 qvx) (.int .i64 qvy) (.int .i64 qh) (.int .i64 qp) (.int .i64 ql))
      generalize (((((((((((w1.setCell ⟨w.heap.size + 1, 0, none⟩ (.int .i64 qs)).setCell ⟨w.heap.size + 1, 1, none⟩ (.int .i64 qi)).setCell ⟨w.heap.size + 1, 2, none⟩ (.int .i64 qg)).setCell ⟨w.heap.size + 1, 3, none⟩ (.int .i64 qm)).setCell ⟨w.heap.size + 1, 4, none⟩ (.int .i64 qx)).setCell ⟨w.heap.size + 1, 5, none⟩ (.int .i64 qy)).setCell ⟨w.heap.size + 1, 6, none⟩ (.int .i64 qvx)).setCell ⟨w.heap.size + 1, 7, none⟩ (.int .i64 qvy)).setCell ⟨w.heap.size + 1, 8, none⟩ (.int .i64 qh)).setCell ⟨w.heap.size + 1, 9, none⟩ (.int .i64 qp)).setCell ⟨w.heap.size + 1, 10, none⟩ (.int .i64 ql)) = V at *
      obtain ⟨r0, r1, r2, r3, r4, r5, r6, r7, r8, r9, r10⟩ := (Bx.b11 (HF.out.held 0 rfl)).1
      exact bodyPost_ret (v := .tuple #[.agg #[.int .i64 qs, .int .i64 qi, .int .i64 qg, .int .i64 qm, .int .i64 qx, .int .i64 qy, .int .i64 qvx, .int .i64 qvy, .int .i64 qh, .int .i64 qp, .int .i64 ql], .bool true]) (by simp [results, Try.results17, go_sem, r0, r1, r2, r3, r4, r5, r6, r7, r8, r9, r10]) rfl ⟨rfl, HF.out.bel⟩
set_option maxHeartbeats 4000000 in
set_option maxRecDepth 100000 in
theorem cage_any (qs qi qg qm qx qy qvx qvy qh qp ql : Int) (hl : Fit ql) (w : World) : Calls Try.prog 19 #[.agg #[.int .i64 qs, .int .i64 qi, .int .i64 qg, .int .i64 qm, .int .i64 qx, .int .i64 qy, .int .i64 qvx, .int .i64 qvy, .int .i64 qh, .int .i64 qp, .int .i64 ql]] w fun e w' => e = .returned (.tuple #[(Sy.age ⟨qs, qi, qg, qm, qx, qy, qvx, qvy, qh, qp, ql⟩).1.val, .bool (Sy.age ⟨qs, qi, qg, qm, qx, qy, qvx, qvy, qh, qp, ql⟩).2]) ∧ Below w.heap.size w w' := by
  have BX : Hid (∀ W, Calls Try.prog 35 #[.agg #[.int .i64 qs, .int .i64 qi, .int .i64 qg, .int .i64 qm, .int .i64 qx, .int .i64 qy, .int .i64 qvx, .int .i64 qvy, .int .i64 qh, .int .i64 qp, .int .i64 ql], .int .i64 16] W fun e w' => e = .returned (.bool (bitB qm 4)) ∧ Below W.heap.size W w') := Lib.hid fun W => has_one ⟨qs, qi, qg, qm, qx, qy, qvx, qvy, qh, qp, ql⟩ (j := 4) (by decide) W
  have H0 : Hid (Sep w [box (w.heap.size + 1) (.cells #[.int .i64 0, .int .i64 0, .int .i64 0, .int .i64 0, .int .i64 0, .int .i64 0, .int .i64 0, .int .i64 0, .int .i64 0, .int .i64 0, .int .i64 0] 34), box w.heap.size (.cells #[.int .i64 qs, .int .i64 qi, .int .i64 qg, .int .i64 qm, .int .i64 qx, .int .i64 qy, .int .i64 qvx, .int .i64 qvy, .int .i64 qh, .int .i64 qp, .int .i64 ql] 34)] ((w.alloc (.cells #[.int .i64 qs, .int .i64 qi, .int .i64 qg, .int .i64 qm, .int .i64 qx, .int .i64 qy, .int .i64 qvx, .int .i64 qvy, .int .i64 qh, .int .i64 qp, .int .i64 ql] 34)).alloc (.cells #[.int .i64 0, .int .i64 0, .int .i64 0, .int .i64 0, .int .i64 0, .int .i64 0, .int .i64 0, .int .i64 0, .int .i64 0, .int .i64 0, .int .i64 0] 34))) := Lib.hid (by
    have := sep_box (sep_box (sep_new w) (.cells #[.int .i64 qs, .int .i64 qi, .int .i64 qg, .int .i64 qm, .int .i64 qx, .int .i64 qy, .int .i64 qvx, .int .i64 qvy, .int .i64 qh, .int .i64 qp, .int .i64 ql] 34)) (.cells #[.int .i64 0, .int .i64 0, .int .i64 0, .int .i64 0, .int .i64 0, .int .i64 0, .int .i64 0, .int .i64 0, .int .i64 0, .int .i64 0, .int .i64 0] 34)
    rw [size1] at this
    exact this)
  unfold Sy.age
  dsimp only
  generalize hb : bitB qm 4 = bit at *
  clear hb
  cases bit with
  | true =>
    rw [if_pos rfl]
    by_cases h2 : ql < 2
    · rw [if_pos h2]
      have t1 : ql ≤ 1 := by omega
      go_enter Try.func19, Try.ntmps19
      go_upto_region 1 with fail
      generalize (w.alloc (.cells #[.int .i64 qs, .int .i64 qi, .int .i64 qg, .int .i64 qm, .int .i64 qx, .int .i64 qy, .int .i64 qvx, .int .i64 qvy, .int .i64 qh, .int .i64 qp, .int .i64 ql] 34)).alloc (.cells #[.int .i64 0, .int .i64 0, .int .i64 0, .int .i64 0, .int .i64 0, .int .i64 0, .int .i64 0, .int .i64 0, .int .i64 0, .int .i64 0, .int .i64 0] 34) = w0 at *
      obtain ⟨⟨k0, k1, k2, k3, k4, k5, k6, k7, k8, k9, k10⟩, ⟨f0, f1, f2, f3, f4, f5, f6, f7, f8, f9, f10⟩⟩ := Bx.b11 (H0.out.held 1 rfl)
      obtain ⟨_, ⟨z0, z1, z2, z3, z4, z5, z6, z7, z8, z9, z10⟩⟩ := Bx.b11 (H0.out.held 0 rfl)
      go_wp2_with (go_at_call 35; with_reducible refine (BX.out _).mono ?_; rintro e w1 ⟨rfl, b1⟩; clear BX k0 k1 k2 k3 k4 k5 k6 k7 k8 k9 k10 f0 f1 f2 f3 f4 f5 f6 f7 f8 f9 f10 z0 z1 z2 z3 z4 z5 z6 z7 z8 z9 z10; have H1 := Lib.hid (H0.out.below b1); clear H0 b1; obtain ⟨⟨k0, k1, k2, k3, k4, k5, k6, k7, k8, k9, k10⟩, ⟨f0, f1, f2, f3, f4, f5, f6, f7, f8, f9, f10⟩⟩ := Bx.b11 (H1.out.held 1 rfl); obtain ⟨_, ⟨z0, z1, z2, z3, z4, z5, z6, z7, z8, z9, z10⟩⟩ := Bx.b11 (H1.out.held 0 rfl))
      have HF := Lib.hid (H1.out.set11 (.int .i64 0) (.int .i64 0) (.int .i64 0) (.int .i64 0) (.int .i64 0) (.int .i64 0) (.int .i64 0) (.int .i64 0) (.int .i64 0) (.int .i64 0) (.int .i64 0))
      generalize (((((((((((w1.setCell ⟨w.heap.size + 1, 0, none⟩ (.int .i64 0)).setCell ⟨w.heap.size + 1, 1, none⟩ (.int .i64 0)).setCell ⟨w.heap.size + 1, 2, none⟩ (.int .i64 0)).setCell ⟨w.heap.size + 1, 3, none⟩ (.int .i64 0)).setCell ⟨w.heap.size + 1, 4, none⟩ (.int .i64 0)).setCell ⟨w.heap.size + 1, 5, none⟩ (.int .i64 0)).setCell ⟨w.heap.size + 1, 6, none⟩ (.int .i64 0)).setCell ⟨w.heap.size + 1, 7, none⟩ (.int .i64 0)).setCell ⟨w.heap.size + 1, 8, none⟩ (.int .i64 0)).setCell ⟨w.heap.size + 1, 9, none⟩ (.int .i64 0)).setCell ⟨w.heap.size + 1, 10, none⟩ (.int .i64 0)) = V at *
      obtain ⟨r0, r1, r2, r3, r4, r5, r6, r7, r8, r9, r10⟩ := (Bx.b11 (HF.out.held 0 rfl)).1
      exact bodyPost_ret (v := .tuple #[.agg #[.int .i64 0, .int .i64 0, .int .i64 0, .int .i64 0, .int .i64 0, .int .i64 0, .int .i64 0, .int .i64 0, .int .i64 0, .int .i64 0, .int .i64 0], .bool false]) (by simp [results, Try.results19, go_sem, r0, r1, r2, r3, r4, r5, r6, r7, r8, r9, r10]) rfl ⟨rfl, HF.out.bel⟩
    · rw [if_neg h2]
      have t1 : ¬ ql ≤ 1 := by omega
      have t3 : IntKind.i64.wrap (ql - 1) = ql - 1 := IntWalk.i64_in _ ⟨by unfold Fit at hl; omega, by unfold Fit at hl; omega⟩
      go_enter Try.func19, Try.ntmps19
      go_upto_region 1 with fail
      generalize (w.alloc (.cells #[.int .i64 qs, .int .i64 qi, .int .i64 qg, .int .i64 qm, .int .i64 qx, .int .i64 qy, .int .i64 qvx, .int .i64 qvy, .int .i64 qh, .int .i64 qp, .int .i64 ql] 34)).alloc (.cells #[.int .i64 0, .int .i64 0, .int .i64 0, .int .i64 0, .int .i64 0, .int .i64 0, .int .i64 0, .int .i64 0, .int .i64 0, .int .i64 0, .int .i64 0] 34) = w0 at *
      obtain ⟨⟨k0, k1, k2, k3, k4, k5, k6, k7, k8, k9, k10⟩, ⟨f0, f1, f2, f3, f4, f5, f6, f7, f8, f9, f10⟩⟩ := Bx.b11 (H0.out.held 1 rfl)
      obtain ⟨_, ⟨z0, z1, z2, z3, z4, z5, z6, z7, z8, z9, z10⟩⟩ := Bx.b11 (H0.out.held 0 rfl)
      go_upto_region 6 with (go_at_call 35; with_reducible refine (BX.out _).mono ?_; rintro e w1 ⟨rfl, b1⟩; clear BX k0 k1 k2 k3 k4 k5 k6 k7 k8 k9 k10 f0 f1 f2 f3 f4 f5 f6 f7 f8 f9 f10 z0 z1 z2 z3 z4 z5 z6 z7 z8 z9 z10; have H1 := Lib.hid (H0.out.below b1); clear H0 b1; obtain ⟨⟨k0, k1, k2, k3, k4, k5, k6, k7, k8, k9, k10⟩, ⟨f0, f1, f2, f3, f4, f5, f6, f7, f8, f9, f10⟩⟩ := Bx.b11 (H1.out.held 1 rfl); obtain ⟨_, ⟨z0, z1, z2, z3, z4, z5, z6, z7, z8, z9, z10⟩⟩ := Bx.b11 (H1.out.held 0 rfl))
      have H2 : Hid (Sep w [box w.heap.size (.cells #[.int .i64 qs, .int .i64 qi, .int .i64 qg, .int .i64 qm, .int .i64 qx, .int .i64 qy, .int .i64 qvx, .int .i64 qvy, .int .i64 qh, .int .i64 qp, .int .i64 (ql - 1)] 34), box (w.heap.size + 1) (.cells #[.int .i64 0, .int .i64 0, .int .i64 0, .int .i64 0, .int .i64 0, .int .i64 0, .int .i64 0, .int .i64 0, .int .i64 0, .int .i64 0, .int .i64 0] 34)] (w1.setCell ⟨w.heap.size, 10, none⟩ (.int .i64 (ql - 1)))) := Lib.hid (by
        have := (show Sep w [box w.heap.size (.cells #[.int .i64 qs, .int .i64 qi, .int .i64 qg, .int .i64 qm, .int .i64 qx, .int .i64 qy, .int .i64 qvx, .int .i64 qvy, .int .i64 qh, .int .i64 qp, .int .i64 ql] 34), box (w.heap.size + 1) (.cells #[.int .i64 0, .int .i64 0, .int .i64 0, .int .i64 0, .int .i64 0, .int .i64 0, .int .i64 0, .int .i64 0, .int .i64 0, .int .i64 0, .int .i64 0] 34)] w1 from H1.out.pull 1 rfl).cell (o := 10) (.int .i64 (ql - 1))
        simpa using this)
      clear k0 k1 k2 k3 k4 k5 k6 k7 k8 k9 k10 f0 f1 f2 f3 f4 f5 f6 f7 f8 f9 f10 z0 z1 z2 z3 z4 z5 z6 z7 z8 z9 z10 H1
      generalize w1.setCell ⟨w.heap.size, 10, none⟩ (.int .i64 (ql - 1)) = w2 at *
      obtain ⟨⟨k0, k1, k2, k3, k4, k5, k6, k7, k8, k9, k10⟩, _⟩ := Bx.b11 (H2.out.held 0 rfl)
      obtain ⟨_, ⟨z0, z1, z2, z3, z4, z5, z6, z7, z8, z9, z10⟩⟩ := Bx.b11 (H2.out.held 1 rfl)
      have HF := Lib.hid ((show Sep w [box (w.heap.size + 1) (.cells #[.int .i64 0, .int .i64 0, .int .i64 0, .int .i64 0, .int .i64 0, .int .i64 0, .int .i64 0, .int .i64 0, .int .i64 0, .int .i64 0, .int .i64 0] 34), box w.heap.size (.cells #[.int .i64 qs, .int .i64 qi, .int .i64 qg, .int .i64 qm, .int .i64 qx, .int .i64 qy, .int .i64 qvx, .int .i64 qvy, .int .i64 qh, .int .i64 qp, .int .i64 (ql - 1)] 34)] w2 from H2.out.pull 1 rfl).set11 (.int .i64 qs) (.int .i64 qi) (.int .i64 qg) (.int .i64 qm) (.int .i64 qx) (.int .i64 qy) (.int .i64 qvx) (.int .i64 qvy) (.int .i64 qh) (.int .i64 qp) (.int .i64 (ql - 1)))
      go_wp2
      generalize (((((((((((w2.setCell ⟨w.heap.size + 1, 0, none⟩ (.int .i64 qs)).setCell ⟨w.heap.size + 1, 1, none⟩ (.int .i64 qi)).setCell ⟨w.heap.size + 1, 2, none⟩ (.int .i64 qg)).setCell ⟨w.heap.size + 1, 3, none⟩ (.int .i64 qm)).setCell ⟨w.heap.size + 1, 4, none⟩ (.int .i64 qx)).setCell ⟨w.heap.size + 1, 5, none⟩ (.int .i64 qy)).setCell ⟨w.heap.size + 1, 6, none⟩ (.int .i64 qvx)).setCell ⟨w.heap.size + 1, 7, none⟩ (.int .i64 qvy)).setCell ⟨w.heap.size + 1, 8, none⟩ (.int .i64 qh)).setCell ⟨w.heap.size + 1, 9, none⟩ (.int .i64 qp)).setCell ⟨w.heap.size + 1, 10, none⟩ (.int .i64 (ql - 1))) = V at *
      obtain ⟨r0, r1, r2, r3, r4, r5, r6, r7, r8, r9, r10⟩ := (Bx.b11 (HF.out.held 0 rfl)).1
      exact bodyPost_ret (v := .tuple #[.agg #[.int .i64 qs, .int .i64 qi, .int .i64 qg, .int .i64 qm, .int .i64 qx, .int .i64 qy, .int .i64 qvx, .int .i64 qvy, .int .i64 qh, .int .i64 qp, .int .i64 (ql - 1)], .bool true]) (by simp [results, Try.results19, go_sem, r0, r1, r2, r3, r4, r5, r6, r7, r8, r9, r10]) rfl ⟨rfl, HF.out.bel⟩
  | false =>
    rw [if_neg (by decide)]
    go_enter Try.func19, Try.ntmps19
    go_upto_region 1 with fail
    generalize (w.alloc (.cells #[.int .i64 qs, .int .i64 qi, .int .i64 qg, .int .i64 qm, .int .i64 qx, .int .i64 qy, .int .i64 qvx, .int .i64 qvy, .int .i64 qh, .int .i64 qp, .int .i64 ql] 34)).alloc (.cells #[.int .i64 0, .int .i64 0, .int .i64 0, .int .i64 0, .int .i64 0, .int .i64 0, .int .i64 0, .int .i64 0, .int .i64 0, .int .i64 0, .int .i64 0] 34) = w0 at *
    obtain ⟨⟨k0, k1, k2, k3, k4, k5, k6, k7, k8, k9, k10⟩, ⟨f0, f1, f2, f3, f4, f5, f6, f7, f8, f9, f10⟩⟩ := Bx.b11 (H0.out.held 1 rfl)
    obtain ⟨_, ⟨z0, z1, z2, z3, z4, z5, z6, z7, z8, z9, z10⟩⟩ := Bx.b11 (H0.out.held 0 rfl)
    go_wp2_with (go_at_call 35; with_reducible refine (BX.out _).mono ?_; rintro e w1 ⟨rfl, b1⟩; clear BX k0 k1 k2 k3 k4 k5 k6 k7 k8 k9 k10 f0 f1 f2 f3 f4 f5 f6 f7 f8 f9 f10 z0 z1 z2 z3 z4 z5 z6 z7 z8 z9 z10; have H1 := Lib.hid (H0.out.below b1); clear H0 b1; obtain ⟨⟨k0, k1, k2, k3, k4, k5, k6, k7, k8, k9, k10⟩, ⟨f0, f1, f2, f3, f4, f5, f6, f7, f8, f9, f10⟩⟩ := Bx.b11 (H1.out.held 1 rfl); obtain ⟨_, ⟨z0, z1, z2, z3, z4, z5, z6, z7, z8, z9, z10⟩⟩ := Bx.b11 (H1.out.held 0 rfl))
    have HF := Lib.hid (H1.out.set11 (.int .i64 qs) (.int .i64 qi) (.int .i64 qg) (.int .i64 qm) (.int .i64 qx) (.int .i64 qy) (.int .i64 qvx) (.int .i64 qvy) (.int .i64 qh) (.int .i64 qp) (.int .i64 ql))
    generalize (((((((((((w1.setCell ⟨w.heap.size + 1, 0, none⟩ (.int .i64 qs)).setCell ⟨w.heap.size + 1, 1, none⟩ (.int .i64 qi)).setCell ⟨w.heap.size + 1, 2, none⟩ (.int .i64 qg)).setCell ⟨w.heap.size + 1, 3, none⟩ (.int .i64 qm)).setCell ⟨w.heap.size + 1, 4, none⟩ (.int .i64 qx)).setCell ⟨w.heap.size + 1, 5, none⟩ (.int .i64 qy)).setCell ⟨w.heap.size + 1, 6, none⟩ (.int .i64 qvx)).setCell ⟨w.heap.size + 1, 7, none⟩ (.int .i64 qvy)).setCell ⟨w.heap.size + 1, 8, none⟩ (.int .i64 qh)).setCell ⟨w.heap.size + 1, 9, none⟩ (.int .i64 qp)).setCell ⟨w.heap.size + 1, 10, none⟩ (.int .i64 ql)) = V at *
    obtain ⟨r0, r1, r2, r3, r4, r5, r6, r7, r8, r9, r10⟩ := (Bx.b11 (HF.out.held 0 rfl)).1
    exact bodyPost_ret (v := .tuple #[.agg #[.int .i64 qs, .int .i64 qi, .int .i64 qg, .int .i64 qm, .int .i64 qx, .int .i64 qy, .int .i64 qvx, .int .i64 qvy, .int .i64 qh, .int .i64 qp, .int .i64 ql], .bool true]) (by simp [results, Try.results19, go_sem, r0, r1, r2, r3, r4, r5, r6, r7, r8, r9, r10]) rfl ⟨rfl, HF.out.bel⟩
end Go.Proofs.Ytfmbldjaknjgbaa
