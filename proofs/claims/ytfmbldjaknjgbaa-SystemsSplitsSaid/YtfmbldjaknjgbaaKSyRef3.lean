/- The document's Move. Written by wip/tools/gensy.py. -/
import Derived.Test.YtfmbldjaknjgbaaKSyRef2
import Derived.Test.YtfmbldjaknjgbaaKZn
import Derived.Test.YtfmbldjaknjgbaaKRc
namespace Go.Proofs.Ytfmbldjaknjgbaa
open Go.RowKit Pz Sp
set_option linter.unusedVariables false
set_option linter.unusedSimpArgs false

set_option maxHeartbeats 4000000 in
set_option maxRecDepth 100000 in
theorem rmove_any (cC cR cS cD cV cN cQ : Int) (ok : Zn.Ok cC cR cS cD cV) (qs qi qg qm qx qy qvx qvy qh qp ql : Int) (hm : Fit qm) (hvx : Fit qvx) (hvy : Fit qvy) (w : World) : Calls Try.prog 26 #[.agg #[.int .i64 cC, .int .i64 cR, .int .i64 cS, .int .i64 cD, .int .i64 cV, .int .i64 cN, .int .i64 cQ], .agg #[.int .i64 qs, .int .i64 qi, .int .i64 qg, .int .i64 qm, .int .i64 qx, .int .i64 qy, .int .i64 qvx, .int .i64 qvy, .int .i64 qh, .int .i64 qp, .int .i64 ql]] w fun e w' => e = .returned (Sy.move cC cR cS cV ⟨qs, qi, qg, qm, qx, qy, qvx, qvy, qh, qp, ql⟩).val ∧ Below w.heap.size w w' := by
  have BX : Hid (∀ W, Calls Try.prog 38 #[.int .i64 qm, .int .i64 2] W fun e w' => e = .returned (.bool (bitB qm 1)) ∧ W = w') := Lib.hid fun W => bit_any qm hm 1 (by decide) W
  have H0 : Hid (Sep w [box (w.heap.size + 2) (.cells #[.int .i64 0, .int .i64 0, .int .i64 0, .int .i64 0, .int .i64 0, .int .i64 0, .int .i64 0, .int .i64 0, .int .i64 0, .int .i64 0, .int .i64 0] 34), box (w.heap.size + 1) (.cells #[.int .i64 qs, .int .i64 qi, .int .i64 qg, .int .i64 qm, .int .i64 qx, .int .i64 qy, .int .i64 qvx, .int .i64 qvy, .int .i64 qh, .int .i64 qp, .int .i64 ql] 34), box w.heap.size (.cells #[.int .i64 cC, .int .i64 cR, .int .i64 cS, .int .i64 cD, .int .i64 cV, .int .i64 cN, .int .i64 cQ] 44)] (((w.alloc (.cells #[.int .i64 cC, .int .i64 cR, .int .i64 cS, .int .i64 cD, .int .i64 cV, .int .i64 cN, .int .i64 cQ] 44)).alloc (.cells #[.int .i64 qs, .int .i64 qi, .int .i64 qg, .int .i64 qm, .int .i64 qx, .int .i64 qy, .int .i64 qvx, .int .i64 qvy, .int .i64 qh, .int .i64 qp, .int .i64 ql] 34)).alloc (.cells #[.int .i64 0, .int .i64 0, .int .i64 0, .int .i64 0, .int .i64 0, .int .i64 0, .int .i64 0, .int .i64 0, .int .i64 0, .int .i64 0, .int .i64 0] 34))) := Lib.hid (by
    have := sep_box (sep_box (sep_box (sep_new w) (.cells #[.int .i64 cC, .int .i64 cR, .int .i64 cS, .int .i64 cD, .int .i64 cV, .int .i64 cN, .int .i64 cQ] 44)) (.cells #[.int .i64 qs, .int .i64 qi, .int .i64 qg, .int .i64 qm, .int .i64 qx, .int .i64 qy, .int .i64 qvx, .int .i64 qvy, .int .i64 qh, .int .i64 qp, .int .i64 ql] 34)) (.cells #[.int .i64 0, .int .i64 0, .int .i64 0, .int .i64 0, .int .i64 0, .int .i64 0, .int .i64 0, .int .i64 0, .int .i64 0, .int .i64 0, .int .i64 0] 34)
    rw [size2, size1] at this
    exact this)
  have C0 := Lib.hid fun n W => rclamp_all n W
  have hV : 0 ≤ cV ∧ cV ≤ 1073741824 := ⟨ok.v0, by have := ok.v1; have := ok.s1; omega⟩
  have N0 : Hid (∀ v, Fit v → ∀ W, Calls Try.prog 50 #[.int .i64 v, .int .i64 cV] W fun e w' => e = .returned (.int .i64 (Sy.near v cV)) ∧ W = w') := Lib.hid fun v hv W => rnear14_any v cV hv hV W
  have nb : ∀ v, -1073741824 ≤ Sy.near v cV ∧ Sy.near v cV ≤ 1073741824 := fun v => by unfold Sy.near; split <;> (try split) <;> omega
  have IN : Hid (∀ x y W, Calls Try.prog 51 #[.agg #[.int .i64 cC, .int .i64 cR, .int .i64 cS, .int .i64 cD, .int .i64 cV, .int .i64 cN, .int .i64 cQ], .int .i64 x, .int .i64 y] W fun e w' => e = .returned (.tuple #[.int .i64 (Zn.into x (cC * cS)), .int .i64 (Zn.into y (cR * cS))]) ∧ Below W.heap.size W w') := Lib.hid fun x y W => rin_any cC cR cS cD cV cN cQ x y W ok
  -- what follows of both ways: from region 4 on
  obtain ⟨X, hX⟩ : ∃ X, X = (Sy.push cV ⟨qs, qi, qg, qm, qx, qy, qvx, qvy, qh, qp, ql⟩).x := ⟨_, rfl⟩
  obtain ⟨Y, hY⟩ : ∃ Y, Y = (Sy.push cV ⟨qs, qi, qg, qm, qx, qy, qvx, qvy, qh, qp, ql⟩).y := ⟨_, rfl⟩
  have EV : Sy.move cC cR cS cV ⟨qs, qi, qg, qm, qx, qy, qvx, qvy, qh, qp, ql⟩ = ⟨qs, qi, qg, qm, Zn.into X (cC * cS), Zn.into Y (cR * cS), qvx, qvy, qh, qp, ql⟩ := by
    rw [hX, hY]
    unfold Sy.move Sy.push
    split <;> rfl
  rw [EV]
  clear EV
  have hXb : bitB qm 1 = true → X = Rc.clamp (Rc.clamp qx + Sy.near qvx cV) ∧ Y = Rc.clamp (Rc.clamp qy + Sy.near qvy cV) := fun h => by
    rw [hX, hY]
    unfold Sy.push
    rw [if_pos h]
    exact ⟨rfl, rfl⟩
  have hXn : bitB qm 1 = false → X = qx ∧ Y = qy := fun h => by
    rw [hX, hY]
    unfold Sy.push
    rw [if_neg (by rw [h]; decide)]
    exact ⟨rfl, rfl⟩
  clear hX hY
  generalize bitB qm 1 = bit at *
  cases bit with
  | false =>
    obtain ⟨hx, hy⟩ := hXn rfl
    rw [hx, hy]
    clear hXb hXn C0 N0 nb hx hy X Y
    go_enter Try.func26, Try.ntmps26
    go_upto_region 1 with fail
    generalize ((w.alloc (.cells #[.int .i64 cC, .int .i64 cR, .int .i64 cS, .int .i64 cD, .int .i64 cV, .int .i64 cN, .int .i64 cQ] 44)).alloc (.cells #[.int .i64 qs, .int .i64 qi, .int .i64 qg, .int .i64 qm, .int .i64 qx, .int .i64 qy, .int .i64 qvx, .int .i64 qvy, .int .i64 qh, .int .i64 qp, .int .i64 ql] 34)).alloc (.cells #[.int .i64 0, .int .i64 0, .int .i64 0, .int .i64 0, .int .i64 0, .int .i64 0, .int .i64 0, .int .i64 0, .int .i64 0, .int .i64 0, .int .i64 0] 34) = w0 at *
    obtain ⟨⟨g0, g1, g2, g3, g4, g5, g6⟩, _⟩ := box7 (H0.out.held 2 rfl)
    obtain ⟨⟨k0, k1, k2, k3, k4, k5, k6, k7, k8, k9, k10⟩, ⟨f0, f1, f2, f3, f4, f5, f6, f7, f8, f9, f10⟩⟩ := Bx.b11 (H0.out.held 1 rfl)
    obtain ⟨_, ⟨z0, z1, z2, z3, z4, z5, z6, z7, z8, z9, z10⟩⟩ := Bx.b11 (H0.out.held 0 rfl)
    have HH := Lib.hid (show Sep w [box (w.heap.size + 1) (.cells #[.int .i64 qs, .int .i64 qi, .int .i64 qg, .int .i64 qm, .int .i64 qx, .int .i64 qy, .int .i64 qvx, .int .i64 qvy, .int .i64 qh, .int .i64 qp, .int .i64 ql] 34), box w.heap.size (.cells #[.int .i64 cC, .int .i64 cR, .int .i64 cS, .int .i64 cD, .int .i64 cV, .int .i64 cN, .int .i64 cQ] 44), box (w.heap.size + 2) (.cells #[.int .i64 0, .int .i64 0, .int .i64 0, .int .i64 0, .int .i64 0, .int .i64 0, .int .i64 0, .int .i64 0, .int .i64 0, .int .i64 0, .int .i64 0] 34)] w0 from (H0.out.pull 2 rfl).pull 2 rfl)
    go_upto_region 4 with (go_at_call 38; refine (BX.out _).mono ?_; rintro e w1 ⟨rfl, rfl⟩; clear BX)
    clear H0
    have IX := Lib.hid (IN.out qx qy w0)
    go_upto_region 5 with (go_at_call 51; refine IX.out.mono ?_; rintro e w9 ⟨rfl, b9⟩; clear IX g0 g1 g2 g3 g4 g5 g6 k0 k1 k2 k3 k4 k5 k6 k7 k8 k9 k10 f0 f1 f2 f3 f4 f5 f6 f7 f8 f9 f10 z0 z1 z2 z3 z4 z5 z6 z7 z8 z9 z10; have H9 := Lib.hid (HH.out.below b9); clear b9)
    obtain ⟨⟨k0, k1, k2, k3, k4, k5, k6, k7, k8, k9, k10⟩, ⟨f0, f1, f2, f3, f4, f5, f6, f7, f8, f9, f10⟩⟩ := Bx.b11 (H9.out.held 0 rfl)
    have HA := Lib.hid (H9.out.cell (o := 4) (.int .i64 (Zn.into qx (cC * cS))))
    go_upto_region 6 with fail
    clear k0 k1 k2 k3 k4 k5 k6 k7 k8 k9 k10 f0 f1 f2 f3 f4 f5 f6 f7 f8 f9 f10 H9
    generalize w9.setCell ⟨w.heap.size + 1, 4, none⟩ (.int .i64 (Zn.into qx (cC * cS))) = w10 at *
    simp only [List.setIfInBounds_toArray, List.set_cons_succ, List.set_cons_zero] at HA
    obtain ⟨⟨k0, k1, k2, k3, k4, k5, k6, k7, k8, k9, k10⟩, ⟨f0, f1, f2, f3, f4, f5, f6, f7, f8, f9, f10⟩⟩ := Bx.b11 (HA.out.held 0 rfl)
    have HB := Lib.hid (HA.out.cell (o := 5) (.int .i64 (Zn.into qy (cR * cS))))
    go_upto_region 7 with fail
    clear k0 k1 k2 k3 k4 k5 k6 k7 k8 k9 k10 f0 f1 f2 f3 f4 f5 f6 f7 f8 f9 f10 HA
    generalize w10.setCell ⟨w.heap.size + 1, 5, none⟩ (.int .i64 (Zn.into qy (cR * cS))) = w11 at *
    simp only [List.setIfInBounds_toArray, List.set_cons_succ, List.set_cons_zero] at HB
    obtain ⟨⟨k0, k1, k2, k3, k4, k5, k6, k7, k8, k9, k10⟩, ⟨f0, f1, f2, f3, f4, f5, f6, f7, f8, f9, f10⟩⟩ := Bx.b11 (HB.out.held 0 rfl)
    obtain ⟨_, ⟨z0, z1, z2, z3, z4, z5, z6, z7, z8, z9, z10⟩⟩ := Bx.b11 (HB.out.held 2 rfl)
    have HF : Hid (Sep w [box (w.heap.size + 2) (.cells #[.int .i64 qs, .int .i64 qi, .int .i64 qg, .int .i64 qm, .int .i64 (Zn.into qx (cC * cS)), .int .i64 (Zn.into qy (cR * cS)), .int .i64 qvx, .int .i64 qvy, .int .i64 qh, .int .i64 qp, .int .i64 ql] 34), box (w.heap.size + 1) (.cells #[.int .i64 qs, .int .i64 qi, .int .i64 qg, .int .i64 qm, .int .i64 (Zn.into qx (cC * cS)), .int .i64 (Zn.into qy (cR * cS)), .int .i64 qvx, .int .i64 qvy, .int .i64 qh, .int .i64 qp, .int .i64 ql] 34), box w.heap.size (.cells #[.int .i64 cC, .int .i64 cR, .int .i64 cS, .int .i64 cD, .int .i64 cV, .int .i64 cN, .int .i64 cQ] 44)] (((((((((((w11.setCell ⟨w.heap.size + 2, 0, none⟩ (.int .i64 qs)).setCell ⟨w.heap.size + 2, 1, none⟩ (.int .i64 qi)).setCell ⟨w.heap.size + 2, 2, none⟩ (.int .i64 qg)).setCell ⟨w.heap.size + 2, 3, none⟩ (.int .i64 qm)).setCell ⟨w.heap.size + 2, 4, none⟩ (.int .i64 (Zn.into qx (cC * cS)))).setCell ⟨w.heap.size + 2, 5, none⟩ (.int .i64 (Zn.into qy (cR * cS)))).setCell ⟨w.heap.size + 2, 6, none⟩ (.int .i64 qvx)).setCell ⟨w.heap.size + 2, 7, none⟩ (.int .i64 qvy)).setCell ⟨w.heap.size + 2, 8, none⟩ (.int .i64 qh)).setCell ⟨w.heap.size + 2, 9, none⟩ (.int .i64 qp)).setCell ⟨w.heap.size + 2, 10, none⟩ (.int .i64 ql))) := Lib.hid ((show Sep w [box (w.heap.size + 2) (.cells #[.int .i64 0, .int .i64 0, .int .i64 0, .int .i64 0, .int .i64 0, .int .i64 0, .int .i64 0, .int .i64 0, .int .i64 0, .int .i64 0, .int .i64 0] 34), box (w.heap.size + 1) (.cells #[.int .i64 qs, .int .i64 qi, .int .i64 qg, .int .i64 qm, .int .i64 (Zn.into qx (cC * cS)), .int .i64 (Zn.into qy (cR * cS)), .int .i64 qvx, .int .i64 qvy, .int .i64 qh, .int .i64 qp, .int .i64 ql] 34), box w.heap.size (.cells #[.int .i64 cC, .int .i64 cR, .int .i64 cS, .int .i64 cD, .int .i64 cV, .int .i64 cN, .int .i64 cQ] 44)] w11 from HB.out.pull 2 rfl).set11 (.int .i64 qs) (.int .i64 qi) (.int .i64 qg) (.int .i64 qm) (.int .i64 (Zn.into qx (cC * cS))) (.int .i64 (Zn.into qy (cR * cS))) (.int .i64 qvx) (.int .i64 qvy) (.int .i64 qh) (.int .i64 qp) (.int .i64 ql))
    go_wp2
    generalize (((((((((((w11.setCell ⟨w.heap.size + 2, 0, none⟩ (.int .i64 qs)).setCell ⟨w.heap.size + 2, 1, none⟩ (.int .i64 qi)).setCell ⟨w.heap.size + 2, 2, none⟩ (.int .i64 qg)).setCell ⟨w.heap.size + 2, 3, none⟩ (.int .i64 qm)).setCell ⟨w.heap.size + 2, 4, none⟩ (.int .i64 (Zn.into qx (cC * cS)))).setCell ⟨w.heap.size + 2, 5, none⟩ (.int .i64 (Zn.into qy (cR * cS)))).setCell ⟨w.heap.size + 2, 6, none⟩ (.int .i64 qvx)).setCell ⟨w.heap.size + 2, 7, none⟩ (.int .i64 qvy)).setCell ⟨w.heap.size + 2, 8, none⟩ (.int .i64 qh)).setCell ⟨w.heap.size + 2, 9, none⟩ (.int .i64 qp)).setCell ⟨w.heap.size + 2, 10, none⟩ (.int .i64 ql)) = V at *
    obtain ⟨r0, r1, r2, r3, r4, r5, r6, r7, r8, r9, r10⟩ := (Bx.b11 (HF.out.held 0 rfl)).1
    exact bodyPost_ret (v := .agg #[.int .i64 qs, .int .i64 qi, .int .i64 qg, .int .i64 qm, .int .i64 (Zn.into qx (cC * cS)), .int .i64 (Zn.into qy (cR * cS)), .int .i64 qvx, .int .i64 qvy, .int .i64 qh, .int .i64 qp, .int .i64 ql]) (by simp [results, Try.results26, go_sem, r0, r1, r2, r3, r4, r5, r6, r7, r8, r9, r10]) rfl ⟨rfl, HF.out.bel⟩
  | true =>
    obtain ⟨hx, hy⟩ := hXb rfl
    clear hXn hXb
    have C1 := Lib.hid (C0.out qx)
    have C2 := Lib.hid (C0.out qy)
    have M1 := Lib.hid (N0.out qvx hvx)
    have M2 := Lib.hid (N0.out qvy hvy)
    have b1 := nb qvx
    have b2 := nb qvy
    have b3 := Sy.clamp_bd qx
    have b4 := Sy.clamp_bd qy
    clear nb
    generalize Sy.near qvx cV = nx at *
    generalize Sy.near qvy cV = ny at *
    generalize Rc.clamp qx = kx at *
    generalize Rc.clamp qy = ky at *
    have S1 := Lib.hid (C0.out (kx + nx))
    have S2 := Lib.hid (C0.out (ky + ny))
    rw [← hx] at S1
    rw [← hy] at S2
    clear hx hy C0 N0
    have u1 : IntKind.i64.wrap (kx + nx) = kx + nx := IntWalk.i64_in _ ⟨by omega, by omega⟩
    have u2 : IntKind.i64.wrap (ky + ny) = ky + ny := IntWalk.i64_in _ ⟨by omega, by omega⟩
    go_enter Try.func26, Try.ntmps26
    go_upto_region 1 with fail
    generalize ((w.alloc (.cells #[.int .i64 cC, .int .i64 cR, .int .i64 cS, .int .i64 cD, .int .i64 cV, .int .i64 cN, .int .i64 cQ] 44)).alloc (.cells #[.int .i64 qs, .int .i64 qi, .int .i64 qg, .int .i64 qm, .int .i64 qx, .int .i64 qy, .int .i64 qvx, .int .i64 qvy, .int .i64 qh, .int .i64 qp, .int .i64 ql] 34)).alloc (.cells #[.int .i64 0, .int .i64 0, .int .i64 0, .int .i64 0, .int .i64 0, .int .i64 0, .int .i64 0, .int .i64 0, .int .i64 0, .int .i64 0, .int .i64 0] 34) = w0 at *
    obtain ⟨⟨g0, g1, g2, g3, g4, g5, g6⟩, _⟩ := box7 (H0.out.held 2 rfl)
    obtain ⟨⟨k0, k1, k2, k3, k4, k5, k6, k7, k8, k9, k10⟩, ⟨f0, f1, f2, f3, f4, f5, f6, f7, f8, f9, f10⟩⟩ := Bx.b11 (H0.out.held 1 rfl)
    obtain ⟨_, ⟨z0, z1, z2, z3, z4, z5, z6, z7, z8, z9, z10⟩⟩ := Bx.b11 (H0.out.held 0 rfl)
    have HH := Lib.hid (show Sep w [box (w.heap.size + 1) (.cells #[.int .i64 qs, .int .i64 qi, .int .i64 qg, .int .i64 qm, .int .i64 qx, .int .i64 qy, .int .i64 qvx, .int .i64 qvy, .int .i64 qh, .int .i64 qp, .int .i64 ql] 34), box w.heap.size (.cells #[.int .i64 cC, .int .i64 cR, .int .i64 cS, .int .i64 cD, .int .i64 cV, .int .i64 cN, .int .i64 cQ] 44), box (w.heap.size + 2) (.cells #[.int .i64 0, .int .i64 0, .int .i64 0, .int .i64 0, .int .i64 0, .int .i64 0, .int .i64 0, .int .i64 0, .int .i64 0, .int .i64 0, .int .i64 0] 34)] w0 from (H0.out.pull 2 rfl).pull 2 rfl)
    have z0 : w.heap.size < w0.heap.size := Bx.lt (H0.out.held 2 rfl)
    have z1 : w.heap.size + 1 < w0.heap.size := Bx.lt (H0.out.held 1 rfl)
    go_upto_region 2 with (go_at_call 38; refine (BX.out _).mono ?_; rintro e w1 ⟨rfl, rfl⟩; clear BX)
    clear H0
    refine Og.grow 11 (by kernel_rfl) (by kernel_rfl) fun hc hf => ?_
    simp only [List.take_succ_cons, List.take_zero, List.drop_succ_cons, List.drop_zero]
    iterate 11 (refine Og.det [] rfl (fun J hJ => ?_); go_simp; first | (refine hJ _ _ ?_; clear hJ J) | (with_reducible refine ⟨_, fun p => Og.same (C1.out p.W), hJ _ _ ?_⟩; clear hJ J) | (with_reducible refine ⟨_, fun p => Og.same (M1.out p.W), hJ _ _ ?_⟩; clear hJ J) | (with_reducible refine ⟨_, fun p => Og.same (S1.out p.W), hJ _ _ ?_⟩; clear hJ J))
    clear hc hf
    refine Og.fin fun W hW => ?_
    simp only [Og.opened_nil]
    have HW := HH.out.below hW
    clear g0 g1 g2 g3 g4 g5 g6 k0 k1 k2 k3 k4 k5 k6 k7 k8 k9 k10 f0 f1 f2 f3 f4 f5 f6 f7 f8 f9 f10 z0 z1 z2 z3 z4 z5 z6 z7 z8 z9 z10 hW HH
    obtain ⟨⟨k0, k1, k2, k3, k4, k5, k6, k7, k8, k9, k10⟩, ⟨f0, f1, f2, f3, f4, f5, f6, f7, f8, f9, f10⟩⟩ := Bx.b11 (HW.held 0 rfl)
    have H3 := Lib.hid (HW.cell (o := 4) (.int .i64 X))
    clear HW
    go_upto_region 3 with fail
    clear k0 k1 k2 k3 k4 k5 k6 k7 k8 k9 k10 f0 f1 f2 f3 f4 f5 f6 f7 f8 f9 f10
    generalize W.setCell ⟨w.heap.size + 1, 4, none⟩ (.int .i64 X) = w3 at *
    simp only [List.setIfInBounds_toArray, List.set_cons_succ, List.set_cons_zero] at H3
    obtain ⟨⟨g0, g1, g2, g3, g4, g5, g6⟩, _⟩ := box7 (H3.out.held 1 rfl)
    obtain ⟨⟨k0, k1, k2, k3, k4, k5, k6, k7, k8, k9, k10⟩, ⟨f0, f1, f2, f3, f4, f5, f6, f7, f8, f9, f10⟩⟩ := Bx.b11 (H3.out.held 0 rfl)
    obtain ⟨_, ⟨z0, z1, z2, z3, z4, z5, z6, z7, z8, z9, z10⟩⟩ := Bx.b11 (H3.out.held 2 rfl)
    have z0 : w.heap.size < w3.heap.size := Bx.lt (H3.out.held 1 rfl)
    have z1 : w.heap.size + 1 < w3.heap.size := Bx.lt (H3.out.held 0 rfl)
    refine Og.grow 11 (by kernel_rfl) (by kernel_rfl) fun hc hf => ?_
    simp only [List.take_succ_cons, List.take_zero, List.drop_succ_cons, List.drop_zero]
    iterate 11 (refine Og.det [] rfl (fun J hJ => ?_); go_simp; first | (refine hJ _ _ ?_; clear hJ J) | (with_reducible refine ⟨_, fun p => Og.same (C2.out p.W), hJ _ _ ?_⟩; clear hJ J) | (with_reducible refine ⟨_, fun p => Og.same (M2.out p.W), hJ _ _ ?_⟩; clear hJ J) | (with_reducible refine ⟨_, fun p => Og.same (S2.out p.W), hJ _ _ ?_⟩; clear hJ J))
    clear hc hf
    refine Og.fin fun W hW => ?_
    simp only [Og.opened_nil]
    have HW := H3.out.below hW
    clear g0 g1 g2 g3 g4 g5 g6 k0 k1 k2 k3 k4 k5 k6 k7 k8 k9 k10 f0 f1 f2 f3 f4 f5 f6 f7 f8 f9 f10 z0 z1 z2 z3 z4 z5 z6 z7 z8 z9 z10 hW H3
    obtain ⟨⟨k0, k1, k2, k3, k4, k5, k6, k7, k8, k9, k10⟩, ⟨f0, f1, f2, f3, f4, f5, f6, f7, f8, f9, f10⟩⟩ := Bx.b11 (HW.held 0 rfl)
    have H4 := Lib.hid (HW.cell (o := 5) (.int .i64 Y))
    clear HW
    go_upto_region 4 with fail
    clear k0 k1 k2 k3 k4 k5 k6 k7 k8 k9 k10 f0 f1 f2 f3 f4 f5 f6 f7 f8 f9 f10
    generalize W.setCell ⟨w.heap.size + 1, 5, none⟩ (.int .i64 Y) = w4 at *
    simp only [List.setIfInBounds_toArray, List.set_cons_succ, List.set_cons_zero] at H4
    obtain ⟨⟨g0, g1, g2, g3, g4, g5, g6⟩, _⟩ := box7 (H4.out.held 1 rfl)
    obtain ⟨⟨k0, k1, k2, k3, k4, k5, k6, k7, k8, k9, k10⟩, ⟨f0, f1, f2, f3, f4, f5, f6, f7, f8, f9, f10⟩⟩ := Bx.b11 (H4.out.held 0 rfl)
    obtain ⟨_, ⟨z0, z1, z2, z3, z4, z5, z6, z7, z8, z9, z10⟩⟩ := Bx.b11 (H4.out.held 2 rfl)
    have IX := Lib.hid (IN.out X Y w4)
    go_upto_region 5 with (go_at_call 51; refine IX.out.mono ?_; rintro e w9 ⟨rfl, b9⟩; clear IX g0 g1 g2 g3 g4 g5 g6 k0 k1 k2 k3 k4 k5 k6 k7 k8 k9 k10 f0 f1 f2 f3 f4 f5 f6 f7 f8 f9 f10 z0 z1 z2 z3 z4 z5 z6 z7 z8 z9 z10; have H9 := Lib.hid (H4.out.below b9); clear b9)
    obtain ⟨⟨k0, k1, k2, k3, k4, k5, k6, k7, k8, k9, k10⟩, ⟨f0, f1, f2, f3, f4, f5, f6, f7, f8, f9, f10⟩⟩ := Bx.b11 (H9.out.held 0 rfl)
    have HA := Lib.hid (H9.out.cell (o := 4) (.int .i64 (Zn.into X (cC * cS))))
    go_upto_region 6 with fail
    clear k0 k1 k2 k3 k4 k5 k6 k7 k8 k9 k10 f0 f1 f2 f3 f4 f5 f6 f7 f8 f9 f10 H9
    generalize w9.setCell ⟨w.heap.size + 1, 4, none⟩ (.int .i64 (Zn.into X (cC * cS))) = w10 at *
    simp only [List.setIfInBounds_toArray, List.set_cons_succ, List.set_cons_zero] at HA
    obtain ⟨⟨k0, k1, k2, k3, k4, k5, k6, k7, k8, k9, k10⟩, ⟨f0, f1, f2, f3, f4, f5, f6, f7, f8, f9, f10⟩⟩ := Bx.b11 (HA.out.held 0 rfl)
    have HB := Lib.hid (HA.out.cell (o := 5) (.int .i64 (Zn.into Y (cR * cS))))
    go_upto_region 7 with fail
    clear k0 k1 k2 k3 k4 k5 k6 k7 k8 k9 k10 f0 f1 f2 f3 f4 f5 f6 f7 f8 f9 f10 HA
    generalize w10.setCell ⟨w.heap.size + 1, 5, none⟩ (.int .i64 (Zn.into Y (cR * cS))) = w11 at *
    simp only [List.setIfInBounds_toArray, List.set_cons_succ, List.set_cons_zero] at HB
    obtain ⟨⟨k0, k1, k2, k3, k4, k5, k6, k7, k8, k9, k10⟩, ⟨f0, f1, f2, f3, f4, f5, f6, f7, f8, f9, f10⟩⟩ := Bx.b11 (HB.out.held 0 rfl)
    obtain ⟨_, ⟨z0, z1, z2, z3, z4, z5, z6, z7, z8, z9, z10⟩⟩ := Bx.b11 (HB.out.held 2 rfl)
    have HF : Hid (Sep w [box (w.heap.size + 2) (.cells #[.int .i64 qs, .int .i64 qi, .int .i64 qg, .int .i64 qm, .int .i64 (Zn.into X (cC * cS)), .int .i64 (Zn.into Y (cR * cS)), .int .i64 qvx, .int .i64 qvy, .int .i64 qh, .int .i64 qp, .int .i64 ql] 34), box (w.heap.size + 1) (.cells #[.int .i64 qs, .int .i64 qi, .int .i64 qg, .int .i64 qm, .int .i64 (Zn.into X (cC * cS)), .int .i64 (Zn.into Y (cR * cS)), .int .i64 qvx, .int .i64 qvy, .int .i64 qh, .int .i64 qp, .int .i64 ql] 34), box w.heap.size (.cells #[.int .i64 cC, .int .i64 cR, .int .i64 cS, .int .i64 cD, .int .i64 cV, .int .i64 cN, .int .i64 cQ] 44)] (((((((((((w11.setCell ⟨w.heap.size + 2, 0, none⟩ (.int .i64 qs)).setCell ⟨w.heap.size + 2, 1, none⟩ (.int .i64 qi)).setCell ⟨w.heap.size + 2, 2, none⟩ (.int .i64 qg)).setCell ⟨w.heap.size + 2, 3, none⟩ (.int .i64 qm)).setCell ⟨w.heap.size + 2, 4, none⟩ (.int .i64 (Zn.into X (cC * cS)))).setCell ⟨w.heap.size + 2, 5, none⟩ (.int .i64 (Zn.into Y (cR * cS)))).setCell ⟨w.heap.size + 2, 6, none⟩ (.int .i64 qvx)).setCell ⟨w.heap.size + 2, 7, none⟩ (.int .i64 qvy)).setCell ⟨w.heap.size + 2, 8, none⟩ (.int .i64 qh)).setCell ⟨w.heap.size + 2, 9, none⟩ (.int .i64 qp)).setCell ⟨w.heap.size + 2, 10, none⟩ (.int .i64 ql))) := Lib.hid ((show Sep w [box (w.heap.size + 2) (.cells #[.int .i64 0, .int .i64 0, .int .i64 0, .int .i64 0, .int .i64 0, .int .i64 0, .int .i64 0, .int .i64 0, .int .i64 0, .int .i64 0, .int .i64 0] 34), box (w.heap.size + 1) (.cells #[.int .i64 qs, .int .i64 qi, .int .i64 qg, .int .i64 qm, .int .i64 (Zn.into X (cC * cS)), .int .i64 (Zn.into Y (cR * cS)), .int .i64 qvx, .int .i64 qvy, .int .i64 qh, .int .i64 qp, .int .i64 ql] 34), box w.heap.size (.cells #[.int .i64 cC, .int .i64 cR, .int .i64 cS, .int .i64 cD, .int .i64 cV, .int .i64 cN, .int .i64 cQ] 44)] w11 from HB.out.pull 2 rfl).set11 (.int .i64 qs) (.int .i64 qi) (.int .i64 qg) (.int .i64 qm) (.int .i64 (Zn.into X (cC * cS))) (.int .i64 (Zn.into Y (cR * cS))) (.int .i64 qvx) (.int .i64 qvy) (.int .i64 qh) (.int .i64 qp) (.int .i64 ql))
    go_wp2
    generalize (((((((((((w11.setCell ⟨w.heap.size + 2, 0, none⟩ (.int .i64 qs)).setCell ⟨w.heap.size + 2, 1, none⟩ (.int .i64 qi)).setCell ⟨w.heap.size + 2, 2, none⟩ (.int .i64 qg)).setCell ⟨w.heap.size + 2, 3, none⟩ (.int .i64 qm)).setCell ⟨w.heap.size + 2, 4, none⟩ (.int .i64 (Zn.into X (cC * cS)))).setCell ⟨w.heap.size + 2, 5, none⟩ (.int .i64 (Zn.into Y (cR * cS)))).setCell ⟨w.heap.size + 2, 6, none⟩ (.int .i64 qvx)).setCell ⟨w.heap.size + 2, 7, none⟩ (.int .i64 qvy)).setCell ⟨w.heap.size + 2, 8, none⟩ (.int .i64 qh)).setCell ⟨w.heap.size + 2, 9, none⟩ (.int .i64 qp)).setCell ⟨w.heap.size + 2, 10, none⟩ (.int .i64 ql)) = V at *
    obtain ⟨r0, r1, r2, r3, r4, r5, r6, r7, r8, r9, r10⟩ := (Bx.b11 (HF.out.held 0 rfl)).1
    exact bodyPost_ret (v := .agg #[.int .i64 qs, .int .i64 qi, .int .i64 qg, .int .i64 qm, .int .i64 (Zn.into X (cC * cS)), .int .i64 (Zn.into Y (cR * cS)), .int .i64 qvx, .int .i64 qvy, .int .i64 qh, .int .i64 qp, .int .i64 ql]) (by simp [results, Try.results26, go_sem, r0, r1, r2, r3, r4, r5, r6, r7, r8, r9, r10]) rfl ⟨rfl, HF.out.bel⟩
end Go.Proofs.Ytfmbldjaknjgbaa
