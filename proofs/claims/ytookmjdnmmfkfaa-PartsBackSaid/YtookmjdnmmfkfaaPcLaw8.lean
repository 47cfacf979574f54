/- What was put is taken away, what was taken away is put again. Written by wip/tools/genlawp.py. -/
import Derived.Test.YtookmjdnmmfkfaaPcAwake
import Derived.Test.YtookmjdnmmfkfaaPcAlg
import Derived.Test.YtookmjdnmmfkfaaPzRef2
import Derived.Test.YtookmjdnmmfkfaaOw
namespace Go.Proofs.Ytookmjdnmmfkfaa
open Go.RowKit Pz
set_option linter.unusedVariables false

set_option maxHeartbeats 16000000 in
set_option maxRecDepth 100000 in
theorem law_back (w : World) (a b : Bn) (ha : a.Fits) (hb : b.Fits) : Calls Try.prog 10 #[a.val, b.val] w fun e w' => e = .returned (.bool true) ∧ Below w.heap.size w w' := by
  have C1 : Hid (∀ W, Calls Try.prog 19 #[a.val, b.val] W fun e w' => e = .returned (withB a b).val ∧ Below W.heap.size W w') := Lib.hid fun W => cwith_any a b W
  have C2 : Hid (∀ W, Calls Try.prog 21 #[(withB a b).val, .int .i64 b.m] W fun e w' => e = .returned (withoutB a b.m).val ∧ Below W.heap.size W w') := Lib.hid fun W => by rw [← without_with]; exact cwithout_any (withB a b) b.m W
  have C3 : Hid (∀ W, Calls Try.prog 21 #[a.val, .int .i64 b.m] W fun e w' => e = .returned (withoutB a b.m).val ∧ Below W.heap.size W w') := Lib.hid fun W => cwithout_any a b.m W
  have C4 : Hid (∀ W, Calls Try.prog 19 #[(withoutB a b.m).val, a.val] W fun e w' => e = .returned (withB (withoutB a b.m) a).val ∧ Below W.heap.size W w') := Lib.hid fun W => cwith_any (withoutB a b.m) a W
  have C5 : Hid (∀ W, Calls Try.prog 31 #[a.val] W fun e w' => e = .returned (.bool (right a)) ∧ Below W.heap.size W w') := Lib.hid fun W => right_any a ha.m W
  have AW : Hid (∀ W, Calls Try.prog 16 #[] W fun e w' => e = .returned (.bool true) ∧ Below W.heap.size W w') := Lib.hid fun W => awake_any W
  have Q1 : ∀ W : World, (Op.equalIn 10000 25 (withoutB a b.m).val (withoutB a b.m).val).run Try.prog W = .ok true W := fun W => same_refl (withoutB a b.m) W
  have Q2 : ∀ W : World, (Op.equalIn 10000 25 (withB (withoutB a b.m) a).val a.val).run Try.prog W = .ok (sameB (withB (withoutB a b.m) a) a) W := fun W => eq_bundle (withB (withoutB a b.m) a).s (withB (withoutB a b.m) a).i (withB (withoutB a b.m) a).g (withB (withoutB a b.m) a).m (withB (withoutB a b.m) a).x (withB (withoutB a b.m) a).y (withB (withoutB a b.m) a).vx (withB (withoutB a b.m) a).vy (withB (withoutB a b.m) a).h (withB (withoutB a b.m) a).p (withB (withoutB a b.m) a).l a.s a.i a.g a.m a.x a.y a.vx a.vy a.h a.p a.l W
  have KEY : right a = true → sameB (withB (withoutB a b.m) a) a = true := fun h => by
    rw [with_back ha h]
    simp [sameB]
  generalize sameB (withB (withoutB a b.m) a) a = t at *
  generalize withB (withoutB a b.m) a = Z at *
  generalize withoutB a b.m = Y at *
  generalize withB a b = X at *
  generalize right a = ra at *
  clear ha hb
  obtain ⟨qs1, qi1, qg1, qm1, qx1, qy1, qvx1, qvy1, qh1, qp1, ql1⟩ := a
  obtain ⟨rs1, ri1, rg1, rm1, rx1, ry1, rvx1, rvy1, rh1, rp1, rl1⟩ := b
  obtain ⟨xs1, xi1, xg1, xm1, xx1, xy1, xvx1, xvy1, xh1, xp1, xl1⟩ := X
  obtain ⟨ys1, yi1, yg1, ym1, yx1, yy1, yvx1, yvy1, yh1, yp1, yl1⟩ := Y
  obtain ⟨zs1, zi1, zg1, zm1, zx1, zy1, zvx1, zvy1, zh1, zp1, zl1⟩ := Z
  simp only [Bn.val] at *
  have T0 := at2a w (.cells #[.int .i64 qs1, .int .i64 qi1, .int .i64 qg1, .int .i64 qm1, .int .i64 qx1, .int .i64 qy1, .int .i64 qvx1, .int .i64 qvy1, .int .i64 qh1, .int .i64 qp1, .int .i64 ql1] 25) (.cells #[.int .i64 rs1, .int .i64 ri1, .int .i64 rg1, .int .i64 rm1, .int .i64 rx1, .int .i64 ry1, .int .i64 rvx1, .int .i64 rvy1, .int .i64 rh1, .int .i64 rp1, .int .i64 rl1] 25)
  have T1 := at2b w (.cells #[.int .i64 qs1, .int .i64 qi1, .int .i64 qg1, .int .i64 qm1, .int .i64 qx1, .int .i64 qy1, .int .i64 qvx1, .int .i64 qvy1, .int .i64 qh1, .int .i64 qp1, .int .i64 ql1] 25) (.cells #[.int .i64 rs1, .int .i64 ri1, .int .i64 rg1, .int .i64 rm1, .int .i64 rx1, .int .i64 ry1, .int .i64 rvx1, .int .i64 rvy1, .int .i64 rh1, .int .i64 rp1, .int .i64 rl1] 25)
  have BE := bel2 w (.cells #[.int .i64 qs1, .int .i64 qi1, .int .i64 qg1, .int .i64 qm1, .int .i64 qx1, .int .i64 qy1, .int .i64 qvx1, .int .i64 qvy1, .int .i64 qh1, .int .i64 qp1, .int .i64 ql1] 25) (.cells #[.int .i64 rs1, .int .i64 ri1, .int .i64 rg1, .int .i64 rm1, .int .i64 rx1, .int .i64 ry1, .int .i64 rvx1, .int .i64 rvy1, .int .i64 rh1, .int .i64 rp1, .int .i64 rl1] 25)
  have CE : Hid (∀ W, Below ((w.alloc (.cells #[.int .i64 qs1, .int .i64 qi1, .int .i64 qg1, .int .i64 qm1, .int .i64 qx1, .int .i64 qy1, .int .i64 qvx1, .int .i64 qvy1, .int .i64 qh1, .int .i64 qp1, .int .i64 ql1] 25)).alloc (.cells #[.int .i64 rs1, .int .i64 ri1, .int .i64 rg1, .int .i64 rm1, .int .i64 rx1, .int .i64 ry1, .int .i64 rvx1, .int .i64 rvy1, .int .i64 rh1, .int .i64 rp1, .int .i64 rl1] 25)).heap.size ((w.alloc (.cells #[.int .i64 qs1, .int .i64 qi1, .int .i64 qg1, .int .i64 qm1, .int .i64 qx1, .int .i64 qy1, .int .i64 qvx1, .int .i64 qvy1, .int .i64 qh1, .int .i64 qp1, .int .i64 ql1] 25)).alloc (.cells #[.int .i64 rs1, .int .i64 ri1, .int .i64 rg1, .int .i64 rm1, .int .i64 rx1, .int .i64 ry1, .int .i64 rvx1, .int .i64 rvy1, .int .i64 rh1, .int .i64 rp1, .int .i64 rl1] 25)) W → ((W.cell? ⟨w.heap.size, 0, none⟩ = some (.int .i64 qs1) ∧ W.cell? ⟨w.heap.size, 1, none⟩ = some (.int .i64 qi1) ∧ W.cell? ⟨w.heap.size, 2, none⟩ = some (.int .i64 qg1) ∧ W.cell? ⟨w.heap.size, 3, none⟩ = some (.int .i64 qm1) ∧ W.cell? ⟨w.heap.size, 4, none⟩ = some (.int .i64 qx1) ∧ W.cell? ⟨w.heap.size, 5, none⟩ = some (.int .i64 qy1) ∧ W.cell? ⟨w.heap.size, 6, none⟩ = some (.int .i64 qvx1) ∧ W.cell? ⟨w.heap.size, 7, none⟩ = some (.int .i64 qvy1) ∧ W.cell? ⟨w.heap.size, 8, none⟩ = some (.int .i64 qh1) ∧ W.cell? ⟨w.heap.size, 9, none⟩ = some (.int .i64 qp1) ∧ W.cell? ⟨w.heap.size, 10, none⟩ = some (.int .i64 ql1)) ∧ (W.cell? ⟨w.heap.size + 1, 0, none⟩ = some (.int .i64 rs1) ∧ W.cell? ⟨w.heap.size + 1, 1, none⟩ = some (.int .i64 ri1) ∧ W.cell? ⟨w.heap.size + 1, 2, none⟩ = some (.int .i64 rg1) ∧ W.cell? ⟨w.heap.size + 1, 3, none⟩ = some (.int .i64 rm1) ∧ W.cell? ⟨w.heap.size + 1, 4, none⟩ = some (.int .i64 rx1) ∧ W.cell? ⟨w.heap.size + 1, 5, none⟩ = some (.int .i64 ry1) ∧ W.cell? ⟨w.heap.size + 1, 6, none⟩ = some (.int .i64 rvx1) ∧ W.cell? ⟨w.heap.size + 1, 7, none⟩ = some (.int .i64 rvy1) ∧ W.cell? ⟨w.heap.size + 1, 8, none⟩ = some (.int .i64 rh1) ∧ W.cell? ⟨w.heap.size + 1, 9, none⟩ = some (.int .i64 rp1) ∧ W.cell? ⟨w.heap.size + 1, 10, none⟩ = some (.int .i64 rl1))) ∧ Below w.heap.size w W) := Lib.hid fun W hW => ⟨⟨(Bx.b11 ((hW.block _ (Bx.lt T0)).trans T0)).1, (Bx.b11 ((hW.block _ (Bx.lt T1)).trans T1)).1⟩, BE.trans (hW.mono BE.size)⟩
  have HB := Lib.hid (Below.refl ((w.alloc (.cells #[.int .i64 qs1, .int .i64 qi1, .int .i64 qg1, .int .i64 qm1, .int .i64 qx1, .int .i64 qy1, .int .i64 qvx1, .int .i64 qvy1, .int .i64 qh1, .int .i64 qp1, .int .i64 ql1] 25)).alloc (.cells #[.int .i64 rs1, .int .i64 ri1, .int .i64 rg1, .int .i64 rm1, .int .i64 rx1, .int .i64 ry1, .int .i64 rvx1, .int .i64 rvy1, .int .i64 rh1, .int .i64 rp1, .int .i64 rl1] 25)).heap.size ((w.alloc (.cells #[.int .i64 qs1, .int .i64 qi1, .int .i64 qg1, .int .i64 qm1, .int .i64 qx1, .int .i64 qy1, .int .i64 qvx1, .int .i64 qvy1, .int .i64 qh1, .int .i64 qp1, .int .i64 ql1] 25)).alloc (.cells #[.int .i64 rs1, .int .i64 ri1, .int .i64 rg1, .int .i64 rm1, .int .i64 rx1, .int .i64 ry1, .int .i64 rvx1, .int .i64 rvy1, .int .i64 rh1, .int .i64 rp1, .int .i64 rl1] 25)))
  clear T0 T1 BE
  go_enter Try.func10, Try.ntmps10
  go_upto_region 1 with fail
  generalize (w.alloc (.cells #[.int .i64 qs1, .int .i64 qi1, .int .i64 qg1, .int .i64 qm1, .int .i64 qx1, .int .i64 qy1, .int .i64 qvx1, .int .i64 qvy1, .int .i64 qh1, .int .i64 qp1, .int .i64 ql1] 25)).alloc (.cells #[.int .i64 rs1, .int .i64 ri1, .int .i64 rg1, .int .i64 rm1, .int .i64 rx1, .int .i64 ry1, .int .i64 rvx1, .int .i64 rvy1, .int .i64 rh1, .int .i64 rp1, .int .i64 rl1] 25) = w1 at *
  have PF := fun p : Lat grows w1 => (CE.out p.W (HB.out.trans (p.h.mono HB.out.size))).1
  have k0_0 := fun p => (PF p).1.1
  have k0_1 := fun p => (PF p).1.2.1
  have k0_2 := fun p => (PF p).1.2.2.1
  have k0_3 := fun p => (PF p).1.2.2.2.1
  have k0_4 := fun p => (PF p).1.2.2.2.2.1
  have k0_5 := fun p => (PF p).1.2.2.2.2.2.1
  have k0_6 := fun p => (PF p).1.2.2.2.2.2.2.1
  have k0_7 := fun p => (PF p).1.2.2.2.2.2.2.2.1
  have k0_8 := fun p => (PF p).1.2.2.2.2.2.2.2.2.1
  have k0_9 := fun p => (PF p).1.2.2.2.2.2.2.2.2.2.1
  have k0_10 := fun p => (PF p).1.2.2.2.2.2.2.2.2.2.2
  have k1_0 := fun p => (PF p).2.1
  have k1_1 := fun p => (PF p).2.2.1
  have k1_2 := fun p => (PF p).2.2.2.1
  have k1_3 := fun p => (PF p).2.2.2.2.1
  have k1_4 := fun p => (PF p).2.2.2.2.2.1
  have k1_5 := fun p => (PF p).2.2.2.2.2.2.1
  have k1_6 := fun p => (PF p).2.2.2.2.2.2.2.1
  have k1_7 := fun p => (PF p).2.2.2.2.2.2.2.2.1
  have k1_8 := fun p => (PF p).2.2.2.2.2.2.2.2.2.1
  have k1_9 := fun p => (PF p).2.2.2.2.2.2.2.2.2.2.1
  have k1_10 := fun p => (PF p).2.2.2.2.2.2.2.2.2.2.2
  clear PF
  refine Og.grow 7 (by kernel_rfl) (by kernel_rfl) fun hc hf => ?_
  clear hc hf
  simp only [List.take_succ_cons, List.take_zero, List.drop_succ_cons, List.drop_zero]
  iterate 2 (refine Og.det [] rfl (fun J hJ => ?_); go_simp; refine hJ _ _ ?_; clear hJ J)
  refine Og.det [] rfl (fun J hJ => ?_)
  go_simp
  with_reducible refine ⟨_, fun p => Og.lays (C1.out p.W), hJ _ _ ?_⟩
  clear hJ J
  iterate 2 (refine Og.det [] rfl (fun J hJ => ?_); go_simp; refine hJ _ _ ?_; clear hJ J)
  refine Og.det [] rfl (fun J hJ => ?_)
  go_simp
  with_reducible refine ⟨_, fun p => Og.lays (C2.out p.W), hJ _ _ ?_⟩
  clear hJ J
  refine Og.such 5 (Og.Box w1.heap.size #[.int .i64 0, .int .i64 0, .int .i64 0, .int .i64 0, .int .i64 0, .int .i64 0, .int .i64 0, .int .i64 0, .int .i64 0, .int .i64 0, .int .i64 0] 25) [] rfl (Og.Box.lasts _ _ _) (Og.Box.noBool _ _ _) (fun J hJ => ?_)
  go_simp
  refine ⟨fun p => Og.Box.new p.W _ p.h.size _ _, hJ _ _ ?_⟩
  clear hJ J
  refine Og.fin fun W1 hW => ?_
  simp only [Og.opened_cons, Og.opened_nil]
  intro v5 hv5
  obtain ⟨b5, rfl, hlo5, hlt5, hbx5⟩ := hv5
  have HN := Lib.hid (Bx.set11 hbx5 (.int .i64 ys1) (.int .i64 yi1) (.int .i64 yg1) (.int .i64 ym1) (.int .i64 yx1) (.int .i64 yy1) (.int .i64 yvx1) (.int .i64 yvy1) (.int .i64 yh1) (.int .i64 yp1) (.int .i64 yl1))
  have HX := HB.out.trans (hW.mono HB.out.size)
  have HP : Hid (Below w1.heap.size w1 (((((((((((W1.setCell ⟨b5, 0, none⟩ (.int .i64 ys1)).setCell ⟨b5, 1, none⟩ (.int .i64 yi1)).setCell ⟨b5, 2, none⟩ (.int .i64 yg1)).setCell ⟨b5, 3, none⟩ (.int .i64 ym1)).setCell ⟨b5, 4, none⟩ (.int .i64 yx1)).setCell ⟨b5, 5, none⟩ (.int .i64 yy1)).setCell ⟨b5, 6, none⟩ (.int .i64 yvx1)).setCell ⟨b5, 7, none⟩ (.int .i64 yvy1)).setCell ⟨b5, 8, none⟩ (.int .i64 yh1)).setCell ⟨b5, 9, none⟩ (.int .i64 yp1)).setCell ⟨b5, 10, none⟩ (.int .i64 yl1))) := Lib.hid (((((((((((HX.setCell (p := ⟨b5, 0, none⟩) (Nat.le_trans HB.out.size hlo5) _).setCell (p := ⟨b5, 1, none⟩) (Nat.le_trans HB.out.size hlo5) _).setCell (p := ⟨b5, 2, none⟩) (Nat.le_trans HB.out.size hlo5) _).setCell (p := ⟨b5, 3, none⟩) (Nat.le_trans HB.out.size hlo5) _).setCell (p := ⟨b5, 4, none⟩) (Nat.le_trans HB.out.size hlo5) _).setCell (p := ⟨b5, 5, none⟩) (Nat.le_trans HB.out.size hlo5) _).setCell (p := ⟨b5, 6, none⟩) (Nat.le_trans HB.out.size hlo5) _).setCell (p := ⟨b5, 7, none⟩) (Nat.le_trans HB.out.size hlo5) _).setCell (p := ⟨b5, 8, none⟩) (Nat.le_trans HB.out.size hlo5) _).setCell (p := ⟨b5, 9, none⟩) (Nat.le_trans HB.out.size hlo5) _).setCell (p := ⟨b5, 10, none⟩) (Nat.le_trans HB.out.size hlo5) _)
  obtain ⟨⟨z0, z1, z2, z3, z4, z5, z6, z7, z8, z9, z10⟩, ⟨y0, y1, y2, y3, y4, y5, y6, y7, y8, y9, y10⟩⟩ := Bx.b11 hbx5
  clear k0_0 k0_1 k0_2 k0_3 k0_4 k0_5 k0_6 k0_7 k0_8 k0_9 k0_10 k1_0 k1_1 k1_2 k1_3 k1_4 k1_5 k1_6 k1_7 k1_8 k1_9 k1_10 HX hlo5 hlt5 hbx5 hW HB
  go_upto_region 2 with fail
  generalize (((((((((((W1.setCell ⟨b5, 0, none⟩ (.int .i64 ys1)).setCell ⟨b5, 1, none⟩ (.int .i64 yi1)).setCell ⟨b5, 2, none⟩ (.int .i64 yg1)).setCell ⟨b5, 3, none⟩ (.int .i64 ym1)).setCell ⟨b5, 4, none⟩ (.int .i64 yx1)).setCell ⟨b5, 5, none⟩ (.int .i64 yy1)).setCell ⟨b5, 6, none⟩ (.int .i64 yvx1)).setCell ⟨b5, 7, none⟩ (.int .i64 yvy1)).setCell ⟨b5, 8, none⟩ (.int .i64 yh1)).setCell ⟨b5, 9, none⟩ (.int .i64 yp1)).setCell ⟨b5, 10, none⟩ (.int .i64 yl1)) = V1 at *
  clear z0 z1 z2 z3 z4 z5 z6 z7 z8 z9 z10 y0 y1 y2 y3 y4 y5 y6 y7 y8 y9 y10
  have HB := HP
  clear HP
  have H5 := HN
  clear HN
  have PF := fun p : Lat grows V1 => (CE.out p.W (HB.out.trans (p.h.mono HB.out.size))).1
  have k0_0 := fun p => (PF p).1.1
  have k0_1 := fun p => (PF p).1.2.1
  have k0_2 := fun p => (PF p).1.2.2.1
  have k0_3 := fun p => (PF p).1.2.2.2.1
  have k0_4 := fun p => (PF p).1.2.2.2.2.1
  have k0_5 := fun p => (PF p).1.2.2.2.2.2.1
  have k0_6 := fun p => (PF p).1.2.2.2.2.2.2.1
  have k0_7 := fun p => (PF p).1.2.2.2.2.2.2.2.1
  have k0_8 := fun p => (PF p).1.2.2.2.2.2.2.2.2.1
  have k0_9 := fun p => (PF p).1.2.2.2.2.2.2.2.2.2.1
  have k0_10 := fun p => (PF p).1.2.2.2.2.2.2.2.2.2.2
  have k1_0 := fun p => (PF p).2.1
  have k1_1 := fun p => (PF p).2.2.1
  have k1_2 := fun p => (PF p).2.2.2.1
  have k1_3 := fun p => (PF p).2.2.2.2.1
  have k1_4 := fun p => (PF p).2.2.2.2.2.1
  have k1_5 := fun p => (PF p).2.2.2.2.2.2.1
  have k1_6 := fun p => (PF p).2.2.2.2.2.2.2.1
  have k1_7 := fun p => (PF p).2.2.2.2.2.2.2.2.1
  have k1_8 := fun p => (PF p).2.2.2.2.2.2.2.2.2.1
  have k1_9 := fun p => (PF p).2.2.2.2.2.2.2.2.2.2.1
  have k1_10 := fun p => (PF p).2.2.2.2.2.2.2.2.2.2.2
  clear PF
  have PD := fun p : Lat grows V1 => (Bx.b11 ((p.h.block _ (Bx.lt H5.out)).trans H5.out)).1
  have d5_0 := fun p => (PD p).1
  have d5_1 := fun p => (PD p).2.1
  have d5_2 := fun p => (PD p).2.2.1
  have d5_3 := fun p => (PD p).2.2.2.1
  have d5_4 := fun p => (PD p).2.2.2.2.1
  have d5_5 := fun p => (PD p).2.2.2.2.2.1
  have d5_6 := fun p => (PD p).2.2.2.2.2.2.1
  have d5_7 := fun p => (PD p).2.2.2.2.2.2.2.1
  have d5_8 := fun p => (PD p).2.2.2.2.2.2.2.2.1
  have d5_9 := fun p => (PD p).2.2.2.2.2.2.2.2.2.1
  have d5_10 := fun p => (PD p).2.2.2.2.2.2.2.2.2.2
  clear PD
  refine Og.grow 7 (by kernel_rfl) (by kernel_rfl) fun hc hf => ?_
  clear hc hf
  simp only [List.take_succ_cons, List.take_zero, List.drop_succ_cons, List.drop_zero]
  (refine Og.det [] rfl (fun J hJ => ?_); go_simp; refine hJ _ _ ?_; clear hJ J)
  (refine Og.det [] rfl (fun J hJ => ?_); go_simp; refine hJ _ _ ?_; clear hJ J)
  (refine Og.det [] rfl (fun J hJ => ?_); go_simp; refine hJ _ _ ?_; clear hJ J)
  refine Og.det [] rfl (fun J hJ => ?_)
  go_simp
  with_reducible refine ⟨_, fun p => Og.lays (C3.out p.W), hJ _ _ ?_⟩
  clear hJ J
  (refine Og.det [] rfl (fun J hJ => ?_); go_simp; refine hJ _ _ ?_; clear hJ J)
  refine Og.det [] rfl (fun J hJ => ?_)
  go_simp
  with_reducible refine ⟨_, fun p => Og.lays (C4.out p.W), hJ _ _ ?_⟩
  clear hJ J
  refine Og.such 6 (Og.Box V1.heap.size #[.int .i64 0, .int .i64 0, .int .i64 0, .int .i64 0, .int .i64 0, .int .i64 0, .int .i64 0, .int .i64 0, .int .i64 0, .int .i64 0, .int .i64 0] 25) [] rfl (Og.Box.lasts _ _ _) (Og.Box.noBool _ _ _) (fun J hJ => ?_)
  go_simp
  refine ⟨fun p => Og.Box.new p.W _ p.h.size _ _, hJ _ _ ?_⟩
  clear hJ J
  refine Og.fin fun W2 hW => ?_
  simp only [Og.opened_cons, Og.opened_nil]
  intro v6 hv6
  obtain ⟨b6, rfl, hlo6, hlt6, hbx6⟩ := hv6
  have HN := Lib.hid (Bx.set11 hbx6 (.int .i64 zs1) (.int .i64 zi1) (.int .i64 zg1) (.int .i64 zm1) (.int .i64 zx1) (.int .i64 zy1) (.int .i64 zvx1) (.int .i64 zvy1) (.int .i64 zh1) (.int .i64 zp1) (.int .i64 zl1))
  have HX := HB.out.trans (hW.mono HB.out.size)
  have HP : Hid (Below w1.heap.size w1 (((((((((((W2.setCell ⟨b6, 0, none⟩ (.int .i64 zs1)).setCell ⟨b6, 1, none⟩ (.int .i64 zi1)).setCell ⟨b6, 2, none⟩ (.int .i64 zg1)).setCell ⟨b6, 3, none⟩ (.int .i64 zm1)).setCell ⟨b6, 4, none⟩ (.int .i64 zx1)).setCell ⟨b6, 5, none⟩ (.int .i64 zy1)).setCell ⟨b6, 6, none⟩ (.int .i64 zvx1)).setCell ⟨b6, 7, none⟩ (.int .i64 zvy1)).setCell ⟨b6, 8, none⟩ (.int .i64 zh1)).setCell ⟨b6, 9, none⟩ (.int .i64 zp1)).setCell ⟨b6, 10, none⟩ (.int .i64 zl1))) := Lib.hid (((((((((((HX.setCell (p := ⟨b6, 0, none⟩) (Nat.le_trans HB.out.size hlo6) _).setCell (p := ⟨b6, 1, none⟩) (Nat.le_trans HB.out.size hlo6) _).setCell (p := ⟨b6, 2, none⟩) (Nat.le_trans HB.out.size hlo6) _).setCell (p := ⟨b6, 3, none⟩) (Nat.le_trans HB.out.size hlo6) _).setCell (p := ⟨b6, 4, none⟩) (Nat.le_trans HB.out.size hlo6) _).setCell (p := ⟨b6, 5, none⟩) (Nat.le_trans HB.out.size hlo6) _).setCell (p := ⟨b6, 6, none⟩) (Nat.le_trans HB.out.size hlo6) _).setCell (p := ⟨b6, 7, none⟩) (Nat.le_trans HB.out.size hlo6) _).setCell (p := ⟨b6, 8, none⟩) (Nat.le_trans HB.out.size hlo6) _).setCell (p := ⟨b6, 9, none⟩) (Nat.le_trans HB.out.size hlo6) _).setCell (p := ⟨b6, 10, none⟩) (Nat.le_trans HB.out.size hlo6) _)
  have hne5 : b5 ≠ b6 := by have := Bx.lt H5.out; omega
  have HK5 : Hid ((((((((((((W2.setCell ⟨b6, 0, none⟩ (.int .i64 zs1)).setCell ⟨b6, 1, none⟩ (.int .i64 zi1)).setCell ⟨b6, 2, none⟩ (.int .i64 zg1)).setCell ⟨b6, 3, none⟩ (.int .i64 zm1)).setCell ⟨b6, 4, none⟩ (.int .i64 zx1)).setCell ⟨b6, 5, none⟩ (.int .i64 zy1)).setCell ⟨b6, 6, none⟩ (.int .i64 zvx1)).setCell ⟨b6, 7, none⟩ (.int .i64 zvy1)).setCell ⟨b6, 8, none⟩ (.int .i64 zh1)).setCell ⟨b6, 9, none⟩ (.int .i64 zp1)).setCell ⟨b6, 10, none⟩ (.int .i64 zl1)).heap[b5]? = some (.cells #[.int .i64 ys1, .int .i64 yi1, .int .i64 yg1, .int .i64 ym1, .int .i64 yx1, .int .i64 yy1, .int .i64 yvx1, .int .i64 yvy1, .int .i64 yh1, .int .i64 yp1, .int .i64 yl1] 25 (0, 0))) := Lib.hid (by simp only [Bx.ne hne5]; exact (hW.block _ (Bx.lt H5.out)).trans H5.out)
  obtain ⟨⟨z0, z1, z2, z3, z4, z5, z6, z7, z8, z9, z10⟩, ⟨y0, y1, y2, y3, y4, y5, y6, y7, y8, y9, y10⟩⟩ := Bx.b11 hbx6
  clear k0_0 k0_1 k0_2 k0_3 k0_4 k0_5 k0_6 k0_7 k0_8 k0_9 k0_10 k1_0 k1_1 k1_2 k1_3 k1_4 k1_5 k1_6 k1_7 k1_8 k1_9 k1_10 d5_0 d5_1 d5_2 d5_3 d5_4 d5_5 d5_6 d5_7 d5_8 d5_9 d5_10 HX hlo6 hlt6 hbx6 hne5 H5 hW HB
  go_upto_region 3 with fail
  generalize (((((((((((W2.setCell ⟨b6, 0, none⟩ (.int .i64 zs1)).setCell ⟨b6, 1, none⟩ (.int .i64 zi1)).setCell ⟨b6, 2, none⟩ (.int .i64 zg1)).setCell ⟨b6, 3, none⟩ (.int .i64 zm1)).setCell ⟨b6, 4, none⟩ (.int .i64 zx1)).setCell ⟨b6, 5, none⟩ (.int .i64 zy1)).setCell ⟨b6, 6, none⟩ (.int .i64 zvx1)).setCell ⟨b6, 7, none⟩ (.int .i64 zvy1)).setCell ⟨b6, 8, none⟩ (.int .i64 zh1)).setCell ⟨b6, 9, none⟩ (.int .i64 zp1)).setCell ⟨b6, 10, none⟩ (.int .i64 zl1)) = V2 at *
  clear z0 z1 z2 z3 z4 z5 z6 z7 z8 z9 z10 y0 y1 y2 y3 y4 y5 y6 y7 y8 y9 y10
  have HB := HP
  clear HP
  have H6 := HN
  clear HN
  have H5 := HK5
  clear HK5
  cases t with
  | true =>
    clear KEY
    have PF := fun p : Lat grows V2 => (CE.out p.W (HB.out.trans (p.h.mono HB.out.size))).1
    have k0_0 := fun p => (PF p).1.1
    have k0_1 := fun p => (PF p).1.2.1
    have k0_2 := fun p => (PF p).1.2.2.1
    have k0_3 := fun p => (PF p).1.2.2.2.1
    have k0_4 := fun p => (PF p).1.2.2.2.2.1
    have k0_5 := fun p => (PF p).1.2.2.2.2.2.1
    have k0_6 := fun p => (PF p).1.2.2.2.2.2.2.1
    have k0_7 := fun p => (PF p).1.2.2.2.2.2.2.2.1
    have k0_8 := fun p => (PF p).1.2.2.2.2.2.2.2.2.1
    have k0_9 := fun p => (PF p).1.2.2.2.2.2.2.2.2.2.1
    have k0_10 := fun p => (PF p).1.2.2.2.2.2.2.2.2.2.2
    have k1_0 := fun p => (PF p).2.1
    have k1_1 := fun p => (PF p).2.2.1
    have k1_2 := fun p => (PF p).2.2.2.1
    have k1_3 := fun p => (PF p).2.2.2.2.1
    have k1_4 := fun p => (PF p).2.2.2.2.2.1
    have k1_5 := fun p => (PF p).2.2.2.2.2.2.1
    have k1_6 := fun p => (PF p).2.2.2.2.2.2.2.1
    have k1_7 := fun p => (PF p).2.2.2.2.2.2.2.2.1
    have k1_8 := fun p => (PF p).2.2.2.2.2.2.2.2.2.1
    have k1_9 := fun p => (PF p).2.2.2.2.2.2.2.2.2.2.1
    have k1_10 := fun p => (PF p).2.2.2.2.2.2.2.2.2.2.2
    clear PF
    have PD := fun p : Lat grows V2 => (Bx.b11 ((p.h.block _ (Bx.lt H5.out)).trans H5.out)).1
    have d5_0 := fun p => (PD p).1
    have d5_1 := fun p => (PD p).2.1
    have d5_2 := fun p => (PD p).2.2.1
    have d5_3 := fun p => (PD p).2.2.2.1
    have d5_4 := fun p => (PD p).2.2.2.2.1
    have d5_5 := fun p => (PD p).2.2.2.2.2.1
    have d5_6 := fun p => (PD p).2.2.2.2.2.2.1
    have d5_7 := fun p => (PD p).2.2.2.2.2.2.2.1
    have d5_8 := fun p => (PD p).2.2.2.2.2.2.2.2.1
    have d5_9 := fun p => (PD p).2.2.2.2.2.2.2.2.2.1
    have d5_10 := fun p => (PD p).2.2.2.2.2.2.2.2.2.2
    clear PD
    have PD := fun p : Lat grows V2 => (Bx.b11 ((p.h.block _ (Bx.lt H6.out)).trans H6.out)).1
    have d6_0 := fun p => (PD p).1
    have d6_1 := fun p => (PD p).2.1
    have d6_2 := fun p => (PD p).2.2.1
    have d6_3 := fun p => (PD p).2.2.2.1
    have d6_4 := fun p => (PD p).2.2.2.2.1
    have d6_5 := fun p => (PD p).2.2.2.2.2.1
    have d6_6 := fun p => (PD p).2.2.2.2.2.2.1
    have d6_7 := fun p => (PD p).2.2.2.2.2.2.2.1
    have d6_8 := fun p => (PD p).2.2.2.2.2.2.2.2.1
    have d6_9 := fun p => (PD p).2.2.2.2.2.2.2.2.2.1
    have d6_10 := fun p => (PD p).2.2.2.2.2.2.2.2.2.2
    clear PD
    refine Og.grow 20 (by kernel_rfl) (by kernel_rfl) fun hc hf => ?_
    clear hc hf
    simp only [List.take_succ_cons, List.take_zero, List.drop_succ_cons, List.drop_zero]
    iterate 4 (refine Og.det [] rfl (fun J hJ => ?_); go_simp; refine hJ _ _ ?_; clear hJ J)
    refine Og.det [] rfl (fun J hJ => ?_)
    go_simp
    with_reducible refine ⟨_, fun p => Og.lays (C3.out p.W), hJ _ _ ?_⟩
    clear hJ J
    iterate 12 (refine Og.det [] rfl (fun J hJ => ?_); go_simp; refine hJ _ _ ?_; clear hJ J)
    refine Og.det [] rfl (fun J hJ => ?_)
    go_simp
    with_reducible refine ⟨_, fun p => Og.lays (AW.out p.W), hJ _ _ ?_⟩
    clear hJ J
    (refine Og.det [] rfl (fun J hJ => ?_); go_simp; refine hJ _ _ ?_; clear hJ J)
    (refine Og.det [] rfl (fun J hJ => ?_); go_simp; refine hJ _ _ ?_; clear hJ J)
    refine Og.fin fun W hW => ?_
    simp only [Og.opened_nil]
    have FB := (CE.out W (HB.out.trans (hW.mono HB.out.size))).2
    clear k0_0 k0_1 k0_2 k0_3 k0_4 k0_5 k0_6 k0_7 k0_8 k0_9 k0_10 k1_0 k1_1 k1_2 k1_3 k1_4 k1_5 k1_6 k1_7 k1_8 k1_9 k1_10 d5_0 d5_1 d5_2 d5_3 d5_4 d5_5 d5_6 d5_7 d5_8 d5_9 d5_10 d6_0 d6_1 d6_2 d6_3 d6_4 d6_5 d6_6 d6_7 d6_8 d6_9 d6_10
    go_wp2
    go_ret
    exact ⟨rfl, FB⟩
  | false =>
    cases ra with
    | true => exact absurd (KEY rfl) (by decide)
    | false =>
      clear KEY
      have PF := fun p : Lat grows V2 => (CE.out p.W (HB.out.trans (p.h.mono HB.out.size))).1
      have k0_0 := fun p => (PF p).1.1
      have k0_1 := fun p => (PF p).1.2.1
      have k0_2 := fun p => (PF p).1.2.2.1
      have k0_3 := fun p => (PF p).1.2.2.2.1
      have k0_4 := fun p => (PF p).1.2.2.2.2.1
      have k0_5 := fun p => (PF p).1.2.2.2.2.2.1
      have k0_6 := fun p => (PF p).1.2.2.2.2.2.2.1
      have k0_7 := fun p => (PF p).1.2.2.2.2.2.2.2.1
      have k0_8 := fun p => (PF p).1.2.2.2.2.2.2.2.2.1
      have k0_9 := fun p => (PF p).1.2.2.2.2.2.2.2.2.2.1
      have k0_10 := fun p => (PF p).1.2.2.2.2.2.2.2.2.2.2
      have k1_0 := fun p => (PF p).2.1
      have k1_1 := fun p => (PF p).2.2.1
      have k1_2 := fun p => (PF p).2.2.2.1
      have k1_3 := fun p => (PF p).2.2.2.2.1
      have k1_4 := fun p => (PF p).2.2.2.2.2.1
      have k1_5 := fun p => (PF p).2.2.2.2.2.2.1
      have k1_6 := fun p => (PF p).2.2.2.2.2.2.2.1
      have k1_7 := fun p => (PF p).2.2.2.2.2.2.2.2.1
      have k1_8 := fun p => (PF p).2.2.2.2.2.2.2.2.2.1
      have k1_9 := fun p => (PF p).2.2.2.2.2.2.2.2.2.2.1
      have k1_10 := fun p => (PF p).2.2.2.2.2.2.2.2.2.2.2
      clear PF
      have PD := fun p : Lat grows V2 => (Bx.b11 ((p.h.block _ (Bx.lt H5.out)).trans H5.out)).1
      have d5_0 := fun p => (PD p).1
      have d5_1 := fun p => (PD p).2.1
      have d5_2 := fun p => (PD p).2.2.1
      have d5_3 := fun p => (PD p).2.2.2.1
      have d5_4 := fun p => (PD p).2.2.2.2.1
      have d5_5 := fun p => (PD p).2.2.2.2.2.1
      have d5_6 := fun p => (PD p).2.2.2.2.2.2.1
      have d5_7 := fun p => (PD p).2.2.2.2.2.2.2.1
      have d5_8 := fun p => (PD p).2.2.2.2.2.2.2.2.1
      have d5_9 := fun p => (PD p).2.2.2.2.2.2.2.2.2.1
      have d5_10 := fun p => (PD p).2.2.2.2.2.2.2.2.2.2
      clear PD
      have PD := fun p : Lat grows V2 => (Bx.b11 ((p.h.block _ (Bx.lt H6.out)).trans H6.out)).1
      have d6_0 := fun p => (PD p).1
      have d6_1 := fun p => (PD p).2.1
      have d6_2 := fun p => (PD p).2.2.1
      have d6_3 := fun p => (PD p).2.2.2.1
      have d6_4 := fun p => (PD p).2.2.2.2.1
      have d6_5 := fun p => (PD p).2.2.2.2.2.1
      have d6_6 := fun p => (PD p).2.2.2.2.2.2.1
      have d6_7 := fun p => (PD p).2.2.2.2.2.2.2.1
      have d6_8 := fun p => (PD p).2.2.2.2.2.2.2.2.1
      have d6_9 := fun p => (PD p).2.2.2.2.2.2.2.2.2.1
      have d6_10 := fun p => (PD p).2.2.2.2.2.2.2.2.2.2
      clear PD
      refine Og.grow 20 (by kernel_rfl) (by kernel_rfl) fun hc hf => ?_
      clear hc hf
      simp only [List.take_succ_cons, List.take_zero, List.drop_succ_cons, List.drop_zero]
      iterate 4 (refine Og.det [] rfl (fun J hJ => ?_); go_simp; refine hJ _ _ ?_; clear hJ J)
      refine Og.det [] rfl (fun J hJ => ?_)
      go_simp
      with_reducible refine ⟨_, fun p => Og.lays (C3.out p.W), hJ _ _ ?_⟩
      clear hJ J
      (refine Og.det [] rfl (fun J hJ => ?_); go_simp; refine hJ _ _ ?_; clear hJ J)
      (refine Og.det [] rfl (fun J hJ => ?_); go_simp; refine hJ _ _ ?_; clear hJ J)
      (refine Og.det [] rfl (fun J hJ => ?_); go_simp; refine hJ _ _ ?_; clear hJ J)
      (refine Og.det [] rfl (fun J hJ => ?_); go_simp; refine hJ _ _ ?_; clear hJ J)
      (refine Og.det [] rfl (fun J hJ => ?_); go_simp; refine hJ _ _ ?_; clear hJ J)
      (refine Og.det [] rfl (fun J hJ => ?_); go_simp; refine hJ _ _ ?_; clear hJ J)
      (refine Og.det [] rfl (fun J hJ => ?_); go_simp; refine hJ _ _ ?_; clear hJ J)
      refine Og.det [] rfl (fun J hJ => ?_)
      go_simp
      with_reducible refine ⟨_, fun p => Og.lays (C5.out p.W), hJ _ _ ?_⟩
      clear hJ J
      (refine Og.det [] rfl (fun J hJ => ?_); go_simp; refine hJ _ _ ?_; clear hJ J)
      (refine Og.det [] rfl (fun J hJ => ?_); go_simp; refine hJ _ _ ?_; clear hJ J)
      (refine Og.det [] rfl (fun J hJ => ?_); go_simp; refine hJ _ _ ?_; clear hJ J)
      (refine Og.det [] rfl (fun J hJ => ?_); go_simp; refine hJ _ _ ?_; clear hJ J)
      refine Og.det [] rfl (fun J hJ => ?_)
      go_simp
      with_reducible refine ⟨_, fun p => Og.lays (AW.out p.W), hJ _ _ ?_⟩
      clear hJ J
      (refine Og.det [] rfl (fun J hJ => ?_); go_simp; refine hJ _ _ ?_; clear hJ J)
      (refine Og.det [] rfl (fun J hJ => ?_); go_simp; refine hJ _ _ ?_; clear hJ J)
      refine Og.fin fun W hW => ?_
      simp only [Og.opened_nil]
      have FB := (CE.out W (HB.out.trans (hW.mono HB.out.size))).2
      clear k0_0 k0_1 k0_2 k0_3 k0_4 k0_5 k0_6 k0_7 k0_8 k0_9 k0_10 k1_0 k1_1 k1_2 k1_3 k1_4 k1_5 k1_6 k1_7 k1_8 k1_9 k1_10 d5_0 d5_1 d5_2 d5_3 d5_4 d5_5 d5_6 d5_7 d5_8 d5_9 d5_10 d6_0 d6_1 d6_2 d6_3 d6_4 d6_5 d6_6 d6_7 d6_8 d6_9 d6_10
      go_wp2
      go_ret
      exact ⟨rfl, FB⟩
end Go.Proofs.Ytookmjdnmmfkfaa
