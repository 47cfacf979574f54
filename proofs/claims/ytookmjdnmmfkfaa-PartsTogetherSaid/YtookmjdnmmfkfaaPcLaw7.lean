/- One after the other, or together. Written by wip/tools/genlawp.py. -/
import Derived.Test.YtookmjdnmmfkfaaPcAwake
import Derived.Test.YtookmjdnmmfkfaaPcAlg
import Derived.Test.YtookmjdnmmfkfaaOw
namespace Go.Proofs.Ytookmjdnmmfkfaa
open Go.RowKit Pz
set_option linter.unusedVariables false

set_option maxHeartbeats 16000000 in
set_option maxRecDepth 100000 in
theorem law_together (w : World) (a b c : Bn) (ha : a.Fits) : Calls Try.prog 9 #[a.val, b.val, c.val] w fun e w' => e = .returned (.bool true) ∧ Below w.heap.size w w' := by
  have C1 : Hid (∀ W, Calls Try.prog 19 #[a.val, b.val] W fun e w' => e = .returned (withB a b).val ∧ Below W.heap.size W w') := Lib.hid fun W => cwith_any a b W
  have C2 : Hid (∀ W, Calls Try.prog 19 #[(withB a b).val, c.val] W fun e w' => e = .returned (withB (withB a b) c).val ∧ Below W.heap.size W w') := Lib.hid fun W => cwith_any (withB a b) c W
  have C3 : Hid (∀ W, Calls Try.prog 19 #[b.val, c.val] W fun e w' => e = .returned (withB b c).val ∧ Below W.heap.size W w') := Lib.hid fun W => cwith_any b c W
  have C4 : Hid (∀ W, Calls Try.prog 19 #[a.val, (withB b c).val] W fun e w' => e = .returned (withB (withB a b) c).val ∧ Below W.heap.size W w') := Lib.hid fun W => by rw [with_two]; exact cwith_any a (withB b c) W
  have C5 : Hid (∀ W, Calls Try.prog 21 #[a.val, .int .i64 b.m] W fun e w' => e = .returned (withoutB a b.m).val ∧ Below W.heap.size W w') := Lib.hid fun W => cwithout_any a b.m W
  have C6 : Hid (∀ W, Calls Try.prog 21 #[(withoutB a b.m).val, .int .i64 c.m] W fun e w' => e = .returned (withoutB (withoutB a b.m) c.m).val ∧ Below W.heap.size W w') := Lib.hid fun W => cwithout_any (withoutB a b.m) c.m W
  obtain ⟨om, hom⟩ : ∃ om, bits .or .i64 b.m c.m = om := ⟨_, rfl⟩
  have C7 : Hid (∀ W, Calls Try.prog 21 #[a.val, .int .i64 om] W fun e w' => e = .returned (withoutB (withoutB a b.m) c.m).val ∧ Below W.heap.size W w') := Lib.hid fun W => by rw [without_two, hom]; exact cwithout_any a om W
  have C8 : Hid (∀ W, Calls Try.prog 19 #[a.val, a.val] W fun e w' => e = .returned a.val ∧ Below W.heap.size W w') := Lib.hid fun W => by
    have := cwith_any a a W
    rw [with_self ha] at this
    exact this
  have C9 : Hid (∀ W, Calls Try.prog 21 #[a.val, .int .i64 0] W fun e w' => e = .returned a.val ∧ Below W.heap.size W w') := Lib.hid fun W => by
    have := cwithout_any a 0 W
    rw [without_none ha] at this
    exact this
  have AW : Hid (∀ W, Calls Try.prog 16 #[] W fun e w' => e = .returned (.bool true) ∧ Below W.heap.size W w') := Lib.hid fun W => awake_any W
  have Q1 : ∀ W : World, (Op.equalIn 10000 25 (withB (withB a b) c).val (withB (withB a b) c).val).run Try.prog W = .ok true W := fun W => same_refl (withB (withB a b) c) W
  have Q2 : ∀ W : World, (Op.equalIn 10000 25 (withoutB (withoutB a b.m) c.m).val (withoutB (withoutB a b.m) c.m).val).run Try.prog W = .ok true W := fun W => same_refl (withoutB (withoutB a b.m) c.m) W
  have Q3 : ∀ W : World, (Op.equalIn 10000 25 a.val a.val).run Try.prog W = .ok true W := fun W => same_refl a W
  generalize withB (withB a b) c = X at *
  generalize withB a b = M1 at *
  generalize withB b c = M2 at *
  generalize withoutB (withoutB a b.m) c.m = Y at *
  generalize withoutB a b.m = N1 at *
  clear ha
  obtain ⟨qs1, qi1, qg1, qm1, qx1, qy1, qvx1, qvy1, qh1, qp1, ql1⟩ := a
  obtain ⟨rs1, ri1, rg1, rm1, rx1, ry1, rvx1, rvy1, rh1, rp1, rl1⟩ := b
  obtain ⟨ss1, si1, sg1, sm1, sx1, sy1, svx1, svy1, sh1, sp1, sl1⟩ := c
  obtain ⟨xs1, xi1, xg1, xm1, xx1, xy1, xvx1, xvy1, xh1, xp1, xl1⟩ := X
  obtain ⟨ms1, mi1, mg1, mm1, mx1, my1, mvx1, mvy1, mh1, mp1, ml1⟩ := M1
  obtain ⟨ns1, ni1, ng1, nm1, nx1, ny1, nvx1, nvy1, nh1, np1, nl1⟩ := M2
  obtain ⟨ys1, yi1, yg1, ym1, yx1, yy1, yvx1, yvy1, yh1, yp1, yl1⟩ := Y
  obtain ⟨zs1, zi1, zg1, zm1, zx1, zy1, zvx1, zvy1, zh1, zp1, zl1⟩ := N1
  simp only [Bn.val] at *
  have T0 := at3a w (.cells #[.int .i64 qs1, .int .i64 qi1, .int .i64 qg1, .int .i64 qm1, .int .i64 qx1, .int .i64 qy1, .int .i64 qvx1, .int .i64 qvy1, .int .i64 qh1, .int .i64 qp1, .int .i64 ql1] 25) (.cells #[.int .i64 rs1, .int .i64 ri1, .int .i64 rg1, .int .i64 rm1, .int .i64 rx1, .int .i64 ry1, .int .i64 rvx1, .int .i64 rvy1, .int .i64 rh1, .int .i64 rp1, .int .i64 rl1] 25) (.cells #[.int .i64 ss1, .int .i64 si1, .int .i64 sg1, .int .i64 sm1, .int .i64 sx1, .int .i64 sy1, .int .i64 svx1, .int .i64 svy1, .int .i64 sh1, .int .i64 sp1, .int .i64 sl1] 25)
  have T1 := at3b w (.cells #[.int .i64 qs1, .int .i64 qi1, .int .i64 qg1, .int .i64 qm1, .int .i64 qx1, .int .i64 qy1, .int .i64 qvx1, .int .i64 qvy1, .int .i64 qh1, .int .i64 qp1, .int .i64 ql1] 25) (.cells #[.int .i64 rs1, .int .i64 ri1, .int .i64 rg1, .int .i64 rm1, .int .i64 rx1, .int .i64 ry1, .int .i64 rvx1, .int .i64 rvy1, .int .i64 rh1, .int .i64 rp1, .int .i64 rl1] 25) (.cells #[.int .i64 ss1, .int .i64 si1, .int .i64 sg1, .int .i64 sm1, .int .i64 sx1, .int .i64 sy1, .int .i64 svx1, .int .i64 svy1, .int .i64 sh1, .int .i64 sp1, .int .i64 sl1] 25)
  have T2 := at3c w (.cells #[.int .i64 qs1, .int .i64 qi1, .int .i64 qg1, .int .i64 qm1, .int .i64 qx1, .int .i64 qy1, .int .i64 qvx1, .int .i64 qvy1, .int .i64 qh1, .int .i64 qp1, .int .i64 ql1] 25) (.cells #[.int .i64 rs1, .int .i64 ri1, .int .i64 rg1, .int .i64 rm1, .int .i64 rx1, .int .i64 ry1, .int .i64 rvx1, .int .i64 rvy1, .int .i64 rh1, .int .i64 rp1, .int .i64 rl1] 25) (.cells #[.int .i64 ss1, .int .i64 si1, .int .i64 sg1, .int .i64 sm1, .int .i64 sx1, .int .i64 sy1, .int .i64 svx1, .int .i64 svy1, .int .i64 sh1, .int .i64 sp1, .int .i64 sl1] 25)
  have BE := bel3 w (.cells #[.int .i64 qs1, .int .i64 qi1, .int .i64 qg1, .int .i64 qm1, .int .i64 qx1, .int .i64 qy1, .int .i64 qvx1, .int .i64 qvy1, .int .i64 qh1, .int .i64 qp1, .int .i64 ql1] 25) (.cells #[.int .i64 rs1, .int .i64 ri1, .int .i64 rg1, .int .i64 rm1, .int .i64 rx1, .int .i64 ry1, .int .i64 rvx1, .int .i64 rvy1, .int .i64 rh1, .int .i64 rp1, .int .i64 rl1] 25) (.cells #[.int .i64 ss1, .int .i64 si1, .int .i64 sg1, .int .i64 sm1, .int .i64 sx1, .int .i64 sy1, .int .i64 svx1, .int .i64 svy1, .int .i64 sh1, .int .i64 sp1, .int .i64 sl1] 25)
  have CE : Hid (∀ W, Below (((w.alloc (.cells #[.int .i64 qs1, .int .i64 qi1, .int .i64 qg1, .int .i64 qm1, .int .i64 qx1, .int .i64 qy1, .int .i64 qvx1, .int .i64 qvy1, .int .i64 qh1, .int .i64 qp1, .int .i64 ql1] 25)).alloc (.cells #[.int .i64 rs1, .int .i64 ri1, .int .i64 rg1, .int .i64 rm1, .int .i64 rx1, .int .i64 ry1, .int .i64 rvx1, .int .i64 rvy1, .int .i64 rh1, .int .i64 rp1, .int .i64 rl1] 25)).alloc (.cells #[.int .i64 ss1, .int .i64 si1, .int .i64 sg1, .int .i64 sm1, .int .i64 sx1, .int .i64 sy1, .int .i64 svx1, .int .i64 svy1, .int .i64 sh1, .int .i64 sp1, .int .i64 sl1] 25)).heap.size (((w.alloc (.cells #[.int .i64 qs1, .int .i64 qi1, .int .i64 qg1, .int .i64 qm1, .int .i64 qx1, .int .i64 qy1, .int .i64 qvx1, .int .i64 qvy1, .int .i64 qh1, .int .i64 qp1, .int .i64 ql1] 25)).alloc (.cells #[.int .i64 rs1, .int .i64 ri1, .int .i64 rg1, .int .i64 rm1, .int .i64 rx1, .int .i64 ry1, .int .i64 rvx1, .int .i64 rvy1, .int .i64 rh1, .int .i64 rp1, .int .i64 rl1] 25)).alloc (.cells #[.int .i64 ss1, .int .i64 si1, .int .i64 sg1, .int .i64 sm1, .int .i64 sx1, .int .i64 sy1, .int .i64 svx1, .int .i64 svy1, .int .i64 sh1, .int .i64 sp1, .int .i64 sl1] 25)) W → ((W.cell? ⟨w.heap.size, 0, none⟩ = some (.int .i64 qs1) ∧ W.cell? ⟨w.heap.size, 1, none⟩ = some (.int .i64 qi1) ∧ W.cell? ⟨w.heap.size, 2, none⟩ = some (.int .i64 qg1) ∧ W.cell? ⟨w.heap.size, 3, none⟩ = some (.int .i64 qm1) ∧ W.cell? ⟨w.heap.size, 4, none⟩ = some (.int .i64 qx1) ∧ W.cell? ⟨w.heap.size, 5, none⟩ = some (.int .i64 qy1) ∧ W.cell? ⟨w.heap.size, 6, none⟩ = some (.int .i64 qvx1) ∧ W.cell? ⟨w.heap.size, 7, none⟩ = some (.int .i64 qvy1) ∧ W.cell? ⟨w.heap.size, 8, none⟩ = some (.int .i64 qh1) ∧ W.cell? ⟨w.heap.size, 9, none⟩ = some (.int .i64 qp1) ∧ W.cell? ⟨w.heap.size, 10, none⟩ = some (.int .i64 ql1)) ∧ (W.cell? ⟨w.heap.size + 1, 0, none⟩ = some (.int .i64 rs1) ∧ W.cell? ⟨w.heap.size + 1, 1, none⟩ = some (.int .i64 ri1) ∧ W.cell? ⟨w.heap.size + 1, 2, none⟩ = some (.int .i64 rg1) ∧ W.cell? ⟨w.heap.size + 1, 3, none⟩ = some (.int .i64 rm1) ∧ W.cell? ⟨w.heap.size + 1, 4, none⟩ = some (.int .i64 rx1) ∧ W.cell? ⟨w.heap.size + 1, 5, none⟩ = some (.int .i64 ry1) ∧ W.cell? ⟨w.heap.size + 1, 6, none⟩ = some (.int .i64 rvx1) ∧ W.cell? ⟨w.heap.size + 1, 7, none⟩ = some (.int .i64 rvy1) ∧ W.cell? ⟨w.heap.size + 1, 8, none⟩ = some (.int .i64 rh1) ∧ W.cell? ⟨w.heap.size + 1, 9, none⟩ = some (.int .i64 rp1) ∧ W.cell? ⟨w.heap.size + 1, 10, none⟩ = some (.int .i64 rl1)) ∧ (W.cell? ⟨w.heap.size + 2, 0, none⟩ = some (.int .i64 ss1) ∧ W.cell? ⟨w.heap.size + 2, 1, none⟩ = some (.int .i64 si1) ∧ W.cell? ⟨w.heap.size + 2, 2, none⟩ = some (.int .i64 sg1) ∧ W.cell? ⟨w.heap.size + 2, 3, none⟩ = some (.int .i64 sm1) ∧ W.cell? ⟨w.heap.size + 2, 4, none⟩ = some (.int .i64 sx1) ∧ W.cell? ⟨w.heap.size + 2, 5, none⟩ = some (.int .i64 sy1) ∧ W.cell? ⟨w.heap.size + 2, 6, none⟩ = some (.int .i64 svx1) ∧ W.cell? ⟨w.heap.size + 2, 7, none⟩ = some (.int .i64 svy1) ∧ W.cell? ⟨w.heap.size + 2, 8, none⟩ = some (.int .i64 sh1) ∧ W.cell? ⟨w.heap.size + 2, 9, none⟩ = some (.int .i64 sp1) ∧ W.cell? ⟨w.heap.size + 2, 10, none⟩ = some (.int .i64 sl1))) ∧ Below w.heap.size w W) := Lib.hid fun W hW => ⟨⟨(Bx.b11 ((hW.block _ (Bx.lt T0)).trans T0)).1, (Bx.b11 ((hW.block _ (Bx.lt T1)).trans T1)).1, (Bx.b11 ((hW.block _ (Bx.lt T2)).trans T2)).1⟩, BE.trans (hW.mono BE.size)⟩
  have HB := Lib.hid (Below.refl (((w.alloc (.cells #[.int .i64 qs1, .int .i64 qi1, .int .i64 qg1, .int .i64 qm1, .int .i64 qx1, .int .i64 qy1, .int .i64 qvx1, .int .i64 qvy1, .int .i64 qh1, .int .i64 qp1, .int .i64 ql1] 25)).alloc (.cells #[.int .i64 rs1, .int .i64 ri1, .int .i64 rg1, .int .i64 rm1, .int .i64 rx1, .int .i64 ry1, .int .i64 rvx1, .int .i64 rvy1, .int .i64 rh1, .int .i64 rp1, .int .i64 rl1] 25)).alloc (.cells #[.int .i64 ss1, .int .i64 si1, .int .i64 sg1, .int .i64 sm1, .int .i64 sx1, .int .i64 sy1, .int .i64 svx1, .int .i64 svy1, .int .i64 sh1, .int .i64 sp1, .int .i64 sl1] 25)).heap.size (((w.alloc (.cells #[.int .i64 qs1, .int .i64 qi1, .int .i64 qg1, .int .i64 qm1, .int .i64 qx1, .int .i64 qy1, .int .i64 qvx1, .int .i64 qvy1, .int .i64 qh1, .int .i64 qp1, .int .i64 ql1] 25)).alloc (.cells #[.int .i64 rs1, .int .i64 ri1, .int .i64 rg1, .int .i64 rm1, .int .i64 rx1, .int .i64 ry1, .int .i64 rvx1, .int .i64 rvy1, .int .i64 rh1, .int .i64 rp1, .int .i64 rl1] 25)).alloc (.cells #[.int .i64 ss1, .int .i64 si1, .int .i64 sg1, .int .i64 sm1, .int .i64 sx1, .int .i64 sy1, .int .i64 svx1, .int .i64 svy1, .int .i64 sh1, .int .i64 sp1, .int .i64 sl1] 25)))
  clear T0 T1 T2 BE
  go_enter Try.func9, Try.ntmps9
  go_upto_region 1 with fail
  generalize ((w.alloc (.cells #[.int .i64 qs1, .int .i64 qi1, .int .i64 qg1, .int .i64 qm1, .int .i64 qx1, .int .i64 qy1, .int .i64 qvx1, .int .i64 qvy1, .int .i64 qh1, .int .i64 qp1, .int .i64 ql1] 25)).alloc (.cells #[.int .i64 rs1, .int .i64 ri1, .int .i64 rg1, .int .i64 rm1, .int .i64 rx1, .int .i64 ry1, .int .i64 rvx1, .int .i64 rvy1, .int .i64 rh1, .int .i64 rp1, .int .i64 rl1] 25)).alloc (.cells #[.int .i64 ss1, .int .i64 si1, .int .i64 sg1, .int .i64 sm1, .int .i64 sx1, .int .i64 sy1, .int .i64 svx1, .int .i64 svy1, .int .i64 sh1, .int .i64 sp1, .int .i64 sl1] 25) = w1 at *
  have PF := fun p : Lat grows w1 => (CE.out p.W (HB.out.trans (p.h.mono HB.out.size))).1
  have k0_0 := fun p => (PF p).1.1
  have k0_1 := fun p => (PF p).1.2.1
  have k0_2 := fun p => (PF p).1.2.2.1
  have k0_3 := fun p => (PF p).1.2.2.2.1
  have k0_4 := fun p => (PF p).1.2.2.2.2.1
  have k0_5 := fun p => (PF p).1.2.2.2.2.2.1
  have k0_6 := fun p => (PF p).1.2.2.2.2.2.2.1
  have k0_7 := fun p => (PF p).1.2.2.2.2.2.2.2.1
  have k0_8 := fun p => (PF p).1.2.2.2.2.2.2.2.2.1
  have k0_9 := fun p => (PF p).1.2.2.2.2.2.2.2.2.2.1
  have k0_10 := fun p => (PF p).1.2.2.2.2.2.2.2.2.2.2
  have k1_0 := fun p => (PF p).2.1.1
  have k1_1 := fun p => (PF p).2.1.2.1
  have k1_2 := fun p => (PF p).2.1.2.2.1
  have k1_3 := fun p => (PF p).2.1.2.2.2.1
  have k1_4 := fun p => (PF p).2.1.2.2.2.2.1
  have k1_5 := fun p => (PF p).2.1.2.2.2.2.2.1
  have k1_6 := fun p => (PF p).2.1.2.2.2.2.2.2.1
  have k1_7 := fun p => (PF p).2.1.2.2.2.2.2.2.2.1
  have k1_8 := fun p => (PF p).2.1.2.2.2.2.2.2.2.2.1
  have k1_9 := fun p => (PF p).2.1.2.2.2.2.2.2.2.2.2.1
  have k1_10 := fun p => (PF p).2.1.2.2.2.2.2.2.2.2.2.2
  have k2_0 := fun p => (PF p).2.2.1
  have k2_1 := fun p => (PF p).2.2.2.1
  have k2_2 := fun p => (PF p).2.2.2.2.1
  have k2_3 := fun p => (PF p).2.2.2.2.2.1
  have k2_4 := fun p => (PF p).2.2.2.2.2.2.1
  have k2_5 := fun p => (PF p).2.2.2.2.2.2.2.1
  have k2_6 := fun p => (PF p).2.2.2.2.2.2.2.2.1
  have k2_7 := fun p => (PF p).2.2.2.2.2.2.2.2.2.1
  have k2_8 := fun p => (PF p).2.2.2.2.2.2.2.2.2.2.1
  have k2_9 := fun p => (PF p).2.2.2.2.2.2.2.2.2.2.2.1
  have k2_10 := fun p => (PF p).2.2.2.2.2.2.2.2.2.2.2.2
  clear PF
  refine Og.grow 6 (by kernel_rfl) (by kernel_rfl) fun hc hf => ?_
  clear hc hf
  simp only [List.take_succ_cons, List.take_zero, List.drop_succ_cons, List.drop_zero]
  iterate 2 (refine Og.det [] rfl (fun J hJ => ?_); go_simp; refine hJ _ _ ?_; clear hJ J)
  refine Og.det [] rfl (fun J hJ => ?_)
  go_simp
  with_reducible refine ⟨_, fun p => Og.lays (C1.out p.W), hJ _ _ ?_⟩
  clear hJ J
  (refine Og.det [] rfl (fun J hJ => ?_); go_simp; refine hJ _ _ ?_; clear hJ J)
  refine Og.det [] rfl (fun J hJ => ?_)
  go_simp
  with_reducible refine ⟨_, fun p => Og.lays (C2.out p.W), hJ _ _ ?_⟩
  clear hJ J
  refine Og.such 7 (Og.Box w1.heap.size #[.int .i64 0, .int .i64 0, .int .i64 0, .int .i64 0, .int .i64 0, .int .i64 0, .int .i64 0, .int .i64 0, .int .i64 0, .int .i64 0, .int .i64 0] 25) [] rfl (Og.Box.lasts _ _ _) (Og.Box.noBool _ _ _) (fun J hJ => ?_)
  go_simp
  refine ⟨fun p => Og.Box.new p.W _ p.h.size _ _, hJ _ _ ?_⟩
  clear hJ J
  refine Og.fin fun W1 hW => ?_
  simp only [Og.opened_cons, Og.opened_nil]
  intro v7 hv7
  obtain ⟨b7, rfl, hlo7, hlt7, hbx7⟩ := hv7
  have HN := Lib.hid (Bx.set11 hbx7 (.int .i64 xs1) (.int .i64 xi1) (.int .i64 xg1) (.int .i64 xm1) (.int .i64 xx1) (.int .i64 xy1) (.int .i64 xvx1) (.int .i64 xvy1) (.int .i64 xh1) (.int .i64 xp1) (.int .i64 xl1))
  have HX := HB.out.trans (hW.mono HB.out.size)
  have HP : Hid (Below w1.heap.size w1 (((((((((((W1.setCell ⟨b7, 0, none⟩ (.int .i64 xs1)).setCell ⟨b7, 1, none⟩ (.int .i64 xi1)).setCell ⟨b7, 2, none⟩ (.int .i64 xg1)).setCell ⟨b7, 3, none⟩ (.int .i64 xm1)).setCell ⟨b7, 4, none⟩ (.int .i64 xx1)).setCell ⟨b7, 5, none⟩ (.int .i64 xy1)).setCell ⟨b7, 6, none⟩ (.int .i64 xvx1)).setCell ⟨b7, 7, none⟩ (.int .i64 xvy1)).setCell ⟨b7, 8, none⟩ (.int .i64 xh1)).setCell ⟨b7, 9, none⟩ (.int .i64 xp1)).setCell ⟨b7, 10, none⟩ (.int .i64 xl1))) := Lib.hid (((((((((((HX.setCell (p := ⟨b7, 0, none⟩) (Nat.le_trans HB.out.size hlo7) _).setCell (p := ⟨b7, 1, none⟩) (Nat.le_trans HB.out.size hlo7) _).setCell (p := ⟨b7, 2, none⟩) (Nat.le_trans HB.out.size hlo7) _).setCell (p := ⟨b7, 3, none⟩) (Nat.le_trans HB.out.size hlo7) _).setCell (p := ⟨b7, 4, none⟩) (Nat.le_trans HB.out.size hlo7) _).setCell (p := ⟨b7, 5, none⟩) (Nat.le_trans HB.out.size hlo7) _).setCell (p := ⟨b7, 6, none⟩) (Nat.le_trans HB.out.size hlo7) _).setCell (p := ⟨b7, 7, none⟩) (Nat.le_trans HB.out.size hlo7) _).setCell (p := ⟨b7, 8, none⟩) (Nat.le_trans HB.out.size hlo7) _).setCell (p := ⟨b7, 9, none⟩) (Nat.le_trans HB.out.size hlo7) _).setCell (p := ⟨b7, 10, none⟩) (Nat.le_trans HB.out.size hlo7) _)
  obtain ⟨⟨z0, z1, z2, z3, z4, z5, z6, z7, z8, z9, z10⟩, ⟨y0, y1, y2, y3, y4, y5, y6, y7, y8, y9, y10⟩⟩ := Bx.b11 hbx7
  clear k0_0 k0_1 k0_2 k0_3 k0_4 k0_5 k0_6 k0_7 k0_8 k0_9 k0_10 k1_0 k1_1 k1_2 k1_3 k1_4 k1_5 k1_6 k1_7 k1_8 k1_9 k1_10 k2_0 k2_1 k2_2 k2_3 k2_4 k2_5 k2_6 k2_7 k2_8 k2_9 k2_10 HX hlo7 hlt7 hbx7 hW HB
  go_upto_region 2 with fail
  generalize (((((((((((W1.setCell ⟨b7, 0, none⟩ (.int .i64 xs1)).setCell ⟨b7, 1, none⟩ (.int .i64 xi1)).setCell ⟨b7, 2, none⟩ (.int .i64 xg1)).setCell ⟨b7, 3, none⟩ (.int .i64 xm1)).setCell ⟨b7, 4, none⟩ (.int .i64 xx1)).setCell ⟨b7, 5, none⟩ (.int .i64 xy1)).setCell ⟨b7, 6, none⟩ (.int .i64 xvx1)).setCell ⟨b7, 7, none⟩ (.int .i64 xvy1)).setCell ⟨b7, 8, none⟩ (.int .i64 xh1)).setCell ⟨b7, 9, none⟩ (.int .i64 xp1)).setCell ⟨b7, 10, none⟩ (.int .i64 xl1)) = V1 at *
  clear z0 z1 z2 z3 z4 z5 z6 z7 z8 z9 z10 y0 y1 y2 y3 y4 y5 y6 y7 y8 y9 y10
  have HB := HP
  clear HP
  have H7 := HN
  clear HN
  have PF := fun p : Lat grows V1 => (CE.out p.W (HB.out.trans (p.h.mono HB.out.size))).1
  have k0_0 := fun p => (PF p).1.1
  have k0_1 := fun p => (PF p).1.2.1
  have k0_2 := fun p => (PF p).1.2.2.1
  have k0_3 := fun p => (PF p).1.2.2.2.1
  have k0_4 := fun p => (PF p).1.2.2.2.2.1
  have k0_5 := fun p => (PF p).1.2.2.2.2.2.1
  have k0_6 := fun p => (PF p).1.2.2.2.2.2.2.1
  have k0_7 := fun p => (PF p).1.2.2.2.2.2.2.2.1
  have k0_8 := fun p => (PF p).1.2.2.2.2.2.2.2.2.1
  have k0_9 := fun p => (PF p).1.2.2.2.2.2.2.2.2.2.1
  have k0_10 := fun p => (PF p).1.2.2.2.2.2.2.2.2.2.2
  have k1_0 := fun p => (PF p).2.1.1
  have k1_1 := fun p => (PF p).2.1.2.1
  have k1_2 := fun p => (PF p).2.1.2.2.1
  have k1_3 := fun p => (PF p).2.1.2.2.2.1
  have k1_4 := fun p => (PF p).2.1.2.2.2.2.1
  have k1_5 := fun p => (PF p).2.1.2.2.2.2.2.1
  have k1_6 := fun p => (PF p).2.1.2.2.2.2.2.2.1
  have k1_7 := fun p => (PF p).2.1.2.2.2.2.2.2.2.1
  have k1_8 := fun p => (PF p).2.1.2.2.2.2.2.2.2.2.1
  have k1_9 := fun p => (PF p).2.1.2.2.2.2.2.2.2.2.2.1
  have k1_10 := fun p => (PF p).2.1.2.2.2.2.2.2.2.2.2.2
  have k2_0 := fun p => (PF p).2.2.1
  have k2_1 := fun p => (PF p).2.2.2.1
  have k2_2 := fun p => (PF p).2.2.2.2.1
  have k2_3 := fun p => (PF p).2.2.2.2.2.1
  have k2_4 := fun p => (PF p).2.2.2.2.2.2.1
  have k2_5 := fun p => (PF p).2.2.2.2.2.2.2.1
  have k2_6 := fun p => (PF p).2.2.2.2.2.2.2.2.1
  have k2_7 := fun p => (PF p).2.2.2.2.2.2.2.2.2.1
  have k2_8 := fun p => (PF p).2.2.2.2.2.2.2.2.2.2.1
  have k2_9 := fun p => (PF p).2.2.2.2.2.2.2.2.2.2.2.1
  have k2_10 := fun p => (PF p).2.2.2.2.2.2.2.2.2.2.2.2
  clear PF
  have PD := fun p : Lat grows V1 => (Bx.b11 ((p.h.block _ (Bx.lt H7.out)).trans H7.out)).1
  have d7_0 := fun p => (PD p).1
  have d7_1 := fun p => (PD p).2.1
  have d7_2 := fun p => (PD p).2.2.1
  have d7_3 := fun p => (PD p).2.2.2.1
  have d7_4 := fun p => (PD p).2.2.2.2.1
  have d7_5 := fun p => (PD p).2.2.2.2.2.1
  have d7_6 := fun p => (PD p).2.2.2.2.2.2.1
  have d7_7 := fun p => (PD p).2.2.2.2.2.2.2.1
  have d7_8 := fun p => (PD p).2.2.2.2.2.2.2.2.1
  have d7_9 := fun p => (PD p).2.2.2.2.2.2.2.2.2.1
  have d7_10 := fun p => (PD p).2.2.2.2.2.2.2.2.2.2
  clear PD
  refine Og.grow 6 (by kernel_rfl) (by kernel_rfl) fun hc hf => ?_
  clear hc hf
  simp only [List.take_succ_cons, List.take_zero, List.drop_succ_cons, List.drop_zero]
  iterate 3 (refine Og.det [] rfl (fun J hJ => ?_); go_simp; refine hJ _ _ ?_; clear hJ J)
  refine Og.det [] rfl (fun J hJ => ?_)
  go_simp
  with_reducible refine ⟨_, fun p => Og.lays (C3.out p.W), hJ _ _ ?_⟩
  clear hJ J
  refine Og.det [] rfl (fun J hJ => ?_)
  go_simp
  with_reducible refine ⟨_, fun p => Og.lays (C4.out p.W), hJ _ _ ?_⟩
  clear hJ J
  refine Og.such 8 (Og.Box V1.heap.size #[.int .i64 0, .int .i64 0, .int .i64 0, .int .i64 0, .int .i64 0, .int .i64 0, .int .i64 0, .int .i64 0, .int .i64 0, .int .i64 0, .int .i64 0] 25) [] rfl (Og.Box.lasts _ _ _) (Og.Box.noBool _ _ _) (fun J hJ => ?_)
  go_simp
  refine ⟨fun p => Og.Box.new p.W _ p.h.size _ _, hJ _ _ ?_⟩
  clear hJ J
  refine Og.fin fun W2 hW => ?_
  simp only [Og.opened_cons, Og.opened_nil]
  intro v8 hv8
  obtain ⟨b8, rfl, hlo8, hlt8, hbx8⟩ := hv8
  have HN := Lib.hid (Bx.set11 hbx8 (.int .i64 xs1) (.int .i64 xi1) (.int .i64 xg1) (.int .i64 xm1) (.int .i64 xx1) (.int .i64 xy1) (.int .i64 xvx1) (.int .i64 xvy1) (.int .i64 xh1) (.int .i64 xp1) (.int .i64 xl1))
  have HX := HB.out.trans (hW.mono HB.out.size)
  have HP : Hid (Below w1.heap.size w1 (((((((((((W2.setCell ⟨b8, 0, none⟩ (.int .i64 xs1)).setCell ⟨b8, 1, none⟩ (.int .i64 xi1)).setCell ⟨b8, 2, none⟩ (.int .i64 xg1)).setCell ⟨b8, 3, none⟩ (.int .i64 xm1)).setCell ⟨b8, 4, none⟩ (.int .i64 xx1)).setCell ⟨b8, 5, none⟩ (.int .i64 xy1)).setCell ⟨b8, 6, none⟩ (.int .i64 xvx1)).setCell ⟨b8, 7, none⟩ (.int .i64 xvy1)).setCell ⟨b8, 8, none⟩ (.int .i64 xh1)).setCell ⟨b8, 9, none⟩ (.int .i64 xp1)).setCell ⟨b8, 10, none⟩ (.int .i64 xl1))) := Lib.hid (((((((((((HX.setCell (p := ⟨b8, 0, none⟩) (Nat.le_trans HB.out.size hlo8) _).setCell (p := ⟨b8, 1, none⟩) (Nat.le_trans HB.out.size hlo8) _).setCell (p := ⟨b8, 2, none⟩) (Nat.le_trans HB.out.size hlo8) _).setCell (p := ⟨b8, 3, none⟩) (Nat.le_trans HB.out.size hlo8) _).setCell (p := ⟨b8, 4, none⟩) (Nat.le_trans HB.out.size hlo8) _).setCell (p := ⟨b8, 5, none⟩) (Nat.le_trans HB.out.size hlo8) _).setCell (p := ⟨b8, 6, none⟩) (Nat.le_trans HB.out.size hlo8) _).setCell (p := ⟨b8, 7, none⟩) (Nat.le_trans HB.out.size hlo8) _).setCell (p := ⟨b8, 8, none⟩) (Nat.le_trans HB.out.size hlo8) _).setCell (p := ⟨b8, 9, none⟩) (Nat.le_trans HB.out.size hlo8) _).setCell (p := ⟨b8, 10, none⟩) (Nat.le_trans HB.out.size hlo8) _)
  have hne7 : b7 ≠ b8 := by have := Bx.lt H7.out; omega
  have HK7 : Hid ((((((((((((W2.setCell ⟨b8, 0, none⟩ (.int .i64 xs1)).setCell ⟨b8, 1, none⟩ (.int .i64 xi1)).setCell ⟨b8, 2, none⟩ (.int .i64 xg1)).setCell ⟨b8, 3, none⟩ (.int .i64 xm1)).setCell ⟨b8, 4, none⟩ (.int .i64 xx1)).setCell ⟨b8, 5, none⟩ (.int .i64 xy1)).setCell ⟨b8, 6, none⟩ (.int .i64 xvx1)).setCell ⟨b8, 7, none⟩ (.int .i64 xvy1)).setCell ⟨b8, 8, none⟩ (.int .i64 xh1)).setCell ⟨b8, 9, none⟩ (.int .i64 xp1)).setCell ⟨b8, 10, none⟩ (.int .i64 xl1)).heap[b7]? = some (.cells #[.int .i64 xs1, .int .i64 xi1, .int .i64 xg1, .int .i64 xm1, .int .i64 xx1, .int .i64 xy1, .int .i64 xvx1, .int .i64 xvy1, .int .i64 xh1, .int .i64 xp1, .int .i64 xl1] 25 (0, 0))) := Lib.hid (by simp only [Bx.ne hne7]; exact (hW.block _ (Bx.lt H7.out)).trans H7.out)
  obtain ⟨⟨z0, z1, z2, z3, z4, z5, z6, z7, z8, z9, z10⟩, ⟨y0, y1, y2, y3, y4, y5, y6, y7, y8, y9, y10⟩⟩ := Bx.b11 hbx8
  clear k0_0 k0_1 k0_2 k0_3 k0_4 k0_5 k0_6 k0_7 k0_8 k0_9 k0_10 k1_0 k1_1 k1_2 k1_3 k1_4 k1_5 k1_6 k1_7 k1_8 k1_9 k1_10 k2_0 k2_1 k2_2 k2_3 k2_4 k2_5 k2_6 k2_7 k2_8 k2_9 k2_10 d7_0 d7_1 d7_2 d7_3 d7_4 d7_5 d7_6 d7_7 d7_8 d7_9 d7_10 HX hlo8 hlt8 hbx8 hne7 H7 hW HB
  go_upto_region 3 with fail
  generalize (((((((((((W2.setCell ⟨b8, 0, none⟩ (.int .i64 xs1)).setCell ⟨b8, 1, none⟩ (.int .i64 xi1)).setCell ⟨b8, 2, none⟩ (.int .i64 xg1)).setCell ⟨b8, 3, none⟩ (.int .i64 xm1)).setCell ⟨b8, 4, none⟩ (.int .i64 xx1)).setCell ⟨b8, 5, none⟩ (.int .i64 xy1)).setCell ⟨b8, 6, none⟩ (.int .i64 xvx1)).setCell ⟨b8, 7, none⟩ (.int .i64 xvy1)).setCell ⟨b8, 8, none⟩ (.int .i64 xh1)).setCell ⟨b8, 9, none⟩ (.int .i64 xp1)).setCell ⟨b8, 10, none⟩ (.int .i64 xl1)) = V2 at *
  clear z0 z1 z2 z3 z4 z5 z6 z7 z8 z9 z10 y0 y1 y2 y3 y4 y5 y6 y7 y8 y9 y10
  have HB := HP
  clear HP
  have H8 := HN
  clear HN
  have H7 := HK7
  clear HK7
  have PF := fun p : Lat grows V2 => (CE.out p.W (HB.out.trans (p.h.mono HB.out.size))).1
  have k0_0 := fun p => (PF p).1.1
  have k0_1 := fun p => (PF p).1.2.1
  have k0_2 := fun p => (PF p).1.2.2.1
  have k0_3 := fun p => (PF p).1.2.2.2.1
  have k0_4 := fun p => (PF p).1.2.2.2.2.1
  have k0_5 := fun p => (PF p).1.2.2.2.2.2.1
  have k0_6 := fun p => (PF p).1.2.2.2.2.2.2.1
  have k0_7 := fun p => (PF p).1.2.2.2.2.2.2.2.1
  have k0_8 := fun p => (PF p).1.2.2.2.2.2.2.2.2.1
  have k0_9 := fun p => (PF p).1.2.2.2.2.2.2.2.2.2.1
  have k0_10 := fun p => (PF p).1.2.2.2.2.2.2.2.2.2.2
  have k1_0 := fun p => (PF p).2.1.1
  have k1_1 := fun p => (PF p).2.1.2.1
  have k1_2 := fun p => (PF p).2.1.2.2.1
  have k1_3 := fun p => (PF p).2.1.2.2.2.1
  have k1_4 := fun p => (PF p).2.1.2.2.2.2.1
  have k1_5 := fun p => (PF p).2.1.2.2.2.2.2.1
  have k1_6 := fun p => (PF p).2.1.2.2.2.2.2.2.1
  have k1_7 := fun p => (PF p).2.1.2.2.2.2.2.2.2.1
  have k1_8 := fun p => (PF p).2.1.2.2.2.2.2.2.2.2.1
  have k1_9 := fun p => (PF p).2.1.2.2.2.2.2.2.2.2.2.1
  have k1_10 := fun p => (PF p).2.1.2.2.2.2.2.2.2.2.2.2
  have k2_0 := fun p => (PF p).2.2.1
  have k2_1 := fun p => (PF p).2.2.2.1
  have k2_2 := fun p => (PF p).2.2.2.2.1
  have k2_3 := fun p => (PF p).2.2.2.2.2.1
  have k2_4 := fun p => (PF p).2.2.2.2.2.2.1
  have k2_5 := fun p => (PF p).2.2.2.2.2.2.2.1
  have k2_6 := fun p => (PF p).2.2.2.2.2.2.2.2.1
  have k2_7 := fun p => (PF p).2.2.2.2.2.2.2.2.2.1
  have k2_8 := fun p => (PF p).2.2.2.2.2.2.2.2.2.2.1
  have k2_9 := fun p => (PF p).2.2.2.2.2.2.2.2.2.2.2.1
  have k2_10 := fun p => (PF p).2.2.2.2.2.2.2.2.2.2.2.2
  clear PF
  have PD := fun p : Lat grows V2 => (Bx.b11 ((p.h.block _ (Bx.lt H7.out)).trans H7.out)).1
  have d7_0 := fun p => (PD p).1
  have d7_1 := fun p => (PD p).2.1
  have d7_2 := fun p => (PD p).2.2.1
  have d7_3 := fun p => (PD p).2.2.2.1
  have d7_4 := fun p => (PD p).2.2.2.2.1
  have d7_5 := fun p => (PD p).2.2.2.2.2.1
  have d7_6 := fun p => (PD p).2.2.2.2.2.2.1
  have d7_7 := fun p => (PD p).2.2.2.2.2.2.2.1
  have d7_8 := fun p => (PD p).2.2.2.2.2.2.2.2.1
  have d7_9 := fun p => (PD p).2.2.2.2.2.2.2.2.2.1
  have d7_10 := fun p => (PD p).2.2.2.2.2.2.2.2.2.2
  clear PD
  have PD := fun p : Lat grows V2 => (Bx.b11 ((p.h.block _ (Bx.lt H8.out)).trans H8.out)).1
  have d8_0 := fun p => (PD p).1
  have d8_1 := fun p => (PD p).2.1
  have d8_2 := fun p => (PD p).2.2.1
  have d8_3 := fun p => (PD p).2.2.2.1
  have d8_4 := fun p => (PD p).2.2.2.2.1
  have d8_5 := fun p => (PD p).2.2.2.2.2.1
  have d8_6 := fun p => (PD p).2.2.2.2.2.2.1
  have d8_7 := fun p => (PD p).2.2.2.2.2.2.2.1
  have d8_8 := fun p => (PD p).2.2.2.2.2.2.2.2.1
  have d8_9 := fun p => (PD p).2.2.2.2.2.2.2.2.2.1
  have d8_10 := fun p => (PD p).2.2.2.2.2.2.2.2.2.2
  clear PD
  refine Og.grow 8 (by kernel_rfl) (by kernel_rfl) fun hc hf => ?_
  clear hc hf
  simp only [List.take_succ_cons, List.take_zero, List.drop_succ_cons, List.drop_zero]
  iterate 3 (refine Og.det [] rfl (fun J hJ => ?_); go_simp; refine hJ _ _ ?_; clear hJ J)
  refine Og.det [] rfl (fun J hJ => ?_)
  go_simp
  with_reducible refine ⟨_, fun p => Og.lays (C5.out p.W), hJ _ _ ?_⟩
  clear hJ J
  iterate 2 (refine Og.det [] rfl (fun J hJ => ?_); go_simp; refine hJ _ _ ?_; clear hJ J)
  refine Og.det [] rfl (fun J hJ => ?_)
  go_simp
  with_reducible refine ⟨_, fun p => Og.lays (C6.out p.W), hJ _ _ ?_⟩
  clear hJ J
  refine Og.such 9 (Og.Box V2.heap.size #[.int .i64 0, .int .i64 0, .int .i64 0, .int .i64 0, .int .i64 0, .int .i64 0, .int .i64 0, .int .i64 0, .int .i64 0, .int .i64 0, .int .i64 0] 25) [] rfl (Og.Box.lasts _ _ _) (Og.Box.noBool _ _ _) (fun J hJ => ?_)
  go_simp
  refine ⟨fun p => Og.Box.new p.W _ p.h.size _ _, hJ _ _ ?_⟩
  clear hJ J
  refine Og.fin fun W3 hW => ?_
  simp only [Og.opened_cons, Og.opened_nil]
  intro v9 hv9
  obtain ⟨b9, rfl, hlo9, hlt9, hbx9⟩ := hv9
  have HN := Lib.hid (Bx.set11 hbx9 (.int .i64 ys1) (.int .i64 yi1) (.int .i64 yg1) (.int .i64 ym1) (.int .i64 yx1) (.int .i64 yy1) (.int .i64 yvx1) (.int .i64 yvy1) (.int .i64 yh1) (.int .i64 yp1) (.int .i64 yl1))
  have HX := HB.out.trans (hW.mono HB.out.size)
  have HP : Hid (Below w1.heap.size w1 (((((((((((W3.setCell ⟨b9, 0, none⟩ (.int .i64 ys1)).setCell ⟨b9, 1, none⟩ (.int .i64 yi1)).setCell ⟨b9, 2, none⟩ (.int .i64 yg1)).setCell ⟨b9, 3, none⟩ (.int .i64 ym1)).setCell ⟨b9, 4, none⟩ (.int .i64 yx1)).setCell ⟨b9, 5, none⟩ (.int .i64 yy1)).setCell ⟨b9, 6, none⟩ (.int .i64 yvx1)).setCell ⟨b9, 7, none⟩ (.int .i64 yvy1)).setCell ⟨b9, 8, none⟩ (.int .i64 yh1)).setCell ⟨b9, 9, none⟩ (.int .i64 yp1)).setCell ⟨b9, 10, none⟩ (.int .i64 yl1))) := Lib.hid (((((((((((HX.setCell (p := ⟨b9, 0, none⟩) (Nat.le_trans HB.out.size hlo9) _).setCell (p := ⟨b9, 1, none⟩) (Nat.le_trans HB.out.size hlo9) _).setCell (p := ⟨b9, 2, none⟩) (Nat.le_trans HB.out.size hlo9) _).setCell (p := ⟨b9, 3, none⟩) (Nat.le_trans HB.out.size hlo9) _).setCell (p := ⟨b9, 4, none⟩) (Nat.le_trans HB.out.size hlo9) _).setCell (p := ⟨b9, 5, none⟩) (Nat.le_trans HB.out.size hlo9) _).setCell (p := ⟨b9, 6, none⟩) (Nat.le_trans HB.out.size hlo9) _).setCell (p := ⟨b9, 7, none⟩) (Nat.le_trans HB.out.size hlo9) _).setCell (p := ⟨b9, 8, none⟩) (Nat.le_trans HB.out.size hlo9) _).setCell (p := ⟨b9, 9, none⟩) (Nat.le_trans HB.out.size hlo9) _).setCell (p := ⟨b9, 10, none⟩) (Nat.le_trans HB.out.size hlo9) _)
  have hne7 : b7 ≠ b9 := by have := Bx.lt H7.out; omega
  have HK7 : Hid ((((((((((((W3.setCell ⟨b9, 0, none⟩ (.int .i64 ys1)).setCell ⟨b9, 1, none⟩ (.int .i64 yi1)).setCell ⟨b9, 2, none⟩ (.int .i64 yg1)).setCell ⟨b9, 3, none⟩ (.int .i64 ym1)).setCell ⟨b9, 4, none⟩ (.int .i64 yx1)).setCell ⟨b9, 5, none⟩ (.int .i64 yy1)).setCell ⟨b9, 6, none⟩ (.int .i64 yvx1)).setCell ⟨b9, 7, none⟩ (.int .i64 yvy1)).setCell ⟨b9, 8, none⟩ (.int .i64 yh1)).setCell ⟨b9, 9, none⟩ (.int .i64 yp1)).setCell ⟨b9, 10, none⟩ (.int .i64 yl1)).heap[b7]? = some (.cells #[.int .i64 xs1, .int .i64 xi1, .int .i64 xg1, .int .i64 xm1, .int .i64 xx1, .int .i64 xy1, .int .i64 xvx1, .int .i64 xvy1, .int .i64 xh1, .int .i64 xp1, .int .i64 xl1] 25 (0, 0))) := Lib.hid (by simp only [Bx.ne hne7]; exact (hW.block _ (Bx.lt H7.out)).trans H7.out)
  have hne8 : b8 ≠ b9 := by have := Bx.lt H8.out; omega
  have HK8 : Hid ((((((((((((W3.setCell ⟨b9, 0, none⟩ (.int .i64 ys1)).setCell ⟨b9, 1, none⟩ (.int .i64 yi1)).setCell ⟨b9, 2, none⟩ (.int .i64 yg1)).setCell ⟨b9, 3, none⟩ (.int .i64 ym1)).setCell ⟨b9, 4, none⟩ (.int .i64 yx1)).setCell ⟨b9, 5, none⟩ (.int .i64 yy1)).setCell ⟨b9, 6, none⟩ (.int .i64 yvx1)).setCell ⟨b9, 7, none⟩ (.int .i64 yvy1)).setCell ⟨b9, 8, none⟩ (.int .i64 yh1)).setCell ⟨b9, 9, none⟩ (.int .i64 yp1)).setCell ⟨b9, 10, none⟩ (.int .i64 yl1)).heap[b8]? = some (.cells #[.int .i64 xs1, .int .i64 xi1, .int .i64 xg1, .int .i64 xm1, .int .i64 xx1, .int .i64 xy1, .int .i64 xvx1, .int .i64 xvy1, .int .i64 xh1, .int .i64 xp1, .int .i64 xl1] 25 (0, 0))) := Lib.hid (by simp only [Bx.ne hne8]; exact (hW.block _ (Bx.lt H8.out)).trans H8.out)
  obtain ⟨⟨z0, z1, z2, z3, z4, z5, z6, z7, z8, z9, z10⟩, ⟨y0, y1, y2, y3, y4, y5, y6, y7, y8, y9, y10⟩⟩ := Bx.b11 hbx9
  clear k0_0 k0_1 k0_2 k0_3 k0_4 k0_5 k0_6 k0_7 k0_8 k0_9 k0_10 k1_0 k1_1 k1_2 k1_3 k1_4 k1_5 k1_6 k1_7 k1_8 k1_9 k1_10 k2_0 k2_1 k2_2 k2_3 k2_4 k2_5 k2_6 k2_7 k2_8 k2_9 k2_10 d7_0 d7_1 d7_2 d7_3 d7_4 d7_5 d7_6 d7_7 d7_8 d7_9 d7_10 d8_0 d8_1 d8_2 d8_3 d8_4 d8_5 d8_6 d8_7 d8_8 d8_9 d8_10 HX hlo9 hlt9 hbx9 hne7 H7 hne8 H8 hW HB
  go_upto_region 4 with fail
  generalize (((((((((((W3.setCell ⟨b9, 0, none⟩ (.int .i64 ys1)).setCell ⟨b9, 1, none⟩ (.int .i64 yi1)).setCell ⟨b9, 2, none⟩ (.int .i64 yg1)).setCell ⟨b9, 3, none⟩ (.int .i64 ym1)).setCell ⟨b9, 4, none⟩ (.int .i64 yx1)).setCell ⟨b9, 5, none⟩ (.int .i64 yy1)).setCell ⟨b9, 6, none⟩ (.int .i64 yvx1)).setCell ⟨b9, 7, none⟩ (.int .i64 yvy1)).setCell ⟨b9, 8, none⟩ (.int .i64 yh1)).setCell ⟨b9, 9, none⟩ (.int .i64 yp1)).setCell ⟨b9, 10, none⟩ (.int .i64 yl1)) = V3 at *
  clear z0 z1 z2 z3 z4 z5 z6 z7 z8 z9 z10 y0 y1 y2 y3 y4 y5 y6 y7 y8 y9 y10
  have HB := HP
  clear HP
  have H9 := HN
  clear HN
  have H7 := HK7
  clear HK7
  have H8 := HK8
  clear HK8
  obtain ⟨⟨⟨k0_0, k0_1, k0_2, k0_3, k0_4, k0_5, k0_6, k0_7, k0_8, k0_9, k0_10⟩, ⟨k1_0, k1_1, k1_2, k1_3, k1_4, k1_5, k1_6, k1_7, k1_8, k1_9, k1_10⟩, ⟨k2_0, k2_1, k2_2, k2_3, k2_4, k2_5, k2_6, k2_7, k2_8, k2_9, k2_10⟩⟩, FB⟩ := CE.out V3 HB.out
  clear FB
  go_upto_region 5 with (go_at_call 21; with_reducible refine (C7.out _).mono ?_; rintro e W9 ⟨rfl, hb2⟩; clear k0_0 k0_1 k0_2 k0_3 k0_4 k0_5 k0_6 k0_7 k0_8 k0_9 k0_10 k1_0 k1_1 k1_2 k1_3 k1_4 k1_5 k1_6 k1_7 k1_8 k1_9 k1_10 k2_0 k2_1 k2_2 k2_3 k2_4 k2_5 k2_6 k2_7 k2_8 k2_9 k2_10; replace HB := Lib.hid (HB.out.trans (hb2.mono HB.out.size)); replace H7 := Lib.hid ((hb2.block _ (Bx.lt H7.out)).trans H7.out); replace H8 := Lib.hid ((hb2.block _ (Bx.lt H8.out)).trans H8.out); replace H9 := Lib.hid ((hb2.block _ (Bx.lt H9.out)).trans H9.out); clear hb2)
  have HA := Lib.hid (at1 W9 (.cells #[.int .i64 ys1, .int .i64 yi1, .int .i64 yg1, .int .i64 ym1, .int .i64 yx1, .int .i64 yy1, .int .i64 yvx1, .int .i64 yvy1, .int .i64 yh1, .int .i64 yp1, .int .i64 yl1] 25))
  have BA := bel1 W9 (.cells #[.int .i64 ys1, .int .i64 yi1, .int .i64 yg1, .int .i64 ym1, .int .i64 yx1, .int .i64 yy1, .int .i64 yvx1, .int .i64 yvy1, .int .i64 yh1, .int .i64 yp1, .int .i64 yl1] 25)
  replace HB := Lib.hid (HB.out.trans (BA.mono HB.out.size))
  replace H7 := Lib.hid ((BA.block _ (Bx.lt H7.out)).trans H7.out)
  replace H8 := Lib.hid ((BA.block _ (Bx.lt H8.out)).trans H8.out)
  replace H9 := Lib.hid ((BA.block _ (Bx.lt H9.out)).trans H9.out)
  clear BA
  generalize hb10 : W9.heap.size = b10 at *
  clear hb10
  generalize W9.alloc (.cells #[.int .i64 ys1, .int .i64 yi1, .int .i64 yg1, .int .i64 ym1, .int .i64 yx1, .int .i64 yy1, .int .i64 yvx1, .int .i64 yvy1, .int .i64 yh1, .int .i64 yp1, .int .i64 yl1] 25) = V9 at *
  have H10 := HA
  clear HA
  have PF := fun p : Lat grows V9 => (CE.out p.W (HB.out.trans (p.h.mono HB.out.size))).1
  have k0_0 := fun p => (PF p).1.1
  have k0_1 := fun p => (PF p).1.2.1
  have k0_2 := fun p => (PF p).1.2.2.1
  have k0_3 := fun p => (PF p).1.2.2.2.1
  have k0_4 := fun p => (PF p).1.2.2.2.2.1
  have k0_5 := fun p => (PF p).1.2.2.2.2.2.1
  have k0_6 := fun p => (PF p).1.2.2.2.2.2.2.1
  have k0_7 := fun p => (PF p).1.2.2.2.2.2.2.2.1
  have k0_8 := fun p => (PF p).1.2.2.2.2.2.2.2.2.1
  have k0_9 := fun p => (PF p).1.2.2.2.2.2.2.2.2.2.1
  have k0_10 := fun p => (PF p).1.2.2.2.2.2.2.2.2.2.2
  have k1_0 := fun p => (PF p).2.1.1
  have k1_1 := fun p => (PF p).2.1.2.1
  have k1_2 := fun p => (PF p).2.1.2.2.1
  have k1_3 := fun p => (PF p).2.1.2.2.2.1
  have k1_4 := fun p => (PF p).2.1.2.2.2.2.1
  have k1_5 := fun p => (PF p).2.1.2.2.2.2.2.1
  have k1_6 := fun p => (PF p).2.1.2.2.2.2.2.2.1
  have k1_7 := fun p => (PF p).2.1.2.2.2.2.2.2.2.1
  have k1_8 := fun p => (PF p).2.1.2.2.2.2.2.2.2.2.1
  have k1_9 := fun p => (PF p).2.1.2.2.2.2.2.2.2.2.2.1
  have k1_10 := fun p => (PF p).2.1.2.2.2.2.2.2.2.2.2.2
  have k2_0 := fun p => (PF p).2.2.1
  have k2_1 := fun p => (PF p).2.2.2.1
  have k2_2 := fun p => (PF p).2.2.2.2.1
  have k2_3 := fun p => (PF p).2.2.2.2.2.1
  have k2_4 := fun p => (PF p).2.2.2.2.2.2.1
  have k2_5 := fun p => (PF p).2.2.2.2.2.2.2.1
  have k2_6 := fun p => (PF p).2.2.2.2.2.2.2.2.1
  have k2_7 := fun p => (PF p).2.2.2.2.2.2.2.2.2.1
  have k2_8 := fun p => (PF p).2.2.2.2.2.2.2.2.2.2.1
  have k2_9 := fun p => (PF p).2.2.2.2.2.2.2.2.2.2.2.1
  have k2_10 := fun p => (PF p).2.2.2.2.2.2.2.2.2.2.2.2
  clear PF
  have PD := fun p : Lat grows V9 => (Bx.b11 ((p.h.block _ (Bx.lt H7.out)).trans H7.out)).1
  have d7_0 := fun p => (PD p).1
  have d7_1 := fun p => (PD p).2.1
  have d7_2 := fun p => (PD p).2.2.1
  have d7_3 := fun p => (PD p).2.2.2.1
  have d7_4 := fun p => (PD p).2.2.2.2.1
  have d7_5 := fun p => (PD p).2.2.2.2.2.1
  have d7_6 := fun p => (PD p).2.2.2.2.2.2.1
  have d7_7 := fun p => (PD p).2.2.2.2.2.2.2.1
  have d7_8 := fun p => (PD p).2.2.2.2.2.2.2.2.1
  have d7_9 := fun p => (PD p).2.2.2.2.2.2.2.2.2.1
  have d7_10 := fun p => (PD p).2.2.2.2.2.2.2.2.2.2
  clear PD
  have PD := fun p : Lat grows V9 => (Bx.b11 ((p.h.block _ (Bx.lt H8.out)).trans H8.out)).1
  have d8_0 := fun p => (PD p).1
  have d8_1 := fun p => (PD p).2.1
  have d8_2 := fun p => (PD p).2.2.1
  have d8_3 := fun p => (PD p).2.2.2.1
  have d8_4 := fun p => (PD p).2.2.2.2.1
  have d8_5 := fun p => (PD p).2.2.2.2.2.1
  have d8_6 := fun p => (PD p).2.2.2.2.2.2.1
  have d8_7 := fun p => (PD p).2.2.2.2.2.2.2.1
  have d8_8 := fun p => (PD p).2.2.2.2.2.2.2.2.1
  have d8_9 := fun p => (PD p).2.2.2.2.2.2.2.2.2.1
  have d8_10 := fun p => (PD p).2.2.2.2.2.2.2.2.2.2
  clear PD
  have PD := fun p : Lat grows V9 => (Bx.b11 ((p.h.block _ (Bx.lt H9.out)).trans H9.out)).1
  have d9_0 := fun p => (PD p).1
  have d9_1 := fun p => (PD p).2.1
  have d9_2 := fun p => (PD p).2.2.1
  have d9_3 := fun p => (PD p).2.2.2.1
  have d9_4 := fun p => (PD p).2.2.2.2.1
  have d9_5 := fun p => (PD p).2.2.2.2.2.1
  have d9_6 := fun p => (PD p).2.2.2.2.2.2.1
  have d9_7 := fun p => (PD p).2.2.2.2.2.2.2.1
  have d9_8 := fun p => (PD p).2.2.2.2.2.2.2.2.1
  have d9_9 := fun p => (PD p).2.2.2.2.2.2.2.2.2.1
  have d9_10 := fun p => (PD p).2.2.2.2.2.2.2.2.2.2
  clear PD
  have PD := fun p : Lat grows V9 => (Bx.b11 ((p.h.block _ (Bx.lt H10.out)).trans H10.out)).1
  have d10_0 := fun p => (PD p).1
  have d10_1 := fun p => (PD p).2.1
  have d10_2 := fun p => (PD p).2.2.1
  have d10_3 := fun p => (PD p).2.2.2.1
  have d10_4 := fun p => (PD p).2.2.2.2.1
  have d10_5 := fun p => (PD p).2.2.2.2.2.1
  have d10_6 := fun p => (PD p).2.2.2.2.2.2.1
  have d10_7 := fun p => (PD p).2.2.2.2.2.2.2.1
  have d10_8 := fun p => (PD p).2.2.2.2.2.2.2.2.1
  have d10_9 := fun p => (PD p).2.2.2.2.2.2.2.2.2.1
  have d10_10 := fun p => (PD p).2.2.2.2.2.2.2.2.2.2
  clear PD
  refine Og.grow 25 (by kernel_rfl) (by kernel_rfl) fun hc hf => ?_
  clear hc hf
  simp only [List.take_succ_cons, List.take_zero, List.drop_succ_cons, List.drop_zero]
  iterate 9 (refine Og.det [] rfl (fun J hJ => ?_); go_simp; refine hJ _ _ ?_; clear hJ J)
  iterate 2 (refine Og.det [] rfl (fun J hJ => ?_); go_simp; refine hJ _ _ ?_; clear hJ J)
  refine Og.det [] rfl (fun J hJ => ?_)
  go_simp
  with_reducible refine ⟨_, fun p => Og.lays (C8.out p.W), hJ _ _ ?_⟩
  clear hJ J
  iterate 3 (refine Og.det [] rfl (fun J hJ => ?_); go_simp; refine hJ _ _ ?_; clear hJ J)
  (refine Og.det [] rfl (fun J hJ => ?_); go_simp; refine hJ _ _ ?_; clear hJ J)
  (refine Og.det [] rfl (fun J hJ => ?_); go_simp; refine hJ _ _ ?_; clear hJ J)
  refine Og.det [] rfl (fun J hJ => ?_)
  go_simp
  with_reducible refine ⟨_, fun p => Og.lays (C9.out p.W), hJ _ _ ?_⟩
  clear hJ J
  iterate 2 (refine Og.det [] rfl (fun J hJ => ?_); go_simp; refine hJ _ _ ?_; clear hJ J)
  (refine Og.det [] rfl (fun J hJ => ?_); go_simp; refine hJ _ _ ?_; clear hJ J)
  (refine Og.det [] rfl (fun J hJ => ?_); go_simp; refine hJ _ _ ?_; clear hJ J)
  refine Og.det [] rfl (fun J hJ => ?_)
  go_simp
  with_reducible refine ⟨_, fun p => Og.lays (AW.out p.W), hJ _ _ ?_⟩
  clear hJ J
  (refine Og.det [] rfl (fun J hJ => ?_); go_simp; refine hJ _ _ ?_; clear hJ J)
  (refine Og.det [] rfl (fun J hJ => ?_); go_simp; refine hJ _ _ ?_; clear hJ J)
  refine Og.fin fun W hW => ?_
  simp only [Og.opened_nil]
  have FB := (CE.out W (HB.out.trans (hW.mono HB.out.size))).2
  clear k0_0 k0_1 k0_2 k0_3 k0_4 k0_5 k0_6 k0_7 k0_8 k0_9 k0_10 k1_0 k1_1 k1_2 k1_3 k1_4 k1_5 k1_6 k1_7 k1_8 k1_9 k1_10 k2_0 k2_1 k2_2 k2_3 k2_4 k2_5 k2_6 k2_7 k2_8 k2_9 k2_10 d7_0 d7_1 d7_2 d7_3 d7_4 d7_5 d7_6 d7_7 d7_8 d7_9 d7_10 d8_0 d8_1 d8_2 d8_3 d8_4 d8_5 d8_6 d8_7 d8_8 d8_9 d8_10 d9_0 d9_1 d9_2 d9_3 d9_4 d9_5 d9_6 d9_7 d9_8 d9_9 d9_10 d10_0 d10_1 d10_2 d10_3 d10_4 d10_5 d10_6 d10_7 d10_8 d10_9 d10_10
  go_wp2
  go_ret
  exact ⟨rfl, FB⟩
end Go.Proofs.Ytookmjdnmmfkfaa
