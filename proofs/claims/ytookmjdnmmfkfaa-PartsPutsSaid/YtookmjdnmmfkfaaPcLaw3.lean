/- What is put and taken away. Written by wip/tools/genlawp.py. -/
import Derived.Test.YtookmjdnmmfkfaaPcAwake
import Derived.Test.YtookmjdnmmfkfaaPzRef4
import Derived.Test.YtookmjdnmmfkfaaPzRef5
import Derived.Test.YtookmjdnmmfkfaaOw
namespace Go.Proofs.Ytookmjdnmmfkfaa
open Go.RowKit Pz
set_option linter.unusedVariables false

set_option maxHeartbeats 16000000 in
set_option maxRecDepth 100000 in
theorem law_puts (w : World) (b c : Bn) (n : Int) (hb : b.Fits) (hc : c.Fits) (hn : Fit n) : Calls Try.prog 5 #[b.val, c.val, .int .i64 n] w fun e w' => e = .returned (.bool true) ∧ Below w.heap.size w w' := by
  have C1 : Hid (∀ W, Calls Try.prog 19 #[b.val, c.val] W fun e w' => e = .returned (withB b c).val ∧ Below W.heap.size W w') := Lib.hid fun W => cwith_any b c W
  have C2 : Hid (∀ W, Calls Try.prog 20 #[b.val, c.val] W fun e w' => e = .returned (withB b c).val ∧ Below W.heap.size W w') := Lib.hid fun W => rwith_any b c hc.m W
  have C3 : Hid (∀ W, Calls Try.prog 21 #[b.val, .int .i64 n] W fun e w' => e = .returned (withoutB b n).val ∧ Below W.heap.size W w') := Lib.hid fun W => cwithout_any b n W
  have C4 : Hid (∀ W, Calls Try.prog 22 #[b.val, .int .i64 n] W fun e w' => e = .returned (withoutB b n).val ∧ Below W.heap.size W w') := Lib.hid fun W => rwithout_any b n hn W
  have C5 : Hid (∀ W, Calls Try.prog 23 #[b.val, .int .i64 n] W fun e w' => e = .returned (.bool (hasB b.m n)) ∧ Below W.heap.size W w') := Lib.hid fun W => has_any b n W
  have AW : Hid (∀ W, Calls Try.prog 16 #[] W fun e w' => e = .returned (.bool true) ∧ Below W.heap.size W w') := Lib.hid fun W => awake_any W
  have Q1 : ∀ W : World, (Op.equalIn 10000 25 (withB b c).val (withB b c).val).run Try.prog W = .ok true W := fun W => same_refl (withB b c) W
  have Q2 : ∀ W : World, (Op.equalIn 10000 25 (withoutB b n).val (withoutB b n).val).run Try.prog W = .ok true W := fun W => same_refl (withoutB b n) W
  obtain ⟨r, hr⟩ : ∃ r, bits .and .i64 b.m n = r := ⟨_, rfl⟩
  obtain ⟨t, ht⟩ : ∃ t, (r == n) = t := ⟨_, rfl⟩
  have e5 : hasB b.m n = t := by unfold hasB; rw [hr, ht]
  rw [e5] at C5
  clear e5 hb hc hn
  generalize withB b c = X at *
  generalize withoutB b n = Y at *
  obtain ⟨qs1, qi1, qg1, qm1, qx1, qy1, qvx1, qvy1, qh1, qp1, ql1⟩ := b
  obtain ⟨rs1, ri1, rg1, rm1, rx1, ry1, rvx1, rvy1, rh1, rp1, rl1⟩ := c
  obtain ⟨xs1, xi1, xg1, xm1, xx1, xy1, xvx1, xvy1, xh1, xp1, xl1⟩ := X
  obtain ⟨ys1, yi1, yg1, ym1, yx1, yy1, yvx1, yvy1, yh1, yp1, yl1⟩ := Y
  simp only [Bn.val] at *
  have T0 := at2a w (.cells #[.int .i64 qs1, .int .i64 qi1, .int .i64 qg1, .int .i64 qm1, .int .i64 qx1, .int .i64 qy1, .int .i64 qvx1, .int .i64 qvy1, .int .i64 qh1, .int .i64 qp1, .int .i64 ql1] 25) (.cells #[.int .i64 rs1, .int .i64 ri1, .int .i64 rg1, .int .i64 rm1, .int .i64 rx1, .int .i64 ry1, .int .i64 rvx1, .int .i64 rvy1, .int .i64 rh1, .int .i64 rp1, .int .i64 rl1] 25)
  have T1 := at2b w (.cells #[.int .i64 qs1, .int .i64 qi1, .int .i64 qg1, .int .i64 qm1, .int .i64 qx1, .int .i64 qy1, .int .i64 qvx1, .int .i64 qvy1, .int .i64 qh1, .int .i64 qp1, .int .i64 ql1] 25) (.cells #[.int .i64 rs1, .int .i64 ri1, .int .i64 rg1, .int .i64 rm1, .int .i64 rx1, .int .i64 ry1, .int .i64 rvx1, .int .i64 rvy1, .int .i64 rh1, .int .i64 rp1, .int .i64 rl1] 25)
  have BE := bel2 w (.cells #[.int .i64 qs1, .int .i64 qi1, .int .i64 qg1, .int .i64 qm1, .int .i64 qx1, .int .i64 qy1, .int .i64 qvx1, .int .i64 qvy1, .int .i64 qh1, .int .i64 qp1, .int .i64 ql1] 25) (.cells #[.int .i64 rs1, .int .i64 ri1, .int .i64 rg1, .int .i64 rm1, .int .i64 rx1, .int .i64 ry1, .int .i64 rvx1, .int .i64 rvy1, .int .i64 rh1, .int .i64 rp1, .int .i64 rl1] 25)
  have CE : Hid (∀ W, Below ((w.alloc (.cells #[.int .i64 qs1, .int .i64 qi1, .int .i64 qg1, .int .i64 qm1, .int .i64 qx1, .int .i64 qy1, .int .i64 qvx1, .int .i64 qvy1, .int .i64 qh1, .int .i64 qp1, .int .i64 ql1] 25)).alloc (.cells #[.int .i64 rs1, .int .i64 ri1, .int .i64 rg1, .int .i64 rm1, .int .i64 rx1, .int .i64 ry1, .int .i64 rvx1, .int .i64 rvy1, .int .i64 rh1, .int .i64 rp1, .int .i64 rl1] 25)).heap.size ((w.alloc (.cells #[.int .i64 qs1, .int .i64 qi1, .int .i64 qg1, .int .i64 qm1, .int .i64 qx1, .int .i64 qy1, .int .i64 qvx1, .int .i64 qvy1, .int .i64 qh1, .int .i64 qp1, .int .i64 ql1] 25)).alloc (.cells #[.int .i64 rs1, .int .i64 ri1, .int .i64 rg1, .int .i64 rm1, .int .i64 rx1, .int .i64 ry1, .int .i64 rvx1, .int .i64 rvy1, .int .i64 rh1, .int .i64 rp1, .int .i64 rl1] 25)) W → ((W.cell? ⟨w.heap.size, 0, none⟩ = some (.int .i64 qs1) ∧ W.cell? ⟨w.heap.size, 1, none⟩ = some (.int .i64 qi1) ∧ W.cell? ⟨w.heap.size, 2, none⟩ = some (.int .i64 qg1) ∧ W.cell? ⟨w.heap.size, 3, none⟩ = some (.int .i64 qm1) ∧ W.cell? ⟨w.heap.size, 4, none⟩ = some (.int .i64 qx1) ∧ W.cell? ⟨w.heap.size, 5, none⟩ = some (.int .i64 qy1) ∧ W.cell? ⟨w.heap.size, 6, none⟩ = some (.int .i64 qvx1) ∧ W.cell? ⟨w.heap.size, 7, none⟩ = some (.int .i64 qvy1) ∧ W.cell? ⟨w.heap.size, 8, none⟩ = some (.int .i64 qh1) ∧ W.cell? ⟨w.heap.size, 9, none⟩ = some (.int .i64 qp1) ∧ W.cell? ⟨w.heap.size, 10, none⟩ = some (.int .i64 ql1)) ∧ (W.cell? ⟨w.heap.size + 1, 0, none⟩ = some (.int .i64 rs1) ∧ W.cell? ⟨w.heap.size + 1, 1, none⟩ = some (.int .i64 ri1) ∧ W.cell? ⟨w.heap.size + 1, 2, none⟩ = some (.int .i64 rg1) ∧ W.cell? ⟨w.heap.size + 1, 3, none⟩ = some (.int .i64 rm1) ∧ W.cell? ⟨w.heap.size + 1, 4, none⟩ = some (.int .i64 rx1) ∧ W.cell? ⟨w.heap.size + 1, 5, none⟩ = some (.int .i64 ry1) ∧ W.cell? ⟨w.heap.size + 1, 6, none⟩ = some (.int .i64 rvx1) ∧ W.cell? ⟨w.heap.size + 1, 7, none⟩ = some (.int .i64 rvy1) ∧ W.cell? ⟨w.heap.size + 1, 8, none⟩ = some (.int .i64 rh1) ∧ W.cell? ⟨w.heap.size + 1, 9, none⟩ = some (.int .i64 rp1) ∧ W.cell? ⟨w.heap.size + 1, 10, none⟩ = some (.int .i64 rl1))) ∧ Below w.heap.size w W) := Lib.hid fun W hW => ⟨⟨(Bx.b11 ((hW.block _ (Bx.lt T0)).trans T0)).1, (Bx.b11 ((hW.block _ (Bx.lt T1)).trans T1)).1⟩, BE.trans (hW.mono BE.size)⟩
  have HB := Lib.hid (Below.refl ((w.alloc (.cells #[.int .i64 qs1, .int .i64 qi1, .int .i64 qg1, .int .i64 qm1, .int .i64 qx1, .int .i64 qy1, .int .i64 qvx1, .int .i64 qvy1, .int .i64 qh1, .int .i64 qp1, .int .i64 ql1] 25)).alloc (.cells #[.int .i64 rs1, .int .i64 ri1, .int .i64 rg1, .int .i64 rm1, .int .i64 rx1, .int .i64 ry1, .int .i64 rvx1, .int .i64 rvy1, .int .i64 rh1, .int .i64 rp1, .int .i64 rl1] 25)).heap.size ((w.alloc (.cells #[.int .i64 qs1, .int .i64 qi1, .int .i64 qg1, .int .i64 qm1, .int .i64 qx1, .int .i64 qy1, .int .i64 qvx1, .int .i64 qvy1, .int .i64 qh1, .int .i64 qp1, .int .i64 ql1] 25)).alloc (.cells #[.int .i64 rs1, .int .i64 ri1, .int .i64 rg1, .int .i64 rm1, .int .i64 rx1, .int .i64 ry1, .int .i64 rvx1, .int .i64 rvy1, .int .i64 rh1, .int .i64 rp1, .int .i64 rl1] 25)))
  clear T0 T1 BE
  go_enter Try.func5, Try.ntmps5
  go_upto_region 1 with fail
  generalize (w.alloc (.cells #[.int .i64 qs1, .int .i64 qi1, .int .i64 qg1, .int .i64 qm1, .int .i64 qx1, .int .i64 qy1, .int .i64 qvx1, .int .i64 qvy1, .int .i64 qh1, .int .i64 qp1, .int .i64 ql1] 25)).alloc (.cells #[.int .i64 rs1, .int .i64 ri1, .int .i64 rg1, .int .i64 rm1, .int .i64 rx1, .int .i64 ry1, .int .i64 rvx1, .int .i64 rvy1, .int .i64 rh1, .int .i64 rp1, .int .i64 rl1] 25) = w1 at *
  have PF := fun p : Lat grows w1 => (CE.out p.W (HB.out.trans (p.h.mono HB.out.size))).1
  have k0_0 := fun p => (PF p).1.1
  have k0_1 := fun p => (PF p).1.2.1
  have k0_2 := fun p => (PF p).1.2.2.1
  have k0_3 := fun p => (PF p).1.2.2.2.1
  have k0_4 := fun p => (PF p).1.2.2.2.2.1
  have k0_5 := fun p => (PF p).1.2.2.2.2.2.1
  have k0_6 := fun p => (PF p).1.2.2.2.2.2.2.1
  have k0_7 := fun p => (PF p).1.2.2.2.2.2.2.2.1
  have k0_8 := fun p => (PF p).1.2.2.2.2.2.2.2.2.1
  have k0_9 := fun p => (PF p).1.2.2.2.2.2.2.2.2.2.1
  have k0_10 := fun p => (PF p).1.2.2.2.2.2.2.2.2.2.2
  have k1_0 := fun p => (PF p).2.1
  have k1_1 := fun p => (PF p).2.2.1
  have k1_2 := fun p => (PF p).2.2.2.1
  have k1_3 := fun p => (PF p).2.2.2.2.1
  have k1_4 := fun p => (PF p).2.2.2.2.2.1
  have k1_5 := fun p => (PF p).2.2.2.2.2.2.1
  have k1_6 := fun p => (PF p).2.2.2.2.2.2.2.1
  have k1_7 := fun p => (PF p).2.2.2.2.2.2.2.2.1
  have k1_8 := fun p => (PF p).2.2.2.2.2.2.2.2.2.1
  have k1_9 := fun p => (PF p).2.2.2.2.2.2.2.2.2.2.1
  have k1_10 := fun p => (PF p).2.2.2.2.2.2.2.2.2.2.2
  clear PF
  refine Og.grow 32 (by kernel_rfl) (by kernel_rfl) fun hc hf => ?_
  clear hc hf
  simp only [List.take_succ_cons, List.take_zero, List.drop_succ_cons, List.drop_zero]
  iterate 2 (refine Og.det [] rfl (fun J hJ => ?_); go_simp; refine hJ _ _ ?_; clear hJ J)
  refine Og.det [] rfl (fun J hJ => ?_)
  go_simp
  with_reducible refine ⟨_, fun p => Og.lays (C1.out p.W), hJ _ _ ?_⟩
  clear hJ J
  iterate 2 (refine Og.det [] rfl (fun J hJ => ?_); go_simp; refine hJ _ _ ?_; clear hJ J)
  refine Og.det [] rfl (fun J hJ => ?_)
  go_simp
  with_reducible refine ⟨_, fun p => Og.lays (C2.out p.W), hJ _ _ ?_⟩
  clear hJ J
  (refine Og.det [] rfl (fun J hJ => ?_); go_simp; refine hJ _ _ ?_; clear hJ J)
  (refine Og.det [] rfl (fun J hJ => ?_); go_simp; refine hJ _ _ ?_; clear hJ J)
  (refine Og.det [] rfl (fun J hJ => ?_); go_simp; refine hJ _ _ ?_; clear hJ J)
  (refine Og.det [] rfl (fun J hJ => ?_); go_simp; refine hJ _ _ ?_; clear hJ J)
  refine Og.det [] rfl (fun J hJ => ?_)
  go_simp
  with_reducible refine ⟨_, fun p => Og.lays (C3.out p.W), hJ _ _ ?_⟩
  clear hJ J
  (refine Og.det [] rfl (fun J hJ => ?_); go_simp; refine hJ _ _ ?_; clear hJ J)
  (refine Og.det [] rfl (fun J hJ => ?_); go_simp; refine hJ _ _ ?_; clear hJ J)
  refine Og.det [] rfl (fun J hJ => ?_)
  go_simp
  with_reducible refine ⟨_, fun p => Og.lays (C4.out p.W), hJ _ _ ?_⟩
  clear hJ J
  (refine Og.det [] rfl (fun J hJ => ?_); go_simp; refine hJ _ _ ?_; clear hJ J)
  (refine Og.det [] rfl (fun J hJ => ?_); go_simp; refine hJ _ _ ?_; clear hJ J)
  (refine Og.det [] rfl (fun J hJ => ?_); go_simp; refine hJ _ _ ?_; clear hJ J)
  (refine Og.det [] rfl (fun J hJ => ?_); go_simp; refine hJ _ _ ?_; clear hJ J)
  (refine Og.det [] rfl (fun J hJ => ?_); go_simp; refine hJ _ _ ?_; clear hJ J)
  refine Og.det [] rfl (fun J hJ => ?_)
  go_simp
  with_reducible refine ⟨_, fun p => Og.lays (C5.out p.W), hJ _ _ ?_⟩
  clear hJ J
  iterate 7 (refine Og.det [] rfl (fun J hJ => ?_); go_simp; refine hJ _ _ ?_; clear hJ J)
  (refine Og.det [] rfl (fun J hJ => ?_); go_simp; refine hJ _ _ ?_; clear hJ J)
  (refine Og.det [] rfl (fun J hJ => ?_); go_simp; refine hJ _ _ ?_; clear hJ J)
  refine Og.det [] rfl (fun J hJ => ?_)
  go_simp
  with_reducible refine ⟨_, fun p => Og.lays (AW.out p.W), hJ _ _ ?_⟩
  clear hJ J
  (refine Og.det [] rfl (fun J hJ => ?_); go_simp; refine hJ _ _ ?_; clear hJ J)
  (refine Og.det [] rfl (fun J hJ => ?_); go_simp; refine hJ _ _ ?_; clear hJ J)
  refine Og.fin fun W hW => ?_
  simp only [Og.opened_nil]
  have FB := (CE.out W (HB.out.trans (hW.mono HB.out.size))).2
  clear k0_0 k0_1 k0_2 k0_3 k0_4 k0_5 k0_6 k0_7 k0_8 k0_9 k0_10 k1_0 k1_1 k1_2 k1_3 k1_4 k1_5 k1_6 k1_7 k1_8 k1_9 k1_10
  go_wp2
  go_ret
  exact ⟨rfl, FB⟩
end Go.Proofs.Ytookmjdnmmfkfaa
