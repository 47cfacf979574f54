/- The code's codec: an entity is read. Written by wip/tools/genrd.py. -/
import Derived.Test.YtdhlebmgeiiejaaGreatKCdRead1
namespace Go.Proofs.YtdhlebmgeiiejaaGreat
open Go.RowKit Pz Cd
set_option linter.unusedVariables false
set_option linter.unusedSimpArgs false

set_option maxHeartbeats 16000000 in
set_option maxRecDepth 100000 in
theorem creadbundle_any {b : Nat} {w : World} {q : Rr} (h : CQ b w q w) : Calls Tryz.prog 46 #[.pointer (some ⟨b, 0, none⟩)] w fun e W' => e = .returned (rawTB q).1.val ∧ CQ b w (rawTB q).2 W' := by
  have C1 : Hid (∀ W, CQ b w q W → Calls Tryz.prog 38 #[.pointer (some ⟨b, 0, none⟩)] W fun e W' => e = .returned (.agg #[.int .i64 (rawTID q).1.1, .int .i64 (rawTID q).1.2.1, .int .i64 (rawTID q).1.2.2]) ∧ CQ b w (rawTID q).2 W' ∧ W.grownBy W' (some b)) := Lib.hid fun W hW => (creadid_any hW.rebase).mono fun e W' ⟨h1, h2⟩ => ⟨h1, hW.trans h2, h2.grow⟩
  have C2 : Hid (∀ W, CQ b w (rawTID q).2 W → Calls Tryz.prog 82 #[.pointer (some ⟨b, 0, none⟩)] W fun e W' => e = .returned (rawRest (rawTID q).2).1.val ∧ CQ b w (rawRest (rawTID q).2).2 W' ∧ W.grownBy W' (some b)) := Lib.hid fun W hW => (creadcomp_any hW.rebase).mono fun e W' ⟨h1, h2⟩ => ⟨h1, hW.trans h2, h2.grow⟩
  unfold rawTB
  simp only
  generalize rawRest (rawTID q).2 = p2 at *
  generalize rawTID q = p1 at *
  obtain ⟨⟨x0, x1, x2⟩, q1⟩ := p1
  obtain ⟨⟨ys, yi, yg, ym, yx, yy, yvx, yvy, yh, yp, yl⟩, q2⟩ := p2
  simp only [withID, Bn.val] at C1 C2 ⊢
  have hb := h.lt
  have B0 := Lib.hid (at1 w (.cells #[.int .i64 0, .int .i64 0, .int .i64 0, .int .i64 0, .int .i64 0, .int .i64 0, .int .i64 0, .int .i64 0, .int .i64 0, .int .i64 0, .int .i64 0] 34))
  have HR := Lib.hid (h.below (bel1 w (.cells #[.int .i64 0, .int .i64 0, .int .i64 0, .int .i64 0, .int .i64 0, .int .i64 0, .int .i64 0, .int .i64 0, .int .i64 0, .int .i64 0, .int .i64 0] 34)))
  clear h
  go_enter Tryz.func46, Tryz.ntmps46
  go_wp2_with fail
  generalize w.alloc (.cells #[.int .i64 0, .int .i64 0, .int .i64 0, .int .i64 0, .int .i64 0, .int .i64 0, .int .i64 0, .int .i64 0, .int .i64 0, .int .i64 0, .int .i64 0] 34) = wa at *
  refine (C1.out _ HR.out).mono ?_
  rintro e w1 ⟨rfl, r1, g1⟩
  replace B0 := Lib.hid ((g1.block _ (lt_of_row B0.out) (by simp; omega)).trans B0.out)
  clear HR g1 C1
  have HR := Lib.hid r1
  clear r1
  go_wp2_with fail
  have HA := Lib.hid (bel1 w1 (.cells #[.int .i64 x0, .int .i64 x1, .int .i64 x2] 29))
  have B1 := Lib.hid (at1 w1 (.cells #[.int .i64 x0, .int .i64 x1, .int .i64 x2] 29))
  have loB1 : w.heap.size ≤ w1.heap.size := HR.out.grow.size
  have ltB0B1 : w.heap.size < w1.heap.size := lt_of_row B0.out
  replace B0 := Lib.hid ((HA.out.block _ (lt_of_row B0.out)).trans B0.out)
  replace HR := Lib.hid (HR.out.below HA.out)
  clear HA
  generalize w1.alloc (.cells #[.int .i64 x0, .int .i64 x1, .int .i64 x2] 29) = wb at *
  generalize w1.heap.size = o1 at *
  refine (C2.out _ HR.out).mono ?_
  rintro e w2 ⟨rfl, r1, g1⟩
  replace B0 := Lib.hid ((g1.block _ (lt_of_row B0.out) (by simp; omega)).trans B0.out)
  replace B1 := Lib.hid ((g1.block _ (lt_of_row B1.out) (by simp; omega)).trans B1.out)
  clear HR g1 C2
  have HR := Lib.hid r1
  clear r1
  go_upto_region 3 with fail
  have HA := Lib.hid (bel1 w2 (.cells #[.int .i64 ys, .int .i64 yi, .int .i64 yg, .int .i64 ym, .int .i64 yx, .int .i64 yy, .int .i64 yvx, .int .i64 yvy, .int .i64 yh, .int .i64 yp, .int .i64 yl] 34))
  have B2 := Lib.hid (at1 w2 (.cells #[.int .i64 ys, .int .i64 yi, .int .i64 yg, .int .i64 ym, .int .i64 yx, .int .i64 yy, .int .i64 yvx, .int .i64 yvy, .int .i64 yh, .int .i64 yp, .int .i64 yl] 34))
  have loB2 : w.heap.size ≤ w2.heap.size := HR.out.grow.size
  have ltB0B2 : w.heap.size < w2.heap.size := lt_of_row B0.out
  have ltB1B2 : o1 < w2.heap.size := lt_of_row B1.out
  replace B0 := Lib.hid ((HA.out.block _ (lt_of_row B0.out)).trans B0.out)
  replace B1 := Lib.hid ((HA.out.block _ (lt_of_row B1.out)).trans B1.out)
  replace HR := Lib.hid (HR.out.below HA.out)
  clear HA
  generalize w2.alloc (.cells #[.int .i64 ys, .int .i64 yi, .int .i64 yg, .int .i64 ym, .int .i64 yx, .int .i64 yy, .int .i64 yvx, .int .i64 yvy, .int .i64 yh, .int .i64 yp, .int .i64 yl] 34) = wc at *
  generalize w2.heap.size = o2 at *
  obtain ⟨⟨m0, m1, m2⟩, _⟩ := Bx.b3 B1.out
  obtain ⟨⟨n0, n1, n2, n3, n4, n5, n6, n7, n8, n9, n10⟩, ⟨d0, d1, d2, d3, d4, d5, d6, d7, d8, d9, d10⟩⟩ := Bx.b11 B2.out
  go_upto_region 4 with fail
  clear m0 m1 m2 n0 n1 n2 n3 n4 n5 n6 n7 n8 n9 n10 d0 d1 d2 d3 d4 d5 d6 d7 d8 d9 d10
  have q1_0 : (wc.setCell ⟨o2, 0, none⟩ (.int .i64 x0)).heap[o2]? = some (.cells #[.int .i64 x0, .int .i64 yi, .int .i64 yg, .int .i64 ym, .int .i64 yx, .int .i64 yy, .int .i64 yvx, .int .i64 yvy, .int .i64 yh, .int .i64 yp, .int .i64 yl] 34 (0, 0)) := heap_setCell_same _ o2 0 _ 34 (.int .i64 x0) B2.out
  have q1_1 : ((wc.setCell ⟨o2, 0, none⟩ (.int .i64 x0)).setCell ⟨o2, 1, none⟩ (.int .i64 x1)).heap[o2]? = some (.cells #[.int .i64 x0, .int .i64 x1, .int .i64 yg, .int .i64 ym, .int .i64 yx, .int .i64 yy, .int .i64 yvx, .int .i64 yvy, .int .i64 yh, .int .i64 yp, .int .i64 yl] 34 (0, 0)) := heap_setCell_same _ o2 1 _ 34 (.int .i64 x1) q1_0
  have q1_2 : (((wc.setCell ⟨o2, 0, none⟩ (.int .i64 x0)).setCell ⟨o2, 1, none⟩ (.int .i64 x1)).setCell ⟨o2, 2, none⟩ (.int .i64 x2)).heap[o2]? = some (.cells #[.int .i64 x0, .int .i64 x1, .int .i64 x2, .int .i64 ym, .int .i64 yx, .int .i64 yy, .int .i64 yvx, .int .i64 yvy, .int .i64 yh, .int .i64 yp, .int .i64 yl] 34 (0, 0)) := heap_setCell_same _ o2 2 _ 34 (.int .i64 x2) q1_1
  have nq1_B0 : Hid ((((wc.setCell ⟨o2, 0, none⟩ (.int .i64 x0)).setCell ⟨o2, 1, none⟩ (.int .i64 x1)).setCell ⟨o2, 2, none⟩ (.int .i64 x2)).heap[w.heap.size]? = some (.cells #[.int .i64 0, .int .i64 0, .int .i64 0, .int .i64 0, .int .i64 0, .int .i64 0, .int .i64 0, .int .i64 0, .int .i64 0, .int .i64 0, .int .i64 0] 34 (0, 0))) := Lib.hid (by (repeat rw [Bx.ne (by omega)]); exact B0.out)
  have nq1_B1 : Hid ((((wc.setCell ⟨o2, 0, none⟩ (.int .i64 x0)).setCell ⟨o2, 1, none⟩ (.int .i64 x1)).setCell ⟨o2, 2, none⟩ (.int .i64 x2)).heap[o1]? = some (.cells #[.int .i64 x0, .int .i64 x1, .int .i64 x2] 29 (0, 0))) := Lib.hid (by (repeat rw [Bx.ne (by omega)]); exact B1.out)
  replace HR := Lib.hid (RX.set (RX.set (RX.set HR.out loB2 0 (.int .i64 x0)) loB2 1 (.int .i64 x1)) loB2 2 (.int .i64 x2))
  replace B2 := Lib.hid q1_2
  replace B0 := nq1_B0
  clear nq1_B0
  replace B1 := nq1_B1
  clear nq1_B1
  clear q1_0 q1_1 q1_2
  generalize (((wc.setCell ⟨o2, 0, none⟩ (.int .i64 x0)).setCell ⟨o2, 1, none⟩ (.int .i64 x1)).setCell ⟨o2, 2, none⟩ (.int .i64 x2)) = wd at *
  obtain ⟨⟨k0, k1, k2, k3, k4, k5, k6, k7, k8, k9, k10⟩, _⟩ := Bx.b11 B2.out
  obtain ⟨⟨l0, l1, l2, l3, l4, l5, l6, l7, l8, l9, l10⟩, ⟨f0, f1, f2, f3, f4, f5, f6, f7, f8, f9, f10⟩⟩ := Bx.b11 B0.out
  have HP := Lib.hid (Bx.b11 (Bx.set11 B0.out (.int .i64 x0) (.int .i64 x1) (.int .i64 x2) (.int .i64 ym) (.int .i64 yx) (.int .i64 yy) (.int .i64 yvx) (.int .i64 yvy) (.int .i64 yh) (.int .i64 yp) (.int .i64 yl))).1
  have HQ := Lib.hid (RX.set (RX.set (RX.set (RX.set (RX.set (RX.set (RX.set (RX.set (RX.set (RX.set (RX.set HR.out (Nat.le_refl _) 0 (.int .i64 x0)) (Nat.le_refl _) 1 (.int .i64 x1)) (Nat.le_refl _) 2 (.int .i64 x2)) (Nat.le_refl _) 3 (.int .i64 ym)) (Nat.le_refl _) 4 (.int .i64 yx)) (Nat.le_refl _) 5 (.int .i64 yy)) (Nat.le_refl _) 6 (.int .i64 yvx)) (Nat.le_refl _) 7 (.int .i64 yvy)) (Nat.le_refl _) 8 (.int .i64 yh)) (Nat.le_refl _) 9 (.int .i64 yp)) (Nat.le_refl _) 10 (.int .i64 yl))
  clear HR B0 B1 B2
  go_wp2
  obtain ⟨p0, p1, p2, p3, p4, p5, p6, p7, p8, p9, p10⟩ := HP.out
  exact bodyPost_ret (v := .agg #[.int .i64 x0, .int .i64 x1, .int .i64 x2, .int .i64 ym, .int .i64 yx, .int .i64 yy, .int .i64 yvx, .int .i64 yvy, .int .i64 yh, .int .i64 yp, .int .i64 yl]) (by simp [results, Tryz.results46, go_sem, p0, p1, p2, p3, p4, p5, p6, p7, p8, p9, p10]) rfl ⟨rfl, HQ.out⟩
end Go.Proofs.YtdhlebmgeiiejaaGreat
