/- The code's codec: a command is read. Written by wip/tools/genrd.py. -/
import Derived.Test.YtdhlebmgeiiejaaGreatKCdReadB
namespace Go.Proofs.YtdhlebmgeiiejaaGreat
open Go.RowKit Pz Cd
set_option linter.unusedVariables false
set_option linter.unusedSimpArgs false

set_option maxHeartbeats 16000000 in
set_option maxRecDepth 100000 in
theorem creadcmd_1 {b : Nat} {w : World} {q : Rr} (h : CQ b w q w) (e1 : (tInt q).1 = 1) : Calls Tryz.prog 51 #[.pointer (some ⟨b, 0, none⟩)] w fun e W' => e = .returned (rawTC q).1.val ∧ CQ b w (rawTC q).2 W' := by
  have C0 := Lib.hid fun W (hW : CQ b w q W) => ctake_int hW
  have CB : Hid (∀ W, CQ b w (tInt q).2 W → Calls Tryz.prog 46 #[.pointer (some ⟨b, 0, none⟩)] W fun e W' => e = .returned (rawTB (tInt q).2).1.val ∧ CQ b w (rawTB (tInt q).2).2 W' ∧ W.grownBy W' (some b)) := Lib.hid fun W hW => (creadbundle_any hW.rebase).mono fun e W' ⟨h1, h2⟩ => ⟨h1, hW.trans h2, h2.grow⟩
  unfold rawTC rawBody
  rw [e1, if_pos rfl]
  generalize rawTB (tInt q).2 = pb at *
  generalize tInt q = pk at *
  obtain ⟨k, q1⟩ := pk
  simp only at *
  obtain ⟨⟨ys, yi, yg, ym, yx, yy, yvx, yvy, yh, yp, yl⟩, q3⟩ := pb
  subst e1
  simp only [Bn.val, Cn.val] at *
  have hb := h.lt
  have B0 := Lib.hid (at1 w (.cells #[.int .i64 0, .int .i64 0, .int .i64 0, .int .i64 0, .int .i64 0, .int .i64 0, .int .i64 0, .int .i64 0, .int .i64 0, .int .i64 0, .int .i64 0, .int .i64 0, .int .i64 0, .int .i64 0, .int .i64 0, .int .i64 0] 38))
  have HR := Lib.hid (h.below (bel1 w (.cells #[.int .i64 0, .int .i64 0, .int .i64 0, .int .i64 0, .int .i64 0, .int .i64 0, .int .i64 0, .int .i64 0, .int .i64 0, .int .i64 0, .int .i64 0, .int .i64 0, .int .i64 0, .int .i64 0, .int .i64 0, .int .i64 0] 38)))
  clear h
  go_enter Tryz.func51, Tryz.ntmps51
  go_wp2_with fail
  generalize w.alloc (.cells #[.int .i64 0, .int .i64 0, .int .i64 0, .int .i64 0, .int .i64 0, .int .i64 0, .int .i64 0, .int .i64 0, .int .i64 0, .int .i64 0, .int .i64 0, .int .i64 0, .int .i64 0, .int .i64 0, .int .i64 0, .int .i64 0] 38) = wa at *
  refine (C0.out _ HR.out).mono ?_
  rintro e w1 ⟨rfl, r1, g1⟩
  replace B0 := Lib.hid ((g1.block _ (lt_of_row B0.out) (by simp; omega)).trans B0.out)
  clear HR g1 C0
  have HR := Lib.hid r1
  clear r1
  go_upto_region 2 with fail
  have HA := Lib.hid (bel1 w1 (.cells #[.int .i64 1, .int .i64 0, .int .i64 0, .int .i64 0, .int .i64 0, .int .i64 0, .int .i64 0, .int .i64 0, .int .i64 0, .int .i64 0, .int .i64 0, .int .i64 0, .int .i64 0, .int .i64 0, .int .i64 0, .int .i64 0] 38))
  have B1 := Lib.hid (at1 w1 (.cells #[.int .i64 1, .int .i64 0, .int .i64 0, .int .i64 0, .int .i64 0, .int .i64 0, .int .i64 0, .int .i64 0, .int .i64 0, .int .i64 0, .int .i64 0, .int .i64 0, .int .i64 0, .int .i64 0, .int .i64 0, .int .i64 0] 38))
  have loB1 : w.heap.size ≤ w1.heap.size := HR.out.grow.size
  have ltB0B1 : w.heap.size < w1.heap.size := lt_of_row B0.out
  replace B0 := Lib.hid ((HA.out.block _ (lt_of_row B0.out)).trans B0.out)
  replace HR := Lib.hid (HR.out.below HA.out)
  clear HA
  generalize w1.alloc (.cells #[.int .i64 1, .int .i64 0, .int .i64 0, .int .i64 0, .int .i64 0, .int .i64 0, .int .i64 0, .int .i64 0, .int .i64 0, .int .i64 0, .int .i64 0, .int .i64 0, .int .i64 0, .int .i64 0, .int .i64 0, .int .i64 0] 38) = wb at *
  generalize w1.heap.size = o1 at *
  obtain ⟨⟨n0, n1, n2, n3, n4, n5, n6, n7, n8, n9, n10, n11, n12, n13, n14, n15⟩, ⟨d0, d1, d2, d3, d4, d5, d6, d7, d8, d9, d10, d11, d12, d13, d14, d15⟩⟩ := Bx.b16 B1.out
  go_wp2_with fail
  clear n0 n1 n2 n3 n4 n5 n6 n7 n8 n9 n10 n11 n12 n13 n14 n15 d0 d1 d2 d3 d4 d5 d6 d7 d8 d9 d10 d11 d12 d13 d14 d15
  refine (CB.out _ HR.out).mono ?_
  rintro e w2 ⟨rfl, r1, g1⟩
  replace B0 := Lib.hid ((g1.block _ (lt_of_row B0.out) (by simp; omega)).trans B0.out)
  replace B1 := Lib.hid ((g1.block _ (lt_of_row B1.out) (by simp; omega)).trans B1.out)
  clear HR g1 CB
  have HR := Lib.hid r1
  clear r1
  obtain ⟨⟨n0, n1, n2, n3, n4, n5, n6, n7, n8, n9, n10, n11, n12, n13, n14, n15⟩, ⟨d0, d1, d2, d3, d4, d5, d6, d7, d8, d9, d10, d11, d12, d13, d14, d15⟩⟩ := Bx.b16 B1.out
  go_upto_region 13 with fail
  clear n0 n1 n2 n3 n4 n5 n6 n7 n8 n9 n10 n11 n12 n13 n14 n15 d0 d1 d2 d3 d4 d5 d6 d7 d8 d9 d10 d11 d12 d13 d14 d15
  have q1_0 : (w2.setCell ⟨o1, 4, none⟩ (.int .i64 ys)).heap[o1]? = some (.cells #[.int .i64 1, .int .i64 0, .int .i64 0, .int .i64 0, .int .i64 ys, .int .i64 0, .int .i64 0, .int .i64 0, .int .i64 0, .int .i64 0, .int .i64 0, .int .i64 0, .int .i64 0, .int .i64 0, .int .i64 0, .int .i64 0] 38 (0, 0)) := heap_setCell_same _ o1 4 _ 38 (.int .i64 ys) B1.out
  have q1_1 : ((w2.setCell ⟨o1, 4, none⟩ (.int .i64 ys)).setCell ⟨o1, 5, none⟩ (.int .i64 yi)).heap[o1]? = some (.cells #[.int .i64 1, .int .i64 0, .int .i64 0, .int .i64 0, .int .i64 ys, .int .i64 yi, .int .i64 0, .int .i64 0, .int .i64 0, .int .i64 0, .int .i64 0, .int .i64 0, .int .i64 0, .int .i64 0, .int .i64 0, .int .i64 0] 38 (0, 0)) := heap_setCell_same _ o1 5 _ 38 (.int .i64 yi) q1_0
  have q1_2 : (((w2.setCell ⟨o1, 4, none⟩ (.int .i64 ys)).setCell ⟨o1, 5, none⟩ (.int .i64 yi)).setCell ⟨o1, 6, none⟩ (.int .i64 yg)).heap[o1]? = some (.cells #[.int .i64 1, .int .i64 0, .int .i64 0, .int .i64 0, .int .i64 ys, .int .i64 yi, .int .i64 yg, .int .i64 0, .int .i64 0, .int .i64 0, .int .i64 0, .int .i64 0, .int .i64 0, .int .i64 0, .int .i64 0, .int .i64 0] 38 (0, 0)) := heap_setCell_same _ o1 6 _ 38 (.int .i64 yg) q1_1
  have q1_3 : ((((w2.setCell ⟨o1, 4, none⟩ (.int .i64 ys)).setCell ⟨o1, 5, none⟩ (.int .i64 yi)).setCell ⟨o1, 6, none⟩ (.int .i64 yg)).setCell ⟨o1, 7, none⟩ (.int .i64 ym)).heap[o1]? = some (.cells #[.int .i64 1, .int .i64 0, .int .i64 0, .int .i64 0, .int .i64 ys, .int .i64 yi, .int .i64 yg, .int .i64 ym, .int .i64 0, .int .i64 0, .int .i64 0, .int .i64 0, .int .i64 0, .int .i64 0, .int .i64 0, .int .i64 0] 38 (0, 0)) := heap_setCell_same _ o1 7 _ 38 (.int .i64 ym) q1_2
  have q1_4 : (((((w2.setCell ⟨o1, 4, none⟩ (.int .i64 ys)).setCell ⟨o1, 5, none⟩ (.int .i64 yi)).setCell ⟨o1, 6, none⟩ (.int .i64 yg)).setCell ⟨o1, 7, none⟩ (.int .i64 ym)).setCell ⟨o1, 8, none⟩ (.int .i64 yx)).heap[o1]? = some (.cells #[.int .i64 1, .int .i64 0, .int .i64 0, .int .i64 0, .int .i64 ys, .int .i64 yi, .int .i64 yg, .int .i64 ym, .int .i64 yx, .int .i64 0, .int .i64 0, .int .i64 0, .int .i64 0, .int .i64 0, .int .i64 0, .int .i64 0] 38 (0, 0)) := heap_setCell_same _ o1 8 _ 38 (.int .i64 yx) q1_3
  have q1_5 : ((((((w2.setCell ⟨o1, 4, none⟩ (.int .i64 ys)).setCell ⟨o1, 5, none⟩ (.int .i64 yi)).setCell ⟨o1, 6, none⟩ (.int .i64 yg)).setCell ⟨o1, 7, none⟩ (.int .i64 ym)).setCell ⟨o1, 8, none⟩ (.int .i64 yx)).setCell ⟨o1, 9, none⟩ (.int .i64 yy)).heap[o1]? = some (.cells #[.int .i64 1, .int .i64 0, .int .i64 0, .int .i64 0, .int .i64 ys, .int .i64 yi, .int .i64 yg, .int .i64 ym, .int .i64 yx, .int .i64 yy, .int .i64 0, .int .i64 0, .int .i64 0, .int .i64 0, .int .i64 0, .int .i64 0] 38 (0, 0)) := heap_setCell_same _ o1 9 _ 38 (.int .i64 yy) q1_4
  have q1_6 : (((((((w2.setCell ⟨o1, 4, none⟩ (.int .i64 ys)).setCell ⟨o1, 5, none⟩ (.int .i64 yi)).setCell ⟨o1, 6, none⟩ (.int .i64 yg)).setCell ⟨o1, 7, none⟩ (.int .i64 ym)).setCell ⟨o1, 8, none⟩ (.int .i64 yx)).setCell ⟨o1, 9, none⟩ (.int .i64 yy)).setCell ⟨o1, 10, none⟩ (.int .i64 yvx)).heap[o1]? = some (.cells #[.int .i64 1, .int .i64 0, .int .i64 0, .int .i64 0, .int .i64 ys, .int .i64 yi, .int .i64 yg, .int .i64 ym, .int .i64 yx, .int .i64 yy, .int .i64 yvx, .int .i64 0, .int .i64 0, .int .i64 0, .int .i64 0, .int .i64 0] 38 (0, 0)) := heap_setCell_same _ o1 10 _ 38 (.int .i64 yvx) q1_5
  have q1_7 : ((((((((w2.setCell ⟨o1, 4, none⟩ (.int .i64 ys)).setCell ⟨o1, 5, none⟩ (.int .i64 yi)).setCell ⟨o1, 6, none⟩ (.int .i64 yg)).setCell ⟨o1, 7, none⟩ (.int .i64 ym)).setCell ⟨o1, 8, none⟩ (.int .i64 yx)).setCell ⟨o1, 9, none⟩ (.int .i64 yy)).setCell ⟨o1, 10, none⟩ (.int .i64 yvx)).setCell ⟨o1, 11, none⟩ (.int .i64 yvy)).heap[o1]? = some (.cells #[.int .i64 1, .int .i64 0, .int .i64 0, .int .i64 0, .int .i64 ys, .int .i64 yi, .int .i64 yg, .int .i64 ym, .int .i64 yx, .int .i64 yy, .int .i64 yvx, .int .i64 yvy, .int .i64 0, .int .i64 0, .int .i64 0, .int .i64 0] 38 (0, 0)) := heap_setCell_same _ o1 11 _ 38 (.int .i64 yvy) q1_6
  have q1_8 : (((((((((w2.setCell ⟨o1, 4, none⟩ (.int .i64 ys)).setCell ⟨o1, 5, none⟩ (.int .i64 yi)).setCell ⟨o1, 6, none⟩ (.int .i64 yg)).setCell ⟨o1, 7, none⟩ (.int .i64 ym)).setCell ⟨o1, 8, none⟩ (.int .i64 yx)).setCell ⟨o1, 9, none⟩ (.int .i64 yy)).setCell ⟨o1, 10, none⟩ (.int .i64 yvx)).setCell ⟨o1, 11, none⟩ (.int .i64 yvy)).setCell ⟨o1, 12, none⟩ (.int .i64 yh)).heap[o1]? = some (.cells #[.int .i64 1, .int .i64 0, .int .i64 0, .int .i64 0, .int .i64 ys, .int .i64 yi, .int .i64 yg, .int .i64 ym, .int .i64 yx, .int .i64 yy, .int .i64 yvx, .int .i64 yvy, .int .i64 yh, .int .i64 0, .int .i64 0, .int .i64 0] 38 (0, 0)) := heap_setCell_same _ o1 12 _ 38 (.int .i64 yh) q1_7
  have q1_9 : ((((((((((w2.setCell ⟨o1, 4, none⟩ (.int .i64 ys)).setCell ⟨o1, 5, none⟩ (.int .i64 yi)).setCell ⟨o1, 6, none⟩ (.int .i64 yg)).setCell ⟨o1, 7, none⟩ (.int .i64 ym)).setCell ⟨o1, 8, none⟩ (.int .i64 yx)).setCell ⟨o1, 9, none⟩ (.int .i64 yy)).setCell ⟨o1, 10, none⟩ (.int .i64 yvx)).setCell ⟨o1, 11, none⟩ (.int .i64 yvy)).setCell ⟨o1, 12, none⟩ (.int .i64 yh)).setCell ⟨o1, 13, none⟩ (.int .i64 yp)).heap[o1]? = some (.cells #[.int .i64 1, .int .i64 0, .int .i64 0, .int .i64 0, .int .i64 ys, .int .i64 yi, .int .i64 yg, .int .i64 ym, .int .i64 yx, .int .i64 yy, .int .i64 yvx, .int .i64 yvy, .int .i64 yh, .int .i64 yp, .int .i64 0, .int .i64 0] 38 (0, 0)) := heap_setCell_same _ o1 13 _ 38 (.int .i64 yp) q1_8
  have q1_10 : (((((((((((w2.setCell ⟨o1, 4, none⟩ (.int .i64 ys)).setCell ⟨o1, 5, none⟩ (.int .i64 yi)).setCell ⟨o1, 6, none⟩ (.int .i64 yg)).setCell ⟨o1, 7, none⟩ (.int .i64 ym)).setCell ⟨o1, 8, none⟩ (.int .i64 yx)).setCell ⟨o1, 9, none⟩ (.int .i64 yy)).setCell ⟨o1, 10, none⟩ (.int .i64 yvx)).setCell ⟨o1, 11, none⟩ (.int .i64 yvy)).setCell ⟨o1, 12, none⟩ (.int .i64 yh)).setCell ⟨o1, 13, none⟩ (.int .i64 yp)).setCell ⟨o1, 14, none⟩ (.int .i64 yl)).heap[o1]? = some (.cells #[.int .i64 1, .int .i64 0, .int .i64 0, .int .i64 0, .int .i64 ys, .int .i64 yi, .int .i64 yg, .int .i64 ym, .int .i64 yx, .int .i64 yy, .int .i64 yvx, .int .i64 yvy, .int .i64 yh, .int .i64 yp, .int .i64 yl, .int .i64 0] 38 (0, 0)) := heap_setCell_same _ o1 14 _ 38 (.int .i64 yl) q1_9
  have nq1_B0 : Hid ((((((((((((w2.setCell ⟨o1, 4, none⟩ (.int .i64 ys)).setCell ⟨o1, 5, none⟩ (.int .i64 yi)).setCell ⟨o1, 6, none⟩ (.int .i64 yg)).setCell ⟨o1, 7, none⟩ (.int .i64 ym)).setCell ⟨o1, 8, none⟩ (.int .i64 yx)).setCell ⟨o1, 9, none⟩ (.int .i64 yy)).setCell ⟨o1, 10, none⟩ (.int .i64 yvx)).setCell ⟨o1, 11, none⟩ (.int .i64 yvy)).setCell ⟨o1, 12, none⟩ (.int .i64 yh)).setCell ⟨o1, 13, none⟩ (.int .i64 yp)).setCell ⟨o1, 14, none⟩ (.int .i64 yl)).heap[w.heap.size]? = some (.cells #[.int .i64 0, .int .i64 0, .int .i64 0, .int .i64 0, .int .i64 0, .int .i64 0, .int .i64 0, .int .i64 0, .int .i64 0, .int .i64 0, .int .i64 0, .int .i64 0, .int .i64 0, .int .i64 0, .int .i64 0, .int .i64 0] 38 (0, 0))) := Lib.hid (by (repeat rw [Bx.ne (by omega)]); exact B0.out)
  replace HR := Lib.hid (RX.set (RX.set (RX.set (RX.set (RX.set (RX.set (RX.set (RX.set (RX.set (RX.set (RX.set HR.out loB1 4 (.int .i64 ys)) loB1 5 (.int .i64 yi)) loB1 6 (.int .i64 yg)) loB1 7 (.int .i64 ym)) loB1 8 (.int .i64 yx)) loB1 9 (.int .i64 yy)) loB1 10 (.int .i64 yvx)) loB1 11 (.int .i64 yvy)) loB1 12 (.int .i64 yh)) loB1 13 (.int .i64 yp)) loB1 14 (.int .i64 yl))
  replace B1 := Lib.hid q1_10
  replace B0 := nq1_B0
  clear nq1_B0
  clear q1_0 q1_1 q1_2 q1_3 q1_4 q1_5 q1_6 q1_7 q1_8 q1_9 q1_10
  generalize (((((((((((w2.setCell ⟨o1, 4, none⟩ (.int .i64 ys)).setCell ⟨o1, 5, none⟩ (.int .i64 yi)).setCell ⟨o1, 6, none⟩ (.int .i64 yg)).setCell ⟨o1, 7, none⟩ (.int .i64 ym)).setCell ⟨o1, 8, none⟩ (.int .i64 yx)).setCell ⟨o1, 9, none⟩ (.int .i64 yy)).setCell ⟨o1, 10, none⟩ (.int .i64 yvx)).setCell ⟨o1, 11, none⟩ (.int .i64 yvy)).setCell ⟨o1, 12, none⟩ (.int .i64 yh)).setCell ⟨o1, 13, none⟩ (.int .i64 yp)).setCell ⟨o1, 14, none⟩ (.int .i64 yl)) = wd at *
  obtain ⟨⟨k0, k1, k2, k3, k4, k5, k6, k7, k8, k9, k10, k11, k12, k13, k14, k15⟩, _⟩ := Bx.b16 B1.out
  obtain ⟨⟨l0, l1, l2, l3, l4, l5, l6, l7, l8, l9, l10, l11, l12, l13, l14, l15⟩, ⟨f0, f1, f2, f3, f4, f5, f6, f7, f8, f9, f10, f11, f12, f13, f14, f15⟩⟩ := Bx.b16 B0.out
  have HP := Lib.hid (Bx.b16 (Bx.set16 B0.out (.int .i64 1) (.int .i64 0) (.int .i64 0) (.int .i64 0) (.int .i64 ys) (.int .i64 yi) (.int .i64 yg) (.int .i64 ym) (.int .i64 yx) (.int .i64 yy) (.int .i64 yvx) (.int .i64 yvy) (.int .i64 yh) (.int .i64 yp) (.int .i64 yl) (.int .i64 0))).1
  have HQ := Lib.hid (RX.set (RX.set (RX.set (RX.set (RX.set (RX.set (RX.set (RX.set (RX.set (RX.set (RX.set (RX.set (RX.set (RX.set (RX.set (RX.set HR.out (Nat.le_refl _) 0 (.int .i64 1)) (Nat.le_refl _) 1 (.int .i64 0)) (Nat.le_refl _) 2 (.int .i64 0)) (Nat.le_refl _) 3 (.int .i64 0)) (Nat.le_refl _) 4 (.int .i64 ys)) (Nat.le_refl _) 5 (.int .i64 yi)) (Nat.le_refl _) 6 (.int .i64 yg)) (Nat.le_refl _) 7 (.int .i64 ym)) (Nat.le_refl _) 8 (.int .i64 yx)) (Nat.le_refl _) 9 (.int .i64 yy)) (Nat.le_refl _) 10 (.int .i64 yvx)) (Nat.le_refl _) 11 (.int .i64 yvy)) (Nat.le_refl _) 12 (.int .i64 yh)) (Nat.le_refl _) 13 (.int .i64 yp)) (Nat.le_refl _) 14 (.int .i64 yl)) (Nat.le_refl _) 15 (.int .i64 0))
  clear HR B0 B1
  go_wp2
  obtain ⟨p0, p1, p2, p3, p4, p5, p6, p7, p8, p9, p10, p11, p12, p13, p14, p15⟩ := HP.out
  exact bodyPost_ret (v := .agg #[.int .i64 1, .int .i64 0, .int .i64 0, .int .i64 0, .int .i64 ys, .int .i64 yi, .int .i64 yg, .int .i64 ym, .int .i64 yx, .int .i64 yy, .int .i64 yvx, .int .i64 yvy, .int .i64 yh, .int .i64 yp, .int .i64 yl, .int .i64 0]) (by simp [results, Tryz.results51, go_sem, p0, p1, p2, p3, p4, p5, p6, p7, p8, p9, p10, p11, p12, p13, p14, p15]) rfl ⟨rfl, HQ.out⟩
set_option maxHeartbeats 16000000 in
set_option maxRecDepth 100000 in
theorem creadcmd_3 {b : Nat} {w : World} {q : Rr} (h : CQ b w q w) (e1 : (tInt q).1 = 3) : Calls Tryz.prog 51 #[.pointer (some ⟨b, 0, none⟩)] w fun e W' => e = .returned (rawTC q).1.val ∧ CQ b w (rawTC q).2 W' := by
  have C0 := Lib.hid fun W (hW : CQ b w q W) => ctake_int hW
  have CI : Hid (∀ W, CQ b w (tInt q).2 W → Calls Tryz.prog 38 #[.pointer (some ⟨b, 0, none⟩)] W fun e W' => e = .returned (.agg #[.int .i64 (rawTID (tInt q).2).1.1, .int .i64 (rawTID (tInt q).2).1.2.1, .int .i64 (rawTID (tInt q).2).1.2.2]) ∧ CQ b w (rawTID (tInt q).2).2 W' ∧ W.grownBy W' (some b)) := Lib.hid fun W hW => (creadid_any hW.rebase).mono fun e W' ⟨h1, h2⟩ => ⟨h1, hW.trans h2, h2.grow⟩
  have CR : Hid (∀ W, CQ b w (rawTID (tInt q).2).2 W → Calls Tryz.prog 82 #[.pointer (some ⟨b, 0, none⟩)] W fun e W' => e = .returned (rawRest (rawTID (tInt q).2).2).1.val ∧ CQ b w (rawRest (rawTID (tInt q).2).2).2 W' ∧ W.grownBy W' (some b)) := Lib.hid fun W hW => (creadcomp_any hW.rebase).mono fun e W' ⟨h1, h2⟩ => ⟨h1, hW.trans h2, h2.grow⟩
  unfold rawTC rawBody
  rw [e1, if_neg (by decide), if_neg (by decide), if_pos rfl]
  generalize rawRest (rawTID (tInt q).2).2 = pr at *
  generalize rawTID (tInt q).2 = pi at *
  generalize tInt q = pk at *
  obtain ⟨k, q1⟩ := pk
  simp only at *
  obtain ⟨⟨x0, x1, x2⟩, q2⟩ := pi
  obtain ⟨⟨zs, zi, zg, zm, zx, zy, zvx, zvy, zh, zp, zl⟩, q4⟩ := pr
  subst e1
  simp only [Bn.val, Cn.val] at *
  have hb := h.lt
  have B0 := Lib.hid (at1 w (.cells #[.int .i64 0, .int .i64 0, .int .i64 0, .int .i64 0, .int .i64 0, .int .i64 0, .int .i64 0, .int .i64 0, .int .i64 0, .int .i64 0, .int .i64 0, .int .i64 0, .int .i64 0, .int .i64 0, .int .i64 0, .int .i64 0] 38))
  have HR := Lib.hid (h.below (bel1 w (.cells #[.int .i64 0, .int .i64 0, .int .i64 0, .int .i64 0, .int .i64 0, .int .i64 0, .int .i64 0, .int .i64 0, .int .i64 0, .int .i64 0, .int .i64 0, .int .i64 0, .int .i64 0, .int .i64 0, .int .i64 0, .int .i64 0] 38)))
  clear h
  go_enter Tryz.func51, Tryz.ntmps51
  go_wp2_with fail
  generalize w.alloc (.cells #[.int .i64 0, .int .i64 0, .int .i64 0, .int .i64 0, .int .i64 0, .int .i64 0, .int .i64 0, .int .i64 0, .int .i64 0, .int .i64 0, .int .i64 0, .int .i64 0, .int .i64 0, .int .i64 0, .int .i64 0, .int .i64 0] 38) = wa at *
  refine (C0.out _ HR.out).mono ?_
  rintro e w1 ⟨rfl, r1, g1⟩
  replace B0 := Lib.hid ((g1.block _ (lt_of_row B0.out) (by simp; omega)).trans B0.out)
  clear HR g1 C0
  have HR := Lib.hid r1
  clear r1
  go_upto_region 2 with fail
  have HA := Lib.hid (bel1 w1 (.cells #[.int .i64 3, .int .i64 0, .int .i64 0, .int .i64 0, .int .i64 0, .int .i64 0, .int .i64 0, .int .i64 0, .int .i64 0, .int .i64 0, .int .i64 0, .int .i64 0, .int .i64 0, .int .i64 0, .int .i64 0, .int .i64 0] 38))
  have B1 := Lib.hid (at1 w1 (.cells #[.int .i64 3, .int .i64 0, .int .i64 0, .int .i64 0, .int .i64 0, .int .i64 0, .int .i64 0, .int .i64 0, .int .i64 0, .int .i64 0, .int .i64 0, .int .i64 0, .int .i64 0, .int .i64 0, .int .i64 0, .int .i64 0] 38))
  have loB1 : w.heap.size ≤ w1.heap.size := HR.out.grow.size
  have ltB0B1 : w.heap.size < w1.heap.size := lt_of_row B0.out
  replace B0 := Lib.hid ((HA.out.block _ (lt_of_row B0.out)).trans B0.out)
  replace HR := Lib.hid (HR.out.below HA.out)
  clear HA
  generalize w1.alloc (.cells #[.int .i64 3, .int .i64 0, .int .i64 0, .int .i64 0, .int .i64 0, .int .i64 0, .int .i64 0, .int .i64 0, .int .i64 0, .int .i64 0, .int .i64 0, .int .i64 0, .int .i64 0, .int .i64 0, .int .i64 0, .int .i64 0] 38) = wb at *
  generalize w1.heap.size = o1 at *
  obtain ⟨⟨n0, n1, n2, n3, n4, n5, n6, n7, n8, n9, n10, n11, n12, n13, n14, n15⟩, ⟨d0, d1, d2, d3, d4, d5, d6, d7, d8, d9, d10, d11, d12, d13, d14, d15⟩⟩ := Bx.b16 B1.out
  go_wp2_with fail
  clear n0 n1 n2 n3 n4 n5 n6 n7 n8 n9 n10 n11 n12 n13 n14 n15 d0 d1 d2 d3 d4 d5 d6 d7 d8 d9 d10 d11 d12 d13 d14 d15
  refine (CI.out _ HR.out).mono ?_
  rintro e w2 ⟨rfl, r1, g1⟩
  replace B0 := Lib.hid ((g1.block _ (lt_of_row B0.out) (by simp; omega)).trans B0.out)
  replace B1 := Lib.hid ((g1.block _ (lt_of_row B1.out) (by simp; omega)).trans B1.out)
  clear HR g1 CI
  have HR := Lib.hid r1
  clear r1
  obtain ⟨⟨n0, n1, n2, n3, n4, n5, n6, n7, n8, n9, n10, n11, n12, n13, n14, n15⟩, ⟨d0, d1, d2, d3, d4, d5, d6, d7, d8, d9, d10, d11, d12, d13, d14, d15⟩⟩ := Bx.b16 B1.out
  go_upto_region 9 with fail
  clear n0 n1 n2 n3 n4 n5 n6 n7 n8 n9 n10 n11 n12 n13 n14 n15 d0 d1 d2 d3 d4 d5 d6 d7 d8 d9 d10 d11 d12 d13 d14 d15
  have q3_0 : (w2.setCell ⟨o1, 1, none⟩ (.int .i64 x0)).heap[o1]? = some (.cells #[.int .i64 3, .int .i64 x0, .int .i64 0, .int .i64 0, .int .i64 0, .int .i64 0, .int .i64 0, .int .i64 0, .int .i64 0, .int .i64 0, .int .i64 0, .int .i64 0, .int .i64 0, .int .i64 0, .int .i64 0, .int .i64 0] 38 (0, 0)) := heap_setCell_same _ o1 1 _ 38 (.int .i64 x0) B1.out
  have q3_1 : ((w2.setCell ⟨o1, 1, none⟩ (.int .i64 x0)).setCell ⟨o1, 2, none⟩ (.int .i64 x1)).heap[o1]? = some (.cells #[.int .i64 3, .int .i64 x0, .int .i64 x1, .int .i64 0, .int .i64 0, .int .i64 0, .int .i64 0, .int .i64 0, .int .i64 0, .int .i64 0, .int .i64 0, .int .i64 0, .int .i64 0, .int .i64 0, .int .i64 0, .int .i64 0] 38 (0, 0)) := heap_setCell_same _ o1 2 _ 38 (.int .i64 x1) q3_0
  have q3_2 : (((w2.setCell ⟨o1, 1, none⟩ (.int .i64 x0)).setCell ⟨o1, 2, none⟩ (.int .i64 x1)).setCell ⟨o1, 3, none⟩ (.int .i64 x2)).heap[o1]? = some (.cells #[.int .i64 3, .int .i64 x0, .int .i64 x1, .int .i64 x2, .int .i64 0, .int .i64 0, .int .i64 0, .int .i64 0, .int .i64 0, .int .i64 0, .int .i64 0, .int .i64 0, .int .i64 0, .int .i64 0, .int .i64 0, .int .i64 0] 38 (0, 0)) := heap_setCell_same _ o1 3 _ 38 (.int .i64 x2) q3_1
  have nq3_B0 : Hid ((((w2.setCell ⟨o1, 1, none⟩ (.int .i64 x0)).setCell ⟨o1, 2, none⟩ (.int .i64 x1)).setCell ⟨o1, 3, none⟩ (.int .i64 x2)).heap[w.heap.size]? = some (.cells #[.int .i64 0, .int .i64 0, .int .i64 0, .int .i64 0, .int .i64 0, .int .i64 0, .int .i64 0, .int .i64 0, .int .i64 0, .int .i64 0, .int .i64 0, .int .i64 0, .int .i64 0, .int .i64 0, .int .i64 0, .int .i64 0] 38 (0, 0))) := Lib.hid (by (repeat rw [Bx.ne (by omega)]); exact B0.out)
  replace HR := Lib.hid (RX.set (RX.set (RX.set HR.out loB1 1 (.int .i64 x0)) loB1 2 (.int .i64 x1)) loB1 3 (.int .i64 x2))
  replace B1 := Lib.hid q3_2
  replace B0 := nq3_B0
  clear nq3_B0
  clear q3_0 q3_1 q3_2
  generalize (((w2.setCell ⟨o1, 1, none⟩ (.int .i64 x0)).setCell ⟨o1, 2, none⟩ (.int .i64 x1)).setCell ⟨o1, 3, none⟩ (.int .i64 x2)) = wd at *
  go_wp2_with fail
  refine (CR.out _ HR.out).mono ?_
  rintro e w3 ⟨rfl, r1, g1⟩
  replace B0 := Lib.hid ((g1.block _ (lt_of_row B0.out) (by simp; omega)).trans B0.out)
  replace B1 := Lib.hid ((g1.block _ (lt_of_row B1.out) (by simp; omega)).trans B1.out)
  clear HR g1 CR
  have HR := Lib.hid r1
  clear r1
  obtain ⟨⟨n0, n1, n2, n3, n4, n5, n6, n7, n8, n9, n10, n11, n12, n13, n14, n15⟩, ⟨d0, d1, d2, d3, d4, d5, d6, d7, d8, d9, d10, d11, d12, d13, d14, d15⟩⟩ := Bx.b16 B1.out
  go_upto_region 13 with fail
  clear n0 n1 n2 n3 n4 n5 n6 n7 n8 n9 n10 n11 n12 n13 n14 n15 d0 d1 d2 d3 d4 d5 d6 d7 d8 d9 d10 d11 d12 d13 d14 d15
  have q4_0 : (w3.setCell ⟨o1, 4, none⟩ (.int .i64 zs)).heap[o1]? = some (.cells #[.int .i64 3, .int .i64 x0, .int .i64 x1, .int .i64 x2, .int .i64 zs, .int .i64 0, .int .i64 0, .int .i64 0, .int .i64 0, .int .i64 0, .int .i64 0, .int .i64 0, .int .i64 0, .int .i64 0, .int .i64 0, .int .i64 0] 38 (0, 0)) := heap_setCell_same _ o1 4 _ 38 (.int .i64 zs) B1.out
  have q4_1 : ((w3.setCell ⟨o1, 4, none⟩ (.int .i64 zs)).setCell ⟨o1, 5, none⟩ (.int .i64 zi)).heap[o1]? = some (.cells #[.int .i64 3, .int .i64 x0, .int .i64 x1, .int .i64 x2, .int .i64 zs, .int .i64 zi, .int .i64 0, .int .i64 0, .int .i64 0, .int .i64 0, .int .i64 0, .int .i64 0, .int .i64 0, .int .i64 0, .int .i64 0, .int .i64 0] 38 (0, 0)) := heap_setCell_same _ o1 5 _ 38 (.int .i64 zi) q4_0
  have q4_2 : (((w3.setCell ⟨o1, 4, none⟩ (.int .i64 zs)).setCell ⟨o1, 5, none⟩ (.int .i64 zi)).setCell ⟨o1, 6, none⟩ (.int .i64 zg)).heap[o1]? = some (.cells #[.int .i64 3, .int .i64 x0, .int .i64 x1, .int .i64 x2, .int .i64 zs, .int .i64 zi, .int .i64 zg, .int .i64 0, .int .i64 0, .int .i64 0, .int .i64 0, .int .i64 0, .int .i64 0, .int .i64 0, .int .i64 0, .int .i64 0] 38 (0, 0)) := heap_setCell_same _ o1 6 _ 38 (.int .i64 zg) q4_1
  have q4_3 : ((((w3.setCell ⟨o1, 4, none⟩ (.int .i64 zs)).setCell ⟨o1, 5, none⟩ (.int .i64 zi)).setCell ⟨o1, 6, none⟩ (.int .i64 zg)).setCell ⟨o1, 7, none⟩ (.int .i64 zm)).heap[o1]? = some (.cells #[.int .i64 3, .int .i64 x0, .int .i64 x1, .int .i64 x2, .int .i64 zs, .int .i64 zi, .int .i64 zg, .int .i64 zm, .int .i64 0, .int .i64 0, .int .i64 0, .int .i64 0, .int .i64 0, .int .i64 0, .int .i64 0, .int .i64 0] 38 (0, 0)) := heap_setCell_same _ o1 7 _ 38 (.int .i64 zm) q4_2
  have q4_4 : (((((w3.setCell ⟨o1, 4, none⟩ (.int .i64 zs)).setCell ⟨o1, 5, none⟩ (.int .i64 zi)).setCell ⟨o1, 6, none⟩ (.int .i64 zg)).setCell ⟨o1, 7, none⟩ (.int .i64 zm)).setCell ⟨o1, 8, none⟩ (.int .i64 zx)).heap[o1]? = some (.cells #[.int .i64 3, .int .i64 x0, .int .i64 x1, .int .i64 x2, .int .i64 zs, .int .i64 zi, .int .i64 zg, .int .i64 zm, .int .i64 zx, .int .i64 0, .int .i64 0, .int .i64 0, .int .i64 0, .int .i64 0, .int .i64 0, .int .i64 0] 38 (0, 0)) := heap_setCell_same _ o1 8 _ 38 (.int .i64 zx) q4_3
  have q4_5 : ((((((w3.setCell ⟨o1, 4, none⟩ (.int .i64 zs)).setCell ⟨o1, 5, none⟩ (.int .i64 zi)).setCell ⟨o1, 6, none⟩ (.int .i64 zg)).setCell ⟨o1, 7, none⟩ (.int .i64 zm)).setCell ⟨o1, 8, none⟩ (.int .i64 zx)).setCell ⟨o1, 9, none⟩ (.int .i64 zy)).heap[o1]? = some (.cells #[.int .i64 3, .int .i64 x0, .int .i64 x1, .int .i64 x2, .int .i64 zs, .int .i64 zi, .int .i64 zg, .int .i64 zm, .int .i64 zx, .int .i64 zy, .int .i64 0, .int .i64 0, .int .i64 0, .int .i64 0, .int .i64 0, .int .i64 0] 38 (0, 0)) := heap_setCell_same _ o1 9 _ 38 (.int .i64 zy) q4_4
  have q4_6 : (((((((w3.setCell ⟨o1, 4, none⟩ (.int .i64 zs)).setCell ⟨o1, 5, none⟩ (.int .i64 zi)).setCell ⟨o1, 6, none⟩ (.int .i64 zg)).setCell ⟨o1, 7, none⟩ (.int .i64 zm)).setCell ⟨o1, 8, none⟩ (.int .i64 zx)).setCell ⟨o1, 9, none⟩ (.int .i64 zy)).setCell ⟨o1, 10, none⟩ (.int .i64 zvx)).heap[o1]? = some (.cells #[.int .i64 3, .int .i64 x0, .int .i64 x1, .int .i64 x2, .int .i64 zs, .int .i64 zi, .int .i64 zg, .int .i64 zm, .int .i64 zx, .int .i64 zy, .int .i64 zvx, .int .i64 0, .int .i64 0, .int .i64 0, .int .i64 0, .int .i64 0] 38 (0, 0)) := heap_setCell_same _ o1 10 _ 38 (.int .i64 zvx) q4_5
  have q4_7 : ((((((((w3.setCell ⟨o1, 4, none⟩ (.int .i64 zs)).setCell ⟨o1, 5, none⟩ (.int .i64 zi)).setCell ⟨o1, 6, none⟩ (.int .i64 zg)).setCell ⟨o1, 7, none⟩ (.int .i64 zm)).setCell ⟨o1, 8, none⟩ (.int .i64 zx)).setCell ⟨o1, 9, none⟩ (.int .i64 zy)).setCell ⟨o1, 10, none⟩ (.int .i64 zvx)).setCell ⟨o1, 11, none⟩ (.int .i64 zvy)).heap[o1]? = some (.cells #[.int .i64 3, .int .i64 x0, .int .i64 x1, .int .i64 x2, .int .i64 zs, .int .i64 zi, .int .i64 zg, .int .i64 zm, .int .i64 zx, .int .i64 zy, .int .i64 zvx, .int .i64 zvy, .int .i64 0, .int .i64 0, .int .i64 0, .int .i64 0] 38 (0, 0)) := heap_setCell_same _ o1 11 _ 38 (.int .i64 zvy) q4_6
  have q4_8 : (((((((((w3.setCell ⟨o1, 4, none⟩ (.int .i64 zs)).setCell ⟨o1, 5, none⟩ (.int .i64 zi)).setCell ⟨o1, 6, none⟩ (.int .i64 zg)).setCell ⟨o1, 7, none⟩ (.int .i64 zm)).setCell ⟨o1, 8, none⟩ (.int .i64 zx)).setCell ⟨o1, 9, none⟩ (.int .i64 zy)).setCell ⟨o1, 10, none⟩ (.int .i64 zvx)).setCell ⟨o1, 11, none⟩ (.int .i64 zvy)).setCell ⟨o1, 12, none⟩ (.int .i64 zh)).heap[o1]? = some (.cells #[.int .i64 3, .int .i64 x0, .int .i64 x1, .int .i64 x2, .int .i64 zs, .int .i64 zi, .int .i64 zg, .int .i64 zm, .int .i64 zx, .int .i64 zy, .int .i64 zvx, .int .i64 zvy, .int .i64 zh, .int .i64 0, .int .i64 0, .int .i64 0] 38 (0, 0)) := heap_setCell_same _ o1 12 _ 38 (.int .i64 zh) q4_7
  have q4_9 : ((((((((((w3.setCell ⟨o1, 4, none⟩ (.int .i64 zs)).setCell ⟨o1, 5, none⟩ (.int .i64 zi)).setCell ⟨o1, 6, none⟩ (.int .i64 zg)).setCell ⟨o1, 7, none⟩ (.int .i64 zm)).setCell ⟨o1, 8, none⟩ (.int .i64 zx)).setCell ⟨o1, 9, none⟩ (.int .i64 zy)).setCell ⟨o1, 10, none⟩ (.int .i64 zvx)).setCell ⟨o1, 11, none⟩ (.int .i64 zvy)).setCell ⟨o1, 12, none⟩ (.int .i64 zh)).setCell ⟨o1, 13, none⟩ (.int .i64 zp)).heap[o1]? = some (.cells #[.int .i64 3, .int .i64 x0, .int .i64 x1, .int .i64 x2, .int .i64 zs, .int .i64 zi, .int .i64 zg, .int .i64 zm, .int .i64 zx, .int .i64 zy, .int .i64 zvx, .int .i64 zvy, .int .i64 zh, .int .i64 zp, .int .i64 0, .int .i64 0] 38 (0, 0)) := heap_setCell_same _ o1 13 _ 38 (.int .i64 zp) q4_8
  have q4_10 : (((((((((((w3.setCell ⟨o1, 4, none⟩ (.int .i64 zs)).setCell ⟨o1, 5, none⟩ (.int .i64 zi)).setCell ⟨o1, 6, none⟩ (.int .i64 zg)).setCell ⟨o1, 7, none⟩ (.int .i64 zm)).setCell ⟨o1, 8, none⟩ (.int .i64 zx)).setCell ⟨o1, 9, none⟩ (.int .i64 zy)).setCell ⟨o1, 10, none⟩ (.int .i64 zvx)).setCell ⟨o1, 11, none⟩ (.int .i64 zvy)).setCell ⟨o1, 12, none⟩ (.int .i64 zh)).setCell ⟨o1, 13, none⟩ (.int .i64 zp)).setCell ⟨o1, 14, none⟩ (.int .i64 zl)).heap[o1]? = some (.cells #[.int .i64 3, .int .i64 x0, .int .i64 x1, .int .i64 x2, .int .i64 zs, .int .i64 zi, .int .i64 zg, .int .i64 zm, .int .i64 zx, .int .i64 zy, .int .i64 zvx, .int .i64 zvy, .int .i64 zh, .int .i64 zp, .int .i64 zl, .int .i64 0] 38 (0, 0)) := heap_setCell_same _ o1 14 _ 38 (.int .i64 zl) q4_9
  have nq4_B0 : Hid ((((((((((((w3.setCell ⟨o1, 4, none⟩ (.int .i64 zs)).setCell ⟨o1, 5, none⟩ (.int .i64 zi)).setCell ⟨o1, 6, none⟩ (.int .i64 zg)).setCell ⟨o1, 7, none⟩ (.int .i64 zm)).setCell ⟨o1, 8, none⟩ (.int .i64 zx)).setCell ⟨o1, 9, none⟩ (.int .i64 zy)).setCell ⟨o1, 10, none⟩ (.int .i64 zvx)).setCell ⟨o1, 11, none⟩ (.int .i64 zvy)).setCell ⟨o1, 12, none⟩ (.int .i64 zh)).setCell ⟨o1, 13, none⟩ (.int .i64 zp)).setCell ⟨o1, 14, none⟩ (.int .i64 zl)).heap[w.heap.size]? = some (.cells #[.int .i64 0, .int .i64 0, .int .i64 0, .int .i64 0, .int .i64 0, .int .i64 0, .int .i64 0, .int .i64 0, .int .i64 0, .int .i64 0, .int .i64 0, .int .i64 0, .int .i64 0, .int .i64 0, .int .i64 0, .int .i64 0] 38 (0, 0))) := Lib.hid (by (repeat rw [Bx.ne (by omega)]); exact B0.out)
  replace HR := Lib.hid (RX.set (RX.set (RX.set (RX.set (RX.set (RX.set (RX.set (RX.set (RX.set (RX.set (RX.set HR.out loB1 4 (.int .i64 zs)) loB1 5 (.int .i64 zi)) loB1 6 (.int .i64 zg)) loB1 7 (.int .i64 zm)) loB1 8 (.int .i64 zx)) loB1 9 (.int .i64 zy)) loB1 10 (.int .i64 zvx)) loB1 11 (.int .i64 zvy)) loB1 12 (.int .i64 zh)) loB1 13 (.int .i64 zp)) loB1 14 (.int .i64 zl))
  replace B1 := Lib.hid q4_10
  replace B0 := nq4_B0
  clear nq4_B0
  clear q4_0 q4_1 q4_2 q4_3 q4_4 q4_5 q4_6 q4_7 q4_8 q4_9 q4_10
  generalize (((((((((((w3.setCell ⟨o1, 4, none⟩ (.int .i64 zs)).setCell ⟨o1, 5, none⟩ (.int .i64 zi)).setCell ⟨o1, 6, none⟩ (.int .i64 zg)).setCell ⟨o1, 7, none⟩ (.int .i64 zm)).setCell ⟨o1, 8, none⟩ (.int .i64 zx)).setCell ⟨o1, 9, none⟩ (.int .i64 zy)).setCell ⟨o1, 10, none⟩ (.int .i64 zvx)).setCell ⟨o1, 11, none⟩ (.int .i64 zvy)).setCell ⟨o1, 12, none⟩ (.int .i64 zh)).setCell ⟨o1, 13, none⟩ (.int .i64 zp)).setCell ⟨o1, 14, none⟩ (.int .i64 zl)) = we at *
  obtain ⟨⟨k0, k1, k2, k3, k4, k5, k6, k7, k8, k9, k10, k11, k12, k13, k14, k15⟩, _⟩ := Bx.b16 B1.out
  obtain ⟨⟨l0, l1, l2, l3, l4, l5, l6, l7, l8, l9, l10, l11, l12, l13, l14, l15⟩, ⟨f0, f1, f2, f3, f4, f5, f6, f7, f8, f9, f10, f11, f12, f13, f14, f15⟩⟩ := Bx.b16 B0.out
  have HP := Lib.hid (Bx.b16 (Bx.set16 B0.out (.int .i64 3) (.int .i64 x0) (.int .i64 x1) (.int .i64 x2) (.int .i64 zs) (.int .i64 zi) (.int .i64 zg) (.int .i64 zm) (.int .i64 zx) (.int .i64 zy) (.int .i64 zvx) (.int .i64 zvy) (.int .i64 zh) (.int .i64 zp) (.int .i64 zl) (.int .i64 0))).1
  have HQ := Lib.hid (RX.set (RX.set (RX.set (RX.set (RX.set (RX.set (RX.set (RX.set (RX.set (RX.set (RX.set (RX.set (RX.set (RX.set (RX.set (RX.set HR.out (Nat.le_refl _) 0 (.int .i64 3)) (Nat.le_refl _) 1 (.int .i64 x0)) (Nat.le_refl _) 2 (.int .i64 x1)) (Nat.le_refl _) 3 (.int .i64 x2)) (Nat.le_refl _) 4 (.int .i64 zs)) (Nat.le_refl _) 5 (.int .i64 zi)) (Nat.le_refl _) 6 (.int .i64 zg)) (Nat.le_refl _) 7 (.int .i64 zm)) (Nat.le_refl _) 8 (.int .i64 zx)) (Nat.le_refl _) 9 (.int .i64 zy)) (Nat.le_refl _) 10 (.int .i64 zvx)) (Nat.le_refl _) 11 (.int .i64 zvy)) (Nat.le_refl _) 12 (.int .i64 zh)) (Nat.le_refl _) 13 (.int .i64 zp)) (Nat.le_refl _) 14 (.int .i64 zl)) (Nat.le_refl _) 15 (.int .i64 0))
  clear HR B0 B1
  go_wp2
  obtain ⟨p0, p1, p2, p3, p4, p5, p6, p7, p8, p9, p10, p11, p12, p13, p14, p15⟩ := HP.out
  exact bodyPost_ret (v := .agg #[.int .i64 3, .int .i64 x0, .int .i64 x1, .int .i64 x2, .int .i64 zs, .int .i64 zi, .int .i64 zg, .int .i64 zm, .int .i64 zx, .int .i64 zy, .int .i64 zvx, .int .i64 zvy, .int .i64 zh, .int .i64 zp, .int .i64 zl, .int .i64 0]) (by simp [results, Tryz.results51, go_sem, p0, p1, p2, p3, p4, p5, p6, p7, p8, p9, p10, p11, p12, p13, p14, p15]) rfl ⟨rfl, HQ.out⟩
end Go.Proofs.YtdhlebmgeiiejaaGreat
