/- The code's codec: a command is read. Written by wip/tools/genrd.py. -/
import Derived.Test.YtdhlebmgeiiejaaGreatKCdReadB
namespace Go.Proofs.YtdhlebmgeiiejaaGreat
open Go.RowKit Pz Cd
set_option linter.unusedVariables false
set_option linter.unusedSimpArgs false

set_option maxHeartbeats 16000000 in
set_option maxRecDepth 100000 in
theorem creadcmd_2 {b : Nat} {w : World} {q : Rr} (h : CQ b w q w) (e1 : (tInt q).1 = 2) : Calls Tryz.prog 51 #[.pointer (some ⟨b, 0, none⟩)] w fun e W' => e = .returned (rawTC q).1.val ∧ CQ b w (rawTC q).2 W' := by
  have C0 := Lib.hid fun W (hW : CQ b w q W) => ctake_int hW
  have CI : Hid (∀ W, CQ b w (tInt q).2 W → Calls Tryz.prog 38 #[.pointer (some ⟨b, 0, none⟩)] W fun e W' => e = .returned (.agg #[.int .i64 (rawTID (tInt q).2).1.1, .int .i64 (rawTID (tInt q).2).1.2.1, .int .i64 (rawTID (tInt q).2).1.2.2]) ∧ CQ b w (rawTID (tInt q).2).2 W' ∧ W.grownBy W' (some b)) := Lib.hid fun W hW => (creadid_any hW.rebase).mono fun e W' ⟨h1, h2⟩ => ⟨h1, hW.trans h2, h2.grow⟩
  unfold rawTC rawBody
  rw [e1, if_neg (by decide), if_pos rfl]
  generalize rawTID (tInt q).2 = pi at *
  generalize tInt q = pk at *
  obtain ⟨k, q1⟩ := pk
  simp only at *
  obtain ⟨⟨x0, x1, x2⟩, q2⟩ := pi
  subst e1
  simp only [Bn.val, Cn.val] at *
  have hb := h.lt
  have B0 := Lib.hid (at1 w (.cells #[.int .i64 0, .int .i64 0, .int .i64 0, .int .i64 0, .int .i64 0, .int .i64 0, .int .i64 0, .int .i64 0, .int .i64 0, .int .i64 0, .int .i64 0, .int .i64 0, .int .i64 0, .int .i64 0, .int .i64 0, .int .i64 0] 38))
  have HR := Lib.hid (h.below (bel1 w (.cells #[.int .i64 0, .int .i64 0, .int .i64 0, .int .i64 0, .int .i64 0, .int .i64 0, .int .i64 0, .int .i64 0, .int .i64 0, .int .i64 0, .int .i64 0, .int .i64 0, .int .i64 0, .int .i64 0, .int .i64 0, .int .i64 0] 38)))
  clear h
  go_enter Tryz.func51, Tryz.ntmps51
  go_wp2_with fail
  generalize w.alloc (.cells #[.int .i64 0, .int .i64 0, .int .i64 0, .int .i64 0, .int .i64 0, .int .i64 0, .int .i64 0, .int .i64 0, .int .i64 0, .int .i64 0, .int .i64 0, .int .i64 0, .int .i64 0, .int .i64 0, .int .i64 0, .int .i64 0] 38) = wa at *
  refine (C0.out _ HR.out).mono ?_
  rintro e w1 ⟨rfl, r1, g1⟩
  replace B0 := Lib.hid ((g1.block _ (lt_of_row B0.out) (by simp; omega)).trans B0.out)
  clear HR g1 C0
  have HR := Lib.hid r1
  clear r1
  go_upto_region 2 with fail
  have HA := Lib.hid (bel1 w1 (.cells #[.int .i64 2, .int .i64 0, .int .i64 0, .int .i64 0, .int .i64 0, .int .i64 0, .int .i64 0, .int .i64 0, .int .i64 0, .int .i64 0, .int .i64 0, .int .i64 0, .int .i64 0, .int .i64 0, .int .i64 0, .int .i64 0] 38))
  have B1 := Lib.hid (at1 w1 (.cells #[.int .i64 2, .int .i64 0, .int .i64 0, .int .i64 0, .int .i64 0, .int .i64 0, .int .i64 0, .int .i64 0, .int .i64 0, .int .i64 0, .int .i64 0, .int .i64 0, .int .i64 0, .int .i64 0, .int .i64 0, .int .i64 0] 38))
  have loB1 : w.heap.size ≤ w1.heap.size := HR.out.grow.size
  have ltB0B1 : w.heap.size < w1.heap.size := lt_of_row B0.out
  replace B0 := Lib.hid ((HA.out.block _ (lt_of_row B0.out)).trans B0.out)
  replace HR := Lib.hid (HR.out.below HA.out)
  clear HA
  generalize w1.alloc (.cells #[.int .i64 2, .int .i64 0, .int .i64 0, .int .i64 0, .int .i64 0, .int .i64 0, .int .i64 0, .int .i64 0, .int .i64 0, .int .i64 0, .int .i64 0, .int .i64 0, .int .i64 0, .int .i64 0, .int .i64 0, .int .i64 0] 38) = wb at *
  generalize w1.heap.size = o1 at *
  obtain ⟨⟨n0, n1, n2, n3, n4, n5, n6, n7, n8, n9, n10, n11, n12, n13, n14, n15⟩, ⟨d0, d1, d2, d3, d4, d5, d6, d7, d8, d9, d10, d11, d12, d13, d14, d15⟩⟩ := Bx.b16 B1.out
  go_wp2_with fail
  clear n0 n1 n2 n3 n4 n5 n6 n7 n8 n9 n10 n11 n12 n13 n14 n15 d0 d1 d2 d3 d4 d5 d6 d7 d8 d9 d10 d11 d12 d13 d14 d15
  refine (CI.out _ HR.out).mono ?_
  rintro e w2 ⟨rfl, r1, g1⟩
  replace B0 := Lib.hid ((g1.block _ (lt_of_row B0.out) (by simp; omega)).trans B0.out)
  replace B1 := Lib.hid ((g1.block _ (lt_of_row B1.out) (by simp; omega)).trans B1.out)
  clear HR g1 CI
  have HR := Lib.hid r1
  clear r1
  obtain ⟨⟨n0, n1, n2, n3, n4, n5, n6, n7, n8, n9, n10, n11, n12, n13, n14, n15⟩, ⟨d0, d1, d2, d3, d4, d5, d6, d7, d8, d9, d10, d11, d12, d13, d14, d15⟩⟩ := Bx.b16 B1.out
  go_upto_region 13 with fail
  clear n0 n1 n2 n3 n4 n5 n6 n7 n8 n9 n10 n11 n12 n13 n14 n15 d0 d1 d2 d3 d4 d5 d6 d7 d8 d9 d10 d11 d12 d13 d14 d15
  have q2_0 : (w2.setCell ⟨o1, 1, none⟩ (.int .i64 x0)).heap[o1]? = some (.cells #[.int .i64 2, .int .i64 x0, .int .i64 0, .int .i64 0, .int .i64 0, .int .i64 0, .int .i64 0, .int .i64 0, .int .i64 0, .int .i64 0, .int .i64 0, .int .i64 0, .int .i64 0, .int .i64 0, .int .i64 0, .int .i64 0] 38 (0, 0)) := heap_setCell_same _ o1 1 _ 38 (.int .i64 x0) B1.out
  have q2_1 : ((w2.setCell ⟨o1, 1, none⟩ (.int .i64 x0)).setCell ⟨o1, 2, none⟩ (.int .i64 x1)).heap[o1]? = some (.cells #[.int .i64 2, .int .i64 x0, .int .i64 x1, .int .i64 0, .int .i64 0, .int .i64 0, .int .i64 0, .int .i64 0, .int .i64 0, .int .i64 0, .int .i64 0, .int .i64 0, .int .i64 0, .int .i64 0, .int .i64 0, .int .i64 0] 38 (0, 0)) := heap_setCell_same _ o1 2 _ 38 (.int .i64 x1) q2_0
  have q2_2 : (((w2.setCell ⟨o1, 1, none⟩ (.int .i64 x0)).setCell ⟨o1, 2, none⟩ (.int .i64 x1)).setCell ⟨o1, 3, none⟩ (.int .i64 x2)).heap[o1]? = some (.cells #[.int .i64 2, .int .i64 x0, .int .i64 x1, .int .i64 x2, .int .i64 0, .int .i64 0, .int .i64 0, .int .i64 0, .int .i64 0, .int .i64 0, .int .i64 0, .int .i64 0, .int .i64 0, .int .i64 0, .int .i64 0, .int .i64 0] 38 (0, 0)) := heap_setCell_same _ o1 3 _ 38 (.int .i64 x2) q2_1
  have nq2_B0 : Hid ((((w2.setCell ⟨o1, 1, none⟩ (.int .i64 x0)).setCell ⟨o1, 2, none⟩ (.int .i64 x1)).setCell ⟨o1, 3, none⟩ (.int .i64 x2)).heap[w.heap.size]? = some (.cells #[.int .i64 0, .int .i64 0, .int .i64 0, .int .i64 0, .int .i64 0, .int .i64 0, .int .i64 0, .int .i64 0, .int .i64 0, .int .i64 0, .int .i64 0, .int .i64 0, .int .i64 0, .int .i64 0, .int .i64 0, .int .i64 0] 38 (0, 0))) := Lib.hid (by (repeat rw [Bx.ne (by omega)]); exact B0.out)
  replace HR := Lib.hid (RX.set (RX.set (RX.set HR.out loB1 1 (.int .i64 x0)) loB1 2 (.int .i64 x1)) loB1 3 (.int .i64 x2))
  replace B1 := Lib.hid q2_2
  replace B0 := nq2_B0
  clear nq2_B0
  clear q2_0 q2_1 q2_2
  generalize (((w2.setCell ⟨o1, 1, none⟩ (.int .i64 x0)).setCell ⟨o1, 2, none⟩ (.int .i64 x1)).setCell ⟨o1, 3, none⟩ (.int .i64 x2)) = wd at *
  obtain ⟨⟨k0, k1, k2, k3, k4, k5, k6, k7, k8, k9, k10, k11, k12, k13, k14, k15⟩, _⟩ := Bx.b16 B1.out
  obtain ⟨⟨l0, l1, l2, l3, l4, l5, l6, l7, l8, l9, l10, l11, l12, l13, l14, l15⟩, ⟨f0, f1, f2, f3, f4, f5, f6, f7, f8, f9, f10, f11, f12, f13, f14, f15⟩⟩ := Bx.b16 B0.out
  have HP := Lib.hid (Bx.b16 (Bx.set16 B0.out (.int .i64 2) (.int .i64 x0) (.int .i64 x1) (.int .i64 x2) (.int .i64 0) (.int .i64 0) (.int .i64 0) (.int .i64 0) (.int .i64 0) (.int .i64 0) (.int .i64 0) (.int .i64 0) (.int .i64 0) (.int .i64 0) (.int .i64 0) (.int .i64 0))).1
  have HQ := Lib.hid (RX.set (RX.set (RX.set (RX.set (RX.set (RX.set (RX.set (RX.set (RX.set (RX.set (RX.set (RX.set (RX.set (RX.set (RX.set (RX.set HR.out (Nat.le_refl _) 0 (.int .i64 2)) (Nat.le_refl _) 1 (.int .i64 x0)) (Nat.le_refl _) 2 (.int .i64 x1)) (Nat.le_refl _) 3 (.int .i64 x2)) (Nat.le_refl _) 4 (.int .i64 0)) (Nat.le_refl _) 5 (.int .i64 0)) (Nat.le_refl _) 6 (.int .i64 0)) (Nat.le_refl _) 7 (.int .i64 0)) (Nat.le_refl _) 8 (.int .i64 0)) (Nat.le_refl _) 9 (.int .i64 0)) (Nat.le_refl _) 10 (.int .i64 0)) (Nat.le_refl _) 11 (.int .i64 0)) (Nat.le_refl _) 12 (.int .i64 0)) (Nat.le_refl _) 13 (.int .i64 0)) (Nat.le_refl _) 14 (.int .i64 0)) (Nat.le_refl _) 15 (.int .i64 0))
  clear HR B0 B1
  go_wp2
  obtain ⟨p0, p1, p2, p3, p4, p5, p6, p7, p8, p9, p10, p11, p12, p13, p14, p15⟩ := HP.out
  exact bodyPost_ret (v := .agg #[.int .i64 2, .int .i64 x0, .int .i64 x1, .int .i64 x2, .int .i64 0, .int .i64 0, .int .i64 0, .int .i64 0, .int .i64 0, .int .i64 0, .int .i64 0, .int .i64 0, .int .i64 0, .int .i64 0, .int .i64 0, .int .i64 0]) (by simp [results, Tryz.results51, go_sem, p0, p1, p2, p3, p4, p5, p6, p7, p8, p9, p10, p11, p12, p13, p14, p15]) rfl ⟨rfl, HQ.out⟩
set_option maxHeartbeats 16000000 in
set_option maxRecDepth 100000 in
theorem creadcmd_4 {b : Nat} {w : World} {q : Rr} (h : CQ b w q w) (e1 : (tInt q).1 = 4) : Calls Tryz.prog 51 #[.pointer (some ⟨b, 0, none⟩)] w fun e W' => e = .returned (rawTC q).1.val ∧ CQ b w (rawTC q).2 W' := by
  have C0 := Lib.hid fun W (hW : CQ b w q W) => ctake_int hW
  have CI : Hid (∀ W, CQ b w (tInt q).2 W → Calls Tryz.prog 38 #[.pointer (some ⟨b, 0, none⟩)] W fun e W' => e = .returned (.agg #[.int .i64 (rawTID (tInt q).2).1.1, .int .i64 (rawTID (tInt q).2).1.2.1, .int .i64 (rawTID (tInt q).2).1.2.2]) ∧ CQ b w (rawTID (tInt q).2).2 W' ∧ W.grownBy W' (some b)) := Lib.hid fun W hW => (creadid_any hW.rebase).mono fun e W' ⟨h1, h2⟩ => ⟨h1, hW.trans h2, h2.grow⟩
  have CM := Lib.hid fun W (hW : CQ b w (rawTID (tInt q).2).2 W) => ctake_int hW
  unfold rawTC rawBody
  rw [e1, if_neg (by decide), if_neg (by decide), if_neg (by decide), if_pos rfl]
  generalize tInt (rawTID (tInt q).2).2 = pm at *
  generalize rawTID (tInt q).2 = pi at *
  generalize tInt q = pk at *
  obtain ⟨k, q1⟩ := pk
  simp only at *
  obtain ⟨⟨x0, x1, x2⟩, q2⟩ := pi
  obtain ⟨mm, q5⟩ := pm
  subst e1
  simp only [Bn.val, Cn.val] at *
  have hb := h.lt
  have B0 := Lib.hid (at1 w (.cells #[.int .i64 0, .int .i64 0, .int .i64 0, .int .i64 0, .int .i64 0, .int .i64 0, .int .i64 0, .int .i64 0, .int .i64 0, .int .i64 0, .int .i64 0, .int .i64 0, .int .i64 0, .int .i64 0, .int .i64 0, .int .i64 0] 38))
  have HR := Lib.hid (h.below (bel1 w (.cells #[.int .i64 0, .int .i64 0, .int .i64 0, .int .i64 0, .int .i64 0, .int .i64 0, .int .i64 0, .int .i64 0, .int .i64 0, .int .i64 0, .int .i64 0, .int .i64 0, .int .i64 0, .int .i64 0, .int .i64 0, .int .i64 0] 38)))
  clear h
  go_enter Tryz.func51, Tryz.ntmps51
  go_wp2_with fail
  generalize w.alloc (.cells #[.int .i64 0, .int .i64 0, .int .i64 0, .int .i64 0, .int .i64 0, .int .i64 0, .int .i64 0, .int .i64 0, .int .i64 0, .int .i64 0, .int .i64 0, .int .i64 0, .int .i64 0, .int .i64 0, .int .i64 0, .int .i64 0] 38) = wa at *
  refine (C0.out _ HR.out).mono ?_
  rintro e w1 ⟨rfl, r1, g1⟩
  replace B0 := Lib.hid ((g1.block _ (lt_of_row B0.out) (by simp; omega)).trans B0.out)
  clear HR g1 C0
  have HR := Lib.hid r1
  clear r1
  go_upto_region 2 with fail
  have HA := Lib.hid (bel1 w1 (.cells #[.int .i64 4, .int .i64 0, .int .i64 0, .int .i64 0, .int .i64 0, .int .i64 0, .int .i64 0, .int .i64 0, .int .i64 0, .int .i64 0, .int .i64 0, .int .i64 0, .int .i64 0, .int .i64 0, .int .i64 0, .int .i64 0] 38))
  have B1 := Lib.hid (at1 w1 (.cells #[.int .i64 4, .int .i64 0, .int .i64 0, .int .i64 0, .int .i64 0, .int .i64 0, .int .i64 0, .int .i64 0, .int .i64 0, .int .i64 0, .int .i64 0, .int .i64 0, .int .i64 0, .int .i64 0, .int .i64 0, .int .i64 0] 38))
  have loB1 : w.heap.size ≤ w1.heap.size := HR.out.grow.size
  have ltB0B1 : w.heap.size < w1.heap.size := lt_of_row B0.out
  replace B0 := Lib.hid ((HA.out.block _ (lt_of_row B0.out)).trans B0.out)
  replace HR := Lib.hid (HR.out.below HA.out)
  clear HA
  generalize w1.alloc (.cells #[.int .i64 4, .int .i64 0, .int .i64 0, .int .i64 0, .int .i64 0, .int .i64 0, .int .i64 0, .int .i64 0, .int .i64 0, .int .i64 0, .int .i64 0, .int .i64 0, .int .i64 0, .int .i64 0, .int .i64 0, .int .i64 0] 38) = wb at *
  generalize w1.heap.size = o1 at *
  obtain ⟨⟨n0, n1, n2, n3, n4, n5, n6, n7, n8, n9, n10, n11, n12, n13, n14, n15⟩, ⟨d0, d1, d2, d3, d4, d5, d6, d7, d8, d9, d10, d11, d12, d13, d14, d15⟩⟩ := Bx.b16 B1.out
  go_wp2_with fail
  clear n0 n1 n2 n3 n4 n5 n6 n7 n8 n9 n10 n11 n12 n13 n14 n15 d0 d1 d2 d3 d4 d5 d6 d7 d8 d9 d10 d11 d12 d13 d14 d15
  refine (CI.out _ HR.out).mono ?_
  rintro e w2 ⟨rfl, r1, g1⟩
  replace B0 := Lib.hid ((g1.block _ (lt_of_row B0.out) (by simp; omega)).trans B0.out)
  replace B1 := Lib.hid ((g1.block _ (lt_of_row B1.out) (by simp; omega)).trans B1.out)
  clear HR g1 CI
  have HR := Lib.hid r1
  clear r1
  obtain ⟨⟨n0, n1, n2, n3, n4, n5, n6, n7, n8, n9, n10, n11, n12, n13, n14, n15⟩, ⟨d0, d1, d2, d3, d4, d5, d6, d7, d8, d9, d10, d11, d12, d13, d14, d15⟩⟩ := Bx.b16 B1.out
  go_upto_region 12 with fail
  clear n0 n1 n2 n3 n4 n5 n6 n7 n8 n9 n10 n11 n12 n13 n14 n15 d0 d1 d2 d3 d4 d5 d6 d7 d8 d9 d10 d11 d12 d13 d14 d15
  have q5_0 : (w2.setCell ⟨o1, 1, none⟩ (.int .i64 x0)).heap[o1]? = some (.cells #[.int .i64 4, .int .i64 x0, .int .i64 0, .int .i64 0, .int .i64 0, .int .i64 0, .int .i64 0, .int .i64 0, .int .i64 0, .int .i64 0, .int .i64 0, .int .i64 0, .int .i64 0, .int .i64 0, .int .i64 0, .int .i64 0] 38 (0, 0)) := heap_setCell_same _ o1 1 _ 38 (.int .i64 x0) B1.out
  have q5_1 : ((w2.setCell ⟨o1, 1, none⟩ (.int .i64 x0)).setCell ⟨o1, 2, none⟩ (.int .i64 x1)).heap[o1]? = some (.cells #[.int .i64 4, .int .i64 x0, .int .i64 x1, .int .i64 0, .int .i64 0, .int .i64 0, .int .i64 0, .int .i64 0, .int .i64 0, .int .i64 0, .int .i64 0, .int .i64 0, .int .i64 0, .int .i64 0, .int .i64 0, .int .i64 0] 38 (0, 0)) := heap_setCell_same _ o1 2 _ 38 (.int .i64 x1) q5_0
  have q5_2 : (((w2.setCell ⟨o1, 1, none⟩ (.int .i64 x0)).setCell ⟨o1, 2, none⟩ (.int .i64 x1)).setCell ⟨o1, 3, none⟩ (.int .i64 x2)).heap[o1]? = some (.cells #[.int .i64 4, .int .i64 x0, .int .i64 x1, .int .i64 x2, .int .i64 0, .int .i64 0, .int .i64 0, .int .i64 0, .int .i64 0, .int .i64 0, .int .i64 0, .int .i64 0, .int .i64 0, .int .i64 0, .int .i64 0, .int .i64 0] 38 (0, 0)) := heap_setCell_same _ o1 3 _ 38 (.int .i64 x2) q5_1
  have nq5_B0 : Hid ((((w2.setCell ⟨o1, 1, none⟩ (.int .i64 x0)).setCell ⟨o1, 2, none⟩ (.int .i64 x1)).setCell ⟨o1, 3, none⟩ (.int .i64 x2)).heap[w.heap.size]? = some (.cells #[.int .i64 0, .int .i64 0, .int .i64 0, .int .i64 0, .int .i64 0, .int .i64 0, .int .i64 0, .int .i64 0, .int .i64 0, .int .i64 0, .int .i64 0, .int .i64 0, .int .i64 0, .int .i64 0, .int .i64 0, .int .i64 0] 38 (0, 0))) := Lib.hid (by (repeat rw [Bx.ne (by omega)]); exact B0.out)
  replace HR := Lib.hid (RX.set (RX.set (RX.set HR.out loB1 1 (.int .i64 x0)) loB1 2 (.int .i64 x1)) loB1 3 (.int .i64 x2))
  replace B1 := Lib.hid q5_2
  replace B0 := nq5_B0
  clear nq5_B0
  clear q5_0 q5_1 q5_2
  generalize (((w2.setCell ⟨o1, 1, none⟩ (.int .i64 x0)).setCell ⟨o1, 2, none⟩ (.int .i64 x1)).setCell ⟨o1, 3, none⟩ (.int .i64 x2)) = wd at *
  go_wp2_with fail
  refine (CM.out _ HR.out).mono ?_
  rintro e w3 ⟨rfl, r1, g1⟩
  replace B0 := Lib.hid ((g1.block _ (lt_of_row B0.out) (by simp; omega)).trans B0.out)
  replace B1 := Lib.hid ((g1.block _ (lt_of_row B1.out) (by simp; omega)).trans B1.out)
  clear HR g1 CM
  have HR := Lib.hid r1
  clear r1
  obtain ⟨⟨n0, n1, n2, n3, n4, n5, n6, n7, n8, n9, n10, n11, n12, n13, n14, n15⟩, ⟨d0, d1, d2, d3, d4, d5, d6, d7, d8, d9, d10, d11, d12, d13, d14, d15⟩⟩ := Bx.b16 B1.out
  go_upto_region 13 with fail
  clear n0 n1 n2 n3 n4 n5 n6 n7 n8 n9 n10 n11 n12 n13 n14 n15 d0 d1 d2 d3 d4 d5 d6 d7 d8 d9 d10 d11 d12 d13 d14 d15
  have q6_0 : (w3.setCell ⟨o1, 15, none⟩ (.int .i64 mm)).heap[o1]? = some (.cells #[.int .i64 4, .int .i64 x0, .int .i64 x1, .int .i64 x2, .int .i64 0, .int .i64 0, .int .i64 0, .int .i64 0, .int .i64 0, .int .i64 0, .int .i64 0, .int .i64 0, .int .i64 0, .int .i64 0, .int .i64 0, .int .i64 mm] 38 (0, 0)) := heap_setCell_same _ o1 15 _ 38 (.int .i64 mm) B1.out
  have nq6_B0 : Hid ((w3.setCell ⟨o1, 15, none⟩ (.int .i64 mm)).heap[w.heap.size]? = some (.cells #[.int .i64 0, .int .i64 0, .int .i64 0, .int .i64 0, .int .i64 0, .int .i64 0, .int .i64 0, .int .i64 0, .int .i64 0, .int .i64 0, .int .i64 0, .int .i64 0, .int .i64 0, .int .i64 0, .int .i64 0, .int .i64 0] 38 (0, 0))) := Lib.hid (by (repeat rw [Bx.ne (by omega)]); exact B0.out)
  replace HR := Lib.hid (RX.set HR.out loB1 15 (.int .i64 mm))
  replace B1 := Lib.hid q6_0
  replace B0 := nq6_B0
  clear nq6_B0
  clear q6_0
  generalize (w3.setCell ⟨o1, 15, none⟩ (.int .i64 mm)) = we at *
  obtain ⟨⟨k0, k1, k2, k3, k4, k5, k6, k7, k8, k9, k10, k11, k12, k13, k14, k15⟩, _⟩ := Bx.b16 B1.out
  obtain ⟨⟨l0, l1, l2, l3, l4, l5, l6, l7, l8, l9, l10, l11, l12, l13, l14, l15⟩, ⟨f0, f1, f2, f3, f4, f5, f6, f7, f8, f9, f10, f11, f12, f13, f14, f15⟩⟩ := Bx.b16 B0.out
  have HP := Lib.hid (Bx.b16 (Bx.set16 B0.out (.int .i64 4) (.int .i64 x0) (.int .i64 x1) (.int .i64 x2) (.int .i64 0) (.int .i64 0) (.int .i64 0) (.int .i64 0) (.int .i64 0) (.int .i64 0) (.int .i64 0) (.int .i64 0) (.int .i64 0) (.int .i64 0) (.int .i64 0) (.int .i64 mm))).1
  have HQ := Lib.hid (RX.set (RX.set (RX.set (RX.set (RX.set (RX.set (RX.set (RX.set (RX.set (RX.set (RX.set (RX.set (RX.set (RX.set (RX.set (RX.set HR.out (Nat.le_refl _) 0 (.int .i64 4)) (Nat.le_refl _) 1 (.int .i64 x0)) (Nat.le_refl _) 2 (.int .i64 x1)) (Nat.le_refl _) 3 (.int .i64 x2)) (Nat.le_refl _) 4 (.int .i64 0)) (Nat.le_refl _) 5 (.int .i64 0)) (Nat.le_refl _) 6 (.int .i64 0)) (Nat.le_refl _) 7 (.int .i64 0)) (Nat.le_refl _) 8 (.int .i64 0)) (Nat.le_refl _) 9 (.int .i64 0)) (Nat.le_refl _) 10 (.int .i64 0)) (Nat.le_refl _) 11 (.int .i64 0)) (Nat.le_refl _) 12 (.int .i64 0)) (Nat.le_refl _) 13 (.int .i64 0)) (Nat.le_refl _) 14 (.int .i64 0)) (Nat.le_refl _) 15 (.int .i64 mm))
  clear HR B0 B1
  go_wp2
  obtain ⟨p0, p1, p2, p3, p4, p5, p6, p7, p8, p9, p10, p11, p12, p13, p14, p15⟩ := HP.out
  exact bodyPost_ret (v := .agg #[.int .i64 4, .int .i64 x0, .int .i64 x1, .int .i64 x2, .int .i64 0, .int .i64 0, .int .i64 0, .int .i64 0, .int .i64 0, .int .i64 0, .int .i64 0, .int .i64 0, .int .i64 0, .int .i64 0, .int .i64 0, .int .i64 mm]) (by simp [results, Tryz.results51, go_sem, p0, p1, p2, p3, p4, p5, p6, p7, p8, p9, p10, p11, p12, p13, p14, p15]) rfl ⟨rfl, HQ.out⟩
set_option maxHeartbeats 16000000 in
set_option maxRecDepth 100000 in
theorem creadcmd_5 {b : Nat} {w : World} {q : Rr} (h : CQ b w q w) (h1 : ¬ (tInt q).1 = 1) (h2 : ¬ (tInt q).1 = 2) (h3 : ¬ (tInt q).1 = 3) (h4 : ¬ (tInt q).1 = 4) : Calls Tryz.prog 51 #[.pointer (some ⟨b, 0, none⟩)] w fun e W' => e = .returned (rawTC q).1.val ∧ CQ b w (rawTC q).2 W' := by
  have C0 := Lib.hid fun W (hW : CQ b w q W) => ctake_int hW
  unfold rawTC rawBody
  rw [if_neg h1, if_neg h2, if_neg h3, if_neg h4]
  generalize tInt q = pk at *
  obtain ⟨k, q1⟩ := pk
  simp only at *
  simp only [Bn.val, Cn.val] at *
  have hb := h.lt
  have B0 := Lib.hid (at1 w (.cells #[.int .i64 0, .int .i64 0, .int .i64 0, .int .i64 0, .int .i64 0, .int .i64 0, .int .i64 0, .int .i64 0, .int .i64 0, .int .i64 0, .int .i64 0, .int .i64 0, .int .i64 0, .int .i64 0, .int .i64 0, .int .i64 0] 38))
  have HR := Lib.hid (h.below (bel1 w (.cells #[.int .i64 0, .int .i64 0, .int .i64 0, .int .i64 0, .int .i64 0, .int .i64 0, .int .i64 0, .int .i64 0, .int .i64 0, .int .i64 0, .int .i64 0, .int .i64 0, .int .i64 0, .int .i64 0, .int .i64 0, .int .i64 0] 38)))
  clear h
  go_enter Tryz.func51, Tryz.ntmps51
  go_wp2_with fail
  generalize w.alloc (.cells #[.int .i64 0, .int .i64 0, .int .i64 0, .int .i64 0, .int .i64 0, .int .i64 0, .int .i64 0, .int .i64 0, .int .i64 0, .int .i64 0, .int .i64 0, .int .i64 0, .int .i64 0, .int .i64 0, .int .i64 0, .int .i64 0] 38) = wa at *
  refine (C0.out _ HR.out).mono ?_
  rintro e w1 ⟨rfl, r1, g1⟩
  replace B0 := Lib.hid ((g1.block _ (lt_of_row B0.out) (by simp; omega)).trans B0.out)
  clear HR g1 C0
  have HR := Lib.hid r1
  clear r1
  go_upto_region 2 with fail
  have HA := Lib.hid (bel1 w1 (.cells #[.int .i64 k, .int .i64 0, .int .i64 0, .int .i64 0, .int .i64 0, .int .i64 0, .int .i64 0, .int .i64 0, .int .i64 0, .int .i64 0, .int .i64 0, .int .i64 0, .int .i64 0, .int .i64 0, .int .i64 0, .int .i64 0] 38))
  have B1 := Lib.hid (at1 w1 (.cells #[.int .i64 k, .int .i64 0, .int .i64 0, .int .i64 0, .int .i64 0, .int .i64 0, .int .i64 0, .int .i64 0, .int .i64 0, .int .i64 0, .int .i64 0, .int .i64 0, .int .i64 0, .int .i64 0, .int .i64 0, .int .i64 0] 38))
  have loB1 : w.heap.size ≤ w1.heap.size := HR.out.grow.size
  have ltB0B1 : w.heap.size < w1.heap.size := lt_of_row B0.out
  replace B0 := Lib.hid ((HA.out.block _ (lt_of_row B0.out)).trans B0.out)
  replace HR := Lib.hid (HR.out.below HA.out)
  clear HA
  generalize w1.alloc (.cells #[.int .i64 k, .int .i64 0, .int .i64 0, .int .i64 0, .int .i64 0, .int .i64 0, .int .i64 0, .int .i64 0, .int .i64 0, .int .i64 0, .int .i64 0, .int .i64 0, .int .i64 0, .int .i64 0, .int .i64 0, .int .i64 0] 38) = wb at *
  generalize w1.heap.size = o1 at *
  have e1 : (k == 1) = false := by simpa using h1
  have e2 : (k == 2) = false := by simpa using h2
  have e3 : (k == 3) = false := by simpa using h3
  have e4 : (k == 4) = false := by simpa using h4
  obtain ⟨⟨n0, n1, n2, n3, n4, n5, n6, n7, n8, n9, n10, n11, n12, n13, n14, n15⟩, ⟨d0, d1, d2, d3, d4, d5, d6, d7, d8, d9, d10, d11, d12, d13, d14, d15⟩⟩ := Bx.b16 B1.out
  go_upto_region 13 with fail
  clear n0 n1 n2 n3 n4 n5 n6 n7 n8 n9 n10 n11 n12 n13 n14 n15 d0 d1 d2 d3 d4 d5 d6 d7 d8 d9 d10 d11 d12 d13 d14 d15
  obtain ⟨⟨k0, k1, k2, k3, k4, k5, k6, k7, k8, k9, k10, k11, k12, k13, k14, k15⟩, _⟩ := Bx.b16 B1.out
  obtain ⟨⟨l0, l1, l2, l3, l4, l5, l6, l7, l8, l9, l10, l11, l12, l13, l14, l15⟩, ⟨f0, f1, f2, f3, f4, f5, f6, f7, f8, f9, f10, f11, f12, f13, f14, f15⟩⟩ := Bx.b16 B0.out
  have HP := Lib.hid (Bx.b16 (Bx.set16 B0.out (.int .i64 k) (.int .i64 0) (.int .i64 0) (.int .i64 0) (.int .i64 0) (.int .i64 0) (.int .i64 0) (.int .i64 0) (.int .i64 0) (.int .i64 0) (.int .i64 0) (.int .i64 0) (.int .i64 0) (.int .i64 0) (.int .i64 0) (.int .i64 0))).1
  have HQ := Lib.hid (RX.set (RX.set (RX.set (RX.set (RX.set (RX.set (RX.set (RX.set (RX.set (RX.set (RX.set (RX.set (RX.set (RX.set (RX.set (RX.set HR.out (Nat.le_refl _) 0 (.int .i64 k)) (Nat.le_refl _) 1 (.int .i64 0)) (Nat.le_refl _) 2 (.int .i64 0)) (Nat.le_refl _) 3 (.int .i64 0)) (Nat.le_refl _) 4 (.int .i64 0)) (Nat.le_refl _) 5 (.int .i64 0)) (Nat.le_refl _) 6 (.int .i64 0)) (Nat.le_refl _) 7 (.int .i64 0)) (Nat.le_refl _) 8 (.int .i64 0)) (Nat.le_refl _) 9 (.int .i64 0)) (Nat.le_refl _) 10 (.int .i64 0)) (Nat.le_refl _) 11 (.int .i64 0)) (Nat.le_refl _) 12 (.int .i64 0)) (Nat.le_refl _) 13 (.int .i64 0)) (Nat.le_refl _) 14 (.int .i64 0)) (Nat.le_refl _) 15 (.int .i64 0))
  clear HR B0 B1
  go_wp2
  obtain ⟨p0, p1, p2, p3, p4, p5, p6, p7, p8, p9, p10, p11, p12, p13, p14, p15⟩ := HP.out
  exact bodyPost_ret (v := .agg #[.int .i64 k, .int .i64 0, .int .i64 0, .int .i64 0, .int .i64 0, .int .i64 0, .int .i64 0, .int .i64 0, .int .i64 0, .int .i64 0, .int .i64 0, .int .i64 0, .int .i64 0, .int .i64 0, .int .i64 0, .int .i64 0]) (by simp [results, Tryz.results51, go_sem, p0, p1, p2, p3, p4, p5, p6, p7, p8, p9, p10, p11, p12, p13, p14, p15]) rfl ⟨rfl, HQ.out⟩
end Go.Proofs.YtdhlebmgeiiejaaGreat
