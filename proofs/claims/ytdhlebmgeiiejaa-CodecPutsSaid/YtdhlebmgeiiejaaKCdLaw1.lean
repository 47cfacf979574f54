/- A name, an entity, a command are laid as the document says. Written by wip/tools/gencdlaw.py. -/
import Derived.Test.YtdhlebmgeiiejaaKDec
import Derived.Test.YtdhlebmgeiiejaaKRef
import Derived.Test.YtdhlebmgeiiejaaKCdRef3
import Derived.Test.YtdhlebmgeiiejaaKBase
namespace Go.Proofs.Ytdhlebmgeiiejaa
open Go.RowKit Pz Cd
set_option linter.unusedVariables false
set_option linter.unusedSimpArgs false

set_option maxHeartbeats 16000000 in
set_option maxRecDepth 100000 in
theorem law_puts (w : World) (xs xi xg : Int) (b : Bn) (c : Cn) (hb : b.Fits) (hc : FitN c.k ∧ FitN c.m ∧ c.b.Fits) : Calls Try.prog 3 #[.agg #[.int .i64 xs, .int .i64 xi, .int .i64 xg], b.val, c.val] w fun e w' => e = .returned (.bool true) ∧ Below w.heap.size w w' := by
  have C1 : Hid (∀ W, Calls Try.prog 7 #[.agg #[.int .i64 xs, .int .i64 xi, .int .i64 xg]] W fun e w' => e = .returned (.string ⟨(putID (xs, xi, xg)).toArray⟩) ∧ Below W.heap.size W w') := Lib.hid fun W => cput_id _ _ _ W
  have C2 : Hid (∀ W, Calls Try.prog 8 #[.agg #[.int .i64 xs, .int .i64 xi, .int .i64 xg]] W fun e w' => e = .returned (.string ⟨(putID (xs, xi, xg)).toArray⟩) ∧ Below W.heap.size W w') := Lib.hid fun W => rid_any _ _ _ W
  have C3 : Hid (∀ W, Calls Try.prog 9 #[b.val] W fun e w' => e = .returned (.string ⟨(putB b).toArray⟩) ∧ Below W.heap.size W w') := Lib.hid fun W => cput_b b W
  have C4 : Hid (∀ W, Calls Try.prog 10 #[b.val] W fun e w' => e = .returned (.string ⟨(putB b).toArray⟩) ∧ Below W.heap.size W w') := Lib.hid fun W => rbundle_any b hb W
  have C5 : Hid (∀ W, Calls Try.prog 11 #[c.val] W fun e w' => e = .returned (.string ⟨(putC c).toArray⟩) ∧ Below W.heap.size W w') := Lib.hid fun W => cput_c c W
  have C6 : Hid (∀ W, Calls Try.prog 12 #[c.val] W fun e w' => e = .returned (.string ⟨(putC c).toArray⟩) ∧ Below W.heap.size W w') := Lib.hid fun W => rcmd_any c hc.1 hc.2.1 hc.2.2 W
  have AW : Hid (∀ W, Calls Try.prog 13 #[] W fun e w' => e = .returned (.bool true) ∧ Below W.heap.size W w') := Lib.hid fun W => awake_any W
  generalize (putID (xs, xi, xg)).toArray = r1 at *
  generalize (putB b).toArray = r2 at *
  generalize (putC c).toArray = r3 at *
  clear hb hc
  obtain ⟨qs, qi, qg, qm, qx, qy, qvx, qvy, qh, qp, ql⟩ := b
  obtain ⟨pk, ps, pi, pg, ⟨pbs, pbi, pbg, pbm, px, py, pvx, pvy, ph, pp, pl⟩, pm⟩ := c
  simp only [Bn.val, Cn.val] at *
  have T0 := at3a w (.cells #[.int .i64 xs, .int .i64 xi, .int .i64 xg] 23) (.cells #[.int .i64 qs, .int .i64 qi, .int .i64 qg, .int .i64 qm, .int .i64 qx, .int .i64 qy, .int .i64 qvx, .int .i64 qvy, .int .i64 qh, .int .i64 qp, .int .i64 ql] 25) (.cells #[.int .i64 pk, .int .i64 ps, .int .i64 pi, .int .i64 pg, .int .i64 pbs, .int .i64 pbi, .int .i64 pbg, .int .i64 pbm, .int .i64 px, .int .i64 py, .int .i64 pvx, .int .i64 pvy, .int .i64 ph, .int .i64 pp, .int .i64 pl, .int .i64 pm] 27)
  have T1 := at3b w (.cells #[.int .i64 xs, .int .i64 xi, .int .i64 xg] 23) (.cells #[.int .i64 qs, .int .i64 qi, .int .i64 qg, .int .i64 qm, .int .i64 qx, .int .i64 qy, .int .i64 qvx, .int .i64 qvy, .int .i64 qh, .int .i64 qp, .int .i64 ql] 25) (.cells #[.int .i64 pk, .int .i64 ps, .int .i64 pi, .int .i64 pg, .int .i64 pbs, .int .i64 pbi, .int .i64 pbg, .int .i64 pbm, .int .i64 px, .int .i64 py, .int .i64 pvx, .int .i64 pvy, .int .i64 ph, .int .i64 pp, .int .i64 pl, .int .i64 pm] 27)
  have T2 := at3c w (.cells #[.int .i64 xs, .int .i64 xi, .int .i64 xg] 23) (.cells #[.int .i64 qs, .int .i64 qi, .int .i64 qg, .int .i64 qm, .int .i64 qx, .int .i64 qy, .int .i64 qvx, .int .i64 qvy, .int .i64 qh, .int .i64 qp, .int .i64 ql] 25) (.cells #[.int .i64 pk, .int .i64 ps, .int .i64 pi, .int .i64 pg, .int .i64 pbs, .int .i64 pbi, .int .i64 pbg, .int .i64 pbm, .int .i64 px, .int .i64 py, .int .i64 pvx, .int .i64 pvy, .int .i64 ph, .int .i64 pp, .int .i64 pl, .int .i64 pm] 27)
  have BE := bel3 w (.cells #[.int .i64 xs, .int .i64 xi, .int .i64 xg] 23) (.cells #[.int .i64 qs, .int .i64 qi, .int .i64 qg, .int .i64 qm, .int .i64 qx, .int .i64 qy, .int .i64 qvx, .int .i64 qvy, .int .i64 qh, .int .i64 qp, .int .i64 ql] 25) (.cells #[.int .i64 pk, .int .i64 ps, .int .i64 pi, .int .i64 pg, .int .i64 pbs, .int .i64 pbi, .int .i64 pbg, .int .i64 pbm, .int .i64 px, .int .i64 py, .int .i64 pvx, .int .i64 pvy, .int .i64 ph, .int .i64 pp, .int .i64 pl, .int .i64 pm] 27)
  have CE : Hid (∀ W, Below (((w.alloc (.cells #[.int .i64 xs, .int .i64 xi, .int .i64 xg] 23)).alloc (.cells #[.int .i64 qs, .int .i64 qi, .int .i64 qg, .int .i64 qm, .int .i64 qx, .int .i64 qy, .int .i64 qvx, .int .i64 qvy, .int .i64 qh, .int .i64 qp, .int .i64 ql] 25)).alloc (.cells #[.int .i64 pk, .int .i64 ps, .int .i64 pi, .int .i64 pg, .int .i64 pbs, .int .i64 pbi, .int .i64 pbg, .int .i64 pbm, .int .i64 px, .int .i64 py, .int .i64 pvx, .int .i64 pvy, .int .i64 ph, .int .i64 pp, .int .i64 pl, .int .i64 pm] 27)).heap.size (((w.alloc (.cells #[.int .i64 xs, .int .i64 xi, .int .i64 xg] 23)).alloc (.cells #[.int .i64 qs, .int .i64 qi, .int .i64 qg, .int .i64 qm, .int .i64 qx, .int .i64 qy, .int .i64 qvx, .int .i64 qvy, .int .i64 qh, .int .i64 qp, .int .i64 ql] 25)).alloc (.cells #[.int .i64 pk, .int .i64 ps, .int .i64 pi, .int .i64 pg, .int .i64 pbs, .int .i64 pbi, .int .i64 pbg, .int .i64 pbm, .int .i64 px, .int .i64 py, .int .i64 pvx, .int .i64 pvy, .int .i64 ph, .int .i64 pp, .int .i64 pl, .int .i64 pm] 27)) W → ((W.cell? ⟨w.heap.size, 0, none⟩ = some (.int .i64 xs) ∧ W.cell? ⟨w.heap.size, 1, none⟩ = some (.int .i64 xi) ∧ W.cell? ⟨w.heap.size, 2, none⟩ = some (.int .i64 xg)) ∧ (W.cell? ⟨w.heap.size + 1, 0, none⟩ = some (.int .i64 qs) ∧ W.cell? ⟨w.heap.size + 1, 1, none⟩ = some (.int .i64 qi) ∧ W.cell? ⟨w.heap.size + 1, 2, none⟩ = some (.int .i64 qg) ∧ W.cell? ⟨w.heap.size + 1, 3, none⟩ = some (.int .i64 qm) ∧ W.cell? ⟨w.heap.size + 1, 4, none⟩ = some (.int .i64 qx) ∧ W.cell? ⟨w.heap.size + 1, 5, none⟩ = some (.int .i64 qy) ∧ W.cell? ⟨w.heap.size + 1, 6, none⟩ = some (.int .i64 qvx) ∧ W.cell? ⟨w.heap.size + 1, 7, none⟩ = some (.int .i64 qvy) ∧ W.cell? ⟨w.heap.size + 1, 8, none⟩ = some (.int .i64 qh) ∧ W.cell? ⟨w.heap.size + 1, 9, none⟩ = some (.int .i64 qp) ∧ W.cell? ⟨w.heap.size + 1, 10, none⟩ = some (.int .i64 ql)) ∧ (W.cell? ⟨w.heap.size + 2, 0, none⟩ = some (.int .i64 pk) ∧ W.cell? ⟨w.heap.size + 2, 1, none⟩ = some (.int .i64 ps) ∧ W.cell? ⟨w.heap.size + 2, 2, none⟩ = some (.int .i64 pi) ∧ W.cell? ⟨w.heap.size + 2, 3, none⟩ = some (.int .i64 pg) ∧ W.cell? ⟨w.heap.size + 2, 4, none⟩ = some (.int .i64 pbs) ∧ W.cell? ⟨w.heap.size + 2, 5, none⟩ = some (.int .i64 pbi) ∧ W.cell? ⟨w.heap.size + 2, 6, none⟩ = some (.int .i64 pbg) ∧ W.cell? ⟨w.heap.size + 2, 7, none⟩ = some (.int .i64 pbm) ∧ W.cell? ⟨w.heap.size + 2, 8, none⟩ = some (.int .i64 px) ∧ W.cell? ⟨w.heap.size + 2, 9, none⟩ = some (.int .i64 py) ∧ W.cell? ⟨w.heap.size + 2, 10, none⟩ = some (.int .i64 pvx) ∧ W.cell? ⟨w.heap.size + 2, 11, none⟩ = some (.int .i64 pvy) ∧ W.cell? ⟨w.heap.size + 2, 12, none⟩ = some (.int .i64 ph) ∧ W.cell? ⟨w.heap.size + 2, 13, none⟩ = some (.int .i64 pp) ∧ W.cell? ⟨w.heap.size + 2, 14, none⟩ = some (.int .i64 pl) ∧ W.cell? ⟨w.heap.size + 2, 15, none⟩ = some (.int .i64 pm))) ∧ Below w.heap.size w W) := Lib.hid fun W hW => ⟨⟨(Bx.b3 ((hW.block _ (Bx.lt T0)).trans T0)).1, (Bx.b11 ((hW.block _ (Bx.lt T1)).trans T1)).1, (Bx.b16 ((hW.block _ (Bx.lt T2)).trans T2)).1⟩, BE.trans (hW.mono BE.size)⟩
  have HB := Lib.hid (Below.refl (((w.alloc (.cells #[.int .i64 xs, .int .i64 xi, .int .i64 xg] 23)).alloc (.cells #[.int .i64 qs, .int .i64 qi, .int .i64 qg, .int .i64 qm, .int .i64 qx, .int .i64 qy, .int .i64 qvx, .int .i64 qvy, .int .i64 qh, .int .i64 qp, .int .i64 ql] 25)).alloc (.cells #[.int .i64 pk, .int .i64 ps, .int .i64 pi, .int .i64 pg, .int .i64 pbs, .int .i64 pbi, .int .i64 pbg, .int .i64 pbm, .int .i64 px, .int .i64 py, .int .i64 pvx, .int .i64 pvy, .int .i64 ph, .int .i64 pp, .int .i64 pl, .int .i64 pm] 27)).heap.size (((w.alloc (.cells #[.int .i64 xs, .int .i64 xi, .int .i64 xg] 23)).alloc (.cells #[.int .i64 qs, .int .i64 qi, .int .i64 qg, .int .i64 qm, .int .i64 qx, .int .i64 qy, .int .i64 qvx, .int .i64 qvy, .int .i64 qh, .int .i64 qp, .int .i64 ql] 25)).alloc (.cells #[.int .i64 pk, .int .i64 ps, .int .i64 pi, .int .i64 pg, .int .i64 pbs, .int .i64 pbi, .int .i64 pbg, .int .i64 pbm, .int .i64 px, .int .i64 py, .int .i64 pvx, .int .i64 pvy, .int .i64 ph, .int .i64 pp, .int .i64 pl, .int .i64 pm] 27)))
  clear T0 T1 T2 BE
  go_enter Try.func3, Try.ntmps3
  go_upto_region 1 with fail
  generalize ((w.alloc (.cells #[.int .i64 xs, .int .i64 xi, .int .i64 xg] 23)).alloc (.cells #[.int .i64 qs, .int .i64 qi, .int .i64 qg, .int .i64 qm, .int .i64 qx, .int .i64 qy, .int .i64 qvx, .int .i64 qvy, .int .i64 qh, .int .i64 qp, .int .i64 ql] 25)).alloc (.cells #[.int .i64 pk, .int .i64 ps, .int .i64 pi, .int .i64 pg, .int .i64 pbs, .int .i64 pbi, .int .i64 pbg, .int .i64 pbm, .int .i64 px, .int .i64 py, .int .i64 pvx, .int .i64 pvy, .int .i64 ph, .int .i64 pp, .int .i64 pl, .int .i64 pm] 27) = w1 at *
  have PF := fun p : Lat grows w1 => (CE.out p.W (HB.out.trans (p.h.mono HB.out.size))).1
  have k0_0 := fun p => (PF p).1.1
  have k0_1 := fun p => (PF p).1.2.1
  have k0_2 := fun p => (PF p).1.2.2
  have k1_0 := fun p => (PF p).2.1.1
  have k1_1 := fun p => (PF p).2.1.2.1
  have k1_2 := fun p => (PF p).2.1.2.2.1
  have k1_3 := fun p => (PF p).2.1.2.2.2.1
  have k1_4 := fun p => (PF p).2.1.2.2.2.2.1
  have k1_5 := fun p => (PF p).2.1.2.2.2.2.2.1
  have k1_6 := fun p => (PF p).2.1.2.2.2.2.2.2.1
  have k1_7 := fun p => (PF p).2.1.2.2.2.2.2.2.2.1
  have k1_8 := fun p => (PF p).2.1.2.2.2.2.2.2.2.2.1
  have k1_9 := fun p => (PF p).2.1.2.2.2.2.2.2.2.2.2.1
  have k1_10 := fun p => (PF p).2.1.2.2.2.2.2.2.2.2.2.2
  have k2_0 := fun p => (PF p).2.2.1
  have k2_1 := fun p => (PF p).2.2.2.1
  have k2_2 := fun p => (PF p).2.2.2.2.1
  have k2_3 := fun p => (PF p).2.2.2.2.2.1
  have k2_4 := fun p => (PF p).2.2.2.2.2.2.1
  have k2_5 := fun p => (PF p).2.2.2.2.2.2.2.1
  have k2_6 := fun p => (PF p).2.2.2.2.2.2.2.2.1
  have k2_7 := fun p => (PF p).2.2.2.2.2.2.2.2.2.1
  have k2_8 := fun p => (PF p).2.2.2.2.2.2.2.2.2.2.1
  have k2_9 := fun p => (PF p).2.2.2.2.2.2.2.2.2.2.2.1
  have k2_10 := fun p => (PF p).2.2.2.2.2.2.2.2.2.2.2.2.1
  have k2_11 := fun p => (PF p).2.2.2.2.2.2.2.2.2.2.2.2.2.1
  have k2_12 := fun p => (PF p).2.2.2.2.2.2.2.2.2.2.2.2.2.2.1
  have k2_13 := fun p => (PF p).2.2.2.2.2.2.2.2.2.2.2.2.2.2.2.1
  have k2_14 := fun p => (PF p).2.2.2.2.2.2.2.2.2.2.2.2.2.2.2.2.1
  have k2_15 := fun p => (PF p).2.2.2.2.2.2.2.2.2.2.2.2.2.2.2.2.2
  clear PF
  refine Og.grow 23 (by kernel_rfl) (by kernel_rfl) fun hc hf => ?_
  clear hc hf
  simp only [List.take_succ_cons, List.take_zero, List.drop_succ_cons, List.drop_zero]
  (refine Og.det [] rfl (fun J hJ => ?_); go_simp; refine hJ _ _ ?_; clear hJ J)
  refine Og.det [] rfl (fun J hJ => ?_)
  go_simp
  with_reducible refine ⟨_, fun p => Og.lays (C1.out p.W), hJ _ _ ?_⟩
  clear hJ J
  (refine Og.det [] rfl (fun J hJ => ?_); go_simp; refine hJ _ _ ?_; clear hJ J)
  refine Og.det [] rfl (fun J hJ => ?_)
  go_simp
  with_reducible refine ⟨_, fun p => Og.lays (C2.out p.W), hJ _ _ ?_⟩
  clear hJ J
  (refine Og.det [] rfl (fun J hJ => ?_); go_simp; refine hJ _ _ ?_; clear hJ J)
  (refine Og.det [] rfl (fun J hJ => ?_); go_simp; refine hJ _ _ ?_; clear hJ J)
  (refine Og.det [] rfl (fun J hJ => ?_); go_simp; refine hJ _ _ ?_; clear hJ J)
  refine Og.det [] rfl (fun J hJ => ?_)
  go_simp
  with_reducible refine ⟨_, fun p => Og.lays (C3.out p.W), hJ _ _ ?_⟩
  clear hJ J
  (refine Og.det [] rfl (fun J hJ => ?_); go_simp; refine hJ _ _ ?_; clear hJ J)
  refine Og.det [] rfl (fun J hJ => ?_)
  go_simp
  with_reducible refine ⟨_, fun p => Og.lays (C4.out p.W), hJ _ _ ?_⟩
  clear hJ J
  (refine Og.det [] rfl (fun J hJ => ?_); go_simp; refine hJ _ _ ?_; clear hJ J)
  (refine Og.det [] rfl (fun J hJ => ?_); go_simp; refine hJ _ _ ?_; clear hJ J)
  (refine Og.det [] rfl (fun J hJ => ?_); go_simp; refine hJ _ _ ?_; clear hJ J)
  (refine Og.det [] rfl (fun J hJ => ?_); go_simp; refine hJ _ _ ?_; clear hJ J)
  refine Og.det [] rfl (fun J hJ => ?_)
  go_simp
  with_reducible refine ⟨_, fun p => Og.lays (C5.out p.W), hJ _ _ ?_⟩
  clear hJ J
  (refine Og.det [] rfl (fun J hJ => ?_); go_simp; refine hJ _ _ ?_; clear hJ J)
  refine Og.det [] rfl (fun J hJ => ?_)
  go_simp
  with_reducible refine ⟨_, fun p => Og.lays (C6.out p.W), hJ _ _ ?_⟩
  clear hJ J
  (refine Og.det [] rfl (fun J hJ => ?_); go_simp; refine hJ _ _ ?_; clear hJ J)
  (refine Og.det [] rfl (fun J hJ => ?_); go_simp; refine hJ _ _ ?_; clear hJ J)
  (refine Og.det [] rfl (fun J hJ => ?_); go_simp; refine hJ _ _ ?_; clear hJ J)
  refine Og.det [] rfl (fun J hJ => ?_)
  go_simp
  with_reducible refine ⟨_, fun p => Og.lays (AW.out p.W), hJ _ _ ?_⟩
  clear hJ J
  (refine Og.det [] rfl (fun J hJ => ?_); go_simp; refine hJ _ _ ?_; clear hJ J)
  (refine Og.det [] rfl (fun J hJ => ?_); go_simp; refine hJ _ _ ?_; clear hJ J)
  refine Og.fin fun W hW => ?_
  simp only [Og.opened_nil]
  have FB := (CE.out W (HB.out.trans (hW.mono HB.out.size))).2
  clear k0_0 k0_1 k0_2 k1_0 k1_1 k1_2 k1_3 k1_4 k1_5 k1_6 k1_7 k1_8 k1_9 k1_10 k2_0 k2_1 k2_2 k2_3 k2_4 k2_5 k2_6 k2_7 k2_8 k2_9 k2_10 k2_11 k2_12 k2_13 k2_14 k2_15
  go_wp2
  go_ret
  exact ⟨rfl, FB⟩
end Go.Proofs.Ytdhlebmgeiiejaa
