/- A command may be or not. Written by wip/tools/genlawp.py. -/
import Derived.Test.YtookmjdnmmfkfaaPcAwake
import Derived.Test.YtookmjdnmmfkfaaPzRef3
import Derived.Test.YtookmjdnmmfkfaaOw
namespace Go.Proofs.Ytookmjdnmmfkfaa
open Go.RowKit Pz
set_option linter.unusedVariables false

set_option maxHeartbeats 16000000 in
set_option maxRecDepth 100000 in
theorem law_cmds (w : World) (c : Cn) (hm : Fit c.b.m) : Calls Try.prog 4 #[c.val] w fun e w' => e = .returned (.bool true) ∧ Below w.heap.size w w' := by
  have C1 : Hid (∀ W, Calls Try.prog 17 #[c.val] W fun e w' => e = .returned (.int .i64 (errB (mayCmd c))) ∧ Below W.heap.size W w') := Lib.hid fun W => checkcmd_any c W
  have C2 : Hid (∀ W, Calls Try.prog 18 #[c.val] W fun e w' => e = .returned (.bool (mayCmd c)) ∧ Below W.heap.size W w') := Lib.hid fun W => maycmd_any c hm W
  have C3 : Hid (∀ W, Calls Try.prog 12 #[.bool (mayCmd c)] W fun e w' => e = .returned (.int .i64 (errB (mayCmd c))) ∧ W = w') := Lib.hid fun W => error_any _ W
  have AW : Hid (∀ W, Calls Try.prog 16 #[] W fun e w' => e = .returned (.bool true) ∧ Below W.heap.size W w') := Lib.hid fun W => awake_any W
  generalize hr1 : mayCmd c = r1 at *
  clear hr1 hm
  generalize errB r1 = e1 at *
  obtain ⟨qk, qs, qi, qg, ⟨qbs, qbi, qbg, qbm, qx, qy, qvx, qvy, qh, qp, ql⟩, qm⟩ := c
  simp only [Cn.val] at *
  have T0 := at1 w (.cells #[.int .i64 qk, .int .i64 qs, .int .i64 qi, .int .i64 qg, .int .i64 qbs, .int .i64 qbi, .int .i64 qbg, .int .i64 qbm, .int .i64 qx, .int .i64 qy, .int .i64 qvx, .int .i64 qvy, .int .i64 qh, .int .i64 qp, .int .i64 ql, .int .i64 qm] 34)
  have BE := bel1 w (.cells #[.int .i64 qk, .int .i64 qs, .int .i64 qi, .int .i64 qg, .int .i64 qbs, .int .i64 qbi, .int .i64 qbg, .int .i64 qbm, .int .i64 qx, .int .i64 qy, .int .i64 qvx, .int .i64 qvy, .int .i64 qh, .int .i64 qp, .int .i64 ql, .int .i64 qm] 34)
  have CE : Hid (∀ W, Below (w.alloc (.cells #[.int .i64 qk, .int .i64 qs, .int .i64 qi, .int .i64 qg, .int .i64 qbs, .int .i64 qbi, .int .i64 qbg, .int .i64 qbm, .int .i64 qx, .int .i64 qy, .int .i64 qvx, .int .i64 qvy, .int .i64 qh, .int .i64 qp, .int .i64 ql, .int .i64 qm] 34)).heap.size (w.alloc (.cells #[.int .i64 qk, .int .i64 qs, .int .i64 qi, .int .i64 qg, .int .i64 qbs, .int .i64 qbi, .int .i64 qbg, .int .i64 qbm, .int .i64 qx, .int .i64 qy, .int .i64 qvx, .int .i64 qvy, .int .i64 qh, .int .i64 qp, .int .i64 ql, .int .i64 qm] 34)) W → ((W.cell? ⟨w.heap.size, 0, none⟩ = some (.int .i64 qk) ∧ W.cell? ⟨w.heap.size, 1, none⟩ = some (.int .i64 qs) ∧ W.cell? ⟨w.heap.size, 2, none⟩ = some (.int .i64 qi) ∧ W.cell? ⟨w.heap.size, 3, none⟩ = some (.int .i64 qg) ∧ W.cell? ⟨w.heap.size, 4, none⟩ = some (.int .i64 qbs) ∧ W.cell? ⟨w.heap.size, 5, none⟩ = some (.int .i64 qbi) ∧ W.cell? ⟨w.heap.size, 6, none⟩ = some (.int .i64 qbg) ∧ W.cell? ⟨w.heap.size, 7, none⟩ = some (.int .i64 qbm) ∧ W.cell? ⟨w.heap.size, 8, none⟩ = some (.int .i64 qx) ∧ W.cell? ⟨w.heap.size, 9, none⟩ = some (.int .i64 qy) ∧ W.cell? ⟨w.heap.size, 10, none⟩ = some (.int .i64 qvx) ∧ W.cell? ⟨w.heap.size, 11, none⟩ = some (.int .i64 qvy) ∧ W.cell? ⟨w.heap.size, 12, none⟩ = some (.int .i64 qh) ∧ W.cell? ⟨w.heap.size, 13, none⟩ = some (.int .i64 qp) ∧ W.cell? ⟨w.heap.size, 14, none⟩ = some (.int .i64 ql) ∧ W.cell? ⟨w.heap.size, 15, none⟩ = some (.int .i64 qm))) ∧ Below w.heap.size w W) := Lib.hid fun W hW => ⟨(Bx.b16 ((hW.block _ (Bx.lt T0)).trans T0)).1, BE.trans (hW.mono BE.size)⟩
  have HB := Lib.hid (Below.refl (w.alloc (.cells #[.int .i64 qk, .int .i64 qs, .int .i64 qi, .int .i64 qg, .int .i64 qbs, .int .i64 qbi, .int .i64 qbg, .int .i64 qbm, .int .i64 qx, .int .i64 qy, .int .i64 qvx, .int .i64 qvy, .int .i64 qh, .int .i64 qp, .int .i64 ql, .int .i64 qm] 34)).heap.size (w.alloc (.cells #[.int .i64 qk, .int .i64 qs, .int .i64 qi, .int .i64 qg, .int .i64 qbs, .int .i64 qbi, .int .i64 qbg, .int .i64 qbm, .int .i64 qx, .int .i64 qy, .int .i64 qvx, .int .i64 qvy, .int .i64 qh, .int .i64 qp, .int .i64 ql, .int .i64 qm] 34)))
  clear T0 BE
  go_enter Try.func4, Try.ntmps4
  go_upto_region 1 with fail
  generalize w.alloc (.cells #[.int .i64 qk, .int .i64 qs, .int .i64 qi, .int .i64 qg, .int .i64 qbs, .int .i64 qbi, .int .i64 qbg, .int .i64 qbm, .int .i64 qx, .int .i64 qy, .int .i64 qvx, .int .i64 qvy, .int .i64 qh, .int .i64 qp, .int .i64 ql, .int .i64 qm] 34) = w1 at *
  have PF := fun p : Lat grows w1 => (CE.out p.W (HB.out.trans (p.h.mono HB.out.size))).1
  have k0_0 := fun p => (PF p).1
  have k0_1 := fun p => (PF p).2.1
  have k0_2 := fun p => (PF p).2.2.1
  have k0_3 := fun p => (PF p).2.2.2.1
  have k0_4 := fun p => (PF p).2.2.2.2.1
  have k0_5 := fun p => (PF p).2.2.2.2.2.1
  have k0_6 := fun p => (PF p).2.2.2.2.2.2.1
  have k0_7 := fun p => (PF p).2.2.2.2.2.2.2.1
  have k0_8 := fun p => (PF p).2.2.2.2.2.2.2.2.1
  have k0_9 := fun p => (PF p).2.2.2.2.2.2.2.2.2.1
  have k0_10 := fun p => (PF p).2.2.2.2.2.2.2.2.2.2.1
  have k0_11 := fun p => (PF p).2.2.2.2.2.2.2.2.2.2.2.1
  have k0_12 := fun p => (PF p).2.2.2.2.2.2.2.2.2.2.2.2.1
  have k0_13 := fun p => (PF p).2.2.2.2.2.2.2.2.2.2.2.2.2.1
  have k0_14 := fun p => (PF p).2.2.2.2.2.2.2.2.2.2.2.2.2.2.1
  have k0_15 := fun p => (PF p).2.2.2.2.2.2.2.2.2.2.2.2.2.2.2
  clear PF
  refine Og.grow 10 (by kernel_rfl) (by kernel_rfl) fun hc hf => ?_
  clear hc hf
  simp only [List.take_succ_cons, List.take_zero, List.drop_succ_cons, List.drop_zero]
  (refine Og.det [] rfl (fun J hJ => ?_); go_simp; refine hJ _ _ ?_; clear hJ J)
  refine Og.det [] rfl (fun J hJ => ?_)
  go_simp
  with_reducible refine ⟨_, fun p => Og.lays (C1.out p.W), hJ _ _ ?_⟩
  clear hJ J
  (refine Og.det [] rfl (fun J hJ => ?_); go_simp; refine hJ _ _ ?_; clear hJ J)
  refine Og.det [] rfl (fun J hJ => ?_)
  go_simp
  with_reducible refine ⟨_, fun p => Og.lays (C2.out p.W), hJ _ _ ?_⟩
  clear hJ J
  refine Og.det [] rfl (fun J hJ => ?_)
  go_simp
  with_reducible refine ⟨_, fun p => Og.same (C3.out p.W), hJ _ _ ?_⟩
  clear hJ J
  (refine Og.det [] rfl (fun J hJ => ?_); go_simp; refine hJ _ _ ?_; clear hJ J)
  (refine Og.det [] rfl (fun J hJ => ?_); go_simp; refine hJ _ _ ?_; clear hJ J)
  refine Og.det [] rfl (fun J hJ => ?_)
  go_simp
  with_reducible refine ⟨_, fun p => Og.lays (AW.out p.W), hJ _ _ ?_⟩
  clear hJ J
  (refine Og.det [] rfl (fun J hJ => ?_); go_simp; refine hJ _ _ ?_; clear hJ J)
  (refine Og.det [] rfl (fun J hJ => ?_); go_simp; refine hJ _ _ ?_; clear hJ J)
  refine Og.fin fun W hW => ?_
  simp only [Og.opened_nil]
  have FB := (CE.out W (HB.out.trans (hW.mono HB.out.size))).2
  clear k0_0 k0_1 k0_2 k0_3 k0_4 k0_5 k0_6 k0_7 k0_8 k0_9 k0_10 k0_11 k0_12 k0_13 k0_14 k0_15
  go_wp2
  go_ret
  exact ⟨rfl, FB⟩
end Go.Proofs.Ytookmjdnmmfkfaa
