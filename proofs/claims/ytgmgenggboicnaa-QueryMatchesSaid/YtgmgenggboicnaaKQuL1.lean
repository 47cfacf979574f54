/- The law QueryMatches, walked. Written by wip/tools/genquL.py. -/
import Derived.Test.YtgmgenggboicnaaKQuF
import Derived.Test.YtgmgenggboicnaaKQuE
namespace Go.Proofs.Ytgmgenggboicnaa
open Go.RowKit Go.Shelf Pz Ar Qu
set_option linter.unusedVariables false
set_option linter.unusedSimpArgs false

set_option maxHeartbeats 16000000 in
set_option maxRecDepth 100000 in
theorem law_matches (w : World) (q0 q1 : Int) (h0 : Fit q0) (h1 : Fit q1) (m : Int) (hm : Fit m) :
    Calls Try.prog 5 #[qV q0 q1, .int .i64 m] w fun e w' => e = .returned (.bool true) ∧ Below w.heap.size w w' := by
  have BE0 := bel1 w (.cells #[.int .i64 q0, .int .i64 q1] QTY)
  have T0 := at1 w (.cells #[.int .i64 q0, .int .i64 q1] QTY)
  have BE := Lib.hid BE0
  have AW := Lib.hid qawake_any
  obtain ⟨b, hb⟩ : ∃ b, asks q0 q1 m = b := ⟨_, rfl⟩
  have C1 := Lib.hid fun W => match_any q0 q1 m W
  have C2 := Lib.hid fun W => rmatch_any h0 hm q1 W
  rw [hb] at C1 C2
  have C3 := Lib.hid fun W => nm_call (masks_any q0 q1 W)
  have C4 := Lib.hid fun W => nm_call (rmasks_any h0 q1 W)
  have hl : (masks q0 q1 32).length ≤ 1000 := Nat.le_trans (masks_len _ _ _) (by decide)
  have bb : (b == b) = true := by simp
  clear hb BE0
  go_enter Try.func5, Try.ntmps5
  go_upto_region 1 with fail
  generalize w.alloc (.cells #[.int .i64 q0, .int .i64 q1] QTY) = w1 at *
  have d0 := fun p : Lat grows w1 => (Bx.b2 ((p.h.block _ (Bx.lt T0)).trans T0)).1.1
  have d1 := fun p : Lat grows w1 => (Bx.b2 ((p.h.block _ (Bx.lt T0)).trans T0)).1.2
  clear T0
  refine Og.grow 18 (by kernel_rfl) (by kernel_rfl) fun hc hf => ?_
  clear hc hf
  simp only [List.take_succ_cons, List.take_zero, List.drop_succ_cons, List.drop_zero]
  iterate 2 (refine Og.det [] rfl (fun J hJ => ?_); go_simp; refine hJ _ _ ?_; clear hJ J)
  refine Og.det [] rfl (fun J hJ => ?_)
  go_simp
  with_reducible refine ⟨_, fun p => Og.lays (C1.out p.W), hJ _ _ ?_⟩
  clear hJ J
  iterate 2 (refine Og.det [] rfl (fun J hJ => ?_); go_simp; refine hJ _ _ ?_; clear hJ J)
  refine Og.det [] rfl (fun J hJ => ?_)
  go_simp
  with_reducible refine ⟨_, fun p => Og.lays (C2.out p.W), hJ _ _ ?_⟩
  clear hJ J
  iterate 3 (refine Og.det [] rfl (fun J hJ => ?_); go_simp; refine hJ _ _ ?_; clear hJ J)
  refine Og.such 14 (NmP (masks q0 q1 32)) [] rfl (nmP_lasts _) (nmP_noBool _) (fun J hJ => ?_)
  go_simp
  refine ⟨fun p => C3.out p.W, hJ _ _ ?_⟩
  clear hJ J
  (refine Og.det [] rfl (fun J hJ => ?_); go_simp; refine hJ _ _ ?_; clear hJ J)
  refine Og.such 16 (NmP (masks q0 q1 32)) [] rfl (nmP_lasts _) (nmP_noBool _) (fun J hJ => ?_)
  go_simp
  refine ⟨fun p => C4.out p.W, hJ _ _ ?_⟩
  clear hJ J
  refine Og.det [(16, NmP (masks q0 q1 32)), (14, NmP (masks q0 q1 32))] rfl (fun J hJ => ?_)
  go_simp
  refine ⟨.bool true, fun p v16 h16 v14 h14 => same_nms hl h14 h16, hJ _ _ ?_⟩
  clear hJ J
  iterate 2 (refine Og.det [] rfl (fun J hJ => ?_); go_simp; refine hJ _ _ ?_; clear hJ J)
  refine Og.det [] rfl (fun J hJ => ?_)
  go_simp
  with_reducible refine ⟨_, fun p => Og.lays (AW.out p.W), hJ _ _ ?_⟩
  clear hJ J
  iterate 2 (refine Og.det [] rfl (fun J hJ => ?_); go_simp; refine hJ _ _ ?_; clear hJ J)
  refine Og.fin fun W hW => ?_
  simp only [Og.opened_cons, Og.opened_nil]
  intro u16 hu16
  intro u14 hu14
  have FIN := BE.out.trans (hW.mono BE.out.size)
  go_wp2
  go_ret
  exact ⟨rfl, FIN⟩
end Go.Proofs.Ytgmgenggboicnaa
