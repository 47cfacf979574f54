/- The law SystemsMoves, walked. Written by wip/tools/gensy.py. -/
import Derived.Test.YtfmbldjaknjgbaaKSyD
namespace Go.Proofs.Ytfmbldjaknjgbaa
open Go.RowKit Pz Sp
set_option linter.unusedVariables false
set_option linter.unusedSimpArgs false

set_option maxHeartbeats 4000000 in
set_option maxRecDepth 100000 in
theorem law_moves (K : SyCt) (w : World) (C0 R0 S0 D0 V0 N0 Q0 : Int) (b : Bn) (hb : b.Fits) : Calls Try.prog 6 #[.agg #[.int .i64 C0, .int .i64 R0, .int .i64 S0, .int .i64 D0, .int .i64 V0, .int .i64 N0, .int .i64 Q0], b.val] w fun e w' => e = .returned (.bool true) ∧ Below w.heap.size w w' := by
  obtain ⟨qs, qi, qg, qm, qx, qy, qvx, qvy, qh, qp, ql⟩ := b
  have MY0 := fun W => zmay_any C0 R0 S0 D0 V0 N0 Q0 W
  have ok := Zn.may_ok C0 R0 S0 D0 V0
  have okb := Zn.may_okB C0 R0 S0 D0 V0 N0 Q0
  generalize Zn.mC C0 = C at *
  generalize Zn.mC R0 = R at *
  generalize Zn.mD S0 D0 = D at *
  generalize Zn.mD S0 V0 = V at *
  generalize Zn.mS S0 = S at *
  generalize Zn.mN N0 = N at *
  generalize Zn.mQ Q0 = Q at *
  have MY : Hid (∀ L W, Sep w (L) W → Calls Try.prog 23 #[.agg #[.int .i64 C0, .int .i64 R0, .int .i64 S0, .int .i64 D0, .int .i64 V0, .int .i64 N0, .int .i64 Q0]] W fun e W' => e = .returned (.agg #[.int .i64 C, .int .i64 R, .int .i64 S, .int .i64 D, .int .i64 V, .int .i64 N, .int .i64 Q]) ∧ Sep w (L) W') := Lib.hid fun L W hW => (MY0 W).mono fun e W' ⟨a, b⟩ => ⟨a, hW.below b⟩
  clear MY0
  have NW : Hid (∀ L W, Sep w L W → Calls Try.prog 24 #[.agg #[.int .i64 C, .int .i64 R, .int .i64 S, .int .i64 D, .int .i64 V, .int .i64 N, .int .i64 Q]] W fun e W' => ∃ q, e = .returned (.tuple #[.pointer (some ⟨q, 0, none⟩), .int .i64 0]) ∧ Sep w (box q (.cells #[.int .i64 C, .int .i64 R, .int .i64 S, .int .i64 D, .int .i64 V, .int .i64 N, .int .i64 Q] 73) :: L) W') := Lib.hid fun L W hW => (new_yes C R S D V N Q W okb).mono fun e W' ⟨q, a, b, c, d⟩ => ⟨q, a, sep_map hW d c b⟩
  have k1 := fun q W (h : MapAt W q C R S D V N Q) => K.move q C R S D V N Q ⟨qs, qi, qg, qm, qx, qy, qvx, qvy, qh, qp, ql⟩ W h ok hb
  have k2 := fun W => K.moveNil ⟨qs, qi, qg, qm, qx, qy, qvx, qvy, qh, qp, ql⟩ W
  have r1 := fun W => rmove_any C R S D V N Q ok qs qi qg qm qx qy qvx qvy qh qp ql hb.m hb.vx hb.vy W
  generalize Sy.move C R S V ⟨qs, qi, qg, qm, qx, qy, qvx, qvy, qh, qp, ql⟩ = xo at *
  obtain ⟨xs, xi, xg, xm, xx, xy, xvx, xvy, xh, xp, xl⟩ := xo
  simp only [Bn.val] at k1 k2 r1 ⊢
  have MV := Lib.hid k1
  have MN := Lib.hid k2
  have RM := Lib.hid r1
  have H0 : Hid (Sep w [box w.heap.size (.cells #[.int .i64 C0, .int .i64 R0, .int .i64 S0, .int .i64 D0, .int .i64 V0, .int .i64 N0, .int .i64 Q0] 44), box (w.heap.size + 1) (.cells #[.int .i64 qs, .int .i64 qi, .int .i64 qg, .int .i64 qm, .int .i64 qx, .int .i64 qy, .int .i64 qvx, .int .i64 qvy, .int .i64 qh, .int .i64 qp, .int .i64 ql] 34)] ((w.alloc (.cells #[.int .i64 C0, .int .i64 R0, .int .i64 S0, .int .i64 D0, .int .i64 V0, .int .i64 N0, .int .i64 Q0] 44)).alloc (.cells #[.int .i64 qs, .int .i64 qi, .int .i64 qg, .int .i64 qm, .int .i64 qx, .int .i64 qy, .int .i64 qvx, .int .i64 qvy, .int .i64 qh, .int .i64 qp, .int .i64 ql] 34))) := Lib.hid (by
    have := (sep_box (sep_box (sep_new w) (.cells #[.int .i64 C0, .int .i64 R0, .int .i64 S0, .int .i64 D0, .int .i64 V0, .int .i64 N0, .int .i64 Q0] 44)) (.cells #[.int .i64 qs, .int .i64 qi, .int .i64 qg, .int .i64 qm, .int .i64 qx, .int .i64 qy, .int .i64 qvx, .int .i64 qvy, .int .i64 qh, .int .i64 qp, .int .i64 ql] 34)).pull 1 rfl
    rw [size1] at this
    exact this)
  have AW := Lib.hid K.awake
  have E1 := fun V => eq_self 0 xs xi xg xm xx xy xvx xvy xh xp xl V
  have E2 := fun V => eq_self 0 qs qi qg qm qx qy qvx qvy qh qp ql V
  simp only [Nat.reduceAdd] at E1 E2
  clear k1 k2 r1 hb K ok okb
  go_enter Try.func6, Try.ntmps6
  go_upto_region 1 with fail
  generalize (w.alloc (.cells #[.int .i64 C0, .int .i64 R0, .int .i64 S0, .int .i64 D0, .int .i64 V0, .int .i64 N0, .int .i64 Q0] 44)).alloc (.cells #[.int .i64 qs, .int .i64 qi, .int .i64 qg, .int .i64 qm, .int .i64 qx, .int .i64 qy, .int .i64 qvx, .int .i64 qvy, .int .i64 qh, .int .i64 qp, .int .i64 ql] 34) = w0 at *
  obtain ⟨g0, g1, g2, g3, g4, g5, g6⟩ := (box7 (H0.out.held 0 rfl)).1
  go_upto_region 2 with (go_at_call 23; refine (MY.out _ _ H0.out).mono ?_; rintro e w1 ⟨rfl, h1⟩; clear MY H0 g0 g1 g2 g3 g4 g5 g6; obtain ⟨_, ⟨f0, f1, f2, f3, f4, f5, f6⟩⟩ := box7 (h1.held 0 rfl))
  have h2 := h1.set7 (.int .i64 C) (.int .i64 R) (.int .i64 S) (.int .i64 D) (.int .i64 V) (.int .i64 N) (.int .i64 Q)
  clear f0 f1 f2 f3 f4 f5 f6 h1
  generalize (((((((w1.setCell ⟨w.heap.size, 0, none⟩ (.int .i64 C)).setCell ⟨w.heap.size, 1, none⟩ (.int .i64 R)).setCell ⟨w.heap.size, 2, none⟩ (.int .i64 S)).setCell ⟨w.heap.size, 3, none⟩ (.int .i64 D)).setCell ⟨w.heap.size, 4, none⟩ (.int .i64 V)).setCell ⟨w.heap.size, 5, none⟩ (.int .i64 N)).setCell ⟨w.heap.size, 6, none⟩ (.int .i64 Q)) = w2 at *
  obtain ⟨g0, g1, g2, g3, g4, g5, g6⟩ := (box7 (h2.held 0 rfl)).1
  go_upto_region 3 with (go_at_call 24; refine (NW.out _ _ h2).mono ?_; rintro e w3 ⟨q, rfl, h3⟩; clear NW h2 g0 g1 g2 g3 g4 g5 g6)
  have M0 := h3.held 0 rfl
  have T1 := h3.held 1 rfl
  have T2 := h3.held 2 rfl
  have d0 := fun p : Lat grows w3 => (box7 ((p.h.block _ (Bx.lt T1)).trans T1)).1.1
  have d1 := fun p : Lat grows w3 => (box7 ((p.h.block _ (Bx.lt T1)).trans T1)).1.2.1
  have d2 := fun p : Lat grows w3 => (box7 ((p.h.block _ (Bx.lt T1)).trans T1)).1.2.2.1
  have d3 := fun p : Lat grows w3 => (box7 ((p.h.block _ (Bx.lt T1)).trans T1)).1.2.2.2.1
  have d4 := fun p : Lat grows w3 => (box7 ((p.h.block _ (Bx.lt T1)).trans T1)).1.2.2.2.2.1
  have d5 := fun p : Lat grows w3 => (box7 ((p.h.block _ (Bx.lt T1)).trans T1)).1.2.2.2.2.2.1
  have d6 := fun p : Lat grows w3 => (box7 ((p.h.block _ (Bx.lt T1)).trans T1)).1.2.2.2.2.2.2
  have e0 := fun p : Lat grows w3 => (Bx.b11 ((p.h.block _ (Bx.lt T2)).trans T2)).1.1
  have e1 := fun p : Lat grows w3 => (Bx.b11 ((p.h.block _ (Bx.lt T2)).trans T2)).1.2.1
  have e2 := fun p : Lat grows w3 => (Bx.b11 ((p.h.block _ (Bx.lt T2)).trans T2)).1.2.2.1
  have e3 := fun p : Lat grows w3 => (Bx.b11 ((p.h.block _ (Bx.lt T2)).trans T2)).1.2.2.2.1
  have e4 := fun p : Lat grows w3 => (Bx.b11 ((p.h.block _ (Bx.lt T2)).trans T2)).1.2.2.2.2.1
  have e5 := fun p : Lat grows w3 => (Bx.b11 ((p.h.block _ (Bx.lt T2)).trans T2)).1.2.2.2.2.2.1
  have e6 := fun p : Lat grows w3 => (Bx.b11 ((p.h.block _ (Bx.lt T2)).trans T2)).1.2.2.2.2.2.2.1
  have e7 := fun p : Lat grows w3 => (Bx.b11 ((p.h.block _ (Bx.lt T2)).trans T2)).1.2.2.2.2.2.2.2.1
  have e8 := fun p : Lat grows w3 => (Bx.b11 ((p.h.block _ (Bx.lt T2)).trans T2)).1.2.2.2.2.2.2.2.2.1
  have e9 := fun p : Lat grows w3 => (Bx.b11 ((p.h.block _ (Bx.lt T2)).trans T2)).1.2.2.2.2.2.2.2.2.2.1
  have e10 := fun p : Lat grows w3 => (Bx.b11 ((p.h.block _ (Bx.lt T2)).trans T2)).1.2.2.2.2.2.2.2.2.2.2
  have MP : Hid (∀ p : Lat grows w3, Calls Try.prog 25 #[.pointer (some ⟨q, 0, none⟩), .agg #[.int .i64 qs, .int .i64 qi, .int .i64 qg, .int .i64 qm, .int .i64 qx, .int .i64 qy, .int .i64 qvx, .int .i64 qvy, .int .i64 qh, .int .i64 qp, .int .i64 ql]] p.W fun e w' => e = .returned (.agg #[.int .i64 xs, .int .i64 xi, .int .i64 xg, .int .i64 xm, .int .i64 xx, .int .i64 xy, .int .i64 xvx, .int .i64 xvy, .int .i64 xh, .int .i64 xp, .int .i64 xl]) ∧ Below p.W.heap.size p.W w') := Lib.hid fun p => MV.out q p.W ((p.h.block _ (Bx.lt M0)).trans M0)
  have H3 := Lib.hid h3.bel
  clear h3 M0 T1 T2 MV
  refine Og.grow 20 (by kernel_rfl) (by kernel_rfl) fun hc hf => ?_
  clear hc hf
  simp only [List.take_succ_cons, List.take_zero, List.drop_succ_cons, List.drop_zero]
  iterate 20
   (refine Og.det [] rfl (fun J hJ => ?_)
    go_simp
    first
    | (with_reducible refine ⟨_, fun p => Og.lays (MP.out p), hJ _ _ ?_⟩)
    | (with_reducible refine ⟨_, fun p => Og.lays (RM.out p.W), hJ _ _ ?_⟩)
    | (with_reducible refine ⟨_, fun p => Og.lays (MN.out p.W), hJ _ _ ?_⟩)
    | (with_reducible refine ⟨_, fun p => Og.lays (AW.out p.W), hJ _ _ ?_⟩)
    | (refine hJ _ _ ?_)
    clear hJ J)
  refine Og.fin fun W hW => ?_
  simp only [Og.opened_nil]
  clear MP RM MN AW d0 d1 d2 d3 d4 d5 d6 e0 e1 e2 e3 e4 e5 e6 e7 e8 e9 e10
  have HE := Lib.hid (H3.out.trans (hW.mono H3.out.size))
  go_wp2
  go_ret
  exact ⟨rfl, HE.out⟩
end Go.Proofs.Ytfmbldjaknjgbaa
