/- The law QueryNear, walked. Written by wip/tools/genquL.py. -/
import Derived.Test.YtgmgenggboicnaaKQuF
import Derived.Test.YtgmgenggboicnaaKQuE
namespace Go.Proofs.Ytgmgenggboicnaa
open Go.RowKit Go.Shelf Pz Ar Qu
set_option linter.unusedVariables false
set_option linter.unusedSimpArgs false

set_option maxHeartbeats 16000000 in
set_option maxRecDepth 100000 in
theorem law_near (w : World) (A : Option Addr) (c : Nat) (l : List Bn) (hc : l.length ≤ c) (hcap : c ≤ 140737488351232) (R : RdB w w.heap.size A l) (q0 q1 : Int) (h0 : Fit q0) (h1 : Fit q1) (X Y D : Int) :
    Calls Try.prog 8 #[.slice A l.length c, qV q0 q1, .agg #[.int .i64 X, .int .i64 Y, .int .i64 D]] w fun e w' => e = .returned (.bool true) ∧ Below w.heap.size w w' := by
  have BE0 := bel2 w (.cells #[.int .i64 q0, .int .i64 q1] QTY) (.cells #[.int .i64 X, .int .i64 Y, .int .i64 D] 69)
  have T0 := at2a w (.cells #[.int .i64 q0, .int .i64 q1] QTY) (.cells #[.int .i64 X, .int .i64 Y, .int .i64 D] 69)
  have T1 := at2b w (.cells #[.int .i64 q0, .int .i64 q1] QTY) (.cells #[.int .i64 X, .int .i64 Y, .int .i64 D] 69)
  have MD := Lib.hid (made_mk (c := c) ((R.below BE0).more BE0.size) (by omega))
  have AW := Lib.hid qawake_any
  have H0 := Lib.hid h0
  clear R hc hcap h0 h1
  generalize l.length = n0 at *
  go_enter Try.func8, Try.ntmps8
  go_upto_region 1 with fail
  generalize (w.alloc (.cells #[.int .i64 q0, .int .i64 q1] QTY)).alloc (.cells #[.int .i64 X, .int .i64 Y, .int .i64 D] 69) = w1 at *
  go_upto_region 2 with (go_at_call 31; refine MD.out.mono ?_; rintro e w2 ⟨s, P, A2, c2, rfl, hk⟩; have MK := Lib.hid hk; clear MD hk)
  have b2 := MK.out.bel
  have BE := Lib.hid (BE0.trans (b2.mono BE0.size))
  have T0' := (b2.block _ (Bx.lt T0)).trans T0
  have T1' := (b2.block _ (Bx.lt T1)).trans T1
  have d0 := fun p : Lat grows w2 => (Bx.b2 ((p.h.block _ (Bx.lt T0')).trans T0')).1.1
  have d1 := fun p : Lat grows w2 => (Bx.b2 ((p.h.block _ (Bx.lt T0')).trans T0')).1.2
  have r0 := fun p : Lat grows w2 => (Bx.b3 ((p.h.block _ (Bx.lt T1')).trans T1')).1.1
  have r1 := fun p : Lat grows w2 => (Bx.b3 ((p.h.block _ (Bx.lt T1')).trans T1')).1.2.1
  have r2 := fun p : Lat grows w2 => (Bx.b3 ((p.h.block _ (Bx.lt T1')).trans T1')).1.2.2
  have C1 : Hid (∀ p : Lat grows w2, Calls Try.prog 41 #[.pointer (some ⟨s, 0, none⟩), qV q0 q1, .int .i64 X, .int .i64 Y, .int .i64 D] p.W fun e w' => ∃ v, e = .returned v ∧ grows.r p.W w' ∧ IdP ((nears q0 q1 X Y D P).map Bn.id) v w') := Lib.hid fun p => by
    have := id_call (qnear_any (fun V hV => MK.out.src V (p.h.trans (hV.mono p.h.size))) q0 q1 X Y D)
    rwa [nears_same q0 q1 X Y D MK.out.apart.1 MK.out.apart.2.1 MK.out.apart.2.2] at this
  have C2 : Hid (∀ p : Lat grows w2, Calls Try.prog 42 #[.slice A2 P.length c2, qV q0 q1, .int .i64 X, .int .i64 Y, .int .i64 D] p.W fun e w' => ∃ v, e = .returned v ∧ grows.r p.W w' ∧ BnP (nears q0 q1 X Y D P) v w') := Lib.hid fun p => bn_call (rnear_any (MK.out.rd p.W p.h) (Nat.le_trans MK.out.few (by decide)) MK.out.ok.may H0.out q1 X Y D)
  have hl : (nears q0 q1 X Y D P).length ≤ 100000 := by rw [nears_len]; exact Nat.le_trans (told_le _ _ _ _) (Nat.le_trans MK.out.few (by decide))
  have hl2 : ((nears q0 q1 X Y D P).map Bn.id).length ≤ 100000 := by rw [List.length_map]; exact hl
  clear T0 T1 T0' T1' BE0 b2 MK H0
  generalize (nears q0 q1 X Y D P) = G at *
  generalize P.length = nP at *
  refine Og.grow 24 (by kernel_rfl) (by kernel_rfl) fun hc hf => ?_
  clear hc hf
  simp only [List.take_succ_cons, List.take_zero, List.drop_succ_cons, List.drop_zero]
  iterate 8 (refine Og.det [] rfl (fun J hJ => ?_); go_simp; refine hJ _ _ ?_; clear hJ J)
  refine Og.such 22 (IdP (G.map Bn.id)) [] rfl (idP_lasts _) (idP_noBool _) (fun J hJ => ?_)
  go_simp
  refine ⟨fun p => C1.out p, hJ _ _ ?_⟩
  clear hJ J
  iterate 8 (refine Og.det [] rfl (fun J hJ => ?_); go_simp; refine hJ _ _ ?_; clear hJ J)
  refine Og.such 31 (BnP G) [] rfl (bnP_lasts _) (bnP_noBool _) (fun J hJ => ?_)
  go_simp
  refine ⟨fun p => C2.out p, hJ _ _ ?_⟩
  clear hJ J
  refine Og.such 32 (IdP (G.map Bn.id)) [(31, BnP G)] rfl (idP_lasts _) (idP_noBool _) (fun J hJ => ?_)
  go_simp
  refine ⟨fun p v31 h31 => names_call hl h31, hJ _ _ ?_⟩
  clear hJ J
  refine Og.det [(32, IdP (G.map Bn.id)), (22, IdP (G.map Bn.id))] rfl (fun J hJ => ?_)
  go_simp
  refine ⟨.bool true, fun p v32 h32 v22 h22 => same_ids hl2 h22 h32, hJ _ _ ?_⟩
  clear hJ J
  (refine Og.det [] rfl (fun J hJ => ?_); go_simp; refine hJ _ _ ?_; clear hJ J)
  refine Og.det [] rfl (fun J hJ => ?_)
  go_simp
  with_reducible refine ⟨_, fun p => Og.lays (AW.out p.W), hJ _ _ ?_⟩
  clear hJ J
  iterate 2 (refine Og.det [] rfl (fun J hJ => ?_); go_simp; refine hJ _ _ ?_; clear hJ J)
  refine Og.fin fun W hW => ?_
  simp only [Og.opened_cons, Og.opened_nil]
  intro u32 hu32
  intro u31 hu31
  intro u22 hu22
  have FIN := BE.out.trans (hW.mono BE.out.size)
  go_wp2
  go_ret
  exact ⟨rfl, FIN⟩
end Go.Proofs.Ytgmgenggboicnaa
