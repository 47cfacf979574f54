/- The law QueryWithin, walked. Written by wip/tools/genquL.py. -/
import Derived.Test.YtgmgenggboicnaaKQuF
import Derived.Test.YtgmgenggboicnaaKQuE
namespace Go.Proofs.Ytgmgenggboicnaa
open Go.RowKit Go.Shelf Pz Ar Qu
set_option linter.unusedVariables false
set_option linter.unusedSimpArgs false

set_option maxHeartbeats 16000000 in
set_option maxRecDepth 100000 in
theorem law_within (w : World) (A : Option Addr) (c : Nat) (l : List Bn) (hc : l.length ≤ c) (hcap : c ≤ 140737488351232) (R : RdB w w.heap.size A l) (q0 q1 : Int) (h0 : Fit q0) (h1 : Fit q1) (ra rb rc rd : Int) (ha : I ra) (hb : I rb) (hcc : I rc) (hd : I rd) :
    Calls Try.prog 7 #[.slice A l.length c, qV q0 q1, .agg #[.int .i64 ra, .int .i64 rb, .int .i64 rc, .int .i64 rd]] w fun e w' => e = .returned (.bool true) ∧ Below w.heap.size w w' := by
  have BE0 := bel2 w (.cells #[.int .i64 q0, .int .i64 q1] QTY) (.cells #[.int .i64 ra, .int .i64 rb, .int .i64 rc, .int .i64 rd] RTY)
  have T0 := at2a w (.cells #[.int .i64 q0, .int .i64 q1] QTY) (.cells #[.int .i64 ra, .int .i64 rb, .int .i64 rc, .int .i64 rd] RTY)
  have T1 := at2b w (.cells #[.int .i64 q0, .int .i64 q1] QTY) (.cells #[.int .i64 ra, .int .i64 rb, .int .i64 rc, .int .i64 rd] RTY)
  have MD := Lib.hid (made_mk (c := c) ((R.below BE0).more BE0.size) (by omega))
  have AW := Lib.hid qawake_any
  have H0 := Lib.hid (And.intro h0 (And.intro ha (And.intro hb (And.intro hcc hd))))
  clear R hc hcap h0 h1 ha hb hcc hd
  generalize l.length = n0 at *
  go_enter Try.func7, Try.ntmps7
  go_upto_region 1 with fail
  generalize (w.alloc (.cells #[.int .i64 q0, .int .i64 q1] QTY)).alloc (.cells #[.int .i64 ra, .int .i64 rb, .int .i64 rc, .int .i64 rd] RTY) = w1 at *
  go_upto_region 2 with (go_at_call 31; refine MD.out.mono ?_; rintro e w2 ⟨s, P, A2, c2, rfl, hk⟩; have MK := Lib.hid hk; clear MD hk)
  have b2 := MK.out.bel
  have BE := Lib.hid (BE0.trans (b2.mono BE0.size))
  have T0' := (b2.block _ (Bx.lt T0)).trans T0
  have T1' := (b2.block _ (Bx.lt T1)).trans T1
  have d0 := fun p : Lat grows w2 => (Bx.b2 ((p.h.block _ (Bx.lt T0')).trans T0')).1.1
  have d1 := fun p : Lat grows w2 => (Bx.b2 ((p.h.block _ (Bx.lt T0')).trans T0')).1.2
  have r0 := fun p : Lat grows w2 => (box4 ((p.h.block _ (Bx.lt T1')).trans T1')).1.1
  have r1 := fun p : Lat grows w2 => (box4 ((p.h.block _ (Bx.lt T1')).trans T1')).1.2.1
  have r2 := fun p : Lat grows w2 => (box4 ((p.h.block _ (Bx.lt T1')).trans T1')).1.2.2.1
  have r3 := fun p : Lat grows w2 => (box4 ((p.h.block _ (Bx.lt T1')).trans T1')).1.2.2.2
  have C1 : Hid (∀ p : Lat grows w2, Calls Try.prog 39 #[.pointer (some ⟨s, 0, none⟩), qV q0 q1, .agg #[.int .i64 ra, .int .i64 rb, .int .i64 rc, .int .i64 rd]] p.W fun e w' => ∃ v, e = .returned v ∧ grows.r p.W w' ∧ IdP ((told q0 q1 (fun x => Rc.hasR ra rb rc rd x.x x.y) P).map Bn.id) v w') := Lib.hid fun p => by
    obtain ⟨z0, z1, z2, z3, z4⟩ := H0.out
    have := id_call (qwithin_any (fun V hV => MK.out.src V (p.h.trans (hV.mono p.h.size))) q0 q1 z1 z2 z3 z4)
    rwa [told_same q0 q1 _ MK.out.apart.1 MK.out.apart.2.1 MK.out.apart.2.2] at this
  have C2 : Hid (∀ p : Lat grows w2, Calls Try.prog 40 #[.slice A2 P.length c2, qV q0 q1, .agg #[.int .i64 ra, .int .i64 rb, .int .i64 rc, .int .i64 rd]] p.W fun e w' => ∃ v, e = .returned v ∧ grows.r p.W w' ∧ BnP (told q0 q1 (fun x => Rc.hasR ra rb rc rd x.x x.y) P) v w') := Lib.hid fun p => by
    obtain ⟨z0, z1, z2, z3, z4⟩ := H0.out
    exact bn_call (rwithin_any (MK.out.rd p.W p.h) (Nat.le_trans MK.out.few (by decide)) MK.out.ok.may z0 q1 z1 z2 z3 z4)
  have hl : (told q0 q1 (fun x => Rc.hasR ra rb rc rd x.x x.y) P).length ≤ 100000 := Nat.le_trans (told_le _ _ _ _) (Nat.le_trans MK.out.few (by decide))
  have hl2 : ((told q0 q1 (fun x => Rc.hasR ra rb rc rd x.x x.y) P).map Bn.id).length ≤ 100000 := by rw [List.length_map]; exact hl
  clear T0 T1 T0' T1' BE0 b2 MK H0
  generalize (told q0 q1 (fun x => Rc.hasR ra rb rc rd x.x x.y) P) = G at *
  generalize P.length = nP at *
  refine Og.grow 14 (by kernel_rfl) (by kernel_rfl) fun hc hf => ?_
  clear hc hf
  simp only [List.take_succ_cons, List.take_zero, List.drop_succ_cons, List.drop_zero]
  iterate 3 (refine Og.det [] rfl (fun J hJ => ?_); go_simp; refine hJ _ _ ?_; clear hJ J)
  refine Og.such 17 (IdP (G.map Bn.id)) [] rfl (idP_lasts _) (idP_noBool _) (fun J hJ => ?_)
  go_simp
  refine ⟨fun p => C1.out p, hJ _ _ ?_⟩
  clear hJ J
  iterate 3 (refine Og.det [] rfl (fun J hJ => ?_); go_simp; refine hJ _ _ ?_; clear hJ J)
  refine Og.such 21 (BnP G) [] rfl (bnP_lasts _) (bnP_noBool _) (fun J hJ => ?_)
  go_simp
  refine ⟨fun p => C2.out p, hJ _ _ ?_⟩
  clear hJ J
  refine Og.such 22 (IdP (G.map Bn.id)) [(21, BnP G)] rfl (idP_lasts _) (idP_noBool _) (fun J hJ => ?_)
  go_simp
  refine ⟨fun p v21 h21 => names_call hl h21, hJ _ _ ?_⟩
  clear hJ J
  refine Og.det [(22, IdP (G.map Bn.id)), (17, IdP (G.map Bn.id))] rfl (fun J hJ => ?_)
  go_simp
  refine ⟨.bool true, fun p v22 h22 v17 h17 => same_ids hl2 h17 h22, hJ _ _ ?_⟩
  clear hJ J
  (refine Og.det [] rfl (fun J hJ => ?_); go_simp; refine hJ _ _ ?_; clear hJ J)
  refine Og.det [] rfl (fun J hJ => ?_)
  go_simp
  with_reducible refine ⟨_, fun p => Og.lays (AW.out p.W), hJ _ _ ?_⟩
  clear hJ J
  iterate 2 (refine Og.det [] rfl (fun J hJ => ?_); go_simp; refine hJ _ _ ?_; clear hJ J)
  refine Og.fin fun W hW => ?_
  simp only [Og.opened_cons, Og.opened_nil]
  intro u22 hu22
  intro u21 hu21
  intro u17 hu17
  have FIN := BE.out.trans (hW.mono BE.out.size)
  go_wp2
  go_ret
  exact ⟨rfl, FIN⟩
end Go.Proofs.Ytgmgenggboicnaa
