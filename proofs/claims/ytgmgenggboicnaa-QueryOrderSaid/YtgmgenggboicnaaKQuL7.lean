/- The law QueryOrder, walked. Written by wip/tools/genquL7.py. -/
import Derived.Test.YtgmgenggboicnaaKQuF
import Derived.Test.YtgmgenggboicnaaKQuE
import Derived.Test.YtgmgenggboicnaaKQuOrdP
import Derived.BigQuiet
namespace Go.Proofs.Ytgmgenggboicnaa
open Go.RowKit Go.Shelf Pz Ar Qu
set_option linter.unusedVariables false
set_option linter.unusedSimpArgs false

set_option maxHeartbeats 16000000 in
set_option maxRecDepth 100000 in
theorem law_order (w : World) (A : Option Addr) (c : Nat) (l : List Bn) (hc : l.length ≤ c) (hcap : c ≤ 140737488351232) (R : RdB w w.heap.size A l) (q0 q1 : Int) (h0 : Fit q0) (h1 : Fit q1) (X Y D : Int) :
    Calls Try.prog 11 #[.slice A l.length c, qV q0 q1, .agg #[.int .i64 X, .int .i64 Y, .int .i64 D]] w fun e w' => e = .returned (.bool true) ∧ Below w.heap.size w w' := by
  have BE0 := bel2 w (.cells #[.int .i64 q0, .int .i64 q1] QTY) (.cells #[.int .i64 X, .int .i64 Y, .int .i64 D] 69)
  have T0 := at2a w (.cells #[.int .i64 q0, .int .i64 q1] QTY) (.cells #[.int .i64 X, .int .i64 Y, .int .i64 D] 69)
  have T1 := at2b w (.cells #[.int .i64 q0, .int .i64 q1] QTY) (.cells #[.int .i64 X, .int .i64 Y, .int .i64 D] 69)
  have MD := Lib.hid (made_mk (c := c) ((R.below BE0).more BE0.size) (by omega))
  have AW := Lib.hid qawake_any
  clear R hc hcap h0 h1
  generalize l.length = n0 at *
  go_enter Try.func11, Try.ntmps11
  go_upto_region 1 with fail
  generalize (w.alloc (.cells #[.int .i64 q0, .int .i64 q1] QTY)).alloc (.cells #[.int .i64 X, .int .i64 Y, .int .i64 D] 69) = w1 at *
  go_upto_region 2 with (go_at_call 31; refine MD.out.mono ?_; rintro e w2 ⟨s, P, A2, c2, rfl, hk⟩; have MK := Lib.hid hk; clear MD hk)
  have BE := Lib.hid (BE0.trans (MK.out.bel.mono BE0.size))
  have T2 := Lib.hid ((MK.out.bel.block _ (Bx.lt T0)).trans T0)
  have T3 := Lib.hid ((MK.out.bel.block _ (Bx.lt T1)).trans T1)
  have NW : Hid (Calls Try.prog 43 #[] w2 fun e V => ∃ r, e = .returned (.pointer (some ⟨r, 0, none⟩)) ∧ PX w2 r (fun _ => []) (fun _ => True) V) := Lib.hid ((p1_new w2).mono fun e V ⟨e1, e2⟩ => ⟨_, e1, e2.px⟩)
  have few := MK.out.few
  have nx : IntKind.i64.wrap ((P.length : Int) - 1) = (P.length : Int) - 1 := IntWalk.i64_in _ (by omega)
  clear T0 T1 BE0
  go_upto_region 4 with (go_at_call 43; refine NW.out.mono ?_; rintro e w3 ⟨r, rfl, X0⟩; clear NW)
  have HX0 := Lib.hid X0
  clear X0 nx
  go_loopw [10] (fun ix wr => ∃ (k : Nat) (tb : Tb), k ≤ P.length ∧ (∃ iv : Int, ix = .int .i64 iv ∧ iv + 1 = k) ∧ Hid (PX w2 r tb (fun _ => True) wr) ∧ Hid (Mem tb (P.drop k))) (fun ix _ => (intOf ix + 1).toNat)
  case atStart => exact ⟨P.length, _, Nat.le_refl _, ⟨_, rfl, by omega⟩, HX0, Lib.hid (by rw [List.drop_length]; exact Mem.none)⟩
  case round =>
    obtain ⟨k, tb, hk, ⟨iv, rfl, hiv⟩, HX, HM⟩ := hrel
    clear HX0
    by_cases hk0 : k = 0
    · subst hk0
      obtain rfl : iv = -1 := by omega
      rw [List.drop_zero] at HM
      have LR : Hid (Calls Try.prog 20 #[.pointer (some ⟨r, 0, none⟩)] wr fun e V => e = .returned (.int .i64 (P.length : Int)) ∧ wr = V) := Lib.hid (by have := HX.out.len; rwa [HM.out.tot] at this)
      have LS : Hid (Calls Try.prog 20 #[.pointer (some ⟨s, 0, none⟩)] wr fun e V => e = .returned (.int .i64 (P.length : Int)) ∧ wr = V) := Lib.hid (by have := (MK.out.own.one.below HX.out.bel).len; rwa [total_addAll MK.out.ok.may] at this)
      have SS : Hid (∀ V, Below wr.heap.size wr V → Src (.pointer (some ⟨s, 0, none⟩)) (all (addAll P)) V) := Lib.hid fun V hV => MK.out.src V (HX.out.bel.trans (hV.mono HX.out.bel.size))
      have SR : Hid (∀ V, Below wr.heap.size wr V → Src (.pointer (some ⟨r, 0, none⟩)) (all tb) V) := Lib.hid fun V hV => by
        obtain ⟨_, F, hC, _⟩ := HX.out
        exact (hC.below hV).src (by rw [HM.out.tot]; omega)
      have hA := (all_ok (addAll_good MK.out.ok)).apart
      have hB := (all_ok HM.out.good).apart
      have hAB : ∀ x, x ∈ all tb ↔ x ∈ all (addAll P) := fun x => (HM.out.mem x).trans (all_addAll MK.out.ok x).symm
      obtain ⟨WL, hWL⟩ : ∃ WL, WL = (told q0 q1 yes (all (addAll P))).map Bn.id := ⟨_, rfl⟩
      obtain ⟨NL, hNL⟩ : ∃ NL, NL = (nears q0 q1 X Y D (all (addAll P))).map Bn.id := ⟨_, rfl⟩
      have C1 : Hid (∀ p : Lat grows wr, Calls Try.prog 34 #[.pointer (some ⟨s, 0, none⟩), qV q0 q1] p.W fun e w' => ∃ v, e = .returned v ∧ grows.r p.W w' ∧ IdP WL v w') := Lib.hid fun p => by
        rw [hWL]; exact id_call (qids_any (fun V hV => SS.out V (p.h.trans (hV.mono p.h.size))) q0 q1)
      have C2 : Hid (∀ p : Lat grows wr, Calls Try.prog 34 #[.pointer (some ⟨r, 0, none⟩), qV q0 q1] p.W fun e w' => ∃ v, e = .returned v ∧ grows.r p.W w' ∧ IdP WL v w') := Lib.hid fun p => by
        rw [hWL, ← told_same q0 q1 yes hB hA hAB]; exact id_call (qids_any (fun V hV => SR.out V (p.h.trans (hV.mono p.h.size))) q0 q1)
      have C3 : Hid (∀ p : Lat grows wr, Calls Try.prog 41 #[.pointer (some ⟨s, 0, none⟩), qV q0 q1, .int .i64 X, .int .i64 Y, .int .i64 D] p.W fun e w' => ∃ v, e = .returned v ∧ grows.r p.W w' ∧ IdP NL v w') := Lib.hid fun p => by
        rw [hNL]; exact id_call (qnear_any (fun V hV => SS.out V (p.h.trans (hV.mono p.h.size))) q0 q1 X Y D)
      have C4 : Hid (∀ p : Lat grows wr, Calls Try.prog 41 #[.pointer (some ⟨r, 0, none⟩), qV q0 q1, .int .i64 X, .int .i64 Y, .int .i64 D] p.W fun e w' => ∃ v, e = .returned v ∧ grows.r p.W w' ∧ IdP NL v w') := Lib.hid fun p => by
        rw [hNL, ← nears_same q0 q1 X Y D hB hA hAB]; exact id_call (qnear_any (fun V hV => SR.out V (p.h.trans (hV.mono p.h.size))) q0 q1 X Y D)
      have htot : total (addAll P) ≤ 100000 := by rw [total_addAll MK.out.ok.may]; omega
      have hl1 : WL.length ≤ 100000 := by rw [hWL, List.length_map]; exact Nat.le_trans (told_le _ _ _ _) (by rw [total_all]; exact htot)
      have hl2 : NL.length ≤ 100000 := by rw [hNL, List.length_map, nears_len]; exact Nat.le_trans (told_le _ _ _ _) (by rw [total_all]; exact htot)
      have T2' := ((HX.out.bel.block _ (Bx.lt T2.out)).trans T2.out)
      have T3' := ((HX.out.bel.block _ (Bx.lt T3.out)).trans T3.out)
      have d0 := fun p : Lat grows wr => (Bx.b2 ((p.h.block _ (Bx.lt T2')).trans T2')).1.1
      have d1 := fun p : Lat grows wr => (Bx.b2 ((p.h.block _ (Bx.lt T2')).trans T2')).1.2
      have r0 := fun p : Lat grows wr => (Bx.b3 ((p.h.block _ (Bx.lt T3')).trans T3')).1.1
      have r1 := fun p : Lat grows wr => (Bx.b3 ((p.h.block _ (Bx.lt T3')).trans T3')).1.2.1
      have r2 := fun p : Lat grows wr => (Bx.b3 ((p.h.block _ (Bx.lt T3')).trans T3')).1.2.2
      have BEr := Lib.hid (BE.out.trans (HX.out.bel.mono BE.out.size))
      clear hWL hNL hA hB hAB htot MK HM SS SR T2 T3 T2' T3' BE HX hiv hk few
      generalize P.length = nP at *
      have nn : ((nP : Int) != (nP : Int)) = false := by simp
      go_upto_region 16 with (first
        | (go_at_call 20; refine LR.out.mono ?_; rintro e w8 ⟨rfl, rfl⟩; clear LR)
        | (go_at_call 20; refine LS.out.mono ?_; rintro e w9 ⟨rfl, rfl⟩; clear LS))
      refine Og.grow 32 (by kernel_rfl) (by kernel_rfl) fun hc hf => ?_
      clear hc hf
      simp only [List.take_succ_cons, List.take_zero, List.drop_succ_cons, List.drop_zero]
      iterate 2 (refine Og.det [] rfl (fun J hJ => ?_); go_simp; refine hJ _ _ ?_; clear hJ J)
      refine Og.such 68 (IdP WL) [] rfl (idP_lasts _) (idP_noBool _) (fun J hJ => ?_)
      go_simp
      refine ⟨fun p => C1.out p, hJ _ _ ?_⟩
      clear hJ J
      iterate 2 (refine Og.det [] rfl (fun J hJ => ?_); go_simp; refine hJ _ _ ?_; clear hJ J)
      refine Og.such 71 (IdP WL) [] rfl (idP_lasts _) (idP_noBool _) (fun J hJ => ?_)
      go_simp
      refine ⟨fun p => C2.out p, hJ _ _ ?_⟩
      clear hJ J
      refine Og.det [(71, IdP WL), (68, IdP WL)] rfl (fun J hJ => ?_)
      go_simp
      refine ⟨.bool true, fun p va ha vb hb => same_ids hl1 hb ha, hJ _ _ ?_⟩
      clear hJ J
      iterate 9 (refine Og.det [] rfl (fun J hJ => ?_); go_simp; refine hJ _ _ ?_; clear hJ J)
      refine Og.such 82 (IdP NL) [] rfl (idP_lasts _) (idP_noBool _) (fun J hJ => ?_)
      go_simp
      refine ⟨fun p => C3.out p, hJ _ _ ?_⟩
      clear hJ J
      iterate 8 (refine Og.det [] rfl (fun J hJ => ?_); go_simp; refine hJ _ _ ?_; clear hJ J)
      refine Og.such 91 (IdP NL) [] rfl (idP_lasts _) (idP_noBool _) (fun J hJ => ?_)
      go_simp
      refine ⟨fun p => C4.out p, hJ _ _ ?_⟩
      clear hJ J
      refine Og.det [(91, IdP NL), (82, IdP NL)] rfl (fun J hJ => ?_)
      go_simp
      refine ⟨.bool true, fun p va ha vb hb => same_ids hl2 hb ha, hJ _ _ ?_⟩
      clear hJ J
      iterate 2 (refine Og.det [] rfl (fun J hJ => ?_); go_simp; refine hJ _ _ ?_; clear hJ J)
      refine Og.det [] rfl (fun J hJ => ?_)
      go_simp
      with_reducible refine ⟨_, fun p => Og.lays (AW.out p.W), hJ _ _ ?_⟩
      clear hJ J
      iterate 2 (refine Og.det [] rfl (fun J hJ => ?_); go_simp; refine hJ _ _ ?_; clear hJ J)
      refine Og.fin fun W hW => ?_
      simp only [Og.opened_cons, Og.opened_nil]
      intro u91 hu91
      intro u82 hu82
      intro u71 hu71
      intro u68 hu68
      have FIN := BEr.out.trans (hW.mono BEr.out.size)
      go_wp2
      go_ret
      exact ⟨rfl, FIN⟩
    · obtain ⟨j, rfl⟩ : ∃ j, k = j + 1 := ⟨k - 1, by omega⟩
      obtain rfl : iv = (j : Int) := by omega
      obtain ⟨x, hx⟩ : ∃ x, P[j]? = some x := ⟨_, List.getElem?_eq_getElem (by omega)⟩
      have hj := (List.getElem?_eq_some_iff.1 hx).1
      have eD : P.drop j = x :: P.drop (j + 1) := by
        rw [List.drop_eq_getElem_cons hj]
        rw [List.getElem?_eq_getElem hj] at hx
        injection hx with hx
        rw [hx]
      have hmx := MK.out.ok.may x (List.mem_of_getElem? hx)
      have hnx : ∀ z ∈ P.drop (j + 1), z.id ≠ x.id := fun z hz e => by
        have h1 : ((P.drop j).map Bn.id).Nodup := MK.out.ok.apart.sublist ((List.drop_sublist j P).map _)
        rw [eD, List.map_cons, List.nodup_cons] at h1
        exact h1.1 (by rw [← e]; exact List.mem_map.2 ⟨z, hz, rfl⟩)
      obtain ⟨g, o, hA2, _⟩ := MK.out.rd w2 (Below.refl _ _) j _ hx
      subst hA2
      have RC : Hid (∀ W, Below w2.heap.size w2 W → W.cell? ⟨g, o + j * 11, none⟩ = some (.int .i64 x.s) ∧ W.cell? ⟨g, o + j * 11 + 1, none⟩ = some (.int .i64 x.i) ∧ W.cell? ⟨g, o + j * 11 + 2, none⟩ = some (.int .i64 x.g) ∧ W.cell? ⟨g, o + j * 11 + 3, none⟩ = some (.int .i64 x.m) ∧ W.cell? ⟨g, o + j * 11 + 4, none⟩ = some (.int .i64 x.x) ∧ W.cell? ⟨g, o + j * 11 + 5, none⟩ = some (.int .i64 x.y) ∧ W.cell? ⟨g, o + j * 11 + 6, none⟩ = some (.int .i64 x.vx) ∧ W.cell? ⟨g, o + j * 11 + 7, none⟩ = some (.int .i64 x.vy) ∧ W.cell? ⟨g, o + j * 11 + 8, none⟩ = some (.int .i64 x.h) ∧ W.cell? ⟨g, o + j * 11 + 9, none⟩ = some (.int .i64 x.p) ∧ W.cell? ⟨g, o + j * 11 + 10, none⟩ = some (.int .i64 x.l)) := Lib.hid fun W hW => by
        obtain ⟨g', o', e, _, hc⟩ := MK.out.rd W hW j _ hx
        cases e
        exact hc
      have hRD := HM.out.round hmx hnx { x with g := 1048575 } (fun e => by
        have e' : (1048575 : Int) = x.g := congrArg (fun k : Int × Int × Int => k.2.2) e
        cases x
        simp only at e'
        subst e'
        rfl)
      have hlt1 : (P.drop (j + 1)).length ≤ 60 := by rw [List.length_drop]; omega
      have hlt0 : ∀ m, (tb m).length + 1 ≤ 100000 := fun m => by have := HM.out.len m; omega
      rw [← eD] at hRD
      have wj : IntKind.i64.wrap ((j : Int) - 1) = (j : Int) - 1 := IntWalk.i64_in _ (by omega)
      have t0 : decide ((j : Int) ≥ 0) = true := decide_eq_true (by omega)
      have t1 : (j : Int) < (P.length : Int) := by omega
      clear hx eD hmx hnx HM MK AW T2 T3 BE hk0 hiv hk
      generalize hnP : P.length = nP at *
      generalize hPD : P.drop j = PD at *
      have HnP := Lib.hid hnP
      have HPD := Lib.hid hPD
      clear hnP hPD
      obtain ⟨xs, xi, xg, xm, xx, xY, xvx, xvy, xh, xp, xl⟩ := x
      simp only [Bn.id, Bn.val] at *
      obtain ⟨k0, k1, k2, k3, k4, k5, k6, k7, k8, k9, k10⟩ := RC.out _ HX.out.bel
      rcases hRD with ⟨hy, t1', e1, e2, MM', hl⟩ | ⟨hy, t1', t2', t3', e1, e2, e3, MM', hl⟩ | ⟨n, t2', hn, e1, e2, MM'⟩
      · have MM := Lib.hid MM'
        obtain rfl : (1048575 : Int) = xg := by injection hy
        have S1 : Hid (∀ W Φ, PX w2 r tb Φ W → Calls Try.prog 44 #[.pointer (some ⟨r, 0, none⟩), .agg #[.int .i64 xs, .int .i64 xi, .int .i64 1048575, .int .i64 xm, .int .i64 xx, .int .i64 xY, .int .i64 xvx, .int .i64 xvy, .int .i64 xh, .int .i64 xp, .int .i64 xl]] W fun e V => e = .returned (.int .i64 0) ∧ PX w2 r t1' Φ V) := Lib.hid fun W Φ h => h.put2 ⟨xs, xi, 1048575, xm, xx, xY, xvx, xvy, xh, xp, xl⟩ hlt0 e1
        have S2 : Hid (∀ W Φ, PX w2 r t1' Φ W → Calls Try.prog 44 #[.pointer (some ⟨r, 0, none⟩), .agg #[.int .i64 xs, .int .i64 xi, .int .i64 1048575, .int .i64 xm, .int .i64 xx, .int .i64 xY, .int .i64 xvx, .int .i64 xvy, .int .i64 xh, .int .i64 xp, .int .i64 xl]] W fun e V => e = .returned (.int .i64 7) ∧ PX w2 r t1' Φ V) := Lib.hid fun W Φ h => h.put2 ⟨xs, xi, 1048575, xm, xx, xY, xvx, xvy, xh, xp, xl⟩ (fun m => by have := hl m; omega) e2
        clear hy e1 e2 MM' hl hlt0 hlt1
        go_upto_region 8 with fail
        have X1 := HX.out.box (.cells #[.int .i64 xs, .int .i64 xi, .int .i64 1048575, .int .i64 xm, .int .i64 xx, .int .i64 xY, .int .i64 xvx, .int .i64 xvy, .int .i64 xh, .int .i64 xp, .int .i64 xl] BTY)
        clear k0 k1 k2 k3 k4 k5 k6 k7 k8 k9 k10
        generalize wr.alloc (.cells #[.int .i64 xs, .int .i64 xi, .int .i64 1048575, .int .i64 xm, .int .i64 xx, .int .i64 xY, .int .i64 xvx, .int .i64 xvy, .int .i64 xh, .int .i64 xp, .int .i64 xl] BTY) = w4 at *
        generalize wr.heap.size = bx at *
        obtain ⟨⟨m0, m1, m2, m3, m4, m5, m6, m7, m8, m9, m10⟩, _⟩ := Bx.b11 X1.is.2
        go_wp2_with (first
          | (go_at_call 44; refine (S2.out _ _ X2).mono ?_; rintro e w6 ⟨rfl, X3⟩; clear S2 X2 k0 k1 k2 k3 k4 k5 k6 k7 k8 k9 k10 m0 m1 m2 m3 m4 m5 m6 m7 m8 m9 m10; obtain ⟨k0, k1, k2, k3, k4, k5, k6, k7, k8, k9, k10⟩ := RC.out _ X3.bel; obtain ⟨⟨m0, m1, m2, m3, m4, m5, m6, m7, m8, m9, m10⟩, _⟩ := Bx.b11 X3.is.2)
          | (go_at_call 44; refine (S1.out _ _ X1).mono ?_; rintro e w5 ⟨rfl, X2⟩; clear S1 X1 m0 m1 m2 m3 m4 m5 m6 m7 m8 m9 m10; obtain ⟨k0, k1, k2, k3, k4, k5, k6, k7, k8, k9, k10⟩ := RC.out _ X2.bel; obtain ⟨⟨m0, m1, m2, m3, m4, m5, m6, m7, m8, m9, m10⟩, _⟩ := Bx.b11 X2.is.2))
        go_roundw
        case rel => exact ⟨j, _, by have := HnP.out; omega, ⟨(j : Int) - 1, by go_num, by omega⟩, Lib.hid (X3.imp fun _ _ => trivial), Lib.hid (by rw [HPD.out]; exact MM.out)⟩
        case measure => first | (simp [intOf]; done) | (simp [intOf]; omega)
      · have MM := Lib.hid MM'
        have hgx : ((1048575 : Int) == xg) = false := by
          rw [beq_eq_false_iff_ne]
          intro e
          subst e
          exact hy rfl
        have EQ : ∀ V : World, (Op.equalIn 10000 31 (.agg #[.int .i64 xs, .int .i64 xi, .int .i64 1048575]) (.agg #[.int .i64 xs, .int .i64 xi, .int .i64 xg])).run Try.prog V = .ok false V := fun V => by
          rw [eq_id 9998 xs xi 1048575 xs xi xg V, hgx]; simp
        have S1 : Hid (∀ W Φ, PX w2 r tb Φ W → Calls Try.prog 44 #[.pointer (some ⟨r, 0, none⟩), .agg #[.int .i64 xs, .int .i64 xi, .int .i64 1048575, .int .i64 xm, .int .i64 xx, .int .i64 xY, .int .i64 xvx, .int .i64 xvy, .int .i64 xh, .int .i64 xp, .int .i64 xl]] W fun e V => e = .returned (.int .i64 0) ∧ PX w2 r t1' Φ V) := Lib.hid fun W Φ h => h.put2 ⟨xs, xi, 1048575, xm, xx, xY, xvx, xvy, xh, xp, xl⟩ hlt0 e1
        have S2 : Hid (∀ W Φ, PX w2 r t1' Φ W → Calls Try.prog 44 #[.pointer (some ⟨r, 0, none⟩), .agg #[.int .i64 xs, .int .i64 xi, .int .i64 xg, .int .i64 xm, .int .i64 xx, .int .i64 xY, .int .i64 xvx, .int .i64 xvy, .int .i64 xh, .int .i64 xp, .int .i64 xl]] W fun e V => e = .returned (.int .i64 0) ∧ PX w2 r t2' Φ V) := Lib.hid fun W Φ h => h.put2 ⟨xs, xi, xg, xm, xx, xY, xvx, xvy, xh, xp, xl⟩ (fun m => by have := hl m; omega) e2
        have S3 : Hid (∀ W Φ, PX w2 r t2' Φ W → Calls Try.prog 23 #[.pointer (some ⟨r, 0, none⟩), .agg #[.int .i64 xs, .int .i64 xi, .int .i64 1048575]] W fun e V => e = .returned (.bool true) ∧ PX w2 r t3' Φ V) := Lib.hid fun W Φ h => h.remove xs xi 1048575 e3
        clear hy hgx e1 e2 e3 MM' hl hlt0 hlt1
        go_upto_region 8 with fail
        have X1 := HX.out.box (.cells #[.int .i64 xs, .int .i64 xi, .int .i64 1048575, .int .i64 xm, .int .i64 xx, .int .i64 xY, .int .i64 xvx, .int .i64 xvy, .int .i64 xh, .int .i64 xp, .int .i64 xl] BTY)
        clear k0 k1 k2 k3 k4 k5 k6 k7 k8 k9 k10
        generalize wr.alloc (.cells #[.int .i64 xs, .int .i64 xi, .int .i64 1048575, .int .i64 xm, .int .i64 xx, .int .i64 xY, .int .i64 xvx, .int .i64 xvy, .int .i64 xh, .int .i64 xp, .int .i64 xl] BTY) = w4 at *
        generalize wr.heap.size = bx at *
        obtain ⟨⟨m0, m1, m2, m3, m4, m5, m6, m7, m8, m9, m10⟩, _⟩ := Bx.b11 X1.is.2
        go_upto_region 12 with (first
          | (go_at_call 44; refine (S2.out _ _ X2).mono ?_; rintro e w6 ⟨rfl, X3⟩; clear S2 X2 k0 k1 k2 k3 k4 k5 k6 k7 k8 k9 k10 m0 m1 m2 m3 m4 m5 m6 m7 m8 m9 m10; obtain ⟨k0, k1, k2, k3, k4, k5, k6, k7, k8, k9, k10⟩ := RC.out _ X3.bel; obtain ⟨⟨m0, m1, m2, m3, m4, m5, m6, m7, m8, m9, m10⟩, _⟩ := Bx.b11 X3.is.2)
          | (go_at_call 44; refine (S1.out _ _ X1).mono ?_; rintro e w5 ⟨rfl, X2⟩; clear S1 X1 m0 m1 m2 m3 m4 m5 m6 m7 m8 m9 m10; obtain ⟨k0, k1, k2, k3, k4, k5, k6, k7, k8, k9, k10⟩ := RC.out _ X2.bel; obtain ⟨⟨m0, m1, m2, m3, m4, m5, m6, m7, m8, m9, m10⟩, _⟩ := Bx.b11 X2.is.2))
        go_quiet (fail)
        go_wp2_with (go_at_call 23; refine (S3.out _ _ (X3.below (Below.dn' (Below.refl _ _) _))).mono ?_; rintro e w7 ⟨rfl, X4⟩; clear S3 X3)
        go_roundw
        case rel => exact ⟨j, _, by have := HnP.out; omega, ⟨(j : Int) - 1, by go_num, by omega⟩, Lib.hid (X4.imp fun _ _ => trivial), Lib.hid (by rw [HPD.out]; exact MM.out)⟩
        case measure => first | (simp [intOf]; done) | (simp [intOf]; omega)
      · have MM := Lib.hid MM'
        have S1 : Hid (∀ W Φ, PX w2 r tb Φ W → Calls Try.prog 44 #[.pointer (some ⟨r, 0, none⟩), .agg #[.int .i64 xs, .int .i64 xi, .int .i64 1048575, .int .i64 xm, .int .i64 xx, .int .i64 xY, .int .i64 xvx, .int .i64 xvy, .int .i64 xh, .int .i64 xp, .int .i64 xl]] W fun e V => e = .returned (.int .i64 n) ∧ PX w2 r tb Φ V) := Lib.hid fun W Φ h => h.put2 ⟨xs, xi, 1048575, xm, xx, xY, xvx, xvy, xh, xp, xl⟩ hlt0 e1
        have S2 : Hid (∀ W Φ, PX w2 r tb Φ W → Calls Try.prog 44 #[.pointer (some ⟨r, 0, none⟩), .agg #[.int .i64 xs, .int .i64 xi, .int .i64 xg, .int .i64 xm, .int .i64 xx, .int .i64 xY, .int .i64 xvx, .int .i64 xvy, .int .i64 xh, .int .i64 xp, .int .i64 xl]] W fun e V => e = .returned (.int .i64 0) ∧ PX w2 r t2' Φ V) := Lib.hid fun W Φ h => h.put2 ⟨xs, xi, xg, xm, xx, xY, xvx, xvy, xh, xp, xl⟩ hlt0 e2
        have d1 : decide (n = 0) = false := decide_eq_false hn
        have d2 : (n == 0) = false := by rw [beq_eq_false_iff_ne]; exact hn
        clear hn e1 e2 MM' hlt0 hlt1
        go_upto_region 8 with fail
        have X1 := HX.out.box (.cells #[.int .i64 xs, .int .i64 xi, .int .i64 1048575, .int .i64 xm, .int .i64 xx, .int .i64 xY, .int .i64 xvx, .int .i64 xvy, .int .i64 xh, .int .i64 xp, .int .i64 xl] BTY)
        clear k0 k1 k2 k3 k4 k5 k6 k7 k8 k9 k10
        generalize wr.alloc (.cells #[.int .i64 xs, .int .i64 xi, .int .i64 1048575, .int .i64 xm, .int .i64 xx, .int .i64 xY, .int .i64 xvx, .int .i64 xvy, .int .i64 xh, .int .i64 xp, .int .i64 xl] BTY) = w4 at *
        generalize wr.heap.size = bx at *
        obtain ⟨⟨m0, m1, m2, m3, m4, m5, m6, m7, m8, m9, m10⟩, _⟩ := Bx.b11 X1.is.2
        go_upto_region 12 with (first
          | (go_at_call 44; refine (S2.out _ _ X2).mono ?_; rintro e w6 ⟨rfl, X3⟩; clear S2 X2 k0 k1 k2 k3 k4 k5 k6 k7 k8 k9 k10 m0 m1 m2 m3 m4 m5 m6 m7 m8 m9 m10; obtain ⟨k0, k1, k2, k3, k4, k5, k6, k7, k8, k9, k10⟩ := RC.out _ X3.bel; obtain ⟨⟨m0, m1, m2, m3, m4, m5, m6, m7, m8, m9, m10⟩, _⟩ := Bx.b11 X3.is.2)
          | (go_at_call 44; refine (S1.out _ _ X1).mono ?_; rintro e w5 ⟨rfl, X2⟩; clear S1 X1 m0 m1 m2 m3 m4 m5 m6 m7 m8 m9 m10; obtain ⟨k0, k1, k2, k3, k4, k5, k6, k7, k8, k9, k10⟩ := RC.out _ X2.bel; obtain ⟨⟨m0, m1, m2, m3, m4, m5, m6, m7, m8, m9, m10⟩, _⟩ := Bx.b11 X2.is.2))
        go_quiet (fail)
        go_wp2
        go_roundw
        case rel => exact ⟨j, _, by have := HnP.out; omega, ⟨(j : Int) - 1, by go_num, by omega⟩, Lib.hid ((X3.below (Below.dn' (Below.refl _ _) _)).imp fun _ _ => trivial), Lib.hid (by rw [HPD.out]; exact MM.out)⟩
        case measure => first | (simp [intOf]; done) | (simp [intOf]; omega)
end Go.Proofs.Ytgmgenggboicnaa
