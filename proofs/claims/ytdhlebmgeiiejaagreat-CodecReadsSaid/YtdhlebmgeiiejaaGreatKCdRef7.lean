/- The document's codec: a command is taken, the rest of the ways. Written by wip/tools/gencdtc.py. -/
import Derived.Test.YtdhlebmgeiiejaaGreatKCdRef7a
namespace Go.Proofs.YtdhlebmgeiiejaaGreat
open Go.RowKit Pz Cd
set_option linter.unusedVariables false
set_option linter.unusedSimpArgs false

set_option maxHeartbeats 32000000 in
set_option maxRecDepth 100000 in
theorem rtakecmd_3 {b : Nat} {w : World} {q : Rr} (h : RQ b w q w) (hk : (tInt q).1 = 3) : Calls Tryz.prog 15 #[.pointer (some ⟨b, 0, none⟩)] w fun e W' => e = .returned (takeC q).1.val ∧ RQ b w (takeC q).2 W' := by
  have CM := Lib.hid fun W (hW : RQ b w q W) => rtake_int hW
  have HT : takeC q = if (takeBody (tInt q).1 (tInt q).2).2.bad || !mayCmd (takeBody (tInt q).1 (tInt q).2).1 then (zeroC, Rr.no) else takeBody (tInt q).1 (tInt q).2 := rfl
  have FT := takeBody_fit (tInt q).1 (tInt q).2
  rw [HT]
  clear HT
  generalize tInt q = pk at *
  obtain ⟨k, q1⟩ := pk
  simp only at CM FT hk ⊢
  subst hk
  have TI : Hid (∀ W, RQ b w q1 W → Calls Tryz.prog 10 #[.pointer (some ⟨b, 0, none⟩)] W fun e W' => e = .returned (.agg #[.int .i64 (takeID q1).1.1, .int .i64 (takeID q1).1.2.1, .int .i64 (takeID q1).1.2.2]) ∧ RQ b w (takeID q1).2 W' ∧ W.grownBy W' (some b)) := Lib.hid fun W hW => (rtakeid_any hW.rebase).mono fun e W' ⟨h1, h2⟩ => ⟨h1, hW.trans h2, h2.grow⟩
  have TR : Hid (∀ W, RQ b w (takeID q1).2 W → Calls Tryz.prog 47 #[.pointer (some ⟨b, 0, none⟩)] W fun e W' => e = .returned ((takeRest (takeID q1).2).1.val) ∧ RQ b w (takeRest (takeID q1).2).2 W' ∧ W.grownBy W' (some b)) := Lib.hid fun W hW => (rtakerest_any hW.rebase).mono fun e W' ⟨h1, h2⟩ => ⟨h1, hW.trans h2, h2.grow⟩
  have HE : takeBody 3 q1 = ((⟨3, (takeID q1).1.1, (takeID q1).1.2.1, (takeID q1).1.2.2, (takeRest (takeID q1).2).1, 0⟩ : Cn), (takeRest (takeID q1).2).2) := rfl
  rw [HE] at FT ⊢
  clear HE
  generalize takeRest (takeID q1).2 = pr at *
  obtain ⟨⟨xs, xi, xg, xm, xx, xy, xvx, xvy, xh, xp, xl⟩, qx⟩ := pr
  generalize takeID q1 = pi at *
  obtain ⟨⟨i1, i2, i3⟩, qi⟩ := pi
  simp only [Bn.val] at FT TI TR ⊢
  have HTC := Lib.hid (show (⟨3, i1, i2, i3, ⟨xs, xi, xg, xm, xx, xy, xvx, xvy, xh, xp, xl⟩, 0⟩ : Cn) = (⟨3, i1, i2, i3, ⟨xs, xi, xg, xm, xx, xy, xvx, xvy, xh, xp, xl⟩, 0⟩ : Cn) from rfl)
  obtain ⟨tc, htc⟩ : ∃ tc : Cn, tc = ⟨3, i1, i2, i3, ⟨xs, xi, xg, xm, xx, xy, xvx, xvy, xh, xp, xl⟩, 0⟩ := ⟨_, rfl⟩
  rw [← htc]
  have FT2 : Fit tc.b.m := by rw [htc]; exact FT
  clear FT HTC
  replace htc := Lib.hid htc
  obtain ⟨s3, b3⟩ := qx
  have MY : Hid (∀ W, Calls Tryz.prog 52 #[.agg (cmB tc)] W fun e w' => e = .returned (.bool (mayCmd tc)) ∧ Below W.heap.size W w') := Lib.hid fun W => maycmd_any tc FT2 W
  clear FT2
  generalize mayCmd tc = ry at *
  simp only
  have BAD := Lib.hid fun W (hW : RQ b w ⟨s3, b3⟩ W) => rbad_any hW
  have HX := cr_of tc
  have HZ := cr_of zeroC
  have RES : Hid ((b3 = false → ry = true → ∀ W', RQ b w ⟨s3, b3⟩ W' → Ending.returned (.agg (cmB tc)) = .returned (if b3 || !ry then (zeroC, Rr.no) else (tc, ⟨s3, b3⟩)).1.val ∧ RQ b w (if b3 || !ry then (zeroC, Rr.no) else (tc, ⟨s3, b3⟩)).2 W') ∧ ((b3 || !ry) = true → ∀ W', RQ b w Rr.no W' → Ending.returned (.agg (cmB zeroC)) = .returned (if b3 || !ry then (zeroC, Rr.no) else (tc, ⟨s3, b3⟩)).1.val ∧ RQ b w (if b3 || !ry then (zeroC, Rr.no) else (tc, ⟨s3, b3⟩)).2 W')) := Lib.hid ⟨fun h1 h2 W' hW => by rw [h1, h2] at *; exact ⟨rfl, hW⟩, fun h1 W' hW => by rw [h1]; exact ⟨rfl, hW⟩⟩
  have hb := h.lt
  have ZE : cmB zeroC = #[.int .i64 0, .int .i64 0, .int .i64 0, .int .i64 0, .int .i64 0, .int .i64 0, .int .i64 0, .int .i64 0, .int .i64 0, .int .i64 0, .int .i64 0, .int .i64 0, .int .i64 0, .int .i64 0, .int .i64 0, .int .i64 0] := rfl
  have B0 : Hid ((w.alloc (.cells (cmB zeroC) CMR)).heap[w.heap.size]? = some (.cells (cmB zeroC) CMR (0, 0))) := Lib.hid (at1 w (.cells (cmB zeroC) CMR))
  have HR := Lib.hid (h.below (bel1 w (.cells (cmB zeroC) CMR)))
  clear h
  go_enter Tryz.func15, Tryz.ntmps15
  go_wp2_with fail
  rw [← ZE]
  generalize w.alloc (.cells (cmB zeroC) CMR) = wa at *
  refine (CM.out _ HR.out).mono ?_
  rintro e w1 ⟨rfl, r1, g1⟩
  replace B0 := Lib.hid ((g1.block _ (lt_of_row B0.out) (by simp; omega)).trans B0.out)
  clear HR g1 CM
  have H := Lib.hid (TC.start r1 B0.out 3)
  clear r1 B0
  go_upto_region 2 with fail
  generalize w1.alloc (.cells #[.int .i64 3, .int .i64 0, .int .i64 0, .int .i64 0, .int .i64 0, .int .i64 0, .int .i64 0, .int .i64 0, .int .i64 0, .int .i64 0, .int .i64 0, .int .i64 0, .int .i64 0, .int .i64 0, .int .i64 0, .int .i64 0] CMR) = w2 at *
  generalize w1.heap.size = o at *
  have OW : w2.heap[o]? = some (.cells #[.int .i64 3, .int .i64 0, .int .i64 0, .int .i64 0, .int .i64 0, .int .i64 0, .int .i64 0, .int .i64 0, .int .i64 0, .int .i64 0, .int .i64 0, .int .i64 0, .int .i64 0, .int .i64 0, .int .i64 0, .int .i64 0] CMR (0, 0)) := H.out.own
  obtain ⟨⟨n0, n1, n2, n3, n4, n5, n6, n7, n8, n9, n10, n11, n12, n13, n14, n15⟩, ⟨d0, d1, d2, d3, d4, d5, d6, d7, d8, d9, d10, d11, d12, d13, d14, d15⟩⟩ := Bx.b16 OW
  clear OW
  go_wp2_with fail
  refine (TI.out _ H.out.rq).mono ?_
  rintro e v3 ⟨rfl, r1, g1⟩
  replace H := Lib.hid (H.out.call r1 g1)
  clear r1 g1 TI n0 n1 n2 n3 n4 n5 n6 n7 n8 n9 n10 n11 n12 n13 n14 n15 d0 d1 d2 d3 d4 d5 d6 d7 d8 d9 d10 d11 d12 d13 d14 d15
  have OW3 : v3.heap[o]? = some (.cells #[.int .i64 3, .int .i64 0, .int .i64 0, .int .i64 0, .int .i64 0, .int .i64 0, .int .i64 0, .int .i64 0, .int .i64 0, .int .i64 0, .int .i64 0, .int .i64 0, .int .i64 0, .int .i64 0, .int .i64 0, .int .i64 0] CMR (0, 0)) := H.out.own
  obtain ⟨⟨n0, n1, n2, n3, n4, n5, n6, n7, n8, n9, n10, n11, n12, n13, n14, n15⟩, ⟨d0, d1, d2, d3, d4, d5, d6, d7, d8, d9, d10, d11, d12, d13, d14, d15⟩⟩ := Bx.b16 OW3
  clear OW3
  replace H := Lib.hid (H.out.ids i1 i2 i3)
  go_upto_region 9 with fail
  clear n0 n1 n2 n3 n4 n5 n6 n7 n8 n9 n10 n11 n12 n13 n14 n15 d0 d1 d2 d3 d4 d5 d6 d7 d8 d9 d10 d11 d12 d13 d14 d15
  generalize ((v3.setCell ⟨o, 1, none⟩ (.int .i64 i1)).setCell ⟨o, 2, none⟩ (.int .i64 i2)).setCell ⟨o, 3, none⟩ (.int .i64 i3) = v5 at *
  have OW5 : v5.heap[o]? = some (.cells #[.int .i64 3, .int .i64 i1, .int .i64 i2, .int .i64 i3, .int .i64 0, .int .i64 0, .int .i64 0, .int .i64 0, .int .i64 0, .int .i64 0, .int .i64 0, .int .i64 0, .int .i64 0, .int .i64 0, .int .i64 0, .int .i64 0] CMR (0, 0)) := H.out.own
  obtain ⟨⟨n0, n1, n2, n3, n4, n5, n6, n7, n8, n9, n10, n11, n12, n13, n14, n15⟩, ⟨d0, d1, d2, d3, d4, d5, d6, d7, d8, d9, d10, d11, d12, d13, d14, d15⟩⟩ := Bx.b16 OW5
  clear OW5
  go_wp2_with fail
  refine (TR.out _ H.out.rq).mono ?_
  rintro e v4 ⟨rfl, r1, g1⟩
  replace H := Lib.hid (H.out.call r1 g1)
  clear r1 g1 TR n0 n1 n2 n3 n4 n5 n6 n7 n8 n9 n10 n11 n12 n13 n14 n15 d0 d1 d2 d3 d4 d5 d6 d7 d8 d9 d10 d11 d12 d13 d14 d15
  have OW4 : v4.heap[o]? = some (.cells #[.int .i64 3, .int .i64 i1, .int .i64 i2, .int .i64 i3, .int .i64 0, .int .i64 0, .int .i64 0, .int .i64 0, .int .i64 0, .int .i64 0, .int .i64 0, .int .i64 0, .int .i64 0, .int .i64 0, .int .i64 0, .int .i64 0] CMR (0, 0)) := H.out.own
  obtain ⟨⟨n0, n1, n2, n3, n4, n5, n6, n7, n8, n9, n10, n11, n12, n13, n14, n15⟩, ⟨d0, d1, d2, d3, d4, d5, d6, d7, d8, d9, d10, d11, d12, d13, d14, d15⟩⟩ := Bx.b16 OW4
  clear OW4
  have HF := Lib.hid (H.out.bun ⟨xs, xi, xg, xm, xx, xy, xvx, xvy, xh, xp, xl⟩)
  clear H
  go_upto_region 13 with fail
  clear n0 n1 n2 n3 n4 n5 n6 n7 n8 n9 n10 n11 n12 n13 n14 n15 d0 d1 d2 d3 d4 d5 d6 d7 d8 d9 d10 d11 d12 d13 d14 d15
  generalize ((((((((((v4.setCell ⟨o, 4, none⟩ (.int .i64 xs)).setCell ⟨o, 5, none⟩ (.int .i64 xi)).setCell ⟨o, 6, none⟩ (.int .i64 xg)).setCell ⟨o, 7, none⟩ (.int .i64 xm)).setCell ⟨o, 8, none⟩ (.int .i64 xx)).setCell ⟨o, 9, none⟩ (.int .i64 xy)).setCell ⟨o, 10, none⟩ (.int .i64 xvx)).setCell ⟨o, 11, none⟩ (.int .i64 xvy)).setCell ⟨o, 12, none⟩ (.int .i64 xh)).setCell ⟨o, 13, none⟩ (.int .i64 xp)).setCell ⟨o, 14, none⟩ (.int .i64 xl) = V at *
  have H : Hid (TC b o w tc ⟨s3, b3⟩ V) := Lib.hid (by rw [htc.out]; exact HF.out)
  clear HF htc
  have QB : V.cell? ⟨b, 1, none⟩ = some (.bool b3) := H.out.rq.rd.c1
  have HR := Lib.hid H.out.rq
  have B0 := Lib.hid H.out.res
  have B1 := Lib.hid H.out.own
  have hlo := H.out.lo
  clear H
  obtain ⟨Z, hZ⟩ : ∃ Z, Z = cmB zeroC := ⟨_, rfl⟩
  obtain ⟨X, hX⟩ : ∃ X, X = cmB tc := ⟨_, rfl⟩
  rw [← hZ] at B0 HZ RES ZE
  rw [← hX] at MY HX RES B1
  clear hZ hX
  cases b3 with
  | true =>
    clear MY
    go_wp2_with fail
    refine (BAD.out _ HR.out).mono ?_
    rintro e w7 ⟨rfl, r7, g7⟩
    replace B0 := Lib.hid ((g7.block _ (lt_of_row B0.out) (by simp; omega)).trans B0.out)
    clear HR g7 BAD QB B1
    have HR := Lib.hid r7
    clear r7
    have HZ2 : Cr #[.int .i64 0, .int .i64 0, .int .i64 0, .int .i64 0, .int .i64 0, .int .i64 0, .int .i64 0, .int .i64 0, .int .i64 0, .int .i64 0, .int .i64 0, .int .i64 0, .int .i64 0, .int .i64 0, .int .i64 0, .int .i64 0] := by rw [← ZE]; exact HZ
    have B02 : Hid (w7.heap[w.heap.size]? = some (.cells #[.int .i64 0, .int .i64 0, .int .i64 0, .int .i64 0, .int .i64 0, .int .i64 0, .int .i64 0, .int .i64 0, .int .i64 0, .int .i64 0, .int .i64 0, .int .i64 0, .int .i64 0, .int .i64 0, .int .i64 0, .int .i64 0] CMR (0, 0))) := Lib.hid (by rw [← ZE]; exact B0.out)
    go_wp2_with (refine wpList_store_row rfl CMR (.tmp 2) (.tmp 46) rfl w.heap.size #[.int .i64 0, .int .i64 0, .int .i64 0, .int .i64 0, .int .i64 0, .int .i64 0, .int .i64 0, .int .i64 0, .int .i64 0, .int .i64 0, .int .i64 0, .int .i64 0, .int .i64 0, .int .i64 0, .int .i64 0, .int .i64 0] rfl rfl CMR #[.int .i64 0, .int .i64 0, .int .i64 0, .int .i64 0, .int .i64 0, .int .i64 0, .int .i64 0, .int .i64 0, .int .i64 0, .int .i64 0, .int .i64 0, .int .i64 0, .int .i64 0, .int .i64 0, .int .i64 0, .int .i64 0] B02.out HZ2.sz rfl HZ2.one ?_)
    rw [← ZE]
    exact bodyPost_ret (v := .agg Z) (results_cell_row Tryz.results15 _ _ w.heap.size CMR Z (0, 0) _ rfl (setRow_heap _ _ _ _ _ _ B0.out) Tryz.underlying38 rfl HZ.sz) rfl (RES.out.2 rfl _ (rq_row HR.out (Nat.le_refl _) Z))
  | false =>
    cases ry with
    | false =>
      go_upto_if 43 with (first
        | (refine load_rowr rfl CMR (.tmp 3) rfl o rfl CMR X (0, 0) _ B1.out Tryz.underlying38 rfl HX.sz ?_)
        | (go_at_call 52; refine (MY.out _).mono ?_; rintro e w4 ⟨rfl, hb4⟩))
      replace B0 := Lib.hid ((hb4.block _ (lt_of_row B0.out)).trans B0.out)
      replace HR := Lib.hid (HR.out.below hb4)
      clear hb4 MY
      go_wp2_with fail
      refine (BAD.out _ HR.out).mono ?_
      rintro e w7 ⟨rfl, r7, g7⟩
      replace B0 := Lib.hid ((g7.block _ (lt_of_row B0.out) (by simp; omega)).trans B0.out)
      clear HR g7 BAD QB B1
      have HR := Lib.hid r7
      clear r7
      have HZ2 : Cr #[.int .i64 0, .int .i64 0, .int .i64 0, .int .i64 0, .int .i64 0, .int .i64 0, .int .i64 0, .int .i64 0, .int .i64 0, .int .i64 0, .int .i64 0, .int .i64 0, .int .i64 0, .int .i64 0, .int .i64 0, .int .i64 0] := by rw [← ZE]; exact HZ
      have B02 : Hid (w7.heap[w.heap.size]? = some (.cells #[.int .i64 0, .int .i64 0, .int .i64 0, .int .i64 0, .int .i64 0, .int .i64 0, .int .i64 0, .int .i64 0, .int .i64 0, .int .i64 0, .int .i64 0, .int .i64 0, .int .i64 0, .int .i64 0, .int .i64 0, .int .i64 0] CMR (0, 0))) := Lib.hid (by rw [← ZE]; exact B0.out)
      go_wp2_with (refine wpList_store_row rfl CMR (.tmp 2) (.tmp 46) rfl w.heap.size #[.int .i64 0, .int .i64 0, .int .i64 0, .int .i64 0, .int .i64 0, .int .i64 0, .int .i64 0, .int .i64 0, .int .i64 0, .int .i64 0, .int .i64 0, .int .i64 0, .int .i64 0, .int .i64 0, .int .i64 0, .int .i64 0] rfl rfl CMR #[.int .i64 0, .int .i64 0, .int .i64 0, .int .i64 0, .int .i64 0, .int .i64 0, .int .i64 0, .int .i64 0, .int .i64 0, .int .i64 0, .int .i64 0, .int .i64 0, .int .i64 0, .int .i64 0, .int .i64 0, .int .i64 0] B02.out HZ2.sz rfl HZ2.one ?_)
      rw [← ZE]
      exact bodyPost_ret (v := .agg Z) (results_cell_row Tryz.results15 _ _ w.heap.size CMR Z (0, 0) _ rfl (setRow_heap _ _ _ _ _ _ B0.out) Tryz.underlying38 rfl HZ.sz) rfl (RES.out.2 rfl _ (rq_row HR.out (Nat.le_refl _) Z))
    | true =>
      go_upto_if 43 with (first
        | (refine load_rowr rfl CMR (.tmp 3) rfl o rfl CMR X (0, 0) _ B1.out Tryz.underlying38 rfl HX.sz ?_)
        | (go_at_call 52; refine (MY.out _).mono ?_; rintro e w4 ⟨rfl, hb4⟩))
      replace B0 := Lib.hid ((hb4.block _ (lt_of_row B0.out)).trans B0.out)
      replace B1 := Lib.hid ((hb4.block _ (lt_of_row B1.out)).trans B1.out)
      replace HR := Lib.hid (HR.out.below hb4)
      clear hb4 MY
      go_wp2_with (first
        | (refine load_rowr rfl CMR (.tmp 3) rfl o rfl CMR X (0, 0) _ B1.out Tryz.underlying38 rfl HX.sz ?_)
        | (refine wpList_store_row rfl CMR (.tmp 2) (.tmp 47) rfl w.heap.size X rfl rfl CMR Z B0.out HX.sz (cr_size HZ HX) HX.one ?_))
      exact bodyPost_ret (v := .agg X) (results_cell_row Tryz.results15 _ _ w.heap.size CMR X (0, 0) _ rfl (setRow_heap _ _ _ _ _ _ B0.out) Tryz.underlying38 rfl HX.sz) rfl (RES.out.1 (by trivial) (by trivial) _ (rq_row HR.out (Nat.le_refl _) X))
set_option maxHeartbeats 32000000 in
set_option maxRecDepth 100000 in
theorem rtakecmd_4 {b : Nat} {w : World} {q : Rr} (h : RQ b w q w) (hk : (tInt q).1 = 4) : Calls Tryz.prog 15 #[.pointer (some ⟨b, 0, none⟩)] w fun e W' => e = .returned (takeC q).1.val ∧ RQ b w (takeC q).2 W' := by
  have CM := Lib.hid fun W (hW : RQ b w q W) => rtake_int hW
  have HT : takeC q = if (takeBody (tInt q).1 (tInt q).2).2.bad || !mayCmd (takeBody (tInt q).1 (tInt q).2).1 then (zeroC, Rr.no) else takeBody (tInt q).1 (tInt q).2 := rfl
  have FT := takeBody_fit (tInt q).1 (tInt q).2
  rw [HT]
  clear HT
  generalize tInt q = pk at *
  obtain ⟨k, q1⟩ := pk
  simp only at CM FT hk ⊢
  subst hk
  have TI : Hid (∀ W, RQ b w q1 W → Calls Tryz.prog 10 #[.pointer (some ⟨b, 0, none⟩)] W fun e W' => e = .returned (.agg #[.int .i64 (takeID q1).1.1, .int .i64 (takeID q1).1.2.1, .int .i64 (takeID q1).1.2.2]) ∧ RQ b w (takeID q1).2 W' ∧ W.grownBy W' (some b)) := Lib.hid fun W hW => (rtakeid_any hW.rebase).mono fun e W' ⟨h1, h2⟩ => ⟨h1, hW.trans h2, h2.grow⟩
  have TM : Hid (∀ W, RQ b w (takeID q1).2 W → Calls Tryz.prog 39 #[.pointer (some ⟨b, 0, none⟩)] W fun e W' => e = .returned (.int .i64 (tInt (takeID q1).2).1) ∧ RQ b w (tInt (takeID q1).2).2 W' ∧ W.grownBy W' (some b)) := Lib.hid fun W hW => rtake_int hW
  have HE : takeBody 4 q1 = ((⟨4, (takeID q1).1.1, (takeID q1).1.2.1, (takeID q1).1.2.2, zeroB, (tInt (takeID q1).2).1⟩ : Cn), (tInt (takeID q1).2).2) := rfl
  rw [HE] at FT ⊢
  clear HE
  generalize tInt (takeID q1).2 = pm at *
  obtain ⟨mk4, qx⟩ := pm
  generalize takeID q1 = pi at *
  obtain ⟨⟨i1, i2, i3⟩, qi⟩ := pi
  simp only [Bn.val] at FT TI TM ⊢
  have HTC := Lib.hid (show (⟨4, i1, i2, i3, zeroB, mk4⟩ : Cn) = (⟨4, i1, i2, i3, zeroB, mk4⟩ : Cn) from rfl)
  obtain ⟨tc, htc⟩ : ∃ tc : Cn, tc = ⟨4, i1, i2, i3, zeroB, mk4⟩ := ⟨_, rfl⟩
  rw [← htc]
  have FT2 : Fit tc.b.m := by rw [htc]; exact FT
  clear FT HTC
  replace htc := Lib.hid htc
  obtain ⟨s3, b3⟩ := qx
  have MY : Hid (∀ W, Calls Tryz.prog 52 #[.agg (cmB tc)] W fun e w' => e = .returned (.bool (mayCmd tc)) ∧ Below W.heap.size W w') := Lib.hid fun W => maycmd_any tc FT2 W
  clear FT2
  generalize mayCmd tc = ry at *
  simp only
  have BAD := Lib.hid fun W (hW : RQ b w ⟨s3, b3⟩ W) => rbad_any hW
  have HX := cr_of tc
  have HZ := cr_of zeroC
  have RES : Hid ((b3 = false → ry = true → ∀ W', RQ b w ⟨s3, b3⟩ W' → Ending.returned (.agg (cmB tc)) = .returned (if b3 || !ry then (zeroC, Rr.no) else (tc, ⟨s3, b3⟩)).1.val ∧ RQ b w (if b3 || !ry then (zeroC, Rr.no) else (tc, ⟨s3, b3⟩)).2 W') ∧ ((b3 || !ry) = true → ∀ W', RQ b w Rr.no W' → Ending.returned (.agg (cmB zeroC)) = .returned (if b3 || !ry then (zeroC, Rr.no) else (tc, ⟨s3, b3⟩)).1.val ∧ RQ b w (if b3 || !ry then (zeroC, Rr.no) else (tc, ⟨s3, b3⟩)).2 W')) := Lib.hid ⟨fun h1 h2 W' hW => by rw [h1, h2] at *; exact ⟨rfl, hW⟩, fun h1 W' hW => by rw [h1]; exact ⟨rfl, hW⟩⟩
  have hb := h.lt
  have ZE : cmB zeroC = #[.int .i64 0, .int .i64 0, .int .i64 0, .int .i64 0, .int .i64 0, .int .i64 0, .int .i64 0, .int .i64 0, .int .i64 0, .int .i64 0, .int .i64 0, .int .i64 0, .int .i64 0, .int .i64 0, .int .i64 0, .int .i64 0] := rfl
  have B0 : Hid ((w.alloc (.cells (cmB zeroC) CMR)).heap[w.heap.size]? = some (.cells (cmB zeroC) CMR (0, 0))) := Lib.hid (at1 w (.cells (cmB zeroC) CMR))
  have HR := Lib.hid (h.below (bel1 w (.cells (cmB zeroC) CMR)))
  clear h
  go_enter Tryz.func15, Tryz.ntmps15
  go_wp2_with fail
  rw [← ZE]
  generalize w.alloc (.cells (cmB zeroC) CMR) = wa at *
  refine (CM.out _ HR.out).mono ?_
  rintro e w1 ⟨rfl, r1, g1⟩
  replace B0 := Lib.hid ((g1.block _ (lt_of_row B0.out) (by simp; omega)).trans B0.out)
  clear HR g1 CM
  have H := Lib.hid (TC.start r1 B0.out 4)
  clear r1 B0
  go_upto_region 2 with fail
  generalize w1.alloc (.cells #[.int .i64 4, .int .i64 0, .int .i64 0, .int .i64 0, .int .i64 0, .int .i64 0, .int .i64 0, .int .i64 0, .int .i64 0, .int .i64 0, .int .i64 0, .int .i64 0, .int .i64 0, .int .i64 0, .int .i64 0, .int .i64 0] CMR) = w2 at *
  generalize w1.heap.size = o at *
  have OW : w2.heap[o]? = some (.cells #[.int .i64 4, .int .i64 0, .int .i64 0, .int .i64 0, .int .i64 0, .int .i64 0, .int .i64 0, .int .i64 0, .int .i64 0, .int .i64 0, .int .i64 0, .int .i64 0, .int .i64 0, .int .i64 0, .int .i64 0, .int .i64 0] CMR (0, 0)) := H.out.own
  obtain ⟨⟨n0, n1, n2, n3, n4, n5, n6, n7, n8, n9, n10, n11, n12, n13, n14, n15⟩, ⟨d0, d1, d2, d3, d4, d5, d6, d7, d8, d9, d10, d11, d12, d13, d14, d15⟩⟩ := Bx.b16 OW
  clear OW
  go_wp2_with fail
  refine (TI.out _ H.out.rq).mono ?_
  rintro e v3 ⟨rfl, r1, g1⟩
  replace H := Lib.hid (H.out.call r1 g1)
  clear r1 g1 TI n0 n1 n2 n3 n4 n5 n6 n7 n8 n9 n10 n11 n12 n13 n14 n15 d0 d1 d2 d3 d4 d5 d6 d7 d8 d9 d10 d11 d12 d13 d14 d15
  have OW3 : v3.heap[o]? = some (.cells #[.int .i64 4, .int .i64 0, .int .i64 0, .int .i64 0, .int .i64 0, .int .i64 0, .int .i64 0, .int .i64 0, .int .i64 0, .int .i64 0, .int .i64 0, .int .i64 0, .int .i64 0, .int .i64 0, .int .i64 0, .int .i64 0] CMR (0, 0)) := H.out.own
  obtain ⟨⟨n0, n1, n2, n3, n4, n5, n6, n7, n8, n9, n10, n11, n12, n13, n14, n15⟩, ⟨d0, d1, d2, d3, d4, d5, d6, d7, d8, d9, d10, d11, d12, d13, d14, d15⟩⟩ := Bx.b16 OW3
  clear OW3
  replace H := Lib.hid (H.out.ids i1 i2 i3)
  go_upto_region 12 with fail
  clear n0 n1 n2 n3 n4 n5 n6 n7 n8 n9 n10 n11 n12 n13 n14 n15 d0 d1 d2 d3 d4 d5 d6 d7 d8 d9 d10 d11 d12 d13 d14 d15
  generalize ((v3.setCell ⟨o, 1, none⟩ (.int .i64 i1)).setCell ⟨o, 2, none⟩ (.int .i64 i2)).setCell ⟨o, 3, none⟩ (.int .i64 i3) = v5 at *
  have OW5 : v5.heap[o]? = some (.cells #[.int .i64 4, .int .i64 i1, .int .i64 i2, .int .i64 i3, .int .i64 0, .int .i64 0, .int .i64 0, .int .i64 0, .int .i64 0, .int .i64 0, .int .i64 0, .int .i64 0, .int .i64 0, .int .i64 0, .int .i64 0, .int .i64 0] CMR (0, 0)) := H.out.own
  obtain ⟨⟨n0, n1, n2, n3, n4, n5, n6, n7, n8, n9, n10, n11, n12, n13, n14, n15⟩, ⟨d0, d1, d2, d3, d4, d5, d6, d7, d8, d9, d10, d11, d12, d13, d14, d15⟩⟩ := Bx.b16 OW5
  clear OW5
  go_wp2_with fail
  refine (TM.out _ H.out.rq).mono ?_
  rintro e v4 ⟨rfl, r1, g1⟩
  replace H := Lib.hid (H.out.call r1 g1)
  clear r1 g1 TM n0 n1 n2 n3 n4 n5 n6 n7 n8 n9 n10 n11 n12 n13 n14 n15 d0 d1 d2 d3 d4 d5 d6 d7 d8 d9 d10 d11 d12 d13 d14 d15
  have OW4 : v4.heap[o]? = some (.cells #[.int .i64 4, .int .i64 i1, .int .i64 i2, .int .i64 i3, .int .i64 0, .int .i64 0, .int .i64 0, .int .i64 0, .int .i64 0, .int .i64 0, .int .i64 0, .int .i64 0, .int .i64 0, .int .i64 0, .int .i64 0, .int .i64 0] CMR (0, 0)) := H.out.own
  obtain ⟨⟨n0, n1, n2, n3, n4, n5, n6, n7, n8, n9, n10, n11, n12, n13, n14, n15⟩, ⟨d0, d1, d2, d3, d4, d5, d6, d7, d8, d9, d10, d11, d12, d13, d14, d15⟩⟩ := Bx.b16 OW4
  clear OW4
  have HF := Lib.hid (TC.set (c' := ⟨4, i1, i2, i3, zeroB, mk4⟩) H.out 15 mk4 rfl)
  clear H
  go_upto_region 13 with fail
  clear n0 n1 n2 n3 n4 n5 n6 n7 n8 n9 n10 n11 n12 n13 n14 n15 d0 d1 d2 d3 d4 d5 d6 d7 d8 d9 d10 d11 d12 d13 d14 d15
  generalize v4.setCell ⟨o, 15, none⟩ (.int .i64 mk4) = V at *
  have H : Hid (TC b o w tc ⟨s3, b3⟩ V) := Lib.hid (by rw [htc.out]; exact HF.out)
  clear HF htc
  have QB : V.cell? ⟨b, 1, none⟩ = some (.bool b3) := H.out.rq.rd.c1
  have HR := Lib.hid H.out.rq
  have B0 := Lib.hid H.out.res
  have B1 := Lib.hid H.out.own
  have hlo := H.out.lo
  clear H
  obtain ⟨Z, hZ⟩ : ∃ Z, Z = cmB zeroC := ⟨_, rfl⟩
  obtain ⟨X, hX⟩ : ∃ X, X = cmB tc := ⟨_, rfl⟩
  rw [← hZ] at B0 HZ RES ZE
  rw [← hX] at MY HX RES B1
  clear hZ hX
  cases b3 with
  | true =>
    clear MY
    go_wp2_with fail
    refine (BAD.out _ HR.out).mono ?_
    rintro e w7 ⟨rfl, r7, g7⟩
    replace B0 := Lib.hid ((g7.block _ (lt_of_row B0.out) (by simp; omega)).trans B0.out)
    clear HR g7 BAD QB B1
    have HR := Lib.hid r7
    clear r7
    have HZ2 : Cr #[.int .i64 0, .int .i64 0, .int .i64 0, .int .i64 0, .int .i64 0, .int .i64 0, .int .i64 0, .int .i64 0, .int .i64 0, .int .i64 0, .int .i64 0, .int .i64 0, .int .i64 0, .int .i64 0, .int .i64 0, .int .i64 0] := by rw [← ZE]; exact HZ
    have B02 : Hid (w7.heap[w.heap.size]? = some (.cells #[.int .i64 0, .int .i64 0, .int .i64 0, .int .i64 0, .int .i64 0, .int .i64 0, .int .i64 0, .int .i64 0, .int .i64 0, .int .i64 0, .int .i64 0, .int .i64 0, .int .i64 0, .int .i64 0, .int .i64 0, .int .i64 0] CMR (0, 0))) := Lib.hid (by rw [← ZE]; exact B0.out)
    go_wp2_with (refine wpList_store_row rfl CMR (.tmp 2) (.tmp 46) rfl w.heap.size #[.int .i64 0, .int .i64 0, .int .i64 0, .int .i64 0, .int .i64 0, .int .i64 0, .int .i64 0, .int .i64 0, .int .i64 0, .int .i64 0, .int .i64 0, .int .i64 0, .int .i64 0, .int .i64 0, .int .i64 0, .int .i64 0] rfl rfl CMR #[.int .i64 0, .int .i64 0, .int .i64 0, .int .i64 0, .int .i64 0, .int .i64 0, .int .i64 0, .int .i64 0, .int .i64 0, .int .i64 0, .int .i64 0, .int .i64 0, .int .i64 0, .int .i64 0, .int .i64 0, .int .i64 0] B02.out HZ2.sz rfl HZ2.one ?_)
    rw [← ZE]
    exact bodyPost_ret (v := .agg Z) (results_cell_row Tryz.results15 _ _ w.heap.size CMR Z (0, 0) _ rfl (setRow_heap _ _ _ _ _ _ B0.out) Tryz.underlying38 rfl HZ.sz) rfl (RES.out.2 rfl _ (rq_row HR.out (Nat.le_refl _) Z))
  | false =>
    cases ry with
    | false =>
      go_upto_if 43 with (first
        | (refine load_rowr rfl CMR (.tmp 3) rfl o rfl CMR X (0, 0) _ B1.out Tryz.underlying38 rfl HX.sz ?_)
        | (go_at_call 52; refine (MY.out _).mono ?_; rintro e w4 ⟨rfl, hb4⟩))
      replace B0 := Lib.hid ((hb4.block _ (lt_of_row B0.out)).trans B0.out)
      replace HR := Lib.hid (HR.out.below hb4)
      clear hb4 MY
      go_wp2_with fail
      refine (BAD.out _ HR.out).mono ?_
      rintro e w7 ⟨rfl, r7, g7⟩
      replace B0 := Lib.hid ((g7.block _ (lt_of_row B0.out) (by simp; omega)).trans B0.out)
      clear HR g7 BAD QB B1
      have HR := Lib.hid r7
      clear r7
      have HZ2 : Cr #[.int .i64 0, .int .i64 0, .int .i64 0, .int .i64 0, .int .i64 0, .int .i64 0, .int .i64 0, .int .i64 0, .int .i64 0, .int .i64 0, .int .i64 0, .int .i64 0, .int .i64 0, .int .i64 0, .int .i64 0, .int .i64 0] := by rw [← ZE]; exact HZ
      have B02 : Hid (w7.heap[w.heap.size]? = some (.cells #[.int .i64 0, .int .i64 0, .int .i64 0, .int .i64 0, .int .i64 0, .int .i64 0, .int .i64 0, .int .i64 0, .int .i64 0, .int .i64 0, .int .i64 0, .int .i64 0, .int .i64 0, .int .i64 0, .int .i64 0, .int .i64 0] CMR (0, 0))) := Lib.hid (by rw [← ZE]; exact B0.out)
      go_wp2_with (refine wpList_store_row rfl CMR (.tmp 2) (.tmp 46) rfl w.heap.size #[.int .i64 0, .int .i64 0, .int .i64 0, .int .i64 0, .int .i64 0, .int .i64 0, .int .i64 0, .int .i64 0, .int .i64 0, .int .i64 0, .int .i64 0, .int .i64 0, .int .i64 0, .int .i64 0, .int .i64 0, .int .i64 0] rfl rfl CMR #[.int .i64 0, .int .i64 0, .int .i64 0, .int .i64 0, .int .i64 0, .int .i64 0, .int .i64 0, .int .i64 0, .int .i64 0, .int .i64 0, .int .i64 0, .int .i64 0, .int .i64 0, .int .i64 0, .int .i64 0, .int .i64 0] B02.out HZ2.sz rfl HZ2.one ?_)
      rw [← ZE]
      exact bodyPost_ret (v := .agg Z) (results_cell_row Tryz.results15 _ _ w.heap.size CMR Z (0, 0) _ rfl (setRow_heap _ _ _ _ _ _ B0.out) Tryz.underlying38 rfl HZ.sz) rfl (RES.out.2 rfl _ (rq_row HR.out (Nat.le_refl _) Z))
    | true =>
      go_upto_if 43 with (first
        | (refine load_rowr rfl CMR (.tmp 3) rfl o rfl CMR X (0, 0) _ B1.out Tryz.underlying38 rfl HX.sz ?_)
        | (go_at_call 52; refine (MY.out _).mono ?_; rintro e w4 ⟨rfl, hb4⟩))
      replace B0 := Lib.hid ((hb4.block _ (lt_of_row B0.out)).trans B0.out)
      replace B1 := Lib.hid ((hb4.block _ (lt_of_row B1.out)).trans B1.out)
      replace HR := Lib.hid (HR.out.below hb4)
      clear hb4 MY
      go_wp2_with (first
        | (refine load_rowr rfl CMR (.tmp 3) rfl o rfl CMR X (0, 0) _ B1.out Tryz.underlying38 rfl HX.sz ?_)
        | (refine wpList_store_row rfl CMR (.tmp 2) (.tmp 47) rfl w.heap.size X rfl rfl CMR Z B0.out HX.sz (cr_size HZ HX) HX.one ?_))
      exact bodyPost_ret (v := .agg X) (results_cell_row Tryz.results15 _ _ w.heap.size CMR X (0, 0) _ rfl (setRow_heap _ _ _ _ _ _ B0.out) Tryz.underlying38 rfl HX.sz) rfl (RES.out.1 (by trivial) (by trivial) _ (rq_row HR.out (Nat.le_refl _) X))
theorem rtakecmd_any {b : Nat} {w : World} {q : Rr} (h : RQ b w q w) : Calls Tryz.prog 15 #[.pointer (some ⟨b, 0, none⟩)] w fun e W' => e = .returned (takeC q).1.val ∧ RQ b w (takeC q).2 W' := by
  by_cases h1 : (tInt q).1 = 1
  · exact rtakecmd_1 h h1
  · by_cases h2 : (tInt q).1 = 2
    · exact rtakecmd_2 h h2
    · by_cases h3 : (tInt q).1 = 3
      · exact rtakecmd_3 h h3
      · by_cases h4 : (tInt q).1 = 4
        · exact rtakecmd_4 h h4
        · exact rtakecmd_5 h h1 h2 h3 h4
end Go.Proofs.YtdhlebmgeiiejaaGreat
