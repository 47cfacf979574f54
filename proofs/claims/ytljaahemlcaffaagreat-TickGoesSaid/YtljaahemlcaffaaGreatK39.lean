/- Those of a zone, and those near it. Written by wip/tools/gentk.py. -/
import Derived.Test.YtljaahemlcaffaaGreatK38
namespace Go.Proofs.YtljaahemlcaffaaGreat
open Go.RowKit Pz Sp
set_option linter.unusedVariables false
set_option linter.unusedSimpArgs false

namespace Tk
theorem ownZ_next {C R S z : Int} {l : List Bn} {m : Nat} (hm : m < l.length) : ownZ C R S z (l.take (m + 1)) = ownZ C R S z (l.take m) ++ (if Zn.of C R S l[m].x l[m].y = z then [l[m]] else []) := by
  unfold ownZ
  rw [List.take_succ_eq_append_getElem hm, List.filter_append]
  congr 1
  by_cases h : Zn.of C R S l[m].x l[m].y = z
  · rw [if_pos h, List.filter_cons_of_pos (by simpa using h), List.filter_nil]
  · rw [if_neg h, List.filter_cons_of_neg (by simpa using h), List.filter_nil]
theorem nearZ_next {C R S D z : Int} {l : List Bn} {m : Nat} (hm : m < l.length) : nearZ C R S D z (l.take (m + 1)) = nearZ C R S D z (l.take m) ++ (if Zn.of C R S l[m].x l[m].y ≠ z ∧ Zn.gapZ C R S z l[m].x l[m].y ≤ D then [l[m]] else []) := by
  unfold nearZ
  rw [List.take_succ_eq_append_getElem hm, List.filter_append]
  congr 1
  by_cases h : Zn.of C R S l[m].x l[m].y ≠ z ∧ Zn.gapZ C R S z l[m].x l[m].y ≤ D
  · rw [if_pos h, List.filter_cons_of_pos (by simp [h.1, h.2]), List.filter_nil]
  · rw [if_neg h, List.filter_cons_of_neg, List.filter_nil]
    intro e
    simp only [Bool.and_eq_true, Bool.not_eq_true', decide_eq_false_iff_not, decide_eq_true_eq] at e
    exact h e
end Tk
theorem Sep.swap {w W : World} {P Q : Piece} {L : List Piece} (h : Sep w (P :: Q :: L) W) : Sep w (Q :: P :: L) W := h.pull 1 rfl
set_option maxHeartbeats 8000000 in
set_option maxRecDepth 100000 in
theorem part_any {w : World} (cC cR cS cD cV cN cQ : Int) (ok : Zn.Ok cC cR cS cD cV) (z : Int) (hz : Zn.There cC cR z) {A : Option Addr} {c : Nat} {l : List Bn} (R : RdB w w.heap.size A l) (hl : l.length ≤ 1000) (hF : ∀ x ∈ l, x.Fits) :
    Calls Tryz.prog 14 #[.agg #[.int .i64 cC, .int .i64 cR, .int .i64 cS, .int .i64 cD, .int .i64 cV, .int .i64 cN, .int .i64 cQ], .int .i64 z, .slice A l.length c] w fun e w' => ∃ (A1 A2 : Option Addr) (c1 c2 : Nat), e = .returned (.tuple #[.slice A1 (Tk.ownZ cC cR cS z l).length c1, .slice A2 (Tk.nearZ cC cR cS cD z l).length c2]) ∧ OwnB w' w.heap.size (.slice A1 (Tk.ownZ cC cR cS z l).length c1) (Tk.ownZ cC cR cS z l) ∧ OwnB w' w.heap.size (.slice A2 (Tk.nearZ cC cR cS cD z l).length c2) (Tk.nearZ cC cR cS cD z l) ∧ Below w.heap.size w w' := by
  have H0 : Hid (Sep w [box w.heap.size (.cells #[.int .i64 cC, .int .i64 cR, .int .i64 cS, .int .i64 cD, .int .i64 cV, .int .i64 cN, .int .i64 cQ] 23)] (w.alloc (.cells #[.int .i64 cC, .int .i64 cR, .int .i64 cS, .int .i64 cD, .int .i64 cV, .int .i64 cN, .int .i64 cQ] 23))) := Lib.hid (sep_box (sep_new w) _)
  have RD := Lib.hid fun V (hV : Below w.heap.size w V) => R.below hV
  have fitI : ∀ n, Fit n → I n := fun n h => by unfold Fit at h; unfold I; omega
  have OF := Lib.hid fun x y W (hx : Fit x) (hy : Fit y) => rof_any cC cR cS cD cV cN cQ x y W ok (fitI x hx) (fitI y hy)
  have hcr := Zn.mul_bd ok
  have ZO := Lib.hid fun W => rzone_any cC cR cS cD cV cN cQ z W ok (by have := hz.1; have := hz.2; unfold I; omega)
  have GA := Lib.hid fun x y W (hx : Fit x) (hy : Fit y) => rgap_zone_any ok hz x y (fitI x hx) (fitI y hy) W
  have FX := Lib.hid hF
  have hll : (l.length : Int) ≤ 1000 := by omega
  clear R hF fitI hcr
  go_enter Tryz.func14, Tryz.ntmps14
  go_upto_region 1 with fail
  generalize w.alloc (.cells #[.int .i64 cC, .int .i64 cR, .int .i64 cS, .int .i64 cD, .int .i64 cV, .int .i64 cN, .int .i64 cQ] 23) = w0 at *
  have H1 : Hid (Sep w [rowB (.slice none (0 : Nat) 0) (Tk.ownZ cC cR cS z (l.take 0)), rowB (.slice none (0 : Nat) 0) (Tk.nearZ cC cR cS cD z (l.take 0)), box w.heap.size (.cells #[.int .i64 cC, .int .i64 cR, .int .i64 cS, .int .i64 cD, .int .i64 cV, .int .i64 cN, .int .i64 cQ] 23)] w0) := Lib.hid (row_none bnE 42 11 (row_none bnE 42 11 H0.out))
  clear H0
  go_wp2
  go_loopw [8, 9, 10] (fun a b s wr => ∃ m : Nat, m ≤ l.length ∧ s = .int .i64 m ∧ Hid (Sep w [rowB a (Tk.ownZ cC cR cS z (l.take m)), rowB b (Tk.nearZ cC cR cS cD z (l.take m)), box w.heap.size (.cells #[.int .i64 cC, .int .i64 cR, .int .i64 cS, .int .i64 cD, .int .i64 cV, .int .i64 cN, .int .i64 cQ] 23)] wr)) (fun _ _ s _ => l.length - (intOf s).toNat)
  case atStart => exact ⟨0, Nat.zero_le _, rfl, H1⟩
  case round =>
    clear H1
    obtain ⟨m, hm, rfl, HP⟩ := hrel
    obtain ⟨A1, c1, hv1⟩ := (HP.out.rows 0 rfl).form
    obtain ⟨A2, c2, hv2⟩ := (HP.out.rows 1 rfl).form
    obtain ⟨l1, hl1⟩ : ∃ l1, l1 = (Tk.ownZ cC cR cS z (l.take m)).length := ⟨_, rfl⟩
    obtain ⟨l2, hl2⟩ : ∃ l2, l2 = (Tk.nearZ cC cR cS cD z (l.take m)).length := ⟨_, rfl⟩
    rw [← hl1] at hv1
    rw [← hl2] at hv2
    subst hv1 hv2
    by_cases hmu : m < l.length
    · have t3 : (m : Int) < (l.length : Int) := by omega
      have hx := List.getElem?_eq_getElem hmu
      have O1 := Tk.ownZ_next (C := cC) (R := cR) (S := cS) (z := z) hmu
      have N1 := Tk.nearZ_next (C := cC) (R := cR) (S := cS) (D := cD) (z := z) hmu
      have b1 : l1 ≤ 1000 := by rw [hl1]; have := List.length_filter_le (fun b : Bn => decide (Zn.of cC cR cS b.x b.y = z)) (l.take m); rw [List.length_take] at this; unfold Tk.ownZ; omega
      have b2 : l2 ≤ 1000 := by rw [hl2]; have := List.length_filter_le (fun b : Bn => !decide (Zn.of cC cR cS b.x b.y = z) && decide (Zn.gapZ cC cR cS z b.x b.y ≤ cD)) (l.take m); rw [List.length_take] at this; unfold Tk.nearZ; omega
      have b1 : (Tk.ownZ cC cR cS z (l.take m)).length + 1 ≤ 1000000 := by omega
      have b2 : (Tk.nearZ cC cR cS cD z (l.take m)).length + 1 ≤ 1000000 := by omega
      obtain ⟨ga, oa, rfl, _, ⟨z0, z1, z2, z3, z4, z5, z6, z7, z8, z9, z10⟩⟩ := RD.out wr HP.out.bel m _ hx
      have t0 : w.heap.size < wr.heap.size := Bx.lt (HP.out.held 2 rfl)
      have tg : ga < wr.heap.size := by
        obtain ⟨g', o', e, h, _⟩ := RD.out wr HP.out.bel m _ hx
        cases e
        omega
      have QC : Hid (∀ W, Below w.heap.size w W → W.cell? ⟨ga, oa + m * 11, none⟩ = some (.int .i64 l[m].s) ∧ W.cell? ⟨ga, oa + m * 11 + 1, none⟩ = some (.int .i64 l[m].i) ∧ W.cell? ⟨ga, oa + m * 11 + 2, none⟩ = some (.int .i64 l[m].g) ∧ W.cell? ⟨ga, oa + m * 11 + 3, none⟩ = some (.int .i64 l[m].m) ∧ W.cell? ⟨ga, oa + m * 11 + 4, none⟩ = some (.int .i64 l[m].x) ∧ W.cell? ⟨ga, oa + m * 11 + 5, none⟩ = some (.int .i64 l[m].y) ∧ W.cell? ⟨ga, oa + m * 11 + 6, none⟩ = some (.int .i64 l[m].vx) ∧ W.cell? ⟨ga, oa + m * 11 + 7, none⟩ = some (.int .i64 l[m].vy) ∧ W.cell? ⟨ga, oa + m * 11 + 8, none⟩ = some (.int .i64 l[m].h) ∧ W.cell? ⟨ga, oa + m * 11 + 9, none⟩ = some (.int .i64 l[m].p) ∧ W.cell? ⟨ga, oa + m * 11 + 10, none⟩ = some (.int .i64 l[m].l)) := Lib.hid fun W hW => by
        obtain ⟨g', o', e, _, h⟩ := RD.out W hW m _ hx
        cases e
        exact h
      have QG : Hid (∀ W, Below w.heap.size w W → ga < W.heap.size) := Lib.hid fun W hW => by
        obtain ⟨g', o', e, h, _⟩ := RD.out W hW m _ hx
        cases e
        exact Nat.lt_of_lt_of_le h hW.size
      have fj := FX.out _ (List.getElem_mem hmu)
      have OX := Lib.hid fun W => OF.out l[m].x l[m].y W fj.x fj.y
      have GX := Lib.hid fun W => GA.out l[m].x l[m].y W fj.x fj.y
      obtain ⟨⟨g0, g1, g2, g3, g4, g5, g6⟩, _⟩ := box7 (HP.out.held 2 rfl)
      have HO1 := Lib.hid O1
      have HN1 := Lib.hid N1
      have HB1 := Lib.hid b1
      have HB2 := Lib.hid b2
      clear O1 N1 b1 b2 hl1 hl2 RD FX OF GA hx fj
      generalize hof : Zn.of cC cR cS l[m].x l[m].y = of at *
      generalize hgp : Zn.gapZ cC cR cS z l[m].x l[m].y = gp at *
      clear hof hgp
      go_upto_region 5 with fail
      refine Og.grow 14 (by kernel_rfl) (by kernel_rfl) fun hc hf => ?_
      simp only [List.take_succ_cons, List.take_zero, List.drop_succ_cons, List.drop_zero]
      iterate 14
       (refine Og.det [] rfl (fun J hJ => ?_)
        go_simp
        first
        | (with_reducible refine ⟨_, fun p => Og.lays (OX.out p.W), hJ _ _ ?_⟩)
        | (refine hJ _ _ ?_)
        clear hJ J)
      clear hc hf
      refine Og.fin fun W hW => ?_
      simp only [Og.opened_nil]
      have H2 := Lib.hid (HP.out.below hW)
      clear HP hW OX z0 z1 z2 z3 z4 z5 z6 z7 z8 z9 z10 g0 g1 g2 g3 g4 g5 g6
      have H := H2
      clear H2
      obtain ⟨z0, z1, z2, z3, z4, z5, z6, z7, z8, z9, z10⟩ := QC.out W H.out.bel
      have eo0 := HO1.out
      have en0 := HN1.out
      clear HO1 HN1
      by_cases hzz : of = z
      · have e1 : (of == z) = true := by simp [hzz]
        have eo := eo0
        have en := en0
        rw [if_pos hzz] at eo
        rw [if_neg (fun h => h.1 hzz), List.append_nil] at en
        clear eo0 en0 ZO GX hzz
        obtain ⟨v', V, hr, ho⟩ := ent_push H.out l[m] HB1.out
        have HR := Lib.hid hr
        have HE : Hid (Sep w [rowB v' (Tk.ownZ cC cR cS z (l.take (m + 1))), rowB (Value.slice A2 l2 c2) (Tk.nearZ cC cR cS cD z (l.take (m + 1))), box w.heap.size (.cells #[.int .i64 cC, .int .i64 cR, .int .i64 cS, .int .i64 cD, .int .i64 cV, .int .i64 cN, .int .i64 cQ] 23)] V) := Lib.hid (by
          rw [eo, en]
          exact ho)
        clear hr ho H eo en HB1 HB2 QC
        go_wp2_with (at_builtin; refine wpList_append _ rfl (.tmp 31) (.tmp 36) _ _ rfl _ _ rfl rfl _ _ HR.out ?_)
        go_roundw
        case rel => exact ⟨m + 1, by omega, by go_num, HE⟩
        case measure => simp [intOf]; omega
      · have e1 : (of == z) = false := by simp [hzz]
        have eo := eo0
        rw [if_neg hzz, List.append_nil] at eo
        replace en0 := en0
        have HZ := Lib.hid hzz
        clear hzz eo0
        obtain ⟨g0, g1, g2, g3, g4, g5, g6⟩ := (box7 (H.out.held 2 rfl)).1
        have t1 : w.heap.size < W.heap.size := Bx.lt (H.out.held 2 rfl)
        have tg2 : ga < W.heap.size := QG.out W H.out.bel
        go_upto_region 7 with fail
        refine Og.grow 17 (by kernel_rfl) (by kernel_rfl) fun hc hf => ?_
        simp only [List.take_succ_cons, List.take_zero, List.drop_succ_cons, List.drop_zero]
        iterate 17
         (refine Og.det [] rfl (fun J hJ => ?_)
          go_simp
          first
          | (with_reducible refine ⟨_, fun p => Og.lays (ZO.out p.W), hJ _ _ ?_⟩)
          | (with_reducible refine ⟨_, fun p => Og.lays (GX.out p.W), hJ _ _ ?_⟩)
          | (refine hJ _ _ ?_)
          clear hJ J)
        clear hc hf
        refine Og.fin fun W2 hW2 => ?_
        simp only [Og.opened_nil]
        have H2 := Lib.hid (H.out.below hW2)
        clear H hW2 ZO GX z0 z1 z2 z3 z4 z5 z6 z7 z8 z9 z10 g0 g1 g2 g3 g4 g5 g6
        have H := H2
        clear H2
        obtain ⟨z0, z1, z2, z3, z4, z5, z6, z7, z8, z9, z10⟩ := QC.out W2 H.out.bel
        by_cases hg : gp ≤ cD
        · have en := en0
          rw [if_pos ⟨HZ.out, hg⟩] at en
          clear en0
          obtain ⟨v', V, hr, ho⟩ := ent_push H.out.swap l[m] HB2.out
          have HR := Lib.hid hr
          have HE : Hid (Sep w [rowB (Value.slice A1 l1 c1) (Tk.ownZ cC cR cS z (l.take (m + 1))), rowB v' (Tk.nearZ cC cR cS cD z (l.take (m + 1))), box w.heap.size (.cells #[.int .i64 cC, .int .i64 cR, .int .i64 cS, .int .i64 cD, .int .i64 cV, .int .i64 cN, .int .i64 cQ] 23)] V) := Lib.hid (by
            rw [eo, en]
            exact ho.swap)
          clear hr ho H eo en HB1 HB2 QC
          go_wp2_with (at_builtin; refine wpList_append _ rfl (.tmp 55) (.tmp 60) _ _ rfl _ _ rfl rfl _ _ HR.out ?_)
          go_roundw
          case rel => exact ⟨m + 1, by omega, by go_num, HE⟩
          case measure => simp [intOf]; omega
        · have en := en0
          rw [if_neg (fun h => hg h.2), List.append_nil] at en
          clear en0
          have HE : Hid (Sep w [rowB (Value.slice A1 l1 c1) (Tk.ownZ cC cR cS z (l.take (m + 1))), rowB (Value.slice A2 l2 c2) (Tk.nearZ cC cR cS cD z (l.take (m + 1))), box w.heap.size (.cells #[.int .i64 cC, .int .i64 cR, .int .i64 cS, .int .i64 cD, .int .i64 cV, .int .i64 cN, .int .i64 cQ] 23)] W2) := Lib.hid (by
            rw [eo, en]
            exact H.out)
          clear H eo en HB1 HB2 QC
          go_wp2
          go_roundw
          case rel => exact ⟨m + 1, by omega, by go_num, HE⟩
          case measure => simp [intOf]; omega
    · obtain rfl : m = l.length := by omega
      have t3 : ¬ (l.length : Int) < (l.length : Int) := by omega
      rw [List.take_length] at HP hl1 hl2
      subst hl1 hl2
      have HF := Lib.hid (lv_fin HP.out)
      have HG := Lib.hid (lv_fin HP.out.swap)
      clear HP RD FX OF GA ZO
      go_wp2
      exact bodyPost_ret (v := .tuple #[.slice A1 (Tk.ownZ cC cR cS z l).length c1, .slice A2 (Tk.nearZ cC cR cS cD z l).length c2]) (by simp [results, Tryz.results14, go_sem]) rfl ⟨_, _, _, _, rfl, HF.out.1, HG.out.1, HF.out.2⟩
end Go.Proofs.YtljaahemlcaffaaGreat
