/- Where nobody has power, moves or grows older, all stays. Written by wip/tools/gentk.py. -/
import Derived.Test.YtljaahemlcaffaaGreatK37
import Derived.Test.YtljaahemlcaffaaGreatK03
import Derived.Test.YtljaahemlcaffaaGreatK20
import Derived.Test.YtljaahemlcaffaaGreatK28
namespace Go.Proofs.YtljaahemlcaffaaGreat
open Go.RowKit Pz Sp
set_option linter.unusedVariables false
set_option linter.unusedSimpArgs false

/-- rows and results as phrases -/
def OwnBP (B : Nat) (l : List Bn) : Og.Ph := fun v W => ∃ A c, v = .slice A l.length c ∧ OwnB W B (.slice A l.length c) l
theorem ownB_lasts (B : Nat) (l : List Bn) : Og.Lasts grows (OwnBP B l) := fun _ _ _ ⟨A, c, e, h⟩ hr => ⟨A, c, e, h.below hr⟩
theorem ownB_noBool (B : Nat) (l : List Bn) : Og.NoBool (OwnBP B l) := fun _ _ ⟨_, _, h, _⟩ => by cases h
def LeftP (B : Nat) (r : List Bn × List Bn × List K3) : Og.Ph := fun v W => ∃ (B1 B2 B3 : Option Addr) (d1 d2 d3 : Nat), v = .agg #[.slice B1 r.1.length d1, .slice B2 r.2.1.length d2, .slice B3 r.2.2.length d3] ∧ (OwnB W B (.slice B1 r.1.length d1) r.1 ∧ OwnB W B (.slice B2 r.2.1.length d2) r.2.1 ∧ OwnN W B (.slice B3 r.2.2.length d3) r.2.2)
theorem left_lasts (B : Nat) (r : List Bn × List Bn × List K3) : Og.Lasts grows (LeftP B r) := fun _ _ _ ⟨B1, B2, B3, d1, d2, d3, e, h1, h2, h3⟩ hr => ⟨B1, B2, B3, d1, d2, d3, e, h1.below hr, h2.below hr, h3.below hr⟩
theorem left_noBool (B : Nat) (r : List Bn × List Bn × List K3) : Og.NoBool (LeftP B r) := fun _ _ ⟨_, _, _, _, _, _, h, _⟩ => by cases h
theorem left_call {P : Program} {f : FuncId} {args : Array Value} {W : World} {r : List Bn × List Bn × List K3} {B : Nat} (hB : B ≤ W.heap.size) (h : Calls P f args W (Left W r)) : Calls P f args W fun e V => ∃ v, e = .returned v ∧ grows.r W V ∧ LeftP B r v V :=
  h.mono fun e V ⟨B1, B2, B3, d1, d2, d3, h1, ⟨h2, h3, h4⟩, h5⟩ => ⟨_, h1, h5, B1, B2, B3, d1, d2, d3, rfl, h2.base hB, h3.base hB, h4.base hB⟩
namespace Tk
/-- without what moves, hurts and passes -/
def wo (b : Bn) : Bn := withoutB b 26
theorem wo_id (b : Bn) : (wo b).id = b.id := rfl
theorem un_wo {l : List Bn} (h : Un l) : Un (l.map wo) := by
  unfold Un
  rw [List.map_map, show Bn.id ∘ wo = Bn.id from rfl]
  exact h
theorem wo_bits {b : Bn} (h : 0 ≤ b.m ∧ b.m ≤ 31) : bitB (wo b).m 1 = false ∧ bitB (wo b).m 3 = false ∧ bitB (wo b).m 4 = false := by
  have e : (wo b).m = bits .andNot .i64 b.m 26 := rfl
  rw [e, bit_andNot _ _ (by decide), bit_andNot _ _ (by decide), bit_andNot _ _ (by decide), show bitB 26 1 = true by decide, show bitB 26 3 = true by decide, show bitB 26 4 = true by decide]
  simp
theorem wo_still {C R S D V : Int} (ok : Zn.Ok C R S D V) {b : Bn} (hm : Pz.may b = true) (hw : Zn.There C R (Zn.of C R S b.x b.y)) : ends C R S V (wo b) = (wo b, true) := by
  obtain ⟨_, _, x0, x1, y0, y1⟩ := Zn.of_yes ok hw
  have hb : 0 ≤ b.m ∧ b.m ≤ 31 := by
    simp only [Pz.may, Bool.and_eq_true] at hm
    exact (right_parts hm.1.2).1
  obtain ⟨b1, _, b4⟩ := wo_bits hb
  have ex : (wo b).x = b.x ∧ (wo b).y = b.y := by
    unfold wo withoutB
    dsimp only
    rw [show bitB 26 0 = false by decide]
    exact ⟨rfl, rfl⟩
  have e1 : Sy.move C R S V (wo b) = wo b := by
    unfold Sy.move Sy.push
    rw [b1]
    simp only [Bool.false_eq_true, if_false]
    rw [Sy.into_self (by rw [ex.1]; exact x0) (by rw [ex.1]; exact x1), Sy.into_self (by rw [ex.2]; exact y0) (by rw [ex.2]; exact y1)]
  unfold ends
  rw [e1]
  unfold Sy.age
  rw [b4]
  simp
theorem quiet_run {C R S D V : Int} (ok : Zn.Ok C R S D V) {U : List Bn} (hm : ∀ b ∈ U, Pz.may b = true) (hw : ∀ b ∈ U, Zn.There C R (Zn.of C R S b.x b.y)) : run C R S D V (-1) (U.map wo) [] [] = (sortL Bn.id (U.map wo), [], []) := by
  have h := run_quiet C R S D V (own := U.map wo) (fun b hb => by
    obtain ⟨c, hc, rfl⟩ := List.mem_map.1 hb
    have hb : 0 ≤ c.m ∧ c.m ≤ 31 := by
      have := hm c hc
      simp only [Pz.may, Bool.and_eq_true] at this
      exact (right_parts this.1.2).1
    exact (wo_bits hb).2.1) (fun b hb => by
    obtain ⟨c, hc, rfl⟩ := List.mem_map.1 hb
    exact wo_still ok (hm c hc) (hw c hc))
  rw [run_whole ok, h]
end Tk
theorem wo_fits {b : Bn} (h : b.Fits) : (Tk.wo b).Fits := by
  have f0 : Fit 0 := by unfold Fit; omega
  refine ⟨h.s, h.i, h.g, fit_andNot _ _, ?_, ?_, ?_, ?_, ?_, ?_, ?_⟩ <;> (unfold Tk.wo withoutB; dsimp only; split)
  all_goals first | exact f0 | exact h.x | exact h.y | exact h.vx | exact h.vy | exact h.h | exact h.p | exact h.l
set_option maxHeartbeats 8000000 in
set_option maxRecDepth 100000 in
theorem law_quiet (K : TkCt) (w : World) (c0C c0R c0S c0D c0V c0N c0Q : Int) (A : Option Addr) (qa : Nat) (l : List Bn) (R : RdB w w.heap.size A l) (hl : l.length ≤ qa ∧ qa ≤ 140737488351232) (hF : ∀ b ∈ l, b.Fits) :
    Calls Tryz.prog 8 #[.agg #[.int .i64 c0C, .int .i64 c0R, .int .i64 c0S, .int .i64 c0D, .int .i64 c0V, .int .i64 c0N, .int .i64 c0Q], .slice A l.length qa] w fun e w' => e = .returned (.bool true) ∧ Below w.heap.size w w' := by
  have MY := Lib.hid fun W => zmay_any c0C c0R c0S c0D c0V c0N c0Q W
  have ok := Zn.may_ok c0C c0R c0S c0D c0V
  have okb := Zn.may_okB c0C c0R c0S c0D c0V c0N c0Q
  have AW := Lib.hid K.awake
  generalize (Zn.mC c0C) = mC at *
  generalize (Zn.mC c0R) = mR at *
  generalize (Zn.mD c0S c0D) = mD at *
  generalize (Zn.mD c0S c0V) = mV at *
  generalize (Zn.mS c0S) = mS at *
  generalize (Zn.mN c0N) = mN at *
  generalize (Zn.mQ c0Q) = mQ at *
  have NW : Hid (∀ L W, Sep w L W → Calls Tryz.prog 10 #[.agg #[.int .i64 mC, .int .i64 mR, .int .i64 mS, .int .i64 mD, .int .i64 mV, .int .i64 mN, .int .i64 mQ]] W fun e W' => ∃ q, e = .returned (.tuple #[.pointer (some ⟨q, 0, none⟩), .int .i64 0]) ∧ Sep w (box q (.cells #[.int .i64 mC, .int .i64 mR, .int .i64 mS, .int .i64 mD, .int .i64 mV, .int .i64 mN, .int .i64 mQ] 68) :: L) W') := Lib.hid fun L W hW => (new_yes mC mR mS mD mV mN mQ W okb).mono fun e W' ⟨q, a, b, c, d⟩ => ⟨q, a, sep_map' hW d c b⟩
  have LVC := Lib.hid fun V (hV : Below w.heap.size w V) => living_any (c := qa) mC mR mS mD mV mN mQ ok ((R.below hV).more hV.size) (by omega) hF
  have H0 : Hid (Sep w [box w.heap.size (.cells #[.int .i64 c0C, .int .i64 c0R, .int .i64 c0S, .int .i64 c0D, .int .i64 c0V, .int .i64 c0N, .int .i64 c0Q] 23)] (w.alloc (.cells #[.int .i64 c0C, .int .i64 c0R, .int .i64 c0S, .int .i64 c0D, .int .i64 c0V, .int .i64 c0N, .int .i64 c0Q] 23))) := Lib.hid (sep_box (sep_new w) _)
  clear okb R hF hl
  generalize l.length = nl at *
  go_enter Tryz.func8, Tryz.ntmps8
  go_upto_region 1 with fail
  generalize w.alloc (.cells #[.int .i64 c0C, .int .i64 c0R, .int .i64 c0S, .int .i64 c0D, .int .i64 c0V, .int .i64 c0N, .int .i64 c0Q] 23) = w0 at *
  obtain ⟨⟨g0, g1, g2, g3, g4, g5, g6⟩, ⟨f0, f1, f2, f3, f4, f5, f6⟩⟩ := box7 (H0.out.held 0 rfl)
  go_upto_region 2 with (go_at_call 9; with_reducible refine (MY.out _).mono ?_; rintro e w1 ⟨rfl, b1⟩; clear MY g0 g1 g2 g3 g4 g5 g6 f0 f1 f2 f3 f4 f5 f6; have H1 := Lib.hid (H0.out.below b1); clear H0 b1; obtain ⟨⟨g0, g1, g2, g3, g4, g5, g6⟩, ⟨f0, f1, f2, f3, f4, f5, f6⟩⟩ := box7 (H1.out.held 0 rfl))
  have HS := ((((((H1.out.cell (o := 0) (.int .i64 mC)).cell (o := 1) (.int .i64 mR)).cell (o := 2) (.int .i64 mS)).cell (o := 3) (.int .i64 mD)).cell (o := 4) (.int .i64 mV)).cell (o := 5) (.int .i64 mN)).cell (o := 6) (.int .i64 mQ)
  simp only [List.setIfInBounds_toArray, List.set_cons_succ, List.set_cons_zero] at HS
  replace HS := Lib.hid HS
  clear g0 g1 g2 g3 g4 g5 g6 f0 f1 f2 f3 f4 f5 f6 H1
  generalize (((((((w1.setCell ⟨w.heap.size, 0, none⟩ (.int .i64 mC)).setCell ⟨w.heap.size, 1, none⟩ (.int .i64 mR)).setCell ⟨w.heap.size, 2, none⟩ (.int .i64 mS)).setCell ⟨w.heap.size, 3, none⟩ (.int .i64 mD)).setCell ⟨w.heap.size, 4, none⟩ (.int .i64 mV)).setCell ⟨w.heap.size, 5, none⟩ (.int .i64 mN)).setCell ⟨w.heap.size, 6, none⟩ (.int .i64 mQ)) = w2 at *
  obtain ⟨⟨g0, g1, g2, g3, g4, g5, g6⟩, _⟩ := box7 (HS.out.held 0 rfl)
  go_upto_region 3 with (go_at_call 10; with_reducible refine (NW.out _ _ HS.out).mono ?_; rintro e w3 ⟨q, rfl, h3⟩; clear NW HS g0 g1 g2 g3 g4 g5 g6; have H3 := Lib.hid h3; clear h3; obtain ⟨⟨g0, g1, g2, g3, g4, g5, g6⟩, _⟩ := box7 (H3.out.held 1 rfl))
  go_upto_region 4 with (go_at_call 11; with_reducible refine (LVC.out _ H3.out.bel).mono ?_; rintro e w4 ⟨U, Au, cu, rfl, ho, hlv, hU, b4⟩; clear LVC g0 g1 g2 g3 g4 g5 g6; have H4 := Lib.hid (sep_row H3.out b4 ho); have HL := Lib.hid hlv; clear H3 ho b4 hlv)
  have H5 : Hid (Sep w [rowB (.slice none (0 : Nat) 0) ((U.take 0).map Tk.wo), rowB (.slice Au U.length cu) U, box q (.cells #[.int .i64 mC, .int .i64 mR, .int .i64 mS, .int .i64 mD, .int .i64 mV, .int .i64 mN, .int .i64 mQ] 68), box w.heap.size (.cells #[.int .i64 mC, .int .i64 mR, .int .i64 mS, .int .i64 mD, .int .i64 mV, .int .i64 mN, .int .i64 mQ] 23)] w4) := Lib.hid (row_none bnE 42 11 H4.out)
  clear H4
  have WO := Lib.hid fun b W => rwithout_any b 26 (by unfold Fit; decide) W
  have tU : (U.length : Int) ≤ 60 := by omega
  go_wp2
  go_loopw [7, 8] (fun v s wr => ∃ (m : Nat), m ≤ U.length ∧ s = .int .i64 m ∧ Hid (Sep w [rowB (v) ((U.take m).map Tk.wo), rowB (.slice Au U.length cu) U, box q (.cells #[.int .i64 mC, .int .i64 mR, .int .i64 mS, .int .i64 mD, .int .i64 mV, .int .i64 mN, .int .i64 mQ] 68), box w.heap.size (.cells #[.int .i64 mC, .int .i64 mR, .int .i64 mS, .int .i64 mD, .int .i64 mV, .int .i64 mN, .int .i64 mQ] 23)] wr)) (fun _ s _ => U.length - (intOf s).toNat)
  case atStart => exact ⟨0, Nat.zero_le _, rfl, H5⟩
  case round =>
    clear H5
    obtain ⟨m, hm, rfl, HP⟩ := hrel
    obtain ⟨Av, cv, hv⟩ := (HP.out.rows 0 rfl).form
    obtain ⟨lm, hlm⟩ : ∃ lm, lm = ((U.take m).map Tk.wo).length := ⟨_, rfl⟩
    rw [← hlm] at hv
    subst hv
    by_cases hmu : m < U.length
    · have t3 : (m : Int) < (U.length : Int) := by omega
      have hx := List.getElem?_eq_getElem hmu
      obtain ⟨g2, o2, e2, _, ⟨z0, z1, z2, z3, z4, z5, z6, z7, z8, z9, z10⟩⟩ := RdB.of_own (HP.out.rows 1 rfl) m _ hx
      cases e2
      have WX := Lib.hid fun W => WO.out U[m] W
      have TK : (U.take m).map Tk.wo ++ [Tk.wo U[m]] = (U.take (m + 1)).map Tk.wo := by rw [List.take_succ_eq_append_getElem hmu, List.map_append]; rfl
      have PU : Hid (∀ W, Sep w [rowB (.slice Av lm cv) ((U.take m).map Tk.wo), rowB (.slice (some ⟨g2, o2, none⟩) U.length cu) U, box q (.cells #[.int .i64 mC, .int .i64 mR, .int .i64 mS, .int .i64 mD, .int .i64 mV, .int .i64 mN, .int .i64 mQ] 68), box w.heap.size (.cells #[.int .i64 mC, .int .i64 mR, .int .i64 mS, .int .i64 mD, .int .i64 mV, .int .i64 mN, .int .i64 mQ] 23)] W → ∃ v' V, (Builtin.append_ #[24, 24] 24 #[.slice Av lm cv, .slice (some ⟨W.heap.size, 0, none⟩) 1 1]).run Tryz.prog (W.alloc (.cells #[.int .i64 (Tk.wo U[m]).s, .int .i64 (Tk.wo U[m]).i, .int .i64 (Tk.wo U[m]).g, .int .i64 (Tk.wo U[m]).m, .int .i64 (Tk.wo U[m]).x, .int .i64 (Tk.wo U[m]).y, .int .i64 (Tk.wo U[m]).vx, .int .i64 (Tk.wo U[m]).vy, .int .i64 (Tk.wo U[m]).h, .int .i64 (Tk.wo U[m]).p, .int .i64 (Tk.wo U[m]).l] 42)) = .ok v' V ∧ Hid (Sep w [rowB (v') ((U.take (m + 1)).map Tk.wo), rowB (.slice (some ⟨g2, o2, none⟩) U.length cu) U, box q (.cells #[.int .i64 mC, .int .i64 mR, .int .i64 mS, .int .i64 mD, .int .i64 mV, .int .i64 mN, .int .i64 mQ] 68), box w.heap.size (.cells #[.int .i64 mC, .int .i64 mR, .int .i64 mS, .int .i64 mD, .int .i64 mV, .int .i64 mN, .int .i64 mQ] 23)] V)) := Lib.hid fun W hW => by
        obtain ⟨v', V, h1, h2⟩ := ent_push hW (Tk.wo U[m]) (by rw [List.length_map, List.length_take]; omega)
        rw [TK] at h2
        exact ⟨v', V, h1, Lib.hid h2⟩
      clear TK WO hx K HL ok hlm
      replace WX : Hid (∀ W, Calls Tryz.prog 27 #[U[m].val, .int .i64 26] W fun e w' => e = .returned (Tk.wo U[m]).val ∧ Below W.heap.size W w') := WX
      simp only [Bn.val] at WX
      generalize Tk.wo U[m] = y at *
      obtain ⟨ys, yi, yg, ym, yx, yy, yvx, yvy, yh, yp, yl⟩ := y
      dsimp only at WX PU
      generalize U[m].s = xs at *
      generalize U[m].i = xi at *
      generalize U[m].g = xg at *
      generalize U[m].m = xm at *
      generalize U[m].x = xx at *
      generalize U[m].y = xy at *
      generalize U[m].vx = xvx at *
      generalize U[m].vy = xvy at *
      generalize U[m].h = xh at *
      generalize U[m].p = xp at *
      generalize U[m].l = xl at *
      go_wp2_with (first
        | (go_at_call 27; with_reducible refine (WX.out _).mono ?_; rintro e w6 ⟨rfl, b6⟩; clear WX z0 z1 z2 z3 z4 z5 z6 z7 z8 z9 z10; obtain ⟨v', V, hr, HN⟩ := PU.out _ (HP.out.below b6); have HR := Lib.hid hr; clear PU HP b6 hr)
        | (at_builtin; refine wpList_append _ rfl (.tmp 26) (.tmp 32) _ _ rfl _ _ rfl rfl _ _ HR.out ?_))
      go_roundw
      case rel => exact ⟨m + 1, by omega, by go_num, HN⟩
      case measure => simp [intOf]; omega
    · obtain rfl : m = U.length := by omega
      have t3 : ¬ ((U.length : Int) < (U.length : Int)) := by omega
      rw [List.take_length] at HP
      rw [List.take_length] at hlm
      clear WO
      obtain ⟨T, hT⟩ : ∃ T, T = U.map Tk.wo := ⟨_, rfl⟩
      have uT : Tk.Un T := by rw [hT]; exact Tk.un_wo HL.out.un
      have lT : T.length ≤ 60 := by rw [hT, List.length_map]; exact hU
      have fT : ∀ b ∈ T, b.Fits := by
        rw [hT]
        intro b hb
        obtain ⟨c, hc, rfl⟩ := List.mem_map.1 hb
        exact wo_fits (HL.out.fits c hc)
      have rT := Tk.quiet_run ok HL.out.may HL.out.there
      rw [← hT] at HP rT hlm
      subst hlm
      have KR : Hid (∀ W, Sep w [rowB (.slice Av T.length cv) T, rowB (.slice Au U.length cu) U, box q (.cells #[.int .i64 mC, .int .i64 mR, .int .i64 mS, .int .i64 mD, .int .i64 mV, .int .i64 mN, .int .i64 mQ] 68), box w.heap.size (.cells #[.int .i64 mC, .int .i64 mR, .int .i64 mS, .int .i64 mD, .int .i64 mV, .int .i64 mN, .int .i64 mQ] 23)] W → Calls Tryz.prog 13 #[.pointer (some ⟨q, 0, none⟩), .int .i64 (-1), .slice Av T.length cv, .slice none 0 0, .slice none 0 0] W fun e W' => ∃ (B1 B2 B3 : Option Addr) (d1 d2 d3 : Nat), e = .returned (.agg #[.slice B1 (sortL Bn.id T).length d1, .slice B2 0 d2, .slice B3 0 d3]) ∧ OwnB W' W.heap.size (.slice B1 (sortL Bn.id T).length d1) (sortL Bn.id T) ∧ Below W.heap.size W W') := Lib.hid fun W hW => by
        have := K.run mC mR mS mD mV mN mQ (-1) W q Av none none cv 0 0 T [] [] (hW.held 2 rfl) ok (by unfold Fit; omega) ⟨RdB.of_own (hW.rows 0 rfl), RdB.nil _ _ _, RdC.nil _ _ _, by omega, by simp, by simp, fT, by simp, by simp⟩ (.inl uT)
        rw [rT] at this
        exact this.mono fun e W' ⟨B1, B2, B3, d1, d2, d3, h1, ⟨h2, _, _⟩, h5⟩ => ⟨B1, B2, B3, d1, d2, d3, h1, h2, h5⟩
      clear K rT hT uT fT HL ok
      have SO0 := fun W (hR : RdB W W.heap.size Av T) => rsorted_any (cap := cv) hR (by omega)
      have lS : (sortL Bn.id T).length = T.length := (Sy.sort_perm T).length_eq
      generalize sortL Bn.id T = S at *
      have SO : Hid (∀ W, RdB W W.heap.size Av T → Calls Tryz.prog 15 #[.slice Av T.length cv] W fun e W' => ∃ v, e = .returned v ∧ grows.r W W' ∧ OwnBP 0 S v W') := Lib.hid fun W hR => (SO0 W hR).mono fun e W' ⟨⟨A', c', e1, e2⟩, e3⟩ => ⟨_, e1, e3, A', c', by rw [lS], by rw [lS]; exact e2.base (Nat.zero_le _)⟩
      clear SO0
      have tS : (S.length : Int) ≤ 60 := by omega
      have tS2 : S.length ≤ 140737488351232 := by omega
      clear lS
      go_upto_region 10 with (go_at_call 13; with_reducible refine (KR.out _ HP.out).mono ?_; rintro e w6 ⟨B1, B2, B3, d1, d2, d3, rfl, ho, b6⟩; clear KR; have H6 := Lib.hid (sep_row HP.out b6 ho); clear HP ho b6)
      have H7 := Lib.hid (sep_box H6.out (.cells #[.slice B1 S.length d1, .slice B2 0 d2, .slice B3 0 d3] 35))
      clear H6
      generalize w6.alloc (.cells #[.slice B1 S.length d1, .slice B2 0 d2, .slice B3 0 d3] 35) = w7 at *
      obtain ⟨⟨r0, r1, r2⟩, _⟩ := Bx.b3 (H7.out.held 0 rfl)
      have t7 : w6.heap.size < w7.heap.size := Bx.lt (H7.out.held 0 rfl)
      have RS : RdB w7 w7.heap.size B1 S := RdB.of_own (H7.out.rows 1 rfl)
      have RT : RdB w7 w7.heap.size Av T := RdB.of_own (H7.out.rows 2 rfl)
      have SAME : Hid (∀ (p : Lat grows w7) (v : Value), OwnBP 0 S v p.W → Calls Tryz.prog 16 #[.slice B1 S.length d1, v] p.W fun e W' => e = .returned (.bool true) ∧ grows.r p.W W') := Lib.hid fun p v ⟨A', c', hv, ho⟩ => by
        subst hv
        exact rsame_yes ((RS.below (zlat_below p)).more (zlat_below p).size) (RdB.of_own ho) tS2
      have SRT := Lib.hid fun p : Lat grows w7 => SO.out p.W ((RT.below (zlat_below p)).more (zlat_below p).size)
      clear SO RS RT
      have wz : IntKind.i64.wrap 0 = 0 := by decide
      refine Og.grow 22 (by kernel_rfl) (by kernel_rfl) fun hc hf => ?_
      simp only [List.take_succ_cons, List.take_zero, List.drop_succ_cons, List.drop_zero]
      iterate 6 (refine Og.det [] rfl (fun J hJ => ?_); go_simp; refine hJ _ _ ?_; clear hJ J)
      refine Og.such 43 (OwnBP 0 S) [] rfl (ownB_lasts _ _) (ownB_noBool _ _) (fun J hJ => ?_)
      go_simp
      refine ⟨fun p => SRT.out p, hJ _ _ ?_⟩
      clear hJ J
      refine Og.det [(43, OwnBP 0 S)] rfl (fun J hJ => ?_)
      go_simp
      refine ⟨_, fun p v hv => SAME.out p v hv, hJ _ _ ?_⟩
      clear hJ J
      iterate 12 (refine Og.det [] rfl (fun J hJ => ?_); go_simp; refine hJ _ _ ?_; clear hJ J)
      refine Og.det [] rfl (fun J hJ => ?_)
      go_simp
      with_reducible refine ⟨_, fun p => Og.lays (AW.out p.W), hJ _ _ ?_⟩
      clear hJ J
      iterate 1 (refine Og.det [] rfl (fun J hJ => ?_); go_simp; refine hJ _ _ ?_; clear hJ J)
      clear hc hf
      refine Og.fin fun W hW => ?_
      simp only [Og.opened_cons, Og.opened_nil]
      intro v43 hv43
      have HB := Lib.hid (H7.out.bel.trans (hW.mono H7.out.bel.size))
      clear hv43 H7 hW SRT SAME AW
      go_wp2
      go_ret
      exact ⟨rfl, HB.out⟩
end Go.Proofs.YtljaahemlcaffaaGreat
