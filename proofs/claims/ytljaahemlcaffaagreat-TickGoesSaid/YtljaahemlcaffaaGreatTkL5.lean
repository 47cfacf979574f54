/- Who stays stands in the zone, who goes stands beside it; what is left may be. -/
import Derived.Test.YtljaahemlcaffaaGreatK42
import Derived.Test.YtljaahemlcaffaaGreatK39
import Derived.Test.YtljaahemlcaffaaGreatK30
import Derived.Test.YtljaahemlcaffaaGreatK29
import Derived.Test.YtljaahemlcaffaaGreatK13
namespace Go.Proofs.YtljaahemlcaffaaGreat
open Go.RowKit Pz Sp
set_option linter.unusedVariables false
set_option linter.unusedSimpArgs false

namespace Tk
/-- what a tick of a zone leaves lies where it ought, and may be -/
structure GoesP (C R S z : Int) (r : List Bn × List Bn × List K3) : Prop where
  stay : ∀ b ∈ r.1, may b = true ∧ Zn.of C R S b.x b.y = z
  goes : ∀ b ∈ r.2.1, may b = true ∧ Zn.of C R S b.x b.y ∈ Zn.beside C R z
  l1 : r.1.length ≤ 1000
  l2 : r.2.1.length ≤ 1000
theorem run_goesP {C R S D V z : Int} (ok : Zn.Ok C R S D V) (hz : 0 ≤ z ∧ z < C * R) {P near : List Bn} {O : List Cn} (hP : ∀ b ∈ P, At C R S z b) (hO : ∀ c ∈ O, mayCmd c = true) (lP : P.length ≤ 60) (lO : O.length ≤ 40) : GoesP C R S z (run C R S D V z P near O) := by
  have hg := run_goes (near := near) ok hz.1 hP hO
  have hl := run_len C R S D V z P near O
  refine ⟨?_, ?_, by omega, by omega⟩
  · intro b hb
    unfold run at hb
    rw [if_pos ⟨by omega, hz.2⟩] at hb
    obtain ⟨h1, h2⟩ := List.mem_filter.1 hb
    obtain ⟨g1, g2, g3⟩ := hg b h1
    unfold here at h2
    simp only [Bool.or_eq_true, decide_eq_true_eq] at h2
    exact ⟨g1, by omega⟩
  · intro b hb
    unfold run at hb
    rw [if_pos ⟨by omega, hz.2⟩] at hb
    obtain ⟨h1, h2⟩ := List.mem_filter.1 hb
    obtain ⟨g1, g2, g3⟩ := hg b h1
    unfold here at h2
    simp only [Bool.not_eq_true', Bool.or_eq_false_iff, decide_eq_false_iff_not] at h2
    exact ⟨g1, g3.resolve_left h2.2⟩
theorem may_mask {b : Bn} (h : may b = true) : Fit b.m := by
  simp only [may, Bool.and_eq_true] at h
  have := (right_parts h.1.2).1
  unfold Fit
  omega
theorem may_place {b : Bn} (h : may b = true) : I b.x ∧ I b.y := by
  simp only [may, Bool.and_eq_true] at h
  obtain ⟨_, h1, h2, _⟩ := right_parts h.1.2
  rw [h.2] at h1 h2
  simp only [inB, if_true, Bool.and_eq_true, decide_eq_true_eq] at h1 h2
  unfold I
  omega
end Tk
/-- those that live -/
def LivP (B : Nat) (C R S : Int) : Og.Ph := fun v W => ∃ (U : List Bn) (A : Option Addr) (c : Nat), v = .slice A U.length c ∧ OwnB W B (.slice A U.length c) U ∧ Lv C R S U ∧ U.length ≤ 60
theorem liv_lasts (B : Nat) (C R S : Int) : Og.Lasts grows (LivP B C R S) := fun _ _ _ ⟨U, A, c, e, h1, h2⟩ hr => ⟨U, A, c, e, h1.below hr, h2⟩
theorem liv_noBool (B : Nat) (C R S : Int) : Og.NoBool (LivP B C R S) := fun _ _ ⟨_, _, _, h, _⟩ => by cases h
/-- those of a zone -/
def PtP (B : Nat) (C R S z : Int) : Og.Ph := fun v W => ∃ (P : List Bn) (n : Nat) (A A2 : Option Addr) (c c2 : Nat), v = .tuple #[.slice A P.length c, .slice A2 n c2] ∧ OwnB W B (.slice A P.length c) P ∧ Lv C R S P ∧ (∀ b ∈ P, Tk.At C R S z b) ∧ P.length ≤ 60
theorem pt_lasts (B : Nat) (C R S z : Int) : Og.Lasts grows (PtP B C R S z) := fun _ _ _ ⟨P, n, A, A2, c, c2, e, h1, h2⟩ hr => ⟨P, n, A, A2, c, c2, e, h1.below hr, h2⟩
theorem pt_noBool (B : Nat) (C R S z : Int) : Og.NoBool (PtP B C R S z) := fun _ _ ⟨_, _, _, _, _, _, h, _⟩ => by cases h
/-- those of a zone, taken out -/
def ZnP (B : Nat) (C R S z : Int) : Og.Ph := fun v W => ∃ (P : List Bn) (A : Option Addr) (c : Nat), v = .slice A P.length c ∧ OwnB W B (.slice A P.length c) P ∧ Lv C R S P ∧ (∀ b ∈ P, Tk.At C R S z b) ∧ P.length ≤ 60
theorem zn_lasts (B : Nat) (C R S z : Int) : Og.Lasts grows (ZnP B C R S z) := fun _ _ _ ⟨P, A, c, e, h1, h2⟩ hr => ⟨P, A, c, e, h1.below hr, h2⟩
theorem zn_noBool (B : Nat) (C R S z : Int) : Og.NoBool (ZnP B C R S z) := fun _ _ ⟨_, _, _, h, _⟩ => by cases h
/-- a row of which nothing is asked -/
def SlP : Og.Ph := fun v _ => ∃ (n : Nat) (A : Option Addr) (c : Nat), v = .slice A n c
theorem sl_lasts : Og.Lasts grows SlP := fun _ _ _ h _ => h
theorem sl_noBool : Og.NoBool SlP := fun _ _ ⟨_, _, _, h⟩ => by cases h
/-- commands that may be -/
def OrdP (B : Nat) (P : List Bn) : Og.Ph := fun v W => ∃ (O : List Cn) (A : Option Addr) (c : Nat), v = .slice A O.length c ∧ OwnC W B (.slice A O.length c) O ∧ Od P O ∧ O.length ≤ 40
theorem ord_lasts (B : Nat) (P : List Bn) : Og.Lasts grows (OrdP B P) := fun _ _ _ ⟨O, A, c, e, h1, h2⟩ hr => ⟨O, A, c, e, h1.below hr, h2⟩
theorem ord_noBool (B : Nat) (P : List Bn) : Og.NoBool (OrdP B P) := fun _ _ ⟨_, _, _, h, _⟩ => by cases h
/-- what a tick of a zone leaves -/
def RunP (B : Nat) (C R S z : Int) : Og.Ph := fun v W => ∃ rr, Tk.GoesP C R S z rr ∧ LeftP B rr v W
theorem runP_lasts (B : Nat) (C R S z : Int) : Og.Lasts grows (RunP B C R S z) := fun v W W' ⟨rr, h1, h2⟩ hr => ⟨rr, h1, left_lasts B rr v W W' h2 hr⟩
theorem runP_noBool (B : Nat) (C R S z : Int) : Og.NoBool (RunP B C R S z) := fun b W ⟨rr, _, h⟩ => left_noBool B rr b W h
theorem Lv.part {C R S z : Int} {U : List Bn} (h : Lv C R S U) : Lv C R S (Tk.ownZ C R S z U) := ⟨(List.filter_sublist.map Bn.id).nodup h.un, fun b hb => h.may b (List.mem_filter.1 hb).1, fun b hb => h.there b (List.mem_filter.1 hb).1, fun b hb => h.fits b (List.mem_filter.1 hb).1⟩
set_option maxHeartbeats 16000000 in
set_option maxRecDepth 100000 in
theorem law_goes (K : TkCt) (w : World) (c0C c0R c0S c0D c0V c0N c0Q z : Int) (A1 A2 A3 : Option Addr) (q1 q2 q3 : Nat) (own near : List Bn) (cs : List Cn) (hG : Given w A1 A2 A3 q1 q2 q3 own near cs) (hz : Fit z) :
    Calls Tryz.prog 7 #[.agg #[.int .i64 c0C, .int .i64 c0R, .int .i64 c0S, .int .i64 c0D, .int .i64 c0V, .int .i64 c0N, .int .i64 c0Q, .int .i64 z, .slice A1 own.length q1, .slice A2 near.length q2, .slice A3 cs.length q3]]  w fun e w' => e = .returned (.bool true) ∧ Below w.heap.size w w' := by
  have HD := Lib.hid fun V (hV : Below w.heap.size w V) => hG.hand.below hV
  have FW : Hid (∀ V, Calls Tryz.prog 18 #[.agg #[.int .i64 c0C, .int .i64 c0R, .int .i64 c0S, .int .i64 c0D, .int .i64 c0V, .int .i64 c0N, .int .i64 c0Q, .int .i64 z, .slice A1 own.length q1, .slice A2 near.length q2, .slice A3 cs.length q3]] V fun e V' => e = .returned (.agg #[.int .i64 (Zn.mC c0C), .int .i64 (Zn.mC c0R), .int .i64 (Zn.mS c0S), .int .i64 (Zn.mD c0S c0D), .int .i64 (Zn.mD c0S c0V), .int .i64 (Zn.mN c0N), .int .i64 (Zn.mQ c0Q), .int .i64 z, .slice A1 (own.take 40).length q1, .slice A2 (near.take 40).length q2, .slice A3 (cs.take 40).length q3]) ∧ Below V.heap.size V V') := Lib.hid fun V => by
    have := few15_any c0C c0R c0S c0D c0V c0N c0Q z (A1 := A1) (A2 := A2) (A3 := A3) hG.c1 hG.c2 hG.c3 V
    rw [List.length_take, List.length_take, List.length_take, Nat.min_comm 40, Nat.min_comm 40, Nat.min_comm 40]
    exact this
  have ok := Zn.may_ok c0C c0R c0S c0D c0V
  have okb := Zn.may_okB c0C c0R c0S c0D c0V c0N c0Q
  have AW := Lib.hid K.awake
  generalize (Zn.mC c0C) = mC at *
  generalize (Zn.mC c0R) = mR at *
  generalize (Zn.mD c0S c0D) = mD at *
  generalize (Zn.mD c0S c0V) = mV at *
  generalize (Zn.mS c0S) = mS at *
  generalize (Zn.mN c0N) = mN at *
  generalize (Zn.mQ c0Q) = mQ at *
  have NW : Hid (∀ L W, Sep w L W → Calls Tryz.prog 10 #[.agg #[.int .i64 mC, .int .i64 mR, .int .i64 mS, .int .i64 mD, .int .i64 mV, .int .i64 mN, .int .i64 mQ]] W fun e W' => ∃ q, e = .returned (.tuple #[.pointer (some ⟨q, 0, none⟩), .int .i64 0]) ∧ Sep w (box q (.cells #[.int .i64 mC, .int .i64 mR, .int .i64 mS, .int .i64 mD, .int .i64 mV, .int .i64 mN, .int .i64 mQ] 68) :: L) W') := Lib.hid fun L W hW => (new_yes mC mR mS mD mV mN mQ W okb).mono fun e W' ⟨q, a, b, c, d⟩ => ⟨q, a, sep_map' hW d c b⟩
  clear hG okb
  generalize own.length = n1 at *
  generalize near.length = n2 at *
  generalize cs.length = n3 at *
  generalize own.take 40 = x1 at *
  generalize near.take 40 = x2 at *
  generalize cs.take 40 = x3 at *
  have LVC := Lib.hid fun V (hV : Below w.heap.size w V) => living_any (c := q1) mC mR mS mD mV mN mQ ok (HD.out V hV).r1 (by have := (HD.out V hV).l1; omega) (HD.out V hV).f1
  have lx2 : x2.length ≤ 1000 := (HD.out w (Below.refl _ _)).l2
  have H0 : Hid (Sep w [box w.heap.size (.cells #[.int .i64 c0C, .int .i64 c0R, .int .i64 c0S, .int .i64 c0D, .int .i64 c0V, .int .i64 c0N, .int .i64 c0Q, .int .i64 z, .slice A1 n1 q1, .slice A2 n2 q2, .slice A3 n3 q3] 48)] (w.alloc (.cells #[.int .i64 c0C, .int .i64 c0R, .int .i64 c0S, .int .i64 c0D, .int .i64 c0V, .int .i64 c0N, .int .i64 c0Q, .int .i64 z, .slice A1 n1 q1, .slice A2 n2 q2, .slice A3 n3 q3] 48))) := Lib.hid (sep_box (sep_new w) _)
  go_enter Tryz.func7, Tryz.ntmps7
  go_upto_region 1 with fail
  generalize w.alloc (.cells #[.int .i64 c0C, .int .i64 c0R, .int .i64 c0S, .int .i64 c0D, .int .i64 c0V, .int .i64 c0N, .int .i64 c0Q, .int .i64 z, .slice A1 n1 q1, .slice A2 n2 q2, .slice A3 n3 q3] 48) = w0 at *
  obtain ⟨⟨k0, k1, k2, k3, k4, k5, k6, k7, k8, k9, k10⟩, ⟨f0, f1, f2, f3, f4, f5, f6, f7, f8, f9, f10⟩⟩ := Bx.b11 (H0.out.held 0 rfl)
  go_upto_region 2 with (go_at_call 18; with_reducible refine (FW.out _).mono ?_; rintro e w1 ⟨rfl, b1⟩; clear FW k0 k1 k2 k3 k4 k5 k6 k7 k8 k9 k10 f0 f1 f2 f3 f4 f5 f6 f7 f8 f9 f10; have H1 := Lib.hid (H0.out.below b1); clear H0 b1; obtain ⟨⟨k0, k1, k2, k3, k4, k5, k6, k7, k8, k9, k10⟩, ⟨f0, f1, f2, f3, f4, f5, f6, f7, f8, f9, f10⟩⟩ := Bx.b11 (H1.out.held 0 rfl))
  have HS := Lib.hid (H1.out.set11 (.int .i64 mC) (.int .i64 mR) (.int .i64 mS) (.int .i64 mD) (.int .i64 mV) (.int .i64 mN) (.int .i64 mQ) (.int .i64 z) (.slice A1 x1.length q1) (.slice A2 x2.length q2) (.slice A3 x3.length q3))
  clear k0 k1 k2 k3 k4 k5 k6 k7 k8 k9 k10 f0 f1 f2 f3 f4 f5 f6 f7 f8 f9 f10 H1
  generalize (((((((((((w1.setCell ⟨w.heap.size, 0, none⟩ (.int .i64 mC)).setCell ⟨w.heap.size, 1, none⟩ (.int .i64 mR)).setCell ⟨w.heap.size, 2, none⟩ (.int .i64 mS)).setCell ⟨w.heap.size, 3, none⟩ (.int .i64 mD)).setCell ⟨w.heap.size, 4, none⟩ (.int .i64 mV)).setCell ⟨w.heap.size, 5, none⟩ (.int .i64 mN)).setCell ⟨w.heap.size, 6, none⟩ (.int .i64 mQ)).setCell ⟨w.heap.size, 7, none⟩ (.int .i64 z)).setCell ⟨w.heap.size, 8, none⟩ (.slice A1 x1.length q1)).setCell ⟨w.heap.size, 9, none⟩ (.slice A2 x2.length q2)).setCell ⟨w.heap.size, 10, none⟩ (.slice A3 x3.length q3)) = w2 at *
  obtain ⟨⟨k0, k1, k2, k3, k4, k5, k6, k7, k8, k9, k10⟩, _⟩ := Bx.b11 (HS.out.held 0 rfl)
  go_upto_region 3 with (go_at_call 10; with_reducible refine (NW.out _ _ HS.out).mono ?_; rintro e w3 ⟨q, rfl, h3⟩; clear NW HS k0 k1 k2 k3 k4 k5 k6 k7 k8 k9 k10; have H3 := Lib.hid h3; clear h3; obtain ⟨⟨k0, k1, k2, k3, k4, k5, k6, k7, k8, k9, k10⟩, _⟩ := Bx.b11 (H3.out.held 1 rfl))
  by_cases hbad : z < 0 ∨ mC * mR ≤ z
  · have CN : Hid (∀ p : Lat grows w3, Calls Tryz.prog 21 #[.pointer (some ⟨q, 0, none⟩)] p.W fun e W' => e = .returned (.int .i64 (mC * mR)) ∧ Below p.W.heap.size p.W W') := Lib.hid fun p => count_any q mC mR mS mD mV mN mQ p.W (MapAt.below (H3.out.held 0 rfl) (zlat_below p)) ok
    have HB := Lib.hid H3.out.bel
    have lw := Bx.lt (H3.out.held 1 rfl)
    clear H3 HD LVC K
    have fin : ∀ W, Below w3.heap.size w3 W → Below w.heap.size w W := fun W h => HB.out.trans (h.mono HB.out.size)
    by_cases hz0 : z < 0
    · refine Og.grow 14 (by kernel_rfl) (by kernel_rfl) fun hc hf => ?_
      simp only [List.take_succ_cons, List.take_zero, List.drop_succ_cons, List.drop_zero]
      repeat (refine Og.det [] rfl (fun J hJ => ?_); go_simp; refine hJ _ _ ?_; clear hJ J)
      refine Og.fin fun W hW => ?_
      simp only [Og.opened_nil]
      replace HB := Lib.hid (fin W hW)
      clear hc hf hW k0 k1 k2 k3 k4 k5 k6 k7 k8 k9 k10 fin
      go_wp2_with (go_at_call 17; with_reducible refine (AW.out _).mono ?_; rintro e w10 ⟨rfl, b10⟩; clear AW; have HF := Lib.hid (HB.out.trans (b10.mono HB.out.size)); clear HB b10)
      go_ret
      exact ⟨rfl, HF.out⟩
    · have hz1 : mC * mR ≤ z := by omega
      refine Og.grow 14 (by kernel_rfl) (by kernel_rfl) fun hc hf => ?_
      simp only [List.take_succ_cons, List.take_zero, List.drop_succ_cons, List.drop_zero]
      repeat (refine Og.det [] rfl (fun J hJ => ?_); go_simp; first | (refine hJ _ _ ?_; clear hJ J) | (with_reducible refine ⟨_, fun p => Og.lays (CN.out p), hJ _ _ ?_⟩; clear hJ J))
      refine Og.fin fun W hW => ?_
      simp only [Og.opened_nil]
      replace HB := Lib.hid (fin W hW)
      clear hc hf hW k0 k1 k2 k3 k4 k5 k6 k7 k8 k9 k10 fin CN
      go_wp2_with (go_at_call 17; with_reducible refine (AW.out _).mono ?_; rintro e w10 ⟨rfl, b10⟩; clear AW; have HF := Lib.hid (HB.out.trans (b10.mono HB.out.size)); clear HB b10)
      go_ret
      exact ⟨rfl, HF.out⟩
  have hz0 : ¬ z < 0 := by omega
  have hz1 : ¬ mC * mR ≤ z := by omega
  have hzz : Zn.There mC mR z := ⟨by omega, by omega⟩
  clear hbad
  have CN : Hid (∀ p : Lat grows w3, Calls Tryz.prog 21 #[.pointer (some ⟨q, 0, none⟩)] p.W fun e W' => e = .returned (.int .i64 (mC * mR)) ∧ Below p.W.heap.size p.W W') := Lib.hid fun p => count_any q mC mR mS mD mV mN mQ p.W (MapAt.below (H3.out.held 0 rfl) (zlat_below p)) ok
  have lw := Bx.lt (H3.out.held 1 rfl)
  refine Og.grow 14 (by kernel_rfl) (by kernel_rfl) fun hc hf => ?_
  simp only [List.take_succ_cons, List.take_zero, List.drop_succ_cons, List.drop_zero]
  repeat (refine Og.det [] rfl (fun J hJ => ?_); go_simp; first | (refine hJ _ _ ?_; clear hJ J) | (with_reducible refine ⟨_, fun p => Og.lays (CN.out p), hJ _ _ ?_⟩; clear hJ J))
  refine Og.fin fun w4 hW => ?_
  simp only [Og.opened_nil]
  have H4 := Lib.hid (H3.out.below hW)
  clear hc hf hW k0 k1 k2 k3 k4 k5 k6 k7 k8 k9 k10 CN H3
  obtain ⟨⟨k0, k1, k2, k3, k4, k5, k6, k7, k8, k9, k10⟩, _⟩ := Bx.b11 (H4.out.held 1 rfl)
  have l4 := Bx.lt (H4.out.held 1 rfl)
  go_upto_region 5 with fail
  have LVX : Hid (∀ p : Lat grows w4, Calls Tryz.prog 11 #[.agg #[.int .i64 mC, .int .i64 mR, .int .i64 mS, .int .i64 mD, .int .i64 mV, .int .i64 mN, .int .i64 mQ], .slice A1 x1.length q1] p.W fun e V => ∃ v, e = .returned v ∧ grows.r p.W V ∧ LivP w4.heap.size mC mR mS v V) := Lib.hid fun p => (LVC.out p.W (H4.out.bel.trans ((zlat_below p).mono H4.out.bel.size))).mono fun e V ⟨U, A, c, h1, h2, h3, h4, h5⟩ => ⟨_, h1, h5, U, A, c, rfl, h2.base p.h.size, h3, h4⟩
  have PTX : Hid (∀ (p : Lat grows w4) v, LivP w4.heap.size mC mR mS v p.W → Calls Tryz.prog 14 #[.agg #[.int .i64 mC, .int .i64 mR, .int .i64 mS, .int .i64 mD, .int .i64 mV, .int .i64 mN, .int .i64 mQ], .int .i64 z, v] p.W fun e V => ∃ u, e = .returned u ∧ grows.r p.W V ∧ PtP w4.heap.size mC mR mS z u V) := Lib.hid fun p v ⟨U, A, c, hv, h1, h2, h3⟩ => by
    subst hv
    refine (part_any mC mR mS mD mV mN mQ ok z hzz (RdB.of_own h1) (by omega) h2.fits).mono fun e V ⟨B1, B2, d1, d2, e1, e2, e3, e4⟩ => ⟨_, e1, e4, _, _, B1, B2, d1, d2, rfl, e2.base p.h.size, h2.part, fun b hb => ⟨h2.may b (List.mem_filter.1 hb).1, by simpa using (List.mem_filter.1 hb).2⟩, Nat.le_trans (List.length_filter_le _ _) h3⟩
  refine Og.grow 15 (by kernel_rfl) (by kernel_rfl) fun hc hf => ?_
  simp only [List.take_succ_cons, List.take_zero, List.drop_succ_cons, List.drop_zero]
  iterate 8 (refine Og.det [] rfl (fun J hJ => ?_); go_simp; refine hJ _ _ ?_; clear hJ J)
  refine Og.such 49 (LivP w4.heap.size mC mR mS) [] rfl (liv_lasts _ _ _ _) (liv_noBool _ _ _ _) (fun J hJ => ?_)
  go_simp
  refine ⟨fun p => LVX.out p, hJ _ _ ?_⟩
  clear hJ J
  refine Og.such 50 (PtP w4.heap.size mC mR mS z) [(49, LivP w4.heap.size mC mR mS)] rfl (pt_lasts _ _ _ _ _) (pt_noBool _ _ _ _ _) (fun J hJ => ?_)
  go_simp
  refine ⟨fun p v hv => PTX.out p v hv, hJ _ _ ?_⟩
  clear hJ J
  refine Og.such 40 (PtP w4.heap.size mC mR mS z) [(50, PtP w4.heap.size mC mR mS z)] rfl (pt_lasts _ _ _ _ _) (pt_noBool _ _ _ _ _) (fun J hJ => ?_)
  refine ⟨by go_simp, by go_simp, by go_simp, fun p => ?_, hJ _ _ ?_⟩
  · simp only [Og.opened_cons, Og.opened_nil]
    rintro _ ⟨P, nn, AP, AN, cP, cN, rfl, h⟩
    have h := Lib.hid h
    go_simp
    exact ⟨P, nn, AP, AN, cP, cN, rfl, h.out⟩
  go_simp
  clear hJ J
  refine Og.such 51 (ZnP w4.heap.size mC mR mS z) [(40, PtP w4.heap.size mC mR mS z)] rfl (zn_lasts _ _ _ _ _) (zn_noBool _ _ _ _ _) (fun J hJ => ?_)
  refine ⟨by go_simp, by go_simp, by go_simp, fun p => ?_, hJ _ _ ?_⟩
  · simp only [Og.opened_cons, Og.opened_nil]
    rintro _ ⟨P, nn, AP, AN, cP, cN, rfl, h⟩
    have h := Lib.hid h
    go_simp
    exact ⟨P, AP, cP, rfl, h.out⟩
  go_simp
  clear hJ J
  refine Og.such 52 SlP [(40, PtP w4.heap.size mC mR mS z)] rfl sl_lasts sl_noBool (fun J hJ => ?_)
  refine ⟨by go_simp, by go_simp, by go_simp, fun p => ?_, hJ _ _ ?_⟩
  · simp only [Og.opened_cons, Og.opened_nil]
    rintro _ ⟨P, nn, AP, AN, cP, cN, rfl, h⟩
    have h := Lib.hid h
    go_simp
    exact ⟨nn, AN, cN, rfl⟩
  go_simp
  clear hJ J
  refine Og.such 5 (ZnP w4.heap.size mC mR mS z) [(51, ZnP w4.heap.size mC mR mS z)] rfl (zn_lasts _ _ _ _ _) (zn_noBool _ _ _ _ _) (fun J hJ => ?_)
  refine ⟨by go_simp, by go_simp, by go_simp, fun p => ?_, hJ _ _ ?_⟩
  · simp only [Og.opened_cons, Og.opened_nil]
    rintro _ ⟨P, AP, cP, rfl, h⟩
    have h := Lib.hid h
    go_simp
    exact ⟨P, AP, cP, rfl, h.out⟩
  go_simp
  clear hJ J
  refine Og.such 6 SlP [(52, SlP)] rfl sl_lasts sl_noBool (fun J hJ => ?_)
  refine ⟨by go_simp, by go_simp, by go_simp, fun p => ?_, hJ _ _ ?_⟩
  · simp only [Og.opened_cons, Og.opened_nil]
    rintro _ ⟨nn, AN, cN, rfl⟩
    go_simp
    exact ⟨nn, AN, cN, rfl⟩
  go_simp
  clear hJ J hc hf
  refine Og.fin fun w5 hW => ?_
  simp only [Og.opened_cons, Og.opened_nil]
  rintro v6 hv6 _ ⟨P, AP, cP, rfl, hoP, hLP, hAt, lP⟩ v52 hv52 v51 hv51 v40 hv40 v50 hv50 v49 hv49
  have H5 := Lib.hid (sep_row H4.out hW hoP)
  have HLP := Lib.hid hLP
  have HAt := Lib.hid hAt
  clear hv6 hv52 hv51 hv40 hv50 hv49 hW hoP hLP hAt H4 LVX PTX LVC k0 k1 k2 k3 k4 k5 k6 k7 k8 k9 k10
  obtain ⟨⟨k0, k1, k2, k3, k4, k5, k6, k7, k8, k9, k10⟩, _⟩ := Bx.b11 (H5.out.held 2 rfl)
  have l5 := Bx.lt (H5.out.held 2 rfl)
  go_upto_region 6 with fail
  have OX : Hid (∀ p : Lat grows w5, Calls Tryz.prog 12 #[.slice AP P.length cP, .slice A3 x3.length q3] p.W fun e V => ∃ v, e = .returned v ∧ grows.r p.W V ∧ OrdP w5.heap.size P v V) := Lib.hid fun p => by
    have HP := H5.out.below (zlat_below p)
    have hd := HD.out p.W HP.bel
    exact (orders_any (c := cP) (c2 := q3) (RdB.of_own (HP.rows 0 rfl)) hd.r3 (by omega) (by have := hd.l3; omega) hd.f3).mono fun e V ⟨O, A, c, h1, h2, h3, h4, h5⟩ => ⟨_, h1, h5, O, A, c, rfl, h2.base p.h.size, h3, h4⟩
  have RX : Hid (∀ (p : Lat grows w5) v, OrdP w5.heap.size P v p.W → Calls Tryz.prog 13 #[.pointer (some ⟨q, 0, none⟩), .int .i64 z, .slice AP P.length cP, .slice A2 x2.length q2, v] p.W fun e V => ∃ u, e = .returned u ∧ grows.r p.W V ∧ RunP w5.heap.size mC mR mS z u V) := Lib.hid fun p v ⟨O, A, c, hv, h1, h2, h3⟩ => by
    subst hv
    have HP := H5.out.below (zlat_below p)
    have hd := HD.out p.W HP.bel
    have := K.run mC mR mS mD mV mN mQ z p.W q AP A2 A cP q2 c P x2 O (HP.held 1 rfl) ok hz ⟨RdB.of_own (HP.rows 0 rfl), hd.r2, RdC.of_own h1, by omega, lx2, by omega, HLP.out.fits, hd.f2, h2.fits⟩ (.inl HLP.out.un)
    exact (left_call p.h.size this).mono fun e V ⟨u, e1, e2, e3⟩ => ⟨u, e1, e2, _, Tk.run_goesP ok ⟨by omega, by omega⟩ HAt.out h2.may lP h3, e3⟩
  refine Og.grow 12 (by kernel_rfl) (by kernel_rfl) fun hc hf => ?_
  simp only [List.take_succ_cons, List.take_zero, List.drop_succ_cons, List.drop_zero]
  iterate 9 (refine Og.det [] rfl (fun J hJ => ?_); go_simp; refine hJ _ _ ?_; clear hJ J)
  refine Og.such 62 (OrdP w5.heap.size P) [] rfl (ord_lasts _ _) (ord_noBool _ _) (fun J hJ => ?_)
  go_simp
  refine ⟨fun p => OX.out p, hJ _ _ ?_⟩
  clear hJ J
  refine Og.such 63 (RunP w5.heap.size mC mR mS z) [(62, OrdP w5.heap.size P)] rfl (runP_lasts _ _ _ _ _) (runP_noBool _ _ _ _ _) (fun J hJ => ?_)
  go_simp
  refine ⟨fun p v hv => RX.out p v hv, hJ _ _ ?_⟩
  clear hJ J
  refine Og.such 7 (Og.Box w5.heap.size #[.slice none 0 0, .slice none 0 0, .slice none 0 0] 35) [] rfl (Og.Box.lasts _ _ _) (Og.Box.noBool _ _ _) (fun J hJ => ?_)
  go_simp
  refine ⟨fun p => Og.Box.new p.W _ p.h.size _ _, hJ _ _ ?_⟩
  clear hJ J hc hf
  refine Og.fin fun w6 hW => ?_
  simp only [Og.opened_cons, Og.opened_nil]
  rintro _ ⟨b7, rfl, hb7, hl7, hv7⟩ _ ⟨rr, hgo, C1, C2, C3, c1, c2, c3, rfl, hcc⟩ v62 hv62
  clear hv62 OX RX K HD HLP HAt k0 k1 k2 k3 k4 k5 k6 k7 k8 k9 k10
  obtain ⟨_, ⟨f0, f1, f2⟩⟩ := Bx.b3 hv7
  have hX := Bx.set3 hv7 (.slice C1 rr.1.length c1) (.slice C2 rr.2.1.length c2) (.slice C3 rr.2.2.length c3)
  have rX := (show ResAt w6 _ rr C1 C2 C3 c1 c2 c3 from hcc).set3 hv7 (.slice C1 rr.1.length c1) (.slice C2 rr.2.1.length c2) (.slice C3 rr.2.2.length c3)
  have HC := ((hW.setCell (p := ⟨b7, 0, none⟩) (by show w5.heap.size ≤ b7; omega) (.slice C1 rr.1.length c1)).setCell (p := ⟨b7, 1, none⟩) (by show w5.heap.size ≤ b7; omega) (.slice C2 rr.2.1.length c2)).setCell (p := ⟨b7, 2, none⟩) (by show w5.heap.size ≤ b7; omega) (.slice C3 rr.2.2.length c3)
  obtain ⟨w7, hw7⟩ : ∃ x, x = ((w6.setCell ⟨b7, 0, none⟩ (.slice C1 rr.1.length c1)).setCell ⟨b7, 1, none⟩ (.slice C2 rr.2.1.length c2)).setCell ⟨b7, 2, none⟩ (.slice C3 rr.2.2.length c3) := ⟨_, rfl⟩
  rw [← hw7] at hX rX HC
  have H7 := Lib.hid (H5.out.below HC)
  have HX := Lib.hid hX
  have RX := Lib.hid rX
  have HG := Lib.hid hgo
  replace hw7 := Lib.hid hw7
  clear hX rX HC hcc hv7 hW H5 hgo hb7 hl7
  obtain ⟨ro, rg, rd⟩ := rr
  dsimp only at *
  go_upto_region 7 with fail
  rw [← hw7.out]
  clear f0 f1 f2 hw7
  obtain ⟨⟨y0, y1, y2⟩, _⟩ := Bx.b3 HX.out
  obtain ⟨⟨k0, k1, k2, k3, k4, k5, k6, k7, k8, k9, k10⟩, _⟩ := Bx.b11 (H7.out.held 2 rfl)
  have BX := Lib.hid (beside_any q mC mR mS mD mV mN mQ z w7 (H7.out.held 1 rfl) ok)
  go_upto_region 8 with (go_at_call 24; with_reducible refine BX.out.mono ?_; rintro e w8 ⟨v8, rfl, ho8, b8⟩; clear BX y0 y1 y2 k0 k1 k2 k3 k4 k5 k6 k7 k8 k9 k10; have HB8 := Lib.hid b8; have HO8 := Lib.hid ho8; clear b8 ho8)
  obtain ⟨A8, c8, rfl, r8⟩ := zown_at HO8.out
  have R8 := Lib.hid r8
  clear r8 HO8
  have FX : Hid (∀ V, Below w8.heap.size w8 V → ((V.cell? ⟨b7, 0, none⟩ = some (.slice C1 ro.length c1) ∧ V.cell? ⟨b7, 1, none⟩ = some (.slice C2 rg.length c2)) ∧ V.cell? ⟨w.heap.size, 7, none⟩ = some (.int .i64 z)) ∧ (MapAt V q mC mR mS mD mV mN mQ ∧ RdB V V.heap.size C1 ro ∧ RdB V V.heap.size C2 rg) ∧ Below w.heap.size w V ∧ b7 < V.heap.size ∧ w.heap.size < V.heap.size) := Lib.hid fun V hV => by
    have h7 := HB8.out.trans (hV.mono HB8.out.size)
    have HV := H7.out.below h7
    have lb : b7 < w7.heap.size := Bx.lt HX.out
    have hx := (h7.block b7 lb).trans HX.out
    obtain ⟨⟨u0, u1, _⟩, _⟩ := Bx.b3 hx
    obtain ⟨⟨_, _, _, _, _, _, _, u7, _⟩, _⟩ := Bx.b11 (HV.held 2 rfl)
    exact ⟨⟨⟨u0, u1⟩, u7⟩, ⟨HV.held 1 rfl, ((RdB.of_own RX.out.1).below h7).more h7.size, ((RdB.of_own RX.out.2.1).below h7).more h7.size⟩, HV.bel, Nat.lt_of_lt_of_le lb h7.size, Bx.lt (HV.held 2 rfl)⟩
  have OF : Hid (∀ V, Below w8.heap.size w8 V → ∀ b : Bn, may b = true → Calls Tryz.prog 25 #[.pointer (some ⟨q, 0, none⟩), .int .i64 b.x, .int .i64 b.y] V fun e W' => e = .returned (.int .i64 (Zn.of mC mR mS b.x b.y)) ∧ Below V.heap.size V W') := Lib.hid fun V hV b hb => of_any q mC mR mS mD mV mN mQ b.x b.y V (FX.out V hV).2.1.1 ok (Tk.may_place hb).1 (Tk.may_place hb).2
  have lL : (Zn.beside mC mR z).length ≤ 16 := Zn.beside_bd ok z
  have l1 : ro.length ≤ 1000 := HG.out.l1
  have l2 : rg.length ≤ 1000 := HG.out.l2
  have GS : Hid (∀ b ∈ ro, may b = true ∧ Zn.of mC mR mS b.x b.y = z) := Lib.hid HG.out.stay
  have GG : Hid (∀ b ∈ rg, may b = true ∧ Zn.of mC mR mS b.x b.y ∈ Zn.beside mC mR z) := Lib.hid HG.out.goes
  clear HG H7 HX RX HB8
  generalize Zn.beside mC mR z = L at *
  go_wp2
  go_loopw [9] (fun s wr => ∃ j : Nat, j ≤ ro.length ∧ s = .int .i64 j ∧ Hid (Below w8.heap.size w8 wr)) (fun s _ => ro.length - (intOf s).toNat)
  case atStart => exact ⟨0, Nat.zero_le _, rfl, Lib.hid (Below.refl _ _)⟩
  case round =>
    obtain ⟨j, hj, rfl, HP⟩ := hrel
    obtain ⟨⟨⟨u0, u1⟩, u7⟩, ⟨mp, rd1, rd2⟩, _, t7, tw⟩ := FX.out wr HP.out
    clear rd2 mp
    by_cases hju : j < ro.length
    · have t3 : (j : Int) < (ro.length : Int) := by omega
      obtain ⟨ga, oa, rfl, tg, ⟨z0, z1, z2, z3, z4, z5, z6, z7, z8, z9, z10⟩⟩ := rd1 j _ (List.getElem?_eq_getElem hju)
      clear rd1
      have gj := GS.out _ (List.getElem_mem hju)
      have OX := Lib.hid fun p : Lat grows wr => OF.out p.W (HP.out.trans ((zlat_below p).mono HP.out.size)) _ gj.1
      have MX := Lib.hid fun p : Lat grows wr => may_any _ (Tk.may_mask gj.1) p.W
      rw [gj.2] at OX
      rw [gj.1] at MX
      clear gj
      generalize ro[j] = y at *
      obtain ⟨ys, yi, yg, ym, yx, yy, yvx, yvy, yh, yp, yl⟩ := y
      simp only [Bn.val] at MX OX z0 z1 z2 z3 z4 z5 z6 z7 z8 z9 z10
      have e1 : (z != z) = false := by simp
      go_upto_region 11 with fail
      refine Og.grow 26 (by kernel_rfl) (by kernel_rfl) fun hc hf => ?_
      simp only [List.take_succ_cons, List.take_zero, List.drop_succ_cons, List.drop_zero]
      repeat (refine Og.det [] rfl (fun J hJ => ?_); go_simp; first | (refine hJ _ _ ?_; clear hJ J) | (with_reducible refine ⟨_, fun p => Og.lays (OX.out p), hJ _ _ ?_⟩; clear hJ J) | (with_reducible refine ⟨_, fun p => Og.lays (MX.out p), hJ _ _ ?_⟩; clear hJ J))
      refine Og.fin fun W hW => ?_
      simp only [Og.opened_nil]
      have HQ := Lib.hid (HP.out.trans (hW.mono HP.out.size))
      clear hc hf hW HP OX MX z0 z1 z2 z3 z4 z5 z6 z7 z8 z9 z10 u0 u1 u7
      go_wp2
      go_roundw
      case rel => exact ⟨j + 1, by omega, by go_num, HQ⟩
      case measure => simp [intOf]; omega
    · obtain rfl : j = ro.length := by omega
      have t3 : ¬ (ro.length : Int) < (ro.length : Int) := by omega
      clear rd1
      clear GS hj
      have H9 := Lib.hid HP.out
      clear HP
      go_wp2
      clear t3 u0 u1 u7 t7 tw
      go_loopw [10] (fun s wr => ∃ j : Nat, j ≤ rg.length ∧ s = .int .i64 j ∧ Hid (Below w8.heap.size w8 wr)) (fun s _ => rg.length - (intOf s).toNat)
      case atStart => exact ⟨0, Nat.zero_le _, rfl, H9⟩
      case round =>
        clear H9
        obtain ⟨j, hj, rfl, HP⟩ := hrel
        by_cases hju : j < rg.length
        · have t3 : (j : Int) < (rg.length : Int) := by omega
          have gj := GG.out _ (List.getElem_mem hju)
          have hx := List.getElem?_eq_getElem hju
          obtain ⟨ga, oa, eA, ht⟩ := (FX.out wr HP.out).2.1.2.2 j _ hx
          clear ht
          subst eA
          have QX : Hid (∀ V, Below w8.heap.size w8 V → (((V.cell? ⟨b7, 0, none⟩ = some (.slice C1 ro.length c1) ∧ V.cell? ⟨b7, 1, none⟩ = some (.slice (some ⟨ga, oa, none⟩) rg.length c2)) ∧ b7 < V.heap.size ∧ ga < V.heap.size) ∧ (V.cell? ⟨ga, oa + j * 11, none⟩ = some (.int .i64 rg[j].s) ∧ V.cell? ⟨ga, oa + j * 11 + 1, none⟩ = some (.int .i64 rg[j].i) ∧ V.cell? ⟨ga, oa + j * 11 + 2, none⟩ = some (.int .i64 rg[j].g) ∧ V.cell? ⟨ga, oa + j * 11 + 3, none⟩ = some (.int .i64 rg[j].m) ∧ V.cell? ⟨ga, oa + j * 11 + 4, none⟩ = some (.int .i64 rg[j].x) ∧ V.cell? ⟨ga, oa + j * 11 + 5, none⟩ = some (.int .i64 rg[j].y) ∧ V.cell? ⟨ga, oa + j * 11 + 6, none⟩ = some (.int .i64 rg[j].vx) ∧ V.cell? ⟨ga, oa + j * 11 + 7, none⟩ = some (.int .i64 rg[j].vy) ∧ V.cell? ⟨ga, oa + j * 11 + 8, none⟩ = some (.int .i64 rg[j].h) ∧ V.cell? ⟨ga, oa + j * 11 + 9, none⟩ = some (.int .i64 rg[j].p) ∧ V.cell? ⟨ga, oa + j * 11 + 10, none⟩ = some (.int .i64 rg[j].l)))) := Lib.hid fun V hV => by
            obtain ⟨⟨u, _⟩, ⟨_, _, rd⟩, _, tb, _⟩ := FX.out V hV
            obtain ⟨g', o', e, tg, h⟩ := rd j _ hx
            cases e
            exact ⟨⟨u, tb, tg⟩, h⟩
          have OX := Lib.hid fun V (hV : Below w8.heap.size w8 V) => OF.out V hV _ gj.1
          have MX := Lib.hid fun V => may_any _ (Tk.may_mask gj.1) V
          rw [gj.1] at MX
          have hin := gj.2
          clear gj hx
          generalize rg[j] = y at *
          obtain ⟨ys, yi, yg, ym, yx, yy, yvx, yvy, yh, yp, yl⟩ := y
          simp only [Bn.val] at MX OX hin QX
          generalize Zn.of mC mR mS yx yy = zi at *
          obtain ⟨⟨⟨u0, u1⟩, t7, tg⟩, ⟨z0, z1, z2, z3, z4, z5, z6, z7, z8, z9, z10⟩⟩ := QX.out wr HP.out
          have t16 : (L.length : Int) ≤ 16 := by omega
          have FIN : Hid (decide (zi ∈ L) = true) := Lib.hid (by simpa using hin)
          clear hin
          have H9 := Lib.hid HP.out
          clear HP
          go_wp2
          go_loopw [11, 12] (fun t s wr => ∃ m : Nat, m ≤ L.length ∧ s = .int .i64 m ∧ t = .bool (decide (zi ∈ L.take m)) ∧ Hid (Below w8.heap.size w8 wr)) (fun _ s _ => L.length - (intOf s).toNat)
          case atStart => exact ⟨0, by omega, rfl, by simp, H9⟩
          case round =>
            clear H9 u0 u1 t7 tg z0 z1 z2 z3 z4 z5 z6 z7 z8 z9 z10
            obtain ⟨m, hm, rfl, rfl, HP⟩ := hrel
            obtain ⟨⟨⟨u0, u1⟩, t7, tg⟩, ⟨z0, z1, z2, z3, z4, z5, z6, z7, z8, z9, z10⟩⟩ := QX.out wr HP.out
            by_cases hmu : m < L.length
            · have t4 : (m : Int) < (L.length : Int) := by omega
              obtain ⟨gl, ol, eL, hg8, hc8⟩ := reads_int R8.out (k := m) hmu
              subst eL
              have v0 := (Below.cell (p := ⟨gl, ol + m, none⟩) HP.out hg8).trans hc8
              have tl : gl < wr.heap.size := Nat.lt_of_lt_of_le hg8 HP.out.size
              have ST := Lib.hid (show decide (zi ∈ L.take (m + 1)) = (decide (zi ∈ L.take m) || decide (L[m] = zi)) by
                rw [← List.take_append_getElem hmu, Bool.eq_iff_iff]
                simp only [List.mem_append, List.mem_singleton, Bool.or_eq_true, decide_eq_true_eq]
                exact or_congr Iff.rfl eq_comm)
              have OY := Lib.hid fun p : Lat grows wr => OX.out p.W (HP.out.trans ((zlat_below p).mono HP.out.size))
              clear hc8 hg8
              generalize L[m] = a at *
              generalize hp0 : decide (zi ∈ L.take m) = p0 at *
              clear hp0
              cases p0 with
              | true =>
                have H := Lib.hid (show decide (zi ∈ L.take (m + 1)) = true by rw [ST.out]; simp)
                clear ST OY
                go_upto_region 20 with fail
                refine Og.grow 22 (by kernel_rfl) (by kernel_rfl) fun hc hf => ?_
                simp only [List.take_succ_cons, List.take_zero, List.drop_succ_cons, List.drop_zero]
                repeat (refine Og.det [] rfl (fun J hJ => ?_); (try subst hvf); go_simp; generalize hvf : Value.bool true = vf; refine hJ _ _ ?_; clear hJ J)
                subst hvf
                refine Og.fin fun W hW => ?_
                simp only [Og.opened_nil]
                have HQ := Lib.hid (HP.out.trans (hW.mono HP.out.size))
                clear hc hf hW HP z0 z1 z2 z3 z4 z5 z6 z7 z8 z9 z10 u0 u1 v0
                go_wp2
                go_roundw
                case rel => exact ⟨m + 1, by omega, by go_num, by rw [H.out], HQ⟩
                case measure => simp [intOf]; omega
              | false =>
                by_cases ha : a = zi
                · subst ha
                  have H := Lib.hid (show decide (a ∈ L.take (m + 1)) = true by rw [ST.out]; simp)
                  clear ST
                  have e1 : (a == a) = true := by simp
                  go_upto_region 20 with fail
                  refine Og.grow 22 (by kernel_rfl) (by kernel_rfl) fun hc hf => ?_
                  simp only [List.take_succ_cons, List.take_zero, List.drop_succ_cons, List.drop_zero]
                  repeat (refine Og.det [] rfl (fun J hJ => ?_); go_simp; first | (refine hJ _ _ ?_; clear hJ J) | (with_reducible refine ⟨_, fun p => Og.lays (OY.out p), hJ _ _ ?_⟩; clear hJ J))
                  refine Og.fin fun W hW => ?_
                  simp only [Og.opened_nil]
                  have HQ := Lib.hid (HP.out.trans (hW.mono HP.out.size))
                  clear hc hf hW HP OY z0 z1 z2 z3 z4 z5 z6 z7 z8 z9 z10 u0 u1 v0
                  go_wp2
                  go_roundw
                  case rel => exact ⟨m + 1, by omega, by go_num, by first | rw [H.out] | (rw [H.out]; simp), HQ⟩
                  case measure => simp [intOf]; omega
                · have H := Lib.hid (show decide (zi ∈ L.take (m + 1)) = false by rw [ST.out]; simp [ha])
                  clear ST
                  have e1 : (a == zi) = false := beq_false_of_ne ha
                  go_upto_region 20 with fail
                  refine Og.grow 22 (by kernel_rfl) (by kernel_rfl) fun hc hf => ?_
                  simp only [List.take_succ_cons, List.take_zero, List.drop_succ_cons, List.drop_zero]
                  repeat (refine Og.det [] rfl (fun J hJ => ?_); go_simp; first | (refine hJ _ _ ?_; clear hJ J) | (with_reducible refine ⟨_, fun p => Og.lays (OY.out p), hJ _ _ ?_⟩; clear hJ J))
                  refine Og.fin fun W hW => ?_
                  simp only [Og.opened_nil]
                  have HQ := Lib.hid (HP.out.trans (hW.mono HP.out.size))
                  clear hc hf hW HP OY z0 z1 z2 z3 z4 z5 z6 z7 z8 z9 z10 u0 u1 v0
                  go_wp2
                  go_roundw
                  case rel => exact ⟨m + 1, by omega, by go_num, by first | rw [H.out] | rw [H.out, e1] | (rw [H.out]; simp [ha]), HQ⟩
                  case measure => simp [intOf]; omega
            · obtain rfl : m = L.length := by omega
              have t4 : ¬ (L.length : Int) < (L.length : Int) := by omega
              rw [List.take_length, FIN.out]
              go_wp2_with (go_at_call 26; with_reducible refine (MX.out _).mono ?_; rintro e w11 ⟨rfl, b11⟩; have HQ := Lib.hid (HP.out.trans (b11.mono HP.out.size)); clear HP b11 MX z0 z1 z2 z3 z4 z5 z6 z7 z8 z9 z10 u0 u1)
              go_roundw
              case rel => exact ⟨j + 1, by omega, by go_num, HQ⟩
              case measure => simp [intOf]; omega
        · obtain rfl : j = rg.length := by omega
          have t3 : ¬ (rg.length : Int) < (rg.length : Int) := by omega
          obtain ⟨⟨⟨u0, u1⟩, u7⟩, _, hbl, t7, tw⟩ := FX.out wr HP.out
          have HB := Lib.hid hbl
          clear hbl FX OF GG HP
          go_wp2_with (go_at_call 17; with_reducible refine (AW.out _).mono ?_; rintro e w10 ⟨rfl, b10⟩; clear AW; have HF := Lib.hid (HB.out.trans (b10.mono HB.out.size)); clear HB b10)
          go_ret
          exact ⟨rfl, HF.out⟩
end Go.Proofs.YtljaahemlcaffaaGreat
