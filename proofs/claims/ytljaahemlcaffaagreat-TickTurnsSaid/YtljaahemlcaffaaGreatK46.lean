/- Two neighbours among the commands that change places leave the same. -/
import Derived.Test.YtljaahemlcaffaaGreatK42
import Derived.Test.YtljaahemlcaffaaGreatK45
namespace Go.Proofs.YtljaahemlcaffaaGreat
open Go.RowKit Pz Sp
set_option linter.unusedVariables false
set_option linter.unusedSimpArgs false

theorem cn_at {W : World} {B g o n c : Nat} {l : List Cn} (h : OwnC W B (.slice (some ⟨g, o, none⟩) n c) l) {k : Nat} {x : Cn} (hk : l[k]? = some x) : (W.cell? ⟨g, o + k * 16, none⟩ = some (.int .i64 x.k) ∧ W.cell? ⟨g, o + k * 16 + 1, none⟩ = some (.int .i64 x.s) ∧ W.cell? ⟨g, o + k * 16 + 2, none⟩ = some (.int .i64 x.i) ∧ W.cell? ⟨g, o + k * 16 + 3, none⟩ = some (.int .i64 x.g) ∧ W.cell? ⟨g, o + k * 16 + 4, none⟩ = some (.int .i64 x.b.s) ∧ W.cell? ⟨g, o + k * 16 + 5, none⟩ = some (.int .i64 x.b.i) ∧ W.cell? ⟨g, o + k * 16 + 6, none⟩ = some (.int .i64 x.b.g) ∧ W.cell? ⟨g, o + k * 16 + 7, none⟩ = some (.int .i64 x.b.m) ∧ W.cell? ⟨g, o + k * 16 + 8, none⟩ = some (.int .i64 x.b.x) ∧ W.cell? ⟨g, o + k * 16 + 9, none⟩ = some (.int .i64 x.b.y) ∧ W.cell? ⟨g, o + k * 16 + 10, none⟩ = some (.int .i64 x.b.vx) ∧ W.cell? ⟨g, o + k * 16 + 11, none⟩ = some (.int .i64 x.b.vy) ∧ W.cell? ⟨g, o + k * 16 + 12, none⟩ = some (.int .i64 x.b.h) ∧ W.cell? ⟨g, o + k * 16 + 13, none⟩ = some (.int .i64 x.b.p) ∧ W.cell? ⟨g, o + k * 16 + 14, none⟩ = some (.int .i64 x.b.l) ∧ W.cell? ⟨g, o + k * 16 + 15, none⟩ = some (.int .i64 x.m)) ∧ (W.frozen? ⟨g, o + k * 16, none⟩ = false ∧ W.frozen? ⟨g, o + k * 16 + 1, none⟩ = false ∧ W.frozen? ⟨g, o + k * 16 + 2, none⟩ = false ∧ W.frozen? ⟨g, o + k * 16 + 3, none⟩ = false ∧ W.frozen? ⟨g, o + k * 16 + 4, none⟩ = false ∧ W.frozen? ⟨g, o + k * 16 + 5, none⟩ = false ∧ W.frozen? ⟨g, o + k * 16 + 6, none⟩ = false ∧ W.frozen? ⟨g, o + k * 16 + 7, none⟩ = false ∧ W.frozen? ⟨g, o + k * 16 + 8, none⟩ = false ∧ W.frozen? ⟨g, o + k * 16 + 9, none⟩ = false ∧ W.frozen? ⟨g, o + k * 16 + 10, none⟩ = false ∧ W.frozen? ⟨g, o + k * 16 + 11, none⟩ = false ∧ W.frozen? ⟨g, o + k * 16 + 12, none⟩ = false ∧ W.frozen? ⟨g, o + k * 16 + 13, none⟩ = false ∧ W.frozen? ⟨g, o + k * 16 + 14, none⟩ = false ∧ W.frozen? ⟨g, o + k * 16 + 15, none⟩ = false) := by
  obtain ⟨g', o', c', e, _, _, hc⟩ := h.at_ hk
  cases e
  exact ⟨⟨(hc 0 _ rfl).1, by rw [Nat.add_assoc]; exact (hc 1 _ rfl).1, by rw [Nat.add_assoc]; exact (hc 2 _ rfl).1, by rw [Nat.add_assoc]; exact (hc 3 _ rfl).1, by rw [Nat.add_assoc]; exact (hc 4 _ rfl).1, by rw [Nat.add_assoc]; exact (hc 5 _ rfl).1, by rw [Nat.add_assoc]; exact (hc 6 _ rfl).1, by rw [Nat.add_assoc]; exact (hc 7 _ rfl).1, by rw [Nat.add_assoc]; exact (hc 8 _ rfl).1, by rw [Nat.add_assoc]; exact (hc 9 _ rfl).1, by rw [Nat.add_assoc]; exact (hc 10 _ rfl).1, by rw [Nat.add_assoc]; exact (hc 11 _ rfl).1, by rw [Nat.add_assoc]; exact (hc 12 _ rfl).1, by rw [Nat.add_assoc]; exact (hc 13 _ rfl).1, by rw [Nat.add_assoc]; exact (hc 14 _ rfl).1, by rw [Nat.add_assoc]; exact (hc 15 _ rfl).1⟩, (hc 0 _ rfl).2, by rw [Nat.add_assoc]; exact (hc 1 _ rfl).2, by rw [Nat.add_assoc]; exact (hc 2 _ rfl).2, by rw [Nat.add_assoc]; exact (hc 3 _ rfl).2, by rw [Nat.add_assoc]; exact (hc 4 _ rfl).2, by rw [Nat.add_assoc]; exact (hc 5 _ rfl).2, by rw [Nat.add_assoc]; exact (hc 6 _ rfl).2, by rw [Nat.add_assoc]; exact (hc 7 _ rfl).2, by rw [Nat.add_assoc]; exact (hc 8 _ rfl).2, by rw [Nat.add_assoc]; exact (hc 9 _ rfl).2, by rw [Nat.add_assoc]; exact (hc 10 _ rfl).2, by rw [Nat.add_assoc]; exact (hc 11 _ rfl).2, by rw [Nat.add_assoc]; exact (hc 12 _ rfl).2, by rw [Nat.add_assoc]; exact (hc 13 _ rfl).2, by rw [Nat.add_assoc]; exact (hc 14 _ rfl).2, by rw [Nat.add_assoc]; exact (hc 15 _ rfl).2⟩
theorem turn_list {l : List Cn} {k : Nat} (hk : k + 1 < l.length) : l = l.take k ++ l[k] :: l[k + 1] :: l.drop (k + 2) ∧ (l.set k l[k + 1]).set (k + 1) l[k] = l.take k ++ l[k + 1] :: l[k] :: l.drop (k + 2) := by
  have e1 : l = l.take k ++ l[k] :: l[k + 1] :: l.drop (k + 2) := by
    conv => lhs; rw [← List.take_append_drop k l, List.drop_eq_getElem_cons (show k < l.length by omega), List.drop_eq_getElem_cons hk]
  refine ⟨e1, ?_⟩
  apply List.ext_getElem?
  intro j
  have hl : (l.take k).length = k := by rw [List.length_take]; omega
  rcases Nat.lt_trichotomy j k with h | h | h
  · rw [List.getElem?_set_ne (by omega), List.getElem?_set_ne (by omega), List.getElem?_append_left (by omega), List.getElem?_take, if_pos h]
  · subst h
    rw [List.getElem?_set_ne (by omega), List.getElem?_set_self (by omega), List.getElem?_append_right (by omega), hl, Nat.sub_self]
    rfl
  · obtain ⟨d, rfl⟩ : ∃ d, j = k + 1 + d := ⟨j - k - 1, by omega⟩
    rw [List.getElem?_append_right (by omega), hl, show k + 1 + d - k = d + 1 by omega, List.getElem?_cons_succ]
    cases d with
    | zero =>
      show ((l.set k l[k + 1]).set (k + 1) l[k])[k + 1]? = _
      rw [List.getElem?_set_self (by rw [List.length_set]; exact hk)]; rfl
    | succ d =>
      rw [List.getElem?_set_ne (by omega), List.getElem?_set_ne (by omega), List.getElem?_cons_succ, List.getElem?_drop]
      congr 1
      omega
set_option maxHeartbeats 16000000 in
set_option maxRecDepth 100000 in
theorem law_turns (K : TkCt) (w : World) (c0C c0R c0S c0D c0V c0N c0Q z : Int) (A1 A2 A3 : Option Addr) (q1 q2 q3 : Nat) (own near : List Bn) (cs : List Cn) (hG : Given w A1 A2 A3 q1 q2 q3 own near cs) (hz : Fit z) (at_ : Int) (hat : -9223372036854775808 ≤ at_ ∧ at_ ≤ 9223372036854775807) :
    Calls Tryz.prog 5 #[.agg #[.int .i64 c0C, .int .i64 c0R, .int .i64 c0S, .int .i64 c0D, .int .i64 c0V, .int .i64 c0N, .int .i64 c0Q, .int .i64 z, .slice A1 own.length q1, .slice A2 near.length q2, .slice A3 cs.length q3], .int .i64 at_] w fun e w' => e = .returned (.bool true) ∧ Below w.heap.size w w' := by
  have HD := Lib.hid fun V (hV : Below w.heap.size w V) => hG.hand.below hV
  have FW : Hid (∀ V, Calls Tryz.prog 18 #[.agg #[.int .i64 c0C, .int .i64 c0R, .int .i64 c0S, .int .i64 c0D, .int .i64 c0V, .int .i64 c0N, .int .i64 c0Q, .int .i64 z, .slice A1 own.length q1, .slice A2 near.length q2, .slice A3 cs.length q3]] V fun e V' => e = .returned (.agg #[.int .i64 (Zn.mC c0C), .int .i64 (Zn.mC c0R), .int .i64 (Zn.mS c0S), .int .i64 (Zn.mD c0S c0D), .int .i64 (Zn.mD c0S c0V), .int .i64 (Zn.mN c0N), .int .i64 (Zn.mQ c0Q), .int .i64 z, .slice A1 (own.take 40).length q1, .slice A2 (near.take 40).length q2, .slice A3 (cs.take 40).length q3]) ∧ Below V.heap.size V V') := Lib.hid fun V => by
    have := few15_any c0C c0R c0S c0D c0V c0N c0Q z (A1 := A1) (A2 := A2) (A3 := A3) hG.c1 hG.c2 hG.c3 V
    rw [List.length_take, List.length_take, List.length_take, Nat.min_comm 40, Nat.min_comm 40, Nat.min_comm 40]
    exact this
  have ok := Zn.may_ok c0C c0R c0S c0D c0V
  have okb := Zn.may_okB c0C c0R c0S c0D c0V c0N c0Q
  have AW := Lib.hid K.awake
  generalize (Zn.mC c0C) = mC at *
  generalize (Zn.mC c0R) = mR at *
  generalize (Zn.mD c0S c0D) = mD at *
  generalize (Zn.mD c0S c0V) = mV at *
  generalize (Zn.mS c0S) = mS at *
  generalize (Zn.mN c0N) = mN at *
  generalize (Zn.mQ c0Q) = mQ at *
  have NW : Hid (∀ L W, Sep w L W → Calls Tryz.prog 10 #[.agg #[.int .i64 mC, .int .i64 mR, .int .i64 mS, .int .i64 mD, .int .i64 mV, .int .i64 mN, .int .i64 mQ]] W fun e W' => ∃ q, e = .returned (.tuple #[.pointer (some ⟨q, 0, none⟩), .int .i64 0]) ∧ Sep w (box q (.cells #[.int .i64 mC, .int .i64 mR, .int .i64 mS, .int .i64 mD, .int .i64 mV, .int .i64 mN, .int .i64 mQ] 68) :: L) W') := Lib.hid fun L W hW => (new_yes mC mR mS mD mV mN mQ W okb).mono fun e W' ⟨q, a, b, c, d⟩ => ⟨q, a, sep_map' hW d c b⟩
  clear hG okb
  generalize own.length = n1 at *
  generalize near.length = n2 at *
  generalize cs.length = n3 at *
  generalize own.take 40 = x1 at *
  generalize near.take 40 = x2 at *
  generalize cs.take 40 = x3 at *
  have LVC := Lib.hid fun V (hV : Below w.heap.size w V) => living_any (c := q1) mC mR mS mD mV mN mQ ok (HD.out V hV).r1 (by have := (HD.out V hV).l1; omega) (HD.out V hV).f1
  have lx2 : x2.length ≤ 1000 := (HD.out w (Below.refl _ _)).l2
  have H0 : Hid (Sep w [box w.heap.size (.cells #[.int .i64 c0C, .int .i64 c0R, .int .i64 c0S, .int .i64 c0D, .int .i64 c0V, .int .i64 c0N, .int .i64 c0Q, .int .i64 z, .slice A1 n1 q1, .slice A2 n2 q2, .slice A3 n3 q3] 48)] (w.alloc (.cells #[.int .i64 c0C, .int .i64 c0R, .int .i64 c0S, .int .i64 c0D, .int .i64 c0V, .int .i64 c0N, .int .i64 c0Q, .int .i64 z, .slice A1 n1 q1, .slice A2 n2 q2, .slice A3 n3 q3] 48))) := Lib.hid (sep_box (sep_new w) _)
  go_enter Tryz.func5, Tryz.ntmps5
  go_upto_region 1 with fail
  generalize w.alloc (.cells #[.int .i64 c0C, .int .i64 c0R, .int .i64 c0S, .int .i64 c0D, .int .i64 c0V, .int .i64 c0N, .int .i64 c0Q, .int .i64 z, .slice A1 n1 q1, .slice A2 n2 q2, .slice A3 n3 q3] 48) = w0 at *
  obtain ⟨⟨k0, k1, k2, k3, k4, k5, k6, k7, k8, k9, k10⟩, ⟨f0, f1, f2, f3, f4, f5, f6, f7, f8, f9, f10⟩⟩ := Bx.b11 (H0.out.held 0 rfl)
  go_upto_region 2 with (go_at_call 18; with_reducible refine (FW.out _).mono ?_; rintro e w1 ⟨rfl, b1⟩; clear FW k0 k1 k2 k3 k4 k5 k6 k7 k8 k9 k10 f0 f1 f2 f3 f4 f5 f6 f7 f8 f9 f10; have H1 := Lib.hid (H0.out.below b1); clear H0 b1; obtain ⟨⟨k0, k1, k2, k3, k4, k5, k6, k7, k8, k9, k10⟩, ⟨f0, f1, f2, f3, f4, f5, f6, f7, f8, f9, f10⟩⟩ := Bx.b11 (H1.out.held 0 rfl))
  have HS := Lib.hid (H1.out.set11 (.int .i64 mC) (.int .i64 mR) (.int .i64 mS) (.int .i64 mD) (.int .i64 mV) (.int .i64 mN) (.int .i64 mQ) (.int .i64 z) (.slice A1 x1.length q1) (.slice A2 x2.length q2) (.slice A3 x3.length q3))
  clear k0 k1 k2 k3 k4 k5 k6 k7 k8 k9 k10 f0 f1 f2 f3 f4 f5 f6 f7 f8 f9 f10 H1
  generalize (((((((((((w1.setCell ⟨w.heap.size, 0, none⟩ (.int .i64 mC)).setCell ⟨w.heap.size, 1, none⟩ (.int .i64 mR)).setCell ⟨w.heap.size, 2, none⟩ (.int .i64 mS)).setCell ⟨w.heap.size, 3, none⟩ (.int .i64 mD)).setCell ⟨w.heap.size, 4, none⟩ (.int .i64 mV)).setCell ⟨w.heap.size, 5, none⟩ (.int .i64 mN)).setCell ⟨w.heap.size, 6, none⟩ (.int .i64 mQ)).setCell ⟨w.heap.size, 7, none⟩ (.int .i64 z)).setCell ⟨w.heap.size, 8, none⟩ (.slice A1 x1.length q1)).setCell ⟨w.heap.size, 9, none⟩ (.slice A2 x2.length q2)).setCell ⟨w.heap.size, 10, none⟩ (.slice A3 x3.length q3)) = w2 at *
  obtain ⟨⟨k0, k1, k2, k3, k4, k5, k6, k7, k8, k9, k10⟩, _⟩ := Bx.b11 (HS.out.held 0 rfl)
  go_upto_region 3 with (go_at_call 10; with_reducible refine (NW.out _ _ HS.out).mono ?_; rintro e w3 ⟨q, rfl, h3⟩; clear NW HS k0 k1 k2 k3 k4 k5 k6 k7 k8 k9 k10; have H3 := Lib.hid h3; clear h3; obtain ⟨⟨k0, k1, k2, k3, k4, k5, k6, k7, k8, k9, k10⟩, _⟩ := Bx.b11 (H3.out.held 1 rfl))
  have l3 : x3.length ≤ 1000 := (HD.out w (Below.refl _ _)).l3
  by_cases h2 : x3.length < 2
  · have t1 : (x3.length : Int) < 2 := by omega
    have HB := Lib.hid H3.out.bel
    clear H3 HD LVC K
    go_wp2_with (go_at_call 17; with_reducible refine (AW.out _).mono ?_; rintro e w10 ⟨rfl, b10⟩; clear AW; have HF := Lib.hid (HB.out.trans (b10.mono HB.out.size)); clear HB b10)
    go_ret
    exact ⟨rfl, HF.out⟩
  · have t1 : ¬ (x3.length : Int) < 2 := by omega
    obtain ⟨k, hk, p1, p2, p3, p4⟩ := place_is at_ (show 2 ≤ x3.length by omega) l3
    have t2 : ((x3.length : Int) - 1 == 0) = false := beq_eq_false_iff_ne.2 (by omega)
    have t3 : ¬ ((x3.length : Int) - 1 = 0) := by omega
    go_upto_region 5 with fail
    go_quiet (fail)
    rename_i nq
    have H4 := Lib.hid (H3.out.below (Below.dn' (Below.refl _ _) nq))
    clear H3 p1 p2 p3 p4 t1 t2 t3
    clear k0 k1 k2 k3 k4 k5 k6 k7 k8 k9 k10
    have r1 : (k : Int) < (x3.length : Int) := by omega
    have r2 : (k : Int) + 1 < (x3.length : Int) := by omega
    have r3 : ((k : Int) + 1).toNat = k + 1 := by omega
    have r4 : (0 : Int) ≤ (k : Int) + 1 := by omega
    have r5 : IntKind.i64.wrap ((k : Int) + 1) = (k : Int) + 1 := IntWalk.i64_in _ ⟨by omega, by omega⟩
    have hk0 : k < x3.length := by omega
    go_upto_region 6 with fail
    generalize w3.drewN nq = w4 at *
    obtain ⟨⟨k0, k1, k2, k3, k4, k5, k6, k7, k8, k9, k10⟩, _⟩ := Bx.b11 (H4.out.held 1 rfl)
    obtain ⟨g, o, eA, lg, a0, a1, a2, a3, a4, a5, a6, a7, a8, a9, a10, a11, a12, a13, a14, a15⟩ := (HD.out w4 H4.out.bel).r3 k _ (List.getElem?_eq_getElem hk0)
    obtain ⟨g', o', eA', _, b0, b1, b2, b3, b4, b5, b6, b7, b8, b9, b10, b11, b12, b13, b14, b15⟩ := (HD.out w4 H4.out.bel).r3 (k + 1) _ (List.getElem?_eq_getElem hk)
    rw [eA] at eA'
    cases eA'
    subst eA
    have lw := Bx.lt (H4.out.held 1 rfl)
    have OA := Lib.hid fun W => owner_any x3[k] W
    have OB := Lib.hid fun W => owner_any x3[k + 1] W
    have EQ := fun V => eq_id 9998 (Tk.owner x3[k]).1 (Tk.owner x3[k]).2.1 (Tk.owner x3[k]).2.2 (Tk.owner x3[k + 1]).1 (Tk.owner x3[k + 1]).2.1 (Tk.owner x3[k + 1]).2.2 V
    have EB : (((Tk.owner x3[k]).1 == (Tk.owner x3[k + 1]).1) && (((Tk.owner x3[k]).2.1 == (Tk.owner x3[k + 1]).2.1) && ((Tk.owner x3[k]).2.2 == (Tk.owner x3[k + 1]).2.2))) = decide (Tk.owner x3[k] = Tk.owner x3[k + 1]) := by
      rw [Bool.eq_iff_iff]
      simp only [Bool.and_eq_true, beq_iff_eq, decide_eq_true_eq, Prod.ext_iff]
    rw [EB] at EQ
    have TN : Hid (decide (Tk.owner x3[k] = Tk.owner x3[k + 1]) = false → ∀ N, Tk.Un N → Tk.run mC mR mS mD mV z N x2 ((x3.set k x3[k + 1]).set (k + 1) x3[k]) = Tk.run mC mR mS mD mV z N x2 x3) := Lib.hid fun h N hN => by
      obtain ⟨e1, e2⟩ := turn_list hk
      rw [e2]
      conv => rhs; rw [e1]
      exact (Tk.run_eq (Tk.run_turn mC mR mS mD mV z hN x2 (x3.take k) (x3.drop (k + 2)) (by simpa using h))).symm
    generalize decide (Tk.owner x3[k] = Tk.owner x3[k + 1]) = t at *
    clear EB
    obtain ⟨xa, hxa⟩ : ∃ x, x = x3[k] := ⟨_, rfl⟩
    obtain ⟨xb, hxb⟩ : ∃ x, x = x3[k + 1] := ⟨_, rfl⟩
    rw [← hxa] at OA EQ TN a0 a1 a2 a3 a4 a5 a6 a7 a8 a9 a10 a11 a12 a13 a14 a15
    rw [← hxb] at OB EQ TN b0 b1 b2 b3 b4 b5 b6 b7 b8 b9 b10 b11 b12 b13 b14 b15
    generalize (Tk.owner xa).1 = y0 at *
    generalize (Tk.owner xa).2.1 = y1 at *
    generalize (Tk.owner xa).2.2 = y2 at *
    generalize (Tk.owner xb).1 = z0 at *
    generalize (Tk.owner xb).2.1 = z1 at *
    generalize (Tk.owner xb).2.2 = z2 at *
    have hxa' := Lib.hid hxa
    have hxb' := Lib.hid hxb
    clear hxa hxb
    obtain ⟨uk, us_, ui_, ug_, ⟨us, ui, ug, um, ux, uy, uvx, uvy, uh, up, ul⟩, um_⟩ := xa
    obtain ⟨vk, vs_, vi_, vg_, ⟨vs, vi, vg, vm, vx, vy, vvx, vvy, vh, vp, vl⟩, vm_⟩ := xb
    simp only [Cn.val] at *
    simp at EQ
    refine Og.grow 14 (by kernel_rfl) (by kernel_rfl) fun hc hf => ?_
    simp only [List.take_succ_cons, List.take_zero, List.drop_succ_cons, List.drop_zero]
    repeat (refine Og.det [] rfl (fun J hJ => ?_); go_simp; first | (refine hJ _ _ ?_; clear hJ J) | (with_reducible refine ⟨_, fun p => Og.lays (OA.out _), hJ _ _ ?_⟩; clear hJ J) | (with_reducible refine ⟨_, fun p => Og.lays (OB.out _), hJ _ _ ?_⟩; clear hJ J))
    refine Og.fin fun w5 hW => ?_
    simp only [Og.opened_nil]
    have H5 := Lib.hid (H4.out.below hW)
    clear hc hf hW H4 a0 a1 a2 a3 a4 a5 a6 a7 a8 a9 a10 a11 a12 a13 a14 a15 b0 b1 b2 b3 b4 b5 b6 b7 b8 b9 b10 b11 b12 b13 b14 b15 k0 k1 k2 k3 k4 k5 k6 k7 k8 k9 k10 EQ OA OB lg lw
    cases t with
    | true =>
      have HB := Lib.hid H5.out.bel
      clear H5 HD LVC K TN
      go_wp2_with (go_at_call 17; with_reducible refine (AW.out _).mono ?_; rintro e w10 ⟨rfl, b10⟩; clear AW; have HF := Lib.hid (HB.out.trans (b10.mono HB.out.size)); clear HB b10)
      go_ret
      exact ⟨rfl, HF.out⟩
    | false =>
      replace TN := Lib.hid (TN.out rfl)
      obtain ⟨⟨k0, k1, k2, k3, k4, k5, k6, k7, k8, k9, k10⟩, _⟩ := Bx.b11 (H5.out.held 1 rfl)
      go_upto_region 9 with (go_at_call 11; with_reducible refine (LVC.out _ H5.out.bel).mono ?_; rintro e w6 ⟨U, Au, cu, rfl, ho, hlv, hU, b6⟩; clear LVC k0 k1 k2 k3 k4 k5 k6 k7 k8 k9 k10; have H6 := Lib.hid (sep_row H5.out b6 ho); have HL := Lib.hid hlv; clear H5 ho b6 hlv)
      obtain ⟨⟨k0, k1, k2, k3, k4, k5, k6, k7, k8, k9, k10⟩, _⟩ := Bx.b11 (H6.out.held 2 rfl)
      obtain ⟨An, cn, w7, hr, ho, hb⟩ := app_cn w6 (A := some ⟨g, o, none⟩) (cap := q3) (HD.out w6 H6.out.bel).r3 (by omega) 25
      have HR := Lib.hid hr
      have H7 := Lib.hid (sep_row H6.out hb ho)
      have tx0 : w.heap.size < w6.heap.size := Bx.lt (H6.out.held 2 rfl)
      clear hr ho hb H6
      go_upto_region 10 with (at_builtin; refine wpList_append _ rfl (.tmp 70) (.tmp 72) _ _ rfl _ _ rfl rfl _ _ HR.out ?_; clear HR k0 k1 k2 k3 k4 k5 k6 k7 k8 k9 k10)
      obtain ⟨g2, o2, c2, e, _, _, _⟩ := (H7.out.rows 0 rfl).at_ (List.getElem?_eq_getElem hk0)
      cases e
      have gx0 : x3[k]? = some ⟨uk, us_, ui_, ug_, ⟨us, ui, ug, um, ux, uy, uvx, uvy, uh, up, ul⟩, um_⟩ := by rw [hxa'.out]; exact List.getElem?_eq_getElem hk0
      have gx1 : x3[k + 1]? = some ⟨vk, vs_, vi_, vg_, ⟨vs, vi, vg, vm, vx, vy, vvx, vvy, vh, vp, vl⟩, vm_⟩ := by rw [hxb'.out]; exact List.getElem?_eq_getElem hk
      obtain ⟨⟨a0, a1, a2, a3, a4, a5, a6, a7, a8, a9, a10, a11, a12, a13, a14, a15⟩, _⟩ := cn_at (H7.out.rows 0 rfl) gx0
      simp only at a0 a1 a2 a3 a4 a5 a6 a7 a8 a9 a10 a11 a12 a13 a14 a15
      have H8 := Lib.hid (sep_box H7.out (.cells #[.int .i64 uk, .int .i64 us_, .int .i64 ui_, .int .i64 ug_, .int .i64 us, .int .i64 ui, .int .i64 ug, .int .i64 um, .int .i64 ux, .int .i64 uy, .int .i64 uvx, .int .i64 uvy, .int .i64 uh, .int .i64 up, .int .i64 ul, .int .i64 um_] 55))
      clear H7
      go_upto_region 11 with fail
      clear a0 a1 a2 a3 a4 a5 a6 a7 a8 a9 a10 a11 a12 a13 a14 a15
      generalize w7.alloc (.cells #[.int .i64 uk, .int .i64 us_, .int .i64 ui_, .int .i64 ug_, .int .i64 us, .int .i64 ui, .int .i64 ug, .int .i64 um, .int .i64 ux, .int .i64 uy, .int .i64 uvx, .int .i64 uvy, .int .i64 uh, .int .i64 up, .int .i64 ul, .int .i64 um_] 55) = w8 at *
      generalize w7.heap.size = bx at *
      have L1 := Lib.hid (cn_get (x := ⟨vk, vs_, vi_, vg_, ⟨vs, vi, vg, vm, vx, vy, vvx, vvy, vh, vp, vl⟩, vm_⟩) (cn_at (H8.out.rows 1 rfl) gx1).1)
      obtain ⟨w9, hs1, h9⟩ := cn_put (H8.out.pull 1 rfl) rfl hk0 ⟨vk, vs_, vi_, vg_, ⟨vs, vi, vg, vm, vx, vy, vvx, vvy, vh, vp, vl⟩, vm_⟩
      have S1 := Lib.hid hs1
      have H9 := Lib.hid h9
      clear hs1 h9 H8
      have gx2 : (x3.set k ⟨vk, vs_, vi_, vg_, ⟨vs, vi, vg, vm, vx, vy, vvx, vvy, vh, vp, vl⟩, vm_⟩)[k + 1]? = some ⟨vk, vs_, vi_, vg_, ⟨vs, vi, vg, vm, vx, vy, vvx, vvy, vh, vp, vl⟩, vm_⟩ := by rw [List.getElem?_set_ne (by omega)]; exact gx1
      have L2 := Lib.hid (cn_get (x := ⟨uk, us_, ui_, ug_, ⟨us, ui, ug, um, ux, uy, uvx, uvy, uh, up, ul⟩, um_⟩) (Bx.b16 (H9.out.held 1 rfl)).1)
      obtain ⟨w10, hs2, h10⟩ := cn_put H9.out (List.length_set ..) hk ⟨uk, us_, ui_, ug_, ⟨us, ui, ug, um, ux, uy, uvx, uvy, uh, up, ul⟩, um_⟩
      have S2 := Lib.hid hs2
      have H10 := Lib.hid h10
      clear hs2 h10 H9
      simp only [Cn.val] at L1 L2 S1 S2
      refine wp_region_lit ?_
      iterate 6 (refine wpList_plain rfl (fun K2 hK0 => ?_); (have hK := Lib.hid hK0); clear hK0; go_simp; refine hK.out _ _ ?_; clear hK K2)
      refine wpList_load _ rfl 55 (.tmp 83) rfl ⟨g2, o2 + (k + 1) * 16, none⟩ rfl L1.out ?_
      iterate 1 (refine wpList_plain rfl (fun K2 hK0 => ?_); (have hK := Lib.hid hK0); clear hK0; go_simp; refine hK.out _ _ ?_; clear hK K2)
      refine wpList_store _ rfl 55 (.tmp 85) (.tmp 84) rfl ⟨g2, o2 + k * 16, none⟩ _ rfl rfl S1.out ?_
      refine wpList_nil ?_
      clear L1 S1
      go_upto_region 12 with fail
      refine wp_region_lit ?_
      iterate 3 (refine wpList_plain rfl (fun K2 hK0 => ?_); (have hK := Lib.hid hK0); clear hK0; go_simp; refine hK.out _ _ ?_; clear hK K2)
      refine wpList_load _ rfl 55 (.tmp 10) rfl ⟨bx, 0, none⟩ rfl L2.out ?_
      iterate 1 (refine wpList_plain rfl (fun K2 hK0 => ?_); (have hK := Lib.hid hK0); clear hK0; go_simp; refine hK.out _ _ ?_; clear hK K2)
      refine wpList_store _ rfl 55 (.tmp 90) (.tmp 89) rfl ⟨g2, o2 + (k + 1) * 16, none⟩ _ rfl rfl S2.out ?_
      refine wpList_nil ?_
      clear L2 S2 gx0 gx1 gx2
      obtain ⟨rr, hrr⟩ : ∃ rr, rr = Tk.run mC mR mS mD mV z U x2 x3 := ⟨_, rfl⟩
      have lr := Tk.run_len mC mR mS mD mV z U x2 x3
      rw [← hrr] at lr
      have eR := TN.out U HL.out.un
      rw [← hrr] at eR
      have fT : ∀ c ∈ (x3.set k ⟨vk, vs_, vi_, vg_, ⟨vs, vi, vg, vm, vx, vy, vvx, vvy, vh, vp, vl⟩, vm_⟩).set (k + 1) ⟨uk, us_, ui_, ug_, ⟨us, ui, ug, um, ux, uy, uvx, uvy, uh, up, ul⟩, um_⟩, CFit c := fun c hc => by
        have f3 := (HD.out w10 H10.out.bel).f3
        rcases List.mem_or_eq_of_mem_set hc with h | h
        · rcases List.mem_or_eq_of_mem_set h with h | h
          · exact f3 c h
          · rw [h, hxb'.out]; exact f3 _ (List.getElem_mem hk)
        · rw [h, hxa'.out]; exact f3 _ (List.getElem_mem hk0)
      have rT := H10.out.rows 0 rfl
      have lT : ((x3.set k ⟨vk, vs_, vi_, vg_, ⟨vs, vi, vg, vm, vx, vy, vvx, vvy, vh, vp, vl⟩, vm_⟩).set (k + 1) ⟨uk, us_, ui_, ug_, ⟨us, ui, ug, um, ux, uy, uvx, uvy, uh, up, ul⟩, um_⟩).length = x3.length := by rw [List.length_set, List.length_set]
      obtain ⟨cT, hcT⟩ : ∃ c, c = cn := ⟨_, rfl⟩
      generalize (x3.set k ⟨vk, vs_, vi_, vg_, ⟨vs, vi, vg, vm, vx, vy, vvx, vvy, vh, vp, vl⟩, vm_⟩).set (k + 1) ⟨uk, us_, ui_, ug_, ⟨us, ui, ug, um, ux, uy, uvx, uvy, uh, up, ul⟩, um_⟩ = xT at fT rT lT eR
      have rdT : RdC w10 w10.heap.size (some ⟨g2, o2, none⟩) xT := RdC.of_own (show OwnC w10 0 (.slice (some ⟨g2, o2, none⟩) xT.length cn) xT by rw [lT]; exact rT)
      have dT := (show OwnC w10 0 (.slice (some ⟨g2, o2, none⟩) xT.length cn) xT by rw [lT]; exact rT)
      obtain ⟨wq, hwq⟩ : ∃ q, q = w10 := ⟨_, rfl⟩
      have hh1 : Hand w10 Au A2 (some ⟨g, o, none⟩) U x2 x3 := ⟨RdB.of_own (H10.out.rows 2 rfl), (HD.out w10 H10.out.bel).r2, (HD.out w10 H10.out.bel).r3, by omega, lx2, l3, HL.out.fits, (HD.out w10 H10.out.bel).f2, (HD.out w10 H10.out.bel).f3⟩
      have hh2 : Hand w10 Au A2 (some ⟨g2, o2, none⟩) U x2 xT := ⟨RdB.of_own (H10.out.rows 2 rfl), (HD.out w10 H10.out.bel).r2, rdT, by omega, lx2, by omega, HL.out.fits, (HD.out w10 H10.out.bel).f2, fT⟩
      have uU := HL.out.un
      have KA : Hid (∀ p : Lat grows w10, Calls Tryz.prog 13 #[.pointer (some ⟨q, 0, none⟩), .int .i64 z, .slice Au U.length cu, .slice A2 x2.length q2, .slice (some ⟨g, o, none⟩) x3.length q3] p.W fun e V => ∃ v, e = .returned v ∧ grows.r p.W V ∧ LeftP w10.heap.size rr v V) := Lib.hid fun p => by
        have := K.run mC mR mS mD mV mN mQ z p.W q Au A2 (some ⟨g, o, none⟩) cu q2 q3 U x2 x3 (MapAt.below (H10.out.held 3 rfl) (zlat_below p)) ok hz (hh1.below (zlat_below p)) (.inl uU)
        rw [← hrr] at this
        exact left_call p.h.size this
      have KB : Hid (∀ p : Lat grows w10, Calls Tryz.prog 13 #[.pointer (some ⟨q, 0, none⟩), .int .i64 z, .slice Au U.length cu, .slice A2 x2.length q2, .slice (some ⟨g2, o2, none⟩) x3.length cn] p.W fun e V => ∃ v, e = .returned v ∧ grows.r p.W V ∧ LeftP w10.heap.size rr v V) := Lib.hid fun p => by
        have := K.run mC mR mS mD mV mN mQ z p.W q Au A2 (some ⟨g2, o2, none⟩) cu q2 cn U x2 xT (MapAt.below (H10.out.held 3 rfl) (zlat_below p)) ok hz (hh2.below (zlat_below p)) (.inl uU)
        rw [eR, lT] at this
        exact left_call p.h.size this
      have lr1 : rr.1.length ≤ 1000000 := by omega
      have lr2 : rr.2.1.length ≤ 1000000 := by omega
      have lr3 : rr.2.2.length ≤ 1000000 := by omega
      clear hh1 hh2 rdT dT fT rT lT eR uU hrr lr K HL HD ok TN hcT hwq
      obtain ⟨⟨k0, k1, k2, k3, k4, k5, k6, k7, k8, k9, k10⟩, _⟩ := Bx.b11 (H10.out.held 4 rfl)
      have t0 : w.heap.size < w10.heap.size := Bx.lt (H10.out.held 4 rfl)
      have HB0 := Lib.hid H10.out.bel
      clear H10 hxa' hxb'
      go_upto_region 13 with fail
      refine Og.grow 19 (by kernel_rfl) (by kernel_rfl) fun hc hf => ?_
      simp only [List.take_succ_cons, List.take_zero, List.drop_succ_cons, List.drop_zero]
      iterate 8 (refine Og.det [] rfl (fun J hJ => ?_); go_simp; refine hJ _ _ ?_; clear hJ J)
      refine Og.such 99 (LeftP w10.heap.size rr) [] rfl (left_lasts _ _) (left_noBool _ _) (fun J hJ => ?_)
      go_simp
      refine ⟨fun p => KA.out p, hJ _ _ ?_⟩
      clear hJ J
      iterate 7 (refine Og.det [] rfl (fun J hJ => ?_); go_simp; refine hJ _ _ ?_; clear hJ J)
      refine Og.such 107 (LeftP w10.heap.size rr) [] rfl (left_lasts _ _) (left_noBool _ _) (fun J hJ => ?_)
      go_simp
      refine ⟨fun p => KB.out p, hJ _ _ ?_⟩
      clear hJ J
      refine Og.such 11 (Og.Box w10.heap.size #[.slice none 0 0, .slice none 0 0, .slice none 0 0] 35) [] rfl (Og.Box.lasts _ _ _) (Og.Box.noBool _ _ _) (fun J hJ => ?_)
      go_simp
      refine ⟨fun p => Og.Box.new p.W _ p.h.size _ _, hJ _ _ ?_⟩
      clear hJ J
      refine Og.such 12 (Og.Box w10.heap.size #[.slice none 0 0, .slice none 0 0, .slice none 0 0] 35) [] rfl (Og.Box.lasts _ _ _) (Og.Box.noBool _ _ _) (fun J hJ => ?_)
      go_simp
      refine ⟨fun p => Og.Box.new p.W _ p.h.size _ _, hJ _ _ ?_⟩
      clear hJ J hc hf
      refine Og.fin fun W hW => ?_
      simp only [Og.opened_cons, Og.opened_nil]
      rintro _ ⟨b12, rfl, hb12, hl12, hv12⟩ _ ⟨b11, rfl, hb11, hl11, hv11⟩ _ ⟨D1, D2, D3, d1, d2, d3, rfl, hd⟩ _ ⟨C1, C2, C3, c1, c2, c3, rfl, hcc⟩
      have HB := Lib.hid (HB0.out.trans (hW.mono HB0.out.size))
      have s0 := HB0.out.size
      clear hW KA KB HB0 k0 k1 k2 k3 k4 k5 k6 k7 k8 k9 k10
      obtain ⟨_, ⟨f0, f1, f2⟩⟩ := Bx.b3 hv11
      obtain ⟨_, ⟨h0, h1, h2⟩⟩ := Bx.b3 hv12
      obtain ⟨⟨j0, j1, j2⟩, E1, E2, E3, e1, e2, e3, hX1, hX2, rX1, rX2⟩ := two_results (show ResAt W _ rr C1 C2 C3 c1 c2 c3 from hcc) (show ResAt W _ rr D1 D2 D3 d1 d2 d3 from hd) hv11 hv12 rfl rfl
      obtain ⟨y0, y1, y2, o0, o1, o2⟩ := cell_after hv11 hv12 (.slice C1 rr.1.length c1) (.slice C2 rr.2.1.length c2) (.slice C3 rr.2.2.length c3)
      have HC := ((((((HB.out.setCell (p := ⟨b11, 0, none⟩) (by show w.heap.size ≤ b11; omega) (.slice C1 rr.1.length c1)).setCell (p := ⟨b11, 1, none⟩) (by show w.heap.size ≤ b11; omega) (.slice C2 rr.2.1.length c2)).setCell (p := ⟨b11, 2, none⟩) (by show w.heap.size ≤ b11; omega) (.slice C3 rr.2.2.length c3)).setCell (p := ⟨b12, 0, none⟩) (by show w.heap.size ≤ b12; omega) (.slice D1 rr.1.length d1)).setCell (p := ⟨b12, 1, none⟩) (by show w.heap.size ≤ b12; omega) (.slice D2 rr.2.1.length d2)).setCell (p := ⟨b12, 2, none⟩) (by show w.heap.size ≤ b12; omega) (.slice D3 rr.2.2.length d3))
      replace HC := Lib.hid HC
      clear hd hcc hv11 hv12 HB
      have SR := Lib.hid (same_res (a1 := e1) (a2 := e2) (a3 := e3) (b1 := d1) (b2 := d2) (b3 := d3) (RdB.of_own rX1.1) (RdB.of_own rX1.2.1) (RdI3.of_own rX1.2.2) (RdB.of_own rX2.1) (RdB.of_own rX2.2.1) (RdI3.of_own rX2.2.2) lr1 lr2 lr3)
      have HX1 := Lib.hid hX1
      have HX2 := Lib.hid hX2
      clear hX1 hX2 rX1 rX2 lr1 lr2 lr3 hb11 hb12 hl11 hl12 s0 t0 o0 o1 o2 j0 j1 j2
      generalize rr.1.length = n4 at *
      generalize rr.2.1.length = n5 at *
      generalize rr.2.2.length = n6 at *
      obtain ⟨w8, hw8⟩ : ∃ x, x = (((((W.setCell ⟨b11, 0, none⟩ (.slice C1 n4 c1)).setCell ⟨b11, 1, none⟩ (.slice C2 n5 c2)).setCell ⟨b11, 2, none⟩ (.slice C3 n6 c3)).setCell ⟨b12, 0, none⟩ (.slice D1 n4 d1)).setCell ⟨b12, 1, none⟩ (.slice D2 n5 d2)).setCell ⟨b12, 2, none⟩ (.slice D3 n6 d3) := ⟨_, rfl⟩
      rw [← hw8] at HC HX1 HX2 SR
      replace hw8 := Lib.hid hw8
      have e0 : Hid (b12 = b11 ∨ b12 ≠ b11) := Lib.hid (by omega)
      rcases e0.out with e | e
      · subst e
        clear e0
        go_upto_region 14 with fail
        rw [← hw8.out]
        have hq := HX1.out.symm.trans HX2.out
        simp at hq
        obtain ⟨⟨rfl, rfl⟩, ⟨rfl, rfl⟩, rfl, rfl⟩ := hq
        clear HX2
        have HX2 := HX1
        clear f0 f1 f2 h0 h1 h2 hw8
        obtain ⟨⟨k0, k1, k2⟩, _⟩ := Bx.b3 HX1.out
        obtain ⟨⟨m0, m1, m2⟩, _⟩ := Bx.b3 HX2.out
        clear HX1 HX2
        go_wp2_with (first
          | (go_at_call 19; with_reducible refine SR.out.mono ?_; rintro e w9 ⟨rfl, b9⟩; clear SR k0 k1 k2 m0 m1 m2; have HE := Lib.hid (HC.out.trans (b9.mono HC.out.size)); clear HC b9)
          | (go_at_call 17; with_reducible refine (AW.out _).mono ?_; rintro e w10 ⟨rfl, b10⟩; clear AW; have HF := Lib.hid (HE.out.trans (b10.mono HE.out.size)); clear HE b10))
        go_ret
        exact ⟨rfl, HF.out⟩
      · have e' : b11 ≠ b12 := fun h => e h.symm
        clear e0
        go_upto_region 14 with fail
        rw [← hw8.out]
        clear f0 f1 f2 h0 h1 h2 hw8
        obtain ⟨⟨k0, k1, k2⟩, _⟩ := Bx.b3 HX1.out
        obtain ⟨⟨m0, m1, m2⟩, _⟩ := Bx.b3 HX2.out
        clear HX1 HX2
        go_wp2_with (first
          | (go_at_call 19; with_reducible refine SR.out.mono ?_; rintro e w9 ⟨rfl, b9⟩; clear SR k0 k1 k2 m0 m1 m2; have HE := Lib.hid (HC.out.trans (b9.mono HC.out.size)); clear HC b9)
          | (go_at_call 17; with_reducible refine (AW.out _).mono ?_; rintro e w10 ⟨rfl, b10⟩; clear AW; have HF := Lib.hid (HE.out.trans (b10.mono HE.out.size)); clear HE b10))
        go_ret
        exact ⟨rfl, HF.out⟩
end Go.Proofs.YtljaahemlcaffaaGreat
