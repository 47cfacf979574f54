/- The order in which entities are handed in does not matter. Written by wip/tools/gentk.py. -/
import Derived.Test.YtljaahemlcaffaaGreatK40
import Derived.Test.YtljaahemlcaffaaGreatK41
import Derived.Test.YtljaahemlcaffaaGreatK26
namespace Go.Proofs.YtljaahemlcaffaaGreat
open Go.RowKit Pz Sp
set_option linter.unusedVariables false
set_option linter.unusedSimpArgs false

/-- the power of one of a row is another one -/
theorem sep_pow {w W : World} {L : List Piece} {g o n c : Nat} {R : List Bn} (h : Sep w (rowB (.slice (some ⟨g, o, none⟩) n c) R :: L) W) {i : Nat} {x : Bn} (hx : R[i]? = some x) (y : Int) : Sep w (rowB (.slice (some ⟨g, o, none⟩) n c) (R.set i { x with p := y }) :: L) (W.setCell ⟨g, o + i * 11 + 9, none⟩ (.int .i64 y)) := by
  obtain ⟨G, ⟨h1, h2⟩, _, next⟩ := h.one
  refine next _ (rowB (.slice (some ⟨g, o, none⟩) n c) (R.set i { x with p := y })) G (Only.set (Only.refl _ _) (.inl ((h2 g).2 rfl)) _) ⟨?_, h2⟩ fun k hk => .inl hk
  have hi := (List.getElem?_eq_some_iff.1 hx).1
  rcases h1 with ⟨e, _⟩ | ⟨g', o', cap, cur, e, q1, q2, q3, q4, q5, q6⟩
  · cases e
  · cases e
    refine .inr ⟨g, o, c, cur.setIfInBounds (o + i * 11 + 9) (.int .i64 y), by rw [List.length_set], q1, Bx.set q2 _, by rw [List.length_set]; exact q3, q4, by rw [Array.size_setIfInBounds]; exact q5, fun j z hj c2 u hu => ?_⟩
    have hc2 : c2 < 11 := (List.getElem?_eq_some_iff.1 hu).1
    by_cases hji : j = i
    · subst hji
      rw [List.getElem?_set_self hi] at hj
      cases hj
      by_cases h9 : c2 = 9
      · subst h9
        have e1 : u = .int .i64 y := by simpa [bnE] using hu.symm
        rw [e1, ← Nat.add_assoc, Array.getElem?_setIfInBounds, if_pos rfl, if_pos (by omega)]
      · rw [Array.getElem?_setIfInBounds_ne (by omega)]
        refine q6 j x hx c2 u ?_
        have : c2 = 0 ∨ c2 = 1 ∨ c2 = 2 ∨ c2 = 3 ∨ c2 = 4 ∨ c2 = 5 ∨ c2 = 6 ∨ c2 = 7 ∨ c2 = 8 ∨ c2 = 10 := by omega
        rcases this with rfl | rfl | rfl | rfl | rfl | rfl | rfl | rfl | rfl | rfl <;> exact hu
    · rw [List.getElem?_set_ne (fun e => hji e.symm)] at hj
      rw [Array.getElem?_setIfInBounds_ne (by omega)]
      exact q6 j z hj c2 u hu
namespace Tk
def pz (b : Bn) : Bn := { b with p := max 0 b.p }
theorem pz_fits {b : Bn} (h : b.Fits) : (pz b).Fits := ⟨h.s, h.i, h.g, h.m, h.x, h.y, h.vx, h.vy, h.h, by have := h.p; unfold Fit at this ⊢; show -9223372036854775808 ≤ max 0 b.p ∧ max 0 b.p ≤ 9223372036854775807; omega, h.l⟩
def nl (l : List Bn) (k : Nat) : List Bn := l.take k ++ (l.drop k).map pz
theorem nl_at {l : List Bn} {k : Nat} (h : k < l.length) : (nl l (k + 1))[k]? = some l[k] := by
  unfold nl
  rw [List.getElem?_append_left (by rw [List.length_take]; omega), List.getElem?_take, if_pos (by omega), List.getElem?_eq_getElem h]
theorem nl_set {l : List Bn} {k : Nat} (h : k < l.length) : (nl l (k + 1)).set k (pz l[k]) = nl l k := by
  unfold nl
  rw [List.set_append_left _ _ (by rw [List.length_take]; omega), List.take_succ_eq_append_getElem h, List.set_append_right _ _ (by rw [List.length_take]; omega), List.length_take, Nat.min_eq_left (by omega), Nat.sub_self, List.set_cons_zero, List.append_assoc, List.drop_eq_getElem_cons h]
  rfl
theorem nl_len {l : List Bn} (k : Nat) : (nl l k).length = l.length := by
  unfold nl
  rw [List.length_append, List.length_map, List.length_take, List.length_drop]
  omega
theorem nl_zero (l : List Bn) : nl l 0 = l.map pz := by unfold nl; simp
theorem nl_all (l : List Bn) : nl l l.length = l := by unfold nl; simp
theorem rev_next {α : Type} {l : List α} {k : Nat} (h : k < l.length) : (l.drop (k + 1)).reverse ++ [l[k]] = (l.drop k).reverse := by
  rw [List.drop_eq_getElem_cons h, List.reverse_cons]
end Tk
/-- the cell of a box after a write into a box that may be the same -/
theorem cell_after {W : World} {b d T : Nat} {v0 v1 v2 : Value} (hb : W.heap[b]? = some (.cells #[v0, v1, v2] T (0, 0))) (hd : W.heap[d]? = some (.cells #[v0, v1, v2] T (0, 0))) (x y z : Value) : ∃ p q r, (W.setCell ⟨b, 0, none⟩ x).cell? ⟨d, 0, none⟩ = some p ∧ (W.setCell ⟨b, 1, none⟩ y).cell? ⟨d, 1, none⟩ = some q ∧ (W.setCell ⟨b, 2, none⟩ z).cell? ⟨d, 2, none⟩ = some r := by
  by_cases e : d = b
  · subst e
    exact ⟨x, y, z, (Bx.cell (Bx.set hb x) (o := 0) rfl).1, (Bx.cell (Bx.set hb y) (o := 1) rfl).1, (Bx.cell (Bx.set hb z) (o := 2) rfl).1⟩
  · exact ⟨v0, v1, v2, (Bx.cell ((Bx.ne e x).trans hd) (o := 0) rfl).1, (Bx.cell ((Bx.ne e y).trans hd) (o := 1) rfl).1, (Bx.cell ((Bx.ne e z).trans hd) (o := 2) rfl).1⟩
set_option maxHeartbeats 8000000 in
set_option maxRecDepth 100000 in
theorem law_order (K : TkCt) (w : World) (c0C c0R c0S c0D c0V c0N c0Q z : Int) (A1 A2 A3 : Option Addr) (q1 q2 q3 : Nat) (own near : List Bn) (cs : List Cn) (hG : Given w A1 A2 A3 q1 q2 q3 own near cs) (hz : Fit z) :
    Calls Tryz.prog 4 #[.agg #[.int .i64 c0C, .int .i64 c0R, .int .i64 c0S, .int .i64 c0D, .int .i64 c0V, .int .i64 c0N, .int .i64 c0Q, .int .i64 z, .slice A1 own.length q1, .slice A2 near.length q2, .slice A3 cs.length q3]] w fun e w' => e = .returned (.bool true) ∧ Below w.heap.size w w' := by
  have HD := Lib.hid fun V (hV : Below w.heap.size w V) => hG.hand.below hV
  have FW : Hid (∀ V, Calls Tryz.prog 18 #[.agg #[.int .i64 c0C, .int .i64 c0R, .int .i64 c0S, .int .i64 c0D, .int .i64 c0V, .int .i64 c0N, .int .i64 c0Q, .int .i64 z, .slice A1 own.length q1, .slice A2 near.length q2, .slice A3 cs.length q3]] V fun e V' => e = .returned (.agg #[.int .i64 (Zn.mC c0C), .int .i64 (Zn.mC c0R), .int .i64 (Zn.mS c0S), .int .i64 (Zn.mD c0S c0D), .int .i64 (Zn.mD c0S c0V), .int .i64 (Zn.mN c0N), .int .i64 (Zn.mQ c0Q), .int .i64 z, .slice A1 (own.take 40).length q1, .slice A2 (near.take 40).length q2, .slice A3 (cs.take 40).length q3]) ∧ Below V.heap.size V V') := Lib.hid fun V => by
    have := few15_any c0C c0R c0S c0D c0V c0N c0Q z (A1 := A1) (A2 := A2) (A3 := A3) hG.c1 hG.c2 hG.c3 V
    rw [List.length_take, List.length_take, List.length_take, Nat.min_comm 40, Nat.min_comm 40, Nat.min_comm 40]
    exact this
  have ok := Zn.may_ok c0C c0R c0S c0D c0V
  have okb := Zn.may_okB c0C c0R c0S c0D c0V c0N c0Q
  have AW := Lib.hid K.awake
  generalize (Zn.mC c0C) = mC at *
  generalize (Zn.mC c0R) = mR at *
  generalize (Zn.mD c0S c0D) = mD at *
  generalize (Zn.mD c0S c0V) = mV at *
  generalize (Zn.mS c0S) = mS at *
  generalize (Zn.mN c0N) = mN at *
  generalize (Zn.mQ c0Q) = mQ at *
  have NW : Hid (∀ L W, Sep w L W → Calls Tryz.prog 10 #[.agg #[.int .i64 mC, .int .i64 mR, .int .i64 mS, .int .i64 mD, .int .i64 mV, .int .i64 mN, .int .i64 mQ]] W fun e W' => ∃ q, e = .returned (.tuple #[.pointer (some ⟨q, 0, none⟩), .int .i64 0]) ∧ Sep w (box q (.cells #[.int .i64 mC, .int .i64 mR, .int .i64 mS, .int .i64 mD, .int .i64 mV, .int .i64 mN, .int .i64 mQ] 68) :: L) W') := Lib.hid fun L W hW => (new_yes mC mR mS mD mV mN mQ W okb).mono fun e W' ⟨q, a, b, c, d⟩ => ⟨q, a, sep_map' hW d c b⟩
  clear hG okb
  generalize own.length = n1 at *
  generalize near.length = n2 at *
  generalize cs.length = n3 at *
  generalize own.take 40 = x1 at *
  generalize near.take 40 = x2 at *
  generalize cs.take 40 = x3 at *
  have LVC := Lib.hid fun V (hV : Below w.heap.size w V) => living_any (c := q1) mC mR mS mD mV mN mQ ok (HD.out V hV).r1 (by have := (HD.out V hV).l1; omega) (HD.out V hV).f1
  have lx2 : x2.length ≤ 1000 := (HD.out w (Below.refl _ _)).l2
  have H0 : Hid (Sep w [box w.heap.size (.cells #[.int .i64 c0C, .int .i64 c0R, .int .i64 c0S, .int .i64 c0D, .int .i64 c0V, .int .i64 c0N, .int .i64 c0Q, .int .i64 z, .slice A1 n1 q1, .slice A2 n2 q2, .slice A3 n3 q3] 48)] (w.alloc (.cells #[.int .i64 c0C, .int .i64 c0R, .int .i64 c0S, .int .i64 c0D, .int .i64 c0V, .int .i64 c0N, .int .i64 c0Q, .int .i64 z, .slice A1 n1 q1, .slice A2 n2 q2, .slice A3 n3 q3] 48))) := Lib.hid (sep_box (sep_new w) _)
  go_enter Tryz.func4, Tryz.ntmps4
  go_upto_region 1 with fail
  generalize w.alloc (.cells #[.int .i64 c0C, .int .i64 c0R, .int .i64 c0S, .int .i64 c0D, .int .i64 c0V, .int .i64 c0N, .int .i64 c0Q, .int .i64 z, .slice A1 n1 q1, .slice A2 n2 q2, .slice A3 n3 q3] 48) = w0 at *
  obtain ⟨⟨k0, k1, k2, k3, k4, k5, k6, k7, k8, k9, k10⟩, ⟨f0, f1, f2, f3, f4, f5, f6, f7, f8, f9, f10⟩⟩ := Bx.b11 (H0.out.held 0 rfl)
  go_upto_region 2 with (go_at_call 18; with_reducible refine (FW.out _).mono ?_; rintro e w1 ⟨rfl, b1⟩; clear FW k0 k1 k2 k3 k4 k5 k6 k7 k8 k9 k10 f0 f1 f2 f3 f4 f5 f6 f7 f8 f9 f10; have H1 := Lib.hid (H0.out.below b1); clear H0 b1; obtain ⟨⟨k0, k1, k2, k3, k4, k5, k6, k7, k8, k9, k10⟩, ⟨f0, f1, f2, f3, f4, f5, f6, f7, f8, f9, f10⟩⟩ := Bx.b11 (H1.out.held 0 rfl))
  have HS := Lib.hid (H1.out.set11 (.int .i64 mC) (.int .i64 mR) (.int .i64 mS) (.int .i64 mD) (.int .i64 mV) (.int .i64 mN) (.int .i64 mQ) (.int .i64 z) (.slice A1 x1.length q1) (.slice A2 x2.length q2) (.slice A3 x3.length q3))
  clear k0 k1 k2 k3 k4 k5 k6 k7 k8 k9 k10 f0 f1 f2 f3 f4 f5 f6 f7 f8 f9 f10 H1
  generalize (((((((((((w1.setCell ⟨w.heap.size, 0, none⟩ (.int .i64 mC)).setCell ⟨w.heap.size, 1, none⟩ (.int .i64 mR)).setCell ⟨w.heap.size, 2, none⟩ (.int .i64 mS)).setCell ⟨w.heap.size, 3, none⟩ (.int .i64 mD)).setCell ⟨w.heap.size, 4, none⟩ (.int .i64 mV)).setCell ⟨w.heap.size, 5, none⟩ (.int .i64 mN)).setCell ⟨w.heap.size, 6, none⟩ (.int .i64 mQ)).setCell ⟨w.heap.size, 7, none⟩ (.int .i64 z)).setCell ⟨w.heap.size, 8, none⟩ (.slice A1 x1.length q1)).setCell ⟨w.heap.size, 9, none⟩ (.slice A2 x2.length q2)).setCell ⟨w.heap.size, 10, none⟩ (.slice A3 x3.length q3)) = w2 at *
  obtain ⟨⟨k0, k1, k2, k3, k4, k5, k6, k7, k8, k9, k10⟩, _⟩ := Bx.b11 (HS.out.held 0 rfl)
  go_upto_region 3 with (go_at_call 10; with_reducible refine (NW.out _ _ HS.out).mono ?_; rintro e w3 ⟨q, rfl, h3⟩; clear NW HS k0 k1 k2 k3 k4 k5 k6 k7 k8 k9 k10; have H3 := Lib.hid h3; clear h3; obtain ⟨⟨k0, k1, k2, k3, k4, k5, k6, k7, k8, k9, k10⟩, _⟩ := Bx.b11 (H3.out.held 1 rfl))
  go_upto_region 4 with (go_at_call 11; with_reducible refine (LVC.out _ H3.out.bel).mono ?_; rintro e w4 ⟨U, Au, cu, rfl, ho, hlv, hU, b4⟩; clear LVC k0 k1 k2 k3 k4 k5 k6 k7 k8 k9 k10; have H4 := Lib.hid (sep_row H3.out b4 ho); have HL := Lib.hid hlv; clear H3 ho b4 hlv)
  obtain ⟨⟨k0, k1, k2, k3, k4, k5, k6, k7, k8, k9, k10⟩, _⟩ := Bx.b11 (H4.out.held 2 rfl)
  obtain ⟨An, cn, w5, hr, ho, hb⟩ := app_bn w4 (cap := q2) (HD.out w4 H4.out.bel).r2 (by omega) 24
  have HR := Lib.hid hr
  have H5 : Hid (Sep w [rowB (.slice none (0 : Nat) 0) [], rowB (.slice An x2.length cn) x2, rowB (.slice Au U.length cu) U, box q (.cells #[.int .i64 mC, .int .i64 mR, .int .i64 mS, .int .i64 mD, .int .i64 mV, .int .i64 mN, .int .i64 mQ] 68), box w.heap.size (.cells #[.int .i64 mC, .int .i64 mR, .int .i64 mS, .int .i64 mD, .int .i64 mV, .int .i64 mN, .int .i64 mQ, .int .i64 z, .slice A1 x1.length q1, .slice A2 x2.length q2, .slice A3 x3.length q3] 48)] w5) := Lib.hid (row_none bnE 42 11 (sep_row H4.out hb ho))
  have tx0 : w.heap.size < w4.heap.size := Bx.lt (H4.out.held 2 rfl)
  clear hr ho hb H4
  have tU : (U.length : Int) ≤ 60 := by omega
  have wl : IntKind.i64.wrap ((U.length : Int) - 1) = (U.length : Int) - 1 := IntWalk.i64_in _ ⟨by omega, by omega⟩
  have tx : (x2.length : Int) ≤ 1000 := by omega
  have wl2 : IntKind.i64.wrap ((x2.length : Int) - 1) = (x2.length : Int) - 1 := IntWalk.i64_in _ ⟨by omega, by omega⟩
  go_wp2_with (at_builtin; refine wpList_append _ rfl (.tmp 26) (.tmp 28) _ _ rfl _ _ rfl rfl _ _ HR.out ?_; clear HR k0 k1 k2 k3 k4 k5 k6 k7 k8 k9 k10)
  go_loopw [7, 9] (fun v s wr => (∃ k : Nat, k < U.length ∧ s = .int .i64 k ∧ Hid (Sep w [rowB v (U.drop (k + 1)).reverse, rowB (.slice An x2.length cn) x2, rowB (.slice Au U.length cu) U, box q (.cells #[.int .i64 mC, .int .i64 mR, .int .i64 mS, .int .i64 mD, .int .i64 mV, .int .i64 mN, .int .i64 mQ] 68), box w.heap.size (.cells #[.int .i64 mC, .int .i64 mR, .int .i64 mS, .int .i64 mD, .int .i64 mV, .int .i64 mN, .int .i64 mQ, .int .i64 z, .slice A1 x1.length q1, .slice A2 x2.length q2, .slice A3 x3.length q3] 48)] wr)) ∨ (s = .int .i64 (-1) ∧ Hid (Sep w [rowB v U.reverse, rowB (.slice An x2.length cn) x2, rowB (.slice Au U.length cu) U, box q (.cells #[.int .i64 mC, .int .i64 mR, .int .i64 mS, .int .i64 mD, .int .i64 mV, .int .i64 mN, .int .i64 mQ] 68), box w.heap.size (.cells #[.int .i64 mC, .int .i64 mR, .int .i64 mS, .int .i64 mD, .int .i64 mV, .int .i64 mN, .int .i64 mQ, .int .i64 z, .slice A1 x1.length q1, .slice A2 x2.length q2, .slice A3 x3.length q3] 48)] wr))) (fun _ s _ => (intOf s + 1).toNat)
  case atStart =>
    by_cases h0 : U.length = 0
    · refine .inr ⟨by rw [h0]; rfl, ?_⟩
      rw [List.length_eq_zero_iff.1 h0] at H5 ⊢
      exact H5
    · refine .inl ⟨U.length - 1, by omega, by congr 1; omega, ?_⟩
      rw [show U.length - 1 + 1 = U.length by omega, List.drop_length]
      exact H5
  case round =>
    clear H5 wl
    rcases hrel with ⟨k, hk, rfl, HP⟩ | ⟨rfl, HP⟩
    · obtain ⟨Av, cv, hv⟩ := (HP.out.rows 0 rfl).form
      obtain ⟨lm, hlm⟩ : ∃ lm, lm = ((U.drop (k + 1)).reverse).length := ⟨_, rfl⟩
      rw [← hlm] at hv
      subst hv
      have hb : (U.drop (k + 1)).reverse.length + 1 ≤ 1000000 := by rw [List.length_reverse, List.length_drop]; omega
      clear hlm
      have t3 : (k : Int) < (U.length : Int) := by omega
      have t4 : (k : Int) ≥ 0 := by omega
      obtain ⟨g2, o2, e2, _, ⟨z0, z1, z2, z3, z4, z5, z6, z7, z8, z9, z10⟩⟩ := RdB.of_own (HP.out.rows 2 rfl) k _ (List.getElem?_eq_getElem hk)
      obtain ⟨v', V, hr, ho⟩ := ent_push HP.out U[k] hb
      rw [Tk.rev_next hk] at ho
      have HR := Lib.hid hr
      have HN := Lib.hid ho
      have wk : IntKind.i64.wrap ((k : Int) - 1) = (k : Int) - 1 := IntWalk.i64_in _ ⟨by omega, by omega⟩
      clear hr ho HP HL K AW hb
      cases e2
      go_wp2_with (at_builtin; refine wpList_append _ rfl (.tmp 37) (.tmp 42) _ _ rfl _ _ rfl rfl _ _ HR.out ?_)
      go_roundw
      case rel =>
        by_cases h0 : k = 0
        · refine .inr ⟨by rw [h0]; rfl, ?_⟩
          rw [h0, List.drop_zero] at HN
          exact HN
        · refine .inl ⟨k - 1, by omega, by rw [show ((k - 1 : Nat) : Int) = (k : Int) - 1 by omega], ?_⟩
          rw [show k - 1 + 1 = k by omega]
          exact HN
      case measure => first | (simp [intOf]; done) | (simp [intOf]; omega)
    · obtain ⟨Ab, cb, hv⟩ := (HP.out.rows 0 rfl).form
      rw [List.length_reverse] at hv
      subst hv
      have H6 : Hid (Sep w [rowB (.slice none (0 : Nat) 0) [], rowB (.slice An x2.length cn) x2, rowB (.slice Ab U.length cb) U.reverse, rowB (.slice Au U.length cu) U, box q (.cells #[.int .i64 mC, .int .i64 mR, .int .i64 mS, .int .i64 mD, .int .i64 mV, .int .i64 mN, .int .i64 mQ] 68), box w.heap.size (.cells #[.int .i64 mC, .int .i64 mR, .int .i64 mS, .int .i64 mD, .int .i64 mV, .int .i64 mN, .int .i64 mQ, .int .i64 z, .slice A1 x1.length q1, .slice A2 x2.length q2, .slice A3 x3.length q3] 48)] wr) := Lib.hid (row_none bnE 42 11 (show Sep w [rowB (.slice An x2.length cn) x2, rowB (.slice Ab U.length cb) U.reverse, rowB (.slice Au U.length cu) U, box q (.cells #[.int .i64 mC, .int .i64 mR, .int .i64 mS, .int .i64 mD, .int .i64 mV, .int .i64 mN, .int .i64 mQ] 68), box w.heap.size (.cells #[.int .i64 mC, .int .i64 mR, .int .i64 mS, .int .i64 mD, .int .i64 mV, .int .i64 mN, .int .i64 mQ, .int .i64 z, .slice A1 x1.length q1, .slice A2 x2.length q2, .slice A3 x3.length q3] 48)] wr from HP.out.swap))
      clear HP
      go_wp2
      go_loopw [8, 10] (fun v s wr => (∃ k : Nat, k < x2.length ∧ s = .int .i64 k ∧ Hid (Sep w [rowB v ((x2.drop (k + 1)).map Tk.pz).reverse, rowB (.slice An x2.length cn) (Tk.nl x2 (k + 1)), rowB (.slice Ab U.length cb) U.reverse, rowB (.slice Au U.length cu) U, box q (.cells #[.int .i64 mC, .int .i64 mR, .int .i64 mS, .int .i64 mD, .int .i64 mV, .int .i64 mN, .int .i64 mQ] 68), box w.heap.size (.cells #[.int .i64 mC, .int .i64 mR, .int .i64 mS, .int .i64 mD, .int .i64 mV, .int .i64 mN, .int .i64 mQ, .int .i64 z, .slice A1 x1.length q1, .slice A2 x2.length q2, .slice A3 x3.length q3] 48)] wr)) ∨ (s = .int .i64 (-1) ∧ Hid (Sep w [rowB v (x2.map Tk.pz).reverse, rowB (.slice An x2.length cn) (x2.map Tk.pz), rowB (.slice Ab U.length cb) U.reverse, rowB (.slice Au U.length cu) U, box q (.cells #[.int .i64 mC, .int .i64 mR, .int .i64 mS, .int .i64 mD, .int .i64 mV, .int .i64 mN, .int .i64 mQ] 68), box w.heap.size (.cells #[.int .i64 mC, .int .i64 mR, .int .i64 mS, .int .i64 mD, .int .i64 mV, .int .i64 mN, .int .i64 mQ, .int .i64 z, .slice A1 x1.length q1, .slice A2 x2.length q2, .slice A3 x3.length q3] 48)] wr))) (fun _ s _ => (intOf s + 1).toNat)
      case atStart =>
        by_cases h0 : x2.length = 0
        · refine .inr ⟨by rw [h0]; rfl, ?_⟩
          rw [List.length_eq_zero_iff.1 h0] at H6 ⊢
          exact H6
        · refine .inl ⟨x2.length - 1, by omega, by rw [show ((x2.length - 1 : Nat) : Int) = (x2.length : Int) - 1 by omega], ?_⟩
          rw [show x2.length - 1 + 1 = x2.length by omega, List.drop_length, Tk.nl_all]
          exact H6
      case round =>
        clear H6 wl2
        rcases hrel with ⟨k, hk, rfl, HP⟩ | ⟨rfl, HP⟩
        · obtain ⟨Av, cv, hv⟩ := (HP.out.rows 0 rfl).form
          obtain ⟨lm, hlm⟩ : ∃ lm, lm = (((x2.drop (k + 1)).map Tk.pz).reverse).length := ⟨_, rfl⟩
          rw [← hlm] at hv
          subst hv
          have hb : (((x2.drop (k + 1)).map Tk.pz).reverse).length + 1 ≤ 1000000 := by rw [List.length_reverse, List.length_map, List.length_drop]; omega
          clear hlm
          have t3 : (k : Int) < (x2.length : Int) := by omega
          have t4 : (k : Int) ≥ 0 := by omega
          have hr1 : OwnB wr 0 (.slice An (Tk.nl x2 (k + 1)).length cn) (Tk.nl x2 (k + 1)) := by rw [Tk.nl_len]; exact HP.out.rows 1 rfl
          obtain ⟨g2, o2, e2, _, ⟨z0, z1, z2, z3, z4, z5, z6, z7, z8, z9, z10⟩, ⟨f0, f1, f2, f3, f4, f5, f6, f7, f8, f9, f10⟩⟩ := own_at hr1 (Tk.nl_at hk)
          cases e2
          have HW := sep_pow HP.out.swap (Tk.nl_at hk) (max 0 x2[k].p)
          have HX := Lib.hid (show Sep w [rowB (.slice (some ⟨g2, o2, none⟩) x2.length cn) ((Tk.nl x2 (k + 1)).set k (Tk.pz x2[k])), rowB (.slice Av lm cv) ((x2.drop (k + 1)).map Tk.pz).reverse, rowB (.slice Ab U.length cb) U.reverse, rowB (.slice Au U.length cu) U, box q (.cells #[.int .i64 mC, .int .i64 mR, .int .i64 mS, .int .i64 mD, .int .i64 mV, .int .i64 mN, .int .i64 mQ] 68), box w.heap.size (.cells #[.int .i64 mC, .int .i64 mR, .int .i64 mS, .int .i64 mD, .int .i64 mV, .int .i64 mN, .int .i64 mQ, .int .i64 z, .slice A1 x1.length q1, .slice A2 x2.length q2, .slice A3 x3.length q3] 48)] (wr.setCell ⟨g2, o2 + k * 11 + 9, none⟩ (.int .i64 (max 0 x2[k].p))) from HW)
          rw [Tk.nl_set hk] at HX
          have wk : IntKind.i64.wrap ((k : Int) - 1) = (k : Int) - 1 := IntWalk.i64_in _ ⟨by omega, by omega⟩
          clear HW HP HL K AW hr1
          go_upto_region 14 with fail
          generalize wr.setCell ⟨g2, o2 + k * 11 + 9, none⟩ (.int .i64 (max 0 x2[k].p)) = w7 at *
          clear z0 z1 z2 z3 z4 z5 z6 z7 z8 z9 z10 f0 f1 f2 f3 f4 f5 f6 f7 f8 f9 f10
          have hk2 : (Tk.nl x2 k)[k]? = some (Tk.pz x2[k]) := by
            unfold Tk.nl
            rw [List.getElem?_append_right (by rw [List.length_take]; omega), List.length_take, Nat.min_eq_left (by omega), Nat.sub_self, List.drop_eq_getElem_cons hk]
            rfl
          have hr1 : OwnB w7 0 (.slice (some ⟨g2, o2, none⟩) (Tk.nl x2 k).length cn) (Tk.nl x2 k) := by rw [Tk.nl_len]; exact HX.out.rows 0 rfl
          obtain ⟨g3, o3, e2, _, ⟨z0, z1, z2, z3, z4, z5, z6, z7, z8, z9, z10⟩, _⟩ := own_at hr1 hk2
          cases e2
          obtain ⟨v', V, hr, ho⟩ := ent_push HX.out.swap (Tk.pz x2[k]) hb
          have eN : ((x2.drop (k + 1)).map Tk.pz).reverse ++ [Tk.pz x2[k]] = ((x2.drop k).map Tk.pz).reverse := by rw [List.drop_eq_getElem_cons hk, List.map_cons, List.reverse_cons]
          rw [eN] at ho
          have HR := Lib.hid hr
          have HN := Lib.hid ho
          clear hr ho HX eN hk2 hr1 hb
          generalize Tk.pz x2[k] = pb at *
          obtain ⟨ps, pi, pg, pm, px, py, pvx, pvy, ph, pp, pl⟩ := pb
          dsimp only at z0 z1 z2 z3 z4 z5 z6 z7 z8 z9 z10 HR
          go_wp2_with (at_builtin; refine wpList_append _ rfl (.tmp 61) (.tmp 66) _ _ rfl _ _ rfl rfl _ _ HR.out ?_)
          go_roundw
          case rel =>
            by_cases h0 : k = 0
            · refine .inr ⟨by rw [h0]; rfl, ?_⟩
              rw [h0, List.drop_zero, Tk.nl_zero] at HN
              exact HN
            · refine .inl ⟨k - 1, by omega, by rw [show ((k - 1 : Nat) : Int) = (k : Int) - 1 by omega], ?_⟩
              rw [show k - 1 + 1 = k by omega]
              exact HN
          case measure => first | (simp [intOf]; done) | (simp [intOf]; omega)
        · obtain ⟨Af, cf, hv⟩ := (HP.out.rows 0 rfl).form
          rw [List.length_reverse, List.length_map] at hv
          subst hv
          have uU := HL.out.un
          have lr := Tk.run_len mC mR mS mD mV z U (x2.map Tk.pz) x3
          have l3 : x3.length ≤ 1000 := (HD.out wr HP.out.bel).l3
          obtain ⟨rr, hrr⟩ : ∃ rr, rr = Tk.run mC mR mS mD mV z U (x2.map Tk.pz) x3 := ⟨_, rfl⟩
          have eR : Tk.run mC mR mS mD mV z U.reverse (x2.map Tk.pz).reverse x3 = rr := by
            rw [hrr]
            exact (Tk.run_eq (Tk.run_order mC mR mS mD mV z uU (List.reverse_perm _).symm (List.reverse_perm _).symm (fun c hc => (Sy.may_power (HL.out.may c hc)).1) (fun c hc => by obtain ⟨y, _, rfl⟩ := List.mem_map.1 hc; show 0 ≤ max 0 y.p; omega) x3)).symm
          rw [← hrr] at lr
          have uV : Tk.Un U.reverse := Tk.un_perm (List.reverse_perm _).symm uU
          have rd1 : RdB wr wr.heap.size An (x2.map Tk.pz) := RdB.of_own (show OwnB wr 0 (.slice An (x2.map Tk.pz).length cn) (x2.map Tk.pz) by rw [List.length_map]; exact HP.out.rows 1 rfl)
          have rd2 : RdB wr wr.heap.size Af (x2.map Tk.pz).reverse := RdB.of_own (show OwnB wr 0 (.slice Af (x2.map Tk.pz).reverse.length cf) (x2.map Tk.pz).reverse by rw [List.length_reverse, List.length_map]; exact HP.out.rows 0 rfl)
          have rd3 : RdB wr wr.heap.size Ab U.reverse := RdB.of_own (show OwnB wr 0 (.slice Ab U.reverse.length cb) U.reverse by rw [List.length_reverse]; exact HP.out.rows 2 rfl)
          have fx : ∀ b ∈ x2.map Tk.pz, b.Fits := fun c hc => by
            obtain ⟨y, hy, rfl⟩ := List.mem_map.1 hc
            exact Tk.pz_fits ((HD.out wr HP.out.bel).f2 y hy)
          have hh1 : Hand wr Au An A3 U (x2.map Tk.pz) x3 := ⟨RdB.of_own (HP.out.rows 3 rfl), rd1, (HD.out wr HP.out.bel).r3, by omega, by rw [List.length_map]; omega, l3, HL.out.fits, fx, (HD.out wr HP.out.bel).f3⟩
          have hh2 : Hand wr Ab Af A3 U.reverse (x2.map Tk.pz).reverse x3 := ⟨rd3, rd2, (HD.out wr HP.out.bel).r3, by rw [List.length_reverse]; omega, by rw [List.length_reverse, List.length_map]; omega, l3, fun b hb => HL.out.fits b (List.mem_reverse.1 hb), fun b hb => fx b (List.mem_reverse.1 hb), (HD.out wr HP.out.bel).f3⟩
          have KA : Hid (∀ p : Lat grows wr, Calls Tryz.prog 13 #[.pointer (some ⟨q, 0, none⟩), .int .i64 z, .slice Au U.length cu, .slice An x2.length cn, .slice A3 x3.length q3] p.W fun e V => ∃ v, e = .returned v ∧ grows.r p.W V ∧ LeftP wr.heap.size rr v V) := Lib.hid fun p => by
            have := K.run mC mR mS mD mV mN mQ z p.W q Au An A3 cu cn q3 U (x2.map Tk.pz) x3 (MapAt.below (HP.out.held 4 rfl) (zlat_below p)) ok hz (hh1.below (zlat_below p)) (.inl uU)
            rw [List.length_map, ← hrr] at this
            exact left_call p.h.size this
          have KB : Hid (∀ p : Lat grows wr, Calls Tryz.prog 13 #[.pointer (some ⟨q, 0, none⟩), .int .i64 z, .slice Ab U.length cb, .slice Af x2.length cf, .slice A3 x3.length q3] p.W fun e V => ∃ v, e = .returned v ∧ grows.r p.W V ∧ LeftP wr.heap.size rr v V) := Lib.hid fun p => by
            have := K.run mC mR mS mD mV mN mQ z p.W q Ab Af A3 cb cf q3 U.reverse (x2.map Tk.pz).reverse x3 (MapAt.below (HP.out.held 4 rfl) (zlat_below p)) ok hz (hh2.below (zlat_below p)) (.inl uV)
            rw [eR, List.length_reverse, List.length_reverse, List.length_map] at this
            exact left_call p.h.size this
          have lr1 : rr.1.length ≤ 1000000 := by omega
          have lr2 : rr.2.1.length ≤ 1000000 := by omega
          have lr3 : rr.2.2.length ≤ 1000000 := by omega
          clear hh1 hh2 rd1 rd2 rd3 fx uU uV eR hrr lr K HL HD ok
          obtain ⟨⟨k0, k1, k2, k3, k4, k5, k6, k7, k8, k9, k10⟩, _⟩ := Bx.b11 (HP.out.held 5 rfl)
          have t0 : w.heap.size < wr.heap.size := Bx.lt (HP.out.held 5 rfl)
          have HB0 := Lib.hid HP.out.bel
          clear HP
          go_upto_region 15 with fail
          refine Og.grow 18 (by kernel_rfl) (by kernel_rfl) fun hc hf => ?_
          simp only [List.take_succ_cons, List.take_zero, List.drop_succ_cons, List.drop_zero]
          iterate 7 (refine Og.det [] rfl (fun J hJ => ?_); go_simp; refine hJ _ _ ?_; clear hJ J)
          refine Og.such 75 (LeftP wr.heap.size rr) [] rfl (left_lasts _ _) (left_noBool _ _) (fun J hJ => ?_)
          go_simp
          refine ⟨fun p => KA.out p, hJ _ _ ?_⟩
          clear hJ J
          iterate 7 (refine Og.det [] rfl (fun J hJ => ?_); go_simp; refine hJ _ _ ?_; clear hJ J)
          refine Og.such 83 (LeftP wr.heap.size rr) [] rfl (left_lasts _ _) (left_noBool _ _) (fun J hJ => ?_)
          go_simp
          refine ⟨fun p => KB.out p, hJ _ _ ?_⟩
          clear hJ J
          refine Og.such 11 (Og.Box wr.heap.size #[.slice none 0 0, .slice none 0 0, .slice none 0 0] 35) [] rfl (Og.Box.lasts _ _ _) (Og.Box.noBool _ _ _) (fun J hJ => ?_)
          go_simp
          refine ⟨fun p => Og.Box.new p.W _ p.h.size _ _, hJ _ _ ?_⟩
          clear hJ J
          refine Og.such 12 (Og.Box wr.heap.size #[.slice none 0 0, .slice none 0 0, .slice none 0 0] 35) [] rfl (Og.Box.lasts _ _ _) (Og.Box.noBool _ _ _) (fun J hJ => ?_)
          go_simp
          refine ⟨fun p => Og.Box.new p.W _ p.h.size _ _, hJ _ _ ?_⟩
          clear hJ J hc hf
          refine Og.fin fun W hW => ?_
          simp only [Og.opened_cons, Og.opened_nil]
          rintro _ ⟨b12, rfl, hb12, hl12, hv12⟩ _ ⟨b11, rfl, hb11, hl11, hv11⟩ _ ⟨D1, D2, D3, d1, d2, d3, rfl, hd⟩ _ ⟨C1, C2, C3, c1, c2, c3, rfl, hcc⟩
          have HB := Lib.hid (HB0.out.trans (hW.mono HB0.out.size))
          have s0 := HB0.out.size
          clear hW KA KB HB0 k0 k1 k2 k3 k4 k5 k6 k7 k8 k9 k10
          obtain ⟨_, ⟨f0, f1, f2⟩⟩ := Bx.b3 hv11
          obtain ⟨_, ⟨h0, h1, h2⟩⟩ := Bx.b3 hv12
          obtain ⟨⟨j0, j1, j2⟩, E1, E2, E3, e1, e2, e3, hX1, hX2, rX1, rX2⟩ := two_results (show ResAt W _ rr C1 C2 C3 c1 c2 c3 from hcc) (show ResAt W _ rr D1 D2 D3 d1 d2 d3 from hd) hv11 hv12 rfl rfl
          obtain ⟨y0, y1, y2, o0, o1, o2⟩ := cell_after hv11 hv12 (.slice C1 rr.1.length c1) (.slice C2 rr.2.1.length c2) (.slice C3 rr.2.2.length c3)
          have HC := ((((((HB.out.setCell (p := ⟨b11, 0, none⟩) (by show w.heap.size ≤ b11; omega) (.slice C1 rr.1.length c1)).setCell (p := ⟨b11, 1, none⟩) (by show w.heap.size ≤ b11; omega) (.slice C2 rr.2.1.length c2)).setCell (p := ⟨b11, 2, none⟩) (by show w.heap.size ≤ b11; omega) (.slice C3 rr.2.2.length c3)).setCell (p := ⟨b12, 0, none⟩) (by show w.heap.size ≤ b12; omega) (.slice D1 rr.1.length d1)).setCell (p := ⟨b12, 1, none⟩) (by show w.heap.size ≤ b12; omega) (.slice D2 rr.2.1.length d2)).setCell (p := ⟨b12, 2, none⟩) (by show w.heap.size ≤ b12; omega) (.slice D3 rr.2.2.length d3))
          replace HC := Lib.hid HC
          clear hd hcc hv11 hv12 HB
          have SR := Lib.hid (same_res (a1 := e1) (a2 := e2) (a3 := e3) (b1 := d1) (b2 := d2) (b3 := d3) (RdB.of_own rX1.1) (RdB.of_own rX1.2.1) (RdI3.of_own rX1.2.2) (RdB.of_own rX2.1) (RdB.of_own rX2.2.1) (RdI3.of_own rX2.2.2) lr1 lr2 lr3)
          have HX1 := Lib.hid hX1
          have HX2 := Lib.hid hX2
          clear hX1 hX2 rX1 rX2 lr1 lr2 lr3 hb11 hb12 hl11 hl12 s0 t0 o0 o1 o2 j0 j1 j2
          generalize rr.1.length = n4 at *
          generalize rr.2.1.length = n5 at *
          generalize rr.2.2.length = n6 at *
          obtain ⟨w8, hw8⟩ : ∃ x, x = (((((W.setCell ⟨b11, 0, none⟩ (.slice C1 n4 c1)).setCell ⟨b11, 1, none⟩ (.slice C2 n5 c2)).setCell ⟨b11, 2, none⟩ (.slice C3 n6 c3)).setCell ⟨b12, 0, none⟩ (.slice D1 n4 d1)).setCell ⟨b12, 1, none⟩ (.slice D2 n5 d2)).setCell ⟨b12, 2, none⟩ (.slice D3 n6 d3) := ⟨_, rfl⟩
          rw [← hw8] at HC HX1 HX2 SR
          replace hw8 := Lib.hid hw8
          have e0 : Hid (b12 = b11 ∨ b12 ≠ b11) := Lib.hid (by omega)
          rcases e0.out with e | e
          · subst e
            clear e0
            go_upto_region 16 with fail
            rw [← hw8.out]
            have hq := HX1.out.symm.trans HX2.out
            simp at hq
            obtain ⟨⟨rfl, rfl⟩, ⟨rfl, rfl⟩, rfl, rfl⟩ := hq
            clear HX2
            have HX2 := HX1
            clear f0 f1 f2 h0 h1 h2 hw8
            obtain ⟨⟨k0, k1, k2⟩, _⟩ := Bx.b3 HX1.out
            obtain ⟨⟨m0, m1, m2⟩, _⟩ := Bx.b3 HX2.out
            clear HX1 HX2
            go_wp2_with (first
              | (go_at_call 19; with_reducible refine SR.out.mono ?_; rintro e w9 ⟨rfl, b9⟩; clear SR k0 k1 k2 m0 m1 m2; have HE := Lib.hid (HC.out.trans (b9.mono HC.out.size)); clear HC b9)
              | (go_at_call 17; with_reducible refine (AW.out _).mono ?_; rintro e w10 ⟨rfl, b10⟩; clear AW; have HF := Lib.hid (HE.out.trans (b10.mono HE.out.size)); clear HE b10))
            go_ret
            exact ⟨rfl, HF.out⟩
          · have e' : b11 ≠ b12 := fun h => e h.symm
            clear e0
            go_upto_region 16 with fail
            rw [← hw8.out]
            clear f0 f1 f2 h0 h1 h2 hw8
            obtain ⟨⟨k0, k1, k2⟩, _⟩ := Bx.b3 HX1.out
            obtain ⟨⟨m0, m1, m2⟩, _⟩ := Bx.b3 HX2.out
            clear HX1 HX2
            go_wp2_with (first
              | (go_at_call 19; with_reducible refine SR.out.mono ?_; rintro e w9 ⟨rfl, b9⟩; clear SR k0 k1 k2 m0 m1 m2; have HE := Lib.hid (HC.out.trans (b9.mono HC.out.size)); clear HC b9)
              | (go_at_call 17; with_reducible refine (AW.out _).mono ?_; rintro e w10 ⟨rfl, b10⟩; clear AW; have HF := Lib.hid (HE.out.trans (b10.mono HE.out.size)); clear HE b10))
            go_ret
            exact ⟨rfl, HF.out⟩
end Go.Proofs.YtljaahemlcaffaaGreat
