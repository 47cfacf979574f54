/- The library's symMergeCmpFunc, over a row of one's own: the second row has one. Written by wip/tools/gensym.py. -/
import Derived.Test.YtookmjdnmmfkfaaPcSymA
import Derived.BigRegion
namespace Go.Proofs.Ytookmjdnmmfkfaa
open Go.RowKit Pz Go.Shelf
set_option linter.unusedVariables false

set_option maxHeartbeats 16000000 in
set_option maxRecDepth 100000 in
theorem symb_any {B : Nat} {A : Option Addr} {N c : Nat} {P X Q : List Bn} {y0 : Bn} {w : World} (h : Rs B A N c (P ++ (X ++ ([y0] ++ Q))) w w) (hN : N ≤ 1000000) (hBw : B ≤ w.heap.size) (hX : 1 < X.length) (sX : Srt X) {a m b : Nat} (ha : P.length = a) (hm : a + X.length = m) (hb : m + 1 = b) :
    Calls Try.prog 55 #[.slice A N c, .int .i64 (a : Int), .int .i64 (m : Int), .int .i64 (b : Int), .func (.func 42) #[] #[]] w fun e w' => e = .returned (.tuple #[]) ∧ ∃ Z, Srt Z ∧ Pz.Alike Z (X ++ [y0]) ∧ Rs B A N c (P ++ (Z ++ Q)) w w' := by
  have hlen := h.len
  simp only [List.length_append, List.length_cons, List.length_nil] at hlen
  have bN : b ≤ N := by omega
  have ey : (P ++ (X ++ ([y0] ++ Q)))[m]? = some y0 := by rw [List.getElem?_append_right (by omega), List.getElem?_append_right (by omega), show m - P.length - X.length = 0 by omega]; rfl
  obtain ⟨g0, o0, rfl, _⟩ := h.get (k := m) (x := y0) ey
  have H0 := Lib.hid h
  have TAIL : Hid (∀ i, a ≤ i → i ≤ m → (i = a ∨ (a < i ∧ Ls (P ++ (X ++ ([y0] ++ Q))) m (i - 1) false)) → (i = m ∨ (i < m ∧ Ls (P ++ (X ++ ([y0] ++ Q))) m i true)) →
      ∃ X1 X2, Up (P ++ X1) Q X2 (P ++ (X ++ ([y0] ++ Q))) y0 m ∧ a + X1.length = i ∧ (P ++ X1).length = i ∧ Srt ((X1 ++ [y0]) ++ X2) ∧ Pz.Alike ((X1 ++ [y0]) ++ X2) (X ++ [y0])) := Lib.hid fun i h1 h2 h3 h4 => by
    obtain ⟨X1, X2, Y1, Y2, q1, q2, q3, q4, q5, q6⟩ := cut (X := X) (Y := [y0]) (P := P) (Q := Q) (s := i) (e := b) ha hm hb sX (List.pairwise_singleton _ _) h1 h2 (by omega) (Nat.le_refl _) (.inr (.inl rfl)) (by
      rcases h4 with h4 | ⟨h4, u, v, hu, hv, hb'⟩
      · exact .inl h4
      · exact .inr (.inr ⟨v, u, hv, by rw [← hb, Nat.add_sub_cancel]; exact hu, by omega, hb'⟩))
    have e1 : Y2 = [] := List.length_eq_zero_iff.1 (by
      have := congrArg List.length q2
      simp only [List.length_append, List.length_singleton] at this
      omega)
    subst e1
    rw [List.append_nil] at q2
    subst q2
    obtain ⟨X3, X4, Y3, Y4, r1, r2, r3, r4, r5, r6⟩ := cut (X := X) (Y := [y0]) (P := P) (Q := Q) (s := i) (e := m) ha hm hb sX (List.pairwise_singleton _ _) h1 h2 (Nat.le_refl _) (by omega) (by
      rcases h3 with h3 | ⟨h3, u, v, hu, hv, hb'⟩
      · exact .inl h3
      · exact .inr (.inr ⟨v, u, hv, hu, h3, hb'⟩)) (.inr (.inl rfl))
    have e2 : X3 = X1 := by
      have := q1.symm.trans r1
      exact ((List.append_inj this (by omega)).1).symm
    subst e2
    have hy0 : y0 ∈ Y4 := by
      have : Y3 = [] := List.length_eq_zero_iff.1 (by omega)
      rw [this, List.nil_append] at r2
      rw [← r2]
      exact List.mem_singleton.2 rfl
    rw [q1] at sX
    obtain ⟨s1, s2, s3⟩ := srt_app.1 sX
    have s4 : Srt (X3 ++ [y0]) := srt_app.2 ⟨s1, List.pairwise_singleton _ _, fun x hx y hy => by rw [List.mem_singleton.1 hy]; exact r5 x hx y0 hy0⟩
    obtain ⟨z1, z2⟩ := merge_parts (l1 := X3) (l2 := X2) (r1 := [y0]) (r2 := []) (s1 := X3 ++ [y0]) (s2 := X2) sX (List.pairwise_singleton _ _) (fun x hx y hy => by cases hy) q6 s4 (Alike.refl _) s2 (by rw [List.append_nil]; exact Alike.refl _)
    refine ⟨X3, X2, ?_, by omega, by rw [List.length_append]; omega, z1, ?_⟩
    · have := Up.last (P ++ X3) Q X2 y0
      have lX := congrArg List.length q1
      rw [List.length_append] at lX
      rw [List.length_append, show P.length + X3.length + X2.length = m by omega] at this
      rw [q1]
      simpa [List.append_assoc] using this
    · rw [q1]
      rw [List.append_nil] at z2
      exact z2
  generalize hD : (P ++ (X ++ ([y0] ++ Q))) = D at *
  clear hD hlen h sX ey
  have hBB := Lib.hid hBw
  have EG := enters42
  replace ha := Lib.hid ha
  have w1 : IntKind.i64.wrap ((m : Int) - (a : Int)) = (X.length : Int) := by rw [IntWalk.i64_in _ (by omega)]; omega
  have w1' : ((X.length : Int) == 1) = false := beq_eq_false_iff_ne.2 (by omega)
  have w2 : IntKind.i64.wrap ((b : Int) - (m : Int)) = 1 := by rw [IntWalk.i64_in _ (by omega)]; omega
  have mb : m < b := by omega
  have ma : a < m := by omega
  have aN : b ≤ 1000000 := by omega
  generalize X.length = lx at *
  replace hm := Lib.hid hm
  replace hb := Lib.hid hb
  go_enter Try.func55, Try.ntmps55
  go_wp2
  go_loopw [14, 15] (fun ix jx wr => ∃ i j : Nat, ix = .int .i64 i ∧ jx = .int .i64 j ∧ a ≤ i ∧ i ≤ j ∧ j ≤ m ∧ Hid (Rs B (some ⟨g0, o0, none⟩) N c D w wr) ∧ Hid (i = a ∨ (a < i ∧ Ls D (m) ((i - 1)) false)) ∧ Hid (j = m ∨ (j < m ∧ Ls D (m) (j) true))) (fun ix jx _ => (intOf jx).toNat - (intOf ix).toNat)
  case atStart => exact ⟨a, m, rfl, rfl, Nat.le_refl _, Nat.le_of_lt ma, Nat.le_refl _, H0, Lib.hid (.inl rfl), Lib.hid (.inl rfl)⟩
  case round =>
    obtain ⟨i, j, rfl, rfl, hlo, hij, hhi, HR, HL, HH⟩ := hrel
    clear H0
    by_cases hlt : i < j
    · have t1 : (i : Int) < (j : Int) := by omega
      obtain ⟨h, hh⟩ : ∃ h, h = (i + j) / 2 := ⟨_, rfl⟩
      have eh : ((i : Int) + (j : Int)) / 2 = (h : Int) := by omega
      have h1 : i ≤ h := by omega
      have h2 : h < j := by omega
      clear hh
      have hl2 := HR.out.len
      have lh : (h : Int) < (N : Int) := by omega
      have la : (m : Int) < (N : Int) := by omega
      obtain ⟨x, hx⟩ : ∃ x, D[m]? = some x := ⟨_, List.getElem?_eq_getElem (by omega)⟩
      obtain ⟨y, hy⟩ : ∃ y, D[h]? = some y := ⟨_, List.getElem?_eq_getElem (by omega)⟩
      have NL : Hid (before x.id y.id = false → h + 1 = a ∨ (a < h + 1 ∧ Ls D (m) ((h + 1 - 1)) false)) := Lib.hid fun hb => .inr ⟨by omega, x, y, by first | exact hx | (rw [Nat.add_sub_cancel]; exact hx), by first | exact hy | (rw [Nat.add_sub_cancel]; exact hy), hb⟩
      have NR : Hid (before x.id y.id = true → h = m ∨ (h < m ∧ Ls D (m) (h) true)) := Lib.hid fun hb => .inr ⟨by omega, x, y, hx, hy, hb⟩
      have LESS : Hid (∀ p : Lat grows wr, Calls Try.prog 42 #[x.val, y.val] p.W fun e w' => e = .returned (.int .i64 (cmpB x.id y.id)) ∧ Below p.W.heap.size p.W w') := Lib.hid fun p => less_any x y p.W
      have CL := cmp_lt x.id y.id
      generalize cmpB x.id y.id = r at *
      generalize before x.id y.id = bf at *
      have hroom := HR.out.room (k := m) (by omega)
      obtain ⟨g, o, e, px⟩ := HR.out.get hx
      cases e
      obtain ⟨g', o', e, py⟩ := HR.out.get hy
      cases e
      clear hx hy hl2
      obtain ⟨xs, xi, xg, xm, xx, xy, xvx, xvy, xh, xp, xl⟩ := x
      obtain ⟨ys, yi, yg, ym, yx, yy, yvx, yvy, yh, yp, yl⟩ := y
      simp only [Bn.val] at *
      have c0 := fun p => (px p).1
      have e0 := fun p => (py p).1
      have c1 := fun p => (px p).2.1
      have e1 := fun p => (py p).2.1
      have c2 := fun p => (px p).2.2.1
      have e2 := fun p => (py p).2.2.1
      have c3 := fun p => (px p).2.2.2.1
      have e3 := fun p => (py p).2.2.2.1
      have c4 := fun p => (px p).2.2.2.2.1
      have e4 := fun p => (py p).2.2.2.2.1
      have c5 := fun p => (px p).2.2.2.2.2.1
      have e5 := fun p => (py p).2.2.2.2.2.1
      have c6 := fun p => (px p).2.2.2.2.2.2.1
      have e6 := fun p => (py p).2.2.2.2.2.2.1
      have c7 := fun p => (px p).2.2.2.2.2.2.2.1
      have e7 := fun p => (py p).2.2.2.2.2.2.2.1
      have c8 := fun p => (px p).2.2.2.2.2.2.2.2.1
      have e8 := fun p => (py p).2.2.2.2.2.2.2.2.1
      have c9 := fun p => (px p).2.2.2.2.2.2.2.2.2.1
      have e9 := fun p => (py p).2.2.2.2.2.2.2.2.2.1
      have c10 := fun p => (px p).2.2.2.2.2.2.2.2.2.2
      have e10 := fun p => (py p).2.2.2.2.2.2.2.2.2.2
      clear px py
      have HL2 := HL
      have HH2 := HH
      clear HL HH TAIL
      go_upto_region 17 with fail
      refine Og.grow 12 (by kernel_rfl) (by kernel_rfl) fun hc hf => ?_
      clear hc hf
      simp only [List.take_succ_cons, List.take_zero, List.drop_succ_cons, List.drop_zero]
      iterate 9 (refine Og.det [] rfl (fun J hJ => ?_); go_simp; refine hJ _ _ ?_; clear hJ J)
      refine Og.det [] rfl (fun J hJ => ?_)
      go_simp
      with_reducible refine ⟨_, fun p => Og.lays (LESS.out p), hJ _ _ ?_⟩
      clear hJ J
      iterate 2 (refine Og.det [] rfl (fun J hJ => ?_); go_simp; refine hJ _ _ ?_; clear hJ J)
      refine Og.fin fun W hW => ?_
      simp only [Og.opened_nil]
      clear c0 c1 c2 c3 c4 c5 c6 c7 c8 c9 c10 e0 e1 e2 e3 e4 e5 e6 e7 e8 e9 e10 LESS
      replace HR := Lib.hid (HR.out.grown (Nat.le_of_lt hroom) hW)
      clear hW
      cases bf with
      | false =>
        have NX := Lib.hid (NL.out rfl)
        clear NL NR
        go_wp2
        go_roundw
        case rel => exact ⟨h + 1, j, by go_num, rfl, by omega, by omega, hhi, HR, NX, HH2⟩
        case measure => simp [intOf]; omega
      | true =>
        have NX := Lib.hid (NR.out rfl)
        clear NL NR
        go_wp2
        go_roundw
        case rel => exact ⟨i, h, rfl, rfl, hlo, h1, by omega, HR, HL2, NX⟩
        case measure => simp [intOf]; omega
    · have e : j = i := by omega
      subst e
      have t1 : ¬ (j : Int) < (j : Int) := by omega
      obtain ⟨X1, X2, U0, hl, hl2, z1, z2⟩ := TAIL.out j hlo hhi HL.out HH.out
      replace U0 := Lib.hid U0
      replace z1 := Lib.hid z1
      replace z2 := Lib.hid z2
      replace hl := Lib.hid hl
      clear HL HH TAIL
      go_wp2
      go_loopw [17] (fun kx wr => ∃ (k : Nat) (R : List Bn), kx = .int .i64 k ∧ j ≤ k ∧ k ≤ m ∧ Hid (Rs B (some ⟨g0, o0, none⟩) N c R w wr) ∧ Hid (Up (P ++ X1) Q X2 R y0 k)) (fun kx _ => (intOf kx).toNat)
      case atStart => exact ⟨m, D, rfl, hhi, Nat.le_refl _, HR, U0⟩
      case round =>
        clear HR U0
        obtain ⟨k, R, rfl, hak, hkk, HR, HU⟩ := hrel
        by_cases hlt : j < k
        · have t3 : (k : Int) > (j : Int) := by omega
          obtain ⟨kk, hkk'⟩ : ∃ kk, k = kk + 1 := ⟨k - 1, by omega⟩
          have HU' := HU.out
          rw [hkk'] at HU'
          obtain ⟨y, hx, hy, NU⟩ := HU'.left (by omega)
          rw [← hkk'] at hx NU
          replace NU := Lib.hid NU
          have wk : IntKind.i64.wrap ((k : Int) - 1) = (kk : Int) := by rw [IntWalk.i64_in _ (by omega)]; omega
          have la : (k : Int) < (N : Int) := by omega
          have lb : (kk : Int) < (N : Int) := by omega
          have hkN : k < N := by omega
          have hkN' : kk < N := by omega
          have hkk2 : j ≤ kk := by omega
          have hkk3 : kk < k := by omega
          have HX := Lib.hid hx
          have HY := Lib.hid hy
          replace hkk' := Lib.hid hkk'
          clear hx hy HU HU'
          obtain ⟨xs, xi, xg, xm, xx, xy, xvx, xvy, xh, xp, xl⟩ := y0
          obtain ⟨ys, yi, yg, ym, yx, yy, yvx, yvy, yh, yp, yl⟩ := y
          try simp only at NU
          go_upto_region 23 with fail
          obtain ⟨g', o', e, px⟩ := HR.out.get HX.out
          cases e
          obtain ⟨g', o', e, py⟩ := HR.out.get HY.out
          cases e
          simp only at px py
          clear HX HY
          have c0 := (px ⟨wr.drew, Below.d' (Below.refl _ _)⟩).1
          have e0 := (py ⟨wr.drew, Below.d' (Below.refl _ _)⟩).1
          have c1 := (px ⟨wr.drew, Below.d' (Below.refl _ _)⟩).2.1
          have e1 := (py ⟨wr.drew, Below.d' (Below.refl _ _)⟩).2.1
          have c2 := (px ⟨wr.drew, Below.d' (Below.refl _ _)⟩).2.2.1
          have e2 := (py ⟨wr.drew, Below.d' (Below.refl _ _)⟩).2.2.1
          have c3 := (px ⟨wr.drew, Below.d' (Below.refl _ _)⟩).2.2.2.1
          have e3 := (py ⟨wr.drew, Below.d' (Below.refl _ _)⟩).2.2.2.1
          have c4 := (px ⟨wr.drew, Below.d' (Below.refl _ _)⟩).2.2.2.2.1
          have e4 := (py ⟨wr.drew, Below.d' (Below.refl _ _)⟩).2.2.2.2.1
          have c5 := (px ⟨wr.drew, Below.d' (Below.refl _ _)⟩).2.2.2.2.2.1
          have e5 := (py ⟨wr.drew, Below.d' (Below.refl _ _)⟩).2.2.2.2.2.1
          have c6 := (px ⟨wr.drew, Below.d' (Below.refl _ _)⟩).2.2.2.2.2.2.1
          have e6 := (py ⟨wr.drew, Below.d' (Below.refl _ _)⟩).2.2.2.2.2.2.1
          have c7 := (px ⟨wr.drew, Below.d' (Below.refl _ _)⟩).2.2.2.2.2.2.2.1
          have e7 := (py ⟨wr.drew, Below.d' (Below.refl _ _)⟩).2.2.2.2.2.2.2.1
          have c8 := (px ⟨wr.drew, Below.d' (Below.refl _ _)⟩).2.2.2.2.2.2.2.2.1
          have e8 := (py ⟨wr.drew, Below.d' (Below.refl _ _)⟩).2.2.2.2.2.2.2.2.1
          have c9 := (px ⟨wr.drew, Below.d' (Below.refl _ _)⟩).2.2.2.2.2.2.2.2.2.1
          have e9 := (py ⟨wr.drew, Below.d' (Below.refl _ _)⟩).2.2.2.2.2.2.2.2.2.1
          have c10 := (px ⟨wr.drew, Below.d' (Below.refl _ _)⟩).2.2.2.2.2.2.2.2.2.2
          have e10 := (py ⟨wr.drew, Below.d' (Below.refl _ _)⟩).2.2.2.2.2.2.2.2.2.2
          clear px py
          simp only at c0 c1 c2 c3 c4 c5 c6 c7 c8 c9 c10 e0 e1 e2 e3 e4 e5 e6 e7 e8 e9 e10
          obtain ⟨g', o', e, ⟨q9, z0, z1, z2, z3, z4, z5, z6, z7, z8, z9, z10⟩, ⟨y0, y1, y2, y3, y4, y5, y6, y7, y8, y9, y10⟩, HP⟩ := HR.out.put (k := k) hkN ⟨ys, yi, yg, ym, yx, yy, yvx, yvy, yh, yp, yl⟩
          cases e
          clear HR
          simp only at HP
          obtain ⟨g', o', e, ⟨q2, p0, p1, p2, p3, p4, p5, p6, p7, p8, p9, p10⟩, ⟨h0, h1, h2, h3, h4, h5, h6, h7, h8, h9, h10⟩, HP2⟩ := HP.out.put (k := kk) hkN' ⟨xs, xi, xg, xm, xx, xy, xvx, xvy, xh, xp, xl⟩
          cases e
          clear HP
          simp only at HP2
          go_big_region
          clear c0 c1 c2 c3 c4 c5 c6 c7 c8 c9 c10 e0 e1 e2 e3 e4 e5 e6 e7 e8 e9 e10 z0 z1 z2 z3 z4 z5 z6 z7 z8 z9 z10 y0 y1 y2 y3 y4 y5 y6 y7 y8 y9 y10 p0 p1 p2 p3 p4 p5 p6 p7 p8 p9 p10 h0 h1 h2 h3 h4 h5 h6 h7 h8 h9 h10
          have HP3 := Lib.hid (HP2.out.grown (by have := HP2.out.room (k := k) hkN; omega) (Below.d' (Below.refl _ _)))
          clear HP2
          go_wp2
          go_roundw
          case rel => exact ⟨kk, _, rfl, hkk2, by omega, HP3, NU⟩
          case measure => simp [intOf]; omega
        · have t3 : ¬ (k : Int) > (j : Int) := by omega
          have ek : k = j := by omega
          have HU' := HU.out
          rw [ek, ← hl2] at HU'
          have er := Lib.hid (HU'.at_first)
          clear HU HU' ek
          go_wp2
          refine bodyPost_ret (results_none rfl _ _ _) rfl ⟨rfl, _, z1.out, z2.out, ?_⟩
          have e2 : P ++ (X1 ++ [y0] ++ X2 ++ Q) = R := by rw [er.out]; simp [List.append_assoc]
          rw [e2]
          exact HR.out
end Go.Proofs.Ytookmjdnmmfkfaa
