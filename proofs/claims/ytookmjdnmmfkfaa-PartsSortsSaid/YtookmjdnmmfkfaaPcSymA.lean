/- The library's symMergeCmpFunc, over a row of one's own: the first row has one. Written by wip/tools/gensym.py. -/
import Derived.Test.YtookmjdnmmfkfaaPcCut
import Derived.BigRegion
namespace Go.Proofs.Ytookmjdnmmfkfaa
open Go.RowKit Pz Go.Shelf
set_option linter.unusedVariables false

namespace Pz
def Ls (D : List Bn) (f g : Nat) (t : Bool) : Prop := ∃ u v : Bn, D[f]? = some u ∧ D[g]? = some v ∧ before u.id v.id = t
end Pz
set_option maxHeartbeats 16000000 in
set_option maxRecDepth 100000 in
theorem syma_any {B : Nat} {A : Option Addr} {N c : Nat} {P Y Q : List Bn} {x0 : Bn} {w : World} (h : Rs B A N c (P ++ ([x0] ++ (Y ++ Q))) w w) (hN : N ≤ 1000000) (hBw : B ≤ w.heap.size) (hY : 0 < Y.length) (sY : Srt Y) {a m b : Nat} (ha : P.length = a) (hm : a + 1 = m) (hb : m + Y.length = b) :
    Calls Try.prog 55 #[.slice A N c, .int .i64 (a : Int), .int .i64 (m : Int), .int .i64 (b : Int), .func (.func 42) #[] #[]] w fun e w' => e = .returned (.tuple #[]) ∧ ∃ Z, Srt Z ∧ Pz.Alike Z ([x0] ++ Y) ∧ Rs B A N c (P ++ (Z ++ Q)) w w' := by
  have hlen := h.len
  simp only [List.length_append, List.length_cons, List.length_nil] at hlen
  have bN : b ≤ N := by omega
  obtain ⟨g0, o0, rfl, _⟩ := h.get (k := a) (x := x0) (by rw [List.getElem?_append_right (by omega), ha, Nat.sub_self]; rfl)
  have H0 := Lib.hid h
  have TAIL : Hid (∀ i, m ≤ i → i ≤ b → (i = m ∨ (m < i ∧ Ls (P ++ ([x0] ++ (Y ++ Q))) (i - 1) a true)) → (i = b ∨ (i < b ∧ Ls (P ++ ([x0] ++ (Y ++ Q))) i a false)) →
      ∃ Y1 Y2, Up P (Y2 ++ Q) Y1 (P ++ ([x0] ++ (Y ++ Q))) x0 a ∧ a + Y1.length + 1 = i ∧ Srt (Y1 ++ (x0 :: Y2)) ∧ Pz.Alike (Y1 ++ (x0 :: Y2)) ([x0] ++ Y)) := Lib.hid fun i h1 h2 h3 h4 => by
    have ex : (P ++ ([x0] ++ (Y ++ Q)))[a]? = some x0 := by rw [List.getElem?_append_right (by omega), ha, Nat.sub_self]; rfl
    obtain ⟨X1, X2, Y1, Y2, q1, q2, q3, q4, q5, q6⟩ := cut (X := [x0]) (Y := Y) (P := P) (Q := Q) (s := a) (e := i) ha hm hb (List.pairwise_singleton _ _) sY (Nat.le_refl _) (by omega) h1 h2 (.inl rfl) (by
      rcases h3 with h3 | ⟨h3, u, v, hu, hv, hb'⟩
      · exact .inr (.inl h3)
      · exact .inr (.inr ⟨v, u, hv, hu, h3, hb'⟩))
    have e1 : X1 = [] := List.length_eq_zero_iff.1 (by omega)
    subst e1
    rw [List.nil_append] at q1
    subst q1
    obtain ⟨X3, X4, Y3, Y4, r1, r2, r3, r4, r5, r6⟩ := cut (X := [x0]) (Y := Y) (P := P) (Q := Q) (s := m) (e := i) ha hm hb (List.pairwise_singleton _ _) sY (by omega) (Nat.le_refl _) h1 h2 (by
      rcases h4 with h4 | ⟨h4, u, v, hu, hv, hb'⟩
      · exact .inr (.inl h4)
      · exact .inr (.inr ⟨v, u, by rw [← hm, Nat.add_sub_cancel]; exact hv, hu, by omega, hb'⟩)) (.inl rfl)
    have e3 : Y4 = Y2 := by
      have := q2.symm.trans r2
      exact ((List.append_inj this (by omega)).2).symm
    subst e3
    have hx0 : x0 ∈ X3 := by
      have : X4 = [] := List.length_eq_zero_iff.1 (by
        have := congrArg List.length r1
        simp only [List.length_append, List.length_singleton] at this
        omega)
      rw [this, List.append_nil] at r1
      rw [← r1]
      exact List.mem_singleton.2 rfl
    rw [q2] at sY
    obtain ⟨s1, s2, s3⟩ := srt_app.1 sY
    have s4 : Srt (x0 :: Y4) := List.pairwise_cons.2 ⟨fun y hy => r5 x0 hx0 y hy, s2⟩
    obtain ⟨z1, z2⟩ := merge_parts (l1 := []) (l2 := [x0]) (r1 := Y1) (r2 := Y4) (s1 := Y1) (s2 := x0 :: Y4) (List.pairwise_singleton _ _) sY (fun x hx => by cases hx) q6 s1 (Alike.refl _) s4 (Alike.refl _)
    refine ⟨Y1, Y4, ?_, by omega, z1, ?_⟩
    · have := Up.first P (Y4 ++ Q) Y1 x0
      rw [ha] at this
      rw [q2]
      simpa [List.append_assoc] using this
    · rw [q2]
      exact z2
  generalize hD : P ++ ([x0] ++ (Y ++ Q)) = D at *
  clear hD hlen h sY
  have hBB := Lib.hid hBw
  have EG := enters42
  replace ha := Lib.hid ha
  replace hb := Lib.hid hb
  have w1 : IntKind.i64.wrap ((m : Int) - (a : Int)) = 1 := by rw [IntWalk.i64_in _ (by omega)]; omega
  have mb : m < b := by have := hb.out; omega
  have ma : a < m := by omega
  replace hm := Lib.hid hm
  go_enter Try.func55, Try.ntmps55
  go_wp2
  go_loopw [10, 11] (fun ix jx wr => ∃ i j : Nat, ix = .int .i64 i ∧ jx = .int .i64 j ∧ m ≤ i ∧ i ≤ j ∧ j ≤ b ∧ Hid (Rs B (some ⟨g0, o0, none⟩) N c D w wr) ∧ Hid (i = m ∨ (m < i ∧ Ls D ((i - 1)) (a) true)) ∧ Hid (j = b ∨ (j < b ∧ Ls D (j) (a) false))) (fun ix jx _ => (intOf jx).toNat - (intOf ix).toNat)
  case atStart => exact ⟨m, b, rfl, rfl, Nat.le_refl _, Nat.le_of_lt mb, Nat.le_refl _, H0, Lib.hid (.inl rfl), Lib.hid (.inl rfl)⟩
  case round =>
    obtain ⟨i, j, rfl, rfl, hlo, hij, hhi, HR, HL, HH⟩ := hrel
    clear H0
    by_cases hlt : i < j
    · have t1 : (i : Int) < (j : Int) := by omega
      obtain ⟨h, hh⟩ : ∃ h, h = (i + j) / 2 := ⟨_, rfl⟩
      have eh : ((i : Int) + (j : Int)) / 2 = (h : Int) := by omega
      have h1 : i ≤ h := by omega
      have h2 : h < j := by omega
      clear hh
      have hl2 := HR.out.len
      have lh : (h : Int) < (N : Int) := by omega
      have la : (a : Int) < (N : Int) := by omega
      obtain ⟨x, hx⟩ : ∃ x, D[h]? = some x := ⟨_, List.getElem?_eq_getElem (by omega)⟩
      obtain ⟨y, hy⟩ : ∃ y, D[a]? = some y := ⟨_, List.getElem?_eq_getElem (by omega)⟩
      have NL : Hid (before x.id y.id = true → h + 1 = m ∨ (m < h + 1 ∧ Ls D ((h + 1 - 1)) (a) true)) := Lib.hid fun hb => .inr ⟨by omega, x, y, by rw [Nat.add_sub_cancel]; exact hx, by first | exact hy | (rw [Nat.add_sub_cancel]; exact hy), hb⟩
      have NR : Hid (before x.id y.id = false → h = b ∨ (h < b ∧ Ls D (h) (a) false)) := Lib.hid fun hb => .inr ⟨by omega, x, y, hx, hy, hb⟩
      have LESS : Hid (∀ p : Lat grows wr, Calls Try.prog 42 #[x.val, y.val] p.W fun e w' => e = .returned (.int .i64 (cmpB x.id y.id)) ∧ Below p.W.heap.size p.W w') := Lib.hid fun p => less_any x y p.W
      have CL := cmp_lt x.id y.id
      generalize cmpB x.id y.id = r at *
      generalize before x.id y.id = bf at *
      have hroom := HR.out.room (k := h) (by omega)
      obtain ⟨g, o, e, px⟩ := HR.out.get hx
      cases e
      obtain ⟨g', o', e, py⟩ := HR.out.get hy
      cases e
      clear hx hy hl2
      obtain ⟨xs, xi, xg, xm, xx, xy, xvx, xvy, xh, xp, xl⟩ := x
      obtain ⟨ys, yi, yg, ym, yx, yy, yvx, yvy, yh, yp, yl⟩ := y
      simp only [Bn.val] at *
      have c0 := fun p => (px p).1
      have e0 := fun p => (py p).1
      have c1 := fun p => (px p).2.1
      have e1 := fun p => (py p).2.1
      have c2 := fun p => (px p).2.2.1
      have e2 := fun p => (py p).2.2.1
      have c3 := fun p => (px p).2.2.2.1
      have e3 := fun p => (py p).2.2.2.1
      have c4 := fun p => (px p).2.2.2.2.1
      have e4 := fun p => (py p).2.2.2.2.1
      have c5 := fun p => (px p).2.2.2.2.2.1
      have e5 := fun p => (py p).2.2.2.2.2.1
      have c6 := fun p => (px p).2.2.2.2.2.2.1
      have e6 := fun p => (py p).2.2.2.2.2.2.1
      have c7 := fun p => (px p).2.2.2.2.2.2.2.1
      have e7 := fun p => (py p).2.2.2.2.2.2.2.1
      have c8 := fun p => (px p).2.2.2.2.2.2.2.2.1
      have e8 := fun p => (py p).2.2.2.2.2.2.2.2.1
      have c9 := fun p => (px p).2.2.2.2.2.2.2.2.2.1
      have e9 := fun p => (py p).2.2.2.2.2.2.2.2.2.1
      have c10 := fun p => (px p).2.2.2.2.2.2.2.2.2.2
      have e10 := fun p => (py p).2.2.2.2.2.2.2.2.2.2
      clear px py
      have HL2 := HL
      have HH2 := HH
      clear HL HH TAIL
      go_upto_region 5 with fail
      refine Og.grow 11 (by kernel_rfl) (by kernel_rfl) fun hc hf => ?_
      clear hc hf
      simp only [List.take_succ_cons, List.take_zero, List.drop_succ_cons, List.drop_zero]
      iterate 9 (refine Og.det [] rfl (fun J hJ => ?_); go_simp; refine hJ _ _ ?_; clear hJ J)
      refine Og.det [] rfl (fun J hJ => ?_)
      go_simp
      with_reducible refine ⟨_, fun p => Og.lays (LESS.out p), hJ _ _ ?_⟩
      clear hJ J
      iterate 1 (refine Og.det [] rfl (fun J hJ => ?_); go_simp; refine hJ _ _ ?_; clear hJ J)
      refine Og.fin fun W hW => ?_
      simp only [Og.opened_nil]
      clear c0 c1 c2 c3 c4 c5 c6 c7 c8 c9 c10 e0 e1 e2 e3 e4 e5 e6 e7 e8 e9 e10 LESS
      replace HR := Lib.hid (HR.out.grown (Nat.le_of_lt hroom) hW)
      clear hW
      cases bf with
      | false =>
        have NX := Lib.hid (NR.out rfl)
        clear NL NR
        go_wp2
        go_roundw
        case rel => exact ⟨i, h, rfl, rfl, hlo, h1, by omega, HR, HL2, NX⟩
        case measure => simp [intOf]; omega
      | true =>
        have NX := Lib.hid (NL.out rfl)
        clear NL NR
        go_wp2
        go_roundw
        case rel => exact ⟨h + 1, j, by go_num, rfl, by omega, by omega, hhi, HR, NX, HH2⟩
        case measure => simp [intOf]; omega
    · have e : j = i := by omega
      subst e
      have t1 : ¬ (j : Int) < (j : Int) := by omega
      obtain ⟨Y1, Y2, U0, hl, z1, z2⟩ := TAIL.out j hlo hhi HL.out HH.out
      replace U0 := Lib.hid U0
      replace z1 := Lib.hid z1
      replace z2 := Lib.hid z2
      clear HL HH TAIL
      have ws : IntKind.i64.wrap ((j : Int) - 1) = ((a + Y1.length : Nat) : Int) := by rw [IntWalk.i64_in _ (by omega)]; omega
      obtain ⟨k1, hk1⟩ : ∃ k1, k1 = a + Y1.length := ⟨_, rfl⟩
      rw [← hk1] at ws
      have hk2 : k1 < j := by omega
      replace hk1 := Lib.hid hk1
      go_wp2
      go_loopw [13] (fun kx wr => ∃ (k : Nat) (R : List Bn), kx = .int .i64 k ∧ a ≤ k ∧ k ≤ k1 ∧ Hid (Rs B (some ⟨g0, o0, none⟩) N c R w wr) ∧ Hid (Up P (Y2 ++ Q) Y1 R x0 k)) (fun kx _ => k1 - (intOf kx).toNat)
      case atStart => exact ⟨a, D, rfl, Nat.le_refl _, by have := hk1.out; omega, HR, U0⟩
      case round =>
        clear HR U0
        obtain ⟨k, R, rfl, hak, hkk, HR, HU⟩ := hrel
        by_cases hlt : k < k1
        · have t3 : (k : Int) < (k1 : Int) := by omega
          obtain ⟨y, hx, hy, NU⟩ := HU.out.right (by have h1 := ha.out; have h2 := hk1.out; omega)
          replace NU := Lib.hid NU
          obtain ⟨kk, hkk'⟩ : ∃ kk, kk = k + 1 := ⟨_, rfl⟩
          rw [← hkk'] at hy NU
          have wk : IntKind.i64.wrap ((k : Int) + 1) = (kk : Int) := by rw [IntWalk.i64_in _ (by omega)]; omega
          have la : (k : Int) < (N : Int) := by omega
          have lb : (kk : Int) < (N : Int) := by omega
          have hkN : k < N := by omega
          have hkN' : kk < N := by omega
          have hkk2 : kk ≤ k1 := by omega
          have hkk3 : k < kk := by omega
          have HX := Lib.hid hx
          have HY := Lib.hid hy
          replace hkk' := Lib.hid hkk'
          clear hx hy HU
          obtain ⟨xs, xi, xg, xm, xx, xy, xvx, xvy, xh, xp, xl⟩ := x0
          obtain ⟨ys, yi, yg, ym, yx, yy, yvx, yvy, yh, yp, yl⟩ := y
          try simp only at NU
          go_upto_region 11 with fail
          obtain ⟨g', o', e, px⟩ := HR.out.get HX.out
          cases e
          obtain ⟨g', o', e, py⟩ := HR.out.get HY.out
          cases e
          simp only at px py
          clear HX HY
          have c0 := (px ⟨wr.drew, Below.d' (Below.refl _ _)⟩).1
          have e0 := (py ⟨wr.drew, Below.d' (Below.refl _ _)⟩).1
          have c1 := (px ⟨wr.drew, Below.d' (Below.refl _ _)⟩).2.1
          have e1 := (py ⟨wr.drew, Below.d' (Below.refl _ _)⟩).2.1
          have c2 := (px ⟨wr.drew, Below.d' (Below.refl _ _)⟩).2.2.1
          have e2 := (py ⟨wr.drew, Below.d' (Below.refl _ _)⟩).2.2.1
          have c3 := (px ⟨wr.drew, Below.d' (Below.refl _ _)⟩).2.2.2.1
          have e3 := (py ⟨wr.drew, Below.d' (Below.refl _ _)⟩).2.2.2.1
          have c4 := (px ⟨wr.drew, Below.d' (Below.refl _ _)⟩).2.2.2.2.1
          have e4 := (py ⟨wr.drew, Below.d' (Below.refl _ _)⟩).2.2.2.2.1
          have c5 := (px ⟨wr.drew, Below.d' (Below.refl _ _)⟩).2.2.2.2.2.1
          have e5 := (py ⟨wr.drew, Below.d' (Below.refl _ _)⟩).2.2.2.2.2.1
          have c6 := (px ⟨wr.drew, Below.d' (Below.refl _ _)⟩).2.2.2.2.2.2.1
          have e6 := (py ⟨wr.drew, Below.d' (Below.refl _ _)⟩).2.2.2.2.2.2.1
          have c7 := (px ⟨wr.drew, Below.d' (Below.refl _ _)⟩).2.2.2.2.2.2.2.1
          have e7 := (py ⟨wr.drew, Below.d' (Below.refl _ _)⟩).2.2.2.2.2.2.2.1
          have c8 := (px ⟨wr.drew, Below.d' (Below.refl _ _)⟩).2.2.2.2.2.2.2.2.1
          have e8 := (py ⟨wr.drew, Below.d' (Below.refl _ _)⟩).2.2.2.2.2.2.2.2.1
          have c9 := (px ⟨wr.drew, Below.d' (Below.refl _ _)⟩).2.2.2.2.2.2.2.2.2.1
          have e9 := (py ⟨wr.drew, Below.d' (Below.refl _ _)⟩).2.2.2.2.2.2.2.2.2.1
          have c10 := (px ⟨wr.drew, Below.d' (Below.refl _ _)⟩).2.2.2.2.2.2.2.2.2.2
          have e10 := (py ⟨wr.drew, Below.d' (Below.refl _ _)⟩).2.2.2.2.2.2.2.2.2.2
          clear px py
          simp only at c0 c1 c2 c3 c4 c5 c6 c7 c8 c9 c10 e0 e1 e2 e3 e4 e5 e6 e7 e8 e9 e10
          obtain ⟨g', o', e, ⟨q9, z0, z1, z2, z3, z4, z5, z6, z7, z8, z9, z10⟩, ⟨y0, y1, y2, y3, y4, y5, y6, y7, y8, y9, y10⟩, HP⟩ := HR.out.put (k := k) hkN ⟨ys, yi, yg, ym, yx, yy, yvx, yvy, yh, yp, yl⟩
          cases e
          clear HR
          simp only at HP
          obtain ⟨g', o', e, ⟨q2, p0, p1, p2, p3, p4, p5, p6, p7, p8, p9, p10⟩, ⟨h0, h1, h2, h3, h4, h5, h6, h7, h8, h9, h10⟩, HP2⟩ := HP.out.put (k := kk) hkN' ⟨xs, xi, xg, xm, xx, xy, xvx, xvy, xh, xp, xl⟩
          cases e
          clear HP
          simp only at HP2
          go_big_region
          clear c0 c1 c2 c3 c4 c5 c6 c7 c8 c9 c10 e0 e1 e2 e3 e4 e5 e6 e7 e8 e9 e10 z0 z1 z2 z3 z4 z5 z6 z7 z8 z9 z10 y0 y1 y2 y3 y4 y5 y6 y7 y8 y9 y10 p0 p1 p2 p3 p4 p5 p6 p7 p8 p9 p10 h0 h1 h2 h3 h4 h5 h6 h7 h8 h9 h10
          have HP3 := Lib.hid (HP2.out.grown (by have := HP2.out.room (k := k) hkN; omega) (Below.d' (Below.refl _ _)))
          clear HP2
          go_wp2
          go_roundw
          case rel => exact ⟨kk, _, rfl, by omega, hkk2, HP3, NU⟩
          case measure => simp [intOf]; omega
        · have t3 : ¬ (k : Int) < (k1 : Int) := by omega
          have er := HU.out.at_last (by have h1 := ha.out; have h2 := hk1.out; omega)
          replace er := Lib.hid er
          clear HU
          go_wp2
          refine bodyPost_ret (results_none rfl _ _ _) rfl ⟨rfl, _, z1.out, z2.out, ?_⟩
          have e2 : P ++ (Y1 ++ x0 :: Y2 ++ Q) = R := by rw [er.out]; simp [List.append_assoc]
          rw [e2]
          exact HR.out
end Go.Proofs.Ytookmjdnmmfkfaa
