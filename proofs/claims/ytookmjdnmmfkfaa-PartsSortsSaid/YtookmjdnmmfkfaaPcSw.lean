/- The library's swapRangeCmpFunc, over a row of one's own. Written by wip/tools/gensw.py. -/
import Derived.Test.YtookmjdnmmfkfaaPcCode7
import Derived.BigRegion
namespace Go.Proofs.Ytookmjdnmmfkfaa
open Go.RowKit Pz
set_option linter.unusedVariables false

namespace Pz
/-- two exchanged -/
def sw (l : List Bn) (i j : Nat) : List Bn := match l[i]?, l[j]? with | some x, some y => (l.set i y).set j x | _, _ => l
theorem sw_is {l : List Bn} {i j : Nat} {x y : Bn} (hx : l[i]? = some x) (hy : l[j]? = some y) : sw l i j = (l.set i y).set j x := by
  unfold sw
  rw [hx, hy]
theorem sw_len (l : List Bn) (i j : Nat) : (sw l i j).length = l.length := by
  unfold sw
  split
  · rw [List.length_set, List.length_set]
  · rfl
/-- n in a row -/
def swr (l : List Bn) (a b : Nat) : Nat → List Bn
  | 0 => l
  | n + 1 => swr (sw l a b) (a + 1) (b + 1) n
theorem swr_len : ∀ (n : Nat) (l : List Bn) (a b : Nat), (swr l a b n).length = l.length
  | 0, _, _, _ => rfl
  | n + 1, l, a, b => by
    rw [swr, swr_len n, sw_len]
theorem sw_parts (P M Q : List Bn) (x y : Bn) : sw (P ++ x :: (M ++ y :: Q)) P.length (P.length + 1 + M.length) = P ++ y :: (M ++ x :: Q) := by
  have e1 : (P ++ x :: (M ++ y :: Q))[P.length]? = some x := by rw [List.getElem?_append_right (Nat.le_refl _), Nat.sub_self]; rfl
  have e2 : (P ++ x :: (M ++ y :: Q))[P.length + 1 + M.length]? = some y := by
    rw [List.getElem?_append_right (by omega), show P.length + 1 + M.length - P.length = M.length + 1 by omega, List.getElem?_cons_succ, List.getElem?_append_right (Nat.le_refl _), Nat.sub_self]
    rfl
  rw [sw_is e1 e2, List.set_append_right _ _ (Nat.le_refl _), Nat.sub_self, List.set_cons_zero, List.set_append_right _ _ (by omega), show P.length + 1 + M.length - P.length = M.length + 1 by omega, List.set_cons_succ, List.set_append_right _ _ (Nat.le_refl _), Nat.sub_self, List.set_cons_zero]
theorem swr_parts : ∀ (X Y P M Q : List Bn), X.length = Y.length → swr (P ++ (X ++ (M ++ (Y ++ Q)))) P.length (P.length + X.length + M.length) X.length = P ++ (Y ++ (M ++ (X ++ Q)))
  | [], [], P, M, Q, _ => rfl
  | [], y :: Y, _, _, _, h => by simp at h
  | x :: X, [], _, _, _, h => by simp at h
  | x :: X, y :: Y, P, M, Q, h => by
    have h : X.length = Y.length := by simpa using h
    have e := sw_parts P (X ++ M) (Y ++ Q) x y
    have ih := swr_parts X Y (P ++ [y]) (M ++ [x]) Q h
    simp only [List.length_append, List.length_cons, List.length_nil, List.append_assoc, List.cons_append, List.nil_append, Nat.zero_add] at e ih ⊢
    rw [swr]
    rw [show P.length + (X.length + 1) + M.length = P.length + 1 + (X.length + M.length) by omega, e]
    rw [show P.length + 1 + (X.length + M.length) + 1 = P.length + 1 + X.length + (M.length + 1) by omega]
    exact ih
end Pz
/-- what a call of the sort's may do: the row is another one, all that lies below stays -/
structure Rs (B : Nat) (A : Option Addr) (N c : Nat) (d : List Bn) (w W : World) : Prop where
  own : OwnB W B (.slice A N c) d
  len : d.length = N
  bel : Below B w W
theorem Rs.grown {B : Nat} {A : Option Addr} {N c : Nat} {d : List Bn} {w W W2 : World} (h : Rs B A N c d w W) (hB : B ≤ W.heap.size) (hb : Below W.heap.size W W2) : Rs B A N c d w W2 :=
  ⟨h.own.below hb, h.len, h.bel.trans (hb.mono hB)⟩
theorem Rs.again {B : Nat} {A : Option Addr} {N c : Nat} {d d2 : List Bn} {w W W2 : World} (h : Rs B A N c d w W) (h2 : Rs B A N c d2 W W2) : Rs B A N c d2 w W2 := ⟨h2.own, h2.len, h.bel.trans h2.bel⟩
theorem Rs.room {B : Nat} {A : Option Addr} {N c : Nat} {d : List Bn} {w W : World} (h : Rs B A N c d w W) {k : Nat} (hk : k < N) : B < W.heap.size := by
  have hk' : k < d.length := by rw [h.len]; exact hk
  have ho := h.own
  rw [← h.len] at ho
  obtain ⟨g, o, c', e, h1, h2, _⟩ := ho.at_ (List.getElem?_eq_getElem hk')
  omega
/-- one entity is read -/
theorem Rs.get {B : Nat} {A : Option Addr} {N c : Nat} {d : List Bn} {w W : World} (h : Rs B A N c d w W) {k : Nat} {x : Bn} (hk : d[k]? = some x) :
    ∃ g o, A = some ⟨g, o, none⟩ ∧ ∀ p : Lat grows W, (p.W.cell? ⟨g, o + k * 11, none⟩ = some (.int .i64 x.s) ∧ p.W.cell? ⟨g, o + k * 11 + 1, none⟩ = some (.int .i64 x.i) ∧ p.W.cell? ⟨g, o + k * 11 + 2, none⟩ = some (.int .i64 x.g) ∧ p.W.cell? ⟨g, o + k * 11 + 3, none⟩ = some (.int .i64 x.m) ∧ p.W.cell? ⟨g, o + k * 11 + 4, none⟩ = some (.int .i64 x.x) ∧ p.W.cell? ⟨g, o + k * 11 + 5, none⟩ = some (.int .i64 x.y) ∧ p.W.cell? ⟨g, o + k * 11 + 6, none⟩ = some (.int .i64 x.vx) ∧ p.W.cell? ⟨g, o + k * 11 + 7, none⟩ = some (.int .i64 x.vy) ∧ p.W.cell? ⟨g, o + k * 11 + 8, none⟩ = some (.int .i64 x.h) ∧ p.W.cell? ⟨g, o + k * 11 + 9, none⟩ = some (.int .i64 x.p) ∧ p.W.cell? ⟨g, o + k * 11 + 10, none⟩ = some (.int .i64 x.l)) := by
  have ho := h.own
  rw [← h.len] at ho
  obtain ⟨g, o, e, hB, hc, hf⟩ := own_at ho hk
  refine ⟨g, o, e, fun p => ?_⟩
  have R := RdB.of_own ho
  obtain ⟨g', o', e', _, hc'⟩ := (R.below (lat_below p)) k x hk
  rw [e] at e'
  cases e'
  exact hc'
/-- one entity is put -/
theorem Rs.put {B : Nat} {A : Option Addr} {N c : Nat} {d : List Bn} {w W : World} (h : Rs B A N c d w W) {k : Nat} (hk : k < N) (x : Bn) :
    ∃ g o, A = some ⟨g, o, none⟩ ∧ (∃ y : Bn, (W.cell? ⟨g, o + k * 11, none⟩ = some (.int .i64 y.s) ∧ W.cell? ⟨g, o + k * 11 + 1, none⟩ = some (.int .i64 y.i) ∧ W.cell? ⟨g, o + k * 11 + 2, none⟩ = some (.int .i64 y.g) ∧ W.cell? ⟨g, o + k * 11 + 3, none⟩ = some (.int .i64 y.m) ∧ W.cell? ⟨g, o + k * 11 + 4, none⟩ = some (.int .i64 y.x) ∧ W.cell? ⟨g, o + k * 11 + 5, none⟩ = some (.int .i64 y.y) ∧ W.cell? ⟨g, o + k * 11 + 6, none⟩ = some (.int .i64 y.vx) ∧ W.cell? ⟨g, o + k * 11 + 7, none⟩ = some (.int .i64 y.vy) ∧ W.cell? ⟨g, o + k * 11 + 8, none⟩ = some (.int .i64 y.h) ∧ W.cell? ⟨g, o + k * 11 + 9, none⟩ = some (.int .i64 y.p) ∧ W.cell? ⟨g, o + k * 11 + 10, none⟩ = some (.int .i64 y.l))) ∧ (W.frozen? ⟨g, o + k * 11, none⟩ = false ∧ W.frozen? ⟨g, o + k * 11 + 1, none⟩ = false ∧ W.frozen? ⟨g, o + k * 11 + 2, none⟩ = false ∧ W.frozen? ⟨g, o + k * 11 + 3, none⟩ = false ∧ W.frozen? ⟨g, o + k * 11 + 4, none⟩ = false ∧ W.frozen? ⟨g, o + k * 11 + 5, none⟩ = false ∧ W.frozen? ⟨g, o + k * 11 + 6, none⟩ = false ∧ W.frozen? ⟨g, o + k * 11 + 7, none⟩ = false ∧ W.frozen? ⟨g, o + k * 11 + 8, none⟩ = false ∧ W.frozen? ⟨g, o + k * 11 + 9, none⟩ = false ∧ W.frozen? ⟨g, o + k * 11 + 10, none⟩ = false) ∧ Hid (Rs B A N c (d.set k x) w (((((((((((W.setCell ⟨g, o + k * 11, none⟩ (.int .i64 x.s)).setCell ⟨g, o + k * 11 + 1, none⟩ (.int .i64 x.i)).setCell ⟨g, o + k * 11 + 2, none⟩ (.int .i64 x.g)).setCell ⟨g, o + k * 11 + 3, none⟩ (.int .i64 x.m)).setCell ⟨g, o + k * 11 + 4, none⟩ (.int .i64 x.x)).setCell ⟨g, o + k * 11 + 5, none⟩ (.int .i64 x.y)).setCell ⟨g, o + k * 11 + 6, none⟩ (.int .i64 x.vx)).setCell ⟨g, o + k * 11 + 7, none⟩ (.int .i64 x.vy)).setCell ⟨g, o + k * 11 + 8, none⟩ (.int .i64 x.h)).setCell ⟨g, o + k * 11 + 9, none⟩ (.int .i64 x.p)).setCell ⟨g, o + k * 11 + 10, none⟩ (.int .i64 x.l))) := by
  obtain ⟨g, o, e, ⟨y, _, hy⟩, hf, hp⟩ := row_put h.own h.len hk x
  subst e
  exact ⟨g, o, rfl, ⟨y, hy⟩, hf, Lib.hid ⟨hp.out.1, by rw [List.length_set]; exact h.len, h.bel.trans hp.out.2⟩⟩
set_option maxHeartbeats 16000000 in
set_option maxRecDepth 100000 in
theorem swaprange_any {B : Nat} {A : Option Addr} {N c : Nat} {d : List Bn} {w : World} (h : Rs B A N c d w w) (hN : N ≤ 1000000) (a b m : Nat) (ha : a + m ≤ b) (hb : b + m ≤ N) :
    Calls Try.prog 57 #[.slice A N c, .int .i64 (a : Int), .int .i64 (b : Int), .int .i64 (m : Int), .func (.func 42) #[] #[]] w fun e w' => e = .returned (.tuple #[]) ∧ Rs B A N c (swr d a b m) w w' := by
  have H0 := Lib.hid h
  obtain ⟨D, hD⟩ : ∃ D, D = swr d a b m := ⟨_, rfl⟩
  rw [← hD]
  have D0 : Hid (swr d (a + 0) (b + 0) (m - 0) = D) := Lib.hid hD.symm
  clear hD
  go_enter Try.func57, Try.ntmps57
  go_wp2
  go_loopw [10] (fun ix wr => ∃ (k : Nat) (R : List Bn), k ≤ m ∧ ix = .int .i64 k ∧ Hid (Rs B A N c R w wr) ∧ Hid (swr R (a + k) (b + k) (m - k) = D)) (fun ix _ => m - (intOf ix).toNat)
  case atStart => exact ⟨0, d, Nat.zero_le _, rfl, H0, D0⟩
  case round =>
    obtain ⟨k, R, hk, rfl, HR, HD⟩ := hrel
    clear H0 D0 h
    by_cases hkm : k < m
    · have t1 : (k : Int) < (m : Int) := by omega
      obtain ⟨ia, hia⟩ : ∃ i, i = a + k := ⟨_, rfl⟩
      obtain ⟨ib, hib⟩ : ∃ i, i = b + k := ⟨_, rfl⟩
      have wa : IntKind.i64.wrap ((a : Int) + (k : Int)) = (ia : Int) := by rw [IntWalk.i64_in _ (by omega)]; omega
      have wb : IntKind.i64.wrap ((b : Int) + (k : Int)) = (ib : Int) := by rw [IntWalk.i64_in _ (by omega)]; omega
      have la : (ia : Int) < (N : Int) := by omega
      have lb : (ib : Int) < (N : Int) := by omega
      have hlen := HR.out.len
      obtain ⟨x, hx⟩ : ∃ x, R[ia]? = some x := ⟨_, List.getElem?_eq_getElem (by omega)⟩
      obtain ⟨y, hy⟩ : ∃ y, R[ib]? = some y := ⟨_, List.getElem?_eq_getElem (by omega)⟩
      have ND : Hid (swr ((R.set ia y).set ib x) (a + (k + 1)) (b + (k + 1)) (m - (k + 1)) = D) := Lib.hid (by
        have := HD.out
        rw [show m - k = (m - (k + 1)) + 1 by omega, swr, ← hia, ← hib, sw_is hx hy] at this
        rw [show a + (k + 1) = ia + 1 by omega, show b + (k + 1) = ib + 1 by omega]
        exact this)
      obtain ⟨g, o, rfl, px⟩ := HR.out.get hx
      obtain ⟨g', o', e, py⟩ := HR.out.get hy
      cases e
      have hroom := HR.out.room (k := ia) (by omega)
      replace hia := Lib.hid hia
      replace hib := Lib.hid hib
      clear HD hx hy hlen
      obtain ⟨xs, xi, xg, xm, xx, xy, xvx, xvy, xh, xp, xl⟩ := x
      obtain ⟨ys, yi, yg, ym, yx, yy, yvx, yvy, yh, yp, yl⟩ := y
      simp only at px py
      have c0 := (px ⟨wr.drew, Below.d' (Below.refl _ _)⟩).1
      have e0 := (py ⟨wr.drew, Below.d' (Below.refl _ _)⟩).1
      have c1 := (px ⟨wr.drew, Below.d' (Below.refl _ _)⟩).2.1
      have e1 := (py ⟨wr.drew, Below.d' (Below.refl _ _)⟩).2.1
      have c2 := (px ⟨wr.drew, Below.d' (Below.refl _ _)⟩).2.2.1
      have e2 := (py ⟨wr.drew, Below.d' (Below.refl _ _)⟩).2.2.1
      have c3 := (px ⟨wr.drew, Below.d' (Below.refl _ _)⟩).2.2.2.1
      have e3 := (py ⟨wr.drew, Below.d' (Below.refl _ _)⟩).2.2.2.1
      have c4 := (px ⟨wr.drew, Below.d' (Below.refl _ _)⟩).2.2.2.2.1
      have e4 := (py ⟨wr.drew, Below.d' (Below.refl _ _)⟩).2.2.2.2.1
      have c5 := (px ⟨wr.drew, Below.d' (Below.refl _ _)⟩).2.2.2.2.2.1
      have e5 := (py ⟨wr.drew, Below.d' (Below.refl _ _)⟩).2.2.2.2.2.1
      have c6 := (px ⟨wr.drew, Below.d' (Below.refl _ _)⟩).2.2.2.2.2.2.1
      have e6 := (py ⟨wr.drew, Below.d' (Below.refl _ _)⟩).2.2.2.2.2.2.1
      have c7 := (px ⟨wr.drew, Below.d' (Below.refl _ _)⟩).2.2.2.2.2.2.2.1
      have e7 := (py ⟨wr.drew, Below.d' (Below.refl _ _)⟩).2.2.2.2.2.2.2.1
      have c8 := (px ⟨wr.drew, Below.d' (Below.refl _ _)⟩).2.2.2.2.2.2.2.2.1
      have e8 := (py ⟨wr.drew, Below.d' (Below.refl _ _)⟩).2.2.2.2.2.2.2.2.1
      have c9 := (px ⟨wr.drew, Below.d' (Below.refl _ _)⟩).2.2.2.2.2.2.2.2.2.1
      have e9 := (py ⟨wr.drew, Below.d' (Below.refl _ _)⟩).2.2.2.2.2.2.2.2.2.1
      have c10 := (px ⟨wr.drew, Below.d' (Below.refl _ _)⟩).2.2.2.2.2.2.2.2.2.2
      have e10 := (py ⟨wr.drew, Below.d' (Below.refl _ _)⟩).2.2.2.2.2.2.2.2.2.2
      clear px py
      simp only at c0 c1 c2 c3 c4 c5 c6 c7 c8 c9 c10 e0 e1 e2 e3 e4 e5 e6 e7 e8 e9 e10
      go_upto_region 3 with fail
      obtain ⟨g', o', e, ⟨q9, z0, z1, z2, z3, z4, z5, z6, z7, z8, z9, z10⟩, ⟨y0, y1, y2, y3, y4, y5, y6, y7, y8, y9, y10⟩, HP⟩ := HR.out.put (k := ia) (by have := hia.out; omega) ⟨ys, yi, yg, ym, yx, yy, yvx, yvy, yh, yp, yl⟩
      cases e
      clear HR
      simp only at HP
      obtain ⟨g', o', e, ⟨q2, p0, p1, p2, p3, p4, p5, p6, p7, p8, p9, p10⟩, ⟨h0, h1, h2, h3, h4, h5, h6, h7, h8, h9, h10⟩, HP2⟩ := HP.out.put (k := ib) (by have := hib.out; omega) ⟨xs, xi, xg, xm, xx, xy, xvx, xvy, xh, xp, xl⟩
      cases e
      clear HP
      simp only at HP2
      go_big_region
      clear c0 c1 c2 c3 c4 c5 c6 c7 c8 c9 c10 e0 e1 e2 e3 e4 e5 e6 e7 e8 e9 e10 z0 z1 z2 z3 z4 z5 z6 z7 z8 z9 z10 y0 y1 y2 y3 y4 y5 y6 y7 y8 y9 y10 p0 p1 p2 p3 p4 p5 p6 p7 p8 p9 p10 h0 h1 h2 h3 h4 h5 h6 h7 h8 h9 h10
      have HP3 := Lib.hid (HP2.out.grown (by have := HP2.out.room (k := ia) (by have := hia.out; omega); omega) (Below.d' (Below.refl _ _)))
      clear HP2
      go_wp2
      go_roundw
      case rel => exact ⟨k + 1, _, by omega, by go_num, HP3, ND⟩
      case measure => simp [intOf]; omega
    · have e : k = m := by omega
      subst e
      have t1 : ¬ (k : Int) < (k : Int) := by omega
      have e2 : R = D := by have := HD.out; rw [Nat.sub_self] at this; exact this
      subst e2
      clear HD
      go_wp2
      go_end0
      exact ⟨rfl, HR.out⟩
end Go.Proofs.Ytookmjdnmmfkfaa
