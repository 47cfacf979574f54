/- SoSw, SoRot, SoIns, SoCut, in one text. -/
import Derived.Test.YtgmgenggboicnaaKSoA
import Derived.BigRegion
namespace Go.Proofs.Ytgmgenggboicnaa
open Go.RowKit Pz
set_option linter.unusedVariables false
variable {κ : Bn → K3} {fn : Nat} {cap : Array Value}

namespace Pz
/-- two exchanged -/
def sw (l : List Bn) (i j : Nat) : List Bn := match l[i]?, l[j]? with | some x, some y => (l.set i y).set j x | _, _ => l
theorem sw_is {l : List Bn} {i j : Nat} {x y : Bn} (hx : l[i]? = some x) (hy : l[j]? = some y) : sw l i j = (l.set i y).set j x := by
  unfold sw
  rw [hx, hy]
theorem sw_len (l : List Bn) (i j : Nat) : (sw l i j).length = l.length := by
  unfold sw
  split
  · rw [List.length_set, List.length_set]
  · rfl
/-- n in a row -/
def swr (l : List Bn) (a b : Nat) : Nat → List Bn
  | 0 => l
  | n + 1 => swr (sw l a b) (a + 1) (b + 1) n
theorem swr_len : ∀ (n : Nat) (l : List Bn) (a b : Nat), (swr l a b n).length = l.length
  | 0, _, _, _ => rfl
  | n + 1, l, a, b => by
    rw [swr, swr_len n, sw_len]
theorem sw_parts (P M Q : List Bn) (x y : Bn) : sw (P ++ x :: (M ++ y :: Q)) P.length (P.length + 1 + M.length) = P ++ y :: (M ++ x :: Q) := by
  have e1 : (P ++ x :: (M ++ y :: Q))[P.length]? = some x := by rw [List.getElem?_append_right (Nat.le_refl _), Nat.sub_self]; rfl
  have e2 : (P ++ x :: (M ++ y :: Q))[P.length + 1 + M.length]? = some y := by
    rw [List.getElem?_append_right (by omega), show P.length + 1 + M.length - P.length = M.length + 1 by omega, List.getElem?_cons_succ, List.getElem?_append_right (Nat.le_refl _), Nat.sub_self]
    rfl
  rw [sw_is e1 e2, List.set_append_right _ _ (Nat.le_refl _), Nat.sub_self, List.set_cons_zero, List.set_append_right _ _ (by omega), show P.length + 1 + M.length - P.length = M.length + 1 by omega, List.set_cons_succ, List.set_append_right _ _ (Nat.le_refl _), Nat.sub_self, List.set_cons_zero]
theorem swr_parts : ∀ (X Y P M Q : List Bn), X.length = Y.length → swr (P ++ (X ++ (M ++ (Y ++ Q)))) P.length (P.length + X.length + M.length) X.length = P ++ (Y ++ (M ++ (X ++ Q)))
  | [], [], P, M, Q, _ => rfl
  | [], y :: Y, _, _, _, h => by simp at h
  | x :: X, [], _, _, _, h => by simp at h
  | x :: X, y :: Y, P, M, Q, h => by
    have h : X.length = Y.length := by simpa using h
    have e := sw_parts P (X ++ M) (Y ++ Q) x y
    have ih := swr_parts X Y (P ++ [y]) (M ++ [x]) Q h
    simp only [List.length_append, List.length_cons, List.length_nil, List.append_assoc, List.cons_append, List.nil_append, Nat.zero_add] at e ih ⊢
    rw [swr]
    rw [show P.length + (X.length + 1) + M.length = P.length + 1 + (X.length + M.length) by omega, e]
    rw [show P.length + 1 + (X.length + M.length) + 1 = P.length + 1 + X.length + (M.length + 1) by omega]
    exact ih
end Pz
/-- what a call of the sort's may do: the row is another one, all that lies below stays -/
structure Rs (B : Nat) (A : Option Addr) (N c : Nat) (d : List Bn) (w W : World) : Prop where
  own : OwnB W B (.slice A N c) d
  len : d.length = N
  bel : Below B w W
theorem Rs.grown {B : Nat} {A : Option Addr} {N c : Nat} {d : List Bn} {w W W2 : World} (h : Rs B A N c d w W) (hB : B ≤ W.heap.size) (hb : Below W.heap.size W W2) : Rs B A N c d w W2 :=
  ⟨h.own.below hb, h.len, h.bel.trans (hb.mono hB)⟩
theorem Rs.again {B : Nat} {A : Option Addr} {N c : Nat} {d d2 : List Bn} {w W W2 : World} (h : Rs B A N c d w W) (h2 : Rs B A N c d2 W W2) : Rs B A N c d2 w W2 := ⟨h2.own, h2.len, h.bel.trans h2.bel⟩
theorem Rs.room {B : Nat} {A : Option Addr} {N c : Nat} {d : List Bn} {w W : World} (h : Rs B A N c d w W) {k : Nat} (hk : k < N) : B < W.heap.size := by
  have hk' : k < d.length := by rw [h.len]; exact hk
  have ho := h.own
  rw [← h.len] at ho
  obtain ⟨g, o, c', e, h1, h2, _⟩ := ho.at_ (List.getElem?_eq_getElem hk')
  omega
/-- one entity is read -/
theorem Rs.get {B : Nat} {A : Option Addr} {N c : Nat} {d : List Bn} {w W : World} (h : Rs B A N c d w W) {k : Nat} {x : Bn} (hk : d[k]? = some x) :
    ∃ g o, A = some ⟨g, o, none⟩ ∧ ∀ p : Lat grows W, (p.W.cell? ⟨g, o + k * 11, none⟩ = some (.int .i64 x.s) ∧ p.W.cell? ⟨g, o + k * 11 + 1, none⟩ = some (.int .i64 x.i) ∧ p.W.cell? ⟨g, o + k * 11 + 2, none⟩ = some (.int .i64 x.g) ∧ p.W.cell? ⟨g, o + k * 11 + 3, none⟩ = some (.int .i64 x.m) ∧ p.W.cell? ⟨g, o + k * 11 + 4, none⟩ = some (.int .i64 x.x) ∧ p.W.cell? ⟨g, o + k * 11 + 5, none⟩ = some (.int .i64 x.y) ∧ p.W.cell? ⟨g, o + k * 11 + 6, none⟩ = some (.int .i64 x.vx) ∧ p.W.cell? ⟨g, o + k * 11 + 7, none⟩ = some (.int .i64 x.vy) ∧ p.W.cell? ⟨g, o + k * 11 + 8, none⟩ = some (.int .i64 x.h) ∧ p.W.cell? ⟨g, o + k * 11 + 9, none⟩ = some (.int .i64 x.p) ∧ p.W.cell? ⟨g, o + k * 11 + 10, none⟩ = some (.int .i64 x.l)) := by
  have ho := h.own
  rw [← h.len] at ho
  obtain ⟨g, o, e, hB, hc, hf⟩ := own_at ho hk
  refine ⟨g, o, e, fun p => ?_⟩
  have R := RdB.of_own ho
  obtain ⟨g', o', e', _, hc'⟩ := (R.below (lat_below p)) k x hk
  rw [e] at e'
  cases e'
  exact hc'
/-- one entity is put -/
theorem Rs.put {B : Nat} {A : Option Addr} {N c : Nat} {d : List Bn} {w W : World} (h : Rs B A N c d w W) {k : Nat} (hk : k < N) (x : Bn) :
    ∃ g o, A = some ⟨g, o, none⟩ ∧ (∃ y : Bn, (W.cell? ⟨g, o + k * 11, none⟩ = some (.int .i64 y.s) ∧ W.cell? ⟨g, o + k * 11 + 1, none⟩ = some (.int .i64 y.i) ∧ W.cell? ⟨g, o + k * 11 + 2, none⟩ = some (.int .i64 y.g) ∧ W.cell? ⟨g, o + k * 11 + 3, none⟩ = some (.int .i64 y.m) ∧ W.cell? ⟨g, o + k * 11 + 4, none⟩ = some (.int .i64 y.x) ∧ W.cell? ⟨g, o + k * 11 + 5, none⟩ = some (.int .i64 y.y) ∧ W.cell? ⟨g, o + k * 11 + 6, none⟩ = some (.int .i64 y.vx) ∧ W.cell? ⟨g, o + k * 11 + 7, none⟩ = some (.int .i64 y.vy) ∧ W.cell? ⟨g, o + k * 11 + 8, none⟩ = some (.int .i64 y.h) ∧ W.cell? ⟨g, o + k * 11 + 9, none⟩ = some (.int .i64 y.p) ∧ W.cell? ⟨g, o + k * 11 + 10, none⟩ = some (.int .i64 y.l))) ∧ (W.frozen? ⟨g, o + k * 11, none⟩ = false ∧ W.frozen? ⟨g, o + k * 11 + 1, none⟩ = false ∧ W.frozen? ⟨g, o + k * 11 + 2, none⟩ = false ∧ W.frozen? ⟨g, o + k * 11 + 3, none⟩ = false ∧ W.frozen? ⟨g, o + k * 11 + 4, none⟩ = false ∧ W.frozen? ⟨g, o + k * 11 + 5, none⟩ = false ∧ W.frozen? ⟨g, o + k * 11 + 6, none⟩ = false ∧ W.frozen? ⟨g, o + k * 11 + 7, none⟩ = false ∧ W.frozen? ⟨g, o + k * 11 + 8, none⟩ = false ∧ W.frozen? ⟨g, o + k * 11 + 9, none⟩ = false ∧ W.frozen? ⟨g, o + k * 11 + 10, none⟩ = false) ∧ Hid (Rs B A N c (d.set k x) w (((((((((((W.setCell ⟨g, o + k * 11, none⟩ (.int .i64 x.s)).setCell ⟨g, o + k * 11 + 1, none⟩ (.int .i64 x.i)).setCell ⟨g, o + k * 11 + 2, none⟩ (.int .i64 x.g)).setCell ⟨g, o + k * 11 + 3, none⟩ (.int .i64 x.m)).setCell ⟨g, o + k * 11 + 4, none⟩ (.int .i64 x.x)).setCell ⟨g, o + k * 11 + 5, none⟩ (.int .i64 x.y)).setCell ⟨g, o + k * 11 + 6, none⟩ (.int .i64 x.vx)).setCell ⟨g, o + k * 11 + 7, none⟩ (.int .i64 x.vy)).setCell ⟨g, o + k * 11 + 8, none⟩ (.int .i64 x.h)).setCell ⟨g, o + k * 11 + 9, none⟩ (.int .i64 x.p)).setCell ⟨g, o + k * 11 + 10, none⟩ (.int .i64 x.l))) := by
  obtain ⟨g, o, e, ⟨y, _, hy⟩, hf, hp⟩ := row_put h.own h.len hk x
  subst e
  exact ⟨g, o, rfl, ⟨y, hy⟩, hf, Lib.hid ⟨hp.out.1, by rw [List.length_set]; exact h.len, h.bel.trans hp.out.2⟩⟩
set_option maxHeartbeats 16000000 in
set_option maxRecDepth 100000 in
theorem swaprange_any {B : Nat} {A : Option Addr} {N c : Nat} {d : List Bn} {w : World} (h : Rs B A N c d w w) (hN : N ≤ 1000000) (a b m : Nat) (ha : a + m ≤ b) (hb : b + m ≤ N) :
    Calls Try.prog 109 #[.slice A N c, .int .i64 (a : Int), .int .i64 (b : Int), .int .i64 (m : Int), .func (.func fn) #[] cap] w fun e w' => e = .returned (.tuple #[]) ∧ Rs B A N c (swr d a b m) w w' := by
  have H0 := Lib.hid h
  obtain ⟨D, hD⟩ : ∃ D, D = swr d a b m := ⟨_, rfl⟩
  rw [← hD]
  have D0 : Hid (swr d (a + 0) (b + 0) (m - 0) = D) := Lib.hid hD.symm
  clear hD
  go_enter Try.func109, Try.ntmps109
  go_wp2
  go_loopw [10] (fun ix wr => ∃ (k : Nat) (R : List Bn), k ≤ m ∧ ix = .int .i64 k ∧ Hid (Rs B A N c R w wr) ∧ Hid (swr R (a + k) (b + k) (m - k) = D)) (fun ix _ => m - (intOf ix).toNat)
  case atStart => exact ⟨0, d, Nat.zero_le _, rfl, H0, D0⟩
  case round =>
    obtain ⟨k, R, hk, rfl, HR, HD⟩ := hrel
    clear H0 D0 h
    by_cases hkm : k < m
    · have t1 : (k : Int) < (m : Int) := by omega
      obtain ⟨ia, hia⟩ : ∃ i, i = a + k := ⟨_, rfl⟩
      obtain ⟨ib, hib⟩ : ∃ i, i = b + k := ⟨_, rfl⟩
      have wa : IntKind.i64.wrap ((a : Int) + (k : Int)) = (ia : Int) := by rw [IntWalk.i64_in _ (by omega)]; omega
      have wb : IntKind.i64.wrap ((b : Int) + (k : Int)) = (ib : Int) := by rw [IntWalk.i64_in _ (by omega)]; omega
      have la : (ia : Int) < (N : Int) := by omega
      have lb : (ib : Int) < (N : Int) := by omega
      have hlen := HR.out.len
      obtain ⟨x, hx⟩ : ∃ x, R[ia]? = some x := ⟨_, List.getElem?_eq_getElem (by omega)⟩
      obtain ⟨y, hy⟩ : ∃ y, R[ib]? = some y := ⟨_, List.getElem?_eq_getElem (by omega)⟩
      have ND : Hid (swr ((R.set ia y).set ib x) (a + (k + 1)) (b + (k + 1)) (m - (k + 1)) = D) := Lib.hid (by
        have := HD.out
        rw [show m - k = (m - (k + 1)) + 1 by omega, swr, ← hia, ← hib, sw_is hx hy] at this
        rw [show a + (k + 1) = ia + 1 by omega, show b + (k + 1) = ib + 1 by omega]
        exact this)
      obtain ⟨g, o, rfl, px⟩ := HR.out.get hx
      obtain ⟨g', o', e, py⟩ := HR.out.get hy
      cases e
      have hroom := HR.out.room (k := ia) (by omega)
      replace hia := Lib.hid hia
      replace hib := Lib.hid hib
      clear HD hx hy hlen
      obtain ⟨xs, xi, xg, xm, xx, xy, xvx, xvy, xh, xp, xl⟩ := x
      obtain ⟨ys, yi, yg, ym, yx, yy, yvx, yvy, yh, yp, yl⟩ := y
      simp only at px py
      have c0 := (px ⟨wr.drew, Below.d' (Below.refl _ _)⟩).1
      have e0 := (py ⟨wr.drew, Below.d' (Below.refl _ _)⟩).1
      have c1 := (px ⟨wr.drew, Below.d' (Below.refl _ _)⟩).2.1
      have e1 := (py ⟨wr.drew, Below.d' (Below.refl _ _)⟩).2.1
      have c2 := (px ⟨wr.drew, Below.d' (Below.refl _ _)⟩).2.2.1
      have e2 := (py ⟨wr.drew, Below.d' (Below.refl _ _)⟩).2.2.1
      have c3 := (px ⟨wr.drew, Below.d' (Below.refl _ _)⟩).2.2.2.1
      have e3 := (py ⟨wr.drew, Below.d' (Below.refl _ _)⟩).2.2.2.1
      have c4 := (px ⟨wr.drew, Below.d' (Below.refl _ _)⟩).2.2.2.2.1
      have e4 := (py ⟨wr.drew, Below.d' (Below.refl _ _)⟩).2.2.2.2.1
      have c5 := (px ⟨wr.drew, Below.d' (Below.refl _ _)⟩).2.2.2.2.2.1
      have e5 := (py ⟨wr.drew, Below.d' (Below.refl _ _)⟩).2.2.2.2.2.1
      have c6 := (px ⟨wr.drew, Below.d' (Below.refl _ _)⟩).2.2.2.2.2.2.1
      have e6 := (py ⟨wr.drew, Below.d' (Below.refl _ _)⟩).2.2.2.2.2.2.1
      have c7 := (px ⟨wr.drew, Below.d' (Below.refl _ _)⟩).2.2.2.2.2.2.2.1
      have e7 := (py ⟨wr.drew, Below.d' (Below.refl _ _)⟩).2.2.2.2.2.2.2.1
      have c8 := (px ⟨wr.drew, Below.d' (Below.refl _ _)⟩).2.2.2.2.2.2.2.2.1
      have e8 := (py ⟨wr.drew, Below.d' (Below.refl _ _)⟩).2.2.2.2.2.2.2.2.1
      have c9 := (px ⟨wr.drew, Below.d' (Below.refl _ _)⟩).2.2.2.2.2.2.2.2.2.1
      have e9 := (py ⟨wr.drew, Below.d' (Below.refl _ _)⟩).2.2.2.2.2.2.2.2.2.1
      have c10 := (px ⟨wr.drew, Below.d' (Below.refl _ _)⟩).2.2.2.2.2.2.2.2.2.2
      have e10 := (py ⟨wr.drew, Below.d' (Below.refl _ _)⟩).2.2.2.2.2.2.2.2.2.2
      clear px py
      simp only at c0 c1 c2 c3 c4 c5 c6 c7 c8 c9 c10 e0 e1 e2 e3 e4 e5 e6 e7 e8 e9 e10
      go_upto_region 3 with fail
      obtain ⟨g', o', e, ⟨q9, z0, z1, z2, z3, z4, z5, z6, z7, z8, z9, z10⟩, ⟨y0, y1, y2, y3, y4, y5, y6, y7, y8, y9, y10⟩, HP⟩ := HR.out.put (k := ia) (by have := hia.out; omega) ⟨ys, yi, yg, ym, yx, yy, yvx, yvy, yh, yp, yl⟩
      cases e
      clear HR
      simp only at HP
      obtain ⟨g', o', e, ⟨q2, p0, p1, p2, p3, p4, p5, p6, p7, p8, p9, p10⟩, ⟨h0, h1, h2, h3, h4, h5, h6, h7, h8, h9, h10⟩, HP2⟩ := HP.out.put (k := ib) (by have := hib.out; omega) ⟨xs, xi, xg, xm, xx, xy, xvx, xvy, xh, xp, xl⟩
      cases e
      clear HP
      simp only at HP2
      go_big_region
      clear c0 c1 c2 c3 c4 c5 c6 c7 c8 c9 c10 e0 e1 e2 e3 e4 e5 e6 e7 e8 e9 e10 z0 z1 z2 z3 z4 z5 z6 z7 z8 z9 z10 y0 y1 y2 y3 y4 y5 y6 y7 y8 y9 y10 p0 p1 p2 p3 p4 p5 p6 p7 p8 p9 p10 h0 h1 h2 h3 h4 h5 h6 h7 h8 h9 h10
      have HP3 := Lib.hid (HP2.out.grown (by have := HP2.out.room (k := ia) (by have := hia.out; omega); omega) (Below.d' (Below.refl _ _)))
      clear HP2
      go_wp2
      go_roundw
      case rel => exact ⟨k + 1, _, by omega, by go_num, HP3, ND⟩
      case measure => simp [intOf]; omega
    · have e : k = m := by omega
      subst e
      have t1 : ¬ (k : Int) < (k : Int) := by omega
      have e2 : R = D := by have := HD.out; rw [Nat.sub_self] at this; exact this
      subst e2
      clear HD
      go_wp2
      go_end0
      exact ⟨rfl, HR.out⟩
end Go.Proofs.Ytgmgenggboicnaa
namespace Go.Proofs.Ytgmgenggboicnaa
open Go.RowKit Pz
set_option linter.unusedVariables false
variable {κ : Bn → K3} {fn : Nat} {cap : Array Value}

namespace Pz
/-- two parts that are to be exchanged, partly done: T is what shall stand between P and Q -/
def Rot (P Q T : List Bn) (m : Nat) (R : List Bn) (i j : Nat) : Prop :=
  ∃ A X Y C : List Bn, R = P ++ (A ++ (X ++ (Y ++ (C ++ Q)))) ∧ X.length = i ∧ Y.length = j ∧ P.length + A.length + i = m ∧ A ++ (Y ++ (X ++ C)) = T
theorem Rot.start (P X Y Q : List Bn) : Rot P Q (Y ++ X) (P.length + X.length) (P ++ (X ++ (Y ++ Q))) X.length Y.length :=
  ⟨[], X, Y, [], by simp, rfl, rfl, by simp, by simp⟩
theorem Rot.bds {P Q T R : List Bn} {m i j : Nat} (h : Rot P Q T m R i j) : i ≤ m ∧ m + j ≤ R.length := by
  obtain ⟨A, X, Y, C, rfl, h1, h2, h3, _⟩ := h
  simp only [List.length_append]
  omega
theorem Rot.gt {P Q T R : List Bn} {m i j : Nat} (h : Rot P Q T m R i j) (hij : j < i) : Rot P Q T m (swr R (m - i) m j) (i - j) j := by
  obtain ⟨A, X, Y, C, rfl, h1, h2, h3, h4⟩ := h
  have hl : (X.take j).length = j := by rw [List.length_take]; omega
  refine ⟨A ++ Y, X.drop j, X.take j, C, ?_, by rw [List.length_drop, h1], hl, by rw [List.length_append]; omega, ?_⟩
  · have := swr_parts (X.take j) Y (P ++ A) (X.drop j) (C ++ Q) (by rw [hl, h2])
    rw [hl, List.length_append, List.length_drop] at this
    rw [show m - i = P.length + A.length by omega]
    rw [show P.length + A.length + j + (X.length - j) = m by omega] at this
    rw [← List.append_assoc (X.take j), List.take_append_drop] at this
    simpa [List.append_assoc] using this
  · rw [← h4, List.append_assoc, ← List.append_assoc (X.take j), List.take_append_drop]
theorem Rot.lt {P Q T R : List Bn} {m i j : Nat} (h : Rot P Q T m R i j) (hij : i < j) : Rot P Q T m (swr R (m - i) (m + j - i) i) i (j - i) := by
  obtain ⟨A, X, Y, C, rfl, h1, h2, h3, h4⟩ := h
  have hl : (Y.drop (j - i)).length = i := by rw [List.length_drop]; omega
  have ht : (Y.take (j - i)).length = j - i := by rw [List.length_take]; omega
  refine ⟨A, Y.drop (j - i), Y.take (j - i), X ++ C, ?_, hl, ht, h3, ?_⟩
  · have := swr_parts X (Y.drop (j - i)) (P ++ A) (Y.take (j - i)) (C ++ Q) (by rw [hl, h1])
    rw [List.length_append, ht, h1] at this
    rw [show m - i = P.length + A.length by omega]
    rw [show P.length + A.length + i + (j - i) = m + j - i by omega] at this
    rw [← List.append_assoc (Y.take (j - i)), List.take_append_drop] at this
    simpa using this
  · rw [← h4, ← List.append_assoc (Y.take (j - i)), List.take_append_drop]
theorem Rot.eq {P Q T R : List Bn} {m i : Nat} (h : Rot P Q T m R i i) : swr R (m - i) m i = P ++ (T ++ Q) := by
  obtain ⟨A, X, Y, C, rfl, h1, h2, h3, h4⟩ := h
  have := swr_parts X Y (P ++ A) [] (C ++ Q) (by omega)
  rw [List.length_append, List.length_nil, h1] at this
  rw [show m - i = P.length + A.length by omega, ← h4]
  rw [show P.length + A.length + i + 0 = m by omega] at this
  simpa [List.append_assoc] using this
end Pz
set_option maxHeartbeats 16000000 in
set_option maxRecDepth 100000 in
theorem rotate_any {B : Nat} {A : Option Addr} {N c : Nat} {P X Y Q : List Bn} {w : World} (h : Rs B A N c (P ++ (X ++ (Y ++ Q))) w w) (hN : N ≤ 1000000) (hX : 0 < X.length) (hY : 0 < Y.length) {a m b : Nat} (ha : P.length = a) (hm : a + X.length = m) (hb : m + Y.length = b) :
    Calls Try.prog 105 #[.slice A N c, .int .i64 (a : Int), .int .i64 (m : Int), .int .i64 (b : Int), .func (.func fn) #[] cap] w fun e w' => e = .returned (.tuple #[]) ∧ Rs B A N c (P ++ (Y ++ (X ++ Q))) w w' := by
  have H0 := Lib.hid h
  have R0 := Rot.start P X Y Q
  rw [ha, hm] at R0
  have RB := R0.bds
  rw [h.len] at RB
  have mN : (m : Int) ≤ 1000000 := by omega
  have bN : (b : Int) ≤ 1000000 := by omega
  have w1 : IntKind.i64.wrap ((m : Int) - (a : Int)) = (X.length : Int) := by rw [IntWalk.i64_in _ (by omega)]; omega
  have w2 : IntKind.i64.wrap ((b : Int) - (m : Int)) = (Y.length : Int) := by rw [IntWalk.i64_in _ (by omega)]; omega
  have TT : Hid (∀ Z : List Bn, Z = P ++ ((Y ++ X) ++ Q) → Z = P ++ (Y ++ (X ++ Q))) := Lib.hid fun Z e => by rw [e]; simp [List.append_assoc]
  have R1 := Lib.hid R0
  generalize P ++ (Y ++ (X ++ Q)) = G at *
  generalize Y ++ X = T at *
  generalize P ++ (X ++ (Y ++ Q)) = D at *
  generalize X.length = i0 at *
  generalize Y.length = j0 at *
  replace ha := Lib.hid ha
  replace hm := Lib.hid hm
  replace hb := Lib.hid hb
  clear R0 RB h
  have SWP : Hid (∀ (W : World) (R : List Bn), Rs B A N c R W W → ∀ a b n : Nat, a + n ≤ b → b + n ≤ N → Calls Try.prog 109 #[.slice A N c, .int .i64 (a : Int), .int .i64 (b : Int), .int .i64 (n : Int), .func (.func fn) #[] cap] W fun e w' => e = .returned (.tuple #[]) ∧ Rs B A N c (swr R a b n) W w') := Lib.hid fun W R h a b n h1 h2 => swaprange_any h hN a b n h1 h2
  have SELF : Hid (∀ (R : List Bn) (W : World), Rs B A N c R w W → Rs B A N c R W W) := Lib.hid fun R W h => ⟨h.own, h.len, Below.refl _ _⟩
  go_enter Try.func105, Try.ntmps105
  go_wp2
  go_loopw [10, 11] (fun ix jx wr => ∃ (i j : Nat) (R : List Bn), ix = .int .i64 i ∧ jx = .int .i64 j ∧ 0 < i ∧ 0 < j ∧ Hid (Rs B A N c R w wr) ∧ Hid (Rot P Q T m R i j)) (fun ix jx _ => (intOf ix).toNat + (intOf jx).toNat)
  case atStart => exact ⟨i0, j0, D, rfl, rfl, hX, hY, H0, R1⟩
  case round =>
    obtain ⟨i, j, R, rfl, rfl, hi, hj, HR, HT⟩ := hrel
    clear H0 R1 w1 w2
    obtain ⟨b1, b2⟩ := HT.out.bds
    rw [HR.out.len] at b2
    obtain ⟨mi, hmi⟩ : ∃ x, x = m - i := ⟨_, rfl⟩
    have wm : IntKind.i64.wrap ((m : Int) - (i : Int)) = (mi : Int) := by rw [IntWalk.i64_in _ (by omega)]; omega
    have HMI := Lib.hid hmi
    by_cases hij : i = j
    · subst hij
      have t1 : ((i : Int) != (i : Int)) = false := by simp
      have e := TT.out _ HT.out.eq
      have S := SWP.out wr R (SELF.out R wr HR.out) mi m i (by omega) (by omega)
      rw [hmi, e] at S
      rw [← hmi] at S
      replace S := Lib.hid S
      clear e hmi SWP TT HT
      go_wp2_with (go_at_call 109; with_reducible refine (S.out).mono ?_; rintro e w' ⟨rfl, hs⟩; replace HR := Lib.hid (HR.out.again hs); clear hs S)
      go_end0
      exact ⟨rfl, HR.out⟩
    · have t1 : ((i : Int) != (j : Int)) = true := bne_iff_ne.2 (by omega)
      by_cases hgt : j < i
      · have t2 : (i : Int) > (j : Int) := by omega
        obtain ⟨ij, hd⟩ : ∃ x, x = i - j := ⟨_, rfl⟩
        have wd : IntKind.i64.wrap ((i : Int) - (j : Int)) = (ij : Int) := by rw [IntWalk.i64_in _ (by omega)]; omega
        have S := SWP.out wr R (SELF.out R wr HR.out) mi m j (by omega) (by omega)
        have NT := HT.out.gt hgt
        rw [← hmi, ← hd] at NT
        generalize swr R mi m j = R2 at *
        replace S := Lib.hid S
        replace NT := Lib.hid NT
        have h0 : 0 < ij := by omega
        have hlt : ij < i := by omega
        replace hd := Lib.hid hd
        clear hmi SWP TT HT hij
        go_wp2_with (go_at_call 109; with_reducible refine (S.out).mono ?_; rintro e w' ⟨rfl, hs⟩; replace HR := Lib.hid (HR.out.again hs); clear hs S)
        go_roundw
        case rel => exact ⟨ij, j, R2, rfl, rfl, h0, hj, HR, NT⟩
        case measure => simp [intOf]; omega
      · have t2 : ¬ (i : Int) > (j : Int) := by omega
        obtain ⟨ij, hd⟩ : ∃ x, x = j - i := ⟨_, rfl⟩
        have wd : IntKind.i64.wrap ((j : Int) - (i : Int)) = (ij : Int) := by rw [IntWalk.i64_in _ (by omega)]; omega
        obtain ⟨mj, hmj⟩ : ∃ x, x = m + j := ⟨_, rfl⟩
        have we : IntKind.i64.wrap ((m : Int) + (j : Int)) = (mj : Int) := by rw [IntWalk.i64_in _ (by omega)]; omega
        obtain ⟨mk, hmk⟩ : ∃ x, x = m + j - i := ⟨_, rfl⟩
        have wf : IntKind.i64.wrap ((mj : Int) - (i : Int)) = (mk : Int) := by rw [IntWalk.i64_in _ (by omega)]; omega
        have S := SWP.out wr R (SELF.out R wr HR.out) mi mk i (by omega) (by omega)
        have NT := HT.out.lt (by omega)
        rw [← hmi, ← hd, ← hmk] at NT
        generalize swr R mi mk i = R2 at *
        replace S := Lib.hid S
        replace NT := Lib.hid NT
        have h0 : 0 < ij := by omega
        have hlt : ij < j := by omega
        replace hd := Lib.hid hd
        replace hmj := Lib.hid hmj
        replace hmk := Lib.hid hmk
        clear hmi SWP TT HT hij
        go_wp2_with (go_at_call 109; with_reducible refine (S.out).mono ?_; rintro e w' ⟨rfl, hs⟩; replace HR := Lib.hid (HR.out.again hs); clear hs S)
        go_roundw
        case rel => exact ⟨i, ij, R2, rfl, rfl, hi, h0, HR, NT⟩
        case measure => simp [intOf]; omega
end Go.Proofs.Ytgmgenggboicnaa
namespace Go.Proofs.Ytgmgenggboicnaa
open Go.RowKit Pz Go.Shelf
set_option linter.unusedVariables false
variable {κ : Bn → K3} {fn : Nat} {cap : Array Value}

namespace Pz
/-- X, of which the part ahead of place i is sorted -/
def InsO (κ : Bn → K3) (P X Q R : List Bn) (i : Nat) : Prop := (X = [] ∧ R = P ++ (X ++ Q)) ∨ ∃ Z Y : List Bn, 0 < Z.length ∧ P.length + Z.length = i ∧ R = P ++ (Z ++ (Y ++ Q)) ∧ Srt κ Z ∧ Alike κ (Z ++ Y) X ∧ Z.length + Y.length = X.length
/-- and the one that stood at i is at j -/
def InsI (κ : Bn → K3) (P X Q R : List Bn) (i j : Nat) : Prop := ∃ (Z1 : List Bn) (y : Bn) (Z2 Y : List Bn), P.length + Z1.length = j ∧ j + Z2.length = i ∧ R = P ++ (Z1 ++ (y :: (Z2 ++ (Y ++ Q)))) ∧ Srt κ (Z1 ++ Z2) ∧ (∀ z ∈ Z2, before (κ y) (κ z) = true) ∧ Alike κ ((Z1 ++ Z2) ++ (y :: Y)) X ∧ Z1.length + Z2.length + 1 + Y.length = X.length
theorem InsO.start (P X Q : List Bn) : InsO κ P X Q (P ++ (X ++ Q)) (P.length + 1) := by
  cases X with
  | nil => exact .inl ⟨rfl, rfl⟩
  | cons x r => exact .inr ⟨[x], r, by simp, rfl, by simp, List.pairwise_singleton _ _, Alike.refl _, by simp; omega⟩
theorem InsO.done {P X Q R : List Bn} {i : Nat} (h : InsO κ P X Q R i) (hi : ¬ i < P.length + X.length) : ∃ Z, Srt κ Z ∧ Alike κ Z X ∧ R = P ++ (Z ++ Q) := by
  rcases h with ⟨rfl, rfl⟩ | ⟨Z, Y, h0, h1, rfl, h2, h3, h4⟩
  · exact ⟨[], List.Pairwise.nil, Alike.refl _, rfl⟩
  · have : Y = [] := List.length_eq_zero_iff.1 (by omega)
    subst this
    rw [List.append_nil] at h3
    exact ⟨Z, h2, h3, by simp⟩
theorem InsO.begin_ {P X Q R : List Bn} {i : Nat} (h : InsO κ P X Q R i) (h0 : P.length < i) (hi : i < P.length + X.length) : InsI κ P X Q R i i := by
  rcases h with ⟨rfl, rfl⟩ | ⟨Z, Y, _, h1, rfl, h2, h3, h4⟩
  · simp at hi; omega
  · cases Y with
    | nil => simp at h4; omega
    | cons y Y => exact ⟨Z, y, [], Y, h1, rfl, by simp, by rw [List.append_nil]; exact h2, fun z hz => by simp at hz, by rw [List.append_nil]; exact h3, by simp only [List.length_cons, List.length_nil] at h4 ⊢; omega⟩
theorem InsI.bds {P X Q R : List Bn} {i j : Nat} (h : InsI κ P X Q R i j) : P.length ≤ j ∧ j ≤ i ∧ i < R.length := by
  obtain ⟨Z1, y, Z2, Y, h1, h2, rfl, _⟩ := h
  simp only [List.length_append, List.length_cons]
  omega
theorem InsI.end_ {P X Q R : List Bn} {i j : Nat} (h : InsI κ P X Q R i j) (hs : j = P.length ∨ ∃ x y, R[j]? = some x ∧ R[j - 1]? = some y ∧ P.length < j ∧ before (κ x) (κ y) = false) : InsO κ P X Q R (i + 1) := by
  obtain ⟨Z1, x, Z2, Y, h1, h2, rfl, h3, h4, h5, h6⟩ := h
  have hz : ∀ z ∈ Z1, before (κ x) (κ z) = false := fun z hz => by
    rcases hs with e | ⟨x', y, hx, hy, hj, hb⟩
    · have : Z1 = [] := List.length_eq_zero_iff.1 (by omega)
      rw [this] at hz
      cases hz
    · rw [List.getElem?_append_right (by omega), List.getElem?_append_right (by omega), show j - P.length - Z1.length = 0 by omega] at hx
      simp only [List.getElem?_cons_zero, Option.some.injEq] at hx
      subst hx
      rcases List.eq_nil_or_concat Z1 with e | ⟨Z0, z0, e⟩
      · rw [e] at hz
        cases hz
      · rw [List.concat_eq_append] at e
        subst e
        simp only [List.length_append, List.length_cons, List.length_nil] at h1
        rw [List.getElem?_append_right (by omega), List.append_assoc, List.getElem?_append_right (by omega), show j - 1 - P.length - Z0.length = 0 by omega] at hy
        simp only [List.cons_append, List.getElem?_cons_zero, Option.some.injEq] at hy
        subst hy
        rcases List.mem_append.1 hz with hz | hz
        · exact le_trans' ((srt_app.1 (srt_app.1 h3).1).2.2 z hz z0 (List.mem_singleton.2 rfl)) hb
        · rw [List.mem_singleton.1 hz]
          exact hb
  obtain ⟨q1, q2⟩ := srt_mid h3 hz h4
  refine .inr ⟨Z1 ++ x :: Z2, Y, by simp only [List.length_append, List.length_cons]; omega, by simp only [List.length_append, List.length_cons]; omega, by simp [List.append_assoc], q1, ?_, by simp only [List.length_append, List.length_cons]; omega⟩
  refine Alike.trans (Alike.app q2 (Alike.refl Y)) ?_
  rw [List.append_assoc]
  exact h5
theorem InsI.down {P X Q R : List Bn} {i j : Nat} (h : InsI κ P X Q R i (j + 1)) {x y : Bn} (hx : R[j + 1]? = some x) (hy : R[j]? = some y) (hj : P.length ≤ j) (hb : before (κ x) (κ y) = true) : InsI κ P X Q ((R.set (j + 1) y).set j x) i j := by
  have e0 := sw_is hy hx
  rw [List.set_comm _ _ (by omega)] at e0
  obtain ⟨Z1, x', Z2, Y, h1, h2, rfl, h3, h4, h5, h6⟩ := h
  rw [← e0]
  clear e0
  rw [List.getElem?_append_right (by omega), List.getElem?_append_right (by omega), show j + 1 - P.length - Z1.length = 0 by omega] at hx
  simp only [List.getElem?_cons_zero, Option.some.injEq] at hx
  subst hx
  rcases List.eq_nil_or_concat Z1 with e | ⟨Z0, z0, e⟩
  · rw [e] at h1
    simp at h1
    omega
  · rw [List.concat_eq_append] at e
    subst e
    simp only [List.length_append, List.length_cons, List.length_nil] at h1 h6
    rw [List.getElem?_append_right (by omega), List.append_assoc, List.getElem?_append_right (by omega), show j - P.length - Z0.length = 0 by omega] at hy
    simp only [List.cons_append, List.getElem?_cons_zero, Option.some.injEq] at hy
    subst hy
    refine ⟨Z0, x', z0 :: Z2, Y, by omega, by simp only [List.length_cons]; omega, ?_, by simpa using h3, fun z hz => ?_, by simpa using h5, by simp only [List.length_cons]; omega⟩
    · have := sw_parts (P ++ Z0) [] (Z2 ++ (Y ++ Q)) z0 x'
      simp only [List.length_append, List.length_nil, Nat.add_zero, List.nil_append] at this
      rw [show P.length + Z0.length = j by omega] at this
      simpa [List.append_assoc] using this
    · rcases List.mem_cons.1 hz with rfl | hz
      · exact hb
      · exact h4 z hz
end Pz
set_option maxHeartbeats 16000000 in
set_option maxRecDepth 100000 in
theorem insertion_any {B : Nat} {A : Option Addr} {N c : Nat} {P X Q : List Bn} {w : World} (h : Rs B A N c (P ++ (X ++ Q)) w w) (hN : N ≤ 1000000) (hBw : B ≤ w.heap.size) (HC : CmpAt κ fn cap B w) {a b : Nat} (ha : P.length = a) (hb : a + X.length = b) :
    Calls Try.prog 99 #[.slice A N c, .int .i64 (a : Int), .int .i64 (b : Int), .func (.func fn) #[] cap] w fun e w' => e = .returned (.tuple #[]) ∧ ∃ Z, Srt κ Z ∧ Pz.Alike κ Z X ∧ Rs B A N c (P ++ (Z ++ Q)) w w' := by
  have H0 := Lib.hid h
  have hlen := h.len
  simp only [List.length_append] at hlen
  have bN : b ≤ N := by omega
  have aN : a ≤ 1000000 := by omega
  have O0 := Lib.hid (InsO.start (κ := κ) P X Q)
  rw [ha] at O0
  have DONE : Hid (∀ (R : List Bn) (i : Nat), InsO κ P X Q R i → ¬ i < b → ∃ Z, Srt κ Z ∧ Pz.Alike κ Z X ∧ R = P ++ (Z ++ Q)) := Lib.hid fun R i h hi => h.done (by omega)
  have BEG : Hid (∀ (R : List Bn) (i : Nat), InsO κ P X Q R i → a < i → i < b → InsI κ P X Q R i i) := Lib.hid fun R i h h0 hi => h.begin_ (by omega) (by omega)
  have BDS : Hid (∀ (R : List Bn) (i j : Nat), InsI κ P X Q R i j → a ≤ j ∧ j ≤ i ∧ i < R.length) := Lib.hid fun R i j h => by have := h.bds; omega
  have STOP : Hid (∀ (R : List Bn) (i j : Nat), InsI κ P X Q R i j → (j = a ∨ ∃ x y, R[j]? = some x ∧ R[j - 1]? = some y ∧ a < j ∧ before (κ x) (κ y) = false) → InsO κ P X Q R (i + 1)) := Lib.hid fun R i j h hs => h.end_ (by rw [ha]; exact hs)
  have DOWN : Hid (∀ (R : List Bn) (i j : Nat), InsI κ P X Q R i (j + 1) → ∀ x y : Bn, R[j + 1]? = some x → R[j]? = some y → a ≤ j → before (κ x) (κ y) = true → InsI κ P X Q ((R.set (j + 1) y).set j x) i j) := Lib.hid fun R i j h x y hx hy hj hb => h.down hx hy (by omega) hb
  generalize hD : P ++ (X ++ Q) = D at *
  clear hD hlen h ha hb
  have EG := HC.ent
  have HLS := Lib.hid HC
  clear HC
  have hBB := Lib.hid hBw
  go_enter Try.func99, Try.ntmps99
  go_wp2
  go_loopw [8] (fun ix wr => ∃ (i : Nat) (R : List Bn), ix = .int .i64 i ∧ a < i ∧ i ≤ 1000001 ∧ Hid (Rs B A N c R w wr) ∧ Hid (InsO κ P X Q R i)) (fun ix _ => b - (intOf ix).toNat)
  case atStart => exact ⟨a + 1, D, by go_num, by omega, by omega, H0, O0⟩
  case round =>
    obtain ⟨i, R, rfl, hai, hi1, HR, HO⟩ := hrel
    clear H0 O0
    by_cases hib : i < b
    · have t1 : (i : Int) < (b : Int) := by omega
      have I0 := Lib.hid (BEG.out R i HO.out hai hib)
      clear HO BEG DONE
      go_wp2
      go_loopw [9] (fun jx wr => ∃ (j : Nat) (R2 : List Bn), jx = .int .i64 j ∧ a ≤ j ∧ j ≤ i ∧ Hid (Rs B A N c R2 w wr) ∧ Hid (InsI κ P X Q R2 i j)) (fun jx _ => (intOf jx).toNat)
      case atStart => exact ⟨i, R, rfl, Nat.le_of_lt hai, Nat.le_refl _, HR, I0⟩
      case round =>
        clear HR I0
        obtain ⟨j, R2, rfl, haj, hji, HR, HI⟩ := hrel
        obtain ⟨_, _, q3⟩ := BDS.out R2 i j HI.out
        rw [HR.out.len] at q3
        by_cases hja : a < j
        · have t2 : decide ((j : Int) > (a : Int)) = true := decide_eq_true (by omega)
          have t2' : (a : Int) < (j : Int) := by omega
          have t2'' : decide (a < j) = true := decide_eq_true hja
          obtain ⟨j', hj'⟩ : ∃ j', j = j' + 1 := ⟨j - 1, by omega⟩
          have ws : IntKind.i64.wrap ((j : Int) - 1) = (j' : Int) := by
            rw [IntWalk.i64_in _ (by omega)]
            omega
          have la : (j : Int) < (N : Int) := by omega
          have lb : (j' : Int) < (N : Int) := by omega
          have hl2 := HR.out.len
          obtain ⟨x, hx⟩ : ∃ x, R2[j]? = some x := ⟨_, List.getElem?_eq_getElem (by omega)⟩
          obtain ⟨y, hy⟩ : ∃ y, R2[j']? = some y := ⟨_, List.getElem?_eq_getElem (by omega)⟩
          have NO : Hid (before (κ x) (κ y) = false → InsO κ P X Q R2 (i + 1)) := Lib.hid fun hb => STOP.out R2 i j HI.out (.inr ⟨x, y, hx, by rw [show j - 1 = j' by omega]; exact hy, hja, hb⟩)
          have YES : Hid (before (κ x) (κ y) = true → InsI κ P X Q ((R2.set j y).set j' x) i j') := Lib.hid fun hb => by
            have := DOWN.out R2 i j' (by rw [← hj']; exact HI.out) x y (by rw [← hj']; exact hx) hy (by omega) hb
            rwa [← hj'] at this
          have LESS : Hid (∀ p : Lat grows wr, Calls Try.prog fn (#[x.val, y.val] ++ cap) p.W fun e w' => e = .returned (.int .i64 (cmpB (κ x) (κ y))) ∧ Below p.W.heap.size p.W w') := Lib.hid fun p => HLS.out.less x y p.W (HR.out.bel.trans ((lat_below p).mono (Nat.le_trans hBB.out HR.out.bel.size)))
          have CL := cmp_lt (κ x) (κ y)
          generalize cmpB (κ x) (κ y) = r at *
          generalize before (κ x) (κ y) = bf at *
          have hroom := HR.out.room (k := j) (by omega)
          have hjj : j' < j := by omega
          have haj' : a ≤ j' := by omega
          replace hj' := Lib.hid hj'
          obtain ⟨g, o, rfl, px⟩ := HR.out.get hx
          obtain ⟨g', o', e, py⟩ := HR.out.get hy
          cases e
          have HX := Lib.hid hx
          have HY := Lib.hid hy
          clear hx hy hl2 HI q3 STOP DOWN BDS
          obtain ⟨xs, xi, xg, xm, xx, xy, xvx, xvy, xh, xp, xl⟩ := x
          obtain ⟨ys, yi, yg, ym, yx, yy, yvx, yvy, yh, yp, yl⟩ := y
          simp only [Bn.val] at *
          have c0 := fun p => (px p).1
          have e0 := fun p => (py p).1
          have c1 := fun p => (px p).2.1
          have e1 := fun p => (py p).2.1
          have c2 := fun p => (px p).2.2.1
          have e2 := fun p => (py p).2.2.1
          have c3 := fun p => (px p).2.2.2.1
          have e3 := fun p => (py p).2.2.2.1
          have c4 := fun p => (px p).2.2.2.2.1
          have e4 := fun p => (py p).2.2.2.2.1
          have c5 := fun p => (px p).2.2.2.2.2.1
          have e5 := fun p => (py p).2.2.2.2.2.1
          have c6 := fun p => (px p).2.2.2.2.2.2.1
          have e6 := fun p => (py p).2.2.2.2.2.2.1
          have c7 := fun p => (px p).2.2.2.2.2.2.2.1
          have e7 := fun p => (py p).2.2.2.2.2.2.2.1
          have c8 := fun p => (px p).2.2.2.2.2.2.2.2.1
          have e8 := fun p => (py p).2.2.2.2.2.2.2.2.1
          have c9 := fun p => (px p).2.2.2.2.2.2.2.2.2.1
          have e9 := fun p => (py p).2.2.2.2.2.2.2.2.2.1
          have c10 := fun p => (px p).2.2.2.2.2.2.2.2.2.2
          have e10 := fun p => (py p).2.2.2.2.2.2.2.2.2.2
          clear px py
          go_upto_region 4 with fail
          refine Og.grow 17 (by kernel_rfl) (by kernel_rfl) fun hc hf => ?_
          clear hc hf
          simp only [List.take_succ_cons, List.take_zero, List.drop_succ_cons, List.drop_zero]
          iterate 14 (refine Og.det [] rfl (fun J hJ => ?_); go_simp; refine hJ _ _ ?_; clear hJ J)
          refine Og.det [] rfl (fun J hJ => ?_)
          go_simp
          with_reducible refine ⟨_, fun p => Og.lays (LESS.out p), hJ _ _ ?_⟩
          clear hJ J
          iterate 2 (refine Og.det [] rfl (fun J hJ => ?_); go_simp; refine hJ _ _ ?_; clear hJ J)
          refine Og.fin fun W hW => ?_
          simp only [Og.opened_nil]
          clear c0 c1 c2 c3 c4 c5 c6 c7 c8 c9 c10 e0 e1 e2 e3 e4 e5 e6 e7 e8 e9 e10 LESS
          replace HR := Lib.hid (HR.out.grown (Nat.le_of_lt hroom) hW)
          clear hW
          cases bf with
          | false =>
            have NX := Lib.hid (NO.out rfl)
            clear NO YES
            go_wp2
            go_roundw
            case rel => exact ⟨i + 1, R2, by go_num, by omega, by omega, HR, NX⟩
            case measure => simp [intOf]; omega
          | true =>
            have NX := Lib.hid (YES.out rfl)
            clear NO YES
            have hjN : j < N := by omega
            have hjN' : j' < N := by omega
            go_upto_region 6 with fail
            obtain ⟨g', o', e, px⟩ := HR.out.get HX.out
            cases e
            obtain ⟨g', o', e, py⟩ := HR.out.get HY.out
            cases e
            simp only at px py
            clear HX HY
            have c0 := (px ⟨W.drew, Below.d' (Below.refl _ _)⟩).1
            have e0 := (py ⟨W.drew, Below.d' (Below.refl _ _)⟩).1
            have c1 := (px ⟨W.drew, Below.d' (Below.refl _ _)⟩).2.1
            have e1 := (py ⟨W.drew, Below.d' (Below.refl _ _)⟩).2.1
            have c2 := (px ⟨W.drew, Below.d' (Below.refl _ _)⟩).2.2.1
            have e2 := (py ⟨W.drew, Below.d' (Below.refl _ _)⟩).2.2.1
            have c3 := (px ⟨W.drew, Below.d' (Below.refl _ _)⟩).2.2.2.1
            have e3 := (py ⟨W.drew, Below.d' (Below.refl _ _)⟩).2.2.2.1
            have c4 := (px ⟨W.drew, Below.d' (Below.refl _ _)⟩).2.2.2.2.1
            have e4 := (py ⟨W.drew, Below.d' (Below.refl _ _)⟩).2.2.2.2.1
            have c5 := (px ⟨W.drew, Below.d' (Below.refl _ _)⟩).2.2.2.2.2.1
            have e5 := (py ⟨W.drew, Below.d' (Below.refl _ _)⟩).2.2.2.2.2.1
            have c6 := (px ⟨W.drew, Below.d' (Below.refl _ _)⟩).2.2.2.2.2.2.1
            have e6 := (py ⟨W.drew, Below.d' (Below.refl _ _)⟩).2.2.2.2.2.2.1
            have c7 := (px ⟨W.drew, Below.d' (Below.refl _ _)⟩).2.2.2.2.2.2.2.1
            have e7 := (py ⟨W.drew, Below.d' (Below.refl _ _)⟩).2.2.2.2.2.2.2.1
            have c8 := (px ⟨W.drew, Below.d' (Below.refl _ _)⟩).2.2.2.2.2.2.2.2.1
            have e8 := (py ⟨W.drew, Below.d' (Below.refl _ _)⟩).2.2.2.2.2.2.2.2.1
            have c9 := (px ⟨W.drew, Below.d' (Below.refl _ _)⟩).2.2.2.2.2.2.2.2.2.1
            have e9 := (py ⟨W.drew, Below.d' (Below.refl _ _)⟩).2.2.2.2.2.2.2.2.2.1
            have c10 := (px ⟨W.drew, Below.d' (Below.refl _ _)⟩).2.2.2.2.2.2.2.2.2.2
            have e10 := (py ⟨W.drew, Below.d' (Below.refl _ _)⟩).2.2.2.2.2.2.2.2.2.2
            clear px py
            simp only at c0 c1 c2 c3 c4 c5 c6 c7 c8 c9 c10 e0 e1 e2 e3 e4 e5 e6 e7 e8 e9 e10
            obtain ⟨g', o', e, ⟨q9, z0, z1, z2, z3, z4, z5, z6, z7, z8, z9, z10⟩, ⟨y0, y1, y2, y3, y4, y5, y6, y7, y8, y9, y10⟩, HP⟩ := HR.out.put (k := j) hjN ⟨ys, yi, yg, ym, yx, yy, yvx, yvy, yh, yp, yl⟩
            cases e
            clear HR
            simp only at HP
            obtain ⟨g', o', e, ⟨q2, p0, p1, p2, p3, p4, p5, p6, p7, p8, p9, p10⟩, ⟨h0, h1, h2, h3, h4, h5, h6, h7, h8, h9, h10⟩, HP2⟩ := HP.out.put (k := j') hjN' ⟨xs, xi, xg, xm, xx, xy, xvx, xvy, xh, xp, xl⟩
            cases e
            clear HP
            simp only at HP2
            go_big_region
            clear c0 c1 c2 c3 c4 c5 c6 c7 c8 c9 c10 e0 e1 e2 e3 e4 e5 e6 e7 e8 e9 e10 z0 z1 z2 z3 z4 z5 z6 z7 z8 z9 z10 y0 y1 y2 y3 y4 y5 y6 y7 y8 y9 y10 p0 p1 p2 p3 p4 p5 p6 p7 p8 p9 p10 h0 h1 h2 h3 h4 h5 h6 h7 h8 h9 h10
            have HP3 := Lib.hid (HP2.out.grown (by have := HP2.out.room (k := j) hjN; omega) (Below.d' (Below.refl _ _)))
            clear HP2
            go_wp2
            go_roundw
            case rel => exact ⟨j', _, rfl, haj', by omega, HP3, NX⟩
            case measure => simp [intOf]; omega
        · have ej : j = a := by omega
          have t2 : decide ((j : Int) > (a : Int)) = false := decide_eq_false (by omega)
          have t2'' : decide (a < j) = false := decide_eq_false hja
          have NX := Lib.hid (STOP.out R2 i j HI.out (.inl ej))
          clear HI ej q3 STOP DOWN BDS
          go_upto_region 4 with fail
          go_quiet (fail)
          rename_i nq
          replace HR := Lib.hid (HR.out.grown (Nat.le_trans hBB.out HR.out.bel.size) (below_dn wr nq))
          generalize wr.drewN nq = wx at *
          go_wp2
          go_roundw
          case rel => exact ⟨i + 1, R2, by go_num, by omega, by omega, HR, NX⟩
          case measure => simp [intOf]; omega
    · have t1 : ¬ (i : Int) < (b : Int) := by omega
      have DN := Lib.hid (DONE.out R i HO.out hib)
      clear HO BEG DONE STOP DOWN BDS
      go_wp2
      go_end0
      obtain ⟨Z, z1, z2, z3⟩ := DN.out
      refine ⟨rfl, Z, z1, z2, ?_⟩
      rw [← z3]
      exact HR.out
end Go.Proofs.Ytgmgenggboicnaa
namespace Go.Proofs.Ytgmgenggboicnaa
open Pz
set_option linter.unusedVariables false
variable {κ : Bn → K3} {fn : Nat} {cap : Array Value}

namespace Pz
theorem srt_last {X1 : List Bn} {u : Bn} (h : Srt κ X1) (hu : X1[X1.length - 1]? = some u) : ∀ x ∈ X1, before (κ u) (κ x) = false := fun x hx => by
  rcases List.eq_nil_or_concat X1 with e | ⟨Z, z, e⟩
  · rw [e] at hx; cases hx
  · rw [List.concat_eq_append] at e
    subst e
    rw [List.length_append, List.length_singleton, Nat.add_sub_cancel, List.getElem?_append_right (Nat.le_refl _), Nat.sub_self] at hu
    simp only [List.getElem?_cons_zero, Option.some.injEq] at hu
    subst hu
    rcases List.mem_append.1 hx with hx | hx
    · exact (srt_app.1 h).2.2 x hx z (List.mem_singleton.2 rfl)
    · rw [List.mem_singleton.1 hx]
      exact before_irr _
theorem srt_first {X1 : List Bn} {u : Bn} (h : Srt κ X1) (hu : X1[0]? = some u) : ∀ x ∈ X1, before (κ x) (κ u) = false := fun x hx => by
  cases X1 with
  | nil => cases hx
  | cons y r =>
    simp only [List.getElem?_cons_zero, Option.some.injEq] at hu
    subst hu
    rcases List.mem_cons.1 hx with e | hx
    · rw [e]; exact before_irr _
    · exact (List.pairwise_cons.1 h).1 x hx
/-- what a search in two sorted rows tells -/
theorem cut {P X Y Q : List Bn} {a m b s e : Nat} (ha : P.length = a) (hm : a + X.length = m) (hb : m + Y.length = b) (hX : Srt κ X) (hY : Srt κ Y) (h1 : a ≤ s) (h2 : s ≤ m) (h3 : m ≤ e) (h4 : e ≤ b)
    (h5 : s = a ∨ e = b ∨ ∃ u v, (P ++ (X ++ (Y ++ Q)))[s - 1]? = some u ∧ (P ++ (X ++ (Y ++ Q)))[e]? = some v ∧ a < s ∧ before (κ v) (κ u) = false)
    (h6 : s = m ∨ e = m ∨ ∃ u v, (P ++ (X ++ (Y ++ Q)))[s]? = some u ∧ (P ++ (X ++ (Y ++ Q)))[e - 1]? = some v ∧ m < e ∧ before (κ v) (κ u) = true) :
    ∃ X1 X2 Y1 Y2, X = X1 ++ X2 ∧ Y = Y1 ++ Y2 ∧ a + X1.length = s ∧ m + Y1.length = e ∧ (∀ x ∈ X1, ∀ y ∈ Y2, before (κ y) (κ x) = false) ∧ (∀ x ∈ X2, ∀ y ∈ Y1, before (κ y) (κ x) = true) := by
  have l1 : (X.take (s - a)).length = s - a := by rw [List.length_take]; omega
  have l2 : (Y.take (e - m)).length = e - m := by rw [List.length_take]; omega
  have eX := List.take_append_drop (s - a) X
  have eY := List.take_append_drop (e - m) Y
  refine ⟨X.take (s - a), X.drop (s - a), Y.take (e - m), Y.drop (e - m), eX.symm, eY.symm, by omega, by omega, ?_, ?_⟩
  · rcases h5 with h5 | h5 | ⟨u, v, hu, hv, hs, hb'⟩
    · intro x hx
      rw [h5, Nat.sub_self, List.take_zero] at hx
      cases hx
    · intro x _ y hy
      rw [List.drop_eq_nil_of_le (by omega)] at hy
      cases hy
    · intro x hx y hy
      rw [List.getElem?_append_right (by omega), List.getElem?_append_left (by omega)] at hu
      have hu' : (X.take (s - a))[(X.take (s - a)).length - 1]? = some u := by
        rw [l1, List.getElem?_take, if_pos (by omega), ← hu]
        congr 1
        omega
      rw [← eX] at hX
      have q1 := srt_last (srt_app.1 hX).1 hu' x hx
      have hel : e - m < Y.length := by
        rcases Nat.lt_or_ge (e - m) Y.length with h | h
        · exact h
        · rw [List.drop_eq_nil_of_le h] at hy
          cases hy
      rw [List.getElem?_append_right (by omega), List.getElem?_append_right (by omega), List.getElem?_append_left (by omega)] at hv
      have hv' : (Y.drop (e - m))[0]? = some v := by
        rw [List.getElem?_drop, ← hv]
        congr 1
        omega
      rw [← eY] at hY
      have q2 := srt_first (srt_app.1 hY).2.1 hv' y hy
      exact le_trans' (le_trans' q1 hb') q2
  · rcases h6 with h6 | h6 | ⟨u, v, hu, hv, hs, hb'⟩
    · intro x hx
      rw [List.drop_eq_nil_of_le (by omega)] at hx
      cases hx
    · intro x _ y hy
      rw [h6, Nat.sub_self, List.take_zero] at hy
      cases hy
    · intro x hx y hy
      have hsl : s - a < X.length := by
        rcases Nat.lt_or_ge (s - a) X.length with h | h
        · exact h
        · rw [List.drop_eq_nil_of_le h] at hx
          cases hx
      rw [List.getElem?_append_right (by omega), List.getElem?_append_left (by omega)] at hu
      have hu' : (X.drop (s - a))[0]? = some u := by
        rw [List.getElem?_drop, ← hu]
        congr 1
        omega
      rw [← eX] at hX
      have q1 := srt_first (srt_app.1 hX).2.1 hu' x hx
      rw [List.getElem?_append_right (by omega), List.getElem?_append_right (by omega), List.getElem?_append_left (by omega)] at hv
      have hv' : (Y.take (e - m))[(Y.take (e - m)).length - 1]? = some v := by
        rw [l2, List.getElem?_take, if_pos (by omega), ← hv]
        congr 1
        omega
      rw [← eY] at hY
      have q2 := srt_last (srt_app.1 hY).1 hv' y hy
      exact lt_le (le_lt q2 hb') q1
/-- one entity wanders along a row -/
def Up (P T L R : List Bn) (x : Bn) (k : Nat) : Prop := ∃ U V : List Bn, R = P ++ (U ++ (x :: (V ++ T))) ∧ U ++ V = L ∧ P.length + U.length = k
theorem Up.first (P T L : List Bn) (x : Bn) : Up P T L (P ++ (x :: (L ++ T))) x P.length := ⟨[], L, by simp, rfl, by simp⟩
theorem Up.last (P T L : List Bn) (x : Bn) : Up P T L (P ++ (L ++ (x :: T))) x (P.length + L.length) := ⟨L, [], by simp, by simp, rfl⟩
theorem Up.right {P T L R : List Bn} {x : Bn} {k : Nat} (h : Up P T L R x k) (hk : k < P.length + L.length) : ∃ y, R[k]? = some x ∧ R[k + 1]? = some y ∧ Up P T L ((R.set k y).set (k + 1) x) x (k + 1) := by
  obtain ⟨U, V, rfl, rfl, h1⟩ := h
  cases V with
  | nil => simp only [List.length_append, List.length_nil] at hk; omega
  | cons y V =>
    have e1 : (P ++ (U ++ (x :: (y :: V ++ T))))[k]? = some x := by
      rw [List.getElem?_append_right (by omega), List.getElem?_append_right (by omega), show k - P.length - U.length = 0 by omega]
      rfl
    have e2 : (P ++ (U ++ (x :: (y :: V ++ T))))[k + 1]? = some y := by
      rw [List.getElem?_append_right (by omega), List.getElem?_append_right (by omega), show k + 1 - P.length - U.length = 1 by omega]
      rfl
    refine ⟨y, e1, e2, U ++ [y], V, ?_, by simp, by rw [List.length_append, List.length_singleton]; omega⟩
    rw [← sw_is e1 e2]
    have := sw_parts (P ++ U) [] (V ++ T) x y
    simp only [List.length_append, List.length_nil, Nat.add_zero, List.nil_append, List.append_assoc] at this
    rw [h1] at this
    simpa using this
theorem Up.left {P T L R : List Bn} {x : Bn} {k : Nat} (h : Up P T L R x (k + 1)) (hk : P.length ≤ k) : ∃ y, R[k + 1]? = some x ∧ R[k]? = some y ∧ Up P T L ((R.set (k + 1) y).set k x) x k := by
  obtain ⟨U, V, rfl, rfl, h1⟩ := h
  rcases List.eq_nil_or_concat U with e | ⟨Z, y, e⟩
  · subst e
    simp at h1
    omega
  · rw [List.concat_eq_append] at e
    subst e
    simp only [List.length_append, List.length_singleton] at h1
    have e1 : (P ++ ((Z ++ [y]) ++ (x :: (V ++ T))))[k + 1]? = some x := by
      rw [List.getElem?_append_right (by omega), List.getElem?_append_right (by simp; omega), show k + 1 - P.length - (Z ++ [y]).length = 0 by simp; omega]
      rfl
    have e2 : (P ++ ((Z ++ [y]) ++ (x :: (V ++ T))))[k]? = some y := by
      rw [List.getElem?_append_right (by omega), List.append_assoc, List.getElem?_append_right (by omega), show k - P.length - Z.length = 0 by omega]
      rfl
    refine ⟨y, e1, e2, Z, y :: V, ?_, by simp, by omega⟩
    have e0 := sw_is e2 e1
    rw [List.set_comm _ _ (by omega)] at e0
    rw [← e0]
    have := sw_parts (P ++ Z) [] (V ++ T) y x
    simp only [List.length_append, List.length_nil, Nat.add_zero, List.nil_append, List.append_assoc] at this
    rw [show P.length + Z.length = k by omega] at this
    simpa using this
theorem Up.at_last {P T L R : List Bn} {x : Bn} {k : Nat} (h : Up P T L R x k) (hk : ¬ k < P.length + L.length) : R = P ++ (L ++ (x :: T)) := by
  obtain ⟨U, V, rfl, rfl, h1⟩ := h
  rw [List.length_append] at hk
  have : V = [] := List.length_eq_zero_iff.1 (by omega)
  subst this
  simp
theorem Up.at_first {P T L R : List Bn} {x : Bn} (h : Up P T L R x P.length) : R = P ++ (x :: (L ++ T)) := by
  obtain ⟨U, V, rfl, rfl, h1⟩ := h
  have : U = [] := List.length_eq_zero_iff.1 (by omega)
  subst this
  simp
end Pz
end Go.Proofs.Ytgmgenggboicnaa
