/- Two sorted rows beside each other, cut by a search; one entity that wanders. Nothing of the program. The library's symMergeCmpFunc, over a row of one's own: the first row has one. Written by wip/tools/gensym.py. The library's symMergeCmpFunc, over a row of one's own: the second row has one. Written by wip/tools/gensym.py. The library's rotateCmpFunc, over a row of one's own. -/
import Derived.Test.YtljaahemlcaffaaGreatK23
import Derived.BigRegion
namespace Go.Proofs.YtljaahemlcaffaaGreat
open Pz
set_option linter.unusedVariables false
variable {κ : Bn → K3} {fn : Nat} {cap : Array Value}

namespace Pz
theorem srt_last {X1 : List Bn} {u : Bn} (h : Srt κ X1) (hu : X1[X1.length - 1]? = some u) : ∀ x ∈ X1, before (κ u) (κ x) = false := fun x hx => by
  rcases List.eq_nil_or_concat X1 with e | ⟨Z, z, e⟩
  · rw [e] at hx; cases hx
  · rw [List.concat_eq_append] at e
    subst e
    rw [List.length_append, List.length_singleton, Nat.add_sub_cancel, List.getElem?_append_right (Nat.le_refl _), Nat.sub_self] at hu
    simp only [List.getElem?_cons_zero, Option.some.injEq] at hu
    subst hu
    rcases List.mem_append.1 hx with hx | hx
    · exact (srt_app.1 h).2.2 x hx z (List.mem_singleton.2 rfl)
    · rw [List.mem_singleton.1 hx]
      exact before_irr _
theorem srt_first {X1 : List Bn} {u : Bn} (h : Srt κ X1) (hu : X1[0]? = some u) : ∀ x ∈ X1, before (κ x) (κ u) = false := fun x hx => by
  cases X1 with
  | nil => cases hx
  | cons y r =>
    simp only [List.getElem?_cons_zero, Option.some.injEq] at hu
    subst hu
    rcases List.mem_cons.1 hx with e | hx
    · rw [e]; exact before_irr _
    · exact (List.pairwise_cons.1 h).1 x hx
/-- what a search in two sorted rows tells -/
theorem cut {P X Y Q : List Bn} {a m b s e : Nat} (ha : P.length = a) (hm : a + X.length = m) (hb : m + Y.length = b) (hX : Srt κ X) (hY : Srt κ Y) (h1 : a ≤ s) (h2 : s ≤ m) (h3 : m ≤ e) (h4 : e ≤ b)
    (h5 : s = a ∨ e = b ∨ ∃ u v, (P ++ (X ++ (Y ++ Q)))[s - 1]? = some u ∧ (P ++ (X ++ (Y ++ Q)))[e]? = some v ∧ a < s ∧ before (κ v) (κ u) = false)
    (h6 : s = m ∨ e = m ∨ ∃ u v, (P ++ (X ++ (Y ++ Q)))[s]? = some u ∧ (P ++ (X ++ (Y ++ Q)))[e - 1]? = some v ∧ m < e ∧ before (κ v) (κ u) = true) :
    ∃ X1 X2 Y1 Y2, X = X1 ++ X2 ∧ Y = Y1 ++ Y2 ∧ a + X1.length = s ∧ m + Y1.length = e ∧ (∀ x ∈ X1, ∀ y ∈ Y2, before (κ y) (κ x) = false) ∧ (∀ x ∈ X2, ∀ y ∈ Y1, before (κ y) (κ x) = true) := by
  have l1 : (X.take (s - a)).length = s - a := by rw [List.length_take]; omega
  have l2 : (Y.take (e - m)).length = e - m := by rw [List.length_take]; omega
  have eX := List.take_append_drop (s - a) X
  have eY := List.take_append_drop (e - m) Y
  refine ⟨X.take (s - a), X.drop (s - a), Y.take (e - m), Y.drop (e - m), eX.symm, eY.symm, by omega, by omega, ?_, ?_⟩
  · rcases h5 with h5 | h5 | ⟨u, v, hu, hv, hs, hb'⟩
    · intro x hx
      rw [h5, Nat.sub_self, List.take_zero] at hx
      cases hx
    · intro x _ y hy
      rw [List.drop_eq_nil_of_le (by omega)] at hy
      cases hy
    · intro x hx y hy
      rw [List.getElem?_append_right (by omega), List.getElem?_append_left (by omega)] at hu
      have hu' : (X.take (s - a))[(X.take (s - a)).length - 1]? = some u := by
        rw [l1, List.getElem?_take, if_pos (by omega), ← hu]
        congr 1
        omega
      rw [← eX] at hX
      have q1 := srt_last (srt_app.1 hX).1 hu' x hx
      have hel : e - m < Y.length := by
        rcases Nat.lt_or_ge (e - m) Y.length with h | h
        · exact h
        · rw [List.drop_eq_nil_of_le h] at hy
          cases hy
      rw [List.getElem?_append_right (by omega), List.getElem?_append_right (by omega), List.getElem?_append_left (by omega)] at hv
      have hv' : (Y.drop (e - m))[0]? = some v := by
        rw [List.getElem?_drop, ← hv]
        congr 1
        omega
      rw [← eY] at hY
      have q2 := srt_first (srt_app.1 hY).2.1 hv' y hy
      exact le_trans' (le_trans' q1 hb') q2
  · rcases h6 with h6 | h6 | ⟨u, v, hu, hv, hs, hb'⟩
    · intro x hx
      rw [List.drop_eq_nil_of_le (by omega)] at hx
      cases hx
    · intro x _ y hy
      rw [h6, Nat.sub_self, List.take_zero] at hy
      cases hy
    · intro x hx y hy
      have hsl : s - a < X.length := by
        rcases Nat.lt_or_ge (s - a) X.length with h | h
        · exact h
        · rw [List.drop_eq_nil_of_le h] at hx
          cases hx
      rw [List.getElem?_append_right (by omega), List.getElem?_append_left (by omega)] at hu
      have hu' : (X.drop (s - a))[0]? = some u := by
        rw [List.getElem?_drop, ← hu]
        congr 1
        omega
      rw [← eX] at hX
      have q1 := srt_first (srt_app.1 hX).2.1 hu' x hx
      rw [List.getElem?_append_right (by omega), List.getElem?_append_right (by omega), List.getElem?_append_left (by omega)] at hv
      have hv' : (Y.take (e - m))[(Y.take (e - m)).length - 1]? = some v := by
        rw [l2, List.getElem?_take, if_pos (by omega), ← hv]
        congr 1
        omega
      rw [← eY] at hY
      have q2 := srt_last (srt_app.1 hY).1 hv' y hy
      exact lt_le (le_lt q2 hb') q1
/-- one entity wanders along a row -/
def Up (P T L R : List Bn) (x : Bn) (k : Nat) : Prop := ∃ U V : List Bn, R = P ++ (U ++ (x :: (V ++ T))) ∧ U ++ V = L ∧ P.length + U.length = k
theorem Up.first (P T L : List Bn) (x : Bn) : Up P T L (P ++ (x :: (L ++ T))) x P.length := ⟨[], L, by simp, rfl, by simp⟩
theorem Up.last (P T L : List Bn) (x : Bn) : Up P T L (P ++ (L ++ (x :: T))) x (P.length + L.length) := ⟨L, [], by simp, by simp, rfl⟩
theorem Up.right {P T L R : List Bn} {x : Bn} {k : Nat} (h : Up P T L R x k) (hk : k < P.length + L.length) : ∃ y, R[k]? = some x ∧ R[k + 1]? = some y ∧ Up P T L ((R.set k y).set (k + 1) x) x (k + 1) := by
  obtain ⟨U, V, rfl, rfl, h1⟩ := h
  cases V with
  | nil => simp only [List.length_append, List.length_nil] at hk; omega
  | cons y V =>
    have e1 : (P ++ (U ++ (x :: (y :: V ++ T))))[k]? = some x := by
      rw [List.getElem?_append_right (by omega), List.getElem?_append_right (by omega), show k - P.length - U.length = 0 by omega]
      rfl
    have e2 : (P ++ (U ++ (x :: (y :: V ++ T))))[k + 1]? = some y := by
      rw [List.getElem?_append_right (by omega), List.getElem?_append_right (by omega), show k + 1 - P.length - U.length = 1 by omega]
      rfl
    refine ⟨y, e1, e2, U ++ [y], V, ?_, by simp, by rw [List.length_append, List.length_singleton]; omega⟩
    rw [← sw_is e1 e2]
    have := sw_parts (P ++ U) [] (V ++ T) x y
    simp only [List.length_append, List.length_nil, Nat.add_zero, List.nil_append, List.append_assoc] at this
    rw [h1] at this
    simpa using this
theorem Up.left {P T L R : List Bn} {x : Bn} {k : Nat} (h : Up P T L R x (k + 1)) (hk : P.length ≤ k) : ∃ y, R[k + 1]? = some x ∧ R[k]? = some y ∧ Up P T L ((R.set (k + 1) y).set k x) x k := by
  obtain ⟨U, V, rfl, rfl, h1⟩ := h
  rcases List.eq_nil_or_concat U with e | ⟨Z, y, e⟩
  · subst e
    simp at h1
    omega
  · rw [List.concat_eq_append] at e
    subst e
    simp only [List.length_append, List.length_singleton] at h1
    have e1 : (P ++ ((Z ++ [y]) ++ (x :: (V ++ T))))[k + 1]? = some x := by
      rw [List.getElem?_append_right (by omega), List.getElem?_append_right (by simp; omega), show k + 1 - P.length - (Z ++ [y]).length = 0 by simp; omega]
      rfl
    have e2 : (P ++ ((Z ++ [y]) ++ (x :: (V ++ T))))[k]? = some y := by
      rw [List.getElem?_append_right (by omega), List.append_assoc, List.getElem?_append_right (by omega), show k - P.length - Z.length = 0 by omega]
      rfl
    refine ⟨y, e1, e2, Z, y :: V, ?_, by simp, by omega⟩
    have e0 := sw_is e2 e1
    rw [List.set_comm _ _ (by omega)] at e0
    rw [← e0]
    have := sw_parts (P ++ Z) [] (V ++ T) y x
    simp only [List.length_append, List.length_nil, Nat.add_zero, List.nil_append, List.append_assoc] at this
    rw [show P.length + Z.length = k by omega] at this
    simpa using this
theorem Up.at_last {P T L R : List Bn} {x : Bn} {k : Nat} (h : Up P T L R x k) (hk : ¬ k < P.length + L.length) : R = P ++ (L ++ (x :: T)) := by
  obtain ⟨U, V, rfl, rfl, h1⟩ := h
  rw [List.length_append] at hk
  have : V = [] := List.length_eq_zero_iff.1 (by omega)
  subst this
  simp
theorem Up.at_first {P T L R : List Bn} {x : Bn} (h : Up P T L R x P.length) : R = P ++ (x :: (L ++ T)) := by
  obtain ⟨U, V, rfl, rfl, h1⟩ := h
  have : U = [] := List.length_eq_zero_iff.1 (by omega)
  subst this
  simp
end Pz
end Go.Proofs.YtljaahemlcaffaaGreat
namespace Go.Proofs.YtljaahemlcaffaaGreat
open Go.RowKit Pz Go.Shelf
set_option linter.unusedVariables false
variable {κ : Bn → K3} {fn : Nat} {cap : Array Value}

namespace Pz
def Ls (κ : Bn → K3) (D : List Bn) (f g : Nat) (t : Bool) : Prop := ∃ u v : Bn, D[f]? = some u ∧ D[g]? = some v ∧ before (κ u) (κ v) = t
end Pz
set_option maxHeartbeats 16000000 in
set_option maxRecDepth 100000 in
theorem syma_any {B : Nat} {A : Option Addr} {N c : Nat} {P Y Q : List Bn} {x0 : Bn} {w : World} (h : Rs B A N c (P ++ ([x0] ++ (Y ++ Q))) w w) (hN : N ≤ 1000000) (hBw : B ≤ w.heap.size) (HC : CmpAt κ fn cap B w) (hY : 0 < Y.length) (sY : Srt κ Y) {a m b : Nat} (ha : P.length = a) (hm : a + 1 = m) (hb : m + Y.length = b) :
    Calls Tryz.prog 106 #[.slice A N c, .int .i64 (a : Int), .int .i64 (m : Int), .int .i64 (b : Int), .func (.func fn) #[] cap] w fun e w' => e = .returned (.tuple #[]) ∧ ∃ Z, Srt κ Z ∧ Pz.Alike κ Z ([x0] ++ Y) ∧ Rs B A N c (P ++ (Z ++ Q)) w w' := by
  have hlen := h.len
  simp only [List.length_append, List.length_cons, List.length_nil] at hlen
  have bN : b ≤ N := by omega
  obtain ⟨g0, o0, rfl, _⟩ := h.get (k := a) (x := x0) (by rw [List.getElem?_append_right (by omega), ha, Nat.sub_self]; rfl)
  have H0 := Lib.hid h
  have TAIL : Hid (∀ i, m ≤ i → i ≤ b → (i = m ∨ (m < i ∧ Ls κ (P ++ ([x0] ++ (Y ++ Q))) (i - 1) a true)) → (i = b ∨ (i < b ∧ Ls κ (P ++ ([x0] ++ (Y ++ Q))) i a false)) →
      ∃ Y1 Y2, Up P (Y2 ++ Q) Y1 (P ++ ([x0] ++ (Y ++ Q))) x0 a ∧ a + Y1.length + 1 = i ∧ Srt κ (Y1 ++ (x0 :: Y2)) ∧ Pz.Alike κ (Y1 ++ (x0 :: Y2)) ([x0] ++ Y)) := Lib.hid fun i h1 h2 h3 h4 => by
    have ex : (P ++ ([x0] ++ (Y ++ Q)))[a]? = some x0 := by rw [List.getElem?_append_right (by omega), ha, Nat.sub_self]; rfl
    obtain ⟨X1, X2, Y1, Y2, q1, q2, q3, q4, q5, q6⟩ := cut (X := [x0]) (Y := Y) (P := P) (Q := Q) (s := a) (e := i) ha hm hb (List.pairwise_singleton _ _) sY (Nat.le_refl _) (by omega) h1 h2 (.inl rfl) (by
      rcases h3 with h3 | ⟨h3, u, v, hu, hv, hb'⟩
      · exact .inr (.inl h3)
      · exact .inr (.inr ⟨v, u, hv, hu, h3, hb'⟩))
    have e1 : X1 = [] := List.length_eq_zero_iff.1 (by omega)
    subst e1
    rw [List.nil_append] at q1
    subst q1
    obtain ⟨X3, X4, Y3, Y4, r1, r2, r3, r4, r5, r6⟩ := cut (X := [x0]) (Y := Y) (P := P) (Q := Q) (s := m) (e := i) ha hm hb (List.pairwise_singleton _ _) sY (by omega) (Nat.le_refl _) h1 h2 (by
      rcases h4 with h4 | ⟨h4, u, v, hu, hv, hb'⟩
      · exact .inr (.inl h4)
      · exact .inr (.inr ⟨v, u, by rw [← hm, Nat.add_sub_cancel]; exact hv, hu, by omega, hb'⟩)) (.inl rfl)
    have e3 : Y4 = Y2 := by
      have := q2.symm.trans r2
      exact ((List.append_inj this (by omega)).2).symm
    subst e3
    have hx0 : x0 ∈ X3 := by
      have : X4 = [] := List.length_eq_zero_iff.1 (by
        have := congrArg List.length r1
        simp only [List.length_append, List.length_singleton] at this
        omega)
      rw [this, List.append_nil] at r1
      rw [← r1]
      exact List.mem_singleton.2 rfl
    rw [q2] at sY
    obtain ⟨s1, s2, s3⟩ := srt_app.1 sY
    have s4 : Srt κ (x0 :: Y4) := List.pairwise_cons.2 ⟨fun y hy => r5 x0 hx0 y hy, s2⟩
    obtain ⟨z1, z2⟩ := merge_parts (l1 := []) (l2 := [x0]) (r1 := Y1) (r2 := Y4) (s1 := Y1) (s2 := x0 :: Y4) (List.pairwise_singleton _ _) sY (fun x hx => by cases hx) q6 s1 (Alike.refl _) s4 (Alike.refl _)
    refine ⟨Y1, Y4, ?_, by omega, z1, ?_⟩
    · have := Up.first P (Y4 ++ Q) Y1 x0
      rw [ha] at this
      rw [q2]
      simpa [List.append_assoc] using this
    · rw [q2]
      exact z2
  generalize hD : P ++ ([x0] ++ (Y ++ Q)) = D at *
  clear hD hlen h sY
  have hBB := Lib.hid hBw
  have EG := HC.ent
  have HLS := Lib.hid HC
  clear HC
  replace ha := Lib.hid ha
  replace hb := Lib.hid hb
  have w1 : IntKind.i64.wrap ((m : Int) - (a : Int)) = 1 := by rw [IntWalk.i64_in _ (by omega)]; omega
  have mb : m < b := by have := hb.out; omega
  have ma : a < m := by omega
  replace hm := Lib.hid hm
  go_enter Tryz.func106, Tryz.ntmps106
  go_wp2
  go_loopw [10, 11] (fun ix jx wr => ∃ i j : Nat, ix = .int .i64 i ∧ jx = .int .i64 j ∧ m ≤ i ∧ i ≤ j ∧ j ≤ b ∧ Hid (Rs B (some ⟨g0, o0, none⟩) N c D w wr) ∧ Hid (i = m ∨ (m < i ∧ Ls κ D ((i - 1)) (a) true)) ∧ Hid (j = b ∨ (j < b ∧ Ls κ D (j) (a) false))) (fun ix jx _ => (intOf jx).toNat - (intOf ix).toNat)
  case atStart => exact ⟨m, b, rfl, rfl, Nat.le_refl _, Nat.le_of_lt mb, Nat.le_refl _, H0, Lib.hid (.inl rfl), Lib.hid (.inl rfl)⟩
  case round =>
    obtain ⟨i, j, rfl, rfl, hlo, hij, hhi, HR, HL, HH⟩ := hrel
    clear H0
    by_cases hlt : i < j
    · have t1 : (i : Int) < (j : Int) := by omega
      obtain ⟨h, hh⟩ : ∃ h, h = (i + j) / 2 := ⟨_, rfl⟩
      have eh : ((i : Int) + (j : Int)) / 2 = (h : Int) := by omega
      have h1 : i ≤ h := by omega
      have h2 : h < j := by omega
      clear hh
      have hl2 := HR.out.len
      have lh : (h : Int) < (N : Int) := by omega
      have la : (a : Int) < (N : Int) := by omega
      obtain ⟨x, hx⟩ : ∃ x, D[h]? = some x := ⟨_, List.getElem?_eq_getElem (by omega)⟩
      obtain ⟨y, hy⟩ : ∃ y, D[a]? = some y := ⟨_, List.getElem?_eq_getElem (by omega)⟩
      have NL : Hid (before (κ x) (κ y) = true → h + 1 = m ∨ (m < h + 1 ∧ Ls κ D ((h + 1 - 1)) (a) true)) := Lib.hid fun hb => .inr ⟨by omega, x, y, by rw [Nat.add_sub_cancel]; exact hx, by first | exact hy | (rw [Nat.add_sub_cancel]; exact hy), hb⟩
      have NR : Hid (before (κ x) (κ y) = false → h = b ∨ (h < b ∧ Ls κ D (h) (a) false)) := Lib.hid fun hb => .inr ⟨by omega, x, y, hx, hy, hb⟩
      have LESS : Hid (∀ p : Lat grows wr, Calls Tryz.prog fn (#[x.val, y.val] ++ cap) p.W fun e w' => e = .returned (.int .i64 (cmpB (κ x) (κ y))) ∧ Below p.W.heap.size p.W w') := Lib.hid fun p => HLS.out.less x y p.W (HR.out.bel.trans ((lat_below p).mono (Nat.le_trans hBB.out HR.out.bel.size)))
      have CL := cmp_lt (κ x) (κ y)
      generalize cmpB (κ x) (κ y) = r at *
      generalize before (κ x) (κ y) = bf at *
      have hroom := HR.out.room (k := h) (by omega)
      obtain ⟨g, o, e, px⟩ := HR.out.get hx
      cases e
      obtain ⟨g', o', e, py⟩ := HR.out.get hy
      cases e
      clear hx hy hl2
      obtain ⟨xs, xi, xg, xm, xx, xy, xvx, xvy, xh, xp, xl⟩ := x
      obtain ⟨ys, yi, yg, ym, yx, yy, yvx, yvy, yh, yp, yl⟩ := y
      simp only [Bn.val] at *
      have c0 := fun p => (px p).1
      have e0 := fun p => (py p).1
      have c1 := fun p => (px p).2.1
      have e1 := fun p => (py p).2.1
      have c2 := fun p => (px p).2.2.1
      have e2 := fun p => (py p).2.2.1
      have c3 := fun p => (px p).2.2.2.1
      have e3 := fun p => (py p).2.2.2.1
      have c4 := fun p => (px p).2.2.2.2.1
      have e4 := fun p => (py p).2.2.2.2.1
      have c5 := fun p => (px p).2.2.2.2.2.1
      have e5 := fun p => (py p).2.2.2.2.2.1
      have c6 := fun p => (px p).2.2.2.2.2.2.1
      have e6 := fun p => (py p).2.2.2.2.2.2.1
      have c7 := fun p => (px p).2.2.2.2.2.2.2.1
      have e7 := fun p => (py p).2.2.2.2.2.2.2.1
      have c8 := fun p => (px p).2.2.2.2.2.2.2.2.1
      have e8 := fun p => (py p).2.2.2.2.2.2.2.2.1
      have c9 := fun p => (px p).2.2.2.2.2.2.2.2.2.1
      have e9 := fun p => (py p).2.2.2.2.2.2.2.2.2.1
      have c10 := fun p => (px p).2.2.2.2.2.2.2.2.2.2
      have e10 := fun p => (py p).2.2.2.2.2.2.2.2.2.2
      clear px py
      have HL2 := HL
      have HH2 := HH
      clear HL HH TAIL
      go_upto_region 5 with fail
      refine Og.grow 11 (by kernel_rfl) (by kernel_rfl) fun hc hf => ?_
      clear hc hf
      simp only [List.take_succ_cons, List.take_zero, List.drop_succ_cons, List.drop_zero]
      iterate 9 (refine Og.det [] rfl (fun J hJ => ?_); go_simp; refine hJ _ _ ?_; clear hJ J)
      refine Og.det [] rfl (fun J hJ => ?_)
      go_simp
      with_reducible refine ⟨_, fun p => Og.lays (LESS.out p), hJ _ _ ?_⟩
      clear hJ J
      iterate 1 (refine Og.det [] rfl (fun J hJ => ?_); go_simp; refine hJ _ _ ?_; clear hJ J)
      refine Og.fin fun W hW => ?_
      simp only [Og.opened_nil]
      clear c0 c1 c2 c3 c4 c5 c6 c7 c8 c9 c10 e0 e1 e2 e3 e4 e5 e6 e7 e8 e9 e10 LESS
      replace HR := Lib.hid (HR.out.grown (Nat.le_of_lt hroom) hW)
      clear hW
      cases bf with
      | false =>
        have NX := Lib.hid (NR.out rfl)
        clear NL NR
        go_wp2
        go_roundw
        case rel => exact ⟨i, h, rfl, rfl, hlo, h1, by omega, HR, HL2, NX⟩
        case measure => simp [intOf]; omega
      | true =>
        have NX := Lib.hid (NL.out rfl)
        clear NL NR
        go_wp2
        go_roundw
        case rel => exact ⟨h + 1, j, by go_num, rfl, by omega, by omega, hhi, HR, NX, HH2⟩
        case measure => simp [intOf]; omega
    · have e : j = i := by omega
      subst e
      have t1 : ¬ (j : Int) < (j : Int) := by omega
      obtain ⟨Y1, Y2, U0, hl, z1, z2⟩ := TAIL.out j hlo hhi HL.out HH.out
      replace U0 := Lib.hid U0
      replace z1 := Lib.hid z1
      replace z2 := Lib.hid z2
      clear HL HH TAIL
      have ws : IntKind.i64.wrap ((j : Int) - 1) = ((a + Y1.length : Nat) : Int) := by rw [IntWalk.i64_in _ (by omega)]; omega
      obtain ⟨k1, hk1⟩ : ∃ k1, k1 = a + Y1.length := ⟨_, rfl⟩
      rw [← hk1] at ws
      have hk2 : k1 < j := by omega
      replace hk1 := Lib.hid hk1
      go_wp2
      go_loopw [13] (fun kx wr => ∃ (k : Nat) (R : List Bn), kx = .int .i64 k ∧ a ≤ k ∧ k ≤ k1 ∧ Hid (Rs B (some ⟨g0, o0, none⟩) N c R w wr) ∧ Hid (Up P (Y2 ++ Q) Y1 R x0 k)) (fun kx _ => k1 - (intOf kx).toNat)
      case atStart => exact ⟨a, D, rfl, Nat.le_refl _, by have := hk1.out; omega, HR, U0⟩
      case round =>
        clear HR U0
        obtain ⟨k, R, rfl, hak, hkk, HR, HU⟩ := hrel
        by_cases hlt : k < k1
        · have t3 : (k : Int) < (k1 : Int) := by omega
          obtain ⟨y, hx, hy, NU⟩ := HU.out.right (by have h1 := ha.out; have h2 := hk1.out; omega)
          replace NU := Lib.hid NU
          obtain ⟨kk, hkk'⟩ : ∃ kk, kk = k + 1 := ⟨_, rfl⟩
          rw [← hkk'] at hy NU
          have wk : IntKind.i64.wrap ((k : Int) + 1) = (kk : Int) := by rw [IntWalk.i64_in _ (by omega)]; omega
          have la : (k : Int) < (N : Int) := by omega
          have lb : (kk : Int) < (N : Int) := by omega
          have hkN : k < N := by omega
          have hkN' : kk < N := by omega
          have hkk2 : kk ≤ k1 := by omega
          have hkk3 : k < kk := by omega
          have HX := Lib.hid hx
          have HY := Lib.hid hy
          replace hkk' := Lib.hid hkk'
          clear hx hy HU
          obtain ⟨xs, xi, xg, xm, xx, xy, xvx, xvy, xh, xp, xl⟩ := x0
          obtain ⟨ys, yi, yg, ym, yx, yy, yvx, yvy, yh, yp, yl⟩ := y
          try simp only at NU
          go_upto_region 11 with fail
          obtain ⟨g', o', e, px⟩ := HR.out.get HX.out
          cases e
          obtain ⟨g', o', e, py⟩ := HR.out.get HY.out
          cases e
          simp only at px py
          clear HX HY
          have c0 := (px ⟨wr.drew, Below.d' (Below.refl _ _)⟩).1
          have e0 := (py ⟨wr.drew, Below.d' (Below.refl _ _)⟩).1
          have c1 := (px ⟨wr.drew, Below.d' (Below.refl _ _)⟩).2.1
          have e1 := (py ⟨wr.drew, Below.d' (Below.refl _ _)⟩).2.1
          have c2 := (px ⟨wr.drew, Below.d' (Below.refl _ _)⟩).2.2.1
          have e2 := (py ⟨wr.drew, Below.d' (Below.refl _ _)⟩).2.2.1
          have c3 := (px ⟨wr.drew, Below.d' (Below.refl _ _)⟩).2.2.2.1
          have e3 := (py ⟨wr.drew, Below.d' (Below.refl _ _)⟩).2.2.2.1
          have c4 := (px ⟨wr.drew, Below.d' (Below.refl _ _)⟩).2.2.2.2.1
          have e4 := (py ⟨wr.drew, Below.d' (Below.refl _ _)⟩).2.2.2.2.1
          have c5 := (px ⟨wr.drew, Below.d' (Below.refl _ _)⟩).2.2.2.2.2.1
          have e5 := (py ⟨wr.drew, Below.d' (Below.refl _ _)⟩).2.2.2.2.2.1
          have c6 := (px ⟨wr.drew, Below.d' (Below.refl _ _)⟩).2.2.2.2.2.2.1
          have e6 := (py ⟨wr.drew, Below.d' (Below.refl _ _)⟩).2.2.2.2.2.2.1
          have c7 := (px ⟨wr.drew, Below.d' (Below.refl _ _)⟩).2.2.2.2.2.2.2.1
          have e7 := (py ⟨wr.drew, Below.d' (Below.refl _ _)⟩).2.2.2.2.2.2.2.1
          have c8 := (px ⟨wr.drew, Below.d' (Below.refl _ _)⟩).2.2.2.2.2.2.2.2.1
          have e8 := (py ⟨wr.drew, Below.d' (Below.refl _ _)⟩).2.2.2.2.2.2.2.2.1
          have c9 := (px ⟨wr.drew, Below.d' (Below.refl _ _)⟩).2.2.2.2.2.2.2.2.2.1
          have e9 := (py ⟨wr.drew, Below.d' (Below.refl _ _)⟩).2.2.2.2.2.2.2.2.2.1
          have c10 := (px ⟨wr.drew, Below.d' (Below.refl _ _)⟩).2.2.2.2.2.2.2.2.2.2
          have e10 := (py ⟨wr.drew, Below.d' (Below.refl _ _)⟩).2.2.2.2.2.2.2.2.2.2
          clear px py
          simp only at c0 c1 c2 c3 c4 c5 c6 c7 c8 c9 c10 e0 e1 e2 e3 e4 e5 e6 e7 e8 e9 e10
          obtain ⟨g', o', e, ⟨q9, z0, z1, z2, z3, z4, z5, z6, z7, z8, z9, z10⟩, ⟨y0, y1, y2, y3, y4, y5, y6, y7, y8, y9, y10⟩, HP⟩ := HR.out.put (k := k) hkN ⟨ys, yi, yg, ym, yx, yy, yvx, yvy, yh, yp, yl⟩
          cases e
          clear HR
          simp only at HP
          obtain ⟨g', o', e, ⟨q2, p0, p1, p2, p3, p4, p5, p6, p7, p8, p9, p10⟩, ⟨h0, h1, h2, h3, h4, h5, h6, h7, h8, h9, h10⟩, HP2⟩ := HP.out.put (k := kk) hkN' ⟨xs, xi, xg, xm, xx, xy, xvx, xvy, xh, xp, xl⟩
          cases e
          clear HP
          simp only at HP2
          go_big_region
          clear c0 c1 c2 c3 c4 c5 c6 c7 c8 c9 c10 e0 e1 e2 e3 e4 e5 e6 e7 e8 e9 e10 z0 z1 z2 z3 z4 z5 z6 z7 z8 z9 z10 y0 y1 y2 y3 y4 y5 y6 y7 y8 y9 y10 p0 p1 p2 p3 p4 p5 p6 p7 p8 p9 p10 h0 h1 h2 h3 h4 h5 h6 h7 h8 h9 h10
          have HP3 := Lib.hid (HP2.out.grown (by have := HP2.out.room (k := k) hkN; omega) (Below.d' (Below.refl _ _)))
          clear HP2
          go_wp2
          go_roundw
          case rel => exact ⟨kk, _, rfl, by omega, hkk2, HP3, NU⟩
          case measure => simp [intOf]; omega
        · have t3 : ¬ (k : Int) < (k1 : Int) := by omega
          have er := HU.out.at_last (by have h1 := ha.out; have h2 := hk1.out; omega)
          replace er := Lib.hid er
          clear HU
          go_wp2
          refine bodyPost_ret (results_none rfl _ _ _) rfl ⟨rfl, _, z1.out, z2.out, ?_⟩
          have e2 : P ++ (Y1 ++ x0 :: Y2 ++ Q) = R := by rw [er.out]; simp [List.append_assoc]
          rw [e2]
          exact HR.out
end Go.Proofs.YtljaahemlcaffaaGreat
namespace Go.Proofs.YtljaahemlcaffaaGreat
open Go.RowKit Pz Go.Shelf
set_option linter.unusedVariables false
variable {κ : Bn → K3} {fn : Nat} {cap : Array Value}

set_option maxHeartbeats 16000000 in
set_option maxRecDepth 100000 in
theorem symb_any {B : Nat} {A : Option Addr} {N c : Nat} {P X Q : List Bn} {y0 : Bn} {w : World} (h : Rs B A N c (P ++ (X ++ ([y0] ++ Q))) w w) (hN : N ≤ 1000000) (hBw : B ≤ w.heap.size) (HC : CmpAt κ fn cap B w) (hX : 1 < X.length) (sX : Srt κ X) {a m b : Nat} (ha : P.length = a) (hm : a + X.length = m) (hb : m + 1 = b) :
    Calls Tryz.prog 106 #[.slice A N c, .int .i64 (a : Int), .int .i64 (m : Int), .int .i64 (b : Int), .func (.func fn) #[] cap] w fun e w' => e = .returned (.tuple #[]) ∧ ∃ Z, Srt κ Z ∧ Pz.Alike κ Z (X ++ [y0]) ∧ Rs B A N c (P ++ (Z ++ Q)) w w' := by
  have hlen := h.len
  simp only [List.length_append, List.length_cons, List.length_nil] at hlen
  have bN : b ≤ N := by omega
  have ey : (P ++ (X ++ ([y0] ++ Q)))[m]? = some y0 := by rw [List.getElem?_append_right (by omega), List.getElem?_append_right (by omega), show m - P.length - X.length = 0 by omega]; rfl
  obtain ⟨g0, o0, rfl, _⟩ := h.get (k := m) (x := y0) ey
  have H0 := Lib.hid h
  have TAIL : Hid (∀ i, a ≤ i → i ≤ m → (i = a ∨ (a < i ∧ Ls κ (P ++ (X ++ ([y0] ++ Q))) m (i - 1) false)) → (i = m ∨ (i < m ∧ Ls κ (P ++ (X ++ ([y0] ++ Q))) m i true)) →
      ∃ X1 X2, Up (P ++ X1) Q X2 (P ++ (X ++ ([y0] ++ Q))) y0 m ∧ a + X1.length = i ∧ (P ++ X1).length = i ∧ Srt κ ((X1 ++ [y0]) ++ X2) ∧ Pz.Alike κ ((X1 ++ [y0]) ++ X2) (X ++ [y0])) := Lib.hid fun i h1 h2 h3 h4 => by
    obtain ⟨X1, X2, Y1, Y2, q1, q2, q3, q4, q5, q6⟩ := cut (X := X) (Y := [y0]) (P := P) (Q := Q) (s := i) (e := b) ha hm hb sX (List.pairwise_singleton _ _) h1 h2 (by omega) (Nat.le_refl _) (.inr (.inl rfl)) (by
      rcases h4 with h4 | ⟨h4, u, v, hu, hv, hb'⟩
      · exact .inl h4
      · exact .inr (.inr ⟨v, u, hv, by rw [← hb, Nat.add_sub_cancel]; exact hu, by omega, hb'⟩))
    have e1 : Y2 = [] := List.length_eq_zero_iff.1 (by
      have := congrArg List.length q2
      simp only [List.length_append, List.length_singleton] at this
      omega)
    subst e1
    rw [List.append_nil] at q2
    subst q2
    obtain ⟨X3, X4, Y3, Y4, r1, r2, r3, r4, r5, r6⟩ := cut (X := X) (Y := [y0]) (P := P) (Q := Q) (s := i) (e := m) ha hm hb sX (List.pairwise_singleton _ _) h1 h2 (Nat.le_refl _) (by omega) (by
      rcases h3 with h3 | ⟨h3, u, v, hu, hv, hb'⟩
      · exact .inl h3
      · exact .inr (.inr ⟨v, u, hv, hu, h3, hb'⟩)) (.inr (.inl rfl))
    have e2 : X3 = X1 := by
      have := q1.symm.trans r1
      exact ((List.append_inj this (by omega)).1).symm
    subst e2
    have hy0 : y0 ∈ Y4 := by
      have : Y3 = [] := List.length_eq_zero_iff.1 (by omega)
      rw [this, List.nil_append] at r2
      rw [← r2]
      exact List.mem_singleton.2 rfl
    rw [q1] at sX
    obtain ⟨s1, s2, s3⟩ := srt_app.1 sX
    have s4 : Srt κ (X3 ++ [y0]) := srt_app.2 ⟨s1, List.pairwise_singleton _ _, fun x hx y hy => by rw [List.mem_singleton.1 hy]; exact r5 x hx y0 hy0⟩
    obtain ⟨z1, z2⟩ := merge_parts (l1 := X3) (l2 := X2) (r1 := [y0]) (r2 := []) (s1 := X3 ++ [y0]) (s2 := X2) sX (List.pairwise_singleton _ _) (fun x hx y hy => by cases hy) q6 s4 (Alike.refl _) s2 (by rw [List.append_nil]; exact Alike.refl _)
    refine ⟨X3, X2, ?_, by omega, by rw [List.length_append]; omega, z1, ?_⟩
    · have := Up.last (P ++ X3) Q X2 y0
      have lX := congrArg List.length q1
      rw [List.length_append] at lX
      rw [List.length_append, show P.length + X3.length + X2.length = m by omega] at this
      rw [q1]
      simpa [List.append_assoc] using this
    · rw [q1]
      rw [List.append_nil] at z2
      exact z2
  generalize hD : (P ++ (X ++ ([y0] ++ Q))) = D at *
  clear hD hlen h sX ey
  have hBB := Lib.hid hBw
  have EG := HC.ent
  have HLS := Lib.hid HC
  clear HC
  replace ha := Lib.hid ha
  have w1 : IntKind.i64.wrap ((m : Int) - (a : Int)) = (X.length : Int) := by rw [IntWalk.i64_in _ (by omega)]; omega
  have w1' : ((X.length : Int) == 1) = false := beq_eq_false_iff_ne.2 (by omega)
  have w2 : IntKind.i64.wrap ((b : Int) - (m : Int)) = 1 := by rw [IntWalk.i64_in _ (by omega)]; omega
  have mb : m < b := by omega
  have ma : a < m := by omega
  have aN : b ≤ 1000000 := by omega
  generalize X.length = lx at *
  replace hm := Lib.hid hm
  replace hb := Lib.hid hb
  go_enter Tryz.func106, Tryz.ntmps106
  go_wp2
  go_loopw [14, 15] (fun ix jx wr => ∃ i j : Nat, ix = .int .i64 i ∧ jx = .int .i64 j ∧ a ≤ i ∧ i ≤ j ∧ j ≤ m ∧ Hid (Rs B (some ⟨g0, o0, none⟩) N c D w wr) ∧ Hid (i = a ∨ (a < i ∧ Ls κ D (m) ((i - 1)) false)) ∧ Hid (j = m ∨ (j < m ∧ Ls κ D (m) (j) true))) (fun ix jx _ => (intOf jx).toNat - (intOf ix).toNat)
  case atStart => exact ⟨a, m, rfl, rfl, Nat.le_refl _, Nat.le_of_lt ma, Nat.le_refl _, H0, Lib.hid (.inl rfl), Lib.hid (.inl rfl)⟩
  case round =>
    obtain ⟨i, j, rfl, rfl, hlo, hij, hhi, HR, HL, HH⟩ := hrel
    clear H0
    by_cases hlt : i < j
    · have t1 : (i : Int) < (j : Int) := by omega
      obtain ⟨h, hh⟩ : ∃ h, h = (i + j) / 2 := ⟨_, rfl⟩
      have eh : ((i : Int) + (j : Int)) / 2 = (h : Int) := by omega
      have h1 : i ≤ h := by omega
      have h2 : h < j := by omega
      clear hh
      have hl2 := HR.out.len
      have lh : (h : Int) < (N : Int) := by omega
      have la : (m : Int) < (N : Int) := by omega
      obtain ⟨x, hx⟩ : ∃ x, D[m]? = some x := ⟨_, List.getElem?_eq_getElem (by omega)⟩
      obtain ⟨y, hy⟩ : ∃ y, D[h]? = some y := ⟨_, List.getElem?_eq_getElem (by omega)⟩
      have NL : Hid (before (κ x) (κ y) = false → h + 1 = a ∨ (a < h + 1 ∧ Ls κ D (m) ((h + 1 - 1)) false)) := Lib.hid fun hb => .inr ⟨by omega, x, y, by first | exact hx | (rw [Nat.add_sub_cancel]; exact hx), by first | exact hy | (rw [Nat.add_sub_cancel]; exact hy), hb⟩
      have NR : Hid (before (κ x) (κ y) = true → h = m ∨ (h < m ∧ Ls κ D (m) (h) true)) := Lib.hid fun hb => .inr ⟨by omega, x, y, hx, hy, hb⟩
      have LESS : Hid (∀ p : Lat grows wr, Calls Tryz.prog fn (#[x.val, y.val] ++ cap) p.W fun e w' => e = .returned (.int .i64 (cmpB (κ x) (κ y))) ∧ Below p.W.heap.size p.W w') := Lib.hid fun p => HLS.out.less x y p.W (HR.out.bel.trans ((lat_below p).mono (Nat.le_trans hBB.out HR.out.bel.size)))
      have CL := cmp_lt (κ x) (κ y)
      generalize cmpB (κ x) (κ y) = r at *
      generalize before (κ x) (κ y) = bf at *
      have hroom := HR.out.room (k := m) (by omega)
      obtain ⟨g, o, e, px⟩ := HR.out.get hx
      cases e
      obtain ⟨g', o', e, py⟩ := HR.out.get hy
      cases e
      clear hx hy hl2
      obtain ⟨xs, xi, xg, xm, xx, xy, xvx, xvy, xh, xp, xl⟩ := x
      obtain ⟨ys, yi, yg, ym, yx, yy, yvx, yvy, yh, yp, yl⟩ := y
      simp only [Bn.val] at *
      have c0 := fun p => (px p).1
      have e0 := fun p => (py p).1
      have c1 := fun p => (px p).2.1
      have e1 := fun p => (py p).2.1
      have c2 := fun p => (px p).2.2.1
      have e2 := fun p => (py p).2.2.1
      have c3 := fun p => (px p).2.2.2.1
      have e3 := fun p => (py p).2.2.2.1
      have c4 := fun p => (px p).2.2.2.2.1
      have e4 := fun p => (py p).2.2.2.2.1
      have c5 := fun p => (px p).2.2.2.2.2.1
      have e5 := fun p => (py p).2.2.2.2.2.1
      have c6 := fun p => (px p).2.2.2.2.2.2.1
      have e6 := fun p => (py p).2.2.2.2.2.2.1
      have c7 := fun p => (px p).2.2.2.2.2.2.2.1
      have e7 := fun p => (py p).2.2.2.2.2.2.2.1
      have c8 := fun p => (px p).2.2.2.2.2.2.2.2.1
      have e8 := fun p => (py p).2.2.2.2.2.2.2.2.1
      have c9 := fun p => (px p).2.2.2.2.2.2.2.2.2.1
      have e9 := fun p => (py p).2.2.2.2.2.2.2.2.2.1
      have c10 := fun p => (px p).2.2.2.2.2.2.2.2.2.2
      have e10 := fun p => (py p).2.2.2.2.2.2.2.2.2.2
      clear px py
      have HL2 := HL
      have HH2 := HH
      clear HL HH TAIL
      go_upto_region 17 with fail
      refine Og.grow 12 (by kernel_rfl) (by kernel_rfl) fun hc hf => ?_
      clear hc hf
      simp only [List.take_succ_cons, List.take_zero, List.drop_succ_cons, List.drop_zero]
      iterate 9 (refine Og.det [] rfl (fun J hJ => ?_); go_simp; refine hJ _ _ ?_; clear hJ J)
      refine Og.det [] rfl (fun J hJ => ?_)
      go_simp
      with_reducible refine ⟨_, fun p => Og.lays (LESS.out p), hJ _ _ ?_⟩
      clear hJ J
      iterate 2 (refine Og.det [] rfl (fun J hJ => ?_); go_simp; refine hJ _ _ ?_; clear hJ J)
      refine Og.fin fun W hW => ?_
      simp only [Og.opened_nil]
      clear c0 c1 c2 c3 c4 c5 c6 c7 c8 c9 c10 e0 e1 e2 e3 e4 e5 e6 e7 e8 e9 e10 LESS
      replace HR := Lib.hid (HR.out.grown (Nat.le_of_lt hroom) hW)
      clear hW
      cases bf with
      | false =>
        have NX := Lib.hid (NL.out rfl)
        clear NL NR
        go_wp2
        go_roundw
        case rel => exact ⟨h + 1, j, by go_num, rfl, by omega, by omega, hhi, HR, NX, HH2⟩
        case measure => simp [intOf]; omega
      | true =>
        have NX := Lib.hid (NR.out rfl)
        clear NL NR
        go_wp2
        go_roundw
        case rel => exact ⟨i, h, rfl, rfl, hlo, h1, by omega, HR, HL2, NX⟩
        case measure => simp [intOf]; omega
    · have e : j = i := by omega
      subst e
      have t1 : ¬ (j : Int) < (j : Int) := by omega
      obtain ⟨X1, X2, U0, hl, hl2, z1, z2⟩ := TAIL.out j hlo hhi HL.out HH.out
      replace U0 := Lib.hid U0
      replace z1 := Lib.hid z1
      replace z2 := Lib.hid z2
      replace hl := Lib.hid hl
      clear HL HH TAIL
      go_wp2
      go_loopw [17] (fun kx wr => ∃ (k : Nat) (R : List Bn), kx = .int .i64 k ∧ j ≤ k ∧ k ≤ m ∧ Hid (Rs B (some ⟨g0, o0, none⟩) N c R w wr) ∧ Hid (Up (P ++ X1) Q X2 R y0 k)) (fun kx _ => (intOf kx).toNat)
      case atStart => exact ⟨m, D, rfl, hhi, Nat.le_refl _, HR, U0⟩
      case round =>
        clear HR U0
        obtain ⟨k, R, rfl, hak, hkk, HR, HU⟩ := hrel
        by_cases hlt : j < k
        · have t3 : (k : Int) > (j : Int) := by omega
          obtain ⟨kk, hkk'⟩ : ∃ kk, k = kk + 1 := ⟨k - 1, by omega⟩
          have HU' := HU.out
          rw [hkk'] at HU'
          obtain ⟨y, hx, hy, NU⟩ := HU'.left (by omega)
          rw [← hkk'] at hx NU
          replace NU := Lib.hid NU
          have wk : IntKind.i64.wrap ((k : Int) - 1) = (kk : Int) := by rw [IntWalk.i64_in _ (by omega)]; omega
          have la : (k : Int) < (N : Int) := by omega
          have lb : (kk : Int) < (N : Int) := by omega
          have hkN : k < N := by omega
          have hkN' : kk < N := by omega
          have hkk2 : j ≤ kk := by omega
          have hkk3 : kk < k := by omega
          have HX := Lib.hid hx
          have HY := Lib.hid hy
          replace hkk' := Lib.hid hkk'
          clear hx hy HU HU'
          obtain ⟨xs, xi, xg, xm, xx, xy, xvx, xvy, xh, xp, xl⟩ := y0
          obtain ⟨ys, yi, yg, ym, yx, yy, yvx, yvy, yh, yp, yl⟩ := y
          try simp only at NU
          go_upto_region 23 with fail
          obtain ⟨g', o', e, px⟩ := HR.out.get HX.out
          cases e
          obtain ⟨g', o', e, py⟩ := HR.out.get HY.out
          cases e
          simp only at px py
          clear HX HY
          have c0 := (px ⟨wr.drew, Below.d' (Below.refl _ _)⟩).1
          have e0 := (py ⟨wr.drew, Below.d' (Below.refl _ _)⟩).1
          have c1 := (px ⟨wr.drew, Below.d' (Below.refl _ _)⟩).2.1
          have e1 := (py ⟨wr.drew, Below.d' (Below.refl _ _)⟩).2.1
          have c2 := (px ⟨wr.drew, Below.d' (Below.refl _ _)⟩).2.2.1
          have e2 := (py ⟨wr.drew, Below.d' (Below.refl _ _)⟩).2.2.1
          have c3 := (px ⟨wr.drew, Below.d' (Below.refl _ _)⟩).2.2.2.1
          have e3 := (py ⟨wr.drew, Below.d' (Below.refl _ _)⟩).2.2.2.1
          have c4 := (px ⟨wr.drew, Below.d' (Below.refl _ _)⟩).2.2.2.2.1
          have e4 := (py ⟨wr.drew, Below.d' (Below.refl _ _)⟩).2.2.2.2.1
          have c5 := (px ⟨wr.drew, Below.d' (Below.refl _ _)⟩).2.2.2.2.2.1
          have e5 := (py ⟨wr.drew, Below.d' (Below.refl _ _)⟩).2.2.2.2.2.1
          have c6 := (px ⟨wr.drew, Below.d' (Below.refl _ _)⟩).2.2.2.2.2.2.1
          have e6 := (py ⟨wr.drew, Below.d' (Below.refl _ _)⟩).2.2.2.2.2.2.1
          have c7 := (px ⟨wr.drew, Below.d' (Below.refl _ _)⟩).2.2.2.2.2.2.2.1
          have e7 := (py ⟨wr.drew, Below.d' (Below.refl _ _)⟩).2.2.2.2.2.2.2.1
          have c8 := (px ⟨wr.drew, Below.d' (Below.refl _ _)⟩).2.2.2.2.2.2.2.2.1
          have e8 := (py ⟨wr.drew, Below.d' (Below.refl _ _)⟩).2.2.2.2.2.2.2.2.1
          have c9 := (px ⟨wr.drew, Below.d' (Below.refl _ _)⟩).2.2.2.2.2.2.2.2.2.1
          have e9 := (py ⟨wr.drew, Below.d' (Below.refl _ _)⟩).2.2.2.2.2.2.2.2.2.1
          have c10 := (px ⟨wr.drew, Below.d' (Below.refl _ _)⟩).2.2.2.2.2.2.2.2.2.2
          have e10 := (py ⟨wr.drew, Below.d' (Below.refl _ _)⟩).2.2.2.2.2.2.2.2.2.2
          clear px py
          simp only at c0 c1 c2 c3 c4 c5 c6 c7 c8 c9 c10 e0 e1 e2 e3 e4 e5 e6 e7 e8 e9 e10
          obtain ⟨g', o', e, ⟨q9, z0, z1, z2, z3, z4, z5, z6, z7, z8, z9, z10⟩, ⟨y0, y1, y2, y3, y4, y5, y6, y7, y8, y9, y10⟩, HP⟩ := HR.out.put (k := k) hkN ⟨ys, yi, yg, ym, yx, yy, yvx, yvy, yh, yp, yl⟩
          cases e
          clear HR
          simp only at HP
          obtain ⟨g', o', e, ⟨q2, p0, p1, p2, p3, p4, p5, p6, p7, p8, p9, p10⟩, ⟨h0, h1, h2, h3, h4, h5, h6, h7, h8, h9, h10⟩, HP2⟩ := HP.out.put (k := kk) hkN' ⟨xs, xi, xg, xm, xx, xy, xvx, xvy, xh, xp, xl⟩
          cases e
          clear HP
          simp only at HP2
          go_big_region
          clear c0 c1 c2 c3 c4 c5 c6 c7 c8 c9 c10 e0 e1 e2 e3 e4 e5 e6 e7 e8 e9 e10 z0 z1 z2 z3 z4 z5 z6 z7 z8 z9 z10 y0 y1 y2 y3 y4 y5 y6 y7 y8 y9 y10 p0 p1 p2 p3 p4 p5 p6 p7 p8 p9 p10 h0 h1 h2 h3 h4 h5 h6 h7 h8 h9 h10
          have HP3 := Lib.hid (HP2.out.grown (by have := HP2.out.room (k := k) hkN; omega) (Below.d' (Below.refl _ _)))
          clear HP2
          go_wp2
          go_roundw
          case rel => exact ⟨kk, _, rfl, hkk2, by omega, HP3, NU⟩
          case measure => simp [intOf]; omega
        · have t3 : ¬ (k : Int) > (j : Int) := by omega
          have ek : k = j := by omega
          have HU' := HU.out
          rw [ek, ← hl2] at HU'
          have er := Lib.hid (HU'.at_first)
          clear HU HU' ek
          go_wp2
          refine bodyPost_ret (results_none rfl _ _ _) rfl ⟨rfl, _, z1.out, z2.out, ?_⟩
          have e2 : P ++ (X1 ++ [y0] ++ X2 ++ Q) = R := by rw [er.out]; simp [List.append_assoc]
          rw [e2]
          exact HR.out
end Go.Proofs.YtljaahemlcaffaaGreat
namespace Go.Proofs.YtljaahemlcaffaaGreat
open Go.RowKit Pz
set_option linter.unusedVariables false
variable {κ : Bn → K3} {fn : Nat} {cap : Array Value}

namespace Pz
/-- two parts that are to be exchanged, partly done: T is what shall stand between P and Q -/
def Rot (P Q T : List Bn) (m : Nat) (R : List Bn) (i j : Nat) : Prop :=
  ∃ A X Y C : List Bn, R = P ++ (A ++ (X ++ (Y ++ (C ++ Q)))) ∧ X.length = i ∧ Y.length = j ∧ P.length + A.length + i = m ∧ A ++ (Y ++ (X ++ C)) = T
theorem Rot.start (P X Y Q : List Bn) : Rot P Q (Y ++ X) (P.length + X.length) (P ++ (X ++ (Y ++ Q))) X.length Y.length :=
  ⟨[], X, Y, [], by simp, rfl, rfl, by simp, by simp⟩
theorem Rot.bds {P Q T R : List Bn} {m i j : Nat} (h : Rot P Q T m R i j) : i ≤ m ∧ m + j ≤ R.length := by
  obtain ⟨A, X, Y, C, rfl, h1, h2, h3, _⟩ := h
  simp only [List.length_append]
  omega
theorem Rot.gt {P Q T R : List Bn} {m i j : Nat} (h : Rot P Q T m R i j) (hij : j < i) : Rot P Q T m (swr R (m - i) m j) (i - j) j := by
  obtain ⟨A, X, Y, C, rfl, h1, h2, h3, h4⟩ := h
  have hl : (X.take j).length = j := by rw [List.length_take]; omega
  refine ⟨A ++ Y, X.drop j, X.take j, C, ?_, by rw [List.length_drop, h1], hl, by rw [List.length_append]; omega, ?_⟩
  · have := swr_parts (X.take j) Y (P ++ A) (X.drop j) (C ++ Q) (by rw [hl, h2])
    rw [hl, List.length_append, List.length_drop] at this
    rw [show m - i = P.length + A.length by omega]
    rw [show P.length + A.length + j + (X.length - j) = m by omega] at this
    rw [← List.append_assoc (X.take j), List.take_append_drop] at this
    simpa [List.append_assoc] using this
  · rw [← h4, List.append_assoc, ← List.append_assoc (X.take j), List.take_append_drop]
theorem Rot.lt {P Q T R : List Bn} {m i j : Nat} (h : Rot P Q T m R i j) (hij : i < j) : Rot P Q T m (swr R (m - i) (m + j - i) i) i (j - i) := by
  obtain ⟨A, X, Y, C, rfl, h1, h2, h3, h4⟩ := h
  have hl : (Y.drop (j - i)).length = i := by rw [List.length_drop]; omega
  have ht : (Y.take (j - i)).length = j - i := by rw [List.length_take]; omega
  refine ⟨A, Y.drop (j - i), Y.take (j - i), X ++ C, ?_, hl, ht, h3, ?_⟩
  · have := swr_parts X (Y.drop (j - i)) (P ++ A) (Y.take (j - i)) (C ++ Q) (by rw [hl, h1])
    rw [List.length_append, ht, h1] at this
    rw [show m - i = P.length + A.length by omega]
    rw [show P.length + A.length + i + (j - i) = m + j - i by omega] at this
    rw [← List.append_assoc (Y.take (j - i)), List.take_append_drop] at this
    simpa using this
  · rw [← h4, ← List.append_assoc (Y.take (j - i)), List.take_append_drop]
theorem Rot.eq {P Q T R : List Bn} {m i : Nat} (h : Rot P Q T m R i i) : swr R (m - i) m i = P ++ (T ++ Q) := by
  obtain ⟨A, X, Y, C, rfl, h1, h2, h3, h4⟩ := h
  have := swr_parts X Y (P ++ A) [] (C ++ Q) (by omega)
  rw [List.length_append, List.length_nil, h1] at this
  rw [show m - i = P.length + A.length by omega, ← h4]
  rw [show P.length + A.length + i + 0 = m by omega] at this
  simpa [List.append_assoc] using this
end Pz
set_option maxHeartbeats 16000000 in
set_option maxRecDepth 100000 in
theorem rotate_any {B : Nat} {A : Option Addr} {N c : Nat} {P X Y Q : List Bn} {w : World} (h : Rs B A N c (P ++ (X ++ (Y ++ Q))) w w) (hN : N ≤ 1000000) (hX : 0 < X.length) (hY : 0 < Y.length) {a m b : Nat} (ha : P.length = a) (hm : a + X.length = m) (hb : m + Y.length = b) :
    Calls Tryz.prog 123 #[.slice A N c, .int .i64 (a : Int), .int .i64 (m : Int), .int .i64 (b : Int), .func (.func fn) #[] cap] w fun e w' => e = .returned (.tuple #[]) ∧ Rs B A N c (P ++ (Y ++ (X ++ Q))) w w' := by
  have H0 := Lib.hid h
  have R0 := Rot.start P X Y Q
  rw [ha, hm] at R0
  have RB := R0.bds
  rw [h.len] at RB
  have mN : (m : Int) ≤ 1000000 := by omega
  have bN : (b : Int) ≤ 1000000 := by omega
  have w1 : IntKind.i64.wrap ((m : Int) - (a : Int)) = (X.length : Int) := by rw [IntWalk.i64_in _ (by omega)]; omega
  have w2 : IntKind.i64.wrap ((b : Int) - (m : Int)) = (Y.length : Int) := by rw [IntWalk.i64_in _ (by omega)]; omega
  have TT : Hid (∀ Z : List Bn, Z = P ++ ((Y ++ X) ++ Q) → Z = P ++ (Y ++ (X ++ Q))) := Lib.hid fun Z e => by rw [e]; simp [List.append_assoc]
  have R1 := Lib.hid R0
  generalize P ++ (Y ++ (X ++ Q)) = G at *
  generalize Y ++ X = T at *
  generalize P ++ (X ++ (Y ++ Q)) = D at *
  generalize X.length = i0 at *
  generalize Y.length = j0 at *
  replace ha := Lib.hid ha
  replace hm := Lib.hid hm
  replace hb := Lib.hid hb
  clear R0 RB h
  have SWP : Hid (∀ (W : World) (R : List Bn), Rs B A N c R W W → ∀ a b n : Nat, a + n ≤ b → b + n ≤ N → Calls Tryz.prog 130 #[.slice A N c, .int .i64 (a : Int), .int .i64 (b : Int), .int .i64 (n : Int), .func (.func fn) #[] cap] W fun e w' => e = .returned (.tuple #[]) ∧ Rs B A N c (swr R a b n) W w') := Lib.hid fun W R h a b n h1 h2 => swaprange_any h hN a b n h1 h2
  have SELF : Hid (∀ (R : List Bn) (W : World), Rs B A N c R w W → Rs B A N c R W W) := Lib.hid fun R W h => ⟨h.own, h.len, Below.refl _ _⟩
  go_enter Tryz.func123, Tryz.ntmps123
  go_wp2
  go_loopw [10, 11] (fun ix jx wr => ∃ (i j : Nat) (R : List Bn), ix = .int .i64 i ∧ jx = .int .i64 j ∧ 0 < i ∧ 0 < j ∧ Hid (Rs B A N c R w wr) ∧ Hid (Rot P Q T m R i j)) (fun ix jx _ => (intOf ix).toNat + (intOf jx).toNat)
  case atStart => exact ⟨i0, j0, D, rfl, rfl, hX, hY, H0, R1⟩
  case round =>
    obtain ⟨i, j, R, rfl, rfl, hi, hj, HR, HT⟩ := hrel
    clear H0 R1 w1 w2
    obtain ⟨b1, b2⟩ := HT.out.bds
    rw [HR.out.len] at b2
    obtain ⟨mi, hmi⟩ : ∃ x, x = m - i := ⟨_, rfl⟩
    have wm : IntKind.i64.wrap ((m : Int) - (i : Int)) = (mi : Int) := by rw [IntWalk.i64_in _ (by omega)]; omega
    have HMI := Lib.hid hmi
    by_cases hij : i = j
    · subst hij
      have t1 : ((i : Int) != (i : Int)) = false := by simp
      have e := TT.out _ HT.out.eq
      have S := SWP.out wr R (SELF.out R wr HR.out) mi m i (by omega) (by omega)
      rw [hmi, e] at S
      rw [← hmi] at S
      replace S := Lib.hid S
      clear e hmi SWP TT HT
      go_wp2_with (go_at_call 130; with_reducible refine (S.out).mono ?_; rintro e w' ⟨rfl, hs⟩; replace HR := Lib.hid (HR.out.again hs); clear hs S)
      go_end0
      exact ⟨rfl, HR.out⟩
    · have t1 : ((i : Int) != (j : Int)) = true := bne_iff_ne.2 (by omega)
      by_cases hgt : j < i
      · have t2 : (i : Int) > (j : Int) := by omega
        obtain ⟨ij, hd⟩ : ∃ x, x = i - j := ⟨_, rfl⟩
        have wd : IntKind.i64.wrap ((i : Int) - (j : Int)) = (ij : Int) := by rw [IntWalk.i64_in _ (by omega)]; omega
        have S := SWP.out wr R (SELF.out R wr HR.out) mi m j (by omega) (by omega)
        have NT := HT.out.gt hgt
        rw [← hmi, ← hd] at NT
        generalize swr R mi m j = R2 at *
        replace S := Lib.hid S
        replace NT := Lib.hid NT
        have h0 : 0 < ij := by omega
        have hlt : ij < i := by omega
        replace hd := Lib.hid hd
        clear hmi SWP TT HT hij
        go_wp2_with (go_at_call 130; with_reducible refine (S.out).mono ?_; rintro e w' ⟨rfl, hs⟩; replace HR := Lib.hid (HR.out.again hs); clear hs S)
        go_roundw
        case rel => exact ⟨ij, j, R2, rfl, rfl, h0, hj, HR, NT⟩
        case measure => simp [intOf]; omega
      · have t2 : ¬ (i : Int) > (j : Int) := by omega
        obtain ⟨ij, hd⟩ : ∃ x, x = j - i := ⟨_, rfl⟩
        have wd : IntKind.i64.wrap ((j : Int) - (i : Int)) = (ij : Int) := by rw [IntWalk.i64_in _ (by omega)]; omega
        obtain ⟨mj, hmj⟩ : ∃ x, x = m + j := ⟨_, rfl⟩
        have we : IntKind.i64.wrap ((m : Int) + (j : Int)) = (mj : Int) := by rw [IntWalk.i64_in _ (by omega)]; omega
        obtain ⟨mk, hmk⟩ : ∃ x, x = m + j - i := ⟨_, rfl⟩
        have wf : IntKind.i64.wrap ((mj : Int) - (i : Int)) = (mk : Int) := by rw [IntWalk.i64_in _ (by omega)]; omega
        have S := SWP.out wr R (SELF.out R wr HR.out) mi mk i (by omega) (by omega)
        have NT := HT.out.lt (by omega)
        rw [← hmi, ← hd, ← hmk] at NT
        generalize swr R mi mk i = R2 at *
        replace S := Lib.hid S
        replace NT := Lib.hid NT
        have h0 : 0 < ij := by omega
        have hlt : ij < j := by omega
        replace hd := Lib.hid hd
        replace hmj := Lib.hid hmj
        replace hmk := Lib.hid hmk
        clear hmi SWP TT HT hij
        go_wp2_with (go_at_call 130; with_reducible refine (S.out).mono ?_; rintro e w' ⟨rfl, hs⟩; replace HR := Lib.hid (HR.out.again hs); clear hs S)
        go_roundw
        case rel => exact ⟨i, ij, R2, rfl, rfl, hi, h0, HR, NT⟩
        case measure => simp [intOf]; omega
end Go.Proofs.YtljaahemlcaffaaGreat
