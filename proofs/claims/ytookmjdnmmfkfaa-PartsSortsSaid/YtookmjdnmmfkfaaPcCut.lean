/- Two sorted rows beside each other, cut by a search; one entity that wanders. Nothing of the program. -/
import Derived.Test.YtookmjdnmmfkfaaPcSw
namespace Go.Proofs.Ytookmjdnmmfkfaa
open Pz
set_option linter.unusedVariables false

namespace Pz
theorem srt_last {X1 : List Bn} {u : Bn} (h : Srt X1) (hu : X1[X1.length - 1]? = some u) : ∀ x ∈ X1, before u.id x.id = false := fun x hx => by
  rcases List.eq_nil_or_concat X1 with e | ⟨Z, z, e⟩
  · rw [e] at hx; cases hx
  · rw [List.concat_eq_append] at e
    subst e
    rw [List.length_append, List.length_singleton, Nat.add_sub_cancel, List.getElem?_append_right (Nat.le_refl _), Nat.sub_self] at hu
    simp only [List.getElem?_cons_zero, Option.some.injEq] at hu
    subst hu
    rcases List.mem_append.1 hx with hx | hx
    · exact (srt_app.1 h).2.2 x hx z (List.mem_singleton.2 rfl)
    · rw [List.mem_singleton.1 hx]
      exact before_irr _
theorem srt_first {X1 : List Bn} {u : Bn} (h : Srt X1) (hu : X1[0]? = some u) : ∀ x ∈ X1, before x.id u.id = false := fun x hx => by
  cases X1 with
  | nil => cases hx
  | cons y r =>
    simp only [List.getElem?_cons_zero, Option.some.injEq] at hu
    subst hu
    rcases List.mem_cons.1 hx with e | hx
    · rw [e]; exact before_irr _
    · exact (List.pairwise_cons.1 h).1 x hx
/-- what a search in two sorted rows tells -/
theorem cut {P X Y Q : List Bn} {a m b s e : Nat} (ha : P.length = a) (hm : a + X.length = m) (hb : m + Y.length = b) (hX : Srt X) (hY : Srt Y) (h1 : a ≤ s) (h2 : s ≤ m) (h3 : m ≤ e) (h4 : e ≤ b)
    (h5 : s = a ∨ e = b ∨ ∃ u v, (P ++ (X ++ (Y ++ Q)))[s - 1]? = some u ∧ (P ++ (X ++ (Y ++ Q)))[e]? = some v ∧ a < s ∧ before v.id u.id = false)
    (h6 : s = m ∨ e = m ∨ ∃ u v, (P ++ (X ++ (Y ++ Q)))[s]? = some u ∧ (P ++ (X ++ (Y ++ Q)))[e - 1]? = some v ∧ m < e ∧ before v.id u.id = true) :
    ∃ X1 X2 Y1 Y2, X = X1 ++ X2 ∧ Y = Y1 ++ Y2 ∧ a + X1.length = s ∧ m + Y1.length = e ∧ (∀ x ∈ X1, ∀ y ∈ Y2, before y.id x.id = false) ∧ (∀ x ∈ X2, ∀ y ∈ Y1, before y.id x.id = true) := by
  have l1 : (X.take (s - a)).length = s - a := by rw [List.length_take]; omega
  have l2 : (Y.take (e - m)).length = e - m := by rw [List.length_take]; omega
  have eX := List.take_append_drop (s - a) X
  have eY := List.take_append_drop (e - m) Y
  refine ⟨X.take (s - a), X.drop (s - a), Y.take (e - m), Y.drop (e - m), eX.symm, eY.symm, by omega, by omega, ?_, ?_⟩
  · rcases h5 with h5 | h5 | ⟨u, v, hu, hv, hs, hb'⟩
    · intro x hx
      rw [h5, Nat.sub_self, List.take_zero] at hx
      cases hx
    · intro x _ y hy
      rw [List.drop_eq_nil_of_le (by omega)] at hy
      cases hy
    · intro x hx y hy
      rw [List.getElem?_append_right (by omega), List.getElem?_append_left (by omega)] at hu
      have hu' : (X.take (s - a))[(X.take (s - a)).length - 1]? = some u := by
        rw [l1, List.getElem?_take, if_pos (by omega), ← hu]
        congr 1
        omega
      rw [← eX] at hX
      have q1 := srt_last (srt_app.1 hX).1 hu' x hx
      have hel : e - m < Y.length := by
        rcases Nat.lt_or_ge (e - m) Y.length with h | h
        · exact h
        · rw [List.drop_eq_nil_of_le h] at hy
          cases hy
      rw [List.getElem?_append_right (by omega), List.getElem?_append_right (by omega), List.getElem?_append_left (by omega)] at hv
      have hv' : (Y.drop (e - m))[0]? = some v := by
        rw [List.getElem?_drop, ← hv]
        congr 1
        omega
      rw [← eY] at hY
      have q2 := srt_first (srt_app.1 hY).2.1 hv' y hy
      exact le_trans' (le_trans' q1 hb') q2
  · rcases h6 with h6 | h6 | ⟨u, v, hu, hv, hs, hb'⟩
    · intro x hx
      rw [List.drop_eq_nil_of_le (by omega)] at hx
      cases hx
    · intro x _ y hy
      rw [h6, Nat.sub_self, List.take_zero] at hy
      cases hy
    · intro x hx y hy
      have hsl : s - a < X.length := by
        rcases Nat.lt_or_ge (s - a) X.length with h | h
        · exact h
        · rw [List.drop_eq_nil_of_le h] at hx
          cases hx
      rw [List.getElem?_append_right (by omega), List.getElem?_append_left (by omega)] at hu
      have hu' : (X.drop (s - a))[0]? = some u := by
        rw [List.getElem?_drop, ← hu]
        congr 1
        omega
      rw [← eX] at hX
      have q1 := srt_first (srt_app.1 hX).2.1 hu' x hx
      rw [List.getElem?_append_right (by omega), List.getElem?_append_right (by omega), List.getElem?_append_left (by omega)] at hv
      have hv' : (Y.take (e - m))[(Y.take (e - m)).length - 1]? = some v := by
        rw [l2, List.getElem?_take, if_pos (by omega), ← hv]
        congr 1
        omega
      rw [← eY] at hY
      have q2 := srt_last (srt_app.1 hY).1 hv' y hy
      exact lt_le (le_lt q2 hb') q1
/-- one entity wanders along a row -/
def Up (P T L R : List Bn) (x : Bn) (k : Nat) : Prop := ∃ U V : List Bn, R = P ++ (U ++ (x :: (V ++ T))) ∧ U ++ V = L ∧ P.length + U.length = k
theorem Up.first (P T L : List Bn) (x : Bn) : Up P T L (P ++ (x :: (L ++ T))) x P.length := ⟨[], L, by simp, rfl, by simp⟩
theorem Up.last (P T L : List Bn) (x : Bn) : Up P T L (P ++ (L ++ (x :: T))) x (P.length + L.length) := ⟨L, [], by simp, by simp, rfl⟩
theorem Up.right {P T L R : List Bn} {x : Bn} {k : Nat} (h : Up P T L R x k) (hk : k < P.length + L.length) : ∃ y, R[k]? = some x ∧ R[k + 1]? = some y ∧ Up P T L ((R.set k y).set (k + 1) x) x (k + 1) := by
  obtain ⟨U, V, rfl, rfl, h1⟩ := h
  cases V with
  | nil => simp only [List.length_append, List.length_nil] at hk; omega
  | cons y V =>
    have e1 : (P ++ (U ++ (x :: (y :: V ++ T))))[k]? = some x := by
      rw [List.getElem?_append_right (by omega), List.getElem?_append_right (by omega), show k - P.length - U.length = 0 by omega]
      rfl
    have e2 : (P ++ (U ++ (x :: (y :: V ++ T))))[k + 1]? = some y := by
      rw [List.getElem?_append_right (by omega), List.getElem?_append_right (by omega), show k + 1 - P.length - U.length = 1 by omega]
      rfl
    refine ⟨y, e1, e2, U ++ [y], V, ?_, by simp, by rw [List.length_append, List.length_singleton]; omega⟩
    rw [← sw_is e1 e2]
    have := sw_parts (P ++ U) [] (V ++ T) x y
    simp only [List.length_append, List.length_nil, Nat.add_zero, List.nil_append, List.append_assoc] at this
    rw [h1] at this
    simpa using this
theorem Up.left {P T L R : List Bn} {x : Bn} {k : Nat} (h : Up P T L R x (k + 1)) (hk : P.length ≤ k) : ∃ y, R[k + 1]? = some x ∧ R[k]? = some y ∧ Up P T L ((R.set (k + 1) y).set k x) x k := by
  obtain ⟨U, V, rfl, rfl, h1⟩ := h
  rcases List.eq_nil_or_concat U with e | ⟨Z, y, e⟩
  · subst e
    simp at h1
    omega
  · rw [List.concat_eq_append] at e
    subst e
    simp only [List.length_append, List.length_singleton] at h1
    have e1 : (P ++ ((Z ++ [y]) ++ (x :: (V ++ T))))[k + 1]? = some x := by
      rw [List.getElem?_append_right (by omega), List.getElem?_append_right (by simp; omega), show k + 1 - P.length - (Z ++ [y]).length = 0 by simp; omega]
      rfl
    have e2 : (P ++ ((Z ++ [y]) ++ (x :: (V ++ T))))[k]? = some y := by
      rw [List.getElem?_append_right (by omega), List.append_assoc, List.getElem?_append_right (by omega), show k - P.length - Z.length = 0 by omega]
      rfl
    refine ⟨y, e1, e2, Z, y :: V, ?_, by simp, by omega⟩
    have e0 := sw_is e2 e1
    rw [List.set_comm _ _ (by omega)] at e0
    rw [← e0]
    have := sw_parts (P ++ Z) [] (V ++ T) y x
    simp only [List.length_append, List.length_nil, Nat.add_zero, List.nil_append, List.append_assoc] at this
    rw [show P.length + Z.length = k by omega] at this
    simpa using this
theorem Up.at_last {P T L R : List Bn} {x : Bn} {k : Nat} (h : Up P T L R x k) (hk : ¬ k < P.length + L.length) : R = P ++ (L ++ (x :: T)) := by
  obtain ⟨U, V, rfl, rfl, h1⟩ := h
  rw [List.length_append] at hk
  have : V = [] := List.length_eq_zero_iff.1 (by omega)
  subst this
  simp
theorem Up.at_first {P T L R : List Bn} {x : Bn} (h : Up P T L R x P.length) : R = P ++ (x :: (L ++ T)) := by
  obtain ⟨U, V, rfl, rfl, h1⟩ := h
  have : U = [] := List.length_eq_zero_iff.1 (by omega)
  subst this
  simp
end Pz
end Go.Proofs.Ytookmjdnmmfkfaa
