/- Chapter 3's rectangles, as integers: what follows. -/
import Derived.Test.YteagndjoppnbgaaRcPure
namespace Go.Proofs.Yteagndjoppnbgaa
namespace Rc
theorem dist_sym (a b : Int) : dist b a = dist a b := by unfold dist; omega
theorem dist_bd (a b : Int) : 0 ≤ dist a b ∧ dist a b ≤ 2147483648 := by
  have ha := clamp_bd a
  have hb := clamp_bd b
  unfold dist
  generalize clamp a = x at *
  generalize clamp b = y at *
  omega
theorem dist_tri (a b c : Int) : dist a c ≤ dist a b + dist b c := by
  unfold dist
  generalize clamp a = x at *
  generalize clamp b = y at *
  generalize clamp c = z at *
  omega
theorem far_sym (x y u v : Int) : far u v x y = far x y u v := by unfold far; rw [dist_sym x u, dist_sym y v]
theorem far_bd (x y u v : Int) : 0 ≤ far x y u v ∧ far x y u v ≤ 2147483648 := by
  have h1 := dist_bd x u
  have h2 := dist_bd y v
  unfold far
  generalize dist x u = a at *
  generalize dist y v = b at *
  omega
theorem far_tri (x y u v p q : Int) : far x y p q ≤ far x y u v + far u v p q := by
  have h1 := dist_tri x u p
  have h2 := dist_tri y v q
  unfold far
  generalize dist x p = a at *
  generalize dist x u = b at *
  generalize dist u p = c at *
  generalize dist y q = d at *
  generalize dist y v = e at *
  generalize dist v q = f at *
  omega
theorem out_bd (n lo hi : Int) (h1 : -1073741824 ≤ lo ∧ lo ≤ 1073741824) (h2 : -1073741824 ≤ hi ∧ hi ≤ 1073741824) : 0 ≤ out n lo hi ∧ out n lo hi ≤ 4294967296 := by
  have hn := clamp_bd n
  unfold out
  generalize clamp n = x at *
  omega
theorem out_step (n m lo hi : Int) (h : lo < hi) : out n lo hi - out m lo hi ≤ dist n m := by
  unfold out dist
  generalize clamp n = x at *
  generalize clamp m = y at *
  omega
theorem gap_bd (a b c d x y : Int) : -1 ≤ gap a b c d x y ∧ gap a b c d x y ≤ 4294967296 := by
  have h1 := out_bd x (clamp a) (clamp c) (clamp_bd a) (clamp_bd c)
  have h2 := out_bd y (clamp b) (clamp d) (clamp_bd b) (clamp_bd d)
  unfold gap
  generalize out x (clamp a) (clamp c) = p at *
  generalize out y (clamp b) (clamp d) = q at *
  split <;> omega
theorem gap_step (a b c d x y u v : Int) : (gap a b c d x y = -1 ∧ gap a b c d u v = -1) ∨ (0 ≤ gap a b c d x y ∧ 0 ≤ gap a b c d u v ∧ gap a b c d x y - gap a b c d u v ≤ far x y u v ∧ gap a b c d u v - gap a b c d x y ≤ far x y u v) := by
  unfold gap
  by_cases h : None a b c d
  · rw [if_pos h, if_pos h]; exact .inl ⟨rfl, rfl⟩
  · rw [if_neg h, if_neg h]
    unfold None at h
    have o1 := (out_bd x (clamp a) (clamp c) (clamp_bd a) (clamp_bd c)).1
    have o2 := (out_bd u (clamp a) (clamp c) (clamp_bd a) (clamp_bd c)).1
    have s1 := out_step x u (clamp a) (clamp c) (by omega)
    have s2 := out_step u x (clamp a) (clamp c) (by omega)
    have s3 := out_step y v (clamp b) (clamp d) (by omega)
    have s4 := out_step v y (clamp b) (clamp d) (by omega)
    rw [dist_sym x u] at s2
    rw [dist_sym y v] at s4
    unfold far
    clear h
    generalize out x (clamp a) (clamp c) = p at *
    generalize out u (clamp a) (clamp c) = q at *
    generalize out y (clamp b) (clamp d) = r at *
    generalize out v (clamp b) (clamp d) = s at *
    generalize dist x u = m at *
    generalize dist y v = n at *
    exact .inr ⟨by omega, by omega, by omega, by omega⟩
/-- a point is near just where what is grown by as much has it -/
theorem near_has (a b c d x y e : Int) (ha : -268435456 < a ∧ a < 268435456) (hb : -268435456 < b ∧ b < 268435456) (hc : -268435456 < c ∧ c < 268435456) (hd : -268435456 < d ∧ d < 268435456) (he : 0 ≤ e ∧ e < 268435456) :
    (0 ≤ gap a b c d x y ∧ gap a b c d x y ≤ e) ↔ gap (grown a b c d e).a (grown a b c d e).b (grown a b c d e).c (grown a b c d e).d x y = 0 := by
  rw [gap_has]
  have ca : clamp a = a := clamp_in (by omega) (by omega)
  have cb : clamp b = b := clamp_in (by omega) (by omega)
  have cc : clamp c = c := clamp_in (by omega) (by omega)
  have cd : clamp d = d := clamp_in (by omega) (by omega)
  have ce : by_ e = e := by unfold by_; rw [clamp_in (by omega) (by omega)]; omega
  by_cases h : None a b c d
  · have h1 : gap a b c d x y = -1 := by unfold gap; rw [if_pos h]
    have h2 : grown a b c d e = ⟨0, 0, 0, 0⟩ := by unfold grown; rw [if_pos h]
    rw [h1, h2]
    simp only
    omega
  · have h2 : grown a b c d e = ⟨a - e, b - e, c + e, d + e⟩ := by
      unfold grown
      rw [if_neg h, ca, cb, cc, cd, ce, clamp_in (by omega) (by omega), clamp_in (by omega) (by omega), clamp_in (by omega) (by omega), clamp_in (by omega) (by omega)]
    rw [h2]
    simp only
    rw [clamp_in (n := a - e) (by omega) (by omega), clamp_in (n := b - e) (by omega) (by omega), clamp_in (n := c + e) (by omega) (by omega), clamp_in (n := d + e) (by omega) (by omega)]
    unfold gap
    rw [if_neg h]
    unfold None at h
    rw [ca, cb, cc, cd] at *
    unfold out
    clear ca cb cc cd ce h2
    generalize clamp x = p at *
    generalize clamp y = q at *
    omega
end Rc
end Go.Proofs.Yteagndjoppnbgaa
