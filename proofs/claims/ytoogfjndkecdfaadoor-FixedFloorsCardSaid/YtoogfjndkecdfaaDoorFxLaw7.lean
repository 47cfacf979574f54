/- The law's walk: products and quotients are the greatest whole numbers that are not above the true ones. -/
import Derived.Test.YtoogfjndkecdfaaDoorFxLaw1
import Derived.Test.YtoogfjndkecdfaaDoorFxRef
namespace Go.Proofs.YtoogfjndkecdfaaDoor
open Go.RowKit

namespace Fx
/-- a quotient by a number above 0 -/
theorem fq_floor {n d : Int} (h : 0 < d) : d * fq n d ≤ n ∧ n < d * (fq n d + 1) := by
  have h1 := (le_fq_pos (n := n) (m := fq n d) h).1 (Int.le_refl _)
  refine ⟨h1, ?_⟩
  rcases Int.lt_or_le n (d * (fq n d + 1)) with h2 | h2
  · exact h2
  · have := (le_fq_pos (n := n) (m := fq n d + 1) h).2 h2
    omega
theorem clamp_inside {n : Int} (h0 : -1073741824 < clamp n) (h1 : clamp n < 1073741824) : clamp n = n := by
  unfold clamp at h0 h1 ⊢
  split
  · rename_i h; rw [if_pos h] at h1; omega
  · rename_i h
    rw [if_neg h] at h0 h1
    split
    · rename_i h'; rw [if_pos h'] at h0; omega
    · rfl
theorem mul_floor {a b : Int} (h0 : -1073741824 < mul a b) (h1 : mul a b < 1073741824) : 256 * mul a b ≤ clamp a * clamp b ∧ clamp a * clamp b < 256 * (mul a b + 1) := by
  have e : mul a b = fq (clamp a * clamp b) 256 := clamp_inside h0 h1
  rw [e]
  exact fq_floor (by omega)
theorem quo_floor {a b : Int} (hb : 0 < clamp b) (h0 : -1073741824 < quo a b) (h1 : quo a b < 1073741824) : clamp b * quo a b ≤ 256 * clamp a ∧ 256 * clamp a < clamp b * (quo a b + 1) := by
  have e : quo a b = fq (clamp a * 256) (clamp b) := clamp_inside h0 h1
  rw [e, Int.mul_comm 256]
  exact fq_floor hb
theorem quo_floor_neg {a b : Int} (hb : clamp b < 0) (h0 : -1073741824 < quo a b) (h1 : quo a b < 1073741824) : (-clamp b) * quo a b ≤ 256 * (-clamp a) ∧ 256 * (-clamp a) < (-clamp b) * (quo a b + 1) := by
  have e : quo a b = fq (clamp a * 256) (clamp b) := clamp_inside h0 h1
  have e2 : fq (clamp a * 256) (clamp b) = fq (-(clamp a * 256)) (-clamp b) := by
    unfold fq
    rw [if_neg (by omega), if_pos (by omega)]
  rw [e, e2, show 256 * (-clamp a) = -(clamp a * 256) by omega]
  exact fq_floor (by omega)
theorem quo_bd (a b : Int) : -1073741824 ≤ quo a b ∧ quo a b ≤ 1073741824 := clamp_bd _
theorem mul_bd' (a b : Int) : -1073741824 ≤ mul a b ∧ mul a b ≤ 1073741824 := clamp_bd _
end Fx

theorem clamp_zero {b : Int} (h : b = 0) : Fx.clamp b = 0 := by subst h; decide

set_option maxHeartbeats 4000000 in
set_option maxRecDepth 100000 in
theorem law_floors (w : World) (hg : Good w) (a : Int) (ha : -9223372036854775808 ≤ a ∧ a ≤ 9223372036854775807) (b : Int) (hb : -9223372036854775808 ≤ b ∧ b ≤ 9223372036854775807) :
    Calls Tryd.prog 10 #[.int .i64 a, .int .i64 b] w fun e w' => e = .returned (.bool true) ∧ Below w.heap.size w w' := by
  obtain ⟨x0, x1⟩ := clamp_bd a
  obtain ⟨y0, y1⟩ := clamp_bd b
  obtain ⟨q0, q1⟩ := Fx.mul_bd' a b
  obtain ⟨d0, d1⟩ := Fx.quo_bd a b
  obtain ⟨p0, p1⟩ := Fx.mul_bd a b
  have P := Fx.mul_floor (a := a) (b := b)
  have Qp := Fx.quo_floor (a := a) (b := b)
  have Qn := Fx.quo_floor_neg (a := a) (b := b)
  have CX := Lib.hid (fun W => clamp_any a W ha.1 ha.2)
  have CY := Lib.hid (fun W => clamp_any b W hb.1 hb.2)
  have M := Lib.hid (fun W => mul_any a b W ha.1 ha.2 hb.1 hb.2)
  have D0 := Lib.hid (fun W (h : b = 0) => show Calls Tryd.prog 20 #[.int .i64 a, .int .i64 b] W fun e w' => (e = .returned (.tuple #[.int .i64 0, .int .i64 11]) ∧ Below W.heap.size W w') by rw [h]; exact div_zero a W)
  have D1 := Lib.hid (fun W (h : b ≠ 0) => div_any a b W ha.1 ha.2 hb.1 hb.2 h)
  have hz : b ≠ 0 → Fx.clamp b ≠ 0 := clamp_ne
  have hz0 : b = 0 → Fx.clamp b = 0 := clamp_zero
  generalize Fx.clamp a = x at *
  generalize Fx.clamp b = y at *
  generalize Fx.mul a b = q at *
  generalize Fx.quo a b = d at *
  have yd0 := Fx.prod_bd y d 1073741824 1073741824 (by omega) (by omega)
  have yd1 := Fx.prod_bd y (d + 1) 1073741824 1073741825 (by omega) (by omega)
  rcases (show y = 0 ∨ 0 < y ∨ y < 0 by omega) with hy | hy | hy
  · subst hy
    obtain rfl : b = 0 := Classical.byContradiction fun h => hz h rfl
    have DV := Lib.hid (fun W => D0.out W rfl)
    rw [Int.mul_zero] at P p0 p1
    clear Qp Qn D0 D1 hz hz0 yd0 yd1 d0 d1
    rcases (show (-1073741824 < q ∧ q < 1073741824 ∧ decide (0 < 256 * q) = false ∧ decide (256 * (q + 1) ≤ 0) = false) ∨ (-1073741824 < q ∧ 1073741824 ≤ q) ∨ q ≤ -1073741824 by
        by_cases g : -1073741824 < q ∧ q < 1073741824
        · obtain ⟨g1, g2⟩ := g
          obtain ⟨f1, f2⟩ := P g1 g2
          exact .inl ⟨g1, g2, by simp; omega, by simp; omega⟩
        · omega) with ⟨g1, g2, t1, t2⟩ | ⟨g1, g2⟩ | g1
    all_goals
      clear P
      go_enter Tryd.func10, Tryd.ntmps10
      go_wp2_with fail
      refine (CX.out _).mono ?_
      rintro e w' ⟨rfl, rfl⟩
      go_wp2_with fail
      refine (CY.out _).mono ?_
      rintro e w' ⟨rfl, rfl⟩
      go_wp2_with fail
      refine (M.out _).mono ?_
      rintro e w1 ⟨rfl, b1⟩
      go_wp2_with fail
      refine (DV.out _).mono ?_
      rintro e w2 ⟨rfl, h2⟩
      have b2 := b1.trans (h2.mono b1.size)
      clear b1 h2
      have G : Good w2 := hg.below b2 (Nat.le_refl _)
      go_wp2_with fail
      refine (awake_hid.out _ G).mono ?_
      rintro e w3 ⟨rfl, b3⟩
      go_wp2
      go_ret
      exact ⟨rfl, b2.trans (b3.mono b2.size)⟩
  · have hb0 : b ≠ 0 := fun h => by have := hz0 h; omega
    have DV := Lib.hid (fun W => D1.out W hb0)
    have hyz : (y == 0) = false := by simp; omega
    have s0 : -1152921504606846976 ≤ y * d := by omega
    have s1 : y * d ≤ 1152921504606846976 := by omega
    have s2 : -1152921505680588800 ≤ y * (d + 1) := by omega
    have s3 : y * (d + 1) ≤ 1152921505680588800 := by omega
    clear Qn D0 D1 hz hz0 yd0 yd1
    rcases (show (-1073741824 < d ∧ d < 1073741824 ∧ decide (y * d ≤ 256 * x) = true ∧ decide (256 * x < y * (d + 1)) = true) ∨ (-1073741824 < d ∧ 1073741824 ≤ d) ∨ d ≤ -1073741824 by
      by_cases g : -1073741824 < d ∧ d < 1073741824
      · obtain ⟨g1, g2⟩ := g
        obtain ⟨f1, f2⟩ := Qp hy g1 g2
        exact .inl ⟨g1, g2, by simp; omega, by simp; omega⟩
      · omega) with ⟨k1, k2, t3, t4⟩ | ⟨k1, k2⟩ | k1
    all_goals
      clear Qp
      rcases (show (-1073741824 < q ∧ q < 1073741824 ∧ decide (x * y < 256 * q) = false ∧ decide (256 * (q + 1) ≤ x * y) = false) ∨ (-1073741824 < q ∧ 1073741824 ≤ q) ∨ q ≤ -1073741824 by
          by_cases g : -1073741824 < q ∧ q < 1073741824
          · obtain ⟨g1, g2⟩ := g
            obtain ⟨f1, f2⟩ := P g1 g2
            exact .inl ⟨g1, g2, by simp; omega, by simp; omega⟩
          · omega) with ⟨g1, g2, t1, t2⟩ | ⟨g1, g2⟩ | g1
      all_goals
        clear P
        go_enter Tryd.func10, Tryd.ntmps10
        go_wp2_with fail
        refine (CX.out _).mono ?_
        rintro e w' ⟨rfl, rfl⟩
        go_wp2_with fail
        refine (CY.out _).mono ?_
        rintro e w' ⟨rfl, rfl⟩
        go_wp2_with fail
        refine (M.out _).mono ?_
        rintro e w1 ⟨rfl, b1⟩
        go_wp2_with fail
        refine (DV.out _).mono ?_
        rintro e w2 ⟨rfl, h2⟩
        have b2 := b1.trans (h2.mono b1.size)
        clear b1 h2
        have G : Good w2 := hg.below b2 (Nat.le_refl _)
        go_wp2_with fail
        refine (awake_hid.out _ G).mono ?_
        rintro e w3 ⟨rfl, b3⟩
        go_wp2
        go_ret
        exact ⟨rfl, b2.trans (b3.mono b2.size)⟩
  · have hb0 : b ≠ 0 := fun h => by have := hz0 h; omega
    have DV := Lib.hid (fun W => D1.out W hb0)
    obtain ⟨z, hyz⟩ : ∃ z, y = -z := ⟨-y, by omega⟩
    obtain ⟨v, hxv⟩ : ∃ v, x = -v := ⟨-x, by omega⟩
    subst hyz
    subst hxv
    have hzz : (z == 0) = false := by simp; omega
    have hzn : (-z == 0) = false := by simp; omega
    have yd2 := Fx.prod_bd z d 1073741824 1073741824 (by omega) (by omega)
    have yd3 := Fx.prod_bd z (d + 1) 1073741824 1073741825 (by omega) (by omega)
    have s0 : -1152921504606846976 ≤ z * d := by omega
    have s1 : z * d ≤ 1152921504606846976 := by omega
    have s2 : -1152921505680588800 ≤ z * (d + 1) := by omega
    have s3 : z * (d + 1) ≤ 1152921505680588800 := by omega
    rw [Int.neg_neg, Int.neg_neg] at Qn
    clear Qp D0 D1 hz hz0 yd0 yd1 yd2 yd3
    rcases (show (-1073741824 < d ∧ d < 1073741824 ∧ decide (z * d ≤ 256 * v) = true ∧ decide (256 * v < z * (d + 1)) = true) ∨ (-1073741824 < d ∧ 1073741824 ≤ d) ∨ d ≤ -1073741824 by
      by_cases g : -1073741824 < d ∧ d < 1073741824
      · obtain ⟨g1, g2⟩ := g
        obtain ⟨f1, f2⟩ := Qn hy g1 g2
        exact .inl ⟨g1, g2, by simp; omega, by simp; omega⟩
      · omega) with ⟨k1, k2, t3, t4⟩ | ⟨k1, k2⟩ | k1
    all_goals
      clear Qn
      rcases (show (-1073741824 < q ∧ q < 1073741824 ∧ decide (-v * -z < 256 * q) = false ∧ decide (256 * (q + 1) ≤ -v * -z) = false) ∨ (-1073741824 < q ∧ 1073741824 ≤ q) ∨ q ≤ -1073741824 by
          by_cases g : -1073741824 < q ∧ q < 1073741824
          · obtain ⟨g1, g2⟩ := g
            obtain ⟨f1, f2⟩ := P g1 g2
            exact .inl ⟨g1, g2, by simp; omega, by simp; omega⟩
          · omega) with ⟨g1, g2, t1, t2⟩ | ⟨g1, g2⟩ | g1
      all_goals
        clear P
        go_enter Tryd.func10, Tryd.ntmps10
        go_wp2_with fail
        refine (CX.out _).mono ?_
        rintro e w' ⟨rfl, rfl⟩
        go_wp2_with fail
        refine (CY.out _).mono ?_
        rintro e w' ⟨rfl, rfl⟩
        go_wp2_with fail
        refine (M.out _).mono ?_
        rintro e w1 ⟨rfl, b1⟩
        go_wp2_with fail
        refine (DV.out _).mono ?_
        rintro e w2 ⟨rfl, h2⟩
        have b2 := b1.trans (h2.mono b1.size)
        clear b1 h2
        have G : Good w2 := hg.below b2 (Nat.le_refl _)
        go_wp2_with fail
        refine (awake_hid.out _ G).mono ?_
        rintro e w3 ⟨rfl, b3⟩
        go_wp2
        go_ret
        exact ⟨rfl, b2.trans (b3.mono b2.size)⟩
end Go.Proofs.YtoogfjndkecdfaaDoor
