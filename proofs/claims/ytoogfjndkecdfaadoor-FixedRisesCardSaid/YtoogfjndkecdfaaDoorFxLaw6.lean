/- The laws' walks: what a product and a quotient are, what rises, and ones and noughts. -/
import Derived.Test.YtoogfjndkecdfaaDoorFxLaw1
import Derived.Test.YtoogfjndkecdfaaDoorFxRef
namespace Go.Proofs.YtoogfjndkecdfaaDoor
open Go.RowKit

namespace Fx
theorem quo_mono {a a' b : Int} (hb : 0 < b) (h : a ≤ a') : fq a b ≤ fq a' b := by
  unfold fq
  rw [if_pos hb, if_pos hb]
  exact Int.ediv_le_ediv hb h
theorem clamp_mono {a b : Int} (h : a ≤ b) : clamp a ≤ clamp b := by
  unfold clamp
  split <;> (try split) <;> (try split) <;> (try split) <;> omega
theorem mul_mono {a b c : Int} (h : a ≤ b) (hc : 0 ≤ c) : mul a c ≤ mul b c := by
  unfold mul
  refine clamp_mono (quo_mono (by omega) ?_)
  have h0 : 0 ≤ clamp c := by unfold clamp; split <;> (try split) <;> omega
  exact Int.mul_le_mul_of_nonneg_right (clamp_mono h) h0
theorem add_one (n : Int) : add [n] = clamp n := by
  unfold add
  simp only [List.foldl_cons, List.foldl_nil, Int.zero_add]
  exact clamp_clamp n
theorem add_two (a c : Int) : add [a, c] = clamp (clamp a + clamp c) := by
  unfold add
  simp only [List.foldl_cons, List.foldl_nil, Int.zero_add, clamp_clamp]
theorem add_rises {a b c : Int} (h : a ≤ b) : add [a, c] ≤ add [b, c] := by
  rw [add_two, add_two]
  have := clamp_mono h
  exact clamp_mono (by omega)
theorem add_nought (n : Int) : add [n, 0] = clamp n := by
  rw [add_two, show clamp 0 = 0 by decide, Int.add_zero, clamp_clamp]
theorem add_none : add [] = 0 := rfl
theorem unit_mul (n : Int) : mul n 256 = clamp n := by
  unfold mul fq
  rw [if_pos (by omega), show clamp 256 = 256 by decide, Int.mul_ediv_cancel _ (by omega), clamp_clamp]
theorem unit_quo (n : Int) : quo n 256 = clamp n := by
  unfold quo fq
  rw [show clamp 256 = 256 by decide, if_pos (by omega), Int.mul_ediv_cancel _ (by omega), clamp_clamp]
theorem nought_mul (n : Int) : mul 0 n = 0 := by
  unfold mul fq
  rw [if_pos (by omega), show clamp 0 = 0 by decide, Int.zero_mul]
  decide
end Fx

set_option maxHeartbeats 2000000 in
set_option maxRecDepth 100000 in
theorem law_units (w : World) (hg : Good w) (n : Int) (h : -9223372036854775808 ≤ n ∧ n ≤ 9223372036854775807) :
    Calls Tryd.prog 12 #[.int .i64 n] w fun e w' => e = .returned (.bool true) ∧ Below w.heap.size w w' := by
  have D := Lib.hid (fun W => show Calls Tryd.prog 20 #[.int .i64 n, .int .i64 256] W fun e w' => (e = .returned (.tuple #[.int .i64 (Fx.clamp n), .int .i64 0]) ∧ Below W.heap.size W w') by have := div_any n 256 W h.1 h.2 (by omega) (by omega) (by omega); rwa [Fx.unit_quo] at this)
  have C := Lib.hid (fun W => clamp_any n W h.1 h.2)
  have M := Lib.hid (fun W => show Calls Tryd.prog 18 #[.int .i64 n, .int .i64 256] W fun e w' => (e = .returned (.int .i64 (Fx.clamp n)) ∧ Below W.heap.size W w') by have := mul_any n 256 W h.1 h.2 (by omega) (by omega); rwa [Fx.unit_mul] at this)
  have M0 := Lib.hid (fun W => show Calls Tryd.prog 18 #[.int .i64 0, .int .i64 n] W fun e w' => (e = .returned (.int .i64 0) ∧ Below W.heap.size W w') by have := mul_any 0 n W (by omega) (by omega) h.1 h.2; rwa [Fx.nought_mul] at this)
  have A1 : Hid (SaysAdd [n] (Fx.clamp n)) := Lib.hid (by have := says_add [n] (by simp) (fun x hx => by simp at hx; subst hx; exact h); rwa [Fx.add_one] at this)
  have A2 : Hid (SaysAdd [n, 0] (Fx.clamp n)) := Lib.hid (by have := says_add [n, 0] (by simp) (fun x hx => by simp at hx; rcases hx with rfl | rfl <;> omega); rwa [Fx.add_nought] at this)
  have A0 := Lib.hid (fun W => show Calls Tryd.prog 16 #[.slice none 0 0] W fun e w' => (e = .returned (.int .i64 0) ∧ W = w') from add_any none 0 [] W 0 (by decide) (fun x hx => by cases hx) (fun h => absurd h (by simp [ints])))
  generalize Fx.clamp n = c at *
  go_enter Tryd.func12, Tryd.ntmps12
  go_wp2_with fail
  refine (D.out _).mono ?_
  rintro e w1 ⟨rfl, b1⟩
  go_wp2_with fail
  refine (C.out _).mono ?_
  rintro e w' ⟨rfl, rfl⟩
  go_wp2_with fail
  refine (M.out _).mono ?_
  rintro e w2 ⟨rfl, h2⟩
  have b2 := b1.trans (h2.mono b1.size)
  clear b1 h2
  go_wp2_with fail
  refine (A1.out _).mono ?_
  rintro e w3 ⟨rfl, h3⟩
  have b3 := b2.trans (h3.mono b2.size)
  clear b2 h3
  go_wp2_with fail
  refine (A2.out _).mono ?_
  rintro e w4 ⟨rfl, h4⟩
  have b4 := b3.trans (h4.mono b3.size)
  clear b3 h4
  go_wp2_with fail
  refine (A0.out _).mono ?_
  rintro e w' ⟨rfl, rfl⟩
  go_wp2_with fail
  refine (M0.out _).mono ?_
  rintro e w5 ⟨rfl, h5⟩
  have b5 := b4.trans (h5.mono b4.size)
  clear b4 h5
  have G5 : Good w5 := hg.below b5 (Nat.le_refl _)
  go_wp2_with fail
  refine (awake_hid.out _ G5).mono ?_
  rintro e w6 ⟨rfl, b6⟩
  go_wp2
  go_ret
  exact ⟨rfl, b5.trans (b6.mono b5.size)⟩

/-- the walk, where a is not above b -/
theorem rises_facts {a b c : Int} (ha : -9223372036854775808 ≤ a ∧ a ≤ 9223372036854775807) (hb : -9223372036854775808 ≤ b ∧ b ≤ 9223372036854775807) (hc : -9223372036854775808 ≤ c ∧ c ≤ 9223372036854775807) (h : a ≤ b) :
    ∃ ca cb sa sb : Int, ca ≤ cb ∧ sa ≤ sb ∧ Hid (∀ W, Calls Tryd.prog 13 #[.int .i64 a] W fun e w' => e = .returned (.int .i64 ca) ∧ W = w') ∧ Hid (∀ W, Calls Tryd.prog 13 #[.int .i64 b] W fun e w' => e = .returned (.int .i64 cb) ∧ W = w') ∧
      Hid (SaysAdd [a, c] sa) ∧ Hid (SaysAdd [b, c] sb) ∧ (0 ≤ c → ∃ ma mb : Int, ma ≤ mb ∧ Hid (∀ W, Calls Tryd.prog 18 #[.int .i64 a, .int .i64 c] W fun e w' => e = .returned (.int .i64 ma) ∧ Below W.heap.size W w') ∧ Hid (∀ W, Calls Tryd.prog 18 #[.int .i64 b, .int .i64 c] W fun e w' => e = .returned (.int .i64 mb) ∧ Below W.heap.size W w')) :=
  ⟨_, _, _, _, Fx.clamp_mono h, Fx.add_rises h, Lib.hid (fun W => clamp_any a W ha.1 ha.2), Lib.hid (fun W => clamp_any b W hb.1 hb.2),
    Lib.hid (says_add [a, c] (by simp) (fun x hx => by simp at hx; rcases hx with rfl | rfl <;> omega)), Lib.hid (says_add [b, c] (by simp) (fun x hx => by simp at hx; rcases hx with rfl | rfl <;> omega)),
    fun h0 => ⟨_, _, Fx.mul_mono h h0, Lib.hid (fun W => mul_any a c W ha.1 ha.2 hc.1 hc.2), Lib.hid (fun W => mul_any b c W hb.1 hb.2 hc.1 hc.2)⟩⟩

set_option maxHeartbeats 4000000 in
set_option maxRecDepth 100000 in
theorem law_rises (w : World) (hg : Good w) (a : Int) (ha : -9223372036854775808 ≤ a ∧ a ≤ 9223372036854775807) (b : Int) (hb : -9223372036854775808 ≤ b ∧ b ≤ 9223372036854775807) (c : Int) (hc : -9223372036854775808 ≤ c ∧ c ≤ 9223372036854775807) :
    Calls Tryd.prog 11 #[.int .i64 a, .int .i64 b, .int .i64 c] w fun e w' => e = .returned (.bool true) ∧ Below w.heap.size w w' := by
  rcases (show (b < a ∧ 0 ≤ c) ∨ (b < a ∧ c < 0) ∨ (a ≤ b ∧ 0 ≤ c) ∨ (a ≤ b ∧ c < 0) by omega) with ⟨hab, hc0⟩ | ⟨hab, hc0⟩ | ⟨hab, hc0⟩ | ⟨hab, hc0⟩
  · obtain ⟨ca, cb, sa, sb, h1, h2, C1, C2, S1, S2, hM⟩ := rises_facts hb ha hc (show b ≤ a by omega)
    obtain ⟨ma, mb, h3, M1, M2⟩ := hM hc0
    go_enter Tryd.func11, Tryd.ntmps11
    go_wp2_with fail
    refine (C1.out _).mono ?_
    rintro e w' ⟨rfl, rfl⟩
    go_wp2_with fail
    refine (C2.out _).mono ?_
    rintro e w' ⟨rfl, rfl⟩
    go_wp2_with fail
    refine (S1.out _).mono ?_
    rintro e w1 ⟨rfl, b1⟩
    go_wp2_with fail
    refine (S2.out _).mono ?_
    rintro e w2 ⟨rfl, h2⟩
    have b2 := b1.trans (h2.mono b1.size)
    clear b1 h2
    go_wp2_with fail
    refine (M1.out _).mono ?_
    rintro e w3 ⟨rfl, h3⟩
    have b3 := b2.trans (h3.mono b2.size)
    clear b2 h3
    go_wp2_with fail
    refine (M2.out _).mono ?_
    rintro e w4 ⟨rfl, h4⟩
    have b4 := b3.trans (h4.mono b3.size)
    clear b3 h4
    have G : Good _ := hg.below b4 (Nat.le_refl _)
    go_wp2_with fail
    refine (awake_hid.out _ G).mono ?_
    rintro e w5 ⟨rfl, b5⟩
    go_wp2
    go_ret
    exact ⟨rfl, b4.trans (b5.mono b4.size)⟩
  · obtain ⟨ca, cb, sa, sb, h1, h2, C1, C2, S1, S2, hM⟩ := rises_facts hb ha hc (show b ≤ a by omega)
    clear hM
    go_enter Tryd.func11, Tryd.ntmps11
    go_wp2_with fail
    refine (C1.out _).mono ?_
    rintro e w' ⟨rfl, rfl⟩
    go_wp2_with fail
    refine (C2.out _).mono ?_
    rintro e w' ⟨rfl, rfl⟩
    go_wp2_with fail
    refine (S1.out _).mono ?_
    rintro e w1 ⟨rfl, b1⟩
    go_wp2_with fail
    refine (S2.out _).mono ?_
    rintro e w2 ⟨rfl, h2⟩
    have b2 := b1.trans (h2.mono b1.size)
    clear b1 h2
    have G : Good _ := hg.below b2 (Nat.le_refl _)
    go_wp2_with fail
    refine (awake_hid.out _ G).mono ?_
    rintro e w5 ⟨rfl, b5⟩
    go_wp2
    go_ret
    exact ⟨rfl, b2.trans (b5.mono b2.size)⟩
  · obtain ⟨ca, cb, sa, sb, h1, h2, C1, C2, S1, S2, hM⟩ := rises_facts ha hb hc (show a ≤ b by omega)
    obtain ⟨ma, mb, h3, M1, M2⟩ := hM hc0
    go_enter Tryd.func11, Tryd.ntmps11
    go_wp2_with fail
    refine (C1.out _).mono ?_
    rintro e w' ⟨rfl, rfl⟩
    go_wp2_with fail
    refine (C2.out _).mono ?_
    rintro e w' ⟨rfl, rfl⟩
    go_wp2_with fail
    refine (S1.out _).mono ?_
    rintro e w1 ⟨rfl, b1⟩
    go_wp2_with fail
    refine (S2.out _).mono ?_
    rintro e w2 ⟨rfl, h2⟩
    have b2 := b1.trans (h2.mono b1.size)
    clear b1 h2
    go_wp2_with fail
    refine (M1.out _).mono ?_
    rintro e w3 ⟨rfl, h3⟩
    have b3 := b2.trans (h3.mono b2.size)
    clear b2 h3
    go_wp2_with fail
    refine (M2.out _).mono ?_
    rintro e w4 ⟨rfl, h4⟩
    have b4 := b3.trans (h4.mono b3.size)
    clear b3 h4
    have G : Good _ := hg.below b4 (Nat.le_refl _)
    go_wp2_with fail
    refine (awake_hid.out _ G).mono ?_
    rintro e w5 ⟨rfl, b5⟩
    go_wp2
    go_ret
    exact ⟨rfl, b4.trans (b5.mono b4.size)⟩
  · obtain ⟨ca, cb, sa, sb, h1, h2, C1, C2, S1, S2, hM⟩ := rises_facts ha hb hc (show a ≤ b by omega)
    clear hM
    go_enter Tryd.func11, Tryd.ntmps11
    go_wp2_with fail
    refine (C1.out _).mono ?_
    rintro e w' ⟨rfl, rfl⟩
    go_wp2_with fail
    refine (C2.out _).mono ?_
    rintro e w' ⟨rfl, rfl⟩
    go_wp2_with fail
    refine (S1.out _).mono ?_
    rintro e w1 ⟨rfl, b1⟩
    go_wp2_with fail
    refine (S2.out _).mono ?_
    rintro e w2 ⟨rfl, h2⟩
    have b2 := b1.trans (h2.mono b1.size)
    clear b1 h2
    have G : Good _ := hg.below b2 (Nat.le_refl _)
    go_wp2_with fail
    refine (awake_hid.out _ G).mono ?_
    rintro e w5 ⟨rfl, b5⟩
    go_wp2
    go_ret
    exact ⟨rfl, b2.trans (b5.mono b2.size)⟩
end Go.Proofs.YtoogfjndkecdfaaDoor
