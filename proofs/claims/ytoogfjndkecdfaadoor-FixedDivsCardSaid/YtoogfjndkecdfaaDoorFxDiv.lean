/- The document's Div, by its search between two numbers. -/
import Derived.Test.YtoogfjndkecdfaaDoorFxRef
namespace Go.Proofs.YtoogfjndkecdfaaDoor
open Go.RowKit

/-- where the search begins: B -/
def Begins (d : Int) (B : Int) : Prop := ((d = 1 ∨ d = -1) ∧ B = 549755813888) ∨ (((1 < d ∧ d ≤ 1048576) ∨ (d < -1 ∧ -1048576 ≤ d)) ∧ B = 274877906944) ∨ ((1048576 < d ∨ d < -1048576) ∧ B = 524288)
theorem begins_fq {n d B : Int} (hB : Begins d B) (n0 : -274877906944 ≤ n) (n1 : n ≤ 274877906944) : -B ≤ Fx.fq n d ∧ Fx.fq n d < B := by
  have hd : d < 0 ∨ 0 < d := by unfold Begins at hB; omega
  rcases hd with hd | hd
  · have h1 := (Fx.le_fq_neg (n := n) (m := -B) hd)
    have h2 := (Fx.le_fq_neg (n := n) (m := B) hd)
    have e : d * B ≤ -549755813888 ∧ d * -B ≥ 549755813888 := by
      rcases hB with ⟨_, rfl⟩ | ⟨_, rfl⟩ | ⟨_, rfl⟩ <;> omega
    constructor
    · rw [h1]; omega
    · rcases Int.lt_or_le (Fx.fq n d) B with h | h
      · exact h
      · rw [h2] at h; omega
  · have h1 := (Fx.le_fq_pos (n := n) (m := -B) hd)
    have h2 := (Fx.le_fq_pos (n := n) (m := B) hd)
    have e : d * B ≥ 549755813888 ∧ d * -B ≤ -549755813888 := by
      rcases hB with ⟨_, rfl⟩ | ⟨_, rfl⟩ | ⟨_, rfl⟩ <;> omega
    constructor
    · rw [h1]; omega
    · rcases Int.lt_or_le (Fx.fq n d) B with h | h
      · exact h
      · rw [h2] at h; omega
theorem begins_prod {d B m : Int} (hB : Begins d B) (h0 : -1073741824 ≤ d) (h1 : d ≤ 1073741824) (m0 : -B ≤ m) (m1 : m ≤ B) : -9223372036854775808 ≤ d * m ∧ d * m ≤ 9223372036854775807 := by
  rcases hB with ⟨h, rfl⟩ | ⟨h, rfl⟩ | ⟨h, rfl⟩
  · have := Fx.prod_bd d m 1 549755813888 (by omega) (by omega)
    omega
  · have := Fx.prod_bd d m 1048576 274877906944 (by omega) (by omega)
    omega
  · have := Fx.prod_bd d m 1073741824 524288 (by omega) (by omega)
    omega

set_option maxHeartbeats 1000000 in
set_option maxRecDepth 100000 in
theorem rdiv_zero (a : Int) (w : World) (ha0 : -9223372036854775808 ≤ a) (ha1 : a ≤ 9223372036854775807) :
    Calls Tryd.prog 21 #[.int .i64 a, .int .i64 0] w fun e w' => e = .returned (.tuple #[.int .i64 0, .int .i64 11]) ∧ w = w' := by
  obtain ⟨c0, c1⟩ := clamp_bd a
  have z : Fx.clamp 0 = 0 := by decide
  go_enter Tryd.func21, Tryd.ntmps21
  go_wp2_with (go_at_call 14; refine (rclamp_any _ _ (by omega) (by omega)).mono ?_; rintro e w' ⟨rfl, rfl⟩)
  go_ret2
  exact ⟨rfl, rfl⟩

set_option maxHeartbeats 4000000 in
set_option maxRecDepth 100000 in
theorem rdiv_any (a b : Int) (w : World) (ha0 : -9223372036854775808 ≤ a) (ha1 : a ≤ 9223372036854775807) (hb0 : -9223372036854775808 ≤ b) (hb1 : b ≤ 9223372036854775807) (hb : b ≠ 0) :
    Calls Tryd.prog 21 #[.int .i64 a, .int .i64 b] w fun e w' => e = .returned (.tuple #[.int .i64 (Fx.quo a b), .int .i64 0]) ∧ w = w' := by
  obtain ⟨c0, c1⟩ := clamp_bd a
  obtain ⟨n, hn⟩ : ∃ n, n = 256 * Fx.clamp a := ⟨_, rfl⟩
  obtain ⟨d, hd⟩ : ∃ d, d = Fx.clamp b := ⟨_, rfl⟩
  have d0 : d ≠ 0 := by rw [hd]; exact clamp_ne hb
  obtain ⟨d1, d2⟩ := clamp_bd b
  rw [← hd] at d1 d2
  have Q := Lib.hid (show Fx.quo a b = Fx.clamp (Fx.fq n d) by rw [hn, hd, Int.mul_comm]; rfl)
  obtain ⟨F, hF⟩ : ∃ F, F = Fx.fq n d := ⟨_, rfl⟩
  rw [← hF] at Q
  have n0 : -274877906944 ≤ n := by omega
  have n1 : n ≤ 274877906944 := by omega
  have HF := Lib.hid hF
  have C := Lib.hid (fun W => show Calls Tryd.prog 14 #[.int .i64 a] W fun e w' => (e = .returned (.int .i64 (Fx.clamp a)) ∧ W = w') from rclamp_any a W ha0 ha1)
  have D := Lib.hid (fun W => show Calls Tryd.prog 14 #[.int .i64 b] W fun e w' => (e = .returned (.int .i64 d) ∧ W = w') by rw [hd]; exact rclamp_any b W hb0 hb1)
  have Y := Lib.hid (fun (m : Int) W (h0 : -9223372036854775808 ≤ d * m) (h1 : d * m ≤ 9223372036854775807) (h : m ≤ F) => below_yes m d n W d0 h0 h1 (by rw [← hF]; exact h))
  have N := Lib.hid (fun (m : Int) W (h0 : -9223372036854775808 ≤ d * m) (h1 : d * m ≤ 9223372036854775807) (h : F < m) => below_no m d n W d0 h0 h1 (by rw [← hF]; exact h))
  have R := Lib.hid (fun (m : Int) W (h0 : -9223372036854775808 ≤ m) (h1 : m ≤ 9223372036854775807) => show Calls Tryd.prog 14 #[.int .i64 m] W fun e w' => (e = .returned (.int .i64 (Fx.clamp m)) ∧ W = w') from rclamp_any m W h0 h1)
  have hdz : (d == 0) = false := by simpa using d0
  have n2 := Lib.hid hn
  have hw : IntKind.i64.wrap (256 * Fx.clamp a) = n := by rw [hn]; exact IntWalk.i64_in _ (by omega)
  obtain ⟨B, hB⟩ : ∃ B, Begins d B := by
    unfold Begins
    rcases (show (d = 1 ∨ d = -1) ∨ ((1 < d ∧ d ≤ 1048576) ∨ (d < -1 ∧ -1048576 ≤ d)) ∨ (1048576 < d ∨ d < -1048576) by omega) with h | h | h
    · exact ⟨_, .inl ⟨h, rfl⟩⟩
    · exact ⟨_, .inr (.inl ⟨h, rfl⟩)⟩
    · exact ⟨_, .inr (.inr ⟨h, rfl⟩)⟩
  obtain ⟨b0, b1⟩ := begins_fq hB n0 n1
  rw [← hF] at b0 b1
  have P := Lib.hid (fun (m : Int) (m0 : -B ≤ m) (m1 : m ≤ B) => begins_prod hB d1 d2 m0 m1)
  clear hn hd hF hb
  have B2 : B ≤ 549755813888 := by unfold Begins at hB; omega
  have cases6 : (d = 1 ∧ Hid (B = 549755813888)) ∨ (d = -1 ∧ Hid (B = 549755813888)) ∨ ((1 < d ∧ d ≤ 1048576) ∧ Hid (B = 274877906944)) ∨ ((d < -1 ∧ -1048576 ≤ d) ∧ Hid (B = 274877906944)) ∨ (1048576 < d ∧ Hid (B = 524288)) ∨ (d < -1048576 ∧ Hid (B = 524288)) := by
    rcases hB with ⟨h, e⟩ | ⟨h, e⟩ | ⟨h, e⟩
    · rcases h with h | h
      · exact .inl ⟨h, Lib.hid e⟩
      · exact .inr (.inl ⟨h, Lib.hid e⟩)
    · rcases h with h | h
      · exact .inr (.inr (.inl ⟨h, Lib.hid e⟩))
      · exact .inr (.inr (.inr (.inl ⟨h, Lib.hid e⟩)))
    · rcases h with h | h
      · exact .inr (.inr (.inr (.inr (.inl ⟨h, Lib.hid e⟩))))
      · exact .inr (.inr (.inr (.inr (.inr ⟨h, Lib.hid e⟩))))
  clear hB
  rcases cases6 with ⟨rfl, BE⟩ | ⟨rfl, BE⟩ | ⟨⟨g1, g2⟩, BE⟩ | ⟨⟨g1, g2⟩, BE⟩ | ⟨g1, BE⟩ | ⟨g1, BE⟩
  all_goals
    go_enter Tryd.func21, Tryd.ntmps21
    go_wp2_with (first | (go_at_call 14; (first | (refine (C.out _).mono ?_; rintro e w' ⟨rfl, rfl⟩) | (refine (D.out _).mono ?_; rintro e w' ⟨rfl, rfl⟩))))
    go_loop [8, 9] (fun l h => ∃ x y : Int, l = .int .i64 x ∧ h = .int .i64 y ∧ -B ≤ x ∧ x ≤ F ∧ F < y ∧ y ≤ B) (fun l h => (intOf h - intOf l).toNat)
    case atStart => exact ⟨_, _, rfl, rfl, by have := BE.out; omega, by have := BE.out; omega, by have := BE.out; omega, by have := BE.out; omega⟩
    case round =>
      obtain ⟨x, y, rfl, rfl, hx0, hx1, hy0, hy1⟩ := hrel
      clear C D
      by_cases hlt : 1 < y - x
      · by_cases hm : x + (y - x) / 2 ≤ F
        · have p := P.out (x + (y - x) / 2) (by omega) (by omega)
          have Z := Lib.hid (fun W => Y.out (x + (y - x) / 2) W p.1 p.2 hm)
          clear p Y N
          go_wp2_with (go_at_call 27; refine (Z.out _).mono ?_; rintro e w' ⟨rfl, rfl⟩)
          go_round
          case rel => exact ⟨_, _, rfl, rfl, by omega, hm, hy0, hy1⟩
          case measure => simp [intOf]; omega
        · have hm' : F < x + (y - x) / 2 := by omega
          have p := P.out (x + (y - x) / 2) (by omega) (by omega)
          have Z := Lib.hid (fun W => N.out (x + (y - x) / 2) W p.1 p.2 hm')
          clear p Y N hm
          go_wp2_with (go_at_call 27; refine (Z.out _).mono ?_; rintro e w' ⟨rfl, rfl⟩)
          go_round
          case rel => exact ⟨_, _, rfl, rfl, hx0, hx1, hm', by omega⟩
          case measure => simp [intOf]; omega
      · have E := Lib.hid (show x = F by omega)
        have Z := Lib.hid (fun W => R.out x W (by omega) (by omega))
        clear Y N
        go_wp2_with (go_at_call 14; refine (Z.out _).mono ?_; rintro e w' ⟨rfl, rfl⟩)
        go_ret2
        exact ⟨by rw [Q.out, ← E.out]; rfl, rfl⟩
end Go.Proofs.YtoogfjndkecdfaaDoor
