/- The code's entityMayBe, commandMayBe, CheckID, Check, CheckCmd. Written by wip/tools/genpc4.py. -/
import Derived.Test.YtookmjdnmmfkfaaPcCode3
import Derived.Test.YtookmjdnmmfkfaaPzRef3
import Derived.Deep.DeepCutAuto
namespace Go.Proofs.Ytookmjdnmmfkfaa
open Go.RowKit Pz
set_option linter.unusedVariables false

set_option maxHeartbeats 16000000 in
set_option maxRecDepth 100000 in
theorem entity_any (b : Bn) (w : World) : Calls Try.prog 33 #[b.val] w fun e w' => e = .returned (.bool (may b)) ∧ Below w.heap.size w w' := by
  have R1 : Hid (∀ W, Calls Try.prog 35 #[.agg #[.int .i64 b.s, .int .i64 b.i, .int .i64 b.g]] W fun e w' => e = .returned (.bool (rightID b.s b.i b.g)) ∧ Below W.heap.size W w') := Lib.hid fun W => name_any _ _ _ W
  have R2 : Hid (∀ W, Calls Try.prog 46 #[b.val] W fun e w' => e = .returned (.bool (right b)) ∧ Below W.heap.size W w') := Lib.hid fun W => comps_any b W
  have R3 : Hid (∀ W, Calls Try.prog 23 #[b.val, .int .i64 1] W fun e w' => e = .returned (.bool (bitB b.m 0)) ∧ Below W.heap.size W w') := Lib.hid fun W => has_one b (j := 0) (by decide) W
  unfold may
  generalize rightID b.s b.i b.g = d1 at *
  generalize right b = d2 at *
  obtain ⟨s, i, g, m, x, y, vx, vy, h, p, l⟩ := b
  simp only [Bn.val] at *
  generalize bitB m 0 = d3 at *
  have H0 := at1 w (.cells #[.int .i64 s, .int .i64 i, .int .i64 g, .int .i64 m, .int .i64 x, .int .i64 y, .int .i64 vx, .int .i64 vy, .int .i64 h, .int .i64 p, .int .i64 l] 25)
  have B1 := bel1 w (.cells #[.int .i64 s, .int .i64 i, .int .i64 g, .int .i64 m, .int .i64 x, .int .i64 y, .int .i64 vx, .int .i64 vy, .int .i64 h, .int .i64 p, .int .i64 l] 25)
  have CE : Hid (∀ W, Below (w.alloc (.cells #[.int .i64 s, .int .i64 i, .int .i64 g, .int .i64 m, .int .i64 x, .int .i64 y, .int .i64 vx, .int .i64 vy, .int .i64 h, .int .i64 p, .int .i64 l] 25)).heap.size (w.alloc (.cells #[.int .i64 s, .int .i64 i, .int .i64 g, .int .i64 m, .int .i64 x, .int .i64 y, .int .i64 vx, .int .i64 vy, .int .i64 h, .int .i64 p, .int .i64 l] 25)) W → (W.cell? ⟨w.heap.size, 0, none⟩ = some (.int .i64 s) ∧ W.cell? ⟨w.heap.size, 1, none⟩ = some (.int .i64 i) ∧ W.cell? ⟨w.heap.size, 2, none⟩ = some (.int .i64 g) ∧ W.cell? ⟨w.heap.size, 3, none⟩ = some (.int .i64 m) ∧ W.cell? ⟨w.heap.size, 4, none⟩ = some (.int .i64 x) ∧ W.cell? ⟨w.heap.size, 5, none⟩ = some (.int .i64 y) ∧ W.cell? ⟨w.heap.size, 6, none⟩ = some (.int .i64 vx) ∧ W.cell? ⟨w.heap.size, 7, none⟩ = some (.int .i64 vy) ∧ W.cell? ⟨w.heap.size, 8, none⟩ = some (.int .i64 h) ∧ W.cell? ⟨w.heap.size, 9, none⟩ = some (.int .i64 p) ∧ W.cell? ⟨w.heap.size, 10, none⟩ = some (.int .i64 l)) ∧ Below w.heap.size w W) := Lib.hid fun W hW => ⟨(Bx.b11 ((hW.block _ (Bx.lt H0)).trans H0)).1, B1.trans (hW.mono B1.size)⟩
  obtain ⟨⟨k0, k1, k2, k3, k4, k5, k6, k7, k8, k9, k10⟩, HB⟩ := CE.out _ (Below.refl _ _)
  replace HB := Lib.hid HB
  have BB := Lib.hid (Below.refl (w.alloc (.cells #[.int .i64 s, .int .i64 i, .int .i64 g, .int .i64 m, .int .i64 x, .int .i64 y, .int .i64 vx, .int .i64 vy, .int .i64 h, .int .i64 p, .int .i64 l] 25)).heap.size (w.alloc (.cells #[.int .i64 s, .int .i64 i, .int .i64 g, .int .i64 m, .int .i64 x, .int .i64 y, .int .i64 vx, .int .i64 vy, .int .i64 h, .int .i64 p, .int .i64 l] 25)))
  clear H0 B1
  generalize hww : w.alloc (.cells #[.int .i64 s, .int .i64 i, .int .i64 g, .int .i64 m, .int .i64 x, .int .i64 y, .int .i64 vx, .int .i64 vy, .int .i64 h, .int .i64 p, .int .i64 l] 25) = w1 at *
  cases d1 with
  | false =>
    go_enter Try.func33, Try.ntmps33
    go_wp2_with (first
      | (go_at_call 35; with_reducible refine (R1.out _).mono ?_; rintro e w2 ⟨rfl, hb2⟩; clear k0 k1 k2 k3 k4 k5 k6 k7 k8 k9 k10; replace BB := Lib.hid (BB.out.trans (hb2.mono BB.out.size)); clear hb2; obtain ⟨⟨k0, k1, k2, k3, k4, k5, k6, k7, k8, k9, k10⟩, HB⟩ := CE.out w2 BB.out; replace HB := Lib.hid HB)
      | (go_at_call 46; with_reducible refine (R2.out _).mono ?_; rintro e w2 ⟨rfl, hb2⟩; clear k0 k1 k2 k3 k4 k5 k6 k7 k8 k9 k10; replace BB := Lib.hid (BB.out.trans (hb2.mono BB.out.size)); clear hb2; obtain ⟨⟨k0, k1, k2, k3, k4, k5, k6, k7, k8, k9, k10⟩, HB⟩ := CE.out w2 BB.out; replace HB := Lib.hid HB)
      | (go_at_call 23; with_reducible refine (R3.out _).mono ?_; rintro e w2 ⟨rfl, hb2⟩; clear k0 k1 k2 k3 k4 k5 k6 k7 k8 k9 k10; replace BB := Lib.hid (BB.out.trans (hb2.mono BB.out.size)); clear hb2; obtain ⟨⟨k0, k1, k2, k3, k4, k5, k6, k7, k8, k9, k10⟩, HB⟩ := CE.out w2 BB.out; replace HB := Lib.hid HB))
    go_ret
    exact ⟨rfl, HB.out⟩
  | true =>
    cases d2 with
    | false =>
      go_enter Try.func33, Try.ntmps33
      go_wp2_with (first
        | (go_at_call 35; with_reducible refine (R1.out _).mono ?_; rintro e w2 ⟨rfl, hb2⟩; clear k0 k1 k2 k3 k4 k5 k6 k7 k8 k9 k10; replace BB := Lib.hid (BB.out.trans (hb2.mono BB.out.size)); clear hb2; obtain ⟨⟨k0, k1, k2, k3, k4, k5, k6, k7, k8, k9, k10⟩, HB⟩ := CE.out w2 BB.out; replace HB := Lib.hid HB)
        | (go_at_call 46; with_reducible refine (R2.out _).mono ?_; rintro e w2 ⟨rfl, hb2⟩; clear k0 k1 k2 k3 k4 k5 k6 k7 k8 k9 k10; replace BB := Lib.hid (BB.out.trans (hb2.mono BB.out.size)); clear hb2; obtain ⟨⟨k0, k1, k2, k3, k4, k5, k6, k7, k8, k9, k10⟩, HB⟩ := CE.out w2 BB.out; replace HB := Lib.hid HB)
        | (go_at_call 23; with_reducible refine (R3.out _).mono ?_; rintro e w2 ⟨rfl, hb2⟩; clear k0 k1 k2 k3 k4 k5 k6 k7 k8 k9 k10; replace BB := Lib.hid (BB.out.trans (hb2.mono BB.out.size)); clear hb2; obtain ⟨⟨k0, k1, k2, k3, k4, k5, k6, k7, k8, k9, k10⟩, HB⟩ := CE.out w2 BB.out; replace HB := Lib.hid HB))
      go_ret
      exact ⟨rfl, HB.out⟩
    | true =>
      go_enter Try.func33, Try.ntmps33
      go_wp2_with (first
        | (go_at_call 35; with_reducible refine (R1.out _).mono ?_; rintro e w2 ⟨rfl, hb2⟩; clear k0 k1 k2 k3 k4 k5 k6 k7 k8 k9 k10; replace BB := Lib.hid (BB.out.trans (hb2.mono BB.out.size)); clear hb2; obtain ⟨⟨k0, k1, k2, k3, k4, k5, k6, k7, k8, k9, k10⟩, HB⟩ := CE.out w2 BB.out; replace HB := Lib.hid HB)
        | (go_at_call 46; with_reducible refine (R2.out _).mono ?_; rintro e w2 ⟨rfl, hb2⟩; clear k0 k1 k2 k3 k4 k5 k6 k7 k8 k9 k10; replace BB := Lib.hid (BB.out.trans (hb2.mono BB.out.size)); clear hb2; obtain ⟨⟨k0, k1, k2, k3, k4, k5, k6, k7, k8, k9, k10⟩, HB⟩ := CE.out w2 BB.out; replace HB := Lib.hid HB)
        | (go_at_call 23; with_reducible refine (R3.out _).mono ?_; rintro e w2 ⟨rfl, hb2⟩; clear k0 k1 k2 k3 k4 k5 k6 k7 k8 k9 k10; replace BB := Lib.hid (BB.out.trans (hb2.mono BB.out.size)); clear hb2; obtain ⟨⟨k0, k1, k2, k3, k4, k5, k6, k7, k8, k9, k10⟩, HB⟩ := CE.out w2 BB.out; replace HB := Lib.hid HB))
      go_ret
      exact ⟨rfl, HB.out⟩
set_option maxHeartbeats 16000000 in
set_option maxRecDepth 100000 in
theorem command_any (c : Cn) (w : World) : Calls Try.prog 36 #[c.val] w fun e w' => e = .returned (.bool (mayCmd c)) ∧ Below w.heap.size w w' := by
  have M1 : Hid (∀ W, Calls Try.prog 33 #[c.b.val] W fun e w' => e = .returned (.bool (may c.b)) ∧ Below W.heap.size W w') := Lib.hid fun W => entity_any c.b W
  have R1 : Hid (∀ W, Calls Try.prog 35 #[.agg #[.int .i64 c.s, .int .i64 c.i, .int .i64 c.g]] W fun e w' => e = .returned (.bool (rightID c.s c.i c.g)) ∧ Below W.heap.size W w') := Lib.hid fun W => name_any _ _ _ W
  have R2 : Hid (∀ W, Calls Try.prog 46 #[c.b.val] W fun e w' => e = .returned (.bool (right c.b)) ∧ Below W.heap.size W w') := Lib.hid fun W => comps_any c.b W
  have T1 : Hid (∀ W, Calls Try.prog 49 #[.int .i64 c.b.m] W fun e w' => e = .returned (.bool (takesB c.b.m)) ∧ W = w') := Lib.hid fun W => ctakes_any _ W
  have T2 : Hid (∀ W, Calls Try.prog 49 #[.int .i64 c.m] W fun e w' => e = .returned (.bool (takesB c.m)) ∧ W = w') := Lib.hid fun W => ctakes_any _ W
  have Q1 : ∀ W : World, (Op.equalIn 10000 23 (.agg #[.int .i64 c.s, .int .i64 c.i, .int .i64 c.g]) (.agg #[.int .i64 0, .int .i64 0, .int .i64 0])).run Try.prog W = .ok (noID c.s c.i c.g) W := fun W => eq_id 9998 c.s c.i c.g 0 0 0 W
  have Q3 : ∀ W : World, (Op.equalIn 10000 23 (.agg #[.int .i64 c.b.s, .int .i64 c.b.i, .int .i64 c.b.g]) (.agg #[.int .i64 0, .int .i64 0, .int .i64 0])).run Try.prog W = .ok (noID c.b.s c.b.i c.b.g) W := fun W => eq_id 9998 c.b.s c.b.i c.b.g 0 0 0 W
  have Q2 : ∀ W : World, (Op.equalIn 10000 25 c.b.val (.agg #[.int .i64 0, .int .i64 0, .int .i64 0, .int .i64 0, .int .i64 0, .int .i64 0, .int .i64 0, .int .i64 0, .int .i64 0, .int .i64 0, .int .i64 0])).run Try.prog W = .ok (empty c.b) W := fun W => eq_bundle c.b.s c.b.i c.b.g c.b.m c.b.x c.b.y c.b.vx c.b.vy c.b.h c.b.p c.b.l 0 0 0 0 0 0 0 0 0 0 0 W
  unfold mayCmd
  obtain ⟨d1, e1⟩ : ∃ r, may c.b = r := ⟨_, rfl⟩
  obtain ⟨d2, e2⟩ : ∃ r, rightID c.s c.i c.g = r := ⟨_, rfl⟩
  obtain ⟨d3, e3⟩ : ∃ r, right c.b = r := ⟨_, rfl⟩
  obtain ⟨d4, e4⟩ : ∃ r, takesB c.b.m = r := ⟨_, rfl⟩
  obtain ⟨d5, e5⟩ : ∃ r, takesB c.m = r := ⟨_, rfl⟩
  obtain ⟨d6, e6⟩ : ∃ r, noID c.s c.i c.g = r := ⟨_, rfl⟩
  obtain ⟨d7, e7⟩ : ∃ r, noID c.b.s c.b.i c.b.g = r := ⟨_, rfl⟩
  obtain ⟨d8, e8⟩ : ∃ r, empty c.b = r := ⟨_, rfl⟩
  obtain ⟨d9, e9⟩ : ∃ r, (c.m == 0) = r := ⟨_, rfl⟩
  have e9' : decide (c.m = 0) = d9 := e9
  rw [e1] at M1
  rw [e2] at R1
  rw [e3] at R2
  rw [e4] at T1
  rw [e5] at T2
  rw [e6] at Q1
  rw [e7] at Q3
  rw [e8] at Q2
  rw [e1, e2, e3, e4, e5, e6, e7, e8, e9']
  clear e1 e2 e3 e4 e5 e6 e7 e8 e9'
  obtain ⟨k, s, i, g, ⟨bs, bi, bg, bm, x, y, vx, vy, h, p, l⟩, m⟩ := c
  simp only [Cn.val, Bn.val] at *
  have H0 := at1 w (.cells #[.int .i64 k, .int .i64 s, .int .i64 i, .int .i64 g, .int .i64 bs, .int .i64 bi, .int .i64 bg, .int .i64 bm, .int .i64 x, .int .i64 y, .int .i64 vx, .int .i64 vy, .int .i64 h, .int .i64 p, .int .i64 l, .int .i64 m] 34)
  have B1 := bel1 w (.cells #[.int .i64 k, .int .i64 s, .int .i64 i, .int .i64 g, .int .i64 bs, .int .i64 bi, .int .i64 bg, .int .i64 bm, .int .i64 x, .int .i64 y, .int .i64 vx, .int .i64 vy, .int .i64 h, .int .i64 p, .int .i64 l, .int .i64 m] 34)
  have CE : Hid (∀ W, Below (w.alloc (.cells #[.int .i64 k, .int .i64 s, .int .i64 i, .int .i64 g, .int .i64 bs, .int .i64 bi, .int .i64 bg, .int .i64 bm, .int .i64 x, .int .i64 y, .int .i64 vx, .int .i64 vy, .int .i64 h, .int .i64 p, .int .i64 l, .int .i64 m] 34)).heap.size (w.alloc (.cells #[.int .i64 k, .int .i64 s, .int .i64 i, .int .i64 g, .int .i64 bs, .int .i64 bi, .int .i64 bg, .int .i64 bm, .int .i64 x, .int .i64 y, .int .i64 vx, .int .i64 vy, .int .i64 h, .int .i64 p, .int .i64 l, .int .i64 m] 34)) W → (W.cell? ⟨w.heap.size, 0, none⟩ = some (.int .i64 k) ∧ W.cell? ⟨w.heap.size, 1, none⟩ = some (.int .i64 s) ∧ W.cell? ⟨w.heap.size, 2, none⟩ = some (.int .i64 i) ∧ W.cell? ⟨w.heap.size, 3, none⟩ = some (.int .i64 g) ∧ W.cell? ⟨w.heap.size, 4, none⟩ = some (.int .i64 bs) ∧ W.cell? ⟨w.heap.size, 5, none⟩ = some (.int .i64 bi) ∧ W.cell? ⟨w.heap.size, 6, none⟩ = some (.int .i64 bg) ∧ W.cell? ⟨w.heap.size, 7, none⟩ = some (.int .i64 bm) ∧ W.cell? ⟨w.heap.size, 8, none⟩ = some (.int .i64 x) ∧ W.cell? ⟨w.heap.size, 9, none⟩ = some (.int .i64 y) ∧ W.cell? ⟨w.heap.size, 10, none⟩ = some (.int .i64 vx) ∧ W.cell? ⟨w.heap.size, 11, none⟩ = some (.int .i64 vy) ∧ W.cell? ⟨w.heap.size, 12, none⟩ = some (.int .i64 h) ∧ W.cell? ⟨w.heap.size, 13, none⟩ = some (.int .i64 p) ∧ W.cell? ⟨w.heap.size, 14, none⟩ = some (.int .i64 l) ∧ W.cell? ⟨w.heap.size, 15, none⟩ = some (.int .i64 m)) ∧ Below w.heap.size w W) := Lib.hid fun W hW => ⟨(Bx.b16 ((hW.block _ (Bx.lt H0)).trans H0)).1, B1.trans (hW.mono B1.size)⟩
  obtain ⟨⟨k0, k1, k2, k3, k4, k5, k6, k7, k8, k9, k10, k11, k12, k13, k14, k15⟩, HB⟩ := CE.out _ (Below.refl _ _)
  replace HB := Lib.hid HB
  have BB := Lib.hid (Below.refl (w.alloc (.cells #[.int .i64 k, .int .i64 s, .int .i64 i, .int .i64 g, .int .i64 bs, .int .i64 bi, .int .i64 bg, .int .i64 bm, .int .i64 x, .int .i64 y, .int .i64 vx, .int .i64 vy, .int .i64 h, .int .i64 p, .int .i64 l, .int .i64 m] 34)).heap.size (w.alloc (.cells #[.int .i64 k, .int .i64 s, .int .i64 i, .int .i64 g, .int .i64 bs, .int .i64 bi, .int .i64 bg, .int .i64 bm, .int .i64 x, .int .i64 y, .int .i64 vx, .int .i64 vy, .int .i64 h, .int .i64 p, .int .i64 l, .int .i64 m] 34)))
  clear H0 B1
  generalize hww : w.alloc (.cells #[.int .i64 k, .int .i64 s, .int .i64 i, .int .i64 g, .int .i64 bs, .int .i64 bi, .int .i64 bg, .int .i64 bm, .int .i64 x, .int .i64 y, .int .i64 vx, .int .i64 vy, .int .i64 h, .int .i64 p, .int .i64 l, .int .i64 m] 34) = w1 at *
  by_cases h1 : k = 1
  · rw [if_pos h1]
    have z1 : (k == 1) = true := by rw [h1]; rfl
    clear h1
    rw [show ((d6 && d9) && d1) = ((d1 && d6) && d9) by cases d1 <;> cases d6 <;> cases d9 <;> rfl]
    cases d1 with
    | false =>
      go_enter Try.func36, Try.ntmps36
      go_wp2_with (first
        | (go_at_call 33; with_reducible refine (M1.out _).mono ?_; rintro e w2 ⟨rfl, hb2⟩; clear k0 k1 k2 k3 k4 k5 k6 k7 k8 k9 k10 k11 k12 k13 k14 k15; replace BB := Lib.hid (BB.out.trans (hb2.mono BB.out.size)); clear hb2; obtain ⟨⟨k0, k1, k2, k3, k4, k5, k6, k7, k8, k9, k10, k11, k12, k13, k14, k15⟩, HB⟩ := CE.out w2 BB.out; replace HB := Lib.hid HB))
      go_ret
      exact ⟨rfl, HB.out⟩
    | true =>
      cases d6 with
      | false =>
        go_enter Try.func36, Try.ntmps36
        go_wp2_with (first
          | (go_at_call 33; with_reducible refine (M1.out _).mono ?_; rintro e w2 ⟨rfl, hb2⟩; clear k0 k1 k2 k3 k4 k5 k6 k7 k8 k9 k10 k11 k12 k13 k14 k15; replace BB := Lib.hid (BB.out.trans (hb2.mono BB.out.size)); clear hb2; obtain ⟨⟨k0, k1, k2, k3, k4, k5, k6, k7, k8, k9, k10, k11, k12, k13, k14, k15⟩, HB⟩ := CE.out w2 BB.out; replace HB := Lib.hid HB))
        go_ret
        exact ⟨rfl, HB.out⟩
      | true =>
        go_enter Try.func36, Try.ntmps36
        go_wp2_with (first
          | (go_at_call 33; with_reducible refine (M1.out _).mono ?_; rintro e w2 ⟨rfl, hb2⟩; clear k0 k1 k2 k3 k4 k5 k6 k7 k8 k9 k10 k11 k12 k13 k14 k15; replace BB := Lib.hid (BB.out.trans (hb2.mono BB.out.size)); clear hb2; obtain ⟨⟨k0, k1, k2, k3, k4, k5, k6, k7, k8, k9, k10, k11, k12, k13, k14, k15⟩, HB⟩ := CE.out w2 BB.out; replace HB := Lib.hid HB))
        go_ret
        exact ⟨rfl, HB.out⟩
  · rw [if_neg h1]
    by_cases h2 : k = 2
    · rw [if_pos h2]
      have z1 : (k == 1) = false := by rw [h2]; rfl
      have z2 : (k == 2) = true := by rw [h2]; rfl
      clear h2
      rw [show ((d2 && d9) && d8) = ((d2 && d8) && d9) by cases d2 <;> cases d8 <;> cases d9 <;> rfl]
      cases d2 with
      | false =>
        go_enter Try.func36, Try.ntmps36
        go_wp2_with (first
          | (go_at_call 35; with_reducible refine (R1.out _).mono ?_; rintro e w2 ⟨rfl, hb2⟩; clear k0 k1 k2 k3 k4 k5 k6 k7 k8 k9 k10 k11 k12 k13 k14 k15; replace BB := Lib.hid (BB.out.trans (hb2.mono BB.out.size)); clear hb2; obtain ⟨⟨k0, k1, k2, k3, k4, k5, k6, k7, k8, k9, k10, k11, k12, k13, k14, k15⟩, HB⟩ := CE.out w2 BB.out; replace HB := Lib.hid HB))
        go_ret
        exact ⟨rfl, HB.out⟩
      | true =>
        cases d8 with
        | false =>
          go_enter Try.func36, Try.ntmps36
          go_wp2_with (first
            | (go_at_call 35; with_reducible refine (R1.out _).mono ?_; rintro e w2 ⟨rfl, hb2⟩; clear k0 k1 k2 k3 k4 k5 k6 k7 k8 k9 k10 k11 k12 k13 k14 k15; replace BB := Lib.hid (BB.out.trans (hb2.mono BB.out.size)); clear hb2; obtain ⟨⟨k0, k1, k2, k3, k4, k5, k6, k7, k8, k9, k10, k11, k12, k13, k14, k15⟩, HB⟩ := CE.out w2 BB.out; replace HB := Lib.hid HB))
          go_ret
          exact ⟨rfl, HB.out⟩
        | true =>
          go_enter Try.func36, Try.ntmps36
          go_wp2_with (first
            | (go_at_call 35; with_reducible refine (R1.out _).mono ?_; rintro e w2 ⟨rfl, hb2⟩; clear k0 k1 k2 k3 k4 k5 k6 k7 k8 k9 k10 k11 k12 k13 k14 k15; replace BB := Lib.hid (BB.out.trans (hb2.mono BB.out.size)); clear hb2; obtain ⟨⟨k0, k1, k2, k3, k4, k5, k6, k7, k8, k9, k10, k11, k12, k13, k14, k15⟩, HB⟩ := CE.out w2 BB.out; replace HB := Lib.hid HB))
          go_ret
          exact ⟨rfl, HB.out⟩
    · rw [if_neg h2]
      by_cases h3 : k = 3
      · rw [if_pos h3]
        have z1 : (k == 1) = false := by rw [h3]; rfl
        have z2 : (k == 2) = false := by rw [h3]; rfl
        have z3 : (k == 3) = true := by rw [h3]; rfl
        clear h3
        cases d2 with
        | false =>
          go_enter Try.func36, Try.ntmps36
          go_wp2_with (first
            | (go_at_call 35; with_reducible refine (R1.out _).mono ?_; rintro e w2 ⟨rfl, hb2⟩; clear k0 k1 k2 k3 k4 k5 k6 k7 k8 k9 k10 k11 k12 k13 k14 k15; replace BB := Lib.hid (BB.out.trans (hb2.mono BB.out.size)); clear hb2; obtain ⟨⟨k0, k1, k2, k3, k4, k5, k6, k7, k8, k9, k10, k11, k12, k13, k14, k15⟩, HB⟩ := CE.out w2 BB.out; replace HB := Lib.hid HB)
            | (go_at_call 49; with_reducible refine (T1.out _).mono ?_; rintro e w' ⟨rfl, rfl⟩)
            | (go_at_call 46; with_reducible refine (R2.out _).mono ?_; rintro e w2 ⟨rfl, hb2⟩; clear k0 k1 k2 k3 k4 k5 k6 k7 k8 k9 k10 k11 k12 k13 k14 k15; replace BB := Lib.hid (BB.out.trans (hb2.mono BB.out.size)); clear hb2; obtain ⟨⟨k0, k1, k2, k3, k4, k5, k6, k7, k8, k9, k10, k11, k12, k13, k14, k15⟩, HB⟩ := CE.out w2 BB.out; replace HB := Lib.hid HB))
          go_ret
          exact ⟨rfl, HB.out⟩
        | true =>
          cases d9 with
          | false =>
            go_enter Try.func36, Try.ntmps36
            go_wp2_with (first
              | (go_at_call 35; with_reducible refine (R1.out _).mono ?_; rintro e w2 ⟨rfl, hb2⟩; clear k0 k1 k2 k3 k4 k5 k6 k7 k8 k9 k10 k11 k12 k13 k14 k15; replace BB := Lib.hid (BB.out.trans (hb2.mono BB.out.size)); clear hb2; obtain ⟨⟨k0, k1, k2, k3, k4, k5, k6, k7, k8, k9, k10, k11, k12, k13, k14, k15⟩, HB⟩ := CE.out w2 BB.out; replace HB := Lib.hid HB)
              | (go_at_call 49; with_reducible refine (T1.out _).mono ?_; rintro e w' ⟨rfl, rfl⟩)
              | (go_at_call 46; with_reducible refine (R2.out _).mono ?_; rintro e w2 ⟨rfl, hb2⟩; clear k0 k1 k2 k3 k4 k5 k6 k7 k8 k9 k10 k11 k12 k13 k14 k15; replace BB := Lib.hid (BB.out.trans (hb2.mono BB.out.size)); clear hb2; obtain ⟨⟨k0, k1, k2, k3, k4, k5, k6, k7, k8, k9, k10, k11, k12, k13, k14, k15⟩, HB⟩ := CE.out w2 BB.out; replace HB := Lib.hid HB))
            go_ret
            exact ⟨rfl, HB.out⟩
          | true =>
            cases d7 with
            | false =>
              go_enter Try.func36, Try.ntmps36
              go_wp2_with (first
                | (go_at_call 35; with_reducible refine (R1.out _).mono ?_; rintro e w2 ⟨rfl, hb2⟩; clear k0 k1 k2 k3 k4 k5 k6 k7 k8 k9 k10 k11 k12 k13 k14 k15; replace BB := Lib.hid (BB.out.trans (hb2.mono BB.out.size)); clear hb2; obtain ⟨⟨k0, k1, k2, k3, k4, k5, k6, k7, k8, k9, k10, k11, k12, k13, k14, k15⟩, HB⟩ := CE.out w2 BB.out; replace HB := Lib.hid HB)
                | (go_at_call 49; with_reducible refine (T1.out _).mono ?_; rintro e w' ⟨rfl, rfl⟩)
                | (go_at_call 46; with_reducible refine (R2.out _).mono ?_; rintro e w2 ⟨rfl, hb2⟩; clear k0 k1 k2 k3 k4 k5 k6 k7 k8 k9 k10 k11 k12 k13 k14 k15; replace BB := Lib.hid (BB.out.trans (hb2.mono BB.out.size)); clear hb2; obtain ⟨⟨k0, k1, k2, k3, k4, k5, k6, k7, k8, k9, k10, k11, k12, k13, k14, k15⟩, HB⟩ := CE.out w2 BB.out; replace HB := Lib.hid HB))
              go_ret
              exact ⟨rfl, HB.out⟩
            | true =>
              cases d4 with
              | false =>
                go_enter Try.func36, Try.ntmps36
                go_wp2_with (first
                  | (go_at_call 35; with_reducible refine (R1.out _).mono ?_; rintro e w2 ⟨rfl, hb2⟩; clear k0 k1 k2 k3 k4 k5 k6 k7 k8 k9 k10 k11 k12 k13 k14 k15; replace BB := Lib.hid (BB.out.trans (hb2.mono BB.out.size)); clear hb2; obtain ⟨⟨k0, k1, k2, k3, k4, k5, k6, k7, k8, k9, k10, k11, k12, k13, k14, k15⟩, HB⟩ := CE.out w2 BB.out; replace HB := Lib.hid HB)
                  | (go_at_call 49; with_reducible refine (T1.out _).mono ?_; rintro e w' ⟨rfl, rfl⟩)
                  | (go_at_call 46; with_reducible refine (R2.out _).mono ?_; rintro e w2 ⟨rfl, hb2⟩; clear k0 k1 k2 k3 k4 k5 k6 k7 k8 k9 k10 k11 k12 k13 k14 k15; replace BB := Lib.hid (BB.out.trans (hb2.mono BB.out.size)); clear hb2; obtain ⟨⟨k0, k1, k2, k3, k4, k5, k6, k7, k8, k9, k10, k11, k12, k13, k14, k15⟩, HB⟩ := CE.out w2 BB.out; replace HB := Lib.hid HB))
                go_ret
                exact ⟨rfl, HB.out⟩
              | true =>
                go_enter Try.func36, Try.ntmps36
                go_wp2_with (first
                  | (go_at_call 35; with_reducible refine (R1.out _).mono ?_; rintro e w2 ⟨rfl, hb2⟩; clear k0 k1 k2 k3 k4 k5 k6 k7 k8 k9 k10 k11 k12 k13 k14 k15; replace BB := Lib.hid (BB.out.trans (hb2.mono BB.out.size)); clear hb2; obtain ⟨⟨k0, k1, k2, k3, k4, k5, k6, k7, k8, k9, k10, k11, k12, k13, k14, k15⟩, HB⟩ := CE.out w2 BB.out; replace HB := Lib.hid HB)
                  | (go_at_call 49; with_reducible refine (T1.out _).mono ?_; rintro e w' ⟨rfl, rfl⟩)
                  | (go_at_call 46; with_reducible refine (R2.out _).mono ?_; rintro e w2 ⟨rfl, hb2⟩; clear k0 k1 k2 k3 k4 k5 k6 k7 k8 k9 k10 k11 k12 k13 k14 k15; replace BB := Lib.hid (BB.out.trans (hb2.mono BB.out.size)); clear hb2; obtain ⟨⟨k0, k1, k2, k3, k4, k5, k6, k7, k8, k9, k10, k11, k12, k13, k14, k15⟩, HB⟩ := CE.out w2 BB.out; replace HB := Lib.hid HB))
                go_ret
                exact ⟨rfl, HB.out⟩
      · rw [if_neg h3]
        by_cases h4 : k = 4
        · rw [if_pos h4]
          have z1 : (k == 1) = false := by rw [h4]; rfl
          have z2 : (k == 2) = false := by rw [h4]; rfl
          have z3 : (k == 3) = false := by rw [h4]; rfl
          have z4 : (k == 4) = true := by rw [h4]; rfl
          clear h4
          cases d2 with
          | false =>
            go_enter Try.func36, Try.ntmps36
            go_wp2_with (first
              | (go_at_call 35; with_reducible refine (R1.out _).mono ?_; rintro e w2 ⟨rfl, hb2⟩; clear k0 k1 k2 k3 k4 k5 k6 k7 k8 k9 k10 k11 k12 k13 k14 k15; replace BB := Lib.hid (BB.out.trans (hb2.mono BB.out.size)); clear hb2; obtain ⟨⟨k0, k1, k2, k3, k4, k5, k6, k7, k8, k9, k10, k11, k12, k13, k14, k15⟩, HB⟩ := CE.out w2 BB.out; replace HB := Lib.hid HB)
              | (go_at_call 49; with_reducible refine (T2.out _).mono ?_; rintro e w' ⟨rfl, rfl⟩))
            go_ret
            exact ⟨rfl, HB.out⟩
          | true =>
            cases d8 with
            | false =>
              go_enter Try.func36, Try.ntmps36
              go_wp2_with (first
                | (go_at_call 35; with_reducible refine (R1.out _).mono ?_; rintro e w2 ⟨rfl, hb2⟩; clear k0 k1 k2 k3 k4 k5 k6 k7 k8 k9 k10 k11 k12 k13 k14 k15; replace BB := Lib.hid (BB.out.trans (hb2.mono BB.out.size)); clear hb2; obtain ⟨⟨k0, k1, k2, k3, k4, k5, k6, k7, k8, k9, k10, k11, k12, k13, k14, k15⟩, HB⟩ := CE.out w2 BB.out; replace HB := Lib.hid HB)
                | (go_at_call 49; with_reducible refine (T2.out _).mono ?_; rintro e w' ⟨rfl, rfl⟩))
              go_ret
              exact ⟨rfl, HB.out⟩
            | true =>
              go_enter Try.func36, Try.ntmps36
              go_wp2_with (first
                | (go_at_call 35; with_reducible refine (R1.out _).mono ?_; rintro e w2 ⟨rfl, hb2⟩; clear k0 k1 k2 k3 k4 k5 k6 k7 k8 k9 k10 k11 k12 k13 k14 k15; replace BB := Lib.hid (BB.out.trans (hb2.mono BB.out.size)); clear hb2; obtain ⟨⟨k0, k1, k2, k3, k4, k5, k6, k7, k8, k9, k10, k11, k12, k13, k14, k15⟩, HB⟩ := CE.out w2 BB.out; replace HB := Lib.hid HB)
                | (go_at_call 49; with_reducible refine (T2.out _).mono ?_; rintro e w' ⟨rfl, rfl⟩))
              go_ret
              exact ⟨rfl, HB.out⟩
        · rw [if_neg h4]
          have z1 : (k == 1) = false := beq_eq_false_iff_ne.2 h1
          have z2 : (k == 2) = false := beq_eq_false_iff_ne.2 h2
          have z3 : (k == 3) = false := beq_eq_false_iff_ne.2 h3
          have z4 : (k == 4) = false := beq_eq_false_iff_ne.2 h4
          go_enter Try.func36, Try.ntmps36
          go_wp2
          go_ret
          exact ⟨rfl, HB.out⟩
set_option maxHeartbeats 16000000 in
set_option maxRecDepth 100000 in
theorem checkid_any (s i g : Int) (w : World) : Calls Try.prog 14 #[.agg #[.int .i64 s, .int .i64 i, .int .i64 g]] w fun e w' => e = .returned (.int .i64 (errB (rightID s i g))) ∧ Below w.heap.size w w' := by
  have H1 := Lib.hid fun W => name_any s i g W
  generalize (rightID s i g) = r at *
  have H2 := Lib.hid fun W => unless_any r W
  have FIN := Lib.hid (bel1 w (.cells #[.int .i64 s, .int .i64 i, .int .i64 g] 23))
  obtain ⟨⟨k0, k1, k2⟩, _⟩ := Bx.b3 (at1 w (.cells #[.int .i64 s, .int .i64 i, .int .i64 g] 23))
  have BB := Lib.hid (bel1 w (.cells #[.int .i64 s, .int .i64 i, .int .i64 g] 23))
  generalize hww : w.alloc (.cells #[.int .i64 s, .int .i64 i, .int .i64 g] 23) = w1 at *
  go_enter Try.func14, Try.ntmps14
  go_wp2_with (first
    | (go_at_call 35; with_reducible refine (H1.out _).mono ?_; rintro e w2 ⟨rfl, hb2⟩; clear k0 k1 k2; replace BB := Lib.hid (BB.out.trans (hb2.mono BB.out.size)))
    | (go_at_call 32; with_reducible refine (H2.out _).mono ?_; rintro e w' ⟨rfl, rfl⟩))
  go_ret
  exact ⟨rfl, BB.out⟩
set_option maxHeartbeats 16000000 in
set_option maxRecDepth 100000 in
theorem check_any (b : Bn) (w : World) : Calls Try.prog 11 #[b.val] w fun e w' => e = .returned (.int .i64 (errB (may b))) ∧ Below w.heap.size w w' := by
  have H1 := Lib.hid fun W => entity_any b W
  generalize (may b) = r at *
  have H2 := Lib.hid fun W => unless_any r W
  obtain ⟨s, i, g, m, x, y, vx, vy, h, p, l⟩ := b
  simp only [Bn.val] at *
  have FIN := Lib.hid (bel1 w (.cells #[.int .i64 s, .int .i64 i, .int .i64 g, .int .i64 m, .int .i64 x, .int .i64 y, .int .i64 vx, .int .i64 vy, .int .i64 h, .int .i64 p, .int .i64 l] 25))
  obtain ⟨⟨k0, k1, k2, k3, k4, k5, k6, k7, k8, k9, k10⟩, _⟩ := Bx.b11 (at1 w (.cells #[.int .i64 s, .int .i64 i, .int .i64 g, .int .i64 m, .int .i64 x, .int .i64 y, .int .i64 vx, .int .i64 vy, .int .i64 h, .int .i64 p, .int .i64 l] 25))
  have BB := Lib.hid (bel1 w (.cells #[.int .i64 s, .int .i64 i, .int .i64 g, .int .i64 m, .int .i64 x, .int .i64 y, .int .i64 vx, .int .i64 vy, .int .i64 h, .int .i64 p, .int .i64 l] 25))
  generalize hww : w.alloc (.cells #[.int .i64 s, .int .i64 i, .int .i64 g, .int .i64 m, .int .i64 x, .int .i64 y, .int .i64 vx, .int .i64 vy, .int .i64 h, .int .i64 p, .int .i64 l] 25) = w1 at *
  go_enter Try.func11, Try.ntmps11
  go_wp2_with (first
    | (go_at_call 33; with_reducible refine (H1.out _).mono ?_; rintro e w2 ⟨rfl, hb2⟩; clear k0 k1 k2 k3 k4 k5 k6 k7 k8 k9 k10; replace BB := Lib.hid (BB.out.trans (hb2.mono BB.out.size)))
    | (go_at_call 32; with_reducible refine (H2.out _).mono ?_; rintro e w' ⟨rfl, rfl⟩))
  go_ret
  exact ⟨rfl, BB.out⟩
set_option maxHeartbeats 16000000 in
set_option maxRecDepth 100000 in
theorem checkcmd_any (c : Cn) (w : World) : Calls Try.prog 17 #[c.val] w fun e w' => e = .returned (.int .i64 (errB (mayCmd c))) ∧ Below w.heap.size w w' := by
  have H1 := Lib.hid fun W => command_any c W
  generalize (mayCmd c) = r at *
  have H2 := Lib.hid fun W => unless_any r W
  obtain ⟨k, s, i, g, ⟨bs, bi, bg, bm, x, y, vx, vy, h, p, l⟩, m⟩ := c
  simp only [Cn.val] at *
  have FIN := Lib.hid (bel1 w (.cells #[.int .i64 k, .int .i64 s, .int .i64 i, .int .i64 g, .int .i64 bs, .int .i64 bi, .int .i64 bg, .int .i64 bm, .int .i64 x, .int .i64 y, .int .i64 vx, .int .i64 vy, .int .i64 h, .int .i64 p, .int .i64 l, .int .i64 m] 34))
  obtain ⟨⟨k0, k1, k2, k3, k4, k5, k6, k7, k8, k9, k10, k11, k12, k13, k14, k15⟩, _⟩ := Bx.b16 (at1 w (.cells #[.int .i64 k, .int .i64 s, .int .i64 i, .int .i64 g, .int .i64 bs, .int .i64 bi, .int .i64 bg, .int .i64 bm, .int .i64 x, .int .i64 y, .int .i64 vx, .int .i64 vy, .int .i64 h, .int .i64 p, .int .i64 l, .int .i64 m] 34))
  have BB := Lib.hid (bel1 w (.cells #[.int .i64 k, .int .i64 s, .int .i64 i, .int .i64 g, .int .i64 bs, .int .i64 bi, .int .i64 bg, .int .i64 bm, .int .i64 x, .int .i64 y, .int .i64 vx, .int .i64 vy, .int .i64 h, .int .i64 p, .int .i64 l, .int .i64 m] 34))
  generalize hww : w.alloc (.cells #[.int .i64 k, .int .i64 s, .int .i64 i, .int .i64 g, .int .i64 bs, .int .i64 bi, .int .i64 bg, .int .i64 bm, .int .i64 x, .int .i64 y, .int .i64 vx, .int .i64 vy, .int .i64 h, .int .i64 p, .int .i64 l, .int .i64 m] 34) = w1 at *
  go_enter Try.func17, Try.ntmps17
  go_wp2_with (first
    | (go_at_call 36; with_reducible refine (H1.out _).mono ?_; rintro e w2 ⟨rfl, hb2⟩; clear k0 k1 k2 k3 k4 k5 k6 k7 k8 k9 k10 k11 k12 k13 k14 k15; replace BB := Lib.hid (BB.out.trans (hb2.mono BB.out.size)))
    | (go_at_call 32; with_reducible refine (H2.out _).mono ?_; rintro e w' ⟨rfl, rfl⟩))
  go_ret
  exact ⟨rfl, BB.out⟩
end Go.Proofs.Ytookmjdnmmfkfaa
