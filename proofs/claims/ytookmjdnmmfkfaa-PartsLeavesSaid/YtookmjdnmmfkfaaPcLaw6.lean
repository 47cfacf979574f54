/- What is put over one that may be, or taken away, leaves one that may be. Written by wip/tools/genlawp.py. -/
import Derived.Test.YtookmjdnmmfkfaaPcAwake
import Derived.Test.YtookmjdnmmfkfaaPcAlg
import Derived.Test.YtookmjdnmmfkfaaPzRef3
import Derived.Test.YtookmjdnmmfkfaaOw
namespace Go.Proofs.Ytookmjdnmmfkfaa
open Go.RowKit Pz
set_option linter.unusedVariables false

set_option maxHeartbeats 16000000 in
set_option maxRecDepth 100000 in
theorem law_leaves (w : World) (b c : Bn) (n : Int) (hb : b.Fits) (hc : c.Fits) : Calls Try.prog 8 #[b.val, c.val, .int .i64 n] w fun e w' => e = .returned (.bool true) ∧ Below w.heap.size w w' := by
  have C1 : Hid (∀ W, Calls Try.prog 13 #[b.val] W fun e w' => e = .returned (.bool (may b)) ∧ Below W.heap.size W w') := Lib.hid fun W => may_any b hb.m W
  have C2 : Hid (∀ W, Calls Try.prog 31 #[c.val] W fun e w' => e = .returned (.bool (right c)) ∧ Below W.heap.size W w') := Lib.hid fun W => right_any c hc.m W
  have C3 : Hid (∀ W, Calls Try.prog 19 #[b.val, c.val] W fun e w' => e = .returned (withB b c).val ∧ Below W.heap.size W w') := Lib.hid fun W => cwith_any b c W
  have C4 : Hid (∀ W, Calls Try.prog 21 #[b.val, .int .i64 n] W fun e w' => e = .returned (withoutB b n).val ∧ Below W.heap.size W w') := Lib.hid fun W => cwithout_any b n W
  have C5 : Hid (may b = true → right c = true → ∀ W, Calls Try.prog 11 #[(withB b c).val] W fun e w' => e = .returned (.int .i64 0) ∧ Below W.heap.size W w') := Lib.hid fun h1 h2 W => by
    have := check_any (withB b c) W
    rw [may_with h1 h2] at this
    exact this
  have C6 : Hid (may b = true → ∀ W, Calls Try.prog 11 #[(withoutB b n).val] W fun e w' => e = .returned (.int .i64 (errB (!bitB n 0))) ∧ Below W.heap.size W w') := Lib.hid fun h1 W => by
    have := check_any (withoutB b n) W
    rw [may_without h1] at this
    exact this
  have C7 : Hid (∀ W, Calls Try.prog 23 #[(withB b c).val, .int .i64 b.m] W fun e w' => e = .returned (.bool true) ∧ Below W.heap.size W w') := Lib.hid fun W => by
    have := has_any (withB b c) b.m W
    rw [has_left hb.m] at this
    exact this
  have C8 : Hid (∀ W, Calls Try.prog 23 #[(withB b c).val, .int .i64 c.m] W fun e w' => e = .returned (.bool true) ∧ Below W.heap.size W w') := Lib.hid fun W => by
    have := has_any (withB b c) c.m W
    rw [has_right hc.m] at this
    exact this
  have AW : Hid (∀ W, Calls Try.prog 16 #[] W fun e w' => e = .returned (.bool true) ∧ Below W.heap.size W w') := Lib.hid fun W => awake_any W
  have e1 := pos_bit n
  have e2 : bits .and .i64 (withoutB b n).m n = 0 := and_andNot b.m n
  generalize withB b c = X at *
  generalize withoutB b n = Y at *
  generalize bitB n 0 = t at *
  obtain ⟨e6, he6⟩ : ∃ e6, errB (!t) = e6 := ⟨_, rfl⟩
  rw [he6] at C6
  generalize may b = mb at *
  generalize right c = rc at *
  obtain ⟨r1, hr1⟩ : ∃ r1, bits .and .i64 n 1 = r1 := ⟨_, rfl⟩
  rw [hr1] at e1
  clear hb hc
  obtain ⟨qs1, qi1, qg1, qm1, qx1, qy1, qvx1, qvy1, qh1, qp1, ql1⟩ := b
  obtain ⟨rs1, ri1, rg1, rm1, rx1, ry1, rvx1, rvy1, rh1, rp1, rl1⟩ := c
  obtain ⟨xs1, xi1, xg1, xm1, xx1, xy1, xvx1, xvy1, xh1, xp1, xl1⟩ := X
  obtain ⟨ys1, yi1, yg1, ym1, yx1, yy1, yvx1, yvy1, yh1, yp1, yl1⟩ := Y
  simp only [Bn.val] at *
  have T0 := at2a w (.cells #[.int .i64 qs1, .int .i64 qi1, .int .i64 qg1, .int .i64 qm1, .int .i64 qx1, .int .i64 qy1, .int .i64 qvx1, .int .i64 qvy1, .int .i64 qh1, .int .i64 qp1, .int .i64 ql1] 25) (.cells #[.int .i64 rs1, .int .i64 ri1, .int .i64 rg1, .int .i64 rm1, .int .i64 rx1, .int .i64 ry1, .int .i64 rvx1, .int .i64 rvy1, .int .i64 rh1, .int .i64 rp1, .int .i64 rl1] 25)
  have T1 := at2b w (.cells #[.int .i64 qs1, .int .i64 qi1, .int .i64 qg1, .int .i64 qm1, .int .i64 qx1, .int .i64 qy1, .int .i64 qvx1, .int .i64 qvy1, .int .i64 qh1, .int .i64 qp1, .int .i64 ql1] 25) (.cells #[.int .i64 rs1, .int .i64 ri1, .int .i64 rg1, .int .i64 rm1, .int .i64 rx1, .int .i64 ry1, .int .i64 rvx1, .int .i64 rvy1, .int .i64 rh1, .int .i64 rp1, .int .i64 rl1] 25)
  have BE := bel2 w (.cells #[.int .i64 qs1, .int .i64 qi1, .int .i64 qg1, .int .i64 qm1, .int .i64 qx1, .int .i64 qy1, .int .i64 qvx1, .int .i64 qvy1, .int .i64 qh1, .int .i64 qp1, .int .i64 ql1] 25) (.cells #[.int .i64 rs1, .int .i64 ri1, .int .i64 rg1, .int .i64 rm1, .int .i64 rx1, .int .i64 ry1, .int .i64 rvx1, .int .i64 rvy1, .int .i64 rh1, .int .i64 rp1, .int .i64 rl1] 25)
  have CE : Hid (∀ W, Below ((w.alloc (.cells #[.int .i64 qs1, .int .i64 qi1, .int .i64 qg1, .int .i64 qm1, .int .i64 qx1, .int .i64 qy1, .int .i64 qvx1, .int .i64 qvy1, .int .i64 qh1, .int .i64 qp1, .int .i64 ql1] 25)).alloc (.cells #[.int .i64 rs1, .int .i64 ri1, .int .i64 rg1, .int .i64 rm1, .int .i64 rx1, .int .i64 ry1, .int .i64 rvx1, .int .i64 rvy1, .int .i64 rh1, .int .i64 rp1, .int .i64 rl1] 25)).heap.size ((w.alloc (.cells #[.int .i64 qs1, .int .i64 qi1, .int .i64 qg1, .int .i64 qm1, .int .i64 qx1, .int .i64 qy1, .int .i64 qvx1, .int .i64 qvy1, .int .i64 qh1, .int .i64 qp1, .int .i64 ql1] 25)).alloc (.cells #[.int .i64 rs1, .int .i64 ri1, .int .i64 rg1, .int .i64 rm1, .int .i64 rx1, .int .i64 ry1, .int .i64 rvx1, .int .i64 rvy1, .int .i64 rh1, .int .i64 rp1, .int .i64 rl1] 25)) W → ((W.cell? ⟨w.heap.size, 0, none⟩ = some (.int .i64 qs1) ∧ W.cell? ⟨w.heap.size, 1, none⟩ = some (.int .i64 qi1) ∧ W.cell? ⟨w.heap.size, 2, none⟩ = some (.int .i64 qg1) ∧ W.cell? ⟨w.heap.size, 3, none⟩ = some (.int .i64 qm1) ∧ W.cell? ⟨w.heap.size, 4, none⟩ = some (.int .i64 qx1) ∧ W.cell? ⟨w.heap.size, 5, none⟩ = some (.int .i64 qy1) ∧ W.cell? ⟨w.heap.size, 6, none⟩ = some (.int .i64 qvx1) ∧ W.cell? ⟨w.heap.size, 7, none⟩ = some (.int .i64 qvy1) ∧ W.cell? ⟨w.heap.size, 8, none⟩ = some (.int .i64 qh1) ∧ W.cell? ⟨w.heap.size, 9, none⟩ = some (.int .i64 qp1) ∧ W.cell? ⟨w.heap.size, 10, none⟩ = some (.int .i64 ql1)) ∧ (W.cell? ⟨w.heap.size + 1, 0, none⟩ = some (.int .i64 rs1) ∧ W.cell? ⟨w.heap.size + 1, 1, none⟩ = some (.int .i64 ri1) ∧ W.cell? ⟨w.heap.size + 1, 2, none⟩ = some (.int .i64 rg1) ∧ W.cell? ⟨w.heap.size + 1, 3, none⟩ = some (.int .i64 rm1) ∧ W.cell? ⟨w.heap.size + 1, 4, none⟩ = some (.int .i64 rx1) ∧ W.cell? ⟨w.heap.size + 1, 5, none⟩ = some (.int .i64 ry1) ∧ W.cell? ⟨w.heap.size + 1, 6, none⟩ = some (.int .i64 rvx1) ∧ W.cell? ⟨w.heap.size + 1, 7, none⟩ = some (.int .i64 rvy1) ∧ W.cell? ⟨w.heap.size + 1, 8, none⟩ = some (.int .i64 rh1) ∧ W.cell? ⟨w.heap.size + 1, 9, none⟩ = some (.int .i64 rp1) ∧ W.cell? ⟨w.heap.size + 1, 10, none⟩ = some (.int .i64 rl1))) ∧ Below w.heap.size w W) := Lib.hid fun W hW => ⟨⟨(Bx.b11 ((hW.block _ (Bx.lt T0)).trans T0)).1, (Bx.b11 ((hW.block _ (Bx.lt T1)).trans T1)).1⟩, BE.trans (hW.mono BE.size)⟩
  have HB := Lib.hid (Below.refl ((w.alloc (.cells #[.int .i64 qs1, .int .i64 qi1, .int .i64 qg1, .int .i64 qm1, .int .i64 qx1, .int .i64 qy1, .int .i64 qvx1, .int .i64 qvy1, .int .i64 qh1, .int .i64 qp1, .int .i64 ql1] 25)).alloc (.cells #[.int .i64 rs1, .int .i64 ri1, .int .i64 rg1, .int .i64 rm1, .int .i64 rx1, .int .i64 ry1, .int .i64 rvx1, .int .i64 rvy1, .int .i64 rh1, .int .i64 rp1, .int .i64 rl1] 25)).heap.size ((w.alloc (.cells #[.int .i64 qs1, .int .i64 qi1, .int .i64 qg1, .int .i64 qm1, .int .i64 qx1, .int .i64 qy1, .int .i64 qvx1, .int .i64 qvy1, .int .i64 qh1, .int .i64 qp1, .int .i64 ql1] 25)).alloc (.cells #[.int .i64 rs1, .int .i64 ri1, .int .i64 rg1, .int .i64 rm1, .int .i64 rx1, .int .i64 ry1, .int .i64 rvx1, .int .i64 rvy1, .int .i64 rh1, .int .i64 rp1, .int .i64 rl1] 25)))
  clear T0 T1 BE
  go_enter Try.func8, Try.ntmps8
  go_upto_region 1 with fail
  generalize (w.alloc (.cells #[.int .i64 qs1, .int .i64 qi1, .int .i64 qg1, .int .i64 qm1, .int .i64 qx1, .int .i64 qy1, .int .i64 qvx1, .int .i64 qvy1, .int .i64 qh1, .int .i64 qp1, .int .i64 ql1] 25)).alloc (.cells #[.int .i64 rs1, .int .i64 ri1, .int .i64 rg1, .int .i64 rm1, .int .i64 rx1, .int .i64 ry1, .int .i64 rvx1, .int .i64 rvy1, .int .i64 rh1, .int .i64 rp1, .int .i64 rl1] 25) = w1 at *
  obtain ⟨⟨⟨k0_0, k0_1, k0_2, k0_3, k0_4, k0_5, k0_6, k0_7, k0_8, k0_9, k0_10⟩, ⟨k1_0, k1_1, k1_2, k1_3, k1_4, k1_5, k1_6, k1_7, k1_8, k1_9, k1_10⟩⟩, FB⟩ := CE.out w1 HB.out; replace FB := Lib.hid FB
  cases mb with
  | false =>
    clear C5 C6
    go_wp2_with (first
      | (go_at_call 13; with_reducible refine (C1.out _).mono ?_; rintro e w2 ⟨rfl, hb2⟩; clear k0_0 k0_1 k0_2 k0_3 k0_4 k0_5 k0_6 k0_7 k0_8 k0_9 k0_10 k1_0 k1_1 k1_2 k1_3 k1_4 k1_5 k1_6 k1_7 k1_8 k1_9 k1_10 FB ; replace HB := Lib.hid (HB.out.trans (hb2.mono HB.out.size)); obtain ⟨⟨⟨k0_0, k0_1, k0_2, k0_3, k0_4, k0_5, k0_6, k0_7, k0_8, k0_9, k0_10⟩, ⟨k1_0, k1_1, k1_2, k1_3, k1_4, k1_5, k1_6, k1_7, k1_8, k1_9, k1_10⟩⟩, FB⟩ := CE.out w2 HB.out; replace FB := Lib.hid FB; clear hb2)
      | (go_at_call 16; with_reducible refine (AW.out _).mono ?_; rintro e w2 ⟨rfl, hb2⟩; clear k0_0 k0_1 k0_2 k0_3 k0_4 k0_5 k0_6 k0_7 k0_8 k0_9 k0_10 k1_0 k1_1 k1_2 k1_3 k1_4 k1_5 k1_6 k1_7 k1_8 k1_9 k1_10 FB ; replace HB := Lib.hid (HB.out.trans (hb2.mono HB.out.size)); obtain ⟨⟨⟨k0_0, k0_1, k0_2, k0_3, k0_4, k0_5, k0_6, k0_7, k0_8, k0_9, k0_10⟩, ⟨k1_0, k1_1, k1_2, k1_3, k1_4, k1_5, k1_6, k1_7, k1_8, k1_9, k1_10⟩⟩, FB⟩ := CE.out w2 HB.out; replace FB := Lib.hid FB; clear hb2))
    go_ret
    exact ⟨rfl, FB.out⟩
  | true =>
    cases rc with
    | false =>
      clear C5 C6
      go_wp2_with (first
        | (go_at_call 13; with_reducible refine (C1.out _).mono ?_; rintro e w2 ⟨rfl, hb2⟩; clear k0_0 k0_1 k0_2 k0_3 k0_4 k0_5 k0_6 k0_7 k0_8 k0_9 k0_10 k1_0 k1_1 k1_2 k1_3 k1_4 k1_5 k1_6 k1_7 k1_8 k1_9 k1_10 FB ; replace HB := Lib.hid (HB.out.trans (hb2.mono HB.out.size)); obtain ⟨⟨⟨k0_0, k0_1, k0_2, k0_3, k0_4, k0_5, k0_6, k0_7, k0_8, k0_9, k0_10⟩, ⟨k1_0, k1_1, k1_2, k1_3, k1_4, k1_5, k1_6, k1_7, k1_8, k1_9, k1_10⟩⟩, FB⟩ := CE.out w2 HB.out; replace FB := Lib.hid FB; clear hb2)
        | (go_at_call 31; with_reducible refine (C2.out _).mono ?_; rintro e w2 ⟨rfl, hb2⟩; clear k0_0 k0_1 k0_2 k0_3 k0_4 k0_5 k0_6 k0_7 k0_8 k0_9 k0_10 k1_0 k1_1 k1_2 k1_3 k1_4 k1_5 k1_6 k1_7 k1_8 k1_9 k1_10 FB ; replace HB := Lib.hid (HB.out.trans (hb2.mono HB.out.size)); obtain ⟨⟨⟨k0_0, k0_1, k0_2, k0_3, k0_4, k0_5, k0_6, k0_7, k0_8, k0_9, k0_10⟩, ⟨k1_0, k1_1, k1_2, k1_3, k1_4, k1_5, k1_6, k1_7, k1_8, k1_9, k1_10⟩⟩, FB⟩ := CE.out w2 HB.out; replace FB := Lib.hid FB; clear hb2)
        | (go_at_call 16; with_reducible refine (AW.out _).mono ?_; rintro e w2 ⟨rfl, hb2⟩; clear k0_0 k0_1 k0_2 k0_3 k0_4 k0_5 k0_6 k0_7 k0_8 k0_9 k0_10 k1_0 k1_1 k1_2 k1_3 k1_4 k1_5 k1_6 k1_7 k1_8 k1_9 k1_10 FB ; replace HB := Lib.hid (HB.out.trans (hb2.mono HB.out.size)); obtain ⟨⟨⟨k0_0, k0_1, k0_2, k0_3, k0_4, k0_5, k0_6, k0_7, k0_8, k0_9, k0_10⟩, ⟨k1_0, k1_1, k1_2, k1_3, k1_4, k1_5, k1_6, k1_7, k1_8, k1_9, k1_10⟩⟩, FB⟩ := CE.out w2 HB.out; replace FB := Lib.hid FB; clear hb2))
      go_ret
      exact ⟨rfl, FB.out⟩
    | true =>
      replace C5 := Lib.hid (C5.out rfl rfl)
      replace C6 := Lib.hid (C6.out rfl)
      go_upto_region 4 with (first
        | (go_at_call 13; with_reducible refine (C1.out _).mono ?_; rintro e w2 ⟨rfl, hb2⟩; clear k0_0 k0_1 k0_2 k0_3 k0_4 k0_5 k0_6 k0_7 k0_8 k0_9 k0_10 k1_0 k1_1 k1_2 k1_3 k1_4 k1_5 k1_6 k1_7 k1_8 k1_9 k1_10 FB ; replace HB := Lib.hid (HB.out.trans (hb2.mono HB.out.size)); obtain ⟨⟨⟨k0_0, k0_1, k0_2, k0_3, k0_4, k0_5, k0_6, k0_7, k0_8, k0_9, k0_10⟩, ⟨k1_0, k1_1, k1_2, k1_3, k1_4, k1_5, k1_6, k1_7, k1_8, k1_9, k1_10⟩⟩, FB⟩ := CE.out w2 HB.out; replace FB := Lib.hid FB; clear hb2)
        | (go_at_call 31; with_reducible refine (C2.out _).mono ?_; rintro e w2 ⟨rfl, hb2⟩; clear k0_0 k0_1 k0_2 k0_3 k0_4 k0_5 k0_6 k0_7 k0_8 k0_9 k0_10 k1_0 k1_1 k1_2 k1_3 k1_4 k1_5 k1_6 k1_7 k1_8 k1_9 k1_10 FB ; replace HB := Lib.hid (HB.out.trans (hb2.mono HB.out.size)); obtain ⟨⟨⟨k0_0, k0_1, k0_2, k0_3, k0_4, k0_5, k0_6, k0_7, k0_8, k0_9, k0_10⟩, ⟨k1_0, k1_1, k1_2, k1_3, k1_4, k1_5, k1_6, k1_7, k1_8, k1_9, k1_10⟩⟩, FB⟩ := CE.out w2 HB.out; replace FB := Lib.hid FB; clear hb2)
        | (go_at_call 19; with_reducible refine (C3.out _).mono ?_; rintro e w2 ⟨rfl, hb2⟩; clear k0_0 k0_1 k0_2 k0_3 k0_4 k0_5 k0_6 k0_7 k0_8 k0_9 k0_10 k1_0 k1_1 k1_2 k1_3 k1_4 k1_5 k1_6 k1_7 k1_8 k1_9 k1_10 FB ; replace HB := Lib.hid (HB.out.trans (hb2.mono HB.out.size)); obtain ⟨⟨⟨k0_0, k0_1, k0_2, k0_3, k0_4, k0_5, k0_6, k0_7, k0_8, k0_9, k0_10⟩, ⟨k1_0, k1_1, k1_2, k1_3, k1_4, k1_5, k1_6, k1_7, k1_8, k1_9, k1_10⟩⟩, FB⟩ := CE.out w2 HB.out; replace FB := Lib.hid FB; clear hb2))
      have HA := Lib.hid (at1 w2 (.cells #[.int .i64 xs1, .int .i64 xi1, .int .i64 xg1, .int .i64 xm1, .int .i64 xx1, .int .i64 xy1, .int .i64 xvx1, .int .i64 xvy1, .int .i64 xh1, .int .i64 xp1, .int .i64 xl1] 25))
      have BA := bel1 w2 (.cells #[.int .i64 xs1, .int .i64 xi1, .int .i64 xg1, .int .i64 xm1, .int .i64 xx1, .int .i64 xy1, .int .i64 xvx1, .int .i64 xvy1, .int .i64 xh1, .int .i64 xp1, .int .i64 xl1] 25)
      replace HB := Lib.hid (HB.out.trans (BA.mono HB.out.size))
      clear k0_0 k0_1 k0_2 k0_3 k0_4 k0_5 k0_6 k0_7 k0_8 k0_9 k0_10 k1_0 k1_1 k1_2 k1_3 k1_4 k1_5 k1_6 k1_7 k1_8 k1_9 k1_10 FB
      clear BA
      generalize hbk : w2.heap.size = b7 at *
      clear hbk
      generalize w2.alloc (.cells #[.int .i64 xs1, .int .i64 xi1, .int .i64 xg1, .int .i64 xm1, .int .i64 xx1, .int .i64 xy1, .int .i64 xvx1, .int .i64 xvy1, .int .i64 xh1, .int .i64 xp1, .int .i64 xl1] 25) = V7 at *
      have H7 := HA
      clear HA
      obtain ⟨⟨⟨k0_0, k0_1, k0_2, k0_3, k0_4, k0_5, k0_6, k0_7, k0_8, k0_9, k0_10⟩, ⟨k1_0, k1_1, k1_2, k1_3, k1_4, k1_5, k1_6, k1_7, k1_8, k1_9, k1_10⟩⟩, FB⟩ := CE.out V7 HB.out; replace FB := Lib.hid FB
      obtain ⟨⟨d7_0, d7_1, d7_2, d7_3, d7_4, d7_5, d7_6, d7_7, d7_8, d7_9, d7_10⟩, _⟩ := Bx.b11 H7.out
      go_upto_region 5 with (go_at_call 21; with_reducible refine (C4.out _).mono ?_; rintro e w2 ⟨rfl, hb2⟩; clear k0_0 k0_1 k0_2 k0_3 k0_4 k0_5 k0_6 k0_7 k0_8 k0_9 k0_10 k1_0 k1_1 k1_2 k1_3 k1_4 k1_5 k1_6 k1_7 k1_8 k1_9 k1_10 FB d7_0 d7_1 d7_2 d7_3 d7_4 d7_5 d7_6 d7_7 d7_8 d7_9 d7_10; replace HB := Lib.hid (HB.out.trans (hb2.mono HB.out.size)); obtain ⟨⟨⟨k0_0, k0_1, k0_2, k0_3, k0_4, k0_5, k0_6, k0_7, k0_8, k0_9, k0_10⟩, ⟨k1_0, k1_1, k1_2, k1_3, k1_4, k1_5, k1_6, k1_7, k1_8, k1_9, k1_10⟩⟩, FB⟩ := CE.out w2 HB.out; replace FB := Lib.hid FB; replace H7 := Lib.hid ((hb2.block _ (Bx.lt H7.out)).trans H7.out); obtain ⟨⟨d7_0, d7_1, d7_2, d7_3, d7_4, d7_5, d7_6, d7_7, d7_8, d7_9, d7_10⟩, _⟩ := Bx.b11 H7.out; clear hb2)
      have HA := Lib.hid (at1 w2 (.cells #[.int .i64 ys1, .int .i64 yi1, .int .i64 yg1, .int .i64 ym1, .int .i64 yx1, .int .i64 yy1, .int .i64 yvx1, .int .i64 yvy1, .int .i64 yh1, .int .i64 yp1, .int .i64 yl1] 25))
      have BA := bel1 w2 (.cells #[.int .i64 ys1, .int .i64 yi1, .int .i64 yg1, .int .i64 ym1, .int .i64 yx1, .int .i64 yy1, .int .i64 yvx1, .int .i64 yvy1, .int .i64 yh1, .int .i64 yp1, .int .i64 yl1] 25)
      replace HB := Lib.hid (HB.out.trans (BA.mono HB.out.size))
      clear k0_0 k0_1 k0_2 k0_3 k0_4 k0_5 k0_6 k0_7 k0_8 k0_9 k0_10 k1_0 k1_1 k1_2 k1_3 k1_4 k1_5 k1_6 k1_7 k1_8 k1_9 k1_10 FB d7_0 d7_1 d7_2 d7_3 d7_4 d7_5 d7_6 d7_7 d7_8 d7_9 d7_10
      replace H7 := Lib.hid ((BA.block _ (Bx.lt H7.out)).trans H7.out)
      clear BA
      generalize hbk : w2.heap.size = b8 at *
      clear hbk
      generalize w2.alloc (.cells #[.int .i64 ys1, .int .i64 yi1, .int .i64 yg1, .int .i64 ym1, .int .i64 yx1, .int .i64 yy1, .int .i64 yvx1, .int .i64 yvy1, .int .i64 yh1, .int .i64 yp1, .int .i64 yl1] 25) = V8 at *
      have H8 := HA
      clear HA
      obtain ⟨⟨⟨k0_0, k0_1, k0_2, k0_3, k0_4, k0_5, k0_6, k0_7, k0_8, k0_9, k0_10⟩, ⟨k1_0, k1_1, k1_2, k1_3, k1_4, k1_5, k1_6, k1_7, k1_8, k1_9, k1_10⟩⟩, FB⟩ := CE.out V8 HB.out; replace FB := Lib.hid FB
      obtain ⟨⟨d7_0, d7_1, d7_2, d7_3, d7_4, d7_5, d7_6, d7_7, d7_8, d7_9, d7_10⟩, _⟩ := Bx.b11 H7.out
      obtain ⟨⟨d8_0, d8_1, d8_2, d8_3, d8_4, d8_5, d8_6, d8_7, d8_8, d8_9, d8_10⟩, _⟩ := Bx.b11 H8.out
      clear C1 C2 C3 C4
      cases t with
      | false =>
        have g1 : (r1 == 0) = true := e1
        have g2 : e6 = 0 := he6.symm
        subst g2
        clear he6
        clear e1
        go_wp2_with (first
          | (go_at_call 11; with_reducible refine (C5.out _).mono ?_; rintro e w2 ⟨rfl, hb2⟩; clear k0_0 k0_1 k0_2 k0_3 k0_4 k0_5 k0_6 k0_7 k0_8 k0_9 k0_10 k1_0 k1_1 k1_2 k1_3 k1_4 k1_5 k1_6 k1_7 k1_8 k1_9 k1_10 FB d7_0 d7_1 d7_2 d7_3 d7_4 d7_5 d7_6 d7_7 d7_8 d7_9 d7_10 d8_0 d8_1 d8_2 d8_3 d8_4 d8_5 d8_6 d8_7 d8_8 d8_9 d8_10; replace HB := Lib.hid (HB.out.trans (hb2.mono HB.out.size)); obtain ⟨⟨⟨k0_0, k0_1, k0_2, k0_3, k0_4, k0_5, k0_6, k0_7, k0_8, k0_9, k0_10⟩, ⟨k1_0, k1_1, k1_2, k1_3, k1_4, k1_5, k1_6, k1_7, k1_8, k1_9, k1_10⟩⟩, FB⟩ := CE.out w2 HB.out; replace FB := Lib.hid FB; replace H7 := Lib.hid ((hb2.block _ (Bx.lt H7.out)).trans H7.out); obtain ⟨⟨d7_0, d7_1, d7_2, d7_3, d7_4, d7_5, d7_6, d7_7, d7_8, d7_9, d7_10⟩, _⟩ := Bx.b11 H7.out; replace H8 := Lib.hid ((hb2.block _ (Bx.lt H8.out)).trans H8.out); obtain ⟨⟨d8_0, d8_1, d8_2, d8_3, d8_4, d8_5, d8_6, d8_7, d8_8, d8_9, d8_10⟩, _⟩ := Bx.b11 H8.out; clear hb2)
          | (go_at_call 11; with_reducible refine (C6.out _).mono ?_; rintro e w2 ⟨rfl, hb2⟩; clear k0_0 k0_1 k0_2 k0_3 k0_4 k0_5 k0_6 k0_7 k0_8 k0_9 k0_10 k1_0 k1_1 k1_2 k1_3 k1_4 k1_5 k1_6 k1_7 k1_8 k1_9 k1_10 FB d7_0 d7_1 d7_2 d7_3 d7_4 d7_5 d7_6 d7_7 d7_8 d7_9 d7_10 d8_0 d8_1 d8_2 d8_3 d8_4 d8_5 d8_6 d8_7 d8_8 d8_9 d8_10; replace HB := Lib.hid (HB.out.trans (hb2.mono HB.out.size)); obtain ⟨⟨⟨k0_0, k0_1, k0_2, k0_3, k0_4, k0_5, k0_6, k0_7, k0_8, k0_9, k0_10⟩, ⟨k1_0, k1_1, k1_2, k1_3, k1_4, k1_5, k1_6, k1_7, k1_8, k1_9, k1_10⟩⟩, FB⟩ := CE.out w2 HB.out; replace FB := Lib.hid FB; replace H7 := Lib.hid ((hb2.block _ (Bx.lt H7.out)).trans H7.out); obtain ⟨⟨d7_0, d7_1, d7_2, d7_3, d7_4, d7_5, d7_6, d7_7, d7_8, d7_9, d7_10⟩, _⟩ := Bx.b11 H7.out; replace H8 := Lib.hid ((hb2.block _ (Bx.lt H8.out)).trans H8.out); obtain ⟨⟨d8_0, d8_1, d8_2, d8_3, d8_4, d8_5, d8_6, d8_7, d8_8, d8_9, d8_10⟩, _⟩ := Bx.b11 H8.out; clear hb2)
          | (go_at_call 23; with_reducible refine (C7.out _).mono ?_; rintro e w2 ⟨rfl, hb2⟩; clear k0_0 k0_1 k0_2 k0_3 k0_4 k0_5 k0_6 k0_7 k0_8 k0_9 k0_10 k1_0 k1_1 k1_2 k1_3 k1_4 k1_5 k1_6 k1_7 k1_8 k1_9 k1_10 FB d7_0 d7_1 d7_2 d7_3 d7_4 d7_5 d7_6 d7_7 d7_8 d7_9 d7_10 d8_0 d8_1 d8_2 d8_3 d8_4 d8_5 d8_6 d8_7 d8_8 d8_9 d8_10; replace HB := Lib.hid (HB.out.trans (hb2.mono HB.out.size)); obtain ⟨⟨⟨k0_0, k0_1, k0_2, k0_3, k0_4, k0_5, k0_6, k0_7, k0_8, k0_9, k0_10⟩, ⟨k1_0, k1_1, k1_2, k1_3, k1_4, k1_5, k1_6, k1_7, k1_8, k1_9, k1_10⟩⟩, FB⟩ := CE.out w2 HB.out; replace FB := Lib.hid FB; replace H7 := Lib.hid ((hb2.block _ (Bx.lt H7.out)).trans H7.out); obtain ⟨⟨d7_0, d7_1, d7_2, d7_3, d7_4, d7_5, d7_6, d7_7, d7_8, d7_9, d7_10⟩, _⟩ := Bx.b11 H7.out; replace H8 := Lib.hid ((hb2.block _ (Bx.lt H8.out)).trans H8.out); obtain ⟨⟨d8_0, d8_1, d8_2, d8_3, d8_4, d8_5, d8_6, d8_7, d8_8, d8_9, d8_10⟩, _⟩ := Bx.b11 H8.out; clear hb2)
          | (go_at_call 23; with_reducible refine (C8.out _).mono ?_; rintro e w2 ⟨rfl, hb2⟩; clear k0_0 k0_1 k0_2 k0_3 k0_4 k0_5 k0_6 k0_7 k0_8 k0_9 k0_10 k1_0 k1_1 k1_2 k1_3 k1_4 k1_5 k1_6 k1_7 k1_8 k1_9 k1_10 FB d7_0 d7_1 d7_2 d7_3 d7_4 d7_5 d7_6 d7_7 d7_8 d7_9 d7_10 d8_0 d8_1 d8_2 d8_3 d8_4 d8_5 d8_6 d8_7 d8_8 d8_9 d8_10; replace HB := Lib.hid (HB.out.trans (hb2.mono HB.out.size)); obtain ⟨⟨⟨k0_0, k0_1, k0_2, k0_3, k0_4, k0_5, k0_6, k0_7, k0_8, k0_9, k0_10⟩, ⟨k1_0, k1_1, k1_2, k1_3, k1_4, k1_5, k1_6, k1_7, k1_8, k1_9, k1_10⟩⟩, FB⟩ := CE.out w2 HB.out; replace FB := Lib.hid FB; replace H7 := Lib.hid ((hb2.block _ (Bx.lt H7.out)).trans H7.out); obtain ⟨⟨d7_0, d7_1, d7_2, d7_3, d7_4, d7_5, d7_6, d7_7, d7_8, d7_9, d7_10⟩, _⟩ := Bx.b11 H7.out; replace H8 := Lib.hid ((hb2.block _ (Bx.lt H8.out)).trans H8.out); obtain ⟨⟨d8_0, d8_1, d8_2, d8_3, d8_4, d8_5, d8_6, d8_7, d8_8, d8_9, d8_10⟩, _⟩ := Bx.b11 H8.out; clear hb2)
          | (go_at_call 16; with_reducible refine (AW.out _).mono ?_; rintro e w2 ⟨rfl, hb2⟩; clear k0_0 k0_1 k0_2 k0_3 k0_4 k0_5 k0_6 k0_7 k0_8 k0_9 k0_10 k1_0 k1_1 k1_2 k1_3 k1_4 k1_5 k1_6 k1_7 k1_8 k1_9 k1_10 FB d7_0 d7_1 d7_2 d7_3 d7_4 d7_5 d7_6 d7_7 d7_8 d7_9 d7_10 d8_0 d8_1 d8_2 d8_3 d8_4 d8_5 d8_6 d8_7 d8_8 d8_9 d8_10; replace HB := Lib.hid (HB.out.trans (hb2.mono HB.out.size)); obtain ⟨⟨⟨k0_0, k0_1, k0_2, k0_3, k0_4, k0_5, k0_6, k0_7, k0_8, k0_9, k0_10⟩, ⟨k1_0, k1_1, k1_2, k1_3, k1_4, k1_5, k1_6, k1_7, k1_8, k1_9, k1_10⟩⟩, FB⟩ := CE.out w2 HB.out; replace FB := Lib.hid FB; replace H7 := Lib.hid ((hb2.block _ (Bx.lt H7.out)).trans H7.out); obtain ⟨⟨d7_0, d7_1, d7_2, d7_3, d7_4, d7_5, d7_6, d7_7, d7_8, d7_9, d7_10⟩, _⟩ := Bx.b11 H7.out; replace H8 := Lib.hid ((hb2.block _ (Bx.lt H8.out)).trans H8.out); obtain ⟨⟨d8_0, d8_1, d8_2, d8_3, d8_4, d8_5, d8_6, d8_7, d8_8, d8_9, d8_10⟩, _⟩ := Bx.b11 H8.out; clear hb2))
        refine ⟨rfl, .bool true, ?_, rfl, FB.out⟩
        simp [results, Try.results8, go_sem]
      | true =>
        have g1 : (r1 == 0) = false := e1
        have g2 : e6 = 1 := he6.symm
        subst g2
        clear he6
        clear e1
        go_wp2_with (first
          | (go_at_call 11; with_reducible refine (C5.out _).mono ?_; rintro e w2 ⟨rfl, hb2⟩; clear k0_0 k0_1 k0_2 k0_3 k0_4 k0_5 k0_6 k0_7 k0_8 k0_9 k0_10 k1_0 k1_1 k1_2 k1_3 k1_4 k1_5 k1_6 k1_7 k1_8 k1_9 k1_10 FB d7_0 d7_1 d7_2 d7_3 d7_4 d7_5 d7_6 d7_7 d7_8 d7_9 d7_10 d8_0 d8_1 d8_2 d8_3 d8_4 d8_5 d8_6 d8_7 d8_8 d8_9 d8_10; replace HB := Lib.hid (HB.out.trans (hb2.mono HB.out.size)); obtain ⟨⟨⟨k0_0, k0_1, k0_2, k0_3, k0_4, k0_5, k0_6, k0_7, k0_8, k0_9, k0_10⟩, ⟨k1_0, k1_1, k1_2, k1_3, k1_4, k1_5, k1_6, k1_7, k1_8, k1_9, k1_10⟩⟩, FB⟩ := CE.out w2 HB.out; replace FB := Lib.hid FB; replace H7 := Lib.hid ((hb2.block _ (Bx.lt H7.out)).trans H7.out); obtain ⟨⟨d7_0, d7_1, d7_2, d7_3, d7_4, d7_5, d7_6, d7_7, d7_8, d7_9, d7_10⟩, _⟩ := Bx.b11 H7.out; replace H8 := Lib.hid ((hb2.block _ (Bx.lt H8.out)).trans H8.out); obtain ⟨⟨d8_0, d8_1, d8_2, d8_3, d8_4, d8_5, d8_6, d8_7, d8_8, d8_9, d8_10⟩, _⟩ := Bx.b11 H8.out; clear hb2)
          | (go_at_call 11; with_reducible refine (C6.out _).mono ?_; rintro e w2 ⟨rfl, hb2⟩; clear k0_0 k0_1 k0_2 k0_3 k0_4 k0_5 k0_6 k0_7 k0_8 k0_9 k0_10 k1_0 k1_1 k1_2 k1_3 k1_4 k1_5 k1_6 k1_7 k1_8 k1_9 k1_10 FB d7_0 d7_1 d7_2 d7_3 d7_4 d7_5 d7_6 d7_7 d7_8 d7_9 d7_10 d8_0 d8_1 d8_2 d8_3 d8_4 d8_5 d8_6 d8_7 d8_8 d8_9 d8_10; replace HB := Lib.hid (HB.out.trans (hb2.mono HB.out.size)); obtain ⟨⟨⟨k0_0, k0_1, k0_2, k0_3, k0_4, k0_5, k0_6, k0_7, k0_8, k0_9, k0_10⟩, ⟨k1_0, k1_1, k1_2, k1_3, k1_4, k1_5, k1_6, k1_7, k1_8, k1_9, k1_10⟩⟩, FB⟩ := CE.out w2 HB.out; replace FB := Lib.hid FB; replace H7 := Lib.hid ((hb2.block _ (Bx.lt H7.out)).trans H7.out); obtain ⟨⟨d7_0, d7_1, d7_2, d7_3, d7_4, d7_5, d7_6, d7_7, d7_8, d7_9, d7_10⟩, _⟩ := Bx.b11 H7.out; replace H8 := Lib.hid ((hb2.block _ (Bx.lt H8.out)).trans H8.out); obtain ⟨⟨d8_0, d8_1, d8_2, d8_3, d8_4, d8_5, d8_6, d8_7, d8_8, d8_9, d8_10⟩, _⟩ := Bx.b11 H8.out; clear hb2)
          | (go_at_call 23; with_reducible refine (C7.out _).mono ?_; rintro e w2 ⟨rfl, hb2⟩; clear k0_0 k0_1 k0_2 k0_3 k0_4 k0_5 k0_6 k0_7 k0_8 k0_9 k0_10 k1_0 k1_1 k1_2 k1_3 k1_4 k1_5 k1_6 k1_7 k1_8 k1_9 k1_10 FB d7_0 d7_1 d7_2 d7_3 d7_4 d7_5 d7_6 d7_7 d7_8 d7_9 d7_10 d8_0 d8_1 d8_2 d8_3 d8_4 d8_5 d8_6 d8_7 d8_8 d8_9 d8_10; replace HB := Lib.hid (HB.out.trans (hb2.mono HB.out.size)); obtain ⟨⟨⟨k0_0, k0_1, k0_2, k0_3, k0_4, k0_5, k0_6, k0_7, k0_8, k0_9, k0_10⟩, ⟨k1_0, k1_1, k1_2, k1_3, k1_4, k1_5, k1_6, k1_7, k1_8, k1_9, k1_10⟩⟩, FB⟩ := CE.out w2 HB.out; replace FB := Lib.hid FB; replace H7 := Lib.hid ((hb2.block _ (Bx.lt H7.out)).trans H7.out); obtain ⟨⟨d7_0, d7_1, d7_2, d7_3, d7_4, d7_5, d7_6, d7_7, d7_8, d7_9, d7_10⟩, _⟩ := Bx.b11 H7.out; replace H8 := Lib.hid ((hb2.block _ (Bx.lt H8.out)).trans H8.out); obtain ⟨⟨d8_0, d8_1, d8_2, d8_3, d8_4, d8_5, d8_6, d8_7, d8_8, d8_9, d8_10⟩, _⟩ := Bx.b11 H8.out; clear hb2)
          | (go_at_call 23; with_reducible refine (C8.out _).mono ?_; rintro e w2 ⟨rfl, hb2⟩; clear k0_0 k0_1 k0_2 k0_3 k0_4 k0_5 k0_6 k0_7 k0_8 k0_9 k0_10 k1_0 k1_1 k1_2 k1_3 k1_4 k1_5 k1_6 k1_7 k1_8 k1_9 k1_10 FB d7_0 d7_1 d7_2 d7_3 d7_4 d7_5 d7_6 d7_7 d7_8 d7_9 d7_10 d8_0 d8_1 d8_2 d8_3 d8_4 d8_5 d8_6 d8_7 d8_8 d8_9 d8_10; replace HB := Lib.hid (HB.out.trans (hb2.mono HB.out.size)); obtain ⟨⟨⟨k0_0, k0_1, k0_2, k0_3, k0_4, k0_5, k0_6, k0_7, k0_8, k0_9, k0_10⟩, ⟨k1_0, k1_1, k1_2, k1_3, k1_4, k1_5, k1_6, k1_7, k1_8, k1_9, k1_10⟩⟩, FB⟩ := CE.out w2 HB.out; replace FB := Lib.hid FB; replace H7 := Lib.hid ((hb2.block _ (Bx.lt H7.out)).trans H7.out); obtain ⟨⟨d7_0, d7_1, d7_2, d7_3, d7_4, d7_5, d7_6, d7_7, d7_8, d7_9, d7_10⟩, _⟩ := Bx.b11 H7.out; replace H8 := Lib.hid ((hb2.block _ (Bx.lt H8.out)).trans H8.out); obtain ⟨⟨d8_0, d8_1, d8_2, d8_3, d8_4, d8_5, d8_6, d8_7, d8_8, d8_9, d8_10⟩, _⟩ := Bx.b11 H8.out; clear hb2)
          | (go_at_call 16; with_reducible refine (AW.out _).mono ?_; rintro e w2 ⟨rfl, hb2⟩; clear k0_0 k0_1 k0_2 k0_3 k0_4 k0_5 k0_6 k0_7 k0_8 k0_9 k0_10 k1_0 k1_1 k1_2 k1_3 k1_4 k1_5 k1_6 k1_7 k1_8 k1_9 k1_10 FB d7_0 d7_1 d7_2 d7_3 d7_4 d7_5 d7_6 d7_7 d7_8 d7_9 d7_10 d8_0 d8_1 d8_2 d8_3 d8_4 d8_5 d8_6 d8_7 d8_8 d8_9 d8_10; replace HB := Lib.hid (HB.out.trans (hb2.mono HB.out.size)); obtain ⟨⟨⟨k0_0, k0_1, k0_2, k0_3, k0_4, k0_5, k0_6, k0_7, k0_8, k0_9, k0_10⟩, ⟨k1_0, k1_1, k1_2, k1_3, k1_4, k1_5, k1_6, k1_7, k1_8, k1_9, k1_10⟩⟩, FB⟩ := CE.out w2 HB.out; replace FB := Lib.hid FB; replace H7 := Lib.hid ((hb2.block _ (Bx.lt H7.out)).trans H7.out); obtain ⟨⟨d7_0, d7_1, d7_2, d7_3, d7_4, d7_5, d7_6, d7_7, d7_8, d7_9, d7_10⟩, _⟩ := Bx.b11 H7.out; replace H8 := Lib.hid ((hb2.block _ (Bx.lt H8.out)).trans H8.out); obtain ⟨⟨d8_0, d8_1, d8_2, d8_3, d8_4, d8_5, d8_6, d8_7, d8_8, d8_9, d8_10⟩, _⟩ := Bx.b11 H8.out; clear hb2))
        refine ⟨rfl, .bool true, ?_, rfl, FB.out⟩
        simp [results, Try.results8, go_sem]
end Go.Proofs.Ytookmjdnmmfkfaa
