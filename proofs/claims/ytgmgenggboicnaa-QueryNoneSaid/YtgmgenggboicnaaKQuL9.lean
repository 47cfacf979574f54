/- The law QueryNone, walked. Written by wip/tools/genquL8.py. -/
import Derived.Test.YtgmgenggboicnaaKQuF
import Derived.Test.YtgmgenggboicnaaKQuE
import Derived.Test.YtgmgenggboicnaaKQuG
namespace Go.Proofs.Ytgmgenggboicnaa
open Go.RowKit Go.Shelf Pz Ar Qu
set_option linter.unusedVariables false
set_option linter.unusedSimpArgs false

theorem told_none (q0 q1 : Int) (P : Bn → Bool) : told q0 q1 P [] = [] := List.eq_nil_of_length_eq_zero (Nat.le_zero.1 (told_le q0 q1 P []))
theorem nears_none (q0 q1 X Y D : Int) : nears q0 q1 X Y D [] = [] := List.eq_nil_of_length_eq_zero (by rw [nears_len, told_none]; rfl)
set_option maxHeartbeats 16000000 in
set_option maxRecDepth 100000 in
theorem law_none (w : World) (q0 q1 : Int) (h0 : Fit q0) (h1 : Fit q1) (X Y D : Int) (hX : Fit X) (hY : Fit Y) (hD : Fit D) :
    Calls Try.prog 14 #[qV q0 q1, .agg #[.int .i64 X, .int .i64 Y, .int .i64 D]] w fun e w' => e = .returned (.bool true) ∧ Below w.heap.size w w' := by
  have BE0 := bel2 w (.cells #[.int .i64 q0, .int .i64 q1] QTY) (.cells #[.int .i64 X, .int .i64 Y, .int .i64 D] 69)
  have T0 := at2a w (.cells #[.int .i64 q0, .int .i64 q1] QTY) (.cells #[.int .i64 X, .int .i64 Y, .int .i64 D] 69)
  have T1 := at2b w (.cells #[.int .i64 q0, .int .i64 q1] QTY) (.cells #[.int .i64 X, .int .i64 Y, .int .i64 D] 69)
  have AW := Lib.hid qawake_any
  obtain ⟨nd, hnd⟩ : ∃ nd, IntKind.i64.wrap (-D) = nd := ⟨_, rfl⟩
  have hn : I nd := by
    rw [← hnd]
    by_cases e : D = -9223372036854775808
    · subst e
      exact ⟨by decide, by decide⟩
    · rw [IntWalk.i64_in _ (by have := hD.1; have := hD.2; omega)]
      exact ⟨by have := hD.2; omega, by have := hD.1; omega⟩
  have C1 : Hid (∀ V, Calls Try.prog 34 #[.pointer none, qV q0 q1] V fun e w' => ∃ A c, e = .returned (.slice A 0 c) ∧ Below V.heap.size V w') := Lib.hid fun V => by
    refine (qids_any (fun U _ => nil_src U) q0 q1).mono ?_
    rintro e W ⟨A, c, rfl, _, hb⟩
    exact ⟨A, c, by rw [told_none]; rfl, hb⟩
  have C2 : Hid (∀ V, Calls Try.prog 36 #[.pointer none, qV q0 q1] V fun e w' => e = .returned (.int .i64 0) ∧ Below V.heap.size V w') := Lib.hid fun V => qcount_any (nil_src V) q0 q1
  have C3 : Hid (∀ V, Calls Try.prog 38 #[.pointer none, qV q0 q1, .int .i64 9] V fun e w' => ∃ A c, e = .returned (.slice A 0 c) ∧ Below V.heap.size V w') := Lib.hid fun V => by
    have := qall_any (fun U (_ : Below V.heap.size V U) => nil_src U) q0 q1 9 (by decide)
    rw [told_none] at this
    refine Calls.mono this ?_
    rintro e W ⟨A, c, rfl, _, hb⟩
    exact ⟨A, c, rfl, hb⟩
  have C4 : Hid (∀ V, Calls Try.prog 39 #[.pointer none, qV q0 q1, .agg #[.int .i64 nd, .int .i64 0, .int .i64 X, .int .i64 Y]] V fun e w' => ∃ A c, e = .returned (.slice A 0 c) ∧ Below V.heap.size V w') := Lib.hid fun V => by
    refine (qwithin_any (fun U _ => nil_src U) q0 q1 hn ⟨by decide, by decide⟩ hX hY).mono ?_
    rintro e W ⟨A, c, rfl, _, hb⟩
    exact ⟨A, c, by rw [told_none]; rfl, hb⟩
  have C5 : Hid (∀ V, Calls Try.prog 41 #[.pointer none, qV q0 q1, .int .i64 X, .int .i64 Y, .int .i64 D] V fun e w' => ∃ A c, e = .returned (.slice A 0 c) ∧ Below V.heap.size V w') := Lib.hid fun V => by
    refine (qnear_any (fun U _ => nil_src U) q0 q1 X Y D).mono ?_
    rintro e W ⟨A, c, rfl, _, hb⟩
    exact ⟨A, c, by rw [nears_none]; rfl, hb⟩
  clear hn hX hY hD h0 h1
  go_enter Try.func14, Try.ntmps14
  go_upto_region 1 with fail
  generalize (w.alloc (.cells #[.int .i64 q0, .int .i64 q1] QTY)).alloc (.cells #[.int .i64 X, .int .i64 Y, .int .i64 D] 69) = w1 at *
  have QB : Hid (∀ V, Below w1.heap.size w1 V → (V.cell? ⟨w.heap.size, 0, none⟩ = some (.int .i64 q0) ∧ V.cell? ⟨w.heap.size, 1, none⟩ = some (.int .i64 q1)) ∧ (V.cell? ⟨w.heap.size + 1, 0, none⟩ = some (.int .i64 X) ∧ V.cell? ⟨w.heap.size + 1, 1, none⟩ = some (.int .i64 Y) ∧ V.cell? ⟨w.heap.size + 1, 2, none⟩ = some (.int .i64 D))) := Lib.hid fun V hV => ⟨(Bx.b2 ((hV.block _ (Bx.lt T0)).trans T0)).1, (Bx.b3 ((hV.block _ (Bx.lt T1)).trans T1)).1⟩
  have BE := Lib.hid BE0
  clear T0 T1 BE0
  obtain ⟨⟨k0, k1⟩, ⟨k2, k3, k4⟩⟩ := QB.out w1 (Below.refl _ _)
  go_wp2_with (first
    | (go_at_call 34; refine (C1.out _).mono ?_; rintro e w2 ⟨A2, c2, rfl, B2⟩; clear C1 k0 k1 k2 k3 k4; obtain ⟨⟨k0, k1⟩, ⟨k2, k3, k4⟩⟩ := QB.out _ B2)
    | (go_at_call 36; refine (C2.out _).mono ?_; rintro e w3 ⟨rfl, b3⟩; have B3 := B2.trans (b3.mono B2.size); clear C2 k0 k1 k2 k3 k4 b3 B2; obtain ⟨⟨k0, k1⟩, ⟨k2, k3, k4⟩⟩ := QB.out _ B3)
    | (go_at_call 38; refine (C3.out _).mono ?_; rintro e w4 ⟨A4, c4, rfl, b4⟩; have B4 := B3.trans (b4.mono B3.size); clear C3 k0 k1 k2 k3 k4 b4 B3; obtain ⟨⟨k0, k1⟩, ⟨k2, k3, k4⟩⟩ := QB.out _ B4)
    | (go_at_call 39; refine (C4.out _).mono ?_; rintro e w5 ⟨A5, c5, rfl, b5⟩; have B5 := B4.trans (b5.mono B4.size); clear C4 k0 k1 k2 k3 k4 b5 B4; obtain ⟨⟨k0, k1⟩, ⟨k2, k3, k4⟩⟩ := QB.out _ B5)
    | (go_at_call 41; refine (C5.out _).mono ?_; rintro e w6 ⟨A6, c6, rfl, b6⟩; have B6 := B5.trans (b6.mono B5.size); clear C5 k0 k1 k2 k3 k4 b6 B5)
    | (go_at_call 30; refine (AW.out _).mono ?_; rintro e w7 ⟨rfl, b7⟩; have B7 := B6.trans (b7.mono B6.size); clear AW))
  go_ret
  exact ⟨rfl, BE.out.trans (B7.mono BE.out.size)⟩
end Go.Proofs.Ytgmgenggboicnaa
