/- The law ArchNone, walked. Written by wip/tools/gennone.py. -/
import Derived.Test.YteohkbepefjjlaaKArAwake
import Derived.Test.YteohkbepefjjlaaKPcOpen
import Derived.Test.YteohkbepefjjlaaKArAllT
import Derived.Test.YteohkbepefjjlaaKArCopy
import Derived.Test.YteohkbepefjjlaaKTwo
namespace Go.Proofs.Yteohkbepefjjlaa
open Go.RowKit Pz Ar
set_option linter.unusedVariables false
set_option linter.unusedSimpArgs false

theorem nil_all (w : World) : Calls Try.prog 23 #[.pointer none, .int .i64 5] w fun e w' => (∃ A c, e = .returned (.slice A 0 c)) ∧ Below w.heap.size w w' := by
  have h := all_of (nil_yields w) (.inl rfl) 5 (by decide) (by decide)
  exact h.mono fun e V ⟨A, c, e1, _, hb⟩ => ⟨⟨A, c, e1⟩, hb⟩
set_option maxHeartbeats 16000000 in
set_option maxRecDepth 100000 in
theorem law_none (w : World) (b : Bn) : Calls Try.prog 10 #[b.val] w fun e w' => e = .returned (.bool true) ∧ Below w.heap.size w w' := by
  obtain ⟨bs, bi, bg, bm, bx, bY, bvx, bvy, bh, bp, bl⟩ := b
  have h0 := (hb_new w).hold (.cells #[.int .i64 bs, .int .i64 bi, .int .i64 bg, .int .i64 bm, .int .i64 bx, .int .i64 bY, .int .i64 bvx, .int .i64 bvy, .int .i64 bh, .int .i64 bp, .int .i64 bl] 35)
  obtain ⟨⟨c0, c1, c2, c3, c4, c5, c6, c7, c8, c9, c10⟩, _⟩ := Bx.b11 (h0.held (x := (w.heap.size, .cells #[.int .i64 bs, .int .i64 bi, .int .i64 bg, .int .i64 bm, .int .i64 bx, .int .i64 bY, .int .i64 bvx, .int .i64 bvy, .int .i64 bh, .int .i64 bp, .int .i64 bl] 35 (0, 0))) (by simp))
  have GN := Lib.hid fun W => get_nil W bs bi bg
  have RN := Lib.hid fun W => row_nil W bs bi bg
  have CN := Lib.hid copy_nil
  have PN := Lib.hid fun W => cput_nil W ⟨bs, bi, bg, bm, bx, bY, bvx, bvy, bh, bp, bl⟩
  have WN := Lib.hid fun W => cwrite_nil W ⟨bs, bi, bg, bm, bx, bY, bvx, bvy, bh, bp, bl⟩
  have MN := Lib.hid fun W => remove_nil W bs bi bg
  have AN := Lib.hid nil_all
  have AW := Lib.hid awake_any
  have EQ := eq_bundle 0 0 0 0 0 0 0 0 0 0 0 0 0 0 0 0 0 0 0 0 0 0
  simp at EQ
  have LN : Hid (∀ (F : Foot) p W V, CS F p (fun _ => []) W → Below W.heap.size W V → Calls Try.prog 22 #[.pointer (some ⟨p, 0, none⟩)] V fun e V' => e = .returned (.int .i64 0) ∧ V = V') := Lib.hid fun F p W V h hb => by
    have := len_any (h.below hb)
    rw [show total (fun _ => []) = 0 by decide +kernel] at this
    exact this
  simp only [Bn.val, rowV, zeroB] at *
  go_enter Try.func10, Try.ntmps10
  go_wp2_with (first
    | (go_at_call 15; refine (GN.out _).mono ?_; rintro e w1 ⟨rfl, b1⟩; have h1 := (h0.below b1).hold (.cells #[.int .i64 0, .int .i64 0, .int .i64 0, .int .i64 0, .int .i64 0, .int .i64 0, .int .i64 0, .int .i64 0, .int .i64 0, .int .i64 0, .int .i64 0] 35); clear h0 b1 c0 c1 c2 c3 c4 c5 c6 c7 c8 c9 c10; obtain ⟨⟨c0, c1, c2, c3, c4, c5, c6, c7, c8, c9, c10⟩, _⟩ := Bx.b11 (h1.held (x := (w.heap.size, .cells #[.int .i64 bs, .int .i64 bi, .int .i64 bg, .int .i64 bm, .int .i64 bx, .int .i64 bY, .int .i64 bvx, .int .i64 bvy, .int .i64 bh, .int .i64 bp, .int .i64 bl] 35 (0, 0))) (by simp)))
    | (go_at_call 20; refine (RN.out _).mono ?_; rintro e w2 ⟨rfl, b2⟩; have h2 := h1.below b2; clear h1 b2 c0 c1 c2 c3 c4 c5 c6 c7 c8 c9 c10; obtain ⟨⟨c0, c1, c2, c3, c4, c5, c6, c7, c8, c9, c10⟩, _⟩ := Bx.b11 (h2.held (x := (w.heap.size, .cells #[.int .i64 bs, .int .i64 bi, .int .i64 bg, .int .i64 bm, .int .i64 bx, .int .i64 bY, .int .i64 bvx, .int .i64 bvy, .int .i64 bh, .int .i64 bp, .int .i64 bl] 35 (0, 0))) (by simp)))
    | (go_at_call 25; refine (CN.out _).mono ?_; rintro e w3 ⟨rfl, hC, b3⟩; have h3 := h2.below b3; clear h2 b3 c0 c1 c2 c3 c4 c5 c6 c7 c8 c9 c10; obtain ⟨⟨c0, c1, c2, c3, c4, c5, c6, c7, c8, c9, c10⟩, _⟩ := Bx.b11 (h3.held (x := (w.heap.size, .cells #[.int .i64 bs, .int .i64 bi, .int .i64 bg, .int .i64 bm, .int .i64 bx, .int .i64 bY, .int .i64 bvx, .int .i64 bvy, .int .i64 bh, .int .i64 bp, .int .i64 bl] 35 (0, 0))) (by simp)))
    | (go_at_call 30; refine (PN.out _).mono ?_; rintro e w4 ⟨rfl, b4⟩; have h4 := h3.below b4; have k4 := b4; clear h3 b4 c0 c1 c2 c3 c4 c5 c6 c7 c8 c9 c10; obtain ⟨⟨c0, c1, c2, c3, c4, c5, c6, c7, c8, c9, c10⟩, _⟩ := Bx.b11 (h4.held (x := (w.heap.size, .cells #[.int .i64 bs, .int .i64 bi, .int .i64 bg, .int .i64 bm, .int .i64 bx, .int .i64 bY, .int .i64 bvx, .int .i64 bvy, .int .i64 bh, .int .i64 bp, .int .i64 bl] 35 (0, 0))) (by simp)))
    | (go_at_call 26; refine (WN.out _).mono ?_; rintro e w5 ⟨rfl, b5⟩; have h5 := h4.below b5; have k5 := k4.trans (b5.mono k4.size); clear h4 k4 b5 c0 c1 c2 c3 c4 c5 c6 c7 c8 c9 c10; obtain ⟨⟨c0, c1, c2, c3, c4, c5, c6, c7, c8, c9, c10⟩, _⟩ := Bx.b11 (h5.held (x := (w.heap.size, .cells #[.int .i64 bs, .int .i64 bi, .int .i64 bg, .int .i64 bm, .int .i64 bx, .int .i64 bY, .int .i64 bvx, .int .i64 bvy, .int .i64 bh, .int .i64 bp, .int .i64 bl] 35 (0, 0))) (by simp)))
    | (go_at_call 24; refine (MN.out _).mono ?_; rintro e w6 ⟨rfl, b6⟩; have h6 := h5.below b6; have k6 := k5.trans (b6.mono k5.size); clear h5 k5 b6 c0 c1 c2 c3 c4 c5 c6 c7 c8 c9 c10; obtain ⟨⟨d0, d1, d2, d3, d4, d5, d6, d7, d8, d9, d10⟩, _⟩ := Bx.b11 (h6.held (x := (w1.heap.size, .cells #[.int .i64 0, .int .i64 0, .int .i64 0, .int .i64 0, .int .i64 0, .int .i64 0, .int .i64 0, .int .i64 0, .int .i64 0, .int .i64 0, .int .i64 0] 35 (0, 0))) (by simp)))
    | (go_at_call 22; refine (len_nil _).mono ?_; rintro e w7 ⟨rfl, rfl⟩)
    | (go_at_call 19; refine (tables_nil _).mono ?_; rintro e w8 ⟨rfl, rfl⟩)
    | (go_at_call 23; refine (AN.out _).mono ?_; rintro e w9 ⟨⟨A9, c9, rfl⟩, b9⟩; have h9 := h6.below b9; have k9 := k6.trans (b9.mono k6.size); clear h6 k6 b9 d0 d1 d2 d3 d4 d5 d6 d7 d8 d9 d10)
    | (go_at_call 22; refine (LN.out _ _ _ _ hC k9).mono ?_; rintro e w10 ⟨rfl, rfl⟩)
    | (go_at_call 17; refine (AW.out _).mono ?_; rintro e w11 ⟨rfl, b11⟩; have h11 := h9.below b11; clear h9 b11))
  go_ret
  exact ⟨rfl, h11.1⟩
end Go.Proofs.Yteohkbepefjjlaa
