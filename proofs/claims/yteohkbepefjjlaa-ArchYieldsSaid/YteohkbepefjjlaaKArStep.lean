/- A deed, done to both stores. Written by wip/tools/genarstep.py. -/
import Derived.Test.YteohkbepefjjlaaKTwo
import Derived.Deep.RegionHeld3
namespace Go.Proofs.Yteohkbepefjjlaa
open Go.RowKit Pz Ar
set_option linter.unusedVariables false
set_option linter.unusedSimpArgs false

namespace Ar
structure Dd where
  k : Int
  b : Bn
abbrev Dd.row (x : Dd) : List Value := .int .i64 x.k :: x.b.row
abbrev Dd.val (x : Dd) : Value := .agg #[.int .i64 x.k, .int .i64 x.b.s, .int .i64 x.b.i, .int .i64 x.b.g, .int .i64 x.b.m, .int .i64 x.b.x, .int .i64 x.b.y, .int .i64 x.b.vx, .int .i64 x.b.vy, .int .i64 x.b.h, .int .i64 x.b.p, .int .i64 x.b.l]
def deedT (t : Tb) (x : Dd) : Tb := if x.k = 0 ∨ x.k = 1 ∨ x.k = 2 then (put t x.b).1 else if x.k = 3 ∨ x.k = 4 then (write t x.b).1 else if x.k = 5 then (remove t x.b.id).1 else t
def deedB (t u : Tb) (x : Dd) : Bool := if x.k = 0 ∨ x.k = 1 ∨ x.k = 2 then (put t x.b).2 == (put u x.b).2 else if x.k = 3 ∨ x.k = 4 then (write t x.b).2 == (write u x.b).2 else if x.k = 5 then (remove t x.b.id).2 == (remove u x.b.id).2 else true
theorem deedB_self (t : Tb) (x : Dd) : deedB t t x = true := by
  unfold deedB
  split
  · simp
  · split
    · simp
    · split <;> simp
theorem le_step {t : Tb} {n : Nat} (h : Le t n) (x : Dd) : Le (deedT t x) (n + 1) := by
  unfold deedT
  split
  · exact le_put h _
  · split
    · exact le_write h _
    · split
      · exact (le_remove h _).mono (Nat.le_succ n)
      · exact h.mono (Nat.le_succ n)
theorem good_step {t : Tb} (h : Good t) (x : Dd) : Good (deedT t x) := by
  unfold deedT
  split
  · exact h.put _
  · split
    · exact h.write _
    · split
      · exact h.remove _
      · exact h
end Ar
set_option maxHeartbeats 16000000 in
set_option maxRecDepth 100000 in
theorem step_any {w W : World} {s r : Nat} {t u : Tb} {K : List (Nat × Obj)} (h : P2 w s r t u K W) (x : Dd) (hf : Fit x.b.m) {n n' : Nat} (hn : Le t n) (hn' : Le u n') (h1 : n < 100000) (h2 : n' < 100000) :
    Calls Try.prog 13 #[.pointer (some ⟨s, 0, none⟩), .pointer (some ⟨r, 0, none⟩), x.val] W fun e V => e = .returned (.bool (deedB t u x)) ∧ P2 w s r (deedT t x) (deedT u x) K V := by
  obtain ⟨k, bs, bi, bg, bm, bx, bY, bvx, bvy, bh, bp, bl⟩ := x
  simp only at hf
  have H0 := Lib.hid (h.hold (.cells #[.int .i64 k, .int .i64 bs, .int .i64 bi, .int .i64 bg, .int .i64 bm, .int .i64 bx, .int .i64 bY, .int .i64 bvx, .int .i64 bvy, .int .i64 bh, .int .i64 bp, .int .i64 bl] 37))
  have PL := Lib.hid fun t' V (hV : P2 w s r t' u ((W.heap.size, (.cells #[.int .i64 k, .int .i64 bs, .int .i64 bi, .int .i64 bg, .int .i64 bm, .int .i64 bx, .int .i64 bY, .int .i64 bvx, .int .i64 bvy, .int .i64 bh, .int .i64 bp, .int .i64 bl] 37 (0, 0))) :: K) V) (hl : Le t' n) => hV.putL ⟨bs, bi, bg, bm, bx, bY, bvx, bvy, bh, bp, bl⟩ hl h1
  have WL := Lib.hid fun t' V (hV : P2 w s r t' u ((W.heap.size, (.cells #[.int .i64 k, .int .i64 bs, .int .i64 bi, .int .i64 bg, .int .i64 bm, .int .i64 bx, .int .i64 bY, .int .i64 bvx, .int .i64 bvy, .int .i64 bh, .int .i64 bp, .int .i64 bl] 37 (0, 0))) :: K) V) (hl : Le t' n) => hV.writeL ⟨bs, bi, bg, bm, bx, bY, bvx, bvy, bh, bp, bl⟩ hl h1
  have PR := Lib.hid fun t' V (hV : P2 w s r t' u ((W.heap.size, (.cells #[.int .i64 k, .int .i64 bs, .int .i64 bi, .int .i64 bg, .int .i64 bm, .int .i64 bx, .int .i64 bY, .int .i64 bvx, .int .i64 bvy, .int .i64 bh, .int .i64 bp, .int .i64 bl] 37 (0, 0))) :: K) V) => hV.putR ⟨bs, bi, bg, bm, bx, bY, bvx, bvy, bh, bp, bl⟩ hf hn' h2
  have WR := Lib.hid fun t' V (hV : P2 w s r t' u ((W.heap.size, (.cells #[.int .i64 k, .int .i64 bs, .int .i64 bi, .int .i64 bg, .int .i64 bm, .int .i64 bx, .int .i64 bY, .int .i64 bvx, .int .i64 bvy, .int .i64 bh, .int .i64 bp, .int .i64 bl] 37 (0, 0))) :: K) V) => hV.writeR ⟨bs, bi, bg, bm, bx, bY, bvx, bvy, bh, bp, bl⟩ hf hn' h2
  have RR : Hid (∀ t' u' V, P2 w s r t' u' ((W.heap.size, (.cells #[.int .i64 k, .int .i64 bs, .int .i64 bi, .int .i64 bg, .int .i64 bm, .int .i64 bx, .int .i64 bY, .int .i64 bvx, .int .i64 bvy, .int .i64 bh, .int .i64 bp, .int .i64 bl] 37 (0, 0))) :: K) V → V.cell? ⟨W.heap.size, 1, none⟩ = some (.int .i64 bs) ∧ V.cell? ⟨W.heap.size, 2, none⟩ = some (.int .i64 bi) ∧ V.cell? ⟨W.heap.size, 3, none⟩ = some (.int .i64 bg) ∧ V.cell? ⟨W.heap.size, 4, none⟩ = some (.int .i64 bm) ∧ V.cell? ⟨W.heap.size, 5, none⟩ = some (.int .i64 bx) ∧ V.cell? ⟨W.heap.size, 6, none⟩ = some (.int .i64 bY) ∧ V.cell? ⟨W.heap.size, 7, none⟩ = some (.int .i64 bvx) ∧ V.cell? ⟨W.heap.size, 8, none⟩ = some (.int .i64 bvy) ∧ V.cell? ⟨W.heap.size, 9, none⟩ = some (.int .i64 bh) ∧ V.cell? ⟨W.heap.size, 10, none⟩ = some (.int .i64 bp) ∧ V.cell? ⟨W.heap.size, 11, none⟩ = some (.int .i64 bl)) := Lib.hid fun t' u' V hV => (Bx.b12 (hV.held (x := (W.heap.size, (.cells #[.int .i64 k, .int .i64 bs, .int .i64 bi, .int .i64 bg, .int .i64 bm, .int .i64 bx, .int .i64 bY, .int .i64 bvx, .int .i64 bvy, .int .i64 bh, .int .i64 bp, .int .i64 bl] 37 (0, 0)))) (by simp))).1.2
  have BT := at1 W (.cells #[.int .i64 k, .int .i64 bs, .int .i64 bi, .int .i64 bg, .int .i64 bm, .int .i64 bx, .int .i64 bY, .int .i64 bvx, .int .i64 bvy, .int .i64 bh, .int .i64 bp, .int .i64 bl] 37)
  have kk := (Bx.b12 BT).1.1
  have HN := Lib.hid hn
  clear h hn hn' h1 h2 hf BT
  unfold deedT deedB
  simp only [Dd.val, Bn.val, Bn.id] at *
  generalize hnb : W.heap.size = nb at *
  by_cases e0 : k = 0
  · subst e0
    simp only [true_or, or_true, if_true, if_false, reduceIte, Int.reduceEq, or_self, or_false, false_or]
    go_enter Try.func13, Try.ntmps13
    go_upto_region 1 with fail
    generalize W.alloc (.cells #[.int .i64 0, .int .i64 bs, .int .i64 bi, .int .i64 bg, .int .i64 bm, .int .i64 bx, .int .i64 bY, .int .i64 bvx, .int .i64 bvy, .int .i64 bh, .int .i64 bp, .int .i64 bl] 37) = w1 at *
    go_upto_region 5 with fail
    have G0 := H0.out
    clear H0 kk
    go_region_held3 (fun W' => W'.cell? ⟨nb, 1, none⟩ = some (.int .i64 bs) ∧ W'.cell? ⟨nb, 2, none⟩ = some (.int .i64 bi) ∧ W'.cell? ⟨nb, 3, none⟩ = some (.int .i64 bg) ∧ W'.cell? ⟨nb, 4, none⟩ = some (.int .i64 bm) ∧ W'.cell? ⟨nb, 5, none⟩ = some (.int .i64 bx) ∧ W'.cell? ⟨nb, 6, none⟩ = some (.int .i64 bY) ∧ W'.cell? ⟨nb, 7, none⟩ = some (.int .i64 bvx) ∧ W'.cell? ⟨nb, 8, none⟩ = some (.int .i64 bvy) ∧ W'.cell? ⟨nb, 9, none⟩ = some (.int .i64 bh) ∧ W'.cell? ⟨nb, 10, none⟩ = some (.int .i64 bp) ∧ W'.cell? ⟨nb, 11, none⟩ = some (.int .i64 bl))
        (first | (exact RR.out _ _ _ G2) | (exact RR.out _ _ _ G1) | (exact RR.out _ _ _ G0.drew))
        (first
          | (go_at_call 31; refine (PR.out _ _ G1).mono ?_; rintro e w3 ⟨rfl, G2⟩)
          | (go_at_call 30; refine (PL.out _ _ G0.drew HN.out).mono ?_; rintro e w2 ⟨rfl, G1⟩))

    all_goals
      go_wp2
      go_ret
      exact ⟨by first | rfl | simp, G2.drop⟩
  by_cases e1 : k = 1
  · subst e1
    simp only [true_or, or_true, if_true, if_false, reduceIte, Int.reduceEq, or_self, or_false, false_or]
    go_enter Try.func13, Try.ntmps13
    go_upto_region 1 with fail
    generalize W.alloc (.cells #[.int .i64 1, .int .i64 bs, .int .i64 bi, .int .i64 bg, .int .i64 bm, .int .i64 bx, .int .i64 bY, .int .i64 bvx, .int .i64 bvy, .int .i64 bh, .int .i64 bp, .int .i64 bl] 37) = w1 at *
    go_upto_region 5 with fail
    have G0 := H0.out
    clear H0 kk
    go_region_held3 (fun W' => W'.cell? ⟨nb, 1, none⟩ = some (.int .i64 bs) ∧ W'.cell? ⟨nb, 2, none⟩ = some (.int .i64 bi) ∧ W'.cell? ⟨nb, 3, none⟩ = some (.int .i64 bg) ∧ W'.cell? ⟨nb, 4, none⟩ = some (.int .i64 bm) ∧ W'.cell? ⟨nb, 5, none⟩ = some (.int .i64 bx) ∧ W'.cell? ⟨nb, 6, none⟩ = some (.int .i64 bY) ∧ W'.cell? ⟨nb, 7, none⟩ = some (.int .i64 bvx) ∧ W'.cell? ⟨nb, 8, none⟩ = some (.int .i64 bvy) ∧ W'.cell? ⟨nb, 9, none⟩ = some (.int .i64 bh) ∧ W'.cell? ⟨nb, 10, none⟩ = some (.int .i64 bp) ∧ W'.cell? ⟨nb, 11, none⟩ = some (.int .i64 bl))
        (first | (exact RR.out _ _ _ G2) | (exact RR.out _ _ _ G1) | (exact RR.out _ _ _ G0.drew))
        (first
          | (go_at_call 31; refine (PR.out _ _ G1).mono ?_; rintro e w3 ⟨rfl, G2⟩)
          | (go_at_call 30; refine (PL.out _ _ G0.drew HN.out).mono ?_; rintro e w2 ⟨rfl, G1⟩))

    all_goals
      go_wp2
      go_ret
      exact ⟨by first | rfl | simp, G2.drop⟩
  by_cases e2 : k = 2
  · subst e2
    simp only [true_or, or_true, if_true, if_false, reduceIte, Int.reduceEq, or_self, or_false, false_or]
    go_enter Try.func13, Try.ntmps13
    go_upto_region 1 with fail
    generalize W.alloc (.cells #[.int .i64 2, .int .i64 bs, .int .i64 bi, .int .i64 bg, .int .i64 bm, .int .i64 bx, .int .i64 bY, .int .i64 bvx, .int .i64 bvy, .int .i64 bh, .int .i64 bp, .int .i64 bl] 37) = w1 at *
    go_upto_region 5 with fail
    have G0 := H0.out
    clear H0 kk
    go_region_held3 (fun W' => W'.cell? ⟨nb, 1, none⟩ = some (.int .i64 bs) ∧ W'.cell? ⟨nb, 2, none⟩ = some (.int .i64 bi) ∧ W'.cell? ⟨nb, 3, none⟩ = some (.int .i64 bg) ∧ W'.cell? ⟨nb, 4, none⟩ = some (.int .i64 bm) ∧ W'.cell? ⟨nb, 5, none⟩ = some (.int .i64 bx) ∧ W'.cell? ⟨nb, 6, none⟩ = some (.int .i64 bY) ∧ W'.cell? ⟨nb, 7, none⟩ = some (.int .i64 bvx) ∧ W'.cell? ⟨nb, 8, none⟩ = some (.int .i64 bvy) ∧ W'.cell? ⟨nb, 9, none⟩ = some (.int .i64 bh) ∧ W'.cell? ⟨nb, 10, none⟩ = some (.int .i64 bp) ∧ W'.cell? ⟨nb, 11, none⟩ = some (.int .i64 bl))
        (first | (exact RR.out _ _ _ G2) | (exact RR.out _ _ _ G1) | (exact RR.out _ _ _ G0.drew))
        (first
          | (go_at_call 31; refine (PR.out _ _ G1).mono ?_; rintro e w3 ⟨rfl, G2⟩)
          | (go_at_call 30; refine (PL.out _ _ G0.drew HN.out).mono ?_; rintro e w2 ⟨rfl, G1⟩))

    all_goals
      go_wp2
      go_ret
      exact ⟨by first | rfl | simp, G2.drop⟩
  by_cases e3 : k = 3
  · subst e3
    simp only [true_or, or_true, if_true, if_false, reduceIte, Int.reduceEq, or_self, or_false, false_or]
    go_enter Try.func13, Try.ntmps13
    go_upto_region 1 with fail
    generalize W.alloc (.cells #[.int .i64 3, .int .i64 bs, .int .i64 bi, .int .i64 bg, .int .i64 bm, .int .i64 bx, .int .i64 bY, .int .i64 bvx, .int .i64 bvy, .int .i64 bh, .int .i64 bp, .int .i64 bl] 37) = w1 at *
    go_upto_region 8 with fail
    have G0 := H0.out
    clear H0 kk
    go_region_held3 (fun W' => W'.cell? ⟨nb, 1, none⟩ = some (.int .i64 bs) ∧ W'.cell? ⟨nb, 2, none⟩ = some (.int .i64 bi) ∧ W'.cell? ⟨nb, 3, none⟩ = some (.int .i64 bg) ∧ W'.cell? ⟨nb, 4, none⟩ = some (.int .i64 bm) ∧ W'.cell? ⟨nb, 5, none⟩ = some (.int .i64 bx) ∧ W'.cell? ⟨nb, 6, none⟩ = some (.int .i64 bY) ∧ W'.cell? ⟨nb, 7, none⟩ = some (.int .i64 bvx) ∧ W'.cell? ⟨nb, 8, none⟩ = some (.int .i64 bvy) ∧ W'.cell? ⟨nb, 9, none⟩ = some (.int .i64 bh) ∧ W'.cell? ⟨nb, 10, none⟩ = some (.int .i64 bp) ∧ W'.cell? ⟨nb, 11, none⟩ = some (.int .i64 bl))
        (first | (exact RR.out _ _ _ G2) | (exact RR.out _ _ _ G1) | (exact RR.out _ _ _ G0.drew))
        (first
          | (go_at_call 32; refine (WR.out _ _ G1).mono ?_; rintro e w3 ⟨rfl, G2⟩)
          | (go_at_call 26; refine (WL.out _ _ G0.drew HN.out).mono ?_; rintro e w2 ⟨rfl, G1⟩))

    all_goals
      go_wp2
      go_ret
      exact ⟨by first | rfl | simp, G2.drop⟩
  by_cases e4 : k = 4
  · subst e4
    simp only [true_or, or_true, if_true, if_false, reduceIte, Int.reduceEq, or_self, or_false, false_or]
    go_enter Try.func13, Try.ntmps13
    go_upto_region 1 with fail
    generalize W.alloc (.cells #[.int .i64 4, .int .i64 bs, .int .i64 bi, .int .i64 bg, .int .i64 bm, .int .i64 bx, .int .i64 bY, .int .i64 bvx, .int .i64 bvy, .int .i64 bh, .int .i64 bp, .int .i64 bl] 37) = w1 at *
    go_upto_region 8 with fail
    have G0 := H0.out
    clear H0 kk
    go_region_held3 (fun W' => W'.cell? ⟨nb, 1, none⟩ = some (.int .i64 bs) ∧ W'.cell? ⟨nb, 2, none⟩ = some (.int .i64 bi) ∧ W'.cell? ⟨nb, 3, none⟩ = some (.int .i64 bg) ∧ W'.cell? ⟨nb, 4, none⟩ = some (.int .i64 bm) ∧ W'.cell? ⟨nb, 5, none⟩ = some (.int .i64 bx) ∧ W'.cell? ⟨nb, 6, none⟩ = some (.int .i64 bY) ∧ W'.cell? ⟨nb, 7, none⟩ = some (.int .i64 bvx) ∧ W'.cell? ⟨nb, 8, none⟩ = some (.int .i64 bvy) ∧ W'.cell? ⟨nb, 9, none⟩ = some (.int .i64 bh) ∧ W'.cell? ⟨nb, 10, none⟩ = some (.int .i64 bp) ∧ W'.cell? ⟨nb, 11, none⟩ = some (.int .i64 bl))
        (first | (exact RR.out _ _ _ G2) | (exact RR.out _ _ _ G1) | (exact RR.out _ _ _ G0.drew))
        (first
          | (go_at_call 32; refine (WR.out _ _ G1).mono ?_; rintro e w3 ⟨rfl, G2⟩)
          | (go_at_call 26; refine (WL.out _ _ G0.drew HN.out).mono ?_; rintro e w2 ⟨rfl, G1⟩))

    all_goals
      go_wp2
      go_ret
      exact ⟨by first | rfl | simp, G2.drop⟩
  by_cases e5 : k = 5
  · subst e5
    simp only [true_or, or_true, if_true, if_false, reduceIte, Int.reduceEq, or_self, or_false, false_or]
    go_enter Try.func13, Try.ntmps13
    go_upto_region 1 with fail
    generalize W.alloc (.cells #[.int .i64 5, .int .i64 bs, .int .i64 bi, .int .i64 bg, .int .i64 bm, .int .i64 bx, .int .i64 bY, .int .i64 bvx, .int .i64 bvy, .int .i64 bh, .int .i64 bp, .int .i64 bl] 37) = w1 at *
    go_upto_region 10 with fail
    have G0 := H0.out
    clear H0 kk
    go_region_held3 (fun W' => W'.cell? ⟨nb, 1, none⟩ = some (.int .i64 bs) ∧ W'.cell? ⟨nb, 2, none⟩ = some (.int .i64 bi) ∧ W'.cell? ⟨nb, 3, none⟩ = some (.int .i64 bg) ∧ W'.cell? ⟨nb, 4, none⟩ = some (.int .i64 bm) ∧ W'.cell? ⟨nb, 5, none⟩ = some (.int .i64 bx) ∧ W'.cell? ⟨nb, 6, none⟩ = some (.int .i64 bY) ∧ W'.cell? ⟨nb, 7, none⟩ = some (.int .i64 bvx) ∧ W'.cell? ⟨nb, 8, none⟩ = some (.int .i64 bvy) ∧ W'.cell? ⟨nb, 9, none⟩ = some (.int .i64 bh) ∧ W'.cell? ⟨nb, 10, none⟩ = some (.int .i64 bp) ∧ W'.cell? ⟨nb, 11, none⟩ = some (.int .i64 bl))
        (first | (exact RR.out _ _ _ G2) | (exact RR.out _ _ _ G1) | (exact RR.out _ _ _ G0.drew))
        (first
          | (go_at_call 33; refine (G1.removeR bs bi bg).mono ?_; rintro e w3 ⟨rfl, G2⟩)
          | (go_at_call 24; refine (G0.drew.removeL bs bi bg).mono ?_; rintro e w2 ⟨rfl, G1⟩))

    all_goals
      go_wp2
      go_ret
      exact ⟨by first | rfl | simp, G2.drop⟩
  have f0 : (k == 0) = false := by simpa using e0
  have f1 : (k == 1) = false := by simpa using e1
  have f2 : (k == 2) = false := by simpa using e2
  have f3 : (k == 3) = false := by simpa using e3
  have f4 : (k == 4) = false := by simpa using e4
  have f5 : (k == 5) = false := by simpa using e5
  simp only [e0, e1, e2, e3, e4, e5, or_self, if_false]
  go_enter Try.func13, Try.ntmps13
  go_upto_region 1 with fail
  generalize W.alloc (.cells #[.int .i64 k, .int .i64 bs, .int .i64 bi, .int .i64 bg, .int .i64 bm, .int .i64 bx, .int .i64 bY, .int .i64 bvx, .int .i64 bvy, .int .i64 bh, .int .i64 bp, .int .i64 bl] 37) = w1 at *
  have G0 := Lib.hid H0.out.drop
  clear H0 PL WL PR WR RR
  go_wp2
  go_ret
  exact ⟨rfl, G0.out⟩
end Go.Proofs.Yteohkbepefjjlaa
