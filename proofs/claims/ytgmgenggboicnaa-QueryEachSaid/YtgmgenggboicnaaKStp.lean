/- PcOpen, ArStep, ArFew, ArMade, in one text. -/
import Derived.Test.YtgmgenggboicnaaKBase
import Derived.Test.YtgmgenggboicnaaKPz
import Derived.Test.YtgmgenggboicnaaKTwo
import Derived.Deep.RegionHeld3
namespace Go.Proofs.Ytgmgenggboicnaa
open Go.ChangeShapes Go.WideShapes Go.ChangeAt Go.RowKit Pz
set_option linter.unusedVariables false
set_option maxRecDepth 100000

theorem list_succ {α : Type} {l : List α} {n : Nat} (h : l.length = n + 1) : ∃ x r, l = x :: r ∧ r.length = n := by
  cases l with
  | nil => cases h
  | cons x r => exact ⟨x, r, rfl, by simpa using h⟩
theorem bn_of {l : List Int} (hl : l.length = 11) (hf : I64 l) : ∃ b : Bn, l.map (Value.int .i64) = b.row ∧ b.Fits := by
  obtain ⟨xs, l0, rfl, h0⟩ := list_succ hl
  obtain ⟨xi, l1, rfl, h1⟩ := list_succ h0
  obtain ⟨xg, l2, rfl, h2⟩ := list_succ h1
  obtain ⟨xm, l3, rfl, h3⟩ := list_succ h2
  obtain ⟨xx, l4, rfl, h4⟩ := list_succ h3
  obtain ⟨xy, l5, rfl, h5⟩ := list_succ h4
  obtain ⟨xvx, l6, rfl, h6⟩ := list_succ h5
  obtain ⟨xvy, l7, rfl, h7⟩ := list_succ h6
  obtain ⟨xh, l8, rfl, h8⟩ := list_succ h7
  obtain ⟨xp, l9, rfl, h9⟩ := list_succ h8
  obtain ⟨xl, l10, rfl, h10⟩ := list_succ h9
  obtain rfl := List.length_eq_zero_iff.1 h10
  refine ⟨⟨xs, xi, xg, xm, xx, xy, xvx, xvy, xh, xp, xl⟩, rfl, ?_⟩
  constructor <;> exact hf _ (by simp)
theorem cn_of {l : List Int} (hl : l.length = 16) (hf : I64 l) : ∃ c : Cn, (Value.agg (l.map (Value.int .i64)).toArray) = c.val ∧ Fit c.b.m := by
  obtain ⟨yk0, l0, rfl, h0⟩ := list_succ hl
  obtain ⟨ys1, l1, rfl, h1⟩ := list_succ h0
  obtain ⟨yi2, l2, rfl, h2⟩ := list_succ h1
  obtain ⟨yg3, l3, rfl, h3⟩ := list_succ h2
  obtain ⟨ybs4, l4, rfl, h4⟩ := list_succ h3
  obtain ⟨ybi5, l5, rfl, h5⟩ := list_succ h4
  obtain ⟨ybg6, l6, rfl, h6⟩ := list_succ h5
  obtain ⟨ybm7, l7, rfl, h7⟩ := list_succ h6
  obtain ⟨yx8, l8, rfl, h8⟩ := list_succ h7
  obtain ⟨yy9, l9, rfl, h9⟩ := list_succ h8
  obtain ⟨yvx10, l10, rfl, h10⟩ := list_succ h9
  obtain ⟨yvy11, l11, rfl, h11⟩ := list_succ h10
  obtain ⟨yh12, l12, rfl, h12⟩ := list_succ h11
  obtain ⟨yp13, l13, rfl, h13⟩ := list_succ h12
  obtain ⟨yl14, l14, rfl, h14⟩ := list_succ h13
  obtain ⟨ym15, l15, rfl, h15⟩ := list_succ h14
  obtain rfl := List.length_eq_zero_iff.1 h15
  exact ⟨⟨yk0, ys1, yi2, yg3, ⟨ybs4, ybi5, ybg6, ybm7, yx8, yy9, yvx10, yvy11, yh12, yp13, yl14⟩, ym15⟩, rfl, hf _ (by simp)⟩
section
variable {H : Type} {enc : TypeId × Value → H} {w : World} {v : Value} {d : DataW H} {ps : List MemPlace} {b0 : Nat}
theorem in_bundle (hval : Value.okWide Try.prog w .any b0 33 v) (hd : DataW.Trod enc Try.prog w 0 (fun _ => true) true 33 v d ps) : ∃ b : Bn, v = b.val ∧ b.Fits := by
  obtain ⟨l, rfl, hl, hf⟩ := in_flat 3 Try.underlying33 (by kernel_rfl) hval hd
  obtain ⟨b, hb, hF⟩ := bn_of (l := l) (hl.trans (by kernel_rfl)) hf
  refine ⟨b, ?_, hF⟩
  show Value.agg (l.map (Value.int .i64)).toArray = _
  rw [hb]
theorem in_name (hval : Value.okWide Try.prog w .any b0 31 v) (hd : DataW.Trod enc Try.prog w 0 (fun _ => true) true 31 v d ps) : ∃ s i g : Int, v = .agg #[.int .i64 s, .int .i64 i, .int .i64 g] := by
  obtain ⟨l, rfl, hl, hf⟩ := in_flat 3 Try.underlying31 (by kernel_rfl) hval hd
  have hl : l.length = 3 := hl.trans (by kernel_rfl)
  obtain ⟨a0, l0, rfl, h0⟩ := list_succ hl
  obtain ⟨a1, l1, rfl, h1⟩ := list_succ h0
  obtain ⟨a2, l2, rfl, h2⟩ := list_succ h1
  obtain rfl := List.length_eq_zero_iff.1 h2
  exact ⟨a0, a1, a2, rfl⟩
theorem rows_bn : ∀ l : List (List Int), (∀ x ∈ l, x.length = 11 ∧ I64 x) → ∃ bs : List Bn, l.map ints = bs.map Bn.row ∧ bs.length = l.length
  | [], _ => ⟨[], rfl, rfl⟩
  | x :: r, h => by
    obtain ⟨b, hb, _⟩ := bn_of (h x List.mem_cons_self).1 (h x List.mem_cons_self).2
    obtain ⟨bs, h1, h2⟩ := rows_bn r (fun y hy => h y (List.mem_cons_of_mem _ hy))
    refine ⟨b :: bs, ?_, by simp [h2]⟩
    rw [List.map_cons, List.map_cons, h1]
    congr 1
theorem in_bundles (hval : Value.okWide Try.prog w .any b0 42 v) (hd : DataW.Trod enc Try.prog w 0 (fun _ => true) true 42 v d ps) (hz : ∀ n ∈ DataW.weights Try.prog 42 d, n ≤ reachBytes) :
    ∃ (A : Option Addr) (cap : Nat) (l : List Bn), v = .slice A l.length cap ∧ l.length ≤ cap ∧ cap ≤ 140737488351232 ∧ RdB w w.heap.size A l := by
  obtain ⟨A, cap, l, rfl, h1, h2, h3, h4⟩ := in_flats (k := 11) 3 Try.underlying42 Try.underlying33 (by kernel_rfl) (by decide) (of_decide_eq_true (by kernel_rfl)) (by kernel_rfl) hval hd hz
  obtain ⟨bs, e1, e2⟩ := rows_bn l h3
  rw [e1] at h4
  exact ⟨A, cap, bs, by rw [e2], by omega, h2, RdB.of_reads h4⟩
end
end Go.Proofs.Ytgmgenggboicnaa
namespace Go.Proofs.Ytgmgenggboicnaa
open Go.RowKit Pz Ar
set_option linter.unusedVariables false
set_option linter.unusedSimpArgs false

namespace Ar
structure Dd where
  k : Int
  b : Bn
abbrev Dd.row (x : Dd) : List Value := .int .i64 x.k :: x.b.row
abbrev Dd.val (x : Dd) : Value := .agg #[.int .i64 x.k, .int .i64 x.b.s, .int .i64 x.b.i, .int .i64 x.b.g, .int .i64 x.b.m, .int .i64 x.b.x, .int .i64 x.b.y, .int .i64 x.b.vx, .int .i64 x.b.vy, .int .i64 x.b.h, .int .i64 x.b.p, .int .i64 x.b.l]
def deedT (t : Tb) (x : Dd) : Tb := if x.k = 0 ∨ x.k = 1 ∨ x.k = 2 then (put t x.b).1 else if x.k = 3 ∨ x.k = 4 then (write t x.b).1 else if x.k = 5 then (remove t x.b.id).1 else t
def deedB (t u : Tb) (x : Dd) : Bool := if x.k = 0 ∨ x.k = 1 ∨ x.k = 2 then (put t x.b).2 == (put u x.b).2 else if x.k = 3 ∨ x.k = 4 then (write t x.b).2 == (write u x.b).2 else if x.k = 5 then (remove t x.b.id).2 == (remove u x.b.id).2 else true
theorem deedB_self (t : Tb) (x : Dd) : deedB t t x = true := by
  unfold deedB
  split
  · simp
  · split
    · simp
    · split <;> simp
theorem le_step {t : Tb} {n : Nat} (h : Le t n) (x : Dd) : Le (deedT t x) (n + 1) := by
  unfold deedT
  split
  · exact le_put h _
  · split
    · exact le_write h _
    · split
      · exact (le_remove h _).mono (Nat.le_succ n)
      · exact h.mono (Nat.le_succ n)
theorem good_step {t : Tb} (h : Good t) (x : Dd) : Good (deedT t x) := by
  unfold deedT
  split
  · exact h.put _
  · split
    · exact h.write _
    · split
      · exact h.remove _
      · exact h
end Ar
set_option maxHeartbeats 16000000 in
set_option maxRecDepth 100000 in
theorem step_any {w W : World} {s r : Nat} {t u : Tb} {K : List (Nat × Obj)} (h : P2 w s r t u K W) (x : Dd) (hf : Fit x.b.m) {n n' : Nat} (hn : Le t n) (hn' : Le u n') (h1 : n < 100000) (h2 : n' < 100000) :
    Calls Try.prog 48 #[.pointer (some ⟨s, 0, none⟩), .pointer (some ⟨r, 0, none⟩), x.val] W fun e V => e = .returned (.bool (deedB t u x)) ∧ P2 w s r (deedT t x) (deedT u x) K V := by
  obtain ⟨k, bs, bi, bg, bm, bx, bY, bvx, bvy, bh, bp, bl⟩ := x
  simp only at hf
  have H0 := Lib.hid (h.hold (.cells #[.int .i64 k, .int .i64 bs, .int .i64 bi, .int .i64 bg, .int .i64 bm, .int .i64 bx, .int .i64 bY, .int .i64 bvx, .int .i64 bvy, .int .i64 bh, .int .i64 bp, .int .i64 bl] 91))
  have PL := Lib.hid fun t' V (hV : P2 w s r t' u ((W.heap.size, (.cells #[.int .i64 k, .int .i64 bs, .int .i64 bi, .int .i64 bg, .int .i64 bm, .int .i64 bx, .int .i64 bY, .int .i64 bvx, .int .i64 bvy, .int .i64 bh, .int .i64 bp, .int .i64 bl] 91 (0, 0))) :: K) V) (hl : Le t' n) => hV.putL ⟨bs, bi, bg, bm, bx, bY, bvx, bvy, bh, bp, bl⟩ hl h1
  have WL := Lib.hid fun t' V (hV : P2 w s r t' u ((W.heap.size, (.cells #[.int .i64 k, .int .i64 bs, .int .i64 bi, .int .i64 bg, .int .i64 bm, .int .i64 bx, .int .i64 bY, .int .i64 bvx, .int .i64 bvy, .int .i64 bh, .int .i64 bp, .int .i64 bl] 91 (0, 0))) :: K) V) (hl : Le t' n) => hV.writeL ⟨bs, bi, bg, bm, bx, bY, bvx, bvy, bh, bp, bl⟩ hl h1
  have PR := Lib.hid fun t' V (hV : P2 w s r t' u ((W.heap.size, (.cells #[.int .i64 k, .int .i64 bs, .int .i64 bi, .int .i64 bg, .int .i64 bm, .int .i64 bx, .int .i64 bY, .int .i64 bvx, .int .i64 bvy, .int .i64 bh, .int .i64 bp, .int .i64 bl] 91 (0, 0))) :: K) V) => hV.putR ⟨bs, bi, bg, bm, bx, bY, bvx, bvy, bh, bp, bl⟩ hf hn' h2
  have WR := Lib.hid fun t' V (hV : P2 w s r t' u ((W.heap.size, (.cells #[.int .i64 k, .int .i64 bs, .int .i64 bi, .int .i64 bg, .int .i64 bm, .int .i64 bx, .int .i64 bY, .int .i64 bvx, .int .i64 bvy, .int .i64 bh, .int .i64 bp, .int .i64 bl] 91 (0, 0))) :: K) V) => hV.writeR ⟨bs, bi, bg, bm, bx, bY, bvx, bvy, bh, bp, bl⟩ hf hn' h2
  have RR : Hid (∀ t' u' V, P2 w s r t' u' ((W.heap.size, (.cells #[.int .i64 k, .int .i64 bs, .int .i64 bi, .int .i64 bg, .int .i64 bm, .int .i64 bx, .int .i64 bY, .int .i64 bvx, .int .i64 bvy, .int .i64 bh, .int .i64 bp, .int .i64 bl] 91 (0, 0))) :: K) V → V.cell? ⟨W.heap.size, 1, none⟩ = some (.int .i64 bs) ∧ V.cell? ⟨W.heap.size, 2, none⟩ = some (.int .i64 bi) ∧ V.cell? ⟨W.heap.size, 3, none⟩ = some (.int .i64 bg) ∧ V.cell? ⟨W.heap.size, 4, none⟩ = some (.int .i64 bm) ∧ V.cell? ⟨W.heap.size, 5, none⟩ = some (.int .i64 bx) ∧ V.cell? ⟨W.heap.size, 6, none⟩ = some (.int .i64 bY) ∧ V.cell? ⟨W.heap.size, 7, none⟩ = some (.int .i64 bvx) ∧ V.cell? ⟨W.heap.size, 8, none⟩ = some (.int .i64 bvy) ∧ V.cell? ⟨W.heap.size, 9, none⟩ = some (.int .i64 bh) ∧ V.cell? ⟨W.heap.size, 10, none⟩ = some (.int .i64 bp) ∧ V.cell? ⟨W.heap.size, 11, none⟩ = some (.int .i64 bl)) := Lib.hid fun t' u' V hV => (Bx.b12 (hV.held (x := (W.heap.size, (.cells #[.int .i64 k, .int .i64 bs, .int .i64 bi, .int .i64 bg, .int .i64 bm, .int .i64 bx, .int .i64 bY, .int .i64 bvx, .int .i64 bvy, .int .i64 bh, .int .i64 bp, .int .i64 bl] 91 (0, 0)))) (by simp))).1.2
  have BT := at1 W (.cells #[.int .i64 k, .int .i64 bs, .int .i64 bi, .int .i64 bg, .int .i64 bm, .int .i64 bx, .int .i64 bY, .int .i64 bvx, .int .i64 bvy, .int .i64 bh, .int .i64 bp, .int .i64 bl] 91)
  have kk := (Bx.b12 BT).1.1
  have HN := Lib.hid hn
  clear h hn hn' h1 h2 hf BT
  unfold deedT deedB
  simp only [Dd.val, Bn.val, Bn.id] at *
  generalize hnb : W.heap.size = nb at *
  by_cases e0 : k = 0
  · subst e0
    simp only [true_or, or_true, if_true, if_false, reduceIte, Int.reduceEq, or_self, or_false, false_or]
    go_enter Try.func48, Try.ntmps48
    go_upto_region 1 with fail
    generalize W.alloc (.cells #[.int .i64 0, .int .i64 bs, .int .i64 bi, .int .i64 bg, .int .i64 bm, .int .i64 bx, .int .i64 bY, .int .i64 bvx, .int .i64 bvy, .int .i64 bh, .int .i64 bp, .int .i64 bl] 91) = w1 at *
    go_upto_region 5 with fail
    have G0 := H0.out
    clear H0 kk
    go_region_held3 (fun W' => W'.cell? ⟨nb, 1, none⟩ = some (.int .i64 bs) ∧ W'.cell? ⟨nb, 2, none⟩ = some (.int .i64 bi) ∧ W'.cell? ⟨nb, 3, none⟩ = some (.int .i64 bg) ∧ W'.cell? ⟨nb, 4, none⟩ = some (.int .i64 bm) ∧ W'.cell? ⟨nb, 5, none⟩ = some (.int .i64 bx) ∧ W'.cell? ⟨nb, 6, none⟩ = some (.int .i64 bY) ∧ W'.cell? ⟨nb, 7, none⟩ = some (.int .i64 bvx) ∧ W'.cell? ⟨nb, 8, none⟩ = some (.int .i64 bvy) ∧ W'.cell? ⟨nb, 9, none⟩ = some (.int .i64 bh) ∧ W'.cell? ⟨nb, 10, none⟩ = some (.int .i64 bp) ∧ W'.cell? ⟨nb, 11, none⟩ = some (.int .i64 bl))
        (first | (exact RR.out _ _ _ G2) | (exact RR.out _ _ _ G1) | (exact RR.out _ _ _ G0.drew))
        (first
          | (go_at_call 75; refine (PR.out _ _ G1).mono ?_; rintro e w3 ⟨rfl, G2⟩)
          | (go_at_call 44; refine (PL.out _ _ G0.drew HN.out).mono ?_; rintro e w2 ⟨rfl, G1⟩))

    all_goals
      go_wp2
      go_ret
      exact ⟨by first | rfl | simp, G2.drop⟩
  by_cases e1 : k = 1
  · subst e1
    simp only [true_or, or_true, if_true, if_false, reduceIte, Int.reduceEq, or_self, or_false, false_or]
    go_enter Try.func48, Try.ntmps48
    go_upto_region 1 with fail
    generalize W.alloc (.cells #[.int .i64 1, .int .i64 bs, .int .i64 bi, .int .i64 bg, .int .i64 bm, .int .i64 bx, .int .i64 bY, .int .i64 bvx, .int .i64 bvy, .int .i64 bh, .int .i64 bp, .int .i64 bl] 91) = w1 at *
    go_upto_region 5 with fail
    have G0 := H0.out
    clear H0 kk
    go_region_held3 (fun W' => W'.cell? ⟨nb, 1, none⟩ = some (.int .i64 bs) ∧ W'.cell? ⟨nb, 2, none⟩ = some (.int .i64 bi) ∧ W'.cell? ⟨nb, 3, none⟩ = some (.int .i64 bg) ∧ W'.cell? ⟨nb, 4, none⟩ = some (.int .i64 bm) ∧ W'.cell? ⟨nb, 5, none⟩ = some (.int .i64 bx) ∧ W'.cell? ⟨nb, 6, none⟩ = some (.int .i64 bY) ∧ W'.cell? ⟨nb, 7, none⟩ = some (.int .i64 bvx) ∧ W'.cell? ⟨nb, 8, none⟩ = some (.int .i64 bvy) ∧ W'.cell? ⟨nb, 9, none⟩ = some (.int .i64 bh) ∧ W'.cell? ⟨nb, 10, none⟩ = some (.int .i64 bp) ∧ W'.cell? ⟨nb, 11, none⟩ = some (.int .i64 bl))
        (first | (exact RR.out _ _ _ G2) | (exact RR.out _ _ _ G1) | (exact RR.out _ _ _ G0.drew))
        (first
          | (go_at_call 75; refine (PR.out _ _ G1).mono ?_; rintro e w3 ⟨rfl, G2⟩)
          | (go_at_call 44; refine (PL.out _ _ G0.drew HN.out).mono ?_; rintro e w2 ⟨rfl, G1⟩))

    all_goals
      go_wp2
      go_ret
      exact ⟨by first | rfl | simp, G2.drop⟩
  by_cases e2 : k = 2
  · subst e2
    simp only [true_or, or_true, if_true, if_false, reduceIte, Int.reduceEq, or_self, or_false, false_or]
    go_enter Try.func48, Try.ntmps48
    go_upto_region 1 with fail
    generalize W.alloc (.cells #[.int .i64 2, .int .i64 bs, .int .i64 bi, .int .i64 bg, .int .i64 bm, .int .i64 bx, .int .i64 bY, .int .i64 bvx, .int .i64 bvy, .int .i64 bh, .int .i64 bp, .int .i64 bl] 91) = w1 at *
    go_upto_region 5 with fail
    have G0 := H0.out
    clear H0 kk
    go_region_held3 (fun W' => W'.cell? ⟨nb, 1, none⟩ = some (.int .i64 bs) ∧ W'.cell? ⟨nb, 2, none⟩ = some (.int .i64 bi) ∧ W'.cell? ⟨nb, 3, none⟩ = some (.int .i64 bg) ∧ W'.cell? ⟨nb, 4, none⟩ = some (.int .i64 bm) ∧ W'.cell? ⟨nb, 5, none⟩ = some (.int .i64 bx) ∧ W'.cell? ⟨nb, 6, none⟩ = some (.int .i64 bY) ∧ W'.cell? ⟨nb, 7, none⟩ = some (.int .i64 bvx) ∧ W'.cell? ⟨nb, 8, none⟩ = some (.int .i64 bvy) ∧ W'.cell? ⟨nb, 9, none⟩ = some (.int .i64 bh) ∧ W'.cell? ⟨nb, 10, none⟩ = some (.int .i64 bp) ∧ W'.cell? ⟨nb, 11, none⟩ = some (.int .i64 bl))
        (first | (exact RR.out _ _ _ G2) | (exact RR.out _ _ _ G1) | (exact RR.out _ _ _ G0.drew))
        (first
          | (go_at_call 75; refine (PR.out _ _ G1).mono ?_; rintro e w3 ⟨rfl, G2⟩)
          | (go_at_call 44; refine (PL.out _ _ G0.drew HN.out).mono ?_; rintro e w2 ⟨rfl, G1⟩))

    all_goals
      go_wp2
      go_ret
      exact ⟨by first | rfl | simp, G2.drop⟩
  by_cases e3 : k = 3
  · subst e3
    simp only [true_or, or_true, if_true, if_false, reduceIte, Int.reduceEq, or_self, or_false, false_or]
    go_enter Try.func48, Try.ntmps48
    go_upto_region 1 with fail
    generalize W.alloc (.cells #[.int .i64 3, .int .i64 bs, .int .i64 bi, .int .i64 bg, .int .i64 bm, .int .i64 bx, .int .i64 bY, .int .i64 bvx, .int .i64 bvy, .int .i64 bh, .int .i64 bp, .int .i64 bl] 91) = w1 at *
    go_upto_region 8 with fail
    have G0 := H0.out
    clear H0 kk
    go_region_held3 (fun W' => W'.cell? ⟨nb, 1, none⟩ = some (.int .i64 bs) ∧ W'.cell? ⟨nb, 2, none⟩ = some (.int .i64 bi) ∧ W'.cell? ⟨nb, 3, none⟩ = some (.int .i64 bg) ∧ W'.cell? ⟨nb, 4, none⟩ = some (.int .i64 bm) ∧ W'.cell? ⟨nb, 5, none⟩ = some (.int .i64 bx) ∧ W'.cell? ⟨nb, 6, none⟩ = some (.int .i64 bY) ∧ W'.cell? ⟨nb, 7, none⟩ = some (.int .i64 bvx) ∧ W'.cell? ⟨nb, 8, none⟩ = some (.int .i64 bvy) ∧ W'.cell? ⟨nb, 9, none⟩ = some (.int .i64 bh) ∧ W'.cell? ⟨nb, 10, none⟩ = some (.int .i64 bp) ∧ W'.cell? ⟨nb, 11, none⟩ = some (.int .i64 bl))
        (first | (exact RR.out _ _ _ G2) | (exact RR.out _ _ _ G1) | (exact RR.out _ _ _ G0.drew))
        (first
          | (go_at_call 76; refine (WR.out _ _ G1).mono ?_; rintro e w3 ⟨rfl, G2⟩)
          | (go_at_call 55; refine (WL.out _ _ G0.drew HN.out).mono ?_; rintro e w2 ⟨rfl, G1⟩))

    all_goals
      go_wp2
      go_ret
      exact ⟨by first | rfl | simp, G2.drop⟩
  by_cases e4 : k = 4
  · subst e4
    simp only [true_or, or_true, if_true, if_false, reduceIte, Int.reduceEq, or_self, or_false, false_or]
    go_enter Try.func48, Try.ntmps48
    go_upto_region 1 with fail
    generalize W.alloc (.cells #[.int .i64 4, .int .i64 bs, .int .i64 bi, .int .i64 bg, .int .i64 bm, .int .i64 bx, .int .i64 bY, .int .i64 bvx, .int .i64 bvy, .int .i64 bh, .int .i64 bp, .int .i64 bl] 91) = w1 at *
    go_upto_region 8 with fail
    have G0 := H0.out
    clear H0 kk
    go_region_held3 (fun W' => W'.cell? ⟨nb, 1, none⟩ = some (.int .i64 bs) ∧ W'.cell? ⟨nb, 2, none⟩ = some (.int .i64 bi) ∧ W'.cell? ⟨nb, 3, none⟩ = some (.int .i64 bg) ∧ W'.cell? ⟨nb, 4, none⟩ = some (.int .i64 bm) ∧ W'.cell? ⟨nb, 5, none⟩ = some (.int .i64 bx) ∧ W'.cell? ⟨nb, 6, none⟩ = some (.int .i64 bY) ∧ W'.cell? ⟨nb, 7, none⟩ = some (.int .i64 bvx) ∧ W'.cell? ⟨nb, 8, none⟩ = some (.int .i64 bvy) ∧ W'.cell? ⟨nb, 9, none⟩ = some (.int .i64 bh) ∧ W'.cell? ⟨nb, 10, none⟩ = some (.int .i64 bp) ∧ W'.cell? ⟨nb, 11, none⟩ = some (.int .i64 bl))
        (first | (exact RR.out _ _ _ G2) | (exact RR.out _ _ _ G1) | (exact RR.out _ _ _ G0.drew))
        (first
          | (go_at_call 76; refine (WR.out _ _ G1).mono ?_; rintro e w3 ⟨rfl, G2⟩)
          | (go_at_call 55; refine (WL.out _ _ G0.drew HN.out).mono ?_; rintro e w2 ⟨rfl, G1⟩))

    all_goals
      go_wp2
      go_ret
      exact ⟨by first | rfl | simp, G2.drop⟩
  by_cases e5 : k = 5
  · subst e5
    simp only [true_or, or_true, if_true, if_false, reduceIte, Int.reduceEq, or_self, or_false, false_or]
    go_enter Try.func48, Try.ntmps48
    go_upto_region 1 with fail
    generalize W.alloc (.cells #[.int .i64 5, .int .i64 bs, .int .i64 bi, .int .i64 bg, .int .i64 bm, .int .i64 bx, .int .i64 bY, .int .i64 bvx, .int .i64 bvy, .int .i64 bh, .int .i64 bp, .int .i64 bl] 91) = w1 at *
    go_upto_region 10 with fail
    have G0 := H0.out
    clear H0 kk
    go_region_held3 (fun W' => W'.cell? ⟨nb, 1, none⟩ = some (.int .i64 bs) ∧ W'.cell? ⟨nb, 2, none⟩ = some (.int .i64 bi) ∧ W'.cell? ⟨nb, 3, none⟩ = some (.int .i64 bg) ∧ W'.cell? ⟨nb, 4, none⟩ = some (.int .i64 bm) ∧ W'.cell? ⟨nb, 5, none⟩ = some (.int .i64 bx) ∧ W'.cell? ⟨nb, 6, none⟩ = some (.int .i64 bY) ∧ W'.cell? ⟨nb, 7, none⟩ = some (.int .i64 bvx) ∧ W'.cell? ⟨nb, 8, none⟩ = some (.int .i64 bvy) ∧ W'.cell? ⟨nb, 9, none⟩ = some (.int .i64 bh) ∧ W'.cell? ⟨nb, 10, none⟩ = some (.int .i64 bp) ∧ W'.cell? ⟨nb, 11, none⟩ = some (.int .i64 bl))
        (first | (exact RR.out _ _ _ G2) | (exact RR.out _ _ _ G1) | (exact RR.out _ _ _ G0.drew))
        (first
          | (go_at_call 77; refine (G1.removeR bs bi bg).mono ?_; rintro e w3 ⟨rfl, G2⟩)
          | (go_at_call 23; refine (G0.drew.removeL bs bi bg).mono ?_; rintro e w2 ⟨rfl, G1⟩))

    all_goals
      go_wp2
      go_ret
      exact ⟨by first | rfl | simp, G2.drop⟩
  have f0 : (k == 0) = false := by simpa using e0
  have f1 : (k == 1) = false := by simpa using e1
  have f2 : (k == 2) = false := by simpa using e2
  have f3 : (k == 3) = false := by simpa using e3
  have f4 : (k == 4) = false := by simpa using e4
  have f5 : (k == 5) = false := by simpa using e5
  simp only [e0, e1, e2, e3, e4, e5, or_self, if_false]
  go_enter Try.func48, Try.ntmps48
  go_upto_region 1 with fail
  generalize W.alloc (.cells #[.int .i64 k, .int .i64 bs, .int .i64 bi, .int .i64 bg, .int .i64 bm, .int .i64 bx, .int .i64 bY, .int .i64 bvx, .int .i64 bvy, .int .i64 bh, .int .i64 bp, .int .i64 bl] 91) = w1 at *
  have G0 := Lib.hid H0.out.drop
  clear H0 PL WL PR WR RR
  go_wp2
  go_ret
  exact ⟨rfl, G0.out⟩
end Go.Proofs.Ytgmgenggboicnaa
namespace Go.Proofs.Ytgmgenggboicnaa
open Go.ChangeShapes Go.WideShapes Go.ChangeAt Go.RowKit Pz Ar
set_option linter.unusedVariables false
set_option maxRecDepth 100000

/-- these deeds lie at A, below block B -/
def RdD (W : World) (B : Nat) (A : Option Addr) (l : List Dd) : Prop :=
  ∀ (j : Nat) (x : Dd), l[j]? = some x → ∃ g o, A = some ⟨g, o, none⟩ ∧ g < B ∧ (W.cell? ⟨g, o + j * 12, none⟩ = some (.int .i64 x.k) ∧ W.cell? ⟨g, o + j * 12 + 1, none⟩ = some (.int .i64 x.b.s) ∧ W.cell? ⟨g, o + j * 12 + 2, none⟩ = some (.int .i64 x.b.i) ∧ W.cell? ⟨g, o + j * 12 + 3, none⟩ = some (.int .i64 x.b.g) ∧ W.cell? ⟨g, o + j * 12 + 4, none⟩ = some (.int .i64 x.b.m) ∧ W.cell? ⟨g, o + j * 12 + 5, none⟩ = some (.int .i64 x.b.x) ∧ W.cell? ⟨g, o + j * 12 + 6, none⟩ = some (.int .i64 x.b.y) ∧ W.cell? ⟨g, o + j * 12 + 7, none⟩ = some (.int .i64 x.b.vx) ∧ W.cell? ⟨g, o + j * 12 + 8, none⟩ = some (.int .i64 x.b.vy) ∧ W.cell? ⟨g, o + j * 12 + 9, none⟩ = some (.int .i64 x.b.h) ∧ W.cell? ⟨g, o + j * 12 + 10, none⟩ = some (.int .i64 x.b.p) ∧ W.cell? ⟨g, o + j * 12 + 11, none⟩ = some (.int .i64 x.b.l))
section
variable {W W' : World} {B : Nat} {A : Option Addr} {l : List Dd}
theorem RdD.below (h : RdD W B A l) (hb : Below B W W') : RdD W' B A l := fun j x hx => by
  obtain ⟨g, o, e, hg, h0, h1, h2, h3, h4, h5, h6, h7, h8, h9, h10, h11⟩ := h j x hx
  exact ⟨g, o, e, hg, (hb.cell (p := ⟨g, _, none⟩) hg).trans h0, (hb.cell (p := ⟨g, _, none⟩) hg).trans h1, (hb.cell (p := ⟨g, _, none⟩) hg).trans h2, (hb.cell (p := ⟨g, _, none⟩) hg).trans h3, (hb.cell (p := ⟨g, _, none⟩) hg).trans h4, (hb.cell (p := ⟨g, _, none⟩) hg).trans h5, (hb.cell (p := ⟨g, _, none⟩) hg).trans h6, (hb.cell (p := ⟨g, _, none⟩) hg).trans h7, (hb.cell (p := ⟨g, _, none⟩) hg).trans h8, (hb.cell (p := ⟨g, _, none⟩) hg).trans h9, (hb.cell (p := ⟨g, _, none⟩) hg).trans h10, (hb.cell (p := ⟨g, _, none⟩) hg).trans h11⟩
theorem RdD.more (h : RdD W B A l) {B' : Nat} (hB : B ≤ B') : RdD W B' A l := fun j x hx => by
  obtain ⟨g, o, e, hg, h⟩ := h j x hx
  exact ⟨g, o, e, by omega, h⟩
theorem RdD.take (h : RdD W B A l) (n : Nat) : RdD W B A (l.take n) := fun j x hx => h j x (by
  by_cases hj : j < n
  · rwa [List.getElem?_take_of_lt hj] at hx
  · have := (List.getElem?_eq_some_iff.1 hx).1
    rw [List.length_take] at this
    omega)
theorem RdD.of_reads (h : ReadsK W B A 12 (l.map Dd.row)) : RdD W B A l := fun j x hx => by
  have hj := (List.getElem?_eq_some_iff.1 hx).1
  obtain ⟨g, o, e, hg, hc⟩ := h (by rw [List.length_map]; omega)
  have hr : (l.map Dd.row)[j]? = some x.row := by rw [List.getElem?_map, hx]; rfl
  exact ⟨g, o, e, hg, hc j _ hr 0 _ rfl, hc j _ hr 1 _ rfl, hc j _ hr 2 _ rfl, hc j _ hr 3 _ rfl, hc j _ hr 4 _ rfl, hc j _ hr 5 _ rfl, hc j _ hr 6 _ rfl, hc j _ hr 7 _ rfl, hc j _ hr 8 _ rfl, hc j _ hr 9 _ rfl, hc j _ hr 10 _ rfl, hc j _ hr 11 _ rfl⟩
end
theorem dd_of {l : List Int} (hl : l.length = 12) (hf : I64 l) : ∃ x : Dd, l.map (Value.int .i64) = x.row ∧ Fit x.b.m := by
  obtain ⟨k, l0, rfl, h0⟩ := list_succ hl
  obtain ⟨b, hb, hF⟩ := bn_of h0 (fun x hx => hf x (List.mem_cons_of_mem _ hx))
  exact ⟨⟨k, b⟩, by rw [List.map_cons, hb], hF.m⟩
theorem rows_dd : ∀ l : List (List Int), (∀ x ∈ l, x.length = 12 ∧ I64 x) → ∃ bs : List Dd, l.map ints = bs.map Dd.row ∧ bs.length = l.length ∧ ∀ x ∈ bs, Fit x.b.m
  | [], _ => ⟨[], rfl, rfl, fun x hx => by cases hx⟩
  | x :: r, h => by
    obtain ⟨b, hb, hF⟩ := dd_of (h x List.mem_cons_self).1 (h x List.mem_cons_self).2
    obtain ⟨bs, h1, h2, h3⟩ := rows_dd r (fun y hy => h y (List.mem_cons_of_mem _ hy))
    refine ⟨b :: bs, ?_, by simp [h2], fun y hy => ?_⟩
    · rw [List.map_cons, List.map_cons, h1]
      congr 1
    · rcases List.mem_cons.1 hy with rfl | hy
      · exact hF
      · exact h3 y hy
section
variable {H : Type} {enc : TypeId × Value → H} {w : World} {v : Value} {d : DataW H} {ps : List MemPlace} {b0 : Nat}
theorem in_deeds11 (hval : Value.okWide Try.prog w .any b0 22 v) (hd : DataW.Trod enc Try.prog w 0 (fun _ => true) true 22 v d ps) (hz : ∀ n ∈ DataW.weights Try.prog 22 d, n ≤ reachBytes) :
    ∃ (A : Option Addr) (cap : Nat) (l : List Dd), v = .slice A l.length cap ∧ l.length ≤ cap ∧ cap ≤ 140737488351232 ∧ (∀ x ∈ l, Fit x.b.m) ∧ RdD w w.heap.size A l := by
  obtain ⟨A, cap, l, rfl, h1, h2, h3, h4⟩ := in_flats (k := 12) 4 Try.underlying22 Try.underlying91 (by kernel_rfl) (by decide) (of_decide_eq_true (by kernel_rfl)) (by kernel_rfl) hval hd hz
  obtain ⟨bs, e1, e2, e3⟩ := rows_dd l h3
  rw [e1] at h4
  exact ⟨A, cap, bs, by rw [e2], by omega, h2, e3, RdD.of_reads h4⟩
end
set_option maxHeartbeats 8000000 in
theorem few_any {w : World} {A : Option Addr} {c : Nat} {l : List Dd} (R : RdD w w.heap.size A l) (hc : l.length ≤ c) (hcap : c ≤ 140737488351232) :
    Calls Try.prog 47 #[.slice A l.length c] w fun e w' => (∃ c', e = .returned (.slice A (l.take 60).length c')) ∧ w = w' := by
  rw [List.length_take]
  by_cases hl : 60 < l.length
  · obtain ⟨g, o, rfl, rest⟩ := R 0 l[0] (List.getElem?_eq_getElem (by omega))
    clear rest
    have t1 : (60 : Int) < (l.length : Int) := by omega
    have e1 : min 60 l.length = 60 := by omega
    have hc2 : 60 ≤ c := by omega
    rw [e1]
    clear R e1
    generalize l.length = n at *
    go_enter Try.func47, Try.ntmps47
    go_wp2
    go_ret
    exact ⟨⟨_, rfl⟩, rfl⟩
  · have t1 : ¬ (60 : Int) < (l.length : Int) := by omega
    have e1 : min 60 l.length = l.length := by omega
    rw [e1]
    clear R e1
    generalize l.length = n at *
    go_enter Try.func47, Try.ntmps47
    go_wp2
    go_ret
    exact ⟨⟨_, rfl⟩, rfl⟩
end Go.Proofs.Ytgmgenggboicnaa
namespace Go.Proofs.Ytgmgenggboicnaa
open Go.RowKit Pz Ar
set_option linter.unusedVariables false
set_option linter.unusedSimpArgs false

namespace Ar
def deeds (l : List Dd) : Tb := l.foldl deedT (fun _ => [])
theorem deeds_take (l : List Dd) {j : Nat} (hj : j < l.length) : deeds (l.take (j + 1)) = deedT (deeds (l.take j)) l[j] := by
  unfold deeds
  rw [List.take_add_one, List.getElem?_eq_getElem hj, List.foldl_append]
  rfl
theorem deeds_le : ∀ l : List Dd, Le (deeds l) l.length := fun l => by
  have : ∀ (l : List Dd) (t : Tb) (n : Nat), Le t n → Le (l.foldl deedT t) (n + l.length) := fun l => by
    induction l with
    | nil => intro t n h; exact h
    | cons x l ih => intro t n h; rw [List.foldl_cons, List.length_cons]; exact (ih _ _ (le_step h x)).mono (by omega)
  have := this l _ 0 le_none
  rwa [Nat.zero_add] at this
theorem deeds_few {l : List Dd} (h : l.length ≤ 60) : total (deeds l) ≤ 1920 := by
  have := le_total (deeds_le l)
  omega
end Ar
set_option maxHeartbeats 16000000 in
set_option maxRecDepth 100000 in
theorem made_any {w : World} {A : Option Addr} {c : Nat} {l0 : List Dd} (R : RdD w w.heap.size A l0) (hc : l0.length ≤ c) (hcap : c ≤ 140737488351232) (hF : ∀ x ∈ l0, Fit x.b.m) :
    Calls Try.prog 15 #[.slice A l0.length c] w fun e w' => e = .returned (.pointer (some ⟨w.heap.size, 0, none⟩)) ∧ P1 w w.heap.size (deeds (l0.take 60)) [] w' := by
  have N := Lib.hid (p1_new w)
  obtain ⟨s, hs⟩ : ∃ s, s = w.heap.size := ⟨_, rfl⟩
  have FW := Lib.hid fun W (hW : Below w.heap.size w W) => few_any ((R.below hW).more hW.size) hc hcap
  obtain ⟨l, hl⟩ : ∃ l, l = l0.take 60 := ⟨_, rfl⟩
  have hl6 : l.length ≤ 60 := by rw [hl, List.length_take]; omega
  have RX := Lib.hid fun W (hW : Below w.heap.size w W) => (R.take 60).below hW
  have FX : Hid (∀ x ∈ l, Fit x.b.m) := Lib.hid fun x hx => hF x (List.mem_of_mem_take (hl ▸ hx))
  rw [← hl] at RX FW ⊢
  rw [← hs] at N ⊢
  clear hl hs R hF hc hcap
  have hn : (l.length : Int) ≤ 60 := by omega
  have E0 : deeds (l.take 0) = fun _ => [] := rfl
  rw [← E0] at N
  clear E0
  generalize l0.length = n0 at *
  go_enter Try.func15, Try.ntmps15
  go_wp2_with (first
    | (go_at_call 43; refine N.out.mono ?_; rintro e w1 ⟨rfl, h1⟩; clear N)
    | (go_at_call 47; refine (FW.out _ h1.bel).mono ?_; rintro e w2 ⟨⟨c', rfl⟩, rfl⟩; have h2 := Lib.hid h1; clear FW h1))
  go_loopw [4] (fun i wr => ∃ j : Nat, j ≤ l.length ∧ i = .int .i64 j ∧ Hid (P1 w s (deeds (l.take j)) [] wr)) (fun i _ => l.length - (intOf i).toNat)
  case atStart => exact ⟨0, Nat.zero_le _, rfl, h2⟩
  case round =>
    obtain ⟨j, hj, rfl, HP⟩ := hrel
    clear h2
    by_cases hjn : j < l.length
    · have t1 : (j : Int) < (l.length : Int) := by omega
      have hT := deeds_take l hjn
      obtain ⟨g, o, rfl, _⟩ := RX.out wr HP.out.bel j _ (List.getElem?_eq_getElem hjn)
      have h3 := HP.out.two
      have hb3 := bel1 wr (.cells (Array.replicate 32 (.slice none 0 0)) ST)
      obtain ⟨g', o', e, _, k0, k1, k2, k3, k4, k5, k6, k7, k8, k9, k10, k11⟩ := RX.out _ (HP.out.bel.trans (hb3.mono HP.out.bel.size)) j _ (List.getElem?_eq_getElem hjn)
      cases e
      have eA : (Array.replicate 32 (.slice none 0 0) : Array Value) = #[.slice none 0 0, .slice none 0 0, .slice none 0 0, .slice none 0 0, .slice none 0 0, .slice none 0 0, .slice none 0 0, .slice none 0 0, .slice none 0 0, .slice none 0 0, .slice none 0 0, .slice none 0 0, .slice none 0 0, .slice none 0 0, .slice none 0 0, .slice none 0 0, .slice none 0 0, .slice none 0 0, .slice none 0 0, .slice none 0 0, .slice none 0 0, .slice none 0 0, .slice none 0 0, .slice none 0 0, .slice none 0 0, .slice none 0 0, .slice none 0 0, .slice none 0 0, .slice none 0 0, .slice none 0 0, .slice none 0 0, .slice none 0 0] := rfl
      rw [eA] at h3 k0 k1 k2 k3 k4 k5 k6 k7 k8 k9 k10 k11
      have SX := step_any h3 l[j] (FX.out _ (List.getElem_mem hjn)) (n := 60) (n' := 0) ((deeds_le _).mono (by rw [List.length_take]; omega)) le_none (by decide) (by decide)
      rw [← hT] at SX
      generalize deedB (deeds (l.take j)) (fun _ => []) l[j] = bb at SX
      replace SX := Lib.hid SX
      clear h3 hb3 HP hT RX FX eA
      simp only [Dd.val] at SX
      generalize l[j].k = y at *
      generalize l[j].b.s = y0 at *
      generalize l[j].b.i = y1 at *
      generalize l[j].b.g = y2 at *
      generalize l[j].b.m = y3 at *
      generalize l[j].b.x = y4 at *
      generalize l[j].b.y = y5 at *
      generalize l[j].b.vx = y6 at *
      generalize l[j].b.vy = y7 at *
      generalize l[j].b.h = y8 at *
      generalize l[j].b.p = y9 at *
      generalize l[j].b.l = y10 at *
      go_wp2_with (go_at_call 48; refine SX.out.mono ?_; rintro e w5 ⟨rfl, h5'⟩; have h5 := Lib.hid h5'.one; clear SX h5')
      go_roundw
      case rel => exact ⟨j + 1, by omega, by go_num, h5⟩
      case measure => simp [intOf]; omega
    · obtain rfl : j = l.length := by omega
      have t1 : ¬ (l.length : Int) < (l.length : Int) := by omega
      rw [List.take_length] at HP
      clear RX FX
      generalize l.length = n at *
      go_wp2
      go_ret
      exact ⟨rfl, HP.out⟩
end Go.Proofs.Ytgmgenggboicnaa
