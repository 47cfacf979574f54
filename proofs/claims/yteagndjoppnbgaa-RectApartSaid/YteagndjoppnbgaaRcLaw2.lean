/- The laws' walks: what changes by going, and how far points lie apart. -/
import Derived.Test.YteagndjoppnbgaaRcAwake
import Derived.Test.YteagndjoppnbgaaRcPure2
namespace Go.Proofs.Yteagndjoppnbgaa
open Go.RowKit

set_option maxHeartbeats 2000000 in
set_option maxRecDepth 100000 in
theorem law_steps (w : World) (a b c d : Int) (hr : Fits a ∧ Fits b ∧ Fits c ∧ Fits d) (x y : Int) (hx : -9223372036854775808 ≤ x ∧ x ≤ 9223372036854775807) (hy : -9223372036854775808 ≤ y ∧ y ≤ 9223372036854775807) (u v : Int) (hu : -9223372036854775808 ≤ u ∧ u ≤ 9223372036854775807) (hv : -9223372036854775808 ≤ v ∧ v ≤ 9223372036854775807) :
    Calls Try.prog 8 #[.agg #[.int .i64 a, .int .i64 b, .int .i64 c, .int .i64 d], .agg #[.int .i64 x, .int .i64 y], .agg #[.int .i64 u, .int .i64 v]] w fun e w' => e = .returned (.bool true) ∧ Below w.heap.size w w' := by
  obtain ⟨ha, hb, hc, hd⟩ := hr
  have G1 := Lib.hid (fun W => gap_any a b c d x y W ha hb hc hd hx hy)
  have G2 := Lib.hid (fun W => gap_any a b c d u v W ha hb hc hd hu hv)
  have F := Lib.hid (fun W => far_any x y u v W hx hy hu hv)
  have e1 := Rc.gap_step a b c d x y u v
  obtain ⟨e2, e3⟩ := Rc.gap_bd a b c d x y
  obtain ⟨e4, e5⟩ := Rc.gap_bd a b c d u v
  obtain ⟨e6, e7⟩ := Rc.far_bd x y u v
  generalize Rc.gap a b c d x y = g1 at *
  generalize Rc.gap a b c d u v = g2 at *
  generalize Rc.far x y u v = f at *
  clear ha hb hc hd hx hy hu hv
  go_enter Try.func8, Try.ntmps8
  go_wp2
  refine Og.grow 24 (by kernel_rfl) (by kernel_rfl) fun hc hf => ?_
  simp only [List.take_succ_cons, List.take_zero, List.drop_succ_cons, List.drop_zero]
  repeat (refine Og.det [] rfl (fun K hK => ?_); go_simp; first | (refine hK _ _ ?_; clear hK K) | (with_reducible refine ⟨_, fun p => Og.lays (G1.out _), hK _ _ ?_⟩; clear hK K) | (with_reducible refine ⟨_, fun p => Og.lays (G2.out _), hK _ _ ?_⟩; clear hK K) | (with_reducible refine ⟨_, fun p => Og.same (F.out _), hK _ _ ?_⟩; clear hK K))
  refine Og.fin fun W hW => ?_
  simp only [Og.opened_nil]
  clear hc hf
  have b1 := (bel3 _ _ _ _).trans (hW.mono (by simp; omega))
  clear hW
  rcases e1 with ⟨rfl, rfl⟩ | ⟨e8, e9, e10, e11⟩
  all_goals
    go_wp2_with fail
    refine (awake_hid.out _).mono ?_
    rintro e w2 ⟨rfl, b2⟩
    go_wp2
    go_ret
    exact ⟨rfl, b1.trans (b2.mono b1.size)⟩

set_option maxHeartbeats 2000000 in
set_option maxRecDepth 100000 in
theorem law_apart (w : World) (x y : Int) (hx : -9223372036854775808 ≤ x ∧ x ≤ 9223372036854775807) (hy : -9223372036854775808 ≤ y ∧ y ≤ 9223372036854775807) (u v : Int) (hu : -9223372036854775808 ≤ u ∧ u ≤ 9223372036854775807) (hv : -9223372036854775808 ≤ v ∧ v ≤ 9223372036854775807) (p q : Int) (hp : -9223372036854775808 ≤ p ∧ p ≤ 9223372036854775807) (hq : -9223372036854775808 ≤ q ∧ q ≤ 9223372036854775807) :
    Calls Try.prog 9 #[.agg #[.int .i64 x, .int .i64 y], .agg #[.int .i64 u, .int .i64 v], .agg #[.int .i64 p, .int .i64 q]] w fun e w' => e = .returned (.bool true) ∧ Below w.heap.size w w' := by
  have F1 := Lib.hid (fun W => far_any x y u v W hx hy hu hv)
  have F2 := Lib.hid (fun W => far_any u v p q W hu hv hp hq)
  have F3 := Lib.hid (fun W => far_any x y p q W hx hy hp hq)
  have F4 := Lib.hid (fun W => show Calls Try.prog 13 #[.int .i64 u, .int .i64 v, .int .i64 x, .int .i64 y] W fun e w' => (e = .returned (.int .i64 (Rc.far x y u v)) ∧ W = w') by have := far_any u v x y W hu hv hx hy; rwa [Rc.far_sym] at this)
  have R := Lib.hid (fun W => rfar_any x y u v W hx hy hu hv)
  have e1 := Rc.far_tri x y u v p q
  obtain ⟨e2, e3⟩ := Rc.far_bd x y u v
  obtain ⟨e4, e5⟩ := Rc.far_bd u v p q
  generalize Rc.far x y u v = f1 at *
  generalize Rc.far u v p q = f2 at *
  generalize Rc.far x y p q = f3 at *
  clear hx hy hu hv hp hq
  go_enter Try.func9, Try.ntmps9
  go_wp2
  refine Og.grow 30 (by kernel_rfl) (by kernel_rfl) fun hc hf => ?_
  simp only [List.take_succ_cons, List.take_zero, List.drop_succ_cons, List.drop_zero]
  repeat (refine Og.det [] rfl (fun K hK => ?_); go_simp; first | (refine hK _ _ ?_; clear hK K) | (with_reducible refine ⟨_, fun p => Og.same (F1.out _), hK _ _ ?_⟩; clear hK K) | (with_reducible refine ⟨_, fun p => Og.same (F2.out _), hK _ _ ?_⟩; clear hK K) | (with_reducible refine ⟨_, fun p => Og.same (F3.out _), hK _ _ ?_⟩; clear hK K))
  refine Og.fin fun W hW => ?_
  simp only [Og.opened_nil]
  clear hc hf
  have q1 := (hW.block w.heap.size (by rw [size3]; omega)).trans (at3a w _ _ _)
  have q2 := (hW.block (w.heap.size + 1) (by rw [size3]; omega)).trans (at3b w _ _ _)
  have b1 := (bel3 _ _ _ _).trans (hW.mono (by simp; omega))
  clear hW
  obtain ⟨⟨k0, k1⟩, _⟩ := box2 q1
  obtain ⟨⟨k2, k3⟩, _⟩ := box2 q2
  clear q1 q2
  go_wp2_with fail
  refine (R.out _).mono ?_
  rintro e w' ⟨rfl, rfl⟩
  go_wp2_with fail
  refine (F4.out _).mono ?_
  rintro e w' ⟨rfl, rfl⟩
  go_wp2_with fail
  refine (awake_hid.out _).mono ?_
  rintro e w2 ⟨rfl, b2⟩
  go_wp2
  go_ret
  exact ⟨rfl, b1.trans (b2.mono b1.size)⟩
end Go.Proofs.Yteagndjoppnbgaa
