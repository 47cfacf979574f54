/- The laws' walks: Has, Far, Grow. -/
import Derived.Test.YteagndjoppnbgaaRcAwake
namespace Go.Proofs.Yteagndjoppnbgaa
open Go.RowKit

set_option maxHeartbeats 2000000 in
set_option maxRecDepth 100000 in
theorem law_has (w : World) (a b c d : Int) (hr : Fits a ∧ Fits b ∧ Fits c ∧ Fits d) (x : Int) (hx : -9223372036854775808 ≤ x ∧ x ≤ 9223372036854775807) (y : Int) (hy : -9223372036854775808 ≤ y ∧ y ≤ 9223372036854775807) :
    Calls Try.prog 3 #[.agg #[.int .i64 a, .int .i64 b, .int .i64 c, .int .i64 d], .int .i64 x, .int .i64 y] w fun e w' => e = .returned (.bool true) ∧ Below w.heap.size w w' := by
  obtain ⟨ha, hb, hc, hd⟩ := hr
  have M := Lib.hid (fun W => has_any a b c d x y W ha hb hc hd hx hy)
  have R := Lib.hid (fun W => rhas_any a b c d x y W ha hb hc hd hx hy)
  rw [has_same] at M
  generalize Rc.hasR a b c d x y = h at *
  clear ha hb hc hd hx hy
  go_enter Try.func3, Try.ntmps3
  go_wp2
  refine Og.grow 13 (by kernel_rfl) (by kernel_rfl) fun hc hf => ?_
  simp only [List.take_succ_cons, List.take_zero, List.drop_succ_cons, List.drop_zero]
  repeat (refine Og.det [] rfl (fun K hK => ?_); go_simp; first | (refine hK _ _ ?_; clear hK K) | (refine ⟨_, fun p => Og.lays (M.out _), hK _ _ ?_⟩; clear hK K) | (refine ⟨_, fun p => Og.lays (R.out _), hK _ _ ?_⟩; clear hK K) | (refine ⟨_, fun p => Og.lays (awake_hid.out _), hK _ _ ?_⟩; clear hK K))
  refine Og.fin fun W hW => ?_
  simp only [Og.opened_nil]
  clear hc hf
  go_wp2
  go_ret
  exact ⟨rfl, (bel1 _ _).trans (hW.mono (by simp))⟩
set_option maxHeartbeats 2000000 in
set_option maxRecDepth 100000 in
theorem law_fars (w : World) (x y : Int) (hx : -9223372036854775808 ≤ x ∧ x ≤ 9223372036854775807) (hy : -9223372036854775808 ≤ y ∧ y ≤ 9223372036854775807) (u v : Int) (hu : -9223372036854775808 ≤ u ∧ u ≤ 9223372036854775807) (hv : -9223372036854775808 ≤ v ∧ v ≤ 9223372036854775807) :
    Calls Try.prog 4 #[.agg #[.int .i64 x, .int .i64 y], .agg #[.int .i64 u, .int .i64 v]] w fun e w' => e = .returned (.bool true) ∧ Below w.heap.size w w' := by
  have M := Lib.hid (fun W => far_any x y u v W hx hy hu hv)
  have R := Lib.hid (fun W => rfar_any x y u v W hx hy hu hv)
  generalize Rc.far x y u v = h at *
  clear hu hv hx hy
  go_enter Try.func4, Try.ntmps4
  go_wp2
  refine Og.grow 23 (by kernel_rfl) (by kernel_rfl) fun hc hf => ?_
  simp only [List.take_succ_cons, List.take_zero, List.drop_succ_cons, List.drop_zero]
  repeat (refine Og.det [] rfl (fun K hK => ?_); go_simp; first | (refine hK _ _ ?_; clear hK K) | (refine ⟨_, fun p => Og.same (M.out _), hK _ _ ?_⟩; clear hK K) | (refine ⟨_, fun p => Og.same (R.out _), hK _ _ ?_⟩; clear hK K) | (refine ⟨_, fun p => Og.lays (awake_hid.out _), hK _ _ ?_⟩; clear hK K))
  refine Og.fin fun W hW => ?_
  simp only [Og.opened_nil]
  clear hc hf
  go_wp2
  go_ret
  exact ⟨rfl, (bel2 _ _ _).trans (hW.mono (by simp; omega))⟩
set_option maxHeartbeats 2000000 in
set_option maxRecDepth 100000 in
theorem law_grows (w : World) (a b c d : Int) (hr : Fits a ∧ Fits b ∧ Fits c ∧ Fits d) (n : Int) (hn : -9223372036854775808 ≤ n ∧ n ≤ 9223372036854775807) :
    Calls Try.prog 6 #[.agg #[.int .i64 a, .int .i64 b, .int .i64 c, .int .i64 d], .int .i64 n] w fun e w' => e = .returned (.bool true) ∧ Below w.heap.size w w' := by
  obtain ⟨ha, hb, hc, hd⟩ := hr
  have M := Lib.hid (fun W => grow_any a b c d n W ha hb hc hd hn)
  have R := Lib.hid (fun W => rgrow_any a b c d n W ha hb hc hd hn)
  generalize Rc.grown a b c d n = h at *
  obtain ⟨h0, h1, h2, h3⟩ := h
  simp only at M R
  clear ha hb hc hd hn
  go_enter Try.func6, Try.ntmps6
  go_wp2
  refine Og.grow 11 (by kernel_rfl) (by kernel_rfl) fun hc hf => ?_
  simp only [List.take_succ_cons, List.take_zero, List.drop_succ_cons, List.drop_zero]
  repeat (refine Og.det [] rfl (fun K hK => ?_); go_simp; first | (refine hK _ _ ?_; clear hK K) | (refine ⟨_, fun p => Og.lays (M.out _), hK _ _ ?_⟩; clear hK K) | (refine ⟨_, fun p => Og.lays (R.out _), hK _ _ ?_⟩; clear hK K) | (refine ⟨_, fun p => Og.lays (awake_hid.out _), hK _ _ ?_⟩; clear hK K))
  refine Og.fin fun W hW => ?_
  simp only [Og.opened_nil]
  clear hc hf
  go_wp2
  go_ret
  exact ⟨rfl, (bel1 _ _).trans (hW.mono (by simp))⟩
end Go.Proofs.Yteagndjoppnbgaa
