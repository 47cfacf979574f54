/- The law's walk: what is near, and what is grown by as much. -/
import Derived.Test.YteagndjoppnbgaaRcAwake
import Derived.Test.YteagndjoppnbgaaRcPure2
namespace Go.Proofs.Yteagndjoppnbgaa
open Go.RowKit

namespace Rc
def half (n : Int) : Int := n.tmod 268435456
theorem half_bd (n : Int) : -268435456 < half n ∧ half n < 268435456 := by
  unfold half
  refine ⟨?_, Int.tmod_lt_of_pos n (by omega)⟩
  have := Int.tmod_lt_of_pos (-n) (show (0 : Int) < 268435456 by omega)
  rw [Int.neg_tmod] at this
  omega
end Rc
set_option maxHeartbeats 400000 in
theorem half_any (n : Int) (w : World) (_ : -9223372036854775808 ≤ n) (_ : n ≤ 9223372036854775807) :
    Calls Try.prog 19 #[.int .i64 n] w fun e w' => e = .returned (.int .i64 (Rc.half n)) ∧ w = w' := by
  have hb := Rc.half_bd n
  unfold Rc.half at *
  obtain ⟨h0, h1⟩ := hb
  go_enter Try.func19, Try.ntmps19
  go_wp2
  go_ret
  exact ⟨rfl, rfl⟩
theorem I_clamp (n : Int) : I (Rc.clamp n) := by
  have := Rc.clamp_bd n
  exact ⟨by omega, by omega⟩
theorem I_half (n : Int) : I (Rc.half n) := by
  have := Rc.half_bd n
  exact ⟨by omega, by omega⟩

set_option maxHeartbeats 2000000 in
set_option maxRecDepth 100000 in
theorem law_within (w : World) (a b c d : Int) (hr : Fits a ∧ Fits b ∧ Fits c ∧ Fits d) (x y : Int) (hx : -9223372036854775808 ≤ x ∧ x ≤ 9223372036854775807) (hy : -9223372036854775808 ≤ y ∧ y ≤ 9223372036854775807) (n : Int) (hn : -9223372036854775808 ≤ n ∧ n ≤ 9223372036854775807) :
    Calls Try.prog 7 #[.agg #[.int .i64 a, .int .i64 b, .int .i64 c, .int .i64 d], .agg #[.int .i64 x, .int .i64 y], .int .i64 n] w fun e w' => e = .returned (.bool true) ∧ Below w.heap.size w w' := by
  obtain ⟨⟨a0, a1⟩, ⟨b0, b1⟩, ⟨c0, c1⟩, ⟨d0, d1⟩⟩ := hr
  obtain ⟨x0, x1⟩ := hx
  obtain ⟨y0, y1⟩ := hy
  obtain ⟨n0, n1⟩ := hn
  obtain ⟨e, he⟩ : ∃ e, max 0 (Rc.half n) = e := ⟨_, rfl⟩
  have eb : 0 ≤ e ∧ e < 268435456 := by have := Rc.half_bd n; omega
  have EI : I e := ⟨by omega, by omega⟩
  obtain ⟨g, hg⟩ : ∃ g, Rc.grown (Rc.half a) (Rc.half b) (Rc.half c) (Rc.half d) e = g := ⟨_, rfl⟩
  have G := Lib.hid (fun W => show Calls Try.prog 17 #[.agg #[.int .i64 (Rc.half a), .int .i64 (Rc.half b), .int .i64 (Rc.half c), .int .i64 (Rc.half d)], .int .i64 e] W fun e' w' => (e' = .returned (.agg #[.int .i64 g.a, .int .i64 g.b, .int .i64 g.c, .int .i64 g.d]) ∧ Below W.heap.size W w') by
    have := grow_any (Rc.half a) (Rc.half b) (Rc.half c) (Rc.half d) e W (I_half a) (I_half b) (I_half c) (I_half d) EI
    rwa [hg] at this)
  have gI : I g.a ∧ I g.b ∧ I g.c ∧ I g.d := by
    rw [← hg]
    unfold Rc.grown
    split
    · exact ⟨by decide, by decide, by decide, by decide⟩
    · exact ⟨I_clamp _, I_clamp _, I_clamp _, I_clamp _⟩
  have N := Lib.hid (fun W => near_any (Rc.half a) (Rc.half b) (Rc.half c) (Rc.half d) (Rc.half x) (Rc.half y) e W (I_half a) (I_half b) (I_half c) (I_half d) (I_half x) (I_half y))
  have S := Lib.hid (fun W => has_any g.a g.b g.c g.d (Rc.half x) (Rc.half y) W gI.1 gI.2.1 gI.2.2.1 gI.2.2.2 (I_half x) (I_half y))
  have ES : nearB (Rc.half a) (Rc.half b) (Rc.half c) (Rc.half d) (Rc.half x) (Rc.half y) e = hasB g.a g.b g.c g.d (Rc.half x) (Rc.half y) := by
    unfold nearB hasB
    rw [decide_eq_decide, ← hg]
    exact Rc.near_has _ _ _ _ _ _ e (Rc.half_bd a) (Rc.half_bd b) (Rc.half_bd c) (Rc.half_bd d) eb
  rw [ES] at N
  clear ES gI hg EI eb
  have HE := Lib.hid he
  clear he
  generalize hasB g.a g.b g.c g.d (Rc.half x) (Rc.half y) = B at *
  obtain ⟨g0, g1, g2, g3⟩ := g
  simp only at G S
  go_enter Try.func7, Try.ntmps7
  go_wp2
  refine Og.grow 13 (by kernel_rfl) (by kernel_rfl) fun hc hf => ?_
  simp only [List.take_succ_cons, List.take_zero, List.drop_succ_cons, List.drop_zero]
  repeat (refine Og.det [] rfl (fun K hK => ?_); go_simp; first | (refine hK _ _ ?_; clear hK K) | (with_reducible refine ⟨_, fun p => Og.same (half_any _ _ (by assumption) (by assumption)), hK _ _ ?_⟩; clear hK K))
  refine Og.fin fun W hW => ?_
  simp only [Og.opened_nil]
  clear hc hf
  have q1 := Lib.hid ((hW.block w.heap.size (by rw [size2]; omega)).trans (at2a w _ _))
  have q2 := Lib.hid ((hW.block (w.heap.size + 1) (by rw [size2]; omega)).trans (at2b w _ _))
  have z1 : w.heap.size + 1 < W.heap.size := by have := hW.size; rw [size2] at this; omega
  have bl := (bel2 _ _ _).trans (hW.mono (by simp; omega))
  clear hW
  obtain ⟨⟨k0, k1, k2, k3⟩, f0, f1, f2, f3⟩ := box4 q1.out
  go_wp2
  have q3 := Lib.hid (set4_same q1.out (.int .i64 (Rc.half a)) (.int .i64 (Rc.half b)) (.int .i64 (Rc.half c)) (.int .i64 (Rc.half d)))
  have q4 := Lib.hid ((set4_other (b := w.heap.size) (b' := w.heap.size + 1) (by omega) (.int .i64 (Rc.half a)) (.int .i64 (Rc.half b)) (.int .i64 (Rc.half c)) (.int .i64 (Rc.half d))).trans q2.out)
  have bl2 := set4 bl w.heap.size (Nat.le_refl _) (.int .i64 (Rc.half a)) (.int .i64 (Rc.half b)) (.int .i64 (Rc.half c)) (.int .i64 (Rc.half d))
  rw [← set4_size (W := W) (b := w.heap.size) (.int .i64 (Rc.half a)) (.int .i64 (Rc.half b)) (.int .i64 (Rc.half c)) (.int .i64 (Rc.half d))] at z1
  clear k0 k1 k2 k3 f0 f1 f2 f3 q1 q2 bl
  generalize (((W.setCell ⟨w.heap.size, 0, none⟩ (.int .i64 (Rc.half a))).setCell ⟨w.heap.size, 1, none⟩ (.int .i64 (Rc.half b))).setCell ⟨w.heap.size, 2, none⟩ (.int .i64 (Rc.half c))).setCell ⟨w.heap.size, 3, none⟩ (.int .i64 (Rc.half d)) = W1 at *
  obtain ⟨⟨k0, k1⟩, _⟩ := box2 q4.out
  refine Og.grow 12 (by kernel_rfl) (by kernel_rfl) fun hc hf => ?_
  simp only [List.take_succ_cons, List.take_zero, List.drop_succ_cons, List.drop_zero]
  repeat (refine Og.det [] rfl (fun K hK => ?_); go_simp; first | (refine hK _ _ ?_; clear hK K) | (with_reducible refine ⟨_, fun p => Og.same (half_any _ _ (by assumption) (by assumption)), hK _ _ ?_⟩; clear hK K))
  refine Og.fin fun W2 hW => ?_
  simp only [Og.opened_nil]
  clear hc hf k0 k1
  have q5 := Lib.hid ((hW.block w.heap.size (by omega)).trans q3.out)
  have z2 : w.heap.size < W2.heap.size := by have := hW.size; omega
  have bl3 := bl2.trans (hW.mono (by omega))
  clear hW q3 q4 bl2 z1
  obtain ⟨⟨k0, k1, k2, k3⟩, _⟩ := box4 q5.out
  go_wp2
  rw [HE.out]
  refine Og.grow 16 (by kernel_rfl) (by kernel_rfl) fun hc hf => ?_
  simp only [List.take_succ_cons, List.take_zero, List.drop_succ_cons, List.drop_zero]
  repeat (refine Og.det [] rfl (fun K hK => ?_); go_simp; first | (refine hK _ _ ?_; clear hK K) | (with_reducible refine ⟨_, fun p => Og.lays (N.out _), hK _ _ ?_⟩; clear hK K) | (with_reducible refine ⟨_, fun p => Og.lays (G.out _), hK _ _ ?_⟩; clear hK K) | (with_reducible refine ⟨_, fun p => Og.lays (S.out _), hK _ _ ?_⟩; clear hK K) | (with_reducible refine ⟨_, fun p => Og.lays (awake_hid.out _), hK _ _ ?_⟩; clear hK K))
  refine Og.fin fun W3 hW => ?_
  simp only [Og.opened_nil]
  clear hc hf
  go_wp2
  go_ret
  exact ⟨rfl, bl3.trans (hW.mono (by omega))⟩
end Go.Proofs.Yteagndjoppnbgaa
