/- fixed.Add of two, rect.Grow: what they answer. -/
import Derived.Test.YteagndjoppnbgaaRcCore
import Derived.LoopTactic
namespace Go.Proofs.Yteagndjoppnbgaa
open Go.RowKit

set_option maxHeartbeats 1000000 in
theorem add_two (b : Nat) (x y : Int) (w : World) (hx : I x) (hy : I y) (k0 : w.cell? ⟨b, 0, none⟩ = some (.int .i64 x)) (k1 : w.cell? ⟨b, 1, none⟩ = some (.int .i64 y)) :
    Calls Try.prog 28 #[.slice (some ⟨b, 0, none⟩) 2 2] w fun e w' => e = .returned (.int .i64 (Rc.mv x y)) ∧ w = w' := by
  obtain ⟨x0, x1⟩ := hx
  obtain ⟨y0, y1⟩ := hy
  obtain ⟨c0, c1⟩ := Rc.clamp_bd x
  obtain ⟨d0, d1⟩ := Rc.clamp_bd y
  go_enter Try.func28, Try.ntmps28
  go_wp2
  go_loop [3, 8] (fun s i => ∃ k : Nat, k ≤ 2 ∧ i = .int .i64 k ∧ s = .int .i64 (if k = 0 then 0 else if k = 1 then Rc.clamp x else Rc.mv x y)) (fun _ i => 2 - (intOf i).toNat)
  case atStart => exact ⟨0, Nat.zero_le _, rfl, rfl⟩
  case round =>
    obtain ⟨k, hk, rfl, rfl⟩ := hrel
    rcases (show k = 0 ∨ k = 1 ∨ k = 2 by omega) with rfl | rfl | rfl
    · go_wp2_with (go_at_call 31; refine (clamp_any _ _ (by omega) (by omega)).mono ?_; rintro e w' ⟨rfl, rfl⟩)
      go_round
      case rel => exact ⟨1, by omega, rfl, by simp [Rc.clamp_clamp]⟩
      case measure => simp [intOf]
    · go_wp2_with (go_at_call 31; refine (clamp_any _ _ (by omega) (by omega)).mono ?_; rintro e w' ⟨rfl, rfl⟩)
      go_round
      case rel => exact ⟨2, by omega, rfl, rfl⟩
      case measure => simp [intOf]
    · go_wp2
      go_ret
      exact ⟨rfl, rfl⟩

theorem grow_none (a b c d n : Int) (w : World) (ha : I a) (hb : I b) (hc : I c) (hd : I d) (h : Rc.None a b c d) :
    Calls Try.prog 17 #[.agg #[.int .i64 a, .int .i64 b, .int .i64 c, .int .i64 d], .int .i64 n] w fun e w' => e = .returned (.agg #[.int .i64 0, .int .i64 0, .int .i64 0, .int .i64 0]) ∧ Below w.heap.size w w' := by
  have C := Lib.hid (fun W => counted_none a b c d W ha hb hc hd h)
  clear ha hb hc hd h
  go_enter Try.func17, Try.ntmps17
  go_wp2_with fail
  refine (C.out _).mono ?_
  rintro e w1 ⟨rfl, b1⟩
  have hz := b1.size
  rw [size2] at hz
  have p1 := Lib.hid ((b1.block w.heap.size (by rw [size2]; omega)).trans (at2a w _ _))
  have q1 := Lib.hid ((b1.block (w.heap.size + 1) (by rw [size2]; omega)).trans (at2b w _ _))
  have b1' := (bel2 w _ _).trans (b1.mono (by rw [size2]; omega))
  clear b1
  obtain ⟨⟨k0, k1, k2, k3⟩, f0, f1, f2, f3⟩ := box4 p1.out
  go_wp2_with fail
  refine (none_yes _).mono ?_
  rintro e w2 ⟨rfl, b2⟩
  have z2 := b2.size
  rw [set4_size] at z2
  have q2 := Lib.hid (((b2.block (w.heap.size + 1) (by rw [set4_size]; omega)).trans (set4_other (by omega) _ _ _ _)).trans q1.out)
  have b2' := (set4 b1' _ (Nat.le_refl _) _ _ _ _).trans (b2.mono (by rw [set4_size]; omega))
  clear b2 b1' k0 k1 k2 k3 f0 f1 f2 f3 p1 q1
  obtain ⟨⟨k0, k1, k2, k3⟩, f0, f1, f2, f3⟩ := box4 q2.out
  go_wp2
  exact bodyPost_ret (v := .agg #[.int .i64 0, .int .i64 0, .int .i64 0, .int .i64 0]) (by simp [results, Try.results17, go_sem, k0, k1, k2, k3]) rfl ⟨rfl, set4 b2' _ (by omega) _ _ _ _⟩

/-- two numbers in a row of the call's own -/
def Pair (B : Nat) (x y : Int) : Og.Ph := Og.Fresh B #[.int .i64 x, .int .i64 y] 3 2
theorem pair_lasts (B : Nat) (x y : Int) : Og.Lasts grows (Pair B x y) := Og.Fresh.lasts _ _ _ _
theorem pair_noBool (B : Nat) (x y : Int) : Og.NoBool (Pair B x y) := Og.Fresh.noBool _ _ _ _
theorem pair_new (W : World) (B : Nat) (hB : B ≤ W.heap.size) (x y : Int) : grows.r W (W.alloc (.cells #[.int .i64 x, .int .i64 y] 3)) ∧ Pair B x y (.slice (some ⟨W.heap.size, 0, none⟩) 2 2) (W.alloc (.cells #[.int .i64 x, .int .i64 y] 3)) :=
  ⟨bel1 _ _, W.heap.size, rfl, hB, by rw [size1]; omega, at1 _ _⟩
theorem add_pair {B : Nat} {x y : Int} (hx : I x) (hy : I y) {W : World} {v : Value} (h : Pair B x y v W) :
    Calls Try.prog 28 #[v] W fun e w' => e = .returned (.int .i64 (Rc.mv x y)) ∧ grows.r W w' := by
  obtain ⟨b, rfl, _, _, hb⟩ := h
  obtain ⟨⟨k0, k1⟩, _⟩ := box2 hb
  exact Og.same (add_two b x y W hx hy k0 k1)

set_option maxHeartbeats 2000000 in
set_option maxRecDepth 100000 in
theorem grow_some (a b c d n : Int) (w : World) (ha : I a) (hb : I b) (hc : I c) (hd : I d) (hn : I n) (h : ¬ Rc.None a b c d) :
    Calls Try.prog 17 #[.agg #[.int .i64 a, .int .i64 b, .int .i64 c, .int .i64 d], .int .i64 n] w fun e w' => e = .returned (.agg #[.int .i64 (Rc.mv (Rc.clamp a) (-(max n 0))), .int .i64 (Rc.mv (Rc.clamp b) (-(max n 0))), .int .i64 (Rc.mv (Rc.clamp c) (max n 0)), .int .i64 (Rc.mv (Rc.clamp d) (max n 0))]) ∧ Below w.heap.size w w' := by
  have C := Lib.hid (fun W => counted_some a b c d W ha hb hc hd h)
  have D := Lib.hid (fun W => none_no (Rc.clamp a) (Rc.clamp b) (Rc.clamp c) (Rc.clamp d) W (by unfold Rc.None at h; omega))
  clear ha hb hc hd h
  obtain ⟨n0, n1⟩ := hn
  obtain ⟨a0, a1⟩ := Rc.clamp_bd a
  obtain ⟨b0, b1⟩ := Rc.clamp_bd b
  obtain ⟨c0, c1⟩ := Rc.clamp_bd c
  obtain ⟨d0, d1⟩ := Rc.clamp_bd d
  generalize Rc.clamp a = A at *
  generalize Rc.clamp b = B at *
  generalize Rc.clamp c = C' at *
  generalize Rc.clamp d = D' at *
  go_enter Try.func17, Try.ntmps17
  go_wp2_with fail
  refine (C.out _).mono ?_
  rintro e w1 ⟨rfl, b1⟩
  have hz := b1.size
  rw [size2] at hz
  have p1 := Lib.hid ((b1.block w.heap.size (by rw [size2]; omega)).trans (at2a w _ _))
  have q1 := Lib.hid ((b1.block (w.heap.size + 1) (by rw [size2]; omega)).trans (at2b w _ _))
  have b1' := (bel2 w _ _).trans (b1.mono (by rw [size2]; omega))
  clear b1
  obtain ⟨⟨k0, k1, k2, k3⟩, f0, f1, f2, f3⟩ := box4 p1.out
  go_wp2_with fail
  refine (D.out _).mono ?_
  rintro e w2 ⟨rfl, b2⟩
  have z2 := b2.size
  rw [set4_size] at z2
  have p2 := Lib.hid ((b2.block w.heap.size (by rw [set4_size]; omega)).trans (set4_same p1.out _ _ _ _))
  have q2 := Lib.hid (((b2.block (w.heap.size + 1) (by rw [set4_size]; omega)).trans (set4_other (by omega) _ _ _ _)).trans q1.out)
  have b2' := (set4 b1' _ (Nat.le_refl _) _ _ _ _).trans (b2.mono (by rw [set4_size]; omega))
  clear b2 b1' k0 k1 k2 k3 f0 f1 f2 f3 p1 q1 C D
  obtain ⟨⟨k0, k1, k2, k3⟩, f0, f1, f2, f3⟩ := box4 p2.out
  have hs : w.heap.size < w2.heap.size := by omega
  go_wp2_with fail
  have W2 := Lib.hid (show w.heap.size + 1 < w2.heap.size by omega)
  generalize hN : max n 0 = N at *
  have N0 : 0 ≤ N := by omega
  have N1 : N ≤ 9223372036854775807 := by omega
  have HN := Lib.hid hN
  clear hN
  have wN : IntKind.i64.wrap (-N) = -N := IntWalk.i64_in _ ⟨by omega, by omega⟩
  refine Og.grow 23 (by kernel_rfl) (by kernel_rfl) fun hc hf => ?_
  simp only [List.take_succ_cons, List.take_zero, List.drop_succ_cons, List.drop_zero]
  iterate 4 (refine Og.det [] rfl (fun K hK => ?_); go_simp; refine hK _ _ ?_; clear hK K)
  refine Og.such 16 (Pair 0 A (-N)) [] rfl (pair_lasts _ _ _) (pair_noBool _ _ _) (fun K hK => ?_)
  go_simp
  refine ⟨fun p => pair_new p.W 0 (by omega) _ _, hK _ _ ?_⟩
  clear hK K
  refine Og.det [(16, Pair 0 A (-N))] rfl (fun K hK => ?_)
  go_simp
  refine ⟨_, fun p v hv => add_pair ⟨by omega, by omega⟩ ⟨by omega, by omega⟩ hv, hK _ _ ?_⟩
  clear hK K
  iterate 4 (refine Og.det [] rfl (fun K hK => ?_); go_simp; refine hK _ _ ?_; clear hK K)
  refine Og.such 22 (Pair 0 B (-N)) [] rfl (pair_lasts _ _ _) (pair_noBool _ _ _) (fun K hK => ?_)
  go_simp
  refine ⟨fun p => pair_new p.W 0 (by omega) _ _, hK _ _ ?_⟩
  clear hK K
  refine Og.det [(22, Pair 0 B (-N))] rfl (fun K hK => ?_)
  go_simp
  refine ⟨_, fun p v hv => add_pair ⟨by omega, by omega⟩ ⟨by omega, by omega⟩ hv, hK _ _ ?_⟩
  clear hK K
  iterate 3 (refine Og.det [] rfl (fun K hK => ?_); go_simp; refine hK _ _ ?_; clear hK K)
  refine Og.such 27 (Pair 0 C' N) [] rfl (pair_lasts _ _ _) (pair_noBool _ _ _) (fun K hK => ?_)
  go_simp
  refine ⟨fun p => pair_new p.W 0 (by omega) _ _, hK _ _ ?_⟩
  clear hK K
  refine Og.det [(27, Pair 0 C' N)] rfl (fun K hK => ?_)
  go_simp
  refine ⟨_, fun p v hv => add_pair ⟨by omega, by omega⟩ ⟨by omega, by omega⟩ hv, hK _ _ ?_⟩
  clear hK K
  iterate 3 (refine Og.det [] rfl (fun K hK => ?_); go_simp; refine hK _ _ ?_; clear hK K)
  refine Og.such 32 (Pair 0 D' N) [] rfl (pair_lasts _ _ _) (pair_noBool _ _ _) (fun K hK => ?_)
  go_simp
  refine ⟨fun p => pair_new p.W 0 (by omega) _ _, hK _ _ ?_⟩
  clear hK K
  refine Og.det [(32, Pair 0 D' N)] rfl (fun K hK => ?_)
  go_simp
  refine ⟨_, fun p v hv => add_pair ⟨by omega, by omega⟩ ⟨by omega, by omega⟩ hv, hK _ _ ?_⟩
  clear hK K
  refine Og.det [] rfl (fun K hK => ?_); go_simp; refine hK _ _ ?_; clear hK K
  refine Og.fin fun W hW => ?_
  clear hc hf k0 k1 k2 k3 f0 f1 f2 f3
  have q3 := (hW.block _ W2.out).trans q2.out
  obtain ⟨⟨k0, k1, k2, k3⟩, f0, f1, f2, f3⟩ := box4 q3
  have b3 := b2'.trans (hW.mono (by omega))
  clear hW q3 b2'
  simp only [Og.opened_cons, Og.opened_nil]
  intro v1 _ v2 _ v3 _ v4 _
  go_wp2
  exact bodyPost_ret (v := .agg #[.int .i64 (Rc.mv A (-N)), .int .i64 (Rc.mv B (-N)), .int .i64 (Rc.mv C' N), .int .i64 (Rc.mv D' N)]) (by simp [results, Try.results17, go_sem, k0, k1, k2, k3]) rfl ⟨by rw [HN.out], set4 b3 _ (by omega) _ _ _ _⟩

theorem grow_any (a b c d n : Int) (w : World) (ha : I a) (hb : I b) (hc : I c) (hd : I d) (hn : I n) :
    Calls Try.prog 17 #[.agg #[.int .i64 a, .int .i64 b, .int .i64 c, .int .i64 d], .int .i64 n] w fun e w' => e = .returned (.agg #[.int .i64 (Rc.grown a b c d n).a, .int .i64 (Rc.grown a b c d n).b, .int .i64 (Rc.grown a b c d n).c, .int .i64 (Rc.grown a b c d n).d]) ∧ Below w.heap.size w w' := by
  by_cases h : Rc.None a b c d
  · rw [show Rc.grown a b c d n = ⟨0, 0, 0, 0⟩ from if_pos h]
    exact grow_none a b c d n w ha hb hc hd h
  · rw [show Rc.grown a b c d n = _ from if_neg h]
    have := grow_some a b c d n w ha hb hc hd hn h
    rwa [Rc.mv_neg, Rc.mv_neg, Rc.mv_pos, Rc.mv_pos] at this
end Go.Proofs.Yteagndjoppnbgaa
