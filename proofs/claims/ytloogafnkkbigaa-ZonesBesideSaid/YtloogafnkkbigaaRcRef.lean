/- The document's Clamp, Has, Far, Grow: what they answer. -/
import Derived.Test.YtloogafnkkbigaaRcCore
namespace Go.Proofs.Ytloogafnkkbigaa
open Go.RowKit

set_option maxHeartbeats 400000 in
theorem rclamp_any (n : Int) (w : World) (_ : -9223372036854775808 ≤ n) (_ : n ≤ 9223372036854775807) :
    Calls Try.prog 50 #[.int .i64 n] w fun e w' => e = .returned (.int .i64 (Rc.clamp n)) ∧ w = w' := by
  have e : Rc.clamp n = if 1073741824 < n then 1073741824 else if n < -1073741824 then -1073741824 else n := by unfold Rc.clamp; split <;> (try split) <;> omega
  have E := Lib.hid e
  clear e
  go_enter Try.func50, Try.ntmps50
  go_wp2
  all_goals
    go_ret
    refine ⟨ret_int ?_, rfl⟩
    rw [E.out]
    split <;> (try split) <;> omega
set_option maxHeartbeats 400000 in
theorem rsize_any (n : Int) (w : World) (h0 : -4294967296 ≤ n) (h1 : n ≤ 4294967296) :
    Calls Try.prog 55 #[.int .i64 n] w fun e w' => e = .returned (.int .i64 (max n (-n))) ∧ w = w' := by
  go_enter Try.func55, Try.ntmps55
  go_wp2
  all_goals
    go_ret
    exact ⟨ret_int (by omega), rfl⟩
set_option maxHeartbeats 1000000 in
theorem rfar_any (x y u v : Int) (w : World) (hx : I x) (hy : I y) (hu : I u) (hv : I v) :
    Calls Try.prog 51 #[.int .i64 x, .int .i64 y, .int .i64 u, .int .i64 v] w fun e w' => e = .returned (.int .i64 (Rc.far x y u v)) ∧ w = w' := by
  obtain ⟨x0, x1⟩ := hx
  obtain ⟨y0, y1⟩ := hy
  obtain ⟨u0, u1⟩ := hu
  obtain ⟨v0, v1⟩ := hv
  obtain ⟨a0, a1⟩ := Rc.clamp_bd x
  obtain ⟨b0, b1⟩ := Rc.clamp_bd y
  obtain ⟨c0, c1⟩ := Rc.clamp_bd u
  obtain ⟨d0, d1⟩ := Rc.clamp_bd v
  go_enter Try.func51, Try.ntmps51
  go_wp2_with (first | (go_at_call 50; refine (rclamp_any _ _ (by omega) (by omega)).mono ?_; rintro e w' ⟨rfl, rfl⟩) | (go_at_call 55; refine (rsize_any _ _ (by omega) (by omega)).mono ?_; rintro e w' ⟨rfl, rfl⟩))
  all_goals
    go_ret
    refine ⟨ret_int ?_, rfl⟩
    unfold Rc.far Rc.dist
    omega
set_option maxHeartbeats 1000000 in
theorem rhas_any (a b c d x y : Int) (w : World) (ha : I a) (hb : I b) (hc : I c) (hd : I d) (hx : I x) (hy : I y) :
    Calls Try.prog 40 #[.agg #[.int .i64 a, .int .i64 b, .int .i64 c, .int .i64 d], .int .i64 x, .int .i64 y] w fun e w' => e = .returned (.bool (Rc.hasR a b c d x y)) ∧ Below w.heap.size w w' := by
  obtain ⟨a0, a1⟩ := ha
  obtain ⟨b0, b1⟩ := hb
  obtain ⟨c0, c1⟩ := hc
  obtain ⟨d0, d1⟩ := hd
  obtain ⟨x0, x1⟩ := hx
  obtain ⟨y0, y1⟩ := hy
  unfold Rc.hasR
  go_enter Try.func40, Try.ntmps40
  go_wp2_with (go_at_call 50; refine (rclamp_any _ _ (by omega) (by omega)).mono ?_; rintro e w' ⟨rfl, rfl⟩)
  all_goals
    go_ret
    refine ⟨ret_bool ?_, bel1 _ _⟩
    simp [*]
  all_goals omega
set_option maxHeartbeats 1000000 in
theorem rnone_walk (a b c d : Int) (w : World) (ha : I a) (hb : I b) (hc : I c) (hd : I d) :
    Calls Try.prog 45 #[.agg #[.int .i64 a, .int .i64 b, .int .i64 c, .int .i64 d]] w fun e w' => e = .returned (.bool (Rc.noneB a b c d)) ∧ Below w.heap.size w w' := by
  obtain ⟨a0, a1⟩ := ha
  obtain ⟨b0, b1⟩ := hb
  obtain ⟨c0, c1⟩ := hc
  obtain ⟨d0, d1⟩ := hd
  by_cases h : Rc.clamp c ≤ Rc.clamp a
  · have h' : ¬ Rc.clamp a < Rc.clamp c := by omega
    go_enter Try.func45, Try.ntmps45
    go_wp2
    refine Og.grow 17 (by kernel_rfl) (by kernel_rfl) fun hc hf => ?_
    simp only [List.take_succ_cons, List.take_zero, List.drop_succ_cons, List.drop_zero]
    repeat (refine Og.det [] rfl (fun K hK => ?_); go_simp; first | (refine hK _ _ ?_; clear hK K) | (refine ⟨_, fun p => Og.same (rclamp_any _ _ (by omega) (by omega)), hK _ _ ?_⟩; clear hK K))
    refine Og.fin fun W hW => ?_
    simp only [Og.opened_nil]
    clear hc hf
    go_wp2
    go_ret
    exact ⟨ret_bool (by simp [Rc.noneB, h]), (bel1 _ _).trans (hW.mono (by simp))⟩
  · have h' : Rc.clamp a < Rc.clamp c := by omega
    go_enter Try.func45, Try.ntmps45
    go_wp2
    refine Og.grow 17 (by kernel_rfl) (by kernel_rfl) fun hc hf => ?_
    simp only [List.take_succ_cons, List.take_zero, List.drop_succ_cons, List.drop_zero]
    repeat (refine Og.det [] rfl (fun K hK => ?_); go_simp; first | (refine hK _ _ ?_; clear hK K) | (refine ⟨_, fun p => Og.same (rclamp_any _ _ (by omega) (by omega)), hK _ _ ?_⟩; clear hK K))
    refine Og.fin fun W hW => ?_
    simp only [Og.opened_nil]
    clear hc hf
    go_wp2
    go_ret
    exact ⟨ret_bool (by simp [Rc.noneB]), (bel1 _ _).trans (hW.mono (by simp))⟩

set_option maxHeartbeats 2000000 in
set_option maxRecDepth 100000 in
theorem rgrow_none (a b c d n : Int) (w : World) (ha : I a) (hb : I b) (hc : I c) (hd : I d) (h : Rc.None a b c d) :
    Calls Try.prog 44 #[.agg #[.int .i64 a, .int .i64 b, .int .i64 c, .int .i64 d], .int .i64 n] w fun e w' => e = .returned (.agg #[.int .i64 0, .int .i64 0, .int .i64 0, .int .i64 0]) ∧ Below w.heap.size w w' := by
  have N := Lib.hid (fun W => show Calls Try.prog 45 #[.agg #[.int .i64 a, .int .i64 b, .int .i64 c, .int .i64 d]] W fun e w' => (e = .returned (.bool true) ∧ Below W.heap.size W w') by have := rnone_walk a b c d W ha hb hc hd; rwa [Rc.noneB_yes h] at this)
  clear ha hb hc hd h
  go_enter Try.func44, Try.ntmps44
  go_wp2_with fail
  refine (N.out _).mono ?_
  rintro e w1 ⟨rfl, b1⟩
  have hz := b1.size
  rw [size2] at hz
  have q1 := Lib.hid ((b1.block (w.heap.size + 1) (by rw [size2]; omega)).trans (at2b w _ _))
  have b1' := (bel2 w _ _).trans (b1.mono (by rw [size2]; omega))
  clear b1
  obtain ⟨⟨k0, k1, k2, k3⟩, f0, f1, f2, f3⟩ := box4 q1.out
  go_wp2
  exact bodyPost_ret (v := .agg #[.int .i64 0, .int .i64 0, .int .i64 0, .int .i64 0]) (by simp [results, Try.results44, go_sem, k0, k1, k2, k3]) rfl ⟨rfl, set4 b1' _ (by omega) _ _ _ _⟩
set_option maxHeartbeats 2000000 in
set_option maxRecDepth 100000 in
theorem rgrow_some (a b c d n : Int) (w : World) (ha : I a) (hb : I b) (hc : I c) (hd : I d) (hn : I n) (h : ¬ Rc.None a b c d) :
    Calls Try.prog 44 #[.agg #[.int .i64 a, .int .i64 b, .int .i64 c, .int .i64 d], .int .i64 n] w fun e w' => e = .returned (.agg #[.int .i64 (Rc.clamp (Rc.clamp a - Rc.by_ n)), .int .i64 (Rc.clamp (Rc.clamp b - Rc.by_ n)), .int .i64 (Rc.clamp (Rc.clamp c + Rc.by_ n)), .int .i64 (Rc.clamp (Rc.clamp d + Rc.by_ n))]) ∧ Below w.heap.size w w' := by
  have N := Lib.hid (fun W => show Calls Try.prog 45 #[.agg #[.int .i64 a, .int .i64 b, .int .i64 c, .int .i64 d]] W fun e w' => (e = .returned (.bool false) ∧ Below W.heap.size W w') by have := rnone_walk a b c d W ha hb hc hd; rwa [Rc.noneB_no h] at this)
  clear h
  obtain ⟨n0, n1⟩ := hn
  obtain ⟨a0, a1⟩ := ha
  obtain ⟨b0, b1⟩ := hb
  obtain ⟨c0, c1⟩ := hc
  obtain ⟨d0, d1⟩ := hd
  obtain ⟨e0, e1⟩ := Rc.clamp_bd n
  obtain ⟨i0, i1⟩ := Rc.clamp_bd a
  obtain ⟨j0, j1⟩ := Rc.clamp_bd b
  obtain ⟨l0, l1⟩ := Rc.clamp_bd c
  obtain ⟨m0, m1⟩ := Rc.clamp_bd d
  obtain ⟨o0, o1⟩ := Rc.by_bd n
  have HB : ∃ m, m = Rc.by_ n ∧ (if Rc.clamp n < 0 then 0 else Rc.clamp n) = m := ⟨_, rfl, by unfold Rc.by_; split <;> omega⟩
  obtain ⟨m, hm, hm'⟩ := HB
  rw [← hm] at o0 o1 ⊢
  have HM := Lib.hid hm'
  clear hm hm'
  go_enter Try.func44, Try.ntmps44
  go_wp2_with fail
  refine (N.out _).mono ?_
  rintro e w1 ⟨rfl, b1⟩
  have hz := b1.size
  rw [size2] at hz
  have p1 := Lib.hid ((b1.block w.heap.size (by rw [size2]; omega)).trans (at2a w _ _))
  have q1 := Lib.hid ((b1.block (w.heap.size + 1) (by rw [size2]; omega)).trans (at2b w _ _))
  have b1' := (bel2 w _ _).trans (b1.mono (by rw [size2]; omega))
  clear b1
  obtain ⟨⟨k0, k1, k2, k3⟩, f0, f1, f2, f3⟩ := box4 p1.out
  have hs : w.heap.size < w1.heap.size := by omega
  have W2 := Lib.hid (show w.heap.size + 1 < w1.heap.size by omega)
  go_wp2_with fail
  refine (rclamp_any _ _ (by omega) (by omega)).mono ?_
  rintro e w' ⟨rfl, rfl⟩
  have hmm : (Rc.clamp n < 0 ∧ m = 0) ∨ (¬ Rc.clamp n < 0 ∧ m = Rc.clamp n) := by have := HM.out; split at this <;> omega
  clear HM
  rcases hmm with ⟨hneg, rfl⟩ | ⟨hneg, rfl⟩
  all_goals
    go_wp2
    have s0 : IntKind.i64.wrap (Rc.clamp a) = Rc.clamp a := IntWalk.i64_in _ ⟨by omega, by omega⟩
    have s1 : IntKind.i64.wrap (Rc.clamp b) = Rc.clamp b := IntWalk.i64_in _ ⟨by omega, by omega⟩
    have s2 : IntKind.i64.wrap (Rc.clamp c) = Rc.clamp c := IntWalk.i64_in _ ⟨by omega, by omega⟩
    have s3 : IntKind.i64.wrap (Rc.clamp d) = Rc.clamp d := IntWalk.i64_in _ ⟨by omega, by omega⟩
    have s4 : IntKind.i64.wrap (Rc.clamp a - Rc.clamp n) = Rc.clamp a - Rc.clamp n := IntWalk.i64_in _ ⟨by omega, by omega⟩
    have s5 : IntKind.i64.wrap (Rc.clamp b - Rc.clamp n) = Rc.clamp b - Rc.clamp n := IntWalk.i64_in _ ⟨by omega, by omega⟩
    have s6 : IntKind.i64.wrap (Rc.clamp c + Rc.clamp n) = Rc.clamp c + Rc.clamp n := IntWalk.i64_in _ ⟨by omega, by omega⟩
    have s7 : IntKind.i64.wrap (Rc.clamp d + Rc.clamp n) = Rc.clamp d + Rc.clamp n := IntWalk.i64_in _ ⟨by omega, by omega⟩
    refine Og.grow 25 (by kernel_rfl) (by kernel_rfl) fun hc hf => ?_
    simp only [List.take_succ_cons, List.take_zero, List.drop_succ_cons, List.drop_zero]
    repeat (refine Og.det [] rfl (fun K hK => ?_); go_simp; first | (refine hK _ _ ?_; clear hK K) | (refine ⟨_, fun p => Og.same (rclamp_any _ _ (by omega) (by omega)), hK _ _ ?_⟩; clear hK K))
    refine Og.fin fun W hW => ?_
    simp only [Og.opened_nil]
    clear hc hf k0 k1 k2 k3 f0 f1 f2 f3
    have q3 := (hW.block _ W2.out).trans q1.out
    obtain ⟨⟨k0, k1, k2, k3⟩, f0, f1, f2, f3⟩ := box4 q3
    have b3 := b1'.trans (hW.mono (by omega))
    clear hW q3 b1'
    go_wp2
    refine bodyPost_ret (v := .agg #[.int .i64 _, .int .i64 _, .int .i64 _, .int .i64 _]) (by simp [results, Try.results44, go_sem, k0, k1, k2, k3]) rfl ⟨rfl, set4 b3 _ (by omega) _ _ _ _⟩

theorem rgrow_any (a b c d n : Int) (w : World) (ha : I a) (hb : I b) (hc : I c) (hd : I d) (hn : I n) :
    Calls Try.prog 44 #[.agg #[.int .i64 a, .int .i64 b, .int .i64 c, .int .i64 d], .int .i64 n] w fun e w' => e = .returned (.agg #[.int .i64 (Rc.grown a b c d n).a, .int .i64 (Rc.grown a b c d n).b, .int .i64 (Rc.grown a b c d n).c, .int .i64 (Rc.grown a b c d n).d]) ∧ Below w.heap.size w w' := by
  by_cases h : Rc.None a b c d
  · rw [show Rc.grown a b c d n = ⟨0, 0, 0, 0⟩ from if_pos h]
    exact rgrow_none a b c d n w ha hb hc hd h
  · rw [show Rc.grown a b c d n = _ from if_neg h]
    exact rgrow_some a b c d n w ha hb hc hd hn h
end Go.Proofs.Ytloogafnkkbigaa
