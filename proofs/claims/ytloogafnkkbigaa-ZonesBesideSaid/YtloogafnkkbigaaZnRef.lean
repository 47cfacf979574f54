/- The document's Gap, Zone, Of, In: what they answer. -/
import Derived.Test.YtloogafnkkbigaaZnNear
import Derived.Test.YtloogafnkkbigaaRcRef
namespace Go.Proofs.Ytloogafnkkbigaa
open Go.RowKit
open Zn (Ok There)

/-- the nearest number from lo on and below hi, all clamped -/
theorem near_dist (n lo hi : Int) (h : Rc.clamp lo < Rc.clamp hi) : ∃ m, (m = if Rc.clamp n < Rc.clamp lo then Rc.clamp lo else if Rc.clamp hi ≤ Rc.clamp n then Rc.clamp hi - 1 else Rc.clamp n) ∧ Rc.dist n m = Rc.out n (Rc.clamp lo) (Rc.clamp hi) ∧ (-1073741824 ≤ m ∧ m ≤ 1073741824) := by
  refine ⟨_, rfl, ?_⟩
  have h1 := Rc.clamp_bd n
  have h2 := Rc.clamp_bd lo
  have h3 := Rc.clamp_bd hi
  unfold Rc.dist Rc.out
  generalize Rc.clamp n = a at *
  generalize Rc.clamp lo = b at *
  generalize Rc.clamp hi = c at *
  split
  · rw [Rc.clamp_in (n := b) (by omega) (by omega)]; omega
  · split
    · rw [Rc.clamp_in (n := c - 1) (by omega) (by omega)]; omega
    · rw [Rc.clamp_in (n := a) (by omega) (by omega)]; omega
set_option maxHeartbeats 1000000 in
theorem rnearest_any (n lo hi m : Int) (w : World) (hn : I n) (hl : I lo) (hh : I hi) (hm : Hid (m = if Rc.clamp n < Rc.clamp lo then Rc.clamp lo else if Rc.clamp hi ≤ Rc.clamp n then Rc.clamp hi - 1 else Rc.clamp n)) :
    Calls Try.prog 52 #[.int .i64 n, .int .i64 lo, .int .i64 hi] w fun e w' => e = .returned (.int .i64 m) ∧ w = w' := by
  obtain ⟨n0, n1⟩ := hn
  obtain ⟨l0, l1⟩ := hl
  obtain ⟨h0, h1⟩ := hh
  have c3 := Rc.clamp_bd hi
  go_enter Try.func52, Try.ntmps52
  go_wp2_with (go_at_call 50; refine (rclamp_any _ _ (by omega) (by omega)).mono ?_; rintro e w' ⟨rfl, rfl⟩)
  all_goals
    go_ret
    refine ⟨ret_int ?_, rfl⟩
    rw [hm.out]
    (first | (rw [if_pos (by assumption)]) | (rw [if_neg (by omega), if_pos (by omega)]) | (rw [if_neg (by omega), if_neg (by omega)]))
set_option maxHeartbeats 2000000 in
set_option maxRecDepth 100000 in
theorem rgap_some (a b c d x y : Int) (w : World) (ha : I a) (hb : I b) (hc : I c) (hd : I d) (hx : I x) (hy : I y) (h : ¬ Rc.None a b c d) :
    Calls Try.prog 42 #[.agg #[.int .i64 a, .int .i64 b, .int .i64 c, .int .i64 d], .int .i64 x, .int .i64 y] w fun e w' => e = .returned (.int .i64 (Rc.gap a b c d x y)) ∧ Below w.heap.size w w' := by
  have N := Lib.hid (fun W => show Calls Try.prog 45 #[.agg #[.int .i64 a, .int .i64 b, .int .i64 c, .int .i64 d]] W fun e w' => (e = .returned (.bool false) ∧ Below W.heap.size W w') by have := rnone_walk a b c d W ha hb hc hd; rwa [Rc.noneB_no h] at this)
  obtain ⟨m, hm, em, mb⟩ := near_dist x a c (by unfold Rc.None at h; omega)
  obtain ⟨n, hn, en, nb⟩ := near_dist y b d (by unfold Rc.None at h; omega)
  have X := Lib.hid (fun W => rnearest_any x a c m W hx ha hc (Lib.hid hm))
  have Y := Lib.hid (fun W => rnearest_any y b d n W hy hb hd (Lib.hid hn))
  have F := Lib.hid (fun W => rfar_any x y m n W hx hy (by unfold I; omega) (by unfold I; omega))
  have e : Rc.far x y m n = Rc.gap a b c d x y := by unfold Rc.far Rc.gap; rw [if_neg h, em, en]
  rw [e] at F
  clear hm hn em en mb nb e ha hb hc hd hx hy h
  generalize Rc.gap a b c d x y = g at *
  go_enter Try.func42, Try.ntmps42
  go_wp2_with fail
  refine (N.out _).mono ?_
  rintro e w1 ⟨rfl, b1⟩
  have hz := b1.size
  rw [size1] at hz
  have p1 := (b1.block w.heap.size (by rw [size1]; omega)).trans (at1 w _)
  have lt : w.heap.size < w1.heap.size := by omega
  have B1 := Lib.hid ((bel1 w _).trans (b1.mono (by rw [size1]; omega)))
  obtain ⟨k0, k1, k2, k3⟩ := (box4 p1).1
  clear b1 hz p1
  go_wp2_with fail
  refine Og.grow 16 (by kernel_rfl) (by kernel_rfl) fun hc hf => ?_
  simp only [List.take_succ_cons, List.take_zero, List.drop_succ_cons, List.drop_zero]
  repeat (refine Og.det [] rfl (fun K hK => ?_); go_simp; first | (refine hK _ _ ?_; clear hK K) | (with_reducible refine ⟨_, fun p => Og.same (X.out _), hK _ _ ?_⟩; clear hK K) | (with_reducible refine ⟨_, fun p => Og.same (Y.out _), hK _ _ ?_⟩; clear hK K) | (with_reducible refine ⟨_, fun p => Og.same (F.out _), hK _ _ ?_⟩; clear hK K))
  refine Og.fin fun W hW => ?_
  simp only [Og.opened_nil]
  clear hc hf
  go_wp2
  go_ret
  exact ⟨rfl, B1.out.trans (hW.mono B1.out.size)⟩
theorem rgap_zone_any {C R S D V k : Int} (ok : Ok C R S D V) (hk : There C R k) (x y : Int) (hx : I x) (hy : I y) (W : World) :
    Calls Try.prog 42 #[.agg #[.int .i64 (Zn.zone C R S k).a, .int .i64 (Zn.zone C R S k).b, .int .i64 (Zn.zone C R S k).c, .int .i64 (Zn.zone C R S k).d], .int .i64 x, .int .i64 y] W fun e w' => e = .returned (.int .i64 (Zn.gapZ C R S k x y)) ∧ Below W.heap.size W w' :=
  rgap_some (Zn.zone C R S k).a (Zn.zone C R S k).b (Zn.zone C R S k).c (Zn.zone C R S k).d x y W (zone_i ok hk).1.1 (zone_i ok hk).1.2 (zone_i ok hk).2.1 (zone_i ok hk).2.2 hx hy (by have := Zn.zone_some ok hk; rw [Zn.zone_yes hk]; exact this)

set_option maxHeartbeats 400000 in
theorem rinto_any (n e : Int) (w : World) (h0 : 0 < e) (h1 : e ≤ 4194304) :
    Calls Try.prog 39 #[.int .i64 n, .int .i64 e] w fun x w' => x = .returned (.int .i64 (Zn.into n e)) ∧ w = w' := by
  have E := Lib.hid (show Zn.into n e = if n < 0 then 0 else if e ≤ n then e - 1 else n by unfold Zn.into; split; omega; split <;> omega)
  go_enter Try.func39, Try.ntmps39
  go_wp2
  all_goals
    go_ret
    refine ⟨ret_int ?_, rfl⟩
    rw [E.out]
    (first | (rw [if_pos (by assumption)]) | (rw [if_neg (by omega), if_pos (by omega)]) | (rw [if_neg (by omega), if_neg (by omega)]))
set_option maxHeartbeats 2000000 in
set_option maxRecDepth 100000 in
theorem rin_any (C R S D V N Q x y : Int) (w : World) (ok : Ok C R S D V) :
    Calls Try.prog 21 #[.agg #[.int .i64 C, .int .i64 R, .int .i64 S, .int .i64 D, .int .i64 V, .int .i64 N, .int .i64 Q], .int .i64 x, .int .i64 y] w fun e w' => e = .returned (.tuple #[.int .i64 (Zn.into x (C * S)), .int .i64 (Zn.into y (R * S))]) ∧ Below w.heap.size w w' := by
  have m1 := Zn.side_bd (q := C) ok.s0 ok.s1 (by have := ok.c0; omega) ok.c1
  have m2 := Zn.side_bd (q := R) ok.s0 ok.s1 (by have := ok.r0; omega) ok.r1
  have e1 : 0 < C * S := Int.mul_pos (by have := ok.c0; omega) (by have := ok.s0; omega)
  have e2 : 0 < R * S := Int.mul_pos (by have := ok.r0; omega) (by have := ok.s0; omega)
  have X := Lib.hid (fun W => rinto_any x (C * S) W e1 m1.2)
  have Y := Lib.hid (fun W => rinto_any y (R * S) W e2 m2.2)
  have w0 : IntKind.i64.wrap (C * S) = C * S := IntWalk.i64_in _ ⟨by omega, by omega⟩
  have w1 : IntKind.i64.wrap (R * S) = R * S := IntWalk.i64_in _ ⟨by omega, by omega⟩
  generalize Zn.into x (C * S) = u at *
  generalize Zn.into y (R * S) = v at *
  clear m1 m2 e1 e2 ok
  go_enter Try.func21, Try.ntmps21
  go_wp2
  refine Og.grow 16 (by kernel_rfl) (by kernel_rfl) fun hc hf => ?_
  simp only [List.take_succ_cons, List.take_zero, List.drop_succ_cons, List.drop_zero]
  repeat (refine Og.det [] rfl (fun K hK => ?_); go_simp; first | (refine hK _ _ ?_; clear hK K) | (with_reducible refine ⟨_, fun p => Og.same (X.out _), hK _ _ ?_⟩; clear hK K) | (with_reducible refine ⟨_, fun p => Og.same (Y.out _), hK _ _ ?_⟩; clear hK K))
  refine Og.fin fun W hW => ?_
  simp only [Og.opened_nil]
  clear hc hf
  go_wp2
  go_ret2
  exact ⟨rfl, (bel1 w _).trans (hW.mono (by rw [size1]; omega))⟩
end Go.Proofs.Ytloogafnkkbigaa
