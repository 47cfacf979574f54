/- zones: New, In, Of: what they answer. -/
import Derived.Test.YtloogafnkkbigaaZnCore
namespace Go.Proofs.Ytloogafnkkbigaa
open Go.RowKit
open Zn (Ok There)
attribute [local go_sem high] run_max_ints3

set_option maxHeartbeats 1000000 in
theorem new_no (C R S D V N Q : Int) (w : World) (h : Zn.okB C R S D V N Q = false) :
    Calls Try.prog 11 #[.agg #[.int .i64 C, .int .i64 R, .int .i64 S, .int .i64 D, .int .i64 V, .int .i64 N, .int .i64 Q]] w fun e w' => e = .returned (.tuple #[.pointer none, .int .i64 1]) ∧ Below w.heap.size w w' := by
  have X := Lib.hid (fun W => zcheck_r C R S D V N Q 1 W (Lib.hid (.inr ⟨h, rfl⟩)))
  clear h
  go_enter Try.func11, Try.ntmps11
  go_wp2_with fail
  refine (X.out _).mono ?_
  rintro e w1 ⟨rfl, b1⟩
  go_wp2
  go_ret2
  exact ⟨rfl, (bel1 w _).trans (b1.mono (by rw [size1]; omega))⟩
set_option maxHeartbeats 1000000 in
theorem new_yes (C R S D V N Q : Int) (w : World) (h : Zn.okB C R S D V N Q = true) :
    Calls Try.prog 11 #[.agg #[.int .i64 C, .int .i64 R, .int .i64 S, .int .i64 D, .int .i64 V, .int .i64 N, .int .i64 Q]] w fun e w' => ∃ b, e = .returned (.tuple #[.pointer (some ⟨b, 0, none⟩), .int .i64 0]) ∧ w.heap.size ≤ b ∧ MapAt w' b C R S D V N Q ∧ Below w.heap.size w w' := by
  have X := Lib.hid (fun W => zcheck_r C R S D V N Q 0 W (Lib.hid (.inl ⟨h, rfl⟩)))
  clear h
  go_enter Try.func11, Try.ntmps11
  go_wp2_with fail
  refine (X.out _).mono ?_
  rintro e w1 ⟨rfl, b1⟩
  have hx := (b1.block w.heap.size (by rw [size1]; omega)).trans (at1 w _)
  have b2 := Lib.hid ((bel1 w _).trans (b1.mono (by rw [size1]; omega)))
  obtain ⟨⟨k0, k1, k2, k3, k4, k5, k6⟩, f0, f1, f2, f3, f4, f5, f6⟩ := box7 hx
  clear hx b1 X
  go_wp2
  go_ret2
  exact ⟨w1.heap.size, rfl, b2.out.size, at1 w1 _, b2.out.trans ((bel1 w1 _).mono b2.out.size)⟩

set_option maxHeartbeats 400000 in
theorem brought_any (n e : Int) (w : World) (_ : I n) (h0 : 0 ≤ e) (h1 : e ≤ 4194304) :
    Calls Try.prog 38 #[.int .i64 n, .int .i64 e] w fun x w' => x = .returned (.int .i64 (Zn.into n e)) ∧ w = w' := by
  go_enter Try.func38, Try.ntmps38
  go_wp2
  go_ret
  refine ⟨ret_int ?_, rfl⟩
  unfold Zn.into
  omega
set_option maxHeartbeats 2000000 in
/-- In, by what World tells -/
theorem in_of (b : Option Addr) (p q x y : Int) (w : World) (hx : I x) (hy : I y) (hp : 0 ≤ p ∧ p ≤ 4194304) (hq : 0 ≤ q ∧ q ≤ 4194304)
    (h : Hid (Calls Try.prog 17 #[.pointer b] w fun e w' => e = .returned (.agg #[.int .i64 0, .int .i64 0, .int .i64 p, .int .i64 q]) ∧ Below w.heap.size w w')) :
    Calls Try.prog 20 #[.pointer b, .int .i64 x, .int .i64 y] w fun e w' => e = .returned (.tuple #[.int .i64 (Zn.into x p), .int .i64 (Zn.into y q)]) ∧ Below w.heap.size w w' := by
  have X := Lib.hid (fun W => brought_any x p W hx hp.1 hp.2)
  have Y := Lib.hid (fun W => brought_any y q W hy hq.1 hq.2)
  generalize Zn.into x p = u at *
  generalize Zn.into y q = v at *
  clear hx hy hp hq
  go_enter Try.func20, Try.ntmps20
  go_wp2_with fail
  refine h.out.mono ?_
  rintro e w1 ⟨rfl, b1⟩
  go_wp2_with fail
  refine Og.grow 10 (by kernel_rfl) (by kernel_rfl) fun hc hf => ?_
  simp only [List.take_succ_cons, List.take_zero, List.drop_succ_cons, List.drop_zero]
  repeat (refine Og.det [] rfl (fun K hK => ?_); go_simp; first | (refine hK _ _ ?_; clear hK K) | (with_reducible refine ⟨_, fun p => Og.same (X.out _), hK _ _ ?_⟩; clear hK K) | (with_reducible refine ⟨_, fun p => Og.same (Y.out _), hK _ _ ?_⟩; clear hK K))
  refine Og.fin fun W hW => ?_
  simp only [Og.opened_nil]
  clear hc hf
  go_wp2
  go_ret2
  exact ⟨rfl, (b1.trans ((bel1 w1 _).mono b1.size)).trans (hW.mono (by rw [size1]; have := b1.size; omega))⟩
/-- Of, by what World and Has tell -/
theorem of_no (b : Option Addr) (p q x y : Int) (w : World) (hx : I x) (hy : I y) (hp : 0 ≤ p ∧ p ≤ 4194304) (hq : 0 ≤ q ∧ q ≤ 4194304)
    (h : Hid (Calls Try.prog 17 #[.pointer b] w fun e w' => e = .returned (.agg #[.int .i64 0, .int .i64 0, .int .i64 p, .int .i64 q]) ∧ Below w.heap.size w w'))
    (hn : hasB 0 0 p q x y = false) :
    Calls Try.prog 22 #[.pointer b, .int .i64 x, .int .i64 y] w fun e w' => e = .returned (.int .i64 (-1)) ∧ Below w.heap.size w w' := by
  have X := Lib.hid (fun W => has_any 0 0 p q x y W (by decide) (by decide) (by unfold I; omega) (by unfold I; omega) hx hy)
  rw [hn] at X
  clear hx hy hp hq hn
  go_enter Try.func22, Try.ntmps22
  go_wp2_with fail
  refine h.out.mono ?_
  rintro e w1 ⟨rfl, b1⟩
  go_wp2_with fail
  refine (X.out _).mono ?_
  rintro e w2 ⟨rfl, b2⟩
  go_wp2
  go_ret
  exact ⟨rfl, b1.trans (b2.mono b1.size)⟩
theorem has_same (a b c d x y : Int) : hasB a b c d x y = Rc.hasR a b c d x y := by
  unfold hasB Rc.hasR
  rw [decide_eq_decide]
  exact Rc.gap_has a b c d x y
theorem of_nil (x y : Int) (w : World) (hx : I x) (hy : I y) :
    Calls Try.prog 22 #[.pointer none, .int .i64 x, .int .i64 y] w fun e w' => e = .returned (.int .i64 (-1)) ∧ Below w.heap.size w w' :=
  of_no none 0 0 x y w hx hy (by decide) (by decide) (Lib.hid (world_nil w)) (by rw [has_same]; unfold Rc.hasR; rw [Rc.clamp_zero]; exact decide_eq_false (by omega))
theorem has_world {C R S D V : Int} (ok : Ok C R S D V) (x y : Int) : hasB 0 0 (C * S) (R * S) x y = decide (0 ≤ x ∧ x < C * S ∧ 0 ≤ y ∧ y < R * S) := by
  have m1 := Zn.side_bd (q := C) ok.s0 ok.s1 (by have := ok.c0; omega) ok.c1
  have m2 := Zn.side_bd (q := R) ok.s0 ok.s1 (by have := ok.r0; omega) ok.r1
  rw [has_same]
  unfold Rc.hasR
  rw [decide_eq_decide, Rc.clamp_zero, Rc.clamp_in (n := C * S) (by omega) (by omega), Rc.clamp_in (n := R * S) (by omega) (by omega)]
  rw [Zn.le_clamp (by omega) (by omega), Zn.le_clamp (by omega) (by omega), Zn.clamp_lt (by have := ok.s0; have := ok.c0; omega) (by omega), Zn.clamp_lt (by have := ok.s0; have := ok.c0; omega) (by omega)]
set_option maxHeartbeats 2000000 in
set_option maxRecDepth 100000 in
theorem of_some (b : Nat) (C R S D V N Q x y : Int) (w : World) (h : MapAt w b C R S D V N Q) (ok : Ok C R S D V) (hx : I x) (hy : I y) (hin : 0 ≤ x ∧ x < C * S ∧ 0 ≤ y ∧ y < R * S) :
    Calls Try.prog 22 #[.pointer (some ⟨b, 0, none⟩), .int .i64 x, .int .i64 y] w fun e w' => e = .returned (.int .i64 (y / S * C + x / S)) ∧ Below w.heap.size w w' := by
  have m1 := Zn.side_bd (q := C) ok.s0 ok.s1 (by have := ok.c0; omega) ok.c1
  have m2 := Zn.side_bd (q := R) ok.s0 ok.s1 (by have := ok.r0; omega) ok.r1
  have X := Lib.hid (fun W => has_any 0 0 (C * S) (R * S) x y W (by decide) (by decide) (by unfold I; omega) (by unfold I; omega) hx hy)
  rw [has_world ok, decide_eq_true hin] at X
  have Wd := Lib.hid (world_any b C R S D V N Q w h ok)
  have hk := Zn.of_in ok hin.1 hin.2.1 hin.2.2.1 hin.2.2.2
  have hb := Zn.mul_bd ok
  have e0 : Zn.of C R S x y = y / S * C + x / S := if_pos hin
  rw [e0] at hk
  have hyd : 0 ≤ y / S ∧ y / S < R := ⟨(Zn.div_ge ok.s0).2 (by omega), (Zn.div_lt ok.s0).2 (by omega)⟩
  have hyc : 0 ≤ y / S * C ∧ y / S * C ≤ 16 := by
    have : 0 ≤ x / S := (Zn.div_ge ok.s0).2 (by omega)
    exact ⟨Int.mul_nonneg hyd.1 (by have := ok.c0; omega), by have := hk.2; omega⟩
  obtain ⟨hk0, hk1⟩ := hk
  have s0 : y.tdiv S = y / S := Int.tdiv_eq_ediv_of_nonneg (by omega)
  have s1 : x.tdiv S = x / S := Int.tdiv_eq_ediv_of_nonneg (by omega)
  have s2 : IntKind.i64.wrap (y / S * C) = y / S * C := IntWalk.i64_in _ ⟨by omega, by omega⟩
  have s3 : IntKind.i64.wrap (y / S * C + x / S) = y / S * C + x / S := IntWalk.i64_in _ ⟨by omega, by omega⟩
  have s4 : IntKind.i64.wrap (y / S) = y / S := IntWalk.i64_in _ ⟨by have := ok.r1; omega, by have := ok.r1; omega⟩
  have s5 : IntKind.i64.wrap (x / S) = x / S := IntWalk.i64_in _ ⟨by omega, by omega⟩
  have hn : S ≠ 0 := by have := ok.s0; omega
  have HM := Lib.hid h
  clear h ok hin m1 m2 hb hyd hyc e0 hk0 hk1
  go_enter Try.func22, Try.ntmps22
  go_wp2_with fail
  refine Wd.out.mono ?_
  rintro e w1 ⟨rfl, b1⟩
  go_wp2_with fail
  refine (X.out _).mono ?_
  rintro e w2 ⟨rfl, b2⟩
  have b3 := Lib.hid (b1.trans (b2.mono b1.size))
  have hm := HM.out.below b3.out
  have lt := hm.lt
  obtain ⟨⟨k0, k1, k2, k3, k4, k5, k6⟩, f0, f1, f2, f3, f4, f5, f6⟩ := box7 hm
  clear b1 b2 hm f0 f1 f2 f3 f4 f5 f6 k1 k3 k4 k5 k6 X Wd HM
  go_wp2
  refine Og.grow 22 (by kernel_rfl) (by kernel_rfl) fun hc hf => ?_
  simp only [List.take_succ_cons, List.take_zero, List.drop_succ_cons, List.drop_zero]
  repeat (refine Og.det [] rfl (fun K hK => ?_); go_simp; refine hK _ _ ?_; clear hK K)
  refine Og.fin fun W hW => ?_
  simp only [Og.opened_nil]
  clear hc hf k0 k2
  go_wp2
  go_ret
  exact ⟨rfl, b3.out.trans (hW.mono b3.out.size)⟩
theorem of_any (b : Nat) (C R S D V N Q x y : Int) (w : World) (h : MapAt w b C R S D V N Q) (ok : Ok C R S D V) (hx : I x) (hy : I y) :
    Calls Try.prog 22 #[.pointer (some ⟨b, 0, none⟩), .int .i64 x, .int .i64 y] w fun e w' => e = .returned (.int .i64 (Zn.of C R S x y)) ∧ Below w.heap.size w w' := by
  unfold Zn.of
  by_cases hin : 0 ≤ x ∧ x < C * S ∧ 0 ≤ y ∧ y < R * S
  · rw [if_pos hin]; exact of_some b C R S D V N Q x y w h ok hx hy hin
  · rw [if_neg hin]
    have m1 := Zn.side_bd (q := C) ok.s0 ok.s1 (by have := ok.c0; omega) ok.c1
    have m2 := Zn.side_bd (q := R) ok.s0 ok.s1 (by have := ok.r0; omega) ok.r1
    exact of_no _ (C * S) (R * S) x y w hx hy m1 m2 (Lib.hid (world_any b C R S D V N Q w h ok)) ((has_world ok x y).trans (decide_eq_false hin))
theorem in_any (b : Nat) (C R S D V N Q x y : Int) (w : World) (h : MapAt w b C R S D V N Q) (ok : Ok C R S D V) (hx : I x) (hy : I y) :
    Calls Try.prog 20 #[.pointer (some ⟨b, 0, none⟩), .int .i64 x, .int .i64 y] w fun e w' => e = .returned (.tuple #[.int .i64 (Zn.into x (C * S)), .int .i64 (Zn.into y (R * S))]) ∧ Below w.heap.size w w' :=
  in_of _ _ _ x y w hx hy (Zn.side_bd (q := C) ok.s0 ok.s1 (by have := ok.c0; omega) ok.c1) (Zn.side_bd (q := R) ok.s0 ok.s1 (by have := ok.r0; omega) ok.r1) (Lib.hid (world_any b C R S D V N Q w h ok))
theorem in_nil (x y : Int) (w : World) (hx : I x) (hy : I y) :
    Calls Try.prog 20 #[.pointer none, .int .i64 x, .int .i64 y] w fun e w' => e = .returned (.tuple #[.int .i64 0, .int .i64 0]) ∧ Below w.heap.size w w' := by
  have := in_of none 0 0 x y w hx hy (by decide) (by decide) (Lib.hid (world_nil w))
  rwa [show Zn.into x 0 = 0 by unfold Zn.into; omega, show Zn.into y 0 = 0 by unfold Zn.into; omega] at this
/-- a zone's rectangle, whatever the number -/
theorem zzone_any (b : Nat) (C R S D V N Q k : Int) (w : World) (h : MapAt w b C R S D V N Q) (ok : Ok C R S D V) :
    Calls Try.prog 18 #[.pointer (some ⟨b, 0, none⟩), .int .i64 k] w fun e w' => e = .returned (.agg #[.int .i64 (Zn.zone C R S k).a, .int .i64 (Zn.zone C R S k).b, .int .i64 (Zn.zone C R S k).c, .int .i64 (Zn.zone C R S k).d]) ∧ Below w.heap.size w w' := by
  by_cases hk : There C R k
  · rw [Zn.zone_yes hk]; exact zzone_some b C R S D V N Q k w h ok hk
  · rw [Zn.zone_no hk]
    refine zzone_no _ k w (Lib.hid fun W hW => ?_)
    have := there_any b C R S D V N Q k W (h.below hW) ok
    rwa [decide_eq_false hk] at this
theorem zzone_nil (k : Int) (w : World) :
    Calls Try.prog 18 #[.pointer none, .int .i64 k] w fun e w' => e = .returned (.agg #[.int .i64 0, .int .i64 0, .int .i64 0, .int .i64 0]) ∧ Below w.heap.size w w' :=
  zzone_no _ k w (Lib.hid fun W _ => (there_nil k W).mono fun _ _ h => ⟨h.1, h.2 ▸ Below.refl _ _⟩)
end Go.Proofs.Ytloogafnkkbigaa
