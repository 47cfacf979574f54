/- The laws' walks: Makes, None. -/
import Derived.Test.YtloogafnkkbigaaZnAwake
import Derived.Test.YtloogafnkkbigaaOpenSeven
namespace Go.Proofs.Ytloogafnkkbigaa
open Go.RowKit
open Zn (Ok There)

set_option maxHeartbeats 400000 in
theorem rwithin_any (n lo hi : Int) (w : World) :
    Calls Try.prog 33 #[.int .i64 n, .int .i64 lo, .int .i64 hi] w fun e w' => e = .returned (.bool (decide (lo ≤ n ∧ n ≤ hi))) ∧ w = w' := by
  go_enter Try.func33, Try.ntmps33
  go_wp2
  all_goals
    go_ret
    refine ⟨ret_bool ?_, rfl⟩
    simp
  all_goals omega
set_option maxHeartbeats 4000000 in
theorem rcheck_r (C R S D V N Q r : Int) (w : World) (hr : Hid ((Zn.okB C R S D V N Q = true ∧ r = 0) ∨ (Zn.okB C R S D V N Q = false ∧ r = 1))) :
    Calls Try.prog 12 #[.agg #[.int .i64 C, .int .i64 R, .int .i64 S, .int .i64 D, .int .i64 V, .int .i64 N, .int .i64 Q]] w fun e w' => e = .returned (.int .i64 r) ∧ Below w.heap.size w w' := by
  go_enter Try.func12, Try.ntmps12
  go_wp2_with (go_at_call 33; refine (rwithin_any _ _ _ _).mono ?_; rintro e w' ⟨rfl, rfl⟩)
  all_goals
    go_ret
    refine ⟨ret_int ?_, bel1 _ _⟩
    rcases hr.out with ⟨h, hr'⟩ | ⟨h, hr'⟩
    · have h2 := (okB_is _ _ _ _ _ _ _).1 h
      omega
    · have h2 := mt (okB_is _ _ _ _ _ _ _).2 (by rw [h]; decide)
      omega

set_option maxHeartbeats 4000000 in
set_option maxRecDepth 100000 in
theorem law_makes (w : World) (C R S D V N Q : Int) (_ : Fits C ∧ Fits R ∧ Fits S ∧ Fits D ∧ Fits V ∧ Fits N ∧ Fits Q) :
    Calls Try.prog 3 #[.agg #[.int .i64 C, .int .i64 R, .int .i64 S, .int .i64 D, .int .i64 V, .int .i64 N, .int .i64 Q]] w fun e w' => e = .returned (.bool true) ∧ Below w.heap.size w w' := by
  cases h : Zn.okB C R S D V N Q
  · have NW := Lib.hid (fun W => new_no C R S D V N Q W h)
    have RC := Lib.hid (fun W => rcheck_r C R S D V N Q 1 W (Lib.hid (.inr ⟨h, rfl⟩)))
    have ZC := Lib.hid (fun W => zcheck_r C R S D V N Q 1 W (Lib.hid (.inr ⟨h, rfl⟩)))
    clear h
    go_enter Try.func3, Try.ntmps3
    go_wp2_with fail
    refine (NW.out _).mono ?_
    rintro e w1 ⟨rfl, b1⟩
    have B1 := Lib.hid ((bel1 w _).trans (b1.mono (by rw [size1]; omega)))
    have P1 := Lib.hid ((b1.block w.heap.size (by rw [size1]; omega)).trans (at1 w _))
    have L1 := Lib.hid (show w.heap.size < w1.heap.size by have := b1.size; rw [size1] at this; omega)
    clear b1
    obtain ⟨k0, k1, k2, k3, k4, k5, k6⟩ := (box7 P1.out).1
    go_wp2_with fail
    refine (RC.out _).mono ?_
    rintro e w2 ⟨rfl, b2⟩
    have B2 := Lib.hid (B1.out.trans (b2.mono B1.out.size))
    have P2 := Lib.hid ((b2.block w.heap.size L1.out).trans P1.out)
    clear b2 P1 B1 k0 k1 k2 k3 k4 k5 k6
    obtain ⟨k0, k1, k2, k3, k4, k5, k6⟩ := (box7 P2.out).1
    go_wp2_with fail
    refine (ZC.out _).mono ?_
    rintro e w3 ⟨rfl, b3⟩
    have B3 := Lib.hid (B2.out.trans (b3.mono B2.out.size))
    clear b3 P2 B2 k0 k1 k2 k3 k4 k5 k6
    go_wp2_with fail
    refine (awake_hid.out _).mono ?_
    rintro e w4 ⟨rfl, b4⟩
    go_wp2
    go_ret
    exact ⟨rfl, B3.out.trans (b4.mono B3.out.size)⟩
  · have NW := Lib.hid (fun W => new_yes C R S D V N Q W h)
    have RC := Lib.hid (fun W => rcheck_r C R S D V N Q 0 W (Lib.hid (.inl ⟨h, rfl⟩)))
    have ZC := Lib.hid (fun W => zcheck_r C R S D V N Q 0 W (Lib.hid (.inl ⟨h, rfl⟩)))
    clear h
    go_enter Try.func3, Try.ntmps3
    go_wp2_with fail
    refine (NW.out _).mono ?_
    rintro e w1 ⟨b, rfl, _, _, b1⟩
    have B1 := Lib.hid ((bel1 w _).trans (b1.mono (by rw [size1]; omega)))
    have P1 := Lib.hid ((b1.block w.heap.size (by rw [size1]; omega)).trans (at1 w _))
    have L1 := Lib.hid (show w.heap.size < w1.heap.size by have := b1.size; rw [size1] at this; omega)
    clear b1
    obtain ⟨k0, k1, k2, k3, k4, k5, k6⟩ := (box7 P1.out).1
    go_wp2_with fail
    refine (RC.out _).mono ?_
    rintro e w2 ⟨rfl, b2⟩
    have B2 := Lib.hid (B1.out.trans (b2.mono B1.out.size))
    have P2 := Lib.hid ((b2.block w.heap.size L1.out).trans P1.out)
    clear b2 P1 B1 k0 k1 k2 k3 k4 k5 k6
    obtain ⟨k0, k1, k2, k3, k4, k5, k6⟩ := (box7 P2.out).1
    go_wp2_with fail
    refine (ZC.out _).mono ?_
    rintro e w3 ⟨rfl, b3⟩
    have B3 := Lib.hid (B2.out.trans (b3.mono B2.out.size))
    clear b3 P2 B2 k0 k1 k2 k3 k4 k5 k6
    go_wp2_with fail
    refine (awake_hid.out _).mono ?_
    rintro e w4 ⟨rfl, b4⟩
    go_wp2
    go_ret
    exact ⟨rfl, B3.out.trans (b4.mono B3.out.size)⟩

set_option maxHeartbeats 4000000 in
set_option maxRecDepth 100000 in
theorem law_none (w : World) (k : Int) (_ : I k) (x : Int) (hx : I x) (y : Int) (hy : I y) :
    Calls Try.prog 10 #[.int .i64 k, .int .i64 x, .int .i64 y] w fun e w' => e = .returned (.bool true) ∧ Below w.heap.size w w' := by
  have IN := Lib.hid (fun W => in_nil x y W hx hy)
  have OF := Lib.hid (fun W => of_nil x y W hx hy)
  have NE := Lib.hid (fun W => znear_nil x y W hx hy)
  clear hx hy
  go_enter Try.func10, Try.ntmps10
  go_wp2_with fail
  refine (IN.out _).mono ?_
  rintro e w1 ⟨rfl, b1⟩
  have B1 := Lib.hid b1
  clear b1
  go_wp2_with fail
  refine (count_nil _).mono ?_
  rintro e w2 ⟨rfl, rfl⟩
  go_wp2_with fail
  refine (world_nil _).mono ?_
  rintro e w3 ⟨rfl, b3⟩
  have B3 := Lib.hid (B1.out.trans (b3.mono B1.out.size))
  clear b3
  go_wp2_with fail
  refine (zzone_nil _ _).mono ?_
  rintro e w4 ⟨rfl, b4⟩
  have B4 := Lib.hid (B3.out.trans (b4.mono B3.out.size))
  clear b4
  go_wp2_with fail
  refine (OF.out _).mono ?_
  rintro e w5 ⟨rfl, b5⟩
  have B5 := Lib.hid (B4.out.trans (b5.mono B4.out.size))
  clear b5
  go_wp2_with fail
  refine (beside_nil _ _).mono ?_
  rintro e w6 ⟨rfl, b6⟩
  have B6 := Lib.hid (B5.out.trans (b6.mono B5.out.size))
  clear b6
  go_wp2_with fail
  refine (NE.out _).mono ?_
  rintro e w7 ⟨rfl, b7⟩
  have B7 := Lib.hid (B6.out.trans (b7.mono B6.out.size))
  clear b7
  go_wp2_with fail
  refine (awake_hid.out _).mono ?_
  rintro e w8 ⟨rfl, b8⟩
  go_wp2
  go_ret
  exact ⟨rfl, B7.out.trans (b8.mono B7.out.size)⟩
end Go.Proofs.Ytloogafnkkbigaa
