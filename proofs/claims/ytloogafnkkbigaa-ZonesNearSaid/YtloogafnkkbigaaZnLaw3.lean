/- The law's walk: Reach. -/
import Derived.Test.YtloogafnkkbigaaZnLaw2
namespace Go.Proofs.Ytloogafnkkbigaa
open Go.RowKit
open Zn (Ok There)

set_option maxHeartbeats 4000000 in
set_option maxRecDepth 100000 in
theorem law_reach (w : World) (C0 R0 S0 D0 V0 N0 Q0 : Int) (_ : Fits C0 ∧ Fits R0 ∧ Fits S0 ∧ Fits D0 ∧ Fits V0 ∧ Fits N0 ∧ Fits Q0) (p0 p1 : Int) (hp0 : I p0) (hp1 : I p1) (v0 v1 : Int) (_ : I v0) (_ : I v1) :
    Calls Try.prog 8 #[.agg #[.int .i64 C0, .int .i64 R0, .int .i64 S0, .int .i64 D0, .int .i64 V0, .int .i64 N0, .int .i64 Q0], .agg #[.int .i64 p0, .int .i64 p1], .agg #[.int .i64 v0, .int .i64 v1]] w fun e w' => e = .returned (.bool true) ∧ Below w.heap.size w w' := by
  have MY := Lib.hid (fun W => may_any C0 R0 S0 D0 V0 N0 Q0 W)
  have ok := Zn.may_ok C0 R0 S0 D0 V0
  have okb := Zn.may_okB C0 R0 S0 D0 V0 N0 Q0
  generalize Zn.mC C0 = C at *
  generalize Zn.mC R0 = R at *
  generalize Zn.mD S0 D0 = D at *
  generalize Zn.mD S0 V0 = V at *
  generalize Zn.mS S0 = S at *
  generalize Zn.mN N0 = N at *
  generalize Zn.mQ Q0 = Q at *
  have NW := Lib.hid (fun W => new_yes C R S D V N Q W okb)
  have sV : 0 ≤ V ∧ V ≤ 1048576 := ⟨ok.v0, by have := ok.v1; have := ok.s1; omega⟩
  have m1 := Zn.side_bd (q := C) ok.s0 ok.s1 (by have := ok.c0; omega) ok.c1
  have m2 := Zn.side_bd (q := R) ok.s0 ok.s1 (by have := ok.r0; omega) ok.r1
  have e1 : 0 < C * S := Int.mul_pos (by have := ok.c0; omega) (by have := ok.s0; omega)
  have e2 : 0 < R * S := Int.mul_pos (by have := ok.r0; omega) (by have := ok.s0; omega)
  have ix := Zn.into_in (x := p0) e1
  have iy := Zn.into_in (x := p1) e2
  have IN := Lib.hid (fun W b (h : MapAt W b C R S D V N Q) => in_any b C R S D V N Q p0 p1 W h ok hp0 hp1)
  generalize Zn.into p0 (C * S) = x at *
  generalize Zn.into p1 (R * S) = y at *
  have M0 := Lib.hid (fun W => mod_any v0 (2 * V + 1) W (by omega) (by omega))
  have M1 := Lib.hid (fun W => mod_any v1 (2 * V + 1) W (by omega) (by omega))
  have a0 := Int.emod_nonneg v0 (show 2 * V + 1 ≠ 0 by omega)
  have a1 := Int.emod_lt_of_pos v0 (show 0 < 2 * V + 1 by omega)
  have c0 := Int.emod_nonneg v1 (show 2 * V + 1 ≠ 0 by omega)
  have c1 := Int.emod_lt_of_pos v1 (show 0 < 2 * V + 1 by omega)
  generalize v0 % (2 * V + 1) = a at *
  generalize v1 % (2 * V + 1) = c at *
  have w0 : IntKind.i64.wrap (2 * V) = 2 * V := IntWalk.i64_in _ ⟨by omega, by omega⟩
  have w1' : IntKind.i64.wrap (2 * V + 1) = 2 * V + 1 := IntWalk.i64_in _ ⟨by omega, by omega⟩
  have w2' : IntKind.i64.wrap (x + a) = x + a := IntWalk.i64_in _ ⟨by omega, by omega⟩
  have w3' : IntKind.i64.wrap (y + c) = y + c := IntWalk.i64_in _ ⟨by omega, by omega⟩
  have w4' : IntKind.i64.wrap (x + a - V) = x + a - V := IntWalk.i64_in _ ⟨by omega, by omega⟩
  have w5' : IntKind.i64.wrap (y + c - V) = y + c - V := IntWalk.i64_in _ ⟨by omega, by omega⟩
  have IN2 := Lib.hid (fun W b (h : MapAt W b C R S D V N Q) => in_any b C R S D V N Q (x + a - V) (y + c - V) W h ok (by unfold I; omega) (by unfold I; omega))
  have RE := Zn.reach (x := x) (y := y) (s := a - V) (t := c - V) ok ix.1 ix.2 iy.1 iy.2 (by omega) (by omega) (by omega) (by omega)
  rw [show x + (a - V) = x + a - V by omega, show y + (c - V) = y + c - V by omega] at RE
  have iu := Zn.into_in (x := x + a - V) e1
  have iv := Zn.into_in (x := y + c - V) e2
  have tk := Zn.of_in ok ix.1 ix.2 iy.1 iy.2
  have tj := Zn.of_in ok iu.1 iu.2 iv.1 iv.2
  generalize Zn.into (x + a - V) (C * S) = u at *
  generalize Zn.into (y + c - V) (R * S) = v at *
  have OK' := Lib.hid (fun W b (h : MapAt W b C R S D V N Q) => of_any b C R S D V N Q x y W h ok (by unfold I; omega) (by unfold I; omega))
  have OJ := Lib.hid (fun W b (h : MapAt W b C R S D V N Q) => of_any b C R S D V N Q u v W h ok (by unfold I; omega) (by unfold I; omega))
  generalize Zn.of C R S x y = k at *
  generalize Zn.of C R S u v = j at *
  have BE := Lib.hid (fun W b (h : MapAt W b C R S D V N Q) => beside_any b C R S D V N Q k W h ok)
  have ln := Zn.beside_bd ok k
  have hk0 := tk.1
  have hj0 := tj.1
  generalize Zn.beside C R k = L at *
  have HR := Lib.hid RE
  clear RE tk tj ok okb hp0 hp1 a0 a1 c0 c1 m1 m2 e1 e2 ix iy iu iv sV
  go_enter Try.func8, Try.ntmps8
  go_wp2_with fail
  refine (MY.out _).mono ?_
  rintro e w1 ⟨rfl, b1⟩
  have z1 : w.heap.size + 2 < w1.heap.size := by have := b1.size; rw [size3] at this; omega
  have Z1 := Lib.hid z1
  have B1 := Lib.hid ((bel3 w _ _ _).trans (b1.mono (by rw [size3]; omega)))
  have P1 := Lib.hid ((b1.block w.heap.size (by rw [size3]; omega)).trans (at3a w _ _ _))
  have X1 := Lib.hid ((b1.block (w.heap.size + 1) (by rw [size3]; omega)).trans (at3b w _ _ _))
  have Y1 := Lib.hid ((b1.block (w.heap.size + 2) (by rw [size3]; omega)).trans (at3c w _ _ _))
  clear b1 MY z1
  obtain ⟨⟨k0, k1, k2, k3, k4, k5, k6⟩, f0, f1, f2, f3, f4, f5, f6⟩ := box7 P1.out
  go_wp2_with fail
  refine (NW.out _).mono ?_
  rintro e w2 ⟨b, rfl, hb, hm2, b2⟩
  have B2 := Lib.hid ((set7 B1.out _ (Nat.le_refl _) _ _ _ _ _ _ _).trans (b2.mono (by rw [set7_size]; have := Z1.out; omega)))
  have P2 := Lib.hid ((b2.block w.heap.size (by rw [set7_size]; have := Z1.out; omega)).trans (set7_same P1.out _ _ _ _ _ _ _))
  have X2 := Lib.hid ((b2.block (w.heap.size + 1) (by rw [set7_size]; have := Z1.out; omega)).trans ((set7_other (by omega) _ _ _ _ _ _ _).trans X1.out))
  have Y2 := Lib.hid ((b2.block (w.heap.size + 2) (by rw [set7_size]; have := Z1.out; omega)).trans ((set7_other (by omega) _ _ _ _ _ _ _).trans Y1.out))
  have Z2 := Lib.hid (show w.heap.size + 2 < w2.heap.size by have := b2.size; rw [set7_size] at this; have := Z1.out; omega)
  have M2 := Lib.hid hm2
  clear b2 hm2 hb P1 X1 Y1 Z1 B1 NW k0 k1 k2 k3 k4 k5 k6 f0 f1 f2 f3 f4 f5 f6
  obtain ⟨l0, l1⟩ := (box2 X2.out).1
  go_wp2_with fail
  refine (IN.out _ _ M2.out).mono ?_
  rintro e w3 ⟨rfl, b3⟩
  have B3 := Lib.hid (B2.out.trans (b3.mono B2.out.size))
  have M3 := Lib.hid (M2.out.below b3)
  have P3 := Lib.hid ((b3.block _ (by have := Z2.out; omega)).trans P2.out)
  have Y3 := Lib.hid ((b3.block _ Z2.out).trans Y2.out)
  have s3 : w.heap.size < w3.heap.size ∧ w.heap.size + 2 < w3.heap.size := by have := b3.size; have := Z2.out; omega
  obtain ⟨s31, s32⟩ := s3
  clear b3 P2 X2 Y2 B2 M2 Z2 IN l0 l1
  obtain ⟨k0, k1, k2, k3, k4, k5, k6⟩ := (box7 P3.out).1
  obtain ⟨l0, l1⟩ := (box2 Y3.out).1
  clear k0 k1 k2 k3 k5 k6
  go_wp2_with fail
  have hbb : b < w3.heap.size := M3.out.lt
  refine Og.grow 31 (by kernel_rfl) (by kernel_rfl) fun hc hf => ?_
  simp only [List.take_succ_cons, List.take_zero, List.drop_succ_cons, List.drop_zero]
  repeat (refine Og.det [] rfl (fun K hK => ?_); go_simp; first | (refine hK _ _ ?_; clear hK K) | (with_reducible refine ⟨_, fun p => Og.same (M0.out _), hK _ _ ?_⟩; clear hK K) | (with_reducible refine ⟨_, fun p => Og.same (M1.out _), hK _ _ ?_⟩; clear hK K) | (with_reducible refine ⟨_, fun p => Og.lays (IN2.out _ _ (M3.out.below (lat_below p))), hK _ _ ?_⟩; clear hK K))
  refine Og.fin fun W hW => ?_
  simp only [Og.opened_nil]
  have B4 := Lib.hid (B3.out.trans (hW.mono B3.out.size))
  have M4 := Lib.hid (M3.out.below hW)
  clear hc hf hW hbb k4 l0 l1 s31 s32 P3 Y3 M3 B3 IN2 M0 M1
  go_wp2_with fail
  refine (OK'.out _ _ M4.out).mono ?_
  rintro e w5 ⟨rfl, b5⟩
  have B5 := Lib.hid (B4.out.trans (b5.mono B4.out.size))
  have M5 := Lib.hid (M4.out.below b5)
  clear b5 B4 M4
  go_wp2_with fail
  refine (OJ.out _ _ M5.out).mono ?_
  rintro e w6 ⟨rfl, b6⟩
  have B6 := Lib.hid (B5.out.trans (b6.mono B5.out.size))
  have M6 := Lib.hid (M5.out.below b6)
  clear b6 B5 M5
  by_cases hjk : j = k
  · subst hjk
    clear HR
    go_wp2_with fail
    refine (awake_hid.out _).mono ?_
    rintro e w7 ⟨rfl, b7⟩
    go_wp2
    go_ret
    exact ⟨rfl, B6.out.trans (b7.mono B6.out.size)⟩
  · have HIN := Lib.hid (show decide (j ∈ L) = true from decide_eq_true (HR.out.resolve_left hjk))
    clear HR
    go_wp2_with fail
    refine (BE.out _ _ M6.out).mono ?_
    rintro e w7 ⟨vl, rfl, ol, b7⟩
    have B7 := Lib.hid (B6.out.trans (b7.mono B6.out.size))
    obtain ⟨A, ca, rfl, rA⟩ := own_at ol
    have LH := Lib.hid (lhas_any A ca L j w7 (by omega) rA)
    rw [HIN.out] at LH
    clear b7 ol rA HIN
    go_wp2_with fail
    refine LH.out.mono ?_
    rintro e w' ⟨rfl, rfl⟩
    go_wp2_with fail
    refine (awake_hid.out _).mono ?_
    rintro e w8 ⟨rfl, b8⟩
    go_wp2
    go_ret
    exact ⟨rfl, B7.out.trans (b8.mono B7.out.size)⟩
end Go.Proofs.Ytloogafnkkbigaa
