/- The law's walk: Zones. -/
import Derived.Test.YtloogafnkkbigaaZnRef3
import Derived.Test.YtloogafnkkbigaaZnLaw2
namespace Go.Proofs.Ytloogafnkkbigaa
open Go.RowKit
open Zn (Ok There)

set_option maxHeartbeats 8000000 in
set_option maxRecDepth 100000 in
theorem law_zones (w : World) (C0 R0 S0 D0 V0 N0 Q0 : Int) (_ : Fits C0 ∧ Fits R0 ∧ Fits S0 ∧ Fits D0 ∧ Fits V0 ∧ Fits N0 ∧ Fits Q0) (k : Int) (hk : I k) :
    Calls Try.prog 4 #[.agg #[.int .i64 C0, .int .i64 R0, .int .i64 S0, .int .i64 D0, .int .i64 V0, .int .i64 N0, .int .i64 Q0], .int .i64 k] w fun e w' => e = .returned (.bool true) ∧ Below w.heap.size w w' := by
  have MY := Lib.hid (fun W => may_any C0 R0 S0 D0 V0 N0 Q0 W)
  have ok := Zn.may_ok C0 R0 S0 D0 V0
  have okb := Zn.may_okB C0 R0 S0 D0 V0 N0 Q0
  generalize Zn.mC C0 = C at *
  generalize Zn.mC R0 = R at *
  generalize Zn.mD S0 D0 = D at *
  generalize Zn.mD S0 V0 = V at *
  generalize Zn.mS S0 = S at *
  generalize Zn.mN N0 = N at *
  generalize Zn.mQ Q0 = Q at *
  have NW := Lib.hid (fun W => new_yes C R S D V N Q W okb)
  have CN := Lib.hid (fun W b (h : MapAt W b C R S D V N Q) => count_any b C R S D V N Q W h ok)
  have WD := Lib.hid (fun W b (h : MapAt W b C R S D V N Q) => world_any b C R S D V N Q W h ok)
  have ZN := Lib.hid (fun W b (h : MapAt W b C R S D V N Q) => zzone_any b C R S D V N Q k W h ok)
  have RZ := Lib.hid (fun W => rzone_any C R S D V N Q k W ok hk)
  have mb := Zn.mul_bd ok
  have m1 := Zn.side_bd (q := C) ok.s0 ok.s1 (by have := ok.c0; omega) ok.c1
  have m2 := Zn.side_bd (q := R) ok.s0 ok.s1 (by have := ok.r0; omega) ok.r1
  have w0 : IntKind.i64.wrap (C * R) = C * R := IntWalk.i64_in _ ⟨by omega, by omega⟩
  have w1' : IntKind.i64.wrap (C * S) = C * S := IntWalk.i64_in _ ⟨by omega, by omega⟩
  have w2' : IntKind.i64.wrap (R * S) = R * S := IntWalk.i64_in _ ⟨by omega, by omega⟩
  clear ok okb hk mb m1 m2
  generalize (Zn.zone C R S k).a = z0 at *
  generalize (Zn.zone C R S k).b = z1 at *
  generalize (Zn.zone C R S k).c = z2 at *
  generalize (Zn.zone C R S k).d = z3 at *
  go_enter Try.func4, Try.ntmps4
  go_wp2_with fail
  refine (MY.out _).mono ?_
  rintro e w1 ⟨rfl, b1⟩
  have Z1 := Lib.hid (show w.heap.size < w1.heap.size by have := b1.size; rw [size1] at this; omega)
  have B1 := Lib.hid ((bel1 w _).trans (b1.mono (by rw [size1]; omega)))
  have P1 := Lib.hid ((b1.block w.heap.size (by rw [size1]; omega)).trans (at1 w _))
  clear b1 MY
  obtain ⟨⟨k0, k1, k2, k3, k4, k5, k6⟩, f0, f1, f2, f3, f4, f5, f6⟩ := box7 P1.out
  go_wp2_with fail
  refine (NW.out _).mono ?_
  rintro e w2 ⟨b, rfl, hb, hm2, b2⟩
  have B2 := Lib.hid ((set7 B1.out _ (Nat.le_refl _) _ _ _ _ _ _ _).trans (b2.mono (by rw [set7_size]; have := Z1.out; omega)))
  have P2 := Lib.hid ((b2.block w.heap.size (by rw [set7_size]; have := Z1.out; omega)).trans (set7_same P1.out _ _ _ _ _ _ _))
  have z2' : w.heap.size < w2.heap.size := by have := b2.size; rw [set7_size] at this; have := Z1.out; omega
  have M2 := Lib.hid hm2
  clear b2 hm2 hb P1 Z1 B1 NW k0 k1 k2 k3 k4 k5 k6 f0 f1 f2 f3 f4 f5 f6
  obtain ⟨k0, k1, k2, k3, k4, k5, k6⟩ := (box7 P2.out).1
  go_wp2
  refine Og.grow 37 (by kernel_rfl) (by kernel_rfl) fun hc hf => ?_
  simp only [List.take_succ_cons, List.take_zero, List.drop_succ_cons, List.drop_zero]
  repeat (refine Og.det [] rfl (fun K hK => ?_); go_simp; first | (refine hK _ _ ?_; clear hK K) | (with_reducible refine ⟨_, fun p => Og.lays (CN.out _ _ (M2.out.below (lat_below p))), hK _ _ ?_⟩; clear hK K) | (with_reducible refine ⟨_, fun p => Og.lays (WD.out _ _ (M2.out.below (lat_below p))), hK _ _ ?_⟩; clear hK K) | (with_reducible refine ⟨_, fun p => Og.lays (ZN.out _ _ (M2.out.below (lat_below p))), hK _ _ ?_⟩; clear hK K) | (with_reducible refine ⟨_, fun p => Og.lays (RZ.out _), hK _ _ ?_⟩; clear hK K) | (with_reducible refine ⟨_, fun p => Og.lays (awake_hid.out _), hK _ _ ?_⟩; clear hK K))
  refine Og.fin fun W hW => ?_
  simp only [Og.opened_nil]
  clear hc hf
  go_wp2
  go_ret
  exact ⟨rfl, B2.out.trans (hW.mono B2.out.size)⟩
end Go.Proofs.Ytloogafnkkbigaa
