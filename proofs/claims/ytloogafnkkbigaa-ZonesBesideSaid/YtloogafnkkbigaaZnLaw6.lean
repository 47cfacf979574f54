/- The law's walk: Points. -/
import Derived.Test.YtloogafnkkbigaaZnRef3
import Derived.Test.YtloogafnkkbigaaZnLaw2
namespace Go.Proofs.Ytloogafnkkbigaa
open Go.RowKit
open Zn (Ok There)

/-- a slice of these numbers -/
def OwnP (B : Nat) (l : List Int) : Og.Ph := fun v W => Own W B v l
theorem ownP_lasts (B : Nat) (l : List Int) : Og.Lasts grows (OwnP B l) := fun _ _ _ h hr => own_below h hr
theorem ownP_noBool (B : Nat) (l : List Int) : Og.NoBool (OwnP B l) := fun v _ h => by
  rcases h.2 with ⟨hv, _⟩ | ⟨_, _, _, hv, _⟩ <;> cases hv
theorem own_call {P : Program} {f : FuncId} {args : Array Value} {W : World} {l : List Int} (h : Calls P f args W fun e w' => ∃ v, e = .returned v ∧ Own w' W.heap.size v l ∧ Below W.heap.size W w') :
    Calls P f args W fun e w' => ∃ v, e = .returned v ∧ grows.r W w' ∧ OwnP 0 l v w' :=
  h.mono fun _ _ ⟨v, h1, h2, h3⟩ => ⟨v, h1, h3, own_base h2 (Nat.zero_le _)⟩
theorem same_own {W : World} {B B' : Nat} {u v : Value} {l : List Int} (hl : l.length ≤ 64) (hu : Own W B u l) (hv : Own W B' v l) :
    Calls Try.prog 24 #[u, v] W fun e w' => e = .returned (.bool true) ∧ Below W.heap.size W w' := by
  obtain ⟨A, ca, rfl, ra⟩ := own_at hu
  obtain ⟨A', cb, rfl, rb⟩ := own_at hv
  have := same_any A A' ca cb l l W hl ra rb
  rwa [decide_eq_true (rfl : l = l)] at this

set_option maxHeartbeats 8000000 in
set_option maxRecDepth 100000 in
theorem law_points (w : World) (C0 R0 S0 D0 V0 N0 Q0 : Int) (_ : Fits C0 ∧ Fits R0 ∧ Fits S0 ∧ Fits D0 ∧ Fits V0 ∧ Fits N0 ∧ Fits Q0) (x : Int) (hx : I x) (y : Int) (hy : I y) :
    Calls Try.prog 5 #[.agg #[.int .i64 C0, .int .i64 R0, .int .i64 S0, .int .i64 D0, .int .i64 V0, .int .i64 N0, .int .i64 Q0], .int .i64 x, .int .i64 y] w fun e w' => e = .returned (.bool true) ∧ Below w.heap.size w w' := by
  have MY := Lib.hid (fun W => may_any C0 R0 S0 D0 V0 N0 Q0 W)
  have ok := Zn.may_ok C0 R0 S0 D0 V0
  have okb := Zn.may_okB C0 R0 S0 D0 V0 N0 Q0
  generalize Zn.mC C0 = C at *
  generalize Zn.mC R0 = R at *
  generalize Zn.mD S0 D0 = D at *
  generalize Zn.mD S0 V0 = V at *
  generalize Zn.mS S0 = S at *
  generalize Zn.mN N0 = N at *
  generalize Zn.mQ Q0 = Q at *
  have NW := Lib.hid (fun W => new_yes C R S D V N Q W okb)
  have IN := Lib.hid (fun W b (h : MapAt W b C R S D V N Q) => in_any b C R S D V N Q x y W h ok hx hy)
  have RI := Lib.hid (fun W => rin_any C R S D V N Q x y W ok)
  have OF := Lib.hid (fun W b (h : MapAt W b C R S D V N Q) => of_any b C R S D V N Q x y W h ok hx hy)
  have RO := Lib.hid (fun W => rof_any C R S D V N Q x y W ok hx hy)
  have NE := Lib.hid (fun W b (h : MapAt W b C R S D V N Q) => own_call (znear_any b C R S D V N Q x y W h ok hx hy))
  have RN := Lib.hid (fun W => own_call (rnear_any C R S D V N Q x y W ok hx hy))
  have ln := Zn.near_bd ok x y
  generalize Zn.near C R S D x y = L at *
  have SM := Lib.hid (fun W u v (hu : OwnP 0 L u W) (hv : OwnP 0 L v W) => same_own (by omega) hu hv)
  clear ok okb hx hy ln
  generalize Zn.of C R S x y = o at *
  generalize Zn.into x (C * S) = p at *
  generalize Zn.into y (R * S) = q at *
  go_enter Try.func5, Try.ntmps5
  go_wp2_with fail
  refine (MY.out _).mono ?_
  rintro e w1 ⟨rfl, b1⟩
  have Z1 := Lib.hid (show w.heap.size < w1.heap.size by have := b1.size; rw [size1] at this; omega)
  have B1 := Lib.hid ((bel1 w _).trans (b1.mono (by rw [size1]; omega)))
  have P1 := Lib.hid ((b1.block w.heap.size (by rw [size1]; omega)).trans (at1 w _))
  clear b1 MY
  obtain ⟨⟨k0, k1, k2, k3, k4, k5, k6⟩, f0, f1, f2, f3, f4, f5, f6⟩ := box7 P1.out
  go_wp2_with fail
  refine (NW.out _).mono ?_
  rintro e w2 ⟨b, rfl, hb, hm2, b2⟩
  have B2 := Lib.hid ((set7 B1.out _ (Nat.le_refl _) _ _ _ _ _ _ _).trans (b2.mono (by rw [set7_size]; have := Z1.out; omega)))
  have P2 := Lib.hid ((b2.block w.heap.size (by rw [set7_size]; have := Z1.out; omega)).trans (set7_same P1.out _ _ _ _ _ _ _))
  have Z2 := Lib.hid (show w.heap.size < w2.heap.size by have := b2.size; rw [set7_size] at this; have := Z1.out; omega)
  have M2 := Lib.hid hm2
  clear b2 hm2 hb P1 Z1 B1 NW k0 k1 k2 k3 k4 k5 k6 f0 f1 f2 f3 f4 f5 f6
  go_wp2_with fail
  refine (IN.out _ _ M2.out).mono ?_
  rintro e w3 ⟨rfl, b3⟩
  have B3 := Lib.hid (B2.out.trans (b3.mono B2.out.size))
  have M3 := Lib.hid (M2.out.below b3)
  have P3 := Lib.hid ((b3.block _ Z2.out).trans P2.out)
  have Z3 := Lib.hid (Nat.lt_of_lt_of_le Z2.out b3.size)
  clear b3 B2 M2 P2 Z2 IN
  obtain ⟨k0, k1, k2, k3, k4, k5, k6⟩ := (box7 P3.out).1
  go_wp2_with fail
  refine (RI.out _).mono ?_
  rintro e w4 ⟨rfl, b4⟩
  have B4 := Lib.hid (B3.out.trans (b4.mono B3.out.size))
  have M4 := Lib.hid (M3.out.below b4)
  have P4 := Lib.hid ((b4.block _ Z3.out).trans P3.out)
  have z4 : w.heap.size < w4.heap.size := Nat.lt_of_lt_of_le Z3.out b4.size
  clear b4 B3 M3 P3 Z3 RI k0 k1 k2 k3 k4 k5 k6
  obtain ⟨k0, k1, k2, k3, k4, k5, k6⟩ := (box7 P4.out).1
  go_wp2
  refine Og.grow 34 (by kernel_rfl) (by kernel_rfl) fun hc hf => ?_
  simp only [List.take_succ_cons, List.take_zero, List.drop_succ_cons, List.drop_zero]
  iterate 23 (refine Og.det [] rfl (fun K hK => ?_); go_simp; first | (refine hK _ _ ?_; clear hK K) | (with_reducible refine ⟨_, fun p => Og.lays (OF.out _ _ (M4.out.below (lat_below p))), hK _ _ ?_⟩; clear hK K) | (with_reducible refine ⟨_, fun p => Og.lays (RO.out _), hK _ _ ?_⟩; clear hK K))
  refine Og.such 63 (OwnP 0 L) [] rfl (ownP_lasts _ _) (ownP_noBool _ _) (fun K hK => ?_)
  go_simp
  refine ⟨fun p => NE.out _ _ (M4.out.below (lat_below p)), hK _ _ ?_⟩
  clear hK K
  iterate 3 (refine Og.det [] rfl (fun K hK => ?_); go_simp; refine hK _ _ ?_; clear hK K)
  refine Og.such 67 (OwnP 0 L) [] rfl (ownP_lasts _ _) (ownP_noBool _ _) (fun K hK => ?_)
  go_simp
  refine ⟨fun p => RN.out _, hK _ _ ?_⟩
  clear hK K
  refine Og.det [(67, OwnP 0 L), (63, OwnP 0 L)] rfl (fun K hK => ?_)
  go_simp
  refine ⟨_, fun p v hv u hu => SM.out _ _ _ hu hv, hK _ _ ?_⟩
  clear hK K
  repeat (refine Og.det [] rfl (fun K hK => ?_); go_simp; first | (refine hK _ _ ?_; clear hK K) | (with_reducible refine ⟨_, fun p => Og.lays (awake_hid.out _), hK _ _ ?_⟩; clear hK K))
  refine Og.fin fun W hW => ?_
  simp only [Og.opened_cons, Og.opened_nil]
  intro v67 _ v63 _
  clear hc hf
  go_wp2
  go_ret
  exact ⟨rfl, B4.out.trans (hW.mono B4.out.size)⟩
end Go.Proofs.Ytloogafnkkbigaa
