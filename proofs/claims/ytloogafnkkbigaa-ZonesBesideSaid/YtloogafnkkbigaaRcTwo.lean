/- The document's Two: what it answers. -/
import Derived.Test.YtloogafnkkbigaaRcRef
import Derived.Deep.DeepCutAuto
namespace Go.Proofs.Ytloogafnkkbigaa
open Go.RowKit

/-- what lies there on the way: both boxes, the result's, the new one's -/
structure At (w : World) (g : Nat) (q0 q1 q2 q3 r0 r1 r2 r3 : Int) (W : World) : Prop where
  bel : Below w.heap.size w W
  out : w.heap.size + 3 ≤ g
  top : g < W.heap.size
  other : W.heap[w.heap.size + 1]? = some (.cells #[.int .i64 q0, .int .i64 q1, .int .i64 q2, .int .i64 q3] 35 (0, 0))
  res : W.heap[w.heap.size + 2]? = some (.cells #[.int .i64 0, .int .i64 0, .int .i64 0, .int .i64 0] 35 (0, 0))
  new : W.heap[g]? = some (.cells #[.int .i64 r0, .int .i64 r1, .int .i64 r2, .int .i64 r3] 35 (0, 0))

theorem I_max (a b : Int) : I (max (Rc.clamp a) (Rc.clamp b)) := by
  have h := Rc.clamp_bd a
  have k := Rc.clamp_bd b
  exact ⟨by omega, by omega⟩
theorem I_min (a b : Int) : I (min (Rc.clamp a) (Rc.clamp b)) := by
  have h := Rc.clamp_bd a
  have k := Rc.clamp_bd b
  exact ⟨by omega, by omega⟩
variable {w W W' : World} {g : Nat} {q0 q1 q2 q3 r0 r1 r2 r3 : Int}
theorem At.step (h : At w g q0 q1 q2 q3 r0 r1 r2 r3 W) (hb : Below W.heap.size W W') : At w g q0 q1 q2 q3 r0 r1 r2 r3 W' :=
  have h1 := h.out
  have h2 := h.top
  ⟨h.bel.trans (hb.mono h.bel.size), h1, Nat.lt_of_lt_of_le h2 hb.size, (hb.block _ (by omega)).trans h.other, (hb.block _ (by omega)).trans h.res, (hb.block _ h2).trans h.new⟩
theorem At.set0 (h : At w g q0 q1 q2 q3 r0 r1 r2 r3 W) (v : Int) : At w g q0 q1 q2 q3 v r1 r2 r3 (W.setCell ⟨g, 0, none⟩ (.int .i64 v)) :=
  have h1 := h.out
  ⟨h.bel.setCell (p := ⟨g, 0, none⟩) (by show w.heap.size ≤ g; omega) _, h1, by simpa using h.top, (Below.heap_setCell _ _ _ _ (by show _ ≠ g; omega)).trans h.other, (Below.heap_setCell _ _ _ _ (by show _ ≠ g; omega)).trans h.res, heap_setCell_same W g 0 _ _ _ h.new⟩
theorem At.set1 (h : At w g q0 q1 q2 q3 r0 r1 r2 r3 W) (v : Int) : At w g q0 q1 q2 q3 r0 v r2 r3 (W.setCell ⟨g, 1, none⟩ (.int .i64 v)) :=
  have h1 := h.out
  ⟨h.bel.setCell (p := ⟨g, 1, none⟩) (by show w.heap.size ≤ g; omega) _, h1, by simpa using h.top, (Below.heap_setCell _ _ _ _ (by show _ ≠ g; omega)).trans h.other, (Below.heap_setCell _ _ _ _ (by show _ ≠ g; omega)).trans h.res, heap_setCell_same W g 1 _ _ _ h.new⟩
theorem At.set2 (h : At w g q0 q1 q2 q3 r0 r1 r2 r3 W) (v : Int) : At w g q0 q1 q2 q3 r0 r1 v r3 (W.setCell ⟨g, 2, none⟩ (.int .i64 v)) :=
  have h1 := h.out
  ⟨h.bel.setCell (p := ⟨g, 2, none⟩) (by show w.heap.size ≤ g; omega) _, h1, by simpa using h.top, (Below.heap_setCell _ _ _ _ (by show _ ≠ g; omega)).trans h.other, (Below.heap_setCell _ _ _ _ (by show _ ≠ g; omega)).trans h.res, heap_setCell_same W g 2 _ _ _ h.new⟩
theorem At.set3 (h : At w g q0 q1 q2 q3 r0 r1 r2 r3 W) (v : Int) : At w g q0 q1 q2 q3 r0 r1 r2 v (W.setCell ⟨g, 3, none⟩ (.int .i64 v)) :=
  have h1 := h.out
  ⟨h.bel.setCell (p := ⟨g, 3, none⟩) (by show w.heap.size ≤ g; omega) _, h1, by simpa using h.top, (Below.heap_setCell _ _ _ _ (by show _ ≠ g; omega)).trans h.other, (Below.heap_setCell _ _ _ _ (by show _ ≠ g; omega)).trans h.res, heap_setCell_same W g 3 _ _ _ h.new⟩

set_option maxHeartbeats 2000000 in
set_option maxRecDepth 100000 in
theorem rtwo_any (a0 a1 a2 a3 q0 q1 q2 q3 : Int) (w : World) (ha : I a0 ∧ I a1 ∧ I a2 ∧ I a3) (hq : I q0 ∧ I q1 ∧ I q2 ∧ I q3) :
    Calls Try.prog 46 #[.agg #[.int .i64 a0, .int .i64 a1, .int .i64 a2, .int .i64 a3], .agg #[.int .i64 q0, .int .i64 q1, .int .i64 q2, .int .i64 q3]] w fun e w' => e = .returned (.agg #[.int .i64 (Rc.two a0 a1 a2 a3 q0 q1 q2 q3).a, .int .i64 (Rc.two a0 a1 a2 a3 q0 q1 q2 q3).b, .int .i64 (Rc.two a0 a1 a2 a3 q0 q1 q2 q3).c, .int .i64 (Rc.two a0 a1 a2 a3 q0 q1 q2 q3).d]) ∧ Below w.heap.size w w' := by
  obtain ⟨t0, t1, t2, t3, e0, e1, e2, e3⟩ : ∃ t0 t1 t2 t3, (Rc.two a0 a1 a2 a3 q0 q1 q2 q3).a = t0 ∧ (Rc.two a0 a1 a2 a3 q0 q1 q2 q3).b = t1 ∧ (Rc.two a0 a1 a2 a3 q0 q1 q2 q3).c = t2 ∧ (Rc.two a0 a1 a2 a3 q0 q1 q2 q3).d = t3 := ⟨_, _, _, _, rfl, rfl, rfl, rfl⟩
  have HT : Hid ((Rc.None (max (Rc.clamp a0) (Rc.clamp q0)) (max (Rc.clamp a1) (Rc.clamp q1)) (min (Rc.clamp a2) (Rc.clamp q2)) (min (Rc.clamp a3) (Rc.clamp q3)) → t0 = 0 ∧ t1 = 0 ∧ t2 = 0 ∧ t3 = 0) ∧ (¬ Rc.None (max (Rc.clamp a0) (Rc.clamp q0)) (max (Rc.clamp a1) (Rc.clamp q1)) (min (Rc.clamp a2) (Rc.clamp q2)) (min (Rc.clamp a3) (Rc.clamp q3)) → t0 = (max (Rc.clamp a0) (Rc.clamp q0)) ∧ t1 = (max (Rc.clamp a1) (Rc.clamp q1)) ∧ t2 = (min (Rc.clamp a2) (Rc.clamp q2)) ∧ t3 = (min (Rc.clamp a3) (Rc.clamp q3)))) := by
    subst e0 e1 e2 e3
    unfold Rc.two
    exact ⟨fun h => by rw [if_pos h]; exact ⟨rfl, rfl, rfl, rfl⟩, fun h => by rw [if_neg h]; exact ⟨rfl, rfl, rfl, rfl⟩⟩
  rw [e0, e1, e2, e3]
  clear e0 e1 e2 e3
  obtain ⟨⟨x0, y0⟩, ⟨x1, y1⟩, ⟨x2, y2⟩, ⟨x3, y3⟩⟩ := ha
  obtain ⟨⟨z0, u0⟩, ⟨z1, u1⟩, ⟨z2, u2⟩, ⟨z3, u3⟩⟩ := hq
  go_enter Try.func46, Try.ntmps46
  go_wp2
  refine Og.grow 14 (by kernel_rfl) (by kernel_rfl) fun hc hf => ?_
  simp only [List.take_succ_cons, List.take_zero, List.drop_succ_cons, List.drop_zero]
  iterate 13 (refine Og.det [] rfl (fun K hK => ?_); go_simp; first | (refine hK _ _ ?_; clear hK K) | (refine ⟨_, fun p => Og.same (rclamp_any _ _ (by omega) (by omega)), hK _ _ ?_⟩; clear hK K))
  refine Og.such 5 (Og.Box (w.heap.size + 3) #[.int .i64 0, .int .i64 0, .int .i64 0, .int .i64 0] 35) [] rfl (Og.Box.lasts _ _ _) (Og.Box.noBool _ _ _) (fun K hK => ?_)
  go_simp
  refine ⟨fun p => Og.Box.new _ _ (by have := p.h.size; rw [size3] at this; exact this) _ _, hK _ _ ?_⟩
  clear hK K
  refine Og.fin fun W hW => ?_
  simp only [Og.opened_cons, Og.opened_nil]
  rintro v ⟨g, rfl, g1, g2, g3⟩
  clear hc hf
  have A0 : At w g q0 q1 q2 q3 0 0 0 0 W := ⟨(bel3 w _ _ _).trans (hW.mono (by rw [size3]; omega)), g1, g2, (hW.block _ (by rw [size3]; omega)).trans (at3b w _ _ _), (hW.block _ (by rw [size3]; omega)).trans (at3c w _ _ _), g3⟩
  have H0 := Lib.hid A0
  clear hW g3
  obtain ⟨⟨k0, k1, k2, k3⟩, f0, f1, f2, f3⟩ := box4 A0.new
  clear A0
  go_upto_region 2 with fail
  have A0 := (((H0.out.set0 (Rc.clamp a0)).set1 (Rc.clamp a1)).set2 (Rc.clamp a2)).set3 (Rc.clamp a3)
  clear H0 k0 k1 k2 k3 f0 f1 f2 f3
  generalize (((W.setCell ⟨g, 0, none⟩ (.int .i64 (Rc.clamp a0))).setCell ⟨g, 1, none⟩ (.int .i64 (Rc.clamp a1))).setCell ⟨g, 2, none⟩ (.int .i64 (Rc.clamp a2))).setCell ⟨g, 3, none⟩ (.int .i64 (Rc.clamp a3)) = W1 at *
  obtain ⟨⟨k0, k1, k2, k3⟩, f0, f1, f2, f3⟩ := box4 A0.new
  obtain ⟨⟨m0, m1, m2, m3⟩, n0, n1, n2, n3⟩ := box4 A0.other
  have hs1 : g < W1.heap.size := A0.top
  have hs2 : w.heap.size + 1 < W1.heap.size := by have := A0.out; omega
  have HA := Lib.hid A0
  clear A0
  refine Og.grow 6 (by kernel_rfl) (by kernel_rfl) fun hc hf => ?_
  simp only [List.take_succ_cons, List.take_zero, List.drop_succ_cons, List.drop_zero]
  iterate 6 (refine Og.det [] rfl (fun K hK => ?_); go_simp; first | (refine hK _ _ ?_; clear hK K) | (refine ⟨_, fun p => Og.same (rclamp_any _ _ (by omega) (by omega)), hK _ _ ?_⟩; clear hK K))
  refine Og.fin fun W2 hW => ?_
  simp only [Og.opened_nil]
  have B0 := HA.out.step hW
  clear hc hf hW HA k0 k1 k2 k3 f0 f1 f2 f3 m0 m1 m2 m3 n0 n1 n2 n3 hs1 hs2
  obtain ⟨⟨k0, k1, k2, k3⟩, f0, f1, f2, f3⟩ := box4 B0.new
  obtain ⟨⟨m0, m1, m2, m3⟩, n0, n1, n2, n3⟩ := box4 B0.other
  have HB := Lib.hid B0
  clear B0
  go_upto_if 24 with fail
  go_cut [] (fun wx => At w g q0 q1 q2 q3 (max (Rc.clamp a0) (Rc.clamp q0)) (Rc.clamp a1) (Rc.clamp a2) (Rc.clamp a3) wx)
  case first =>
    by_cases hcmp : Rc.clamp a0 < Rc.clamp q0
    · go_wp2_with ((refine (rclamp_any _ _ (by omega) (by omega)).mono ?_; rintro e w' ⟨rfl, rfl⟩))
      go_meet
      rw [show (max (Rc.clamp a0) (Rc.clamp q0)) = Rc.clamp q0 by omega]
      exact HB.out.set0 _
    · go_wp2
      go_meet
      rw [show (max (Rc.clamp a0) (Rc.clamp q0)) = Rc.clamp a0 by omega]
      exact HB.out
  clear HB k0 k1 k2 k3 f0 f1 f2 f3 m0 m1 m2 m3 n0 n1 n2 n3
  generalize wc = W3 at *
  have A1 := hcut
  clear hcut
  go_upto_region 4 with fail
  obtain ⟨⟨k0, k1, k2, k3⟩, f0, f1, f2, f3⟩ := box4 A1.new
  obtain ⟨⟨m0, m1, m2, m3⟩, n0, n1, n2, n3⟩ := box4 A1.other
  have hs1 : g < W3.heap.size := A1.top
  have hs2 : w.heap.size + 1 < W3.heap.size := by have := A1.out; omega
  have HA := Lib.hid A1
  clear A1
  refine Og.grow 6 (by kernel_rfl) (by kernel_rfl) fun hc hf => ?_
  simp only [List.take_succ_cons, List.take_zero, List.drop_succ_cons, List.drop_zero]
  iterate 6 (refine Og.det [] rfl (fun K hK => ?_); go_simp; first | (refine hK _ _ ?_; clear hK K) | (refine ⟨_, fun p => Og.same (rclamp_any _ _ (by omega) (by omega)), hK _ _ ?_⟩; clear hK K))
  refine Og.fin fun W4 hW => ?_
  simp only [Og.opened_nil]
  have B1 := HA.out.step hW
  clear hc hf hW HA k0 k1 k2 k3 f0 f1 f2 f3 m0 m1 m2 m3 n0 n1 n2 n3 hs1 hs2
  obtain ⟨⟨k0, k1, k2, k3⟩, f0, f1, f2, f3⟩ := box4 B1.new
  obtain ⟨⟨m0, m1, m2, m3⟩, n0, n1, n2, n3⟩ := box4 B1.other
  have HB := Lib.hid B1
  clear B1
  go_upto_if 34 with fail
  go_cut [] (fun wx => At w g q0 q1 q2 q3 (max (Rc.clamp a0) (Rc.clamp q0)) (max (Rc.clamp a1) (Rc.clamp q1)) (Rc.clamp a2) (Rc.clamp a3) wx)
  case first =>
    by_cases hcmp : Rc.clamp a1 < Rc.clamp q1
    · go_wp2_with ((refine (rclamp_any _ _ (by omega) (by omega)).mono ?_; rintro e w' ⟨rfl, rfl⟩))
      go_meet
      rw [show (max (Rc.clamp a1) (Rc.clamp q1)) = Rc.clamp q1 by omega]
      exact HB.out.set1 _
    · go_wp2
      go_meet
      rw [show (max (Rc.clamp a1) (Rc.clamp q1)) = Rc.clamp a1 by omega]
      exact HB.out
  clear HB k0 k1 k2 k3 f0 f1 f2 f3 m0 m1 m2 m3 n0 n1 n2 n3
  generalize wc = W5 at *
  have A2 := hcut
  clear hcut
  go_upto_region 6 with fail
  obtain ⟨⟨k0, k1, k2, k3⟩, f0, f1, f2, f3⟩ := box4 A2.new
  obtain ⟨⟨m0, m1, m2, m3⟩, n0, n1, n2, n3⟩ := box4 A2.other
  have hs1 : g < W5.heap.size := A2.top
  have hs2 : w.heap.size + 1 < W5.heap.size := by have := A2.out; omega
  have HA := Lib.hid A2
  clear A2
  refine Og.grow 6 (by kernel_rfl) (by kernel_rfl) fun hc hf => ?_
  simp only [List.take_succ_cons, List.take_zero, List.drop_succ_cons, List.drop_zero]
  iterate 6 (refine Og.det [] rfl (fun K hK => ?_); go_simp; first | (refine hK _ _ ?_; clear hK K) | (refine ⟨_, fun p => Og.same (rclamp_any _ _ (by omega) (by omega)), hK _ _ ?_⟩; clear hK K))
  refine Og.fin fun W6 hW => ?_
  simp only [Og.opened_nil]
  have B2 := HA.out.step hW
  clear hc hf hW HA k0 k1 k2 k3 f0 f1 f2 f3 m0 m1 m2 m3 n0 n1 n2 n3 hs1 hs2
  obtain ⟨⟨k0, k1, k2, k3⟩, f0, f1, f2, f3⟩ := box4 B2.new
  obtain ⟨⟨m0, m1, m2, m3⟩, n0, n1, n2, n3⟩ := box4 B2.other
  have HB := Lib.hid B2
  clear B2
  go_upto_if 44 with fail
  go_cut [] (fun wx => At w g q0 q1 q2 q3 (max (Rc.clamp a0) (Rc.clamp q0)) (max (Rc.clamp a1) (Rc.clamp q1)) (min (Rc.clamp a2) (Rc.clamp q2)) (Rc.clamp a3) wx)
  case first =>
    by_cases hcmp : Rc.clamp q2 < Rc.clamp a2
    · go_wp2_with ((refine (rclamp_any _ _ (by omega) (by omega)).mono ?_; rintro e w' ⟨rfl, rfl⟩))
      go_meet
      rw [show (min (Rc.clamp a2) (Rc.clamp q2)) = Rc.clamp q2 by omega]
      exact HB.out.set2 _
    · go_wp2
      go_meet
      rw [show (min (Rc.clamp a2) (Rc.clamp q2)) = Rc.clamp a2 by omega]
      exact HB.out
  clear HB k0 k1 k2 k3 f0 f1 f2 f3 m0 m1 m2 m3 n0 n1 n2 n3
  generalize wc = W7 at *
  have A3 := hcut
  clear hcut
  go_upto_region 8 with fail
  obtain ⟨⟨k0, k1, k2, k3⟩, f0, f1, f2, f3⟩ := box4 A3.new
  obtain ⟨⟨m0, m1, m2, m3⟩, n0, n1, n2, n3⟩ := box4 A3.other
  have hs1 : g < W7.heap.size := A3.top
  have hs2 : w.heap.size + 1 < W7.heap.size := by have := A3.out; omega
  have HA := Lib.hid A3
  clear A3
  refine Og.grow 6 (by kernel_rfl) (by kernel_rfl) fun hc hf => ?_
  simp only [List.take_succ_cons, List.take_zero, List.drop_succ_cons, List.drop_zero]
  iterate 6 (refine Og.det [] rfl (fun K hK => ?_); go_simp; first | (refine hK _ _ ?_; clear hK K) | (refine ⟨_, fun p => Og.same (rclamp_any _ _ (by omega) (by omega)), hK _ _ ?_⟩; clear hK K))
  refine Og.fin fun W8 hW => ?_
  simp only [Og.opened_nil]
  have B3 := HA.out.step hW
  clear hc hf hW HA k0 k1 k2 k3 f0 f1 f2 f3 m0 m1 m2 m3 n0 n1 n2 n3 hs1 hs2
  obtain ⟨⟨k0, k1, k2, k3⟩, f0, f1, f2, f3⟩ := box4 B3.new
  obtain ⟨⟨m0, m1, m2, m3⟩, n0, n1, n2, n3⟩ := box4 B3.other
  have HB := Lib.hid B3
  clear B3
  go_upto_if 54 with fail
  go_cut [] (fun wx => At w g q0 q1 q2 q3 (max (Rc.clamp a0) (Rc.clamp q0)) (max (Rc.clamp a1) (Rc.clamp q1)) (min (Rc.clamp a2) (Rc.clamp q2)) (min (Rc.clamp a3) (Rc.clamp q3)) wx)
  case first =>
    by_cases hcmp : Rc.clamp q3 < Rc.clamp a3
    · go_wp2_with ((refine (rclamp_any _ _ (by omega) (by omega)).mono ?_; rintro e w' ⟨rfl, rfl⟩))
      go_meet
      rw [show (min (Rc.clamp a3) (Rc.clamp q3)) = Rc.clamp q3 by omega]
      exact HB.out.set3 _
    · go_wp2
      go_meet
      rw [show (min (Rc.clamp a3) (Rc.clamp q3)) = Rc.clamp a3 by omega]
      exact HB.out
  clear HB k0 k1 k2 k3 f0 f1 f2 f3 m0 m1 m2 m3 n0 n1 n2 n3
  generalize wc = W9 at *
  have A4 := hcut
  clear hcut
  obtain ⟨⟨k0, k1, k2, k3⟩, f0, f1, f2, f3⟩ := box4 A4.new
  have HA := Lib.hid A4
  clear A4
  have R := Lib.hid (fun W => rnone_walk (max (Rc.clamp a0) (Rc.clamp q0)) (max (Rc.clamp a1) (Rc.clamp q1)) (min (Rc.clamp a2) (Rc.clamp q2)) (min (Rc.clamp a3) (Rc.clamp q3)) W (I_max a0 q0) (I_max a1 q1) (I_min a2 q2) (I_min a3 q3))
  go_wp2_with fail
  refine (R.out _).mono ?_
  rintro e W10 ⟨rfl, hW⟩
  have B := HA.out.step hW
  clear hW HA k0 k1 k2 k3 f0 f1 f2 f3 R
  obtain ⟨⟨k0, k1, k2, k3⟩, f0, f1, f2, f3⟩ := box4 B.new
  obtain ⟨r, hr⟩ : ∃ r, r = w.heap.size + 1 + 1 := ⟨_, rfl⟩
  have hres := B.res
  rw [show w.heap.size + 2 = r by omega] at hres
  rw [← hr]
  have hrw : w.heap.size ≤ r := by omega
  have hrg : r ≠ g := by have := B.out; omega
  clear hr
  obtain ⟨⟨m0, m1, m2, m3⟩, n0, n1, n2, n3⟩ := box4 hres
  clear hres
  have HB := Lib.hid B
  have ho := B.out
  clear B
  by_cases hN : Rc.None (max (Rc.clamp a0) (Rc.clamp q0)) (max (Rc.clamp a1) (Rc.clamp q1)) (min (Rc.clamp a2) (Rc.clamp q2)) (min (Rc.clamp a3) (Rc.clamp q3))
  · obtain ⟨rfl, rfl, rfl, rfl⟩ := HT.out.1 hN
    rw [Rc.noneB_yes hN]
    clear hN HT
    go_wp2
    exact bodyPost_ret (v := .agg #[.int .i64 0, .int .i64 0, .int .i64 0, .int .i64 0]) (by simp [results, Try.results46, go_sem, m0, m1, m2, m3]) rfl ⟨rfl, set4 HB.out.bel _ hrw _ _ _ _⟩
  · obtain ⟨rfl, rfl, rfl, rfl⟩ := HT.out.2 hN
    rw [Rc.noneB_no hN]
    clear hN HT
    go_wp2
    exact bodyPost_ret (v := .agg #[.int .i64 (max (Rc.clamp a0) (Rc.clamp q0)), .int .i64 (max (Rc.clamp a1) (Rc.clamp q1)), .int .i64 (min (Rc.clamp a2) (Rc.clamp q2)), .int .i64 (min (Rc.clamp a3) (Rc.clamp q3))]) (by simp [results, Try.results46, go_sem, m0, m1, m2, m3]) rfl ⟨rfl, set4 HB.out.bel _ hrw _ _ _ _⟩
end Go.Proofs.Ytloogafnkkbigaa
