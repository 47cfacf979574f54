/- zones: Check, New, Count, World, Zone, In, Of: what they answer. -/
import Derived.Test.YtloogafnkkbigaaZnPure
import Derived.Test.YtloogafnkkbigaaRcCore
namespace Go.Proofs.Ytloogafnkkbigaa
open Go.RowKit
open Zn (Ok There)

theorem box7 {W : World} {b T : Nat} {v0 v1 v2 v3 v4 v5 v6 : Value} (h : W.heap[b]? = some (.cells #[v0, v1, v2, v3, v4, v5, v6] T (0, 0))) :
    (W.cell? ⟨b, 0, none⟩ = some v0 ∧ W.cell? ⟨b, 1, none⟩ = some v1 ∧ W.cell? ⟨b, 2, none⟩ = some v2 ∧ W.cell? ⟨b, 3, none⟩ = some v3 ∧ W.cell? ⟨b, 4, none⟩ = some v4 ∧ W.cell? ⟨b, 5, none⟩ = some v5 ∧ W.cell? ⟨b, 6, none⟩ = some v6) ∧
    (W.frozen? ⟨b, 0, none⟩ = false ∧ W.frozen? ⟨b, 1, none⟩ = false ∧ W.frozen? ⟨b, 2, none⟩ = false ∧ W.frozen? ⟨b, 3, none⟩ = false ∧ W.frozen? ⟨b, 4, none⟩ = false ∧ W.frozen? ⟨b, 5, none⟩ = false ∧ W.frozen? ⟨b, 6, none⟩ = false) := by
  simp [World.cell?, World.frozen?, h]

/-- at a block lies a map of this config -/
def MapAt (W : World) (b : Nat) (C R S D V N Q : Int) : Prop := W.heap[b]? = some (.cells #[.int .i64 C, .int .i64 R, .int .i64 S, .int .i64 D, .int .i64 V, .int .i64 N, .int .i64 Q] 59 (0, 0))
theorem MapAt.lt {W : World} {b : Nat} {C R S D V N Q : Int} (h : MapAt W b C R S D V N Q) : b < W.heap.size := (Array.getElem?_eq_some_iff.1 h).1
theorem MapAt.below {W W' : World} {b : Nat} {C R S D V N Q : Int} (h : MapAt W b C R S D V N Q) (hb : Below W.heap.size W W') : MapAt W' b C R S D V N Q := (hb.block b h.lt).trans h
theorem MapAt.at {W W' : World} {B b : Nat} {C R S D V N Q : Int} (h : MapAt W b C R S D V N Q) (hb : Below B W W') (hl : b < B) : MapAt W' b C R S D V N Q := (hb.block b hl).trans h

theorem lat_below {w : World} (p : Lat grows w) : Below w.heap.size w p.W := p.h
set_option maxHeartbeats 400000 in
theorem zwithin_any (n lo hi : Int) (w : World) :
    Calls Try.prog 34 #[.int .i64 n, .int .i64 lo, .int .i64 hi] w fun e w' => e = .returned (.bool (decide (lo ≤ n ∧ n ≤ hi))) ∧ w = w' := by
  go_enter Try.func34, Try.ntmps34
  go_wp2
  all_goals
    go_ret
    refine ⟨ret_bool ?_, rfl⟩
    simp
  all_goals omega
theorem okB_is (C R S D V N Q : Int) : Zn.okB C R S D V N Q = true ↔ ((1 ≤ C ∧ C ≤ 4) ∧ (1 ≤ R ∧ R ≤ 4) ∧ (256 ≤ S ∧ S ≤ 1048576) ∧ (0 ≤ D ∧ D ≤ S) ∧ (0 ≤ V ∧ V ≤ S) ∧ (1 ≤ N ∧ N ≤ 16) ∧ (1 ≤ Q ∧ Q ≤ 64)) := by unfold Zn.okB; rw [decide_eq_true_eq]
set_option maxHeartbeats 2000000 in
theorem zcheck_r (C R S D V N Q r : Int) (w : World) (hr : Hid ((Zn.okB C R S D V N Q = true ∧ r = 0) ∨ (Zn.okB C R S D V N Q = false ∧ r = 1))) :
    Calls Try.prog 13 #[.agg #[.int .i64 C, .int .i64 R, .int .i64 S, .int .i64 D, .int .i64 V, .int .i64 N, .int .i64 Q]] w fun e w' => e = .returned (.int .i64 r) ∧ Below w.heap.size w w' := by
  go_enter Try.func13, Try.ntmps13
  go_wp2_with (go_at_call 34; refine (zwithin_any _ _ _ _).mono ?_; rintro e w' ⟨rfl, rfl⟩)
  all_goals
    go_ret
    refine ⟨ret_int ?_, bel1 _ _⟩
    rcases hr.out with ⟨h, hr'⟩ | ⟨h, hr'⟩
    · have h2 := (okB_is _ _ _ _ _ _ _).1 h
      omega
    · have h2 := mt (okB_is _ _ _ _ _ _ _).2 (by rw [h]; decide)
      omega
theorem zcheck_any (C R S D V N Q : Int) (w : World) :
    Calls Try.prog 13 #[.agg #[.int .i64 C, .int .i64 R, .int .i64 S, .int .i64 D, .int .i64 V, .int .i64 N, .int .i64 Q]] w fun e w' => e = .returned (.int .i64 (if Zn.okB C R S D V N Q then 0 else 1)) ∧ Below w.heap.size w w' :=
  zcheck_r _ _ _ _ _ _ _ _ w (Lib.hid (by cases h : Zn.okB C R S D V N Q <;> simp))

set_option maxHeartbeats 1000000 in
theorem count_any (b : Nat) (C R S D V N Q : Int) (w : World) (h : MapAt w b C R S D V N Q) (ok : Ok C R S D V) :
    Calls Try.prog 16 #[.pointer (some ⟨b, 0, none⟩)] w fun e w' => e = .returned (.int .i64 (C * R)) ∧ Below w.heap.size w w' := by
  obtain ⟨⟨k0, k1, k2, k3, k4, k5, k6⟩, f0, f1, f2, f3, f4, f5, f6⟩ := box7 h
  have lt := h.lt
  have m := Zn.mul_bd ok
  have s0 : IntKind.i64.wrap (C * R) = C * R := IntWalk.i64_in _ ⟨by omega, by omega⟩
  clear h ok f0 f1 f2 f3 f4 f5 f6 k2 k3 k4 k5 k6
  go_enter Try.func16, Try.ntmps16
  go_wp2
  refine Og.grow 12 (by kernel_rfl) (by kernel_rfl) fun hc hf => ?_
  simp only [List.take_succ_cons, List.take_zero, List.drop_succ_cons, List.drop_zero]
  repeat (refine Og.det [] rfl (fun K hK => ?_); go_simp; refine hK _ _ ?_; clear hK K)
  refine Og.fin fun W hW => ?_
  simp only [Og.opened_nil]
  clear hc hf
  go_wp2
  go_ret
  exact ⟨rfl, hW⟩
set_option maxHeartbeats 400000 in
theorem count_nil (w : World) :
    Calls Try.prog 16 #[.pointer none] w fun e w' => e = .returned (.int .i64 0) ∧ w = w' := by
  go_enter Try.func16, Try.ntmps16
  go_wp2
  go_ret
  exact ⟨rfl, rfl⟩
theorem there_two (C R k : Int) : decide (There C R k) = (decide (0 ≤ k) && decide (k < C * R)) := by rw [Bool.eq_iff_iff, Bool.and_eq_true, decide_eq_true_eq, decide_eq_true_eq, decide_eq_true_eq]; exact Iff.rfl
set_option maxHeartbeats 1000000 in
theorem there_any (b : Nat) (C R S D V N Q k : Int) (w : World) (h : MapAt w b C R S D V N Q) (ok : Ok C R S D V) :
    Calls Try.prog 35 #[.pointer (some ⟨b, 0, none⟩), .int .i64 k] w fun e w' => e = .returned (.bool (decide (There C R k))) ∧ Below w.heap.size w w' := by
  have X := Lib.hid (count_any b C R S D V N Q w h ok)
  clear h ok
  rw [there_two]
  generalize C * R = n at *
  go_enter Try.func35, Try.ntmps35
  go_wp2_with (go_at_call 16; refine X.out.mono ?_; rintro e w1 ⟨rfl, b1⟩)
  all_goals
    go_ret
    first | exact ⟨ret_bool (by simp [*]), by assumption⟩ | exact ⟨ret_bool (by simp; omega), Below.refl _ _⟩
set_option maxHeartbeats 400000 in
theorem there_nil (k : Int) (w : World) :
    Calls Try.prog 35 #[.pointer none, .int .i64 k] w fun e w' => e = .returned (.bool false) ∧ w = w' := by
  go_enter Try.func35, Try.ntmps35
  go_wp2_with (go_at_call 16; refine (count_nil _).mono ?_; rintro e w' ⟨rfl, rfl⟩)
  all_goals
    go_ret
    first | exact ⟨rfl, rfl⟩ | exact ⟨ret_bool (by simp; omega), rfl⟩
set_option maxHeartbeats 1000000 in
theorem column_any (b : Nat) (C R S D V N Q k : Int) (w : World) (h : MapAt w b C R S D V N Q) (ok : Ok C R S D V) (hk : There C R k) :
    Calls Try.prog 36 #[.pointer (some ⟨b, 0, none⟩), .int .i64 k] w fun e w' => e = .returned (.int .i64 (k % C)) ∧ w = w' := by
  obtain ⟨⟨k0, k1, k2, k3, k4, k5, k6⟩, f0, f1, f2, f3, f4, f5, f6⟩ := box7 h
  have lt := h.lt
  have m := Zn.mul_bd ok
  have cb := Zn.col_bd (k := k) ok
  have c0 := ok.c0
  have c1 := ok.c1
  have hn : C ≠ 0 := by omega
  have s0 : k.tmod C = k % C := Int.tmod_eq_emod_of_nonneg hk.1
  clear h ok f0 f1 f2 f3 f4 f5 f6 k1 k2 k3 k4 k5 k6
  go_enter Try.func36, Try.ntmps36
  go_wp2
  go_ret
  exact ⟨rfl, rfl⟩
set_option maxHeartbeats 1000000 in
theorem row_any (b : Nat) (C R S D V N Q k : Int) (w : World) (h : MapAt w b C R S D V N Q) (ok : Ok C R S D V) (hk : There C R k) :
    Calls Try.prog 37 #[.pointer (some ⟨b, 0, none⟩), .int .i64 k] w fun e w' => e = .returned (.int .i64 (k / C)) ∧ w = w' := by
  obtain ⟨⟨k0, k1, k2, k3, k4, k5, k6⟩, f0, f1, f2, f3, f4, f5, f6⟩ := box7 h
  have lt := h.lt
  have rb := Zn.row_bd ok hk
  have r1 := ok.r1
  have c0 := ok.c0
  have hn : C ≠ 0 := by omega
  have s0 : IntKind.i64.wrap (k.tdiv C) = k / C := by rw [Int.tdiv_eq_ediv_of_nonneg hk.1]; exact IntWalk.i64_in _ ⟨by omega, by omega⟩
  clear h ok f0 f1 f2 f3 f4 f5 f6 k1 k2 k3 k4 k5 k6
  go_enter Try.func37, Try.ntmps37
  go_wp2
  go_ret
  exact ⟨rfl, rfl⟩
set_option maxHeartbeats 1000000 in
theorem world_nil (w : World) :
    Calls Try.prog 17 #[.pointer none] w fun e w' => e = .returned (.agg #[.int .i64 0, .int .i64 0, .int .i64 0, .int .i64 0]) ∧ Below w.heap.size w w' := by
  go_enter Try.func17, Try.ntmps17
  go_wp2
  exact bodyPost_ret (v := .agg #[.int .i64 0, .int .i64 0, .int .i64 0, .int .i64 0]) (by simp [results, Try.results17, go_sem]) rfl ⟨rfl, bel1 w _⟩
set_option maxHeartbeats 2000000 in
set_option maxRecDepth 100000 in
theorem world_any (b : Nat) (C R S D V N Q : Int) (w : World) (h : MapAt w b C R S D V N Q) (ok : Ok C R S D V) :
    Calls Try.prog 17 #[.pointer (some ⟨b, 0, none⟩)] w fun e w' => e = .returned (.agg #[.int .i64 0, .int .i64 0, .int .i64 (C * S), .int .i64 (R * S)]) ∧ Below w.heap.size w w' := by
  obtain ⟨⟨k0, k1, k2, k3, k4, k5, k6⟩, f0, f1, f2, f3, f4, f5, f6⟩ := box7 h
  have lt := h.lt
  have m1 := Zn.side_bd (q := C) ok.s0 ok.s1 (by have := ok.c0; omega) ok.c1
  have m2 := Zn.side_bd (q := R) ok.s0 ok.s1 (by have := ok.r0; omega) ok.r1
  have s0 : IntKind.i64.wrap (C * S) = C * S := IntWalk.i64_in _ ⟨by omega, by omega⟩
  have s1 : IntKind.i64.wrap (R * S) = R * S := IntWalk.i64_in _ ⟨by omega, by omega⟩
  clear h ok f0 f1 f2 f3 f4 f5 f6 k3 k4 k5 k6 m1 m2
  go_enter Try.func17, Try.ntmps17
  go_wp2
  have hx := Lib.hid (at1 w (.cells #[.int .i64 0, .int .i64 0, .int .i64 0, .int .i64 0] 35))
  have hz := Lib.hid (show w.heap.size < (w.alloc (.cells #[.int .i64 0, .int .i64 0, .int .i64 0, .int .i64 0] 35)).heap.size by rw [size1]; omega)
  refine Og.grow 23 (by kernel_rfl) (by kernel_rfl) fun hc hf => ?_
  simp only [List.take_succ_cons, List.take_zero, List.drop_succ_cons, List.drop_zero]
  repeat (refine Og.det [] rfl (fun K hK => ?_); go_simp; refine hK _ _ ?_; clear hK K)
  refine Og.fin fun W hW => ?_
  simp only [Og.opened_nil]
  clear hc hf k0 k1 k2
  have q1 := (hW.block _ hz.out).trans hx.out
  obtain ⟨⟨k0, k1, k2, k3⟩, f0, f1, f2, f3⟩ := box4 q1
  have b1 := (bel1 w _).trans (hW.mono (by rw [size1]; omega))
  clear hW q1
  go_wp2
  exact bodyPost_ret (v := .agg #[.int .i64 0, .int .i64 0, .int .i64 (C * S), .int .i64 (R * S)]) (by simp [results, Try.results17, go_sem, k0, k1, k2, k3]) rfl ⟨rfl, set4 b1 _ (Nat.le_refl _) _ _ _ _⟩
set_option maxHeartbeats 1000000 in
theorem zzone_no (b : Option Addr) (k : Int) (w : World) (h : Hid (∀ W, Below w.heap.size w W → Calls Try.prog 35 #[.pointer b, .int .i64 k] W fun e w' => e = .returned (.bool false) ∧ Below W.heap.size W w')) :
    Calls Try.prog 18 #[.pointer b, .int .i64 k] w fun e w' => e = .returned (.agg #[.int .i64 0, .int .i64 0, .int .i64 0, .int .i64 0]) ∧ Below w.heap.size w w' := by
  go_enter Try.func18, Try.ntmps18
  go_wp2_with fail
  refine (h.out _ (bel1 _ _)).mono ?_
  rintro e w1 ⟨rfl, b1⟩
  have hx := (b1.block w.heap.size (by rw [size1]; omega)).trans (at1 w _)
  have b2 := (bel1 w _).trans (b1.mono (by rw [size1]; omega))
  obtain ⟨⟨k0, k1, k2, k3⟩, f0, f1, f2, f3⟩ := box4 hx
  clear hx b1 h
  go_wp2
  exact bodyPost_ret (v := .agg #[.int .i64 0, .int .i64 0, .int .i64 0, .int .i64 0]) (by simp [results, Try.results18, go_sem, k0, k1, k2, k3]) rfl ⟨rfl, set4 b2 _ (Nat.le_refl _) _ _ _ _⟩
set_option maxHeartbeats 2000000 in
set_option maxRecDepth 100000 in
theorem zzone_some (b : Nat) (C R S D V N Q k : Int) (w : World) (h : MapAt w b C R S D V N Q) (ok : Ok C R S D V) (hk : There C R k) :
    Calls Try.prog 18 #[.pointer (some ⟨b, 0, none⟩), .int .i64 k] w fun e w' => e = .returned (.agg #[.int .i64 (k % C * S), .int .i64 (k / C * S), .int .i64 (k % C * S + S), .int .i64 (k / C * S + S)]) ∧ Below w.heap.size w w' := by
  have T := Lib.hid (fun W (hb : Below w.heap.size w W) => there_any b C R S D V N Q k W (h.below hb) ok)
  rw [show decide (There C R k) = true from decide_eq_true hk] at T
  have X := Lib.hid (fun W (hm : MapAt W b C R S D V N Q) => column_any b C R S D V N Q k W hm ok hk)
  have Y := Lib.hid (fun W (hm : MapAt W b C R S D V N Q) => row_any b C R S D V N Q k W hm ok hk)
  have lt := h.lt
  have m1 := Zn.zone_bd ok hk
  have HM := Lib.hid h
  have s0 : IntKind.i64.wrap (k % C * S) = k % C * S := IntWalk.i64_in _ ⟨by omega, by omega⟩
  have s1 : IntKind.i64.wrap (k / C * S) = k / C * S := IntWalk.i64_in _ ⟨by omega, by omega⟩
  have s2 : IntKind.i64.wrap (k % C * S + S) = k % C * S + S := IntWalk.i64_in _ ⟨by omega, by omega⟩
  have s3 : IntKind.i64.wrap (k / C * S + S) = k / C * S + S := IntWalk.i64_in _ ⟨by omega, by omega⟩
  clear h ok hk m1
  go_enter Try.func18, Try.ntmps18
  go_wp2_with fail
  refine (T.out _ (bel1 _ _)).mono ?_
  rintro e w1 ⟨rfl, b1⟩
  have hx := Lib.hid ((b1.block w.heap.size (by rw [size1]; omega)).trans (at1 w _))
  have hz := Lib.hid (show w.heap.size < w1.heap.size by have := b1.size; rw [size1] at this; omega)
  have b2 := Lib.hid ((bel1 w _).trans (b1.mono (by rw [size1]; omega)))
  have hm := HM.out.below b2.out
  have lt1 : b < w1.heap.size := by have := hz.out; omega
  clear b1 T
  obtain ⟨⟨k0, k1, k2, k3, k4, k5, k6⟩, f0, f1, f2, f3, f4, f5, f6⟩ := box7 hm
  have HM1 := Lib.hid hm
  clear hm f0 f1 f2 f3 f4 f5 f6 k0 k1 k3 k4 k5 k6
  go_wp2
  refine Og.grow 20 (by kernel_rfl) (by kernel_rfl) fun hc hf => ?_
  simp only [List.take_succ_cons, List.take_zero, List.drop_succ_cons, List.drop_zero]
  repeat (refine Og.det [] rfl (fun K hK => ?_); go_simp; first | (refine hK _ _ ?_; clear hK K) | (with_reducible refine ⟨_, fun p => Og.same (X.out _ (HM1.out.below (lat_below p))), hK _ _ ?_⟩; clear hK K) | (with_reducible refine ⟨_, fun p => Og.same (Y.out _ (HM1.out.below (lat_below p))), hK _ _ ?_⟩; clear hK K))
  refine Og.fin fun W hW => ?_
  simp only [Og.opened_nil]
  clear hc hf k2
  have q1 := Lib.hid ((hW.block _ hz.out).trans hx.out)
  have b3 := Lib.hid (b2.out.trans (hW.mono (by have := hz.out; omega)))
  have hz2 := Lib.hid (Nat.lt_of_lt_of_le hz.out hW.size)
  obtain ⟨⟨k0, k1, k2, k3, k4, k5, k6⟩, f0, f1, f2, f3, f4, f5, f6⟩ := box7 (HM1.out.below hW)
  have lt2 : b < W.heap.size := by have := hz2.out; omega
  clear hW f0 f1 f2 f3 f4 f5 f6 k0 k1 k3 k4 k5 k6
  go_wp2
  refine Og.grow 17 (by kernel_rfl) (by kernel_rfl) fun hc hf => ?_
  simp only [List.take_succ_cons, List.take_zero, List.drop_succ_cons, List.drop_zero]
  repeat (refine Og.det [] rfl (fun K hK => ?_); go_simp; refine hK _ _ ?_; clear hK K)
  refine Og.fin fun W' hW' => ?_
  simp only [Og.opened_nil]
  clear hc hf k2
  have q2 := (hW'.block _ hz2.out).trans q1.out
  have b4 := b3.out.trans (hW'.mono (by have := hz2.out; omega))
  obtain ⟨⟨k0, k1, k2, k3⟩, f0, f1, f2, f3⟩ := box4 q2
  clear hW' q2
  go_wp2
  exact bodyPost_ret (v := .agg #[.int .i64 _, .int .i64 _, .int .i64 _, .int .i64 _]) (by simp [results, Try.results18, go_sem, k0, k1, k2, k3]) rfl ⟨rfl, set4 b4 _ (Nat.le_refl _) _ _ _ _⟩
end Go.Proofs.Ytloogafnkkbigaa
