/- ZnCore, ZnCore2, ZnList, ZnUtil, ZnRef, in one text. -/
import Derived.Test.YtfmbldjaknjgbaaKPu
import Derived.Test.YtfmbldjaknjgbaaKRc
import Derived.Test.YtfmbldjaknjgbaaKBase
import Derived.LoopTactic
import Derived.OwnWalk
import Derived.WalkKit
namespace Go.Proofs.Ytfmbldjaknjgbaa
open Go.RowKit
open Zn (Ok There)

theorem box7 {W : World} {b T : Nat} {v0 v1 v2 v3 v4 v5 v6 : Value} (h : W.heap[b]? = some (.cells #[v0, v1, v2, v3, v4, v5, v6] T (0, 0))) :
    (W.cell? ⟨b, 0, none⟩ = some v0 ∧ W.cell? ⟨b, 1, none⟩ = some v1 ∧ W.cell? ⟨b, 2, none⟩ = some v2 ∧ W.cell? ⟨b, 3, none⟩ = some v3 ∧ W.cell? ⟨b, 4, none⟩ = some v4 ∧ W.cell? ⟨b, 5, none⟩ = some v5 ∧ W.cell? ⟨b, 6, none⟩ = some v6) ∧
    (W.frozen? ⟨b, 0, none⟩ = false ∧ W.frozen? ⟨b, 1, none⟩ = false ∧ W.frozen? ⟨b, 2, none⟩ = false ∧ W.frozen? ⟨b, 3, none⟩ = false ∧ W.frozen? ⟨b, 4, none⟩ = false ∧ W.frozen? ⟨b, 5, none⟩ = false ∧ W.frozen? ⟨b, 6, none⟩ = false) := by
  simp [World.cell?, World.frozen?, h]

/-- at a block lies a map of this config -/
def MapAt (W : World) (b : Nat) (C R S D V N Q : Int) : Prop := W.heap[b]? = some (.cells #[.int .i64 C, .int .i64 R, .int .i64 S, .int .i64 D, .int .i64 V, .int .i64 N, .int .i64 Q] 73 (0, 0))
theorem MapAt.lt {W : World} {b : Nat} {C R S D V N Q : Int} (h : MapAt W b C R S D V N Q) : b < W.heap.size := (Array.getElem?_eq_some_iff.1 h).1
theorem MapAt.below {W W' : World} {b : Nat} {C R S D V N Q : Int} (h : MapAt W b C R S D V N Q) (hb : Below W.heap.size W W') : MapAt W' b C R S D V N Q := (hb.block b h.lt).trans h
theorem MapAt.at {W W' : World} {B b : Nat} {C R S D V N Q : Int} (h : MapAt W b C R S D V N Q) (hb : Below B W W') (hl : b < B) : MapAt W' b C R S D V N Q := (hb.block b hl).trans h

theorem zlat_below {w : World} (p : Lat grows w) : Below w.heap.size w p.W := p.h
set_option maxHeartbeats 400000 in
theorem zwithin_any (n lo hi : Int) (w : World) :
    Calls Try.prog 72 #[.int .i64 n, .int .i64 lo, .int .i64 hi] w fun e w' => e = .returned (.bool (decide (lo ≤ n ∧ n ≤ hi))) ∧ w = w' := by
  go_enter Try.func72, Try.ntmps72
  go_wp2
  all_goals
    go_ret
    refine ⟨ret_bool ?_, rfl⟩
    simp
  all_goals omega
theorem okB_is (C R S D V N Q : Int) : Zn.okB C R S D V N Q = true ↔ ((1 ≤ C ∧ C ≤ 4) ∧ (1 ≤ R ∧ R ≤ 4) ∧ (256 ≤ S ∧ S ≤ 1048576) ∧ (0 ≤ D ∧ D ≤ S) ∧ (0 ≤ V ∧ V ≤ S) ∧ (1 ≤ N ∧ N ≤ 16) ∧ (1 ≤ Q ∧ Q ≤ 64)) := by unfold Zn.okB; rw [decide_eq_true_eq]
set_option maxHeartbeats 2000000 in
theorem zcheck_r (C R S D V N Q r : Int) (w : World) (hr : Hid ((Zn.okB C R S D V N Q = true ∧ r = 0) ∨ (Zn.okB C R S D V N Q = false ∧ r = 1))) :
    Calls Try.prog 45 #[.agg #[.int .i64 C, .int .i64 R, .int .i64 S, .int .i64 D, .int .i64 V, .int .i64 N, .int .i64 Q]] w fun e w' => e = .returned (.int .i64 r) ∧ Below w.heap.size w w' := by
  go_enter Try.func45, Try.ntmps45
  go_wp2_with (go_at_call 72; refine (zwithin_any _ _ _ _).mono ?_; rintro e w' ⟨rfl, rfl⟩)
  all_goals
    go_ret
    refine ⟨ret_int ?_, bel1 _ _⟩
    rcases hr.out with ⟨h, hr'⟩ | ⟨h, hr'⟩
    · have h2 := (okB_is _ _ _ _ _ _ _).1 h
      omega
    · have h2 := mt (okB_is _ _ _ _ _ _ _).2 (by rw [h]; decide)
      omega
theorem zcheck_any (C R S D V N Q : Int) (w : World) :
    Calls Try.prog 45 #[.agg #[.int .i64 C, .int .i64 R, .int .i64 S, .int .i64 D, .int .i64 V, .int .i64 N, .int .i64 Q]] w fun e w' => e = .returned (.int .i64 (if Zn.okB C R S D V N Q then 0 else 1)) ∧ Below w.heap.size w w' :=
  zcheck_r _ _ _ _ _ _ _ _ w (Lib.hid (by cases h : Zn.okB C R S D V N Q <;> simp))

set_option maxHeartbeats 1000000 in
theorem count_any (b : Nat) (C R S D V N Q : Int) (w : World) (h : MapAt w b C R S D V N Q) (ok : Ok C R S D V) :
    Calls Try.prog 55 #[.pointer (some ⟨b, 0, none⟩)] w fun e w' => e = .returned (.int .i64 (C * R)) ∧ Below w.heap.size w w' := by
  obtain ⟨⟨k0, k1, k2, k3, k4, k5, k6⟩, f0, f1, f2, f3, f4, f5, f6⟩ := box7 h
  have lt := h.lt
  have m := Zn.mul_bd ok
  have s0 : IntKind.i64.wrap (C * R) = C * R := IntWalk.i64_in _ ⟨by omega, by omega⟩
  clear h ok f0 f1 f2 f3 f4 f5 f6 k2 k3 k4 k5 k6
  go_enter Try.func55, Try.ntmps55
  go_wp2
  refine Og.grow 12 (by kernel_rfl) (by kernel_rfl) fun hc hf => ?_
  simp only [List.take_succ_cons, List.take_zero, List.drop_succ_cons, List.drop_zero]
  repeat (refine Og.det [] rfl (fun K hK => ?_); go_simp; refine hK _ _ ?_; clear hK K)
  refine Og.fin fun W hW => ?_
  simp only [Og.opened_nil]
  clear hc hf
  go_wp2
  go_ret
  exact ⟨rfl, hW⟩
set_option maxHeartbeats 400000 in
theorem count_nil (w : World) :
    Calls Try.prog 55 #[.pointer none] w fun e w' => e = .returned (.int .i64 0) ∧ w = w' := by
  go_enter Try.func55, Try.ntmps55
  go_wp2
  go_ret
  exact ⟨rfl, rfl⟩
theorem there_two (C R k : Int) : decide (There C R k) = (decide (0 ≤ k) && decide (k < C * R)) := by rw [Bool.eq_iff_iff, Bool.and_eq_true, decide_eq_true_eq, decide_eq_true_eq, decide_eq_true_eq]; exact Iff.rfl
set_option maxHeartbeats 1000000 in
theorem there_any (b : Nat) (C R S D V N Q k : Int) (w : World) (h : MapAt w b C R S D V N Q) (ok : Ok C R S D V) :
    Calls Try.prog 54 #[.pointer (some ⟨b, 0, none⟩), .int .i64 k] w fun e w' => e = .returned (.bool (decide (There C R k))) ∧ Below w.heap.size w w' := by
  have X := Lib.hid (count_any b C R S D V N Q w h ok)
  clear h ok
  rw [there_two]
  generalize C * R = n at *
  go_enter Try.func54, Try.ntmps54
  go_wp2_with (go_at_call 55; refine X.out.mono ?_; rintro e w1 ⟨rfl, b1⟩)
  all_goals
    go_ret
    first | exact ⟨ret_bool (by simp [*]), by assumption⟩ | exact ⟨ret_bool (by simp; omega), Below.refl _ _⟩
set_option maxHeartbeats 400000 in
theorem there_nil (k : Int) (w : World) :
    Calls Try.prog 54 #[.pointer none, .int .i64 k] w fun e w' => e = .returned (.bool false) ∧ w = w' := by
  go_enter Try.func54, Try.ntmps54
  go_wp2_with (go_at_call 55; refine (count_nil _).mono ?_; rintro e w' ⟨rfl, rfl⟩)
  all_goals
    go_ret
    first | exact ⟨rfl, rfl⟩ | exact ⟨ret_bool (by simp; omega), rfl⟩
set_option maxHeartbeats 1000000 in
theorem column_any (b : Nat) (C R S D V N Q k : Int) (w : World) (h : MapAt w b C R S D V N Q) (ok : Ok C R S D V) (hk : There C R k) :
    Calls Try.prog 57 #[.pointer (some ⟨b, 0, none⟩), .int .i64 k] w fun e w' => e = .returned (.int .i64 (k % C)) ∧ w = w' := by
  obtain ⟨⟨k0, k1, k2, k3, k4, k5, k6⟩, f0, f1, f2, f3, f4, f5, f6⟩ := box7 h
  have lt := h.lt
  have m := Zn.mul_bd ok
  have cb := Zn.col_bd (k := k) ok
  have c0 := ok.c0
  have c1 := ok.c1
  have hn : C ≠ 0 := by omega
  have s0 : k.tmod C = k % C := Int.tmod_eq_emod_of_nonneg hk.1
  clear h ok f0 f1 f2 f3 f4 f5 f6 k1 k2 k3 k4 k5 k6
  go_enter Try.func57, Try.ntmps57
  go_wp2
  go_ret
  exact ⟨rfl, rfl⟩
set_option maxHeartbeats 1000000 in
theorem row_any (b : Nat) (C R S D V N Q k : Int) (w : World) (h : MapAt w b C R S D V N Q) (ok : Ok C R S D V) (hk : There C R k) :
    Calls Try.prog 58 #[.pointer (some ⟨b, 0, none⟩), .int .i64 k] w fun e w' => e = .returned (.int .i64 (k / C)) ∧ w = w' := by
  obtain ⟨⟨k0, k1, k2, k3, k4, k5, k6⟩, f0, f1, f2, f3, f4, f5, f6⟩ := box7 h
  have lt := h.lt
  have rb := Zn.row_bd ok hk
  have r1 := ok.r1
  have c0 := ok.c0
  have hn : C ≠ 0 := by omega
  have s0 : IntKind.i64.wrap (k.tdiv C) = k / C := by rw [Int.tdiv_eq_ediv_of_nonneg hk.1]; exact IntWalk.i64_in _ ⟨by omega, by omega⟩
  clear h ok f0 f1 f2 f3 f4 f5 f6 k1 k2 k3 k4 k5 k6
  go_enter Try.func58, Try.ntmps58
  go_wp2
  go_ret
  exact ⟨rfl, rfl⟩
set_option maxHeartbeats 1000000 in
theorem world_nil (w : World) :
    Calls Try.prog 53 #[.pointer none] w fun e w' => e = .returned (.agg #[.int .i64 0, .int .i64 0, .int .i64 0, .int .i64 0]) ∧ Below w.heap.size w w' := by
  go_enter Try.func53, Try.ntmps53
  go_wp2
  exact bodyPost_ret (v := .agg #[.int .i64 0, .int .i64 0, .int .i64 0, .int .i64 0]) (by simp [results, Try.results53, go_sem]) rfl ⟨rfl, bel1 w _⟩
set_option maxHeartbeats 2000000 in
set_option maxRecDepth 100000 in
theorem world_any (b : Nat) (C R S D V N Q : Int) (w : World) (h : MapAt w b C R S D V N Q) (ok : Ok C R S D V) :
    Calls Try.prog 53 #[.pointer (some ⟨b, 0, none⟩)] w fun e w' => e = .returned (.agg #[.int .i64 0, .int .i64 0, .int .i64 (C * S), .int .i64 (R * S)]) ∧ Below w.heap.size w w' := by
  obtain ⟨⟨k0, k1, k2, k3, k4, k5, k6⟩, f0, f1, f2, f3, f4, f5, f6⟩ := box7 h
  have lt := h.lt
  have m1 := Zn.side_bd (q := C) ok.s0 ok.s1 (by have := ok.c0; omega) ok.c1
  have m2 := Zn.side_bd (q := R) ok.s0 ok.s1 (by have := ok.r0; omega) ok.r1
  have s0 : IntKind.i64.wrap (C * S) = C * S := IntWalk.i64_in _ ⟨by omega, by omega⟩
  have s1 : IntKind.i64.wrap (R * S) = R * S := IntWalk.i64_in _ ⟨by omega, by omega⟩
  clear h ok f0 f1 f2 f3 f4 f5 f6 k3 k4 k5 k6 m1 m2
  go_enter Try.func53, Try.ntmps53
  go_wp2
  have hx := Lib.hid (at1 w (.cells #[.int .i64 0, .int .i64 0, .int .i64 0, .int .i64 0] 82))
  have hz := Lib.hid (show w.heap.size < (w.alloc (.cells #[.int .i64 0, .int .i64 0, .int .i64 0, .int .i64 0] 82)).heap.size by rw [size1]; omega)
  refine Og.grow 23 (by kernel_rfl) (by kernel_rfl) fun hc hf => ?_
  simp only [List.take_succ_cons, List.take_zero, List.drop_succ_cons, List.drop_zero]
  repeat (refine Og.det [] rfl (fun K hK => ?_); go_simp; refine hK _ _ ?_; clear hK K)
  refine Og.fin fun W hW => ?_
  simp only [Og.opened_nil]
  clear hc hf k0 k1 k2
  have q1 := (hW.block _ hz.out).trans hx.out
  obtain ⟨⟨k0, k1, k2, k3⟩, f0, f1, f2, f3⟩ := box4 q1
  have b1 := (bel1 w _).trans (hW.mono (by rw [size1]; omega))
  clear hW q1
  go_wp2
  exact bodyPost_ret (v := .agg #[.int .i64 0, .int .i64 0, .int .i64 (C * S), .int .i64 (R * S)]) (by simp [results, Try.results53, go_sem, k0, k1, k2, k3]) rfl ⟨rfl, set4 b1 _ (Nat.le_refl _) _ _ _ _⟩
end Go.Proofs.Ytfmbldjaknjgbaa
namespace Go.Proofs.Ytfmbldjaknjgbaa
open Go.RowKit
open Zn (Ok There)
attribute [local go_sem high] run_max_ints3

set_option maxHeartbeats 1000000 in
theorem new_no (C R S D V N Q : Int) (w : World) (h : Zn.okB C R S D V N Q = false) :
    Calls Try.prog 24 #[.agg #[.int .i64 C, .int .i64 R, .int .i64 S, .int .i64 D, .int .i64 V, .int .i64 N, .int .i64 Q]] w fun e w' => e = .returned (.tuple #[.pointer none, .int .i64 1]) ∧ Below w.heap.size w w' := by
  have X := Lib.hid (fun W => zcheck_r C R S D V N Q 1 W (Lib.hid (.inr ⟨h, rfl⟩)))
  clear h
  go_enter Try.func24, Try.ntmps24
  go_wp2_with fail
  refine (X.out _).mono ?_
  rintro e w1 ⟨rfl, b1⟩
  go_wp2
  go_ret2
  exact ⟨rfl, (bel1 w _).trans (b1.mono (by rw [size1]; omega))⟩
set_option maxHeartbeats 1000000 in
theorem new_yes (C R S D V N Q : Int) (w : World) (h : Zn.okB C R S D V N Q = true) :
    Calls Try.prog 24 #[.agg #[.int .i64 C, .int .i64 R, .int .i64 S, .int .i64 D, .int .i64 V, .int .i64 N, .int .i64 Q]] w fun e w' => ∃ b, e = .returned (.tuple #[.pointer (some ⟨b, 0, none⟩), .int .i64 0]) ∧ w.heap.size ≤ b ∧ MapAt w' b C R S D V N Q ∧ Below w.heap.size w w' := by
  have X := Lib.hid (fun W => zcheck_r C R S D V N Q 0 W (Lib.hid (.inl ⟨h, rfl⟩)))
  clear h
  go_enter Try.func24, Try.ntmps24
  go_wp2_with fail
  refine (X.out _).mono ?_
  rintro e w1 ⟨rfl, b1⟩
  have hx := (b1.block w.heap.size (by rw [size1]; omega)).trans (at1 w _)
  have b2 := Lib.hid ((bel1 w _).trans (b1.mono (by rw [size1]; omega)))
  obtain ⟨⟨k0, k1, k2, k3, k4, k5, k6⟩, f0, f1, f2, f3, f4, f5, f6⟩ := box7 hx
  clear hx b1 X
  go_wp2
  go_ret2
  exact ⟨w1.heap.size, rfl, b2.out.size, at1 w1 _, b2.out.trans ((bel1 w1 _).mono b2.out.size)⟩

set_option maxHeartbeats 400000 in
theorem brought_any (n e : Int) (w : World) (_ : I n) (h0 : 0 ≤ e) (h1 : e ≤ 4194304) :
    Calls Try.prog 74 #[.int .i64 n, .int .i64 e] w fun x w' => x = .returned (.int .i64 (Zn.into n e)) ∧ w = w' := by
  go_enter Try.func74, Try.ntmps74
  go_wp2
  go_ret
  refine ⟨ret_int ?_, rfl⟩
  unfold Zn.into
  omega
set_option maxHeartbeats 2000000 in
/-- In, by what World tells -/
theorem in_of (b : Option Addr) (p q x y : Int) (w : World) (hx : I x) (hy : I y) (hp : 0 ≤ p ∧ p ≤ 4194304) (hq : 0 ≤ q ∧ q ≤ 4194304)
    (h : Hid (Calls Try.prog 53 #[.pointer b] w fun e w' => e = .returned (.agg #[.int .i64 0, .int .i64 0, .int .i64 p, .int .i64 q]) ∧ Below w.heap.size w w')) :
    Calls Try.prog 48 #[.pointer b, .int .i64 x, .int .i64 y] w fun e w' => e = .returned (.tuple #[.int .i64 (Zn.into x p), .int .i64 (Zn.into y q)]) ∧ Below w.heap.size w w' := by
  have X := Lib.hid (fun W => brought_any x p W hx hp.1 hp.2)
  have Y := Lib.hid (fun W => brought_any y q W hy hq.1 hq.2)
  generalize Zn.into x p = u at *
  generalize Zn.into y q = v at *
  clear hx hy hp hq
  go_enter Try.func48, Try.ntmps48
  go_wp2_with fail
  refine h.out.mono ?_
  rintro e w1 ⟨rfl, b1⟩
  go_wp2_with fail
  refine Og.grow 10 (by kernel_rfl) (by kernel_rfl) fun hc hf => ?_
  simp only [List.take_succ_cons, List.take_zero, List.drop_succ_cons, List.drop_zero]
  repeat (refine Og.det [] rfl (fun K hK => ?_); go_simp; first | (refine hK _ _ ?_; clear hK K) | (with_reducible refine ⟨_, fun p => Og.same (X.out _), hK _ _ ?_⟩; clear hK K) | (with_reducible refine ⟨_, fun p => Og.same (Y.out _), hK _ _ ?_⟩; clear hK K))
  refine Og.fin fun W hW => ?_
  simp only [Og.opened_nil]
  clear hc hf
  go_wp2
  go_ret2
  exact ⟨rfl, (b1.trans ((bel1 w1 _).mono b1.size)).trans (hW.mono (by rw [size1]; have := b1.size; omega))⟩
/-- Of, by what World and Has tell -/
theorem of_no (b : Option Addr) (p q x y : Int) (w : World) (hx : I x) (hy : I y) (hp : 0 ≤ p ∧ p ≤ 4194304) (hq : 0 ≤ q ∧ q ≤ 4194304)
    (h : Hid (Calls Try.prog 53 #[.pointer b] w fun e w' => e = .returned (.agg #[.int .i64 0, .int .i64 0, .int .i64 p, .int .i64 q]) ∧ Below w.heap.size w w'))
    (hn : hasB 0 0 p q x y = false) :
    Calls Try.prog 29 #[.pointer b, .int .i64 x, .int .i64 y] w fun e w' => e = .returned (.int .i64 (-1)) ∧ Below w.heap.size w w' := by
  have X := Lib.hid (fun W => rchas_any 0 0 p q x y W (by decide) (by decide) (by unfold I; omega) (by unfold I; omega) hx hy)
  rw [hn] at X
  clear hx hy hp hq hn
  go_enter Try.func29, Try.ntmps29
  go_wp2_with fail
  refine h.out.mono ?_
  rintro e w1 ⟨rfl, b1⟩
  go_wp2_with fail
  refine (X.out _).mono ?_
  rintro e w2 ⟨rfl, b2⟩
  go_wp2
  go_ret
  exact ⟨rfl, b1.trans (b2.mono b1.size)⟩
theorem has_same (a b c d x y : Int) : hasB a b c d x y = Rc.hasR a b c d x y := by
  unfold hasB Rc.hasR
  rw [decide_eq_decide]
  exact Rc.gap_has a b c d x y
theorem of_nil (x y : Int) (w : World) (hx : I x) (hy : I y) :
    Calls Try.prog 29 #[.pointer none, .int .i64 x, .int .i64 y] w fun e w' => e = .returned (.int .i64 (-1)) ∧ Below w.heap.size w w' :=
  of_no none 0 0 x y w hx hy (by decide) (by decide) (Lib.hid (world_nil w)) (by rw [has_same]; unfold Rc.hasR; rw [Rc.clamp_zero]; exact decide_eq_false (by omega))
theorem has_world {C R S D V : Int} (ok : Ok C R S D V) (x y : Int) : hasB 0 0 (C * S) (R * S) x y = decide (0 ≤ x ∧ x < C * S ∧ 0 ≤ y ∧ y < R * S) := by
  have m1 := Zn.side_bd (q := C) ok.s0 ok.s1 (by have := ok.c0; omega) ok.c1
  have m2 := Zn.side_bd (q := R) ok.s0 ok.s1 (by have := ok.r0; omega) ok.r1
  rw [has_same]
  unfold Rc.hasR
  rw [decide_eq_decide, Rc.clamp_zero, Rc.clamp_in (n := C * S) (by omega) (by omega), Rc.clamp_in (n := R * S) (by omega) (by omega)]
  rw [Zn.le_clamp (by omega) (by omega), Zn.le_clamp (by omega) (by omega), Zn.clamp_lt (by have := ok.s0; have := ok.c0; omega) (by omega), Zn.clamp_lt (by have := ok.s0; have := ok.c0; omega) (by omega)]
set_option maxHeartbeats 2000000 in
set_option maxRecDepth 100000 in
theorem of_some (b : Nat) (C R S D V N Q x y : Int) (w : World) (h : MapAt w b C R S D V N Q) (ok : Ok C R S D V) (hx : I x) (hy : I y) (hin : 0 ≤ x ∧ x < C * S ∧ 0 ≤ y ∧ y < R * S) :
    Calls Try.prog 29 #[.pointer (some ⟨b, 0, none⟩), .int .i64 x, .int .i64 y] w fun e w' => e = .returned (.int .i64 (y / S * C + x / S)) ∧ Below w.heap.size w w' := by
  have m1 := Zn.side_bd (q := C) ok.s0 ok.s1 (by have := ok.c0; omega) ok.c1
  have m2 := Zn.side_bd (q := R) ok.s0 ok.s1 (by have := ok.r0; omega) ok.r1
  have X := Lib.hid (fun W => rchas_any 0 0 (C * S) (R * S) x y W (by decide) (by decide) (by unfold I; omega) (by unfold I; omega) hx hy)
  rw [has_world ok, decide_eq_true hin] at X
  have Wd := Lib.hid (world_any b C R S D V N Q w h ok)
  have hk := Zn.of_in ok hin.1 hin.2.1 hin.2.2.1 hin.2.2.2
  have hb := Zn.mul_bd ok
  have e0 : Zn.of C R S x y = y / S * C + x / S := if_pos hin
  rw [e0] at hk
  have hyd : 0 ≤ y / S ∧ y / S < R := ⟨(Zn.div_ge ok.s0).2 (by omega), (Zn.div_lt ok.s0).2 (by omega)⟩
  have hyc : 0 ≤ y / S * C ∧ y / S * C ≤ 16 := by
    have : 0 ≤ x / S := (Zn.div_ge ok.s0).2 (by omega)
    exact ⟨Int.mul_nonneg hyd.1 (by have := ok.c0; omega), by have := hk.2; omega⟩
  obtain ⟨hk0, hk1⟩ := hk
  have s0 : y.tdiv S = y / S := Int.tdiv_eq_ediv_of_nonneg (by omega)
  have s1 : x.tdiv S = x / S := Int.tdiv_eq_ediv_of_nonneg (by omega)
  have s2 : IntKind.i64.wrap (y / S * C) = y / S * C := IntWalk.i64_in _ ⟨by omega, by omega⟩
  have s3 : IntKind.i64.wrap (y / S * C + x / S) = y / S * C + x / S := IntWalk.i64_in _ ⟨by omega, by omega⟩
  have s4 : IntKind.i64.wrap (y / S) = y / S := IntWalk.i64_in _ ⟨by have := ok.r1; omega, by have := ok.r1; omega⟩
  have s5 : IntKind.i64.wrap (x / S) = x / S := IntWalk.i64_in _ ⟨by omega, by omega⟩
  have hn : S ≠ 0 := by have := ok.s0; omega
  have HM := Lib.hid h
  clear h ok hin m1 m2 hb hyd hyc e0 hk0 hk1
  go_enter Try.func29, Try.ntmps29
  go_wp2_with fail
  refine Wd.out.mono ?_
  rintro e w1 ⟨rfl, b1⟩
  go_wp2_with fail
  refine (X.out _).mono ?_
  rintro e w2 ⟨rfl, b2⟩
  have b3 := Lib.hid (b1.trans (b2.mono b1.size))
  have hm := HM.out.below b3.out
  have lt := hm.lt
  obtain ⟨⟨k0, k1, k2, k3, k4, k5, k6⟩, f0, f1, f2, f3, f4, f5, f6⟩ := box7 hm
  clear b1 b2 hm f0 f1 f2 f3 f4 f5 f6 k1 k3 k4 k5 k6 X Wd HM
  go_wp2
  refine Og.grow 22 (by kernel_rfl) (by kernel_rfl) fun hc hf => ?_
  simp only [List.take_succ_cons, List.take_zero, List.drop_succ_cons, List.drop_zero]
  repeat (refine Og.det [] rfl (fun K hK => ?_); go_simp; refine hK _ _ ?_; clear hK K)
  refine Og.fin fun W hW => ?_
  simp only [Og.opened_nil]
  clear hc hf k0 k2
  go_wp2
  go_ret
  exact ⟨rfl, b3.out.trans (hW.mono b3.out.size)⟩
theorem of_any (b : Nat) (C R S D V N Q x y : Int) (w : World) (h : MapAt w b C R S D V N Q) (ok : Ok C R S D V) (hx : I x) (hy : I y) :
    Calls Try.prog 29 #[.pointer (some ⟨b, 0, none⟩), .int .i64 x, .int .i64 y] w fun e w' => e = .returned (.int .i64 (Zn.of C R S x y)) ∧ Below w.heap.size w w' := by
  unfold Zn.of
  by_cases hin : 0 ≤ x ∧ x < C * S ∧ 0 ≤ y ∧ y < R * S
  · rw [if_pos hin]; exact of_some b C R S D V N Q x y w h ok hx hy hin
  · rw [if_neg hin]
    have m1 := Zn.side_bd (q := C) ok.s0 ok.s1 (by have := ok.c0; omega) ok.c1
    have m2 := Zn.side_bd (q := R) ok.s0 ok.s1 (by have := ok.r0; omega) ok.r1
    exact of_no _ (C * S) (R * S) x y w hx hy m1 m2 (Lib.hid (world_any b C R S D V N Q w h ok)) ((has_world ok x y).trans (decide_eq_false hin))
theorem zin_any (b : Nat) (C R S D V N Q x y : Int) (w : World) (h : MapAt w b C R S D V N Q) (ok : Ok C R S D V) (hx : I x) (hy : I y) :
    Calls Try.prog 48 #[.pointer (some ⟨b, 0, none⟩), .int .i64 x, .int .i64 y] w fun e w' => e = .returned (.tuple #[.int .i64 (Zn.into x (C * S)), .int .i64 (Zn.into y (R * S))]) ∧ Below w.heap.size w w' :=
  in_of _ _ _ x y w hx hy (Zn.side_bd (q := C) ok.s0 ok.s1 (by have := ok.c0; omega) ok.c1) (Zn.side_bd (q := R) ok.s0 ok.s1 (by have := ok.r0; omega) ok.r1) (Lib.hid (world_any b C R S D V N Q w h ok))
theorem in_nil (x y : Int) (w : World) (hx : I x) (hy : I y) :
    Calls Try.prog 48 #[.pointer none, .int .i64 x, .int .i64 y] w fun e w' => e = .returned (.tuple #[.int .i64 0, .int .i64 0]) ∧ Below w.heap.size w w' := by
  have := in_of none 0 0 x y w hx hy (by decide) (by decide) (Lib.hid (world_nil w))
  rwa [show Zn.into x 0 = 0 by unfold Zn.into; omega, show Zn.into y 0 = 0 by unfold Zn.into; omega] at this
end Go.Proofs.Ytfmbldjaknjgbaa
namespace Go.Proofs.Ytfmbldjaknjgbaa
open Go.RowKit
open Zn (Ok There)

theorem int_info : (Try.prog.info? 3).map (fun i => (i.zero, i.size, i.bytes)) = some (some (.int .i64 0), 1, 8) := by kernel_rfl
theorem ints_und : Try.prog.underlying 57 = some (.slice 3) := by kernel_rfl
/-- a row of ints that the call itself made -/
abbrev Own (W : World) (B : Nat) (v : Value) (l : List Int) : Prop := W.ownsRow B 3 1 v l.length (l.map (Value.int .i64))
theorem own_nil (W : World) (B : Nat) : Own W B (.slice none 0 0) [] := World.ownsRow_nil _ _ _ _
theorem below_grown {W W' : World} (hb : Below W.heap.size W W') : W.grownBy W' none := ⟨hb.os, hb.tape, hb.output, hb.size, fun k hk _ => hb.block k hk⟩
theorem own_below {W W' : World} {B : Nat} {v : Value} {l : List Int} (h : Own W B v l) (hb : Below W.heap.size W W') : Own W' B v l :=
  World.ownsRow.kept h (below_grown hb) (by cases v.ownBlock <;> simp)
theorem own_base {W : World} {B B' : Nat} {v : Value} {l : List Int} (h : Own W B v l) (hb : B' ≤ B) : Own W B' v l := by
  refine ⟨h.1, ?_⟩
  rcases h.2 with hn | ⟨g, cap, cur, e, hg, rest⟩
  · exact .inl hn
  · exact .inr ⟨g, cap, cur, e, by omega, rest⟩
theorem push_step {B : Nat} {w wr w1 : World} {v v' : Value} {l : List Int} {x : Int} {o : Obj} (hown : Own wr B v l) (hnx : Below B w wr) (hB : B ≤ wr.heap.size)
    (hown' : w1.ownsRow B 3 1 v' (l.length + 1) (l.map (Value.int .i64) ++ [.int .i64 x])) (hgrow : (wr.alloc o).grownBy w1 v.ownBlock) : Own w1 B v' (l ++ [x]) ∧ Below B w w1 :=
  ⟨by show w1.ownsRow B 3 1 v' (l ++ [x]).length ((l ++ [x]).map (Value.int .i64)); simpa using hown', (hnx.alloc hB o).grown hgrow (by simp; omega) (fun j hj => (World.ownsRow.lt hown j hj).1)⟩
theorem own_len {W : World} {B : Nat} {v : Value} {l : List Int} (h : Own W B v l) : ∃ A cap, v = .slice A l.length cap := by
  rcases h.2 with ⟨hv, hn⟩ | ⟨g, cap, cur, hv, _⟩
  · exact ⟨none, 0, by rw [hv, hn]⟩
  · exact ⟨_, cap, hv⟩
/-- the row's slice and its cells -/
theorem zown_at {W : World} {B : Nat} {v : Value} {l : List Int} (h : Own W B v l) : ∃ A cap, v = .slice A l.length cap ∧ Reads W W.heap.size A (ints l) := by
  rcases h.2 with ⟨hv, hn⟩ | ⟨g, cap, cur, hv, _, hg, _⟩
  · refine ⟨none, 0, by rw [hv, hn], fun h0 => ?_⟩
    rw [show ints l = [] by unfold ints; rw [List.length_eq_zero_iff.1 hn]; rfl] at h0
    simp at h0
  · refine ⟨_, cap, hv, fun _ => ⟨g, 0, rfl, (Array.getElem?_eq_some_iff.1 hg).1, fun k x hk => ?_⟩⟩
    have := World.ownsRow.cells h (g := g) (by rw [hv]; rfl) k x hk
    rwa [show (⟨g, 0, none⟩ : Addr).add k = ⟨g, 0 + k, none⟩ by unfold Addr.add; split <;> simp_all] at this

theorem bes_hit {C k : Int} {m : Nat} (h : Zn.besP C k m = true) : Zn.bes C k (m + 1) = Zn.bes C k m ++ [(m : Int)] := by rw [Zn.bes_succ, if_pos h]
theorem bes_miss {C k : Int} {m : Nat} (h : Zn.besP C k m = false) : Zn.bes C k (m + 1) = Zn.bes C k m := by rw [Zn.bes_succ, h]; simp

set_option maxHeartbeats 1000000 in
theorem beside_no (b : Option Addr) (k : Int) (w : World) (h : Hid (Calls Try.prog 54 #[.pointer b, .int .i64 k] w fun e w' => e = .returned (.bool false) ∧ Below w.heap.size w w')) :
    Calls Try.prog 30 #[.pointer b, .int .i64 k] w fun e w' => e = .returned (.slice none 0 0) ∧ Below w.heap.size w w' := by
  go_enter Try.func30, Try.ntmps30
  go_wp2_with fail
  refine h.out.mono ?_
  rintro e w1 ⟨rfl, b1⟩
  go_wp2
  go_ret
  exact ⟨rfl, b1⟩
set_option maxHeartbeats 4000000 in
set_option maxRecDepth 100000 in
theorem beside_some (b : Nat) (C R S D V N Q k : Int) (w : World) (h : MapAt w b C R S D V N Q) (ok : Ok C R S D V) (hk : There C R k) :
    Calls Try.prog 30 #[.pointer (some ⟨b, 0, none⟩), .int .i64 k] w fun e w' => ∃ v, e = .returned v ∧ Own w' w.heap.size v (Zn.beside C R k) ∧ Below w.heap.size w w' := by
  have T := Lib.hid (there_any b C R S D V N Q k w h ok)
  rw [show decide (There C R k) = true from decide_eq_true hk] at T
  have CN := Lib.hid (fun W (hb : Below w.heap.size w W) => count_any b C R S D V N Q W (h.below hb) ok)
  have m := Zn.mul_bd ok
  obtain ⟨M, hM⟩ : ∃ M : Nat, C * R = (M : Int) := ⟨(C * R).toNat, by omega⟩
  have X := Lib.hid (fun W (hb : Below w.heap.size w W) n (hn : There C R n) => column_any b C R S D V N Q n W (h.below hb) ok hn)
  have Y := Lib.hid (fun W (hb : Below w.heap.size w W) n (hn : There C R n) => row_any b C R S D V N Q n W (h.below hb) ok hn)
  have F := Lib.hid (fun W n (hn : There C R n) => far_any (n % C) (n / C) (k % C) (k / C) W
    (by have := Zn.col_bd (k := n) ok; have := ok.c1; unfold I; omega) (by have := Zn.row_bd ok hn; have := ok.r1; unfold I; omega)
    (by have := Zn.col_bd (k := k) ok; have := ok.c1; unfold I; omega) (by have := Zn.row_bd ok hk; have := ok.r1; unfold I; omega))
  have HK := Lib.hid hk
  have TH := Lib.hid (fun (m : Nat) (hm : m < M) => show There C R (m : Int) from ⟨by omega, by omega⟩)
  have HB : Zn.beside C R k = Zn.bes C k M := by unfold Zn.beside; rw [if_pos hk, hM]; rfl
  rw [HB]
  rw [hM] at CN m
  clear h ok hk HB hM
  obtain ⟨i0, hi, hz0, hz1, hz2⟩ := info_parts int_info
  have HI := Lib.hid (And.intro hi (And.intro hz0 (And.intro hz1 hz2)))
  clear hi hz0 hz1 hz2
  go_enter Try.func30, Try.ntmps30
  go_wp2_with fail
  refine T.out.mono ?_
  rintro e w1 ⟨rfl, b1⟩
  clear T
  go_wp2_with fail
  refine (CN.out _ b1).mono ?_
  rintro e w2 ⟨rfl, b2⟩
  clear CN
  have b3 := b1.trans (b2.mono b1.size)
  clear b1 b2
  go_wp2
  go_loopw [5, 6, 13] (fun v _ i wr => ∃ m : Nat, m ≤ M ∧ i = .int .i64 m ∧ Own wr w.heap.size v (Zn.bes C k m) ∧ Below w.heap.size w wr) (fun _ _ i _ => M - (intOf i).toNat)
  case atStart => exact ⟨0, Nat.zero_le _, rfl, own_nil _ _, b3⟩
  case round =>
    obtain ⟨m, hm, rfl, hown, hbel⟩ := hrel
    clear b3
    by_cases hlt : m < M
    · have Xm := Lib.hid (X.out wr hbel m (TH.out m hlt))
      have Xk := Lib.hid (X.out wr hbel k HK.out)
      have Ym := Lib.hid (Y.out wr hbel m (TH.out m hlt))
      have Yk := Lib.hid (Y.out wr hbel k HK.out)
      have Fm := Lib.hid (F.out wr m (TH.out m hlt))
      have hp : Zn.besP C k m = (decide ((m : Int) ≠ k) && decide (Rc.far ((m : Int) % C) ((m : Int) / C) (k % C) (k / C) ≤ 1)) := rfl
      have HP := Lib.hid hp
      clear hp X Y F TH
      have HO := Lib.hid hown
      have HB := Lib.hid hbel
      have hlen := Zn.bes_len C k m
      have hsz := hbel.size
      clear hown hbel
      generalize (m : Int) % C = cm at *
      generalize (m : Int) / C = rm at *
      generalize k % C = ck at *
      generalize k / C = rk at *
      generalize Rc.far cm rm ck rk = f at *
      by_cases hmk : (m : Int) = k
      · have hb : Zn.besP C k m = false := by rw [HP.out]; simp [hmk]
        have R' := HO.out
        rw [← bes_miss hb] at R'
        have R := Lib.hid R'
        clear R' HP hb
        go_wp2
        go_roundw
        case rel => exact ⟨m + 1, by omega, by go_num, R.out, HB.out⟩
        case measure => simp [intOf]; omega
      · by_cases hf : f ≤ 1
        · have hb : Zn.besP C k m = true := by rw [HP.out]; simp [hmk, hf]
          have HBB := Lib.hid hb
          clear HP hb
          go_wp2_with (first
            | (go_at_call 57; (first | (with_reducible refine Xm.out.mono ?_) | (with_reducible refine Xk.out.mono ?_)); rintro e w' ⟨rfl, rfl⟩)
            | (go_at_call 58; (first | (with_reducible refine Ym.out.mono ?_) | (with_reducible refine Yk.out.mono ?_)); rintro e w' ⟨rfl, rfl⟩)
            | (go_at_call 56; (with_reducible refine Fm.out.mono ?_); rintro e w' ⟨rfl, rfl⟩)
            | (at_builtin; refine wpList_append_own _ rfl _ _ 57 rfl w.heap.size 3 i0 (.int .i64 0) 1 8 ints_und HI.out.1 HI.out.2.1 HI.out.2.2.1 HI.out.2.2.2 rfl (by decide) _ _ _ rfl (World.ownsRow.alloc HO.out _) ⟨wr.heap.size, 0, none⟩ 1 1 [.int .i64 (m : Int)] rfl rfl (by intro j u hj; match j, hj with | 0, hj => simp at hj; subst hj; simp [Addr.add]) (by intro u hu; simp at hu; subst hu; rfl) (by unfold maxLen; omega) (by omega) (by rw [size1]; omega) ?_; intro v' w1 hown' hgrow _))
          have R' := push_step HO.out HB.out hsz hown' hgrow
          rw [← bes_hit HBB.out] at R'
          have R := Lib.hid R'
          clear R' hown' hgrow HO HB
          go_wp2
          go_roundw
          case rel => exact ⟨m + 1, by omega, by go_num, R.out.1, R.out.2⟩
          case measure => simp [intOf]; omega
        · have hb : Zn.besP C k m = false := by rw [HP.out]; simp [hf]
          have R' := HO.out
          rw [← bes_miss hb] at R'
          have R := Lib.hid R'
          clear R' HP hb
          go_wp2_with (first
            | (go_at_call 57; (first | (with_reducible refine Xm.out.mono ?_) | (with_reducible refine Xk.out.mono ?_)); rintro e w' ⟨rfl, rfl⟩)
            | (go_at_call 58; (first | (with_reducible refine Ym.out.mono ?_) | (with_reducible refine Yk.out.mono ?_)); rintro e w' ⟨rfl, rfl⟩)
            | (go_at_call 56; (with_reducible refine Fm.out.mono ?_); rintro e w' ⟨rfl, rfl⟩))
          go_roundw
          case rel => exact ⟨m + 1, by omega, by go_num, R.out, HB.out⟩
          case measure => simp [intOf]; omega
    · obtain rfl : m = M := by omega
      go_wp2
      go_ret
      exact ⟨_, rfl, hown, hbel⟩

theorem beside_any (b : Nat) (C R S D V N Q k : Int) (w : World) (h : MapAt w b C R S D V N Q) (ok : Ok C R S D V) :
    Calls Try.prog 30 #[.pointer (some ⟨b, 0, none⟩), .int .i64 k] w fun e w' => ∃ v, e = .returned v ∧ Own w' w.heap.size v (Zn.beside C R k) ∧ Below w.heap.size w w' := by
  by_cases hk : There C R k
  · exact beside_some b C R S D V N Q k w h ok hk
  · have := there_any b C R S D V N Q k w h ok
    rw [decide_eq_false hk] at this
    refine (beside_no _ k w (Lib.hid this)).mono fun e w' hh => ⟨_, hh.1, ?_, hh.2⟩
    unfold Zn.beside
    rw [if_neg hk]
    exact own_nil _ _
theorem beside_nil (k : Int) (w : World) :
    Calls Try.prog 30 #[.pointer none, .int .i64 k] w fun e w' => e = .returned (.slice none 0 0) ∧ Below w.heap.size w w' :=
  beside_no _ k w (Lib.hid ((there_nil k w).mono fun _ _ h => ⟨h.1, h.2 ▸ Below.refl _ _⟩))
end Go.Proofs.Ytfmbldjaknjgbaa
namespace Go.Proofs.Ytfmbldjaknjgbaa
open Go.RowKit
open Zn (Ok There)

theorem set7_same {W : World} {b T : Nat} {u0 u1 u2 u3 u4 u5 u6 : Value} (h : W.heap[b]? = some (.cells #[u0, u1, u2, u3, u4, u5, u6] T (0, 0))) (v0 v1 v2 v3 v4 v5 v6 : Value) :
    (((((((W.setCell ⟨b, 0, none⟩ v0).setCell ⟨b, 1, none⟩ v1).setCell ⟨b, 2, none⟩ v2).setCell ⟨b, 3, none⟩ v3).setCell ⟨b, 4, none⟩ v4).setCell ⟨b, 5, none⟩ v5).setCell ⟨b, 6, none⟩ v6).heap[b]? = some (.cells #[v0, v1, v2, v3, v4, v5, v6] T (0, 0)) := by
  have h1 := heap_setCell_same W b 0 _ T v0 h
  have h2 := heap_setCell_same _ b 1 _ T v1 h1
  have h3 := heap_setCell_same _ b 2 _ T v2 h2
  have h4 := heap_setCell_same _ b 3 _ T v3 h3
  have h5 := heap_setCell_same _ b 4 _ T v4 h4
  have h6 := heap_setCell_same _ b 5 _ T v5 h5
  have h7 := heap_setCell_same _ b 6 _ T v6 h6
  rw [h7]
  rfl
theorem set7_other {W : World} {b b' : Nat} (h : b' ≠ b) (v0 v1 v2 v3 v4 v5 v6 : Value) :
    (((((((W.setCell ⟨b, 0, none⟩ v0).setCell ⟨b, 1, none⟩ v1).setCell ⟨b, 2, none⟩ v2).setCell ⟨b, 3, none⟩ v3).setCell ⟨b, 4, none⟩ v4).setCell ⟨b, 5, none⟩ v5).setCell ⟨b, 6, none⟩ v6).heap[b']? = W.heap[b']? := by
  rw [Below.heap_setCell _ _ _ _ h, Below.heap_setCell _ _ _ _ h, Below.heap_setCell _ _ _ _ h, Below.heap_setCell _ _ _ _ h, Below.heap_setCell _ _ _ _ h, Below.heap_setCell _ _ _ _ h, Below.heap_setCell _ _ _ _ h]
theorem set7_size {W : World} {b : Nat} (v0 v1 v2 v3 v4 v5 v6 : Value) :
    (((((((W.setCell ⟨b, 0, none⟩ v0).setCell ⟨b, 1, none⟩ v1).setCell ⟨b, 2, none⟩ v2).setCell ⟨b, 3, none⟩ v3).setCell ⟨b, 4, none⟩ v4).setCell ⟨b, 5, none⟩ v5).setCell ⟨b, 6, none⟩ v6).heap.size = W.heap.size := by simp
theorem set7 {B : Nat} {w W : World} (h : Below B w W) (b : Nat) (hb : B ≤ b) (v0 v1 v2 v3 v4 v5 v6 : Value) :
    Below B w (((((((W.setCell ⟨b, 0, none⟩ v0).setCell ⟨b, 1, none⟩ v1).setCell ⟨b, 2, none⟩ v2).setCell ⟨b, 3, none⟩ v3).setCell ⟨b, 4, none⟩ v4).setCell ⟨b, 5, none⟩ v5).setCell ⟨b, 6, none⟩ v6) :=
  ((((((h.setCell hb v0).setCell hb v1).setCell hb v2).setCell hb v3).setCell hb v4).setCell hb v5).setCell hb v6

/-- a config's cells -/
abbrev C7 (a b c d e f g : Int) : Option Obj := some (.cells #[.int .i64 a, .int .i64 b, .int .i64 c, .int .i64 d, .int .i64 e, .int .i64 f, .int .i64 g] 44 (0, 0))
/- a number brought below another one -/
theorem mod_lo (k : Int) {n : Int} (hn : 0 < n) : 0 ≤ k.tmod n + n ∧ k.tmod n + n < 2 * n := by
  have h1 := Int.emod_nonneg k (show n ≠ 0 by omega)
  have h2 := Int.emod_lt_of_pos k hn
  rcases Int.le_total 0 k with h | h
  · rw [Int.tmod_eq_emod_of_nonneg h]; omega
  · have h3 := Int.emod_nonneg (-k) (show n ≠ 0 by omega)
    have h4 := Int.emod_lt_of_pos (-k) hn
    have : k.tmod n = -((-k) % n) := by rw [← Int.tmod_eq_emod_of_nonneg (show 0 ≤ -k by omega), Int.neg_tmod, Int.neg_neg]
    rw [this]
    omega
theorem mod_is (k : Int) {n : Int} (hn : 0 < n) : (k.tmod n + n).tmod n = k % n := by
  rw [Int.tmod_eq_emod_of_nonneg (mod_lo k hn).1, Int.add_emod_right, Int.tmod_def, Int.sub_eq_add_neg, ← Int.mul_neg, Int.add_mul_emod_self_left]
set_option maxHeartbeats 400000 in
theorem mod_any (k n : Int) (w : World) (hn : 0 < n) (hn' : n ≤ 4294967296) :
    Calls Try.prog 44 #[.int .i64 k, .int .i64 n] w fun e w' => e = .returned (.int .i64 (k % n)) ∧ w = w' := by
  have hm := mod_lo k hn
  have e1 := mod_is k hn
  have h0 : n ≠ 0 := by omega
  have s0 : IntKind.i64.wrap (k.tmod n + n) = k.tmod n + n := IntWalk.i64_in _ ⟨by omega, by omega⟩
  clear hm hn hn'
  go_enter Try.func44, Try.ntmps44
  go_wp2
  go_ret
  exact ⟨rfl, rfl⟩

namespace Zn
/-- what May makes -/
def mC (n : Int) : Int := 1 + n % 4
def mS (n : Int) : Int := 256 + n % 5000
def mN (n : Int) : Int := 1 + n % 16
def mQ (n : Int) : Int := 1 + n % 64
def mD (S n : Int) : Int := n % (mS S + 1)
theorem mS_bd (n : Int) : 256 ≤ mS n ∧ mS n ≤ 5255 := by unfold mS; omega
theorem mD_bd (S n : Int) : 0 ≤ mD S n ∧ mD S n ≤ mS S := by
  have := mS_bd S
  unfold mD
  have h1 := Int.emod_nonneg n (show mS S + 1 ≠ 0 by omega)
  have h2 := Int.emod_lt_of_pos n (show 0 < mS S + 1 by omega)
  omega
theorem may_ok (C R S D V : Int) : Ok (mC C) (mC R) (mS S) (mD S D) (mD S V) := by
  have a := mS_bd S
  have b := mD_bd S D
  have c := mD_bd S V
  exact ⟨by unfold mC; omega, by unfold mC; omega, by unfold mC; omega, by unfold mC; omega, a.1, by omega, b.1, b.2, c.1, c.2⟩
theorem may_okB (C R S D V N Q : Int) : okB (mC C) (mC R) (mS S) (mD S D) (mD S V) (mN N) (mQ Q) = true := by
  obtain ⟨a, b, c, d, e, f, g, h, i, j⟩ := may_ok C R S D V
  exact decide_eq_true ⟨⟨a, b⟩, ⟨c, d⟩, ⟨e, f⟩, ⟨g, h⟩, ⟨i, j⟩, by unfold mN; omega, by unfold mQ; omega⟩
end Zn

theorem zero_box (W : World) (B : Nat) (hB : B ≤ W.heap.size) : grows.r W (W.alloc (.cells #[.int .i64 0, .int .i64 0, .int .i64 0, .int .i64 0, .int .i64 0, .int .i64 0, .int .i64 0] 44)) ∧
    Og.Box B #[.int .i64 0, .int .i64 0, .int .i64 0, .int .i64 0, .int .i64 0, .int .i64 0, .int .i64 0] 44 (.pointer (some ⟨W.heap.size, 0, none⟩)) (W.alloc (.cells #[.int .i64 0, .int .i64 0, .int .i64 0, .int .i64 0, .int .i64 0, .int .i64 0, .int .i64 0] 44)) := Og.Box.new W B hB _ _
set_option maxHeartbeats 4000000 in
set_option maxRecDepth 100000 in
theorem zmay_any (C R S D V N Q : Int) (w : World) :
    Calls Try.prog 23 #[.agg #[.int .i64 C, .int .i64 R, .int .i64 S, .int .i64 D, .int .i64 V, .int .i64 N, .int .i64 Q]] w fun e w' => e = .returned (.agg #[.int .i64 (Zn.mC C), .int .i64 (Zn.mC R), .int .i64 (Zn.mS S), .int .i64 (Zn.mD S D), .int .i64 (Zn.mD S V), .int .i64 (Zn.mN N), .int .i64 (Zn.mQ Q)]) ∧ Below w.heap.size w w' := by
  have mc := mod_any C 4
  have mr := mod_any R 4
  have ms := mod_any S 5000
  have mn := mod_any N 16
  have mq := mod_any Q 64
  have M0 := Lib.hid (fun W => mod_any C 4 W (by decide) (by decide))
  have M1 := Lib.hid (fun W => mod_any R 4 W (by decide) (by decide))
  have M2 := Lib.hid (fun W => mod_any S 5000 W (by decide) (by decide))
  have M3 := Lib.hid (fun W => mod_any N 16 W (by decide) (by decide))
  have M4 := Lib.hid (fun W => mod_any Q 64 W (by decide) (by decide))
  clear mc mr ms mn mq
  have sb := Zn.mS_bd S
  have M5 := Lib.hid (fun W => mod_any D (Zn.mS S + 1) W (by omega) (by omega))
  have M6 := Lib.hid (fun W => mod_any V (Zn.mS S + 1) W (by omega) (by omega))
  unfold Zn.mD
  generalize hs : Zn.mS S = s at *
  unfold Zn.mS at hs
  have w0 : IntKind.i64.wrap (1 + C % 4) = Zn.mC C := IntWalk.i64_in _ ⟨by omega, by omega⟩
  have w1 : IntKind.i64.wrap (1 + R % 4) = Zn.mC R := IntWalk.i64_in _ ⟨by omega, by omega⟩
  have w2 : IntKind.i64.wrap (256 + S % 5000) = s := by rw [← hs]; exact IntWalk.i64_in _ ⟨by omega, by omega⟩
  have w3 : IntKind.i64.wrap (1 + N % 16) = Zn.mN N := IntWalk.i64_in _ ⟨by omega, by omega⟩
  have w4 : IntKind.i64.wrap (1 + Q % 64) = Zn.mQ Q := IntWalk.i64_in _ ⟨by omega, by omega⟩
  have w5 : IntKind.i64.wrap (s + 1) = s + 1 := IntWalk.i64_in _ ⟨by omega, by omega⟩
  clear hs sb
  generalize D % (s + 1) = d at *
  generalize V % (s + 1) = v at *
  generalize Zn.mC C = c' at *
  generalize Zn.mC R = r' at *
  generalize Zn.mN N = n' at *
  generalize Zn.mQ Q = q' at *
  generalize C % 4 = c at *
  generalize R % 4 = r at *
  generalize S % 5000 = z at *
  generalize N % 16 = n at *
  generalize Q % 64 = q at *
  go_enter Try.func23, Try.ntmps23
  go_wp2
  refine Og.grow 22 (by kernel_rfl) (by kernel_rfl) fun hc hf => ?_
  simp only [List.take_succ_cons, List.take_zero, List.drop_succ_cons, List.drop_zero]
  repeat (refine Og.det [] rfl (fun K hK => ?_); go_simp; first | (refine hK _ _ ?_; clear hK K) | (with_reducible refine ⟨_, fun p => Og.same (M0.out _), hK _ _ ?_⟩; clear hK K) | (with_reducible refine ⟨_, fun p => Og.same (M1.out _), hK _ _ ?_⟩; clear hK K) | (with_reducible refine ⟨_, fun p => Og.same (M2.out _), hK _ _ ?_⟩; clear hK K) | (with_reducible refine ⟨_, fun p => Og.same (M3.out _), hK _ _ ?_⟩; clear hK K) | (with_reducible refine ⟨_, fun p => Og.same (M4.out _), hK _ _ ?_⟩; clear hK K))
  refine Og.such 3 (Og.Box (w.heap.size + 2) #[.int .i64 0, .int .i64 0, .int .i64 0, .int .i64 0, .int .i64 0, .int .i64 0, .int .i64 0] 44) [] rfl (Og.Box.lasts _ _ _) (Og.Box.noBool _ _ _) (fun K hK => ?_)
  go_simp
  refine ⟨fun p => zero_box p.W _ (by have := (zlat_below p).size; rw [size2] at this; exact this), hK _ _ ?_⟩
  clear hK K
  refine Og.fin fun W hW => ?_
  simp only [Og.opened_cons, Og.opened_nil]
  rintro _ ⟨g, rfl, hg0, hgl, hgc⟩
  clear hc hf
  have p1 := Lib.hid ((hW.block w.heap.size (by rw [size2]; omega)).trans (at2a w _ _))
  have q1 := Lib.hid ((hW.block (w.heap.size + 1) (by rw [size2]; omega)).trans (at2b w _ _))
  have b1 := Lib.hid ((bel2 w _ _).trans (hW.mono (by rw [size2]; omega)))
  clear hW M0 M1 M2 M3 M4 w0 w1 w2 w3 w4
  obtain ⟨⟨k0, k1, k2, k3, k4, k5, k6⟩, f0, f1, f2, f3, f4, f5, f6⟩ := box7 hgc
  obtain ⟨l0, l1, l2, l3, l4, l5, l6⟩ := (box7 p1.out).1
  have ne1 : w.heap.size ≠ g := by omega
  have ne2 : g ≠ w.heap.size := by omega
  have HG := Lib.hid hgc
  clear hgc
  go_wp2_with fail
  refine (M5.out _).mono ?_
  rintro e W1 ⟨rfl, hW1⟩
  have p2 := Lib.hid (show W1.heap[w.heap.size]? = C7 C R S D V N Q by rw [← hW1]; exact (set7_other ne1 _ _ _ _ _ _ _).trans p1.out)
  have q2 := Lib.hid (show W1.heap[w.heap.size + 1]? = C7 0 0 0 0 0 0 0 by rw [← hW1]; exact (set7_other (by omega) _ _ _ _ _ _ _).trans q1.out)
  have g2 := Lib.hid (show W1.heap[g]? = C7 c' r' s 0 0 n' q' by rw [← hW1]; exact set7_same HG.out _ _ _ _ _ _ _)
  have b2 := Lib.hid (show Below w.heap.size w W1 by rw [← hW1]; exact set7 b1.out g (by omega) _ _ _ _ _ _ _)
  have z2 : g < W1.heap.size := by rw [← hW1, set7_size]; exact hgl
  clear hW1 p1 q1 HG b1 hgl k0 k1 k2 k3 k4 k5 k6 f0 f1 f2 f3 f4 f5 f6 l0 l1 l2 l3 l4 l5 l6 M5 W
  obtain ⟨⟨k0, k1, k2, k3, k4, k5, k6⟩, f0, f1, f2, f3, f4, f5, f6⟩ := box7 g2.out
  obtain ⟨l0, l1, l2, l3, l4, l5, l6⟩ := (box7 p2.out).1
  go_wp2_with fail
  refine (M6.out _).mono ?_
  rintro e W2 ⟨rfl, hW2⟩
  have q3 := Lib.hid (show W2.heap[w.heap.size + 1]? = C7 0 0 0 0 0 0 0 by rw [← hW2]; exact (Below.heap_setCell _ _ _ _ (by show w.heap.size + 1 ≠ g; omega)).trans q2.out)
  have g3 := Lib.hid (show W2.heap[g]? = some (.cells #[.int .i64 c', .int .i64 r', .int .i64 s, .int .i64 d, .int .i64 0, .int .i64 n', .int .i64 q'] 44 (0, 0)) by rw [← hW2, heap_setCell_same W1 g 3 _ _ _ g2.out]; rfl)
  have b3 := Lib.hid (show Below w.heap.size w W2 by rw [← hW2]; exact b2.out.setCell (by show w.heap.size ≤ g; omega) _)
  have z3 : g < W2.heap.size := by rw [← hW2]; simpa using z2
  clear hW2 p2 q2 g2 b2 z2 k0 k1 k2 k3 k4 k5 k6 f0 f1 f2 f3 f4 f5 f6 l0 l1 l2 l3 l4 l5 l6 M6 W1
  obtain ⟨⟨k0, k1, k2, k3, k4, k5, k6⟩, f0, f1, f2, f3, f4, f5, f6⟩ := box7 g3.out
  obtain ⟨⟨l0, l1, l2, l3, l4, l5, l6⟩, m0, m1, m2, m3, m4, m5, m6⟩ := box7 q3.out
  clear ne1 ne2
  go_wp2
  exact bodyPost_ret (v := .agg #[.int .i64 c', .int .i64 r', .int .i64 s, .int .i64 d, .int .i64 v, .int .i64 n', .int .i64 q']) (by simp [results, Try.results23, go_sem, l0, l1, l2, l3, l4, l5, l6]) rfl ⟨rfl, set7 (b3.out.setCell (by show w.heap.size ≤ g; omega) _) _ (by omega) _ _ _ _ _ _ _⟩
theorem ints_len (l : List Int) : (ints l).length = l.length := List.length_map _
theorem reads_int {W : World} {A : Option Addr} {l : List Int} (h : Reads W W.heap.size A (ints l)) {k : Nat} (hk : k < l.length) : ∃ g off, A = some ⟨g, off, none⟩ ∧ g < W.heap.size ∧ W.cell? ⟨g, off + k, none⟩ = some (.int .i64 l[k]) := by
  obtain ⟨g, off, rfl, hg, hc⟩ := Reads.at_ h (k := k) (by rw [ints_len]; exact hk)
  rw [show (ints l)[k]'(by rw [ints_len]; exact hk) = .int .i64 l[k] by unfold ints; exact List.getElem_map _] at hc
  exact ⟨g, off, rfl, hg, hc⟩
theorem take_same {a b : List Int} {k : Nat} (h : a.take k = b.take k) (ha : k < a.length) (hb : k < b.length) (he : a[k] = b[k]) : a.take (k + 1) = b.take (k + 1) := by
  rw [← List.take_append_getElem ha, ← List.take_append_getElem hb, h, he]
end Go.Proofs.Ytfmbldjaknjgbaa
namespace Go.Proofs.Ytfmbldjaknjgbaa
open Go.RowKit
open Zn (Ok There)

/-- the nearest number from lo on and below hi, all clamped -/
theorem near_dist (n lo hi : Int) (h : Rc.clamp lo < Rc.clamp hi) : ∃ m, (m = if Rc.clamp n < Rc.clamp lo then Rc.clamp lo else if Rc.clamp hi ≤ Rc.clamp n then Rc.clamp hi - 1 else Rc.clamp n) ∧ Rc.dist n m = Rc.out n (Rc.clamp lo) (Rc.clamp hi) ∧ (-1073741824 ≤ m ∧ m ≤ 1073741824) := by
  refine ⟨_, rfl, ?_⟩
  have h1 := Rc.clamp_bd n
  have h2 := Rc.clamp_bd lo
  have h3 := Rc.clamp_bd hi
  unfold Rc.dist Rc.out
  generalize Rc.clamp n = a at *
  generalize Rc.clamp lo = b at *
  generalize Rc.clamp hi = c at *
  split
  · rw [Rc.clamp_in (n := b) (by omega) (by omega)]; omega
  · split
    · rw [Rc.clamp_in (n := c - 1) (by omega) (by omega)]; omega
    · rw [Rc.clamp_in (n := a) (by omega) (by omega)]; omega
set_option maxHeartbeats 400000 in
theorem rinto_any (n e : Int) (w : World) (h0 : 0 < e) (h1 : e ≤ 4194304) :
    Calls Try.prog 75 #[.int .i64 n, .int .i64 e] w fun x w' => x = .returned (.int .i64 (Zn.into n e)) ∧ w = w' := by
  have E := Lib.hid (show Zn.into n e = if n < 0 then 0 else if e ≤ n then e - 1 else n by unfold Zn.into; split; omega; split <;> omega)
  go_enter Try.func75, Try.ntmps75
  go_wp2
  all_goals
    go_ret
    refine ⟨ret_int ?_, rfl⟩
    rw [E.out]
    (first | (rw [if_pos (by assumption)]) | (rw [if_neg (by omega), if_pos (by omega)]) | (rw [if_neg (by omega), if_neg (by omega)]))
set_option maxHeartbeats 2000000 in
set_option maxRecDepth 100000 in
theorem rin_any (C R S D V N Q x y : Int) (w : World) (ok : Ok C R S D V) :
    Calls Try.prog 51 #[.agg #[.int .i64 C, .int .i64 R, .int .i64 S, .int .i64 D, .int .i64 V, .int .i64 N, .int .i64 Q], .int .i64 x, .int .i64 y] w fun e w' => e = .returned (.tuple #[.int .i64 (Zn.into x (C * S)), .int .i64 (Zn.into y (R * S))]) ∧ Below w.heap.size w w' := by
  have m1 := Zn.side_bd (q := C) ok.s0 ok.s1 (by have := ok.c0; omega) ok.c1
  have m2 := Zn.side_bd (q := R) ok.s0 ok.s1 (by have := ok.r0; omega) ok.r1
  have e1 : 0 < C * S := Int.mul_pos (by have := ok.c0; omega) (by have := ok.s0; omega)
  have e2 : 0 < R * S := Int.mul_pos (by have := ok.r0; omega) (by have := ok.s0; omega)
  have X := Lib.hid (fun W => rinto_any x (C * S) W e1 m1.2)
  have Y := Lib.hid (fun W => rinto_any y (R * S) W e2 m2.2)
  have w0 : IntKind.i64.wrap (C * S) = C * S := IntWalk.i64_in _ ⟨by omega, by omega⟩
  have w1 : IntKind.i64.wrap (R * S) = R * S := IntWalk.i64_in _ ⟨by omega, by omega⟩
  generalize Zn.into x (C * S) = u at *
  generalize Zn.into y (R * S) = v at *
  clear m1 m2 e1 e2 ok
  go_enter Try.func51, Try.ntmps51
  go_wp2
  refine Og.grow 16 (by kernel_rfl) (by kernel_rfl) fun hc hf => ?_
  simp only [List.take_succ_cons, List.take_zero, List.drop_succ_cons, List.drop_zero]
  repeat (refine Og.det [] rfl (fun K hK => ?_); go_simp; first | (refine hK _ _ ?_; clear hK K) | (with_reducible refine ⟨_, fun p => Og.same (X.out _), hK _ _ ?_⟩; clear hK K) | (with_reducible refine ⟨_, fun p => Og.same (Y.out _), hK _ _ ?_⟩; clear hK K))
  refine Og.fin fun W hW => ?_
  simp only [Og.opened_nil]
  clear hc hf
  go_wp2
  go_ret2
  exact ⟨rfl, (bel1 w _).trans (hW.mono (by rw [size1]; omega))⟩
end Go.Proofs.Ytfmbldjaknjgbaa
