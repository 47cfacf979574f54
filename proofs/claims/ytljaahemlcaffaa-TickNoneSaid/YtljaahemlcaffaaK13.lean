/- fixed.Clamp, rect.counted: what they answer. zones: Check, New, Count, World, Zone, In, Of: what they answer. zones: New, In, Of: what they answer. zones: Beside, Near: what they answer. -/
import Derived.Test.YtljaahemlcaffaaK06
import Derived.Test.YtljaahemlcaffaaK01
import Derived.Test.YtljaahemlcaffaaRows
import Derived.Test.YtljaahemlcaffaaK07
import Derived.LoopTactic
import Derived.OwnWalk
import Derived.WalkKit
namespace Go.Proofs.Ytljaahemlcaffaa
open Go.RowKit
attribute [local go_sem high] run_max_ints3

set_option maxHeartbeats 400000 in
set_option maxRecDepth 100000 in
theorem clamp_any (n : Int) (w : World) (_ : -9223372036854775808 ≤ n) (_ : n ≤ 9223372036854775807) :
    Calls Try.prog 58 #[.int .i64 n] w fun e w' => e = .returned (.int .i64 (Rc.clamp n)) ∧ w = w' := by
  go_enter Try.func58, Try.ntmps58
  go_wp2
  go_ret
  exact ⟨rfl, rfl⟩

set_option maxHeartbeats 1000000 in
set_option maxRecDepth 100000 in
theorem counted_none (a b c d : Int) (w : World) (ha : I a) (hb : I b) (hc : I c) (hd : I d) (h : Rc.None a b c d) :
    Calls Try.prog 92 #[.agg #[.int .i64 a, .int .i64 b, .int .i64 c, .int .i64 d]] w fun e w' => e = .returned (.agg #[.int .i64 0, .int .i64 0, .int .i64 0, .int .i64 0]) ∧ Below w.heap.size w w' := by
  obtain ⟨a0, a1⟩ := ha
  obtain ⟨b0, b1⟩ := hb
  obtain ⟨c0, c1⟩ := hc
  obtain ⟨d0, d1⟩ := hd
  have hx : Rc.clamp a < Rc.clamp c → Rc.clamp d ≤ Rc.clamp b := fun h' => by rcases h with h | h <;> omega
  clear h
  go_enter Try.func92, Try.ntmps92
  go_wp2
  refine still_tail 13 (by kernel_rfl) (by kernel_rfl) fun W hW hD => ?_
  simp only [List.take_succ_cons, List.take_zero, List.drop_succ_cons, List.drop_zero]
  repeat (first | still_step | still_call (still_of (clamp_any _ _ (by omega) (by omega))))
  refine wpStill_nil ?_
  have hD' := hD.out
  subst hD'
  clear hW hD
  go_wp2
  all_goals exact bodyPost_ret (v := .agg #[.int .i64 0, .int .i64 0, .int .i64 0, .int .i64 0]) (by simp [results, Try.results92, go_sem]) rfl ⟨rfl, Below.d' (bel2 _ _ _)⟩
set_option maxHeartbeats 1000000 in
set_option maxRecDepth 100000 in
theorem counted_some (a b c d : Int) (w : World) (ha : I a) (hb : I b) (hc : I c) (hd : I d) (h : ¬ Rc.None a b c d) :
    Calls Try.prog 92 #[.agg #[.int .i64 a, .int .i64 b, .int .i64 c, .int .i64 d]] w fun e w' => e = .returned (.agg #[.int .i64 (Rc.clamp a), .int .i64 (Rc.clamp b), .int .i64 (Rc.clamp c), .int .i64 (Rc.clamp d)]) ∧ Below w.heap.size w w' := by
  obtain ⟨a0, a1⟩ := ha
  obtain ⟨b0, b1⟩ := hb
  obtain ⟨c0, c1⟩ := hc
  obtain ⟨d0, d1⟩ := hd
  have hx : Rc.clamp a < Rc.clamp c := by unfold Rc.None at h; omega
  have hy : Rc.clamp b < Rc.clamp d := by unfold Rc.None at h; omega
  clear h
  go_enter Try.func92, Try.ntmps92
  go_wp2
  refine still_tail 13 (by kernel_rfl) (by kernel_rfl) fun W hW hD => ?_
  simp only [List.take_succ_cons, List.take_zero, List.drop_succ_cons, List.drop_zero]
  repeat (first | still_step | still_call (still_of (clamp_any _ _ (by omega) (by omega))))
  refine wpStill_nil ?_
  have hD' := hD.out
  subst hD'
  clear hW hD
  go_wp2
  all_goals exact bodyPost_ret (v := .agg #[.int .i64 (Rc.clamp a), .int .i64 (Rc.clamp b), .int .i64 (Rc.clamp c), .int .i64 (Rc.clamp d)]) (by simp [results, Try.results92, go_sem]) rfl ⟨rfl, Below.d' (bel2 _ _ _)⟩

set_option maxHeartbeats 400000 in
set_option maxRecDepth 100000 in
theorem none_yes (w : World) :
    Calls Try.prog 93 #[.agg #[.int .i64 0, .int .i64 0, .int .i64 0, .int .i64 0]] w fun e w' => e = .returned (.bool true) ∧ Below w.heap.size w w' := by
  go_enter Try.func93, Try.ntmps93
  go_wp2
  go_ret
  exact ⟨rfl, bel1 _ _⟩
set_option maxHeartbeats 400000 in
set_option maxRecDepth 100000 in
theorem none_no (a b c d : Int) (w : World) (h : a < c) :
    Calls Try.prog 93 #[.agg #[.int .i64 a, .int .i64 b, .int .i64 c, .int .i64 d]] w fun e w' => e = .returned (.bool false) ∧ Below w.heap.size w w' := by
  go_enter Try.func93, Try.ntmps93
  go_wp2
  all_goals
    go_ret
    exact ⟨rfl, bel1 _ _⟩
set_option maxHeartbeats 1000000 in
set_option maxRecDepth 100000 in
theorem outside_any (n lo hi : Int) (w : World) (hn : I n) (hl : -1073741824 ≤ lo ∧ lo ≤ 1073741824) (hh : -1073741824 ≤ hi ∧ hi ≤ 1073741824) :
    Calls Try.prog 94 #[.int .i64 n, .int .i64 lo, .int .i64 hi] w fun e w' => e = .returned (.int .i64 (Rc.out n lo hi)) ∧ w = w' := by
  obtain ⟨n0, n1⟩ := hn
  obtain ⟨l0, l1⟩ := hl
  obtain ⟨h0, h1⟩ := hh
  obtain ⟨c0, c1⟩ := Rc.clamp_bd n
  go_enter Try.func94, Try.ntmps94
  go_wp2_with (go_at_call 58; refine (clamp_any _ _ (by omega) (by omega)).mono ?_; rintro e w' ⟨rfl, rfl⟩)
  go_ret
  exact ⟨rfl, rfl⟩

set_option maxHeartbeats 1000000 in
set_option maxRecDepth 100000 in
theorem gap_none (a b c d x y : Int) (w : World) (ha : I a) (hb : I b) (hc : I c) (hd : I d) (h : Rc.None a b c d) :
    Calls Try.prog 84 #[.agg #[.int .i64 a, .int .i64 b, .int .i64 c, .int .i64 d], .int .i64 x, .int .i64 y] w fun e w' => e = .returned (.int .i64 (-1)) ∧ Below w.heap.size w w' := by
  have C := Lib.hid (fun W => counted_none a b c d W ha hb hc hd h)
  clear ha hb hc hd h
  go_enter Try.func84, Try.ntmps84
  go_wp2_with fail
  refine (C.out _).mono ?_
  rintro e w1 ⟨rfl, b1⟩
  obtain ⟨c1, f1⟩ := bcell b1
  go_wp2_with fail
  refine (none_yes _).mono ?_
  rintro e w2 ⟨rfl, b2⟩
  clear c1 f1
  have b1' := (bel1 w _).trans (b1.mono (by simp))
  have b3 := (set4 b1' _ (Nat.le_refl _) _ _ _ _).trans (b2.mono (by simpa using b1'.size))
  clear b1 b2 b1'
  go_wp2
  go_ret
  exact ⟨rfl, b3⟩
set_option maxHeartbeats 1000000 in
set_option maxRecDepth 100000 in
theorem gap_some (a b c d x y : Int) (w : World) (ha : I a) (hb : I b) (hc : I c) (hd : I d) (hx : I x) (hy : I y) (h : ¬ Rc.None a b c d) :
    Calls Try.prog 84 #[.agg #[.int .i64 a, .int .i64 b, .int .i64 c, .int .i64 d], .int .i64 x, .int .i64 y] w fun e w' => e = .returned (.int .i64 (max (Rc.out x (Rc.clamp a) (Rc.clamp c)) (Rc.out y (Rc.clamp b) (Rc.clamp d)))) ∧ Below w.heap.size w w' := by
  have C := Lib.hid (fun W => counted_some a b c d W ha hb hc hd h)
  have D := Lib.hid (fun W => none_no (Rc.clamp a) (Rc.clamp b) (Rc.clamp c) (Rc.clamp d) W (by unfold Rc.None at h; omega))
  have X := Lib.hid (fun W => outside_any x (Rc.clamp a) (Rc.clamp c) W hx (Rc.clamp_bd a) (Rc.clamp_bd c))
  have Y := Lib.hid (fun W => outside_any y (Rc.clamp b) (Rc.clamp d) W hy (Rc.clamp_bd b) (Rc.clamp_bd d))
  clear ha hb hc hd h hx hy
  go_enter Try.func84, Try.ntmps84
  go_wp2_with fail
  refine (C.out _).mono ?_
  rintro e w1 ⟨rfl, b1⟩
  obtain ⟨c1, f1⟩ := bcell b1
  go_wp2_with fail
  refine (D.out _).mono ?_
  rintro e w2 ⟨rfl, b2⟩
  obtain ⟨c2, f2⟩ := bcell b2
  have b1' := (bel1 w _).trans (b1.mono (by simp))
  have b3 := (set4 b1' _ (Nat.le_refl _) _ _ _ _).trans (b2.mono (by simpa using b1'.size))
  have hz : w.heap.size < w1.heap.size := by have := b1.size; simp at this; omega
  clear b1 b2 b1'
  go_wp2_with fail
  refine still_tail 12 (by kernel_rfl) (by kernel_rfl) fun W hW hD => ?_
  simp only [List.take_succ_cons, List.take_zero, List.drop_succ_cons, List.drop_zero]
  iterate 5 still_step
  still_call (still_of (X.out _))
  iterate 5 still_step
  still_call (still_of (Y.out _))
  refine wpStill_nil ?_
  have hD' := hD.out
  subst hD'
  clear hW hD
  go_wp2
  go_ret
  exact ⟨rfl, Below.d' b3⟩

set_option maxHeartbeats 1000000 in
set_option maxRecDepth 100000 in
theorem apart_any (a b : Int) (w : World) (ha : I a) (hb : I b) :
    Calls Try.prog 68 #[.int .i64 a, .int .i64 b] w fun e w' => e = .returned (.int .i64 (Rc.dist a b)) ∧ w = w' := by
  obtain ⟨a0, a1⟩ := ha
  obtain ⟨b0, b1⟩ := hb
  obtain ⟨c0, c1⟩ := Rc.clamp_bd a
  obtain ⟨d0, d1⟩ := Rc.clamp_bd b
  go_enter Try.func68, Try.ntmps68
  go_wp2_with (go_at_call 58; refine (clamp_any _ _ (by omega) (by omega)).mono ?_; rintro e w' ⟨rfl, rfl⟩)
  go_ret
  exact ⟨rfl, rfl⟩
set_option maxHeartbeats 1000000 in
set_option maxRecDepth 100000 in
theorem far_any (x y u v : Int) (w : World) (hx : I x) (hy : I y) (hu : I u) (hv : I v) :
    Calls Try.prog 52 #[.int .i64 x, .int .i64 y, .int .i64 u, .int .i64 v] w fun e w' => e = .returned (.int .i64 (Rc.far x y u v)) ∧ w = w' := by
  go_enter Try.func52, Try.ntmps52
  go_wp2_with fail
  refine (apart_any _ _ _ hx hu).mono ?_
  rintro e w' ⟨rfl, rfl⟩
  go_wp2_with fail
  refine (apart_any _ _ _ hy hv).mono ?_
  rintro e w' ⟨rfl, rfl⟩
  go_wp2
  go_ret
  exact ⟨rfl, rfl⟩

theorem gap_any (a b c d x y : Int) (w : World) (ha : I a) (hb : I b) (hc : I c) (hd : I d) (hx : I x) (hy : I y) :
    Calls Try.prog 84 #[.agg #[.int .i64 a, .int .i64 b, .int .i64 c, .int .i64 d], .int .i64 x, .int .i64 y] w fun e w' => e = .returned (.int .i64 (Rc.gap a b c d x y)) ∧ Below w.heap.size w w' := by
  unfold Rc.gap
  by_cases h : Rc.None a b c d
  · rw [if_pos h]; exact gap_none a b c d x y w ha hb hc hd h
  · rw [if_neg h]; exact gap_some a b c d x y w ha hb hc hd hx hy h
def hasB (a b c d x y : Int) : Bool := decide (Rc.gap a b c d x y = 0)
def nearB (a b c d x y n : Int) : Bool := decide (0 ≤ Rc.gap a b c d x y ∧ Rc.gap a b c d x y ≤ n)
set_option maxHeartbeats 1000000 in
set_option maxRecDepth 100000 in
theorem rchas_any (a b c d x y : Int) (w : World) (ha : I a) (hb : I b) (hc : I c) (hd : I d) (hx : I x) (hy : I y) :
    Calls Try.prog 70 #[.agg #[.int .i64 a, .int .i64 b, .int .i64 c, .int .i64 d], .int .i64 x, .int .i64 y] w fun e w' => e = .returned (.bool (hasB a b c d x y)) ∧ Below w.heap.size w w' := by
  have G := Lib.hid (fun W => gap_any a b c d x y W ha hb hc hd hx hy)
  unfold hasB
  generalize Rc.gap a b c d x y = g at *
  clear ha hb hc hd hx hy
  go_enter Try.func70, Try.ntmps70
  go_wp2_with fail
  refine (G.out _).mono ?_
  rintro e w1 ⟨rfl, b1⟩
  go_wp2
  go_ret
  exact ⟨ret_bool (by rw [Bool.eq_iff_iff]; simp), (bel1 w _).trans (b1.mono (by simp))⟩
end Go.Proofs.Ytljaahemlcaffaa
namespace Go.Proofs.Ytljaahemlcaffaa
open Go.RowKit
open Zn (Ok There)

theorem box7 {W : World} {b T : Nat} {v0 v1 v2 v3 v4 v5 v6 : Value} (h : W.heap[b]? = some (.cells #[v0, v1, v2, v3, v4, v5, v6] T (0, 0))) :
    (W.cell? ⟨b, 0, none⟩ = some v0 ∧ W.cell? ⟨b, 1, none⟩ = some v1 ∧ W.cell? ⟨b, 2, none⟩ = some v2 ∧ W.cell? ⟨b, 3, none⟩ = some v3 ∧ W.cell? ⟨b, 4, none⟩ = some v4 ∧ W.cell? ⟨b, 5, none⟩ = some v5 ∧ W.cell? ⟨b, 6, none⟩ = some v6) ∧
    (W.frozen? ⟨b, 0, none⟩ = false ∧ W.frozen? ⟨b, 1, none⟩ = false ∧ W.frozen? ⟨b, 2, none⟩ = false ∧ W.frozen? ⟨b, 3, none⟩ = false ∧ W.frozen? ⟨b, 4, none⟩ = false ∧ W.frozen? ⟨b, 5, none⟩ = false ∧ W.frozen? ⟨b, 6, none⟩ = false) := by
  simp [World.cell?, World.frozen?, h]

/-- at a block lies a map of this config -/
def MapAt (W : World) (b : Nat) (C R S D V N Q : Int) : Prop := W.heap[b]? = some (.cells #[.int .i64 C, .int .i64 R, .int .i64 S, .int .i64 D, .int .i64 V, .int .i64 N, .int .i64 Q] 45 (0, 0))
theorem MapAt.lt {W : World} {b : Nat} {C R S D V N Q : Int} (h : MapAt W b C R S D V N Q) : b < W.heap.size := (Array.getElem?_eq_some_iff.1 h).1
theorem MapAt.below {W W' : World} {b : Nat} {C R S D V N Q : Int} (h : MapAt W b C R S D V N Q) (hb : Below W.heap.size W W') : MapAt W' b C R S D V N Q := (hb.block b h.lt).trans h
theorem MapAt.at {W W' : World} {B b : Nat} {C R S D V N Q : Int} (h : MapAt W b C R S D V N Q) (hb : Below B W W') (hl : b < B) : MapAt W' b C R S D V N Q := (hb.block b hl).trans h

theorem zlat_below {w : World} (p : Lat grows w) : Below w.heap.size w p.W := p.h
set_option maxHeartbeats 400000 in
theorem zwithin_any (n lo hi : Int) (w : World) :
    Calls Try.prog 25 #[.int .i64 n, .int .i64 lo, .int .i64 hi] w fun e w' => e = .returned (.bool (decide (lo ≤ n ∧ n ≤ hi))) ∧ w = w' := by
  go_enter Try.func25, Try.ntmps25
  go_wp2
  all_goals
    go_ret
    refine ⟨ret_bool ?_, rfl⟩
    simp
  all_goals omega
theorem okB_is (C R S D V N Q : Int) : Zn.okB C R S D V N Q = true ↔ ((1 ≤ C ∧ C ≤ 4) ∧ (1 ≤ R ∧ R ≤ 4) ∧ (256 ≤ S ∧ S ≤ 1048576) ∧ (0 ≤ D ∧ D ≤ S) ∧ (0 ≤ V ∧ V ≤ S) ∧ (1 ≤ N ∧ N ≤ 16) ∧ (1 ≤ Q ∧ Q ≤ 64)) := by unfold Zn.okB; rw [decide_eq_true_eq]
set_option maxHeartbeats 2000000 in
theorem zcheck_r (C R S D V N Q r : Int) (w : World) (hr : Hid ((Zn.okB C R S D V N Q = true ∧ r = 0) ∨ (Zn.okB C R S D V N Q = false ∧ r = 1))) :
    Calls Try.prog 11 #[.agg #[.int .i64 C, .int .i64 R, .int .i64 S, .int .i64 D, .int .i64 V, .int .i64 N, .int .i64 Q]] w fun e w' => e = .returned (.int .i64 r) ∧ Below w.heap.size w w' := by
  go_enter Try.func11, Try.ntmps11
  go_wp2_with (go_at_call 25; refine (zwithin_any _ _ _ _).mono ?_; rintro e w' ⟨rfl, rfl⟩)
  all_goals
    go_ret
    refine ⟨ret_int ?_, bel1 _ _⟩
    rcases hr.out with ⟨h, hr'⟩ | ⟨h, hr'⟩
    · have h2 := (okB_is _ _ _ _ _ _ _).1 h
      omega
    · have h2 := mt (okB_is _ _ _ _ _ _ _).2 (by rw [h]; decide)
      omega
theorem zcheck_any (C R S D V N Q : Int) (w : World) :
    Calls Try.prog 11 #[.agg #[.int .i64 C, .int .i64 R, .int .i64 S, .int .i64 D, .int .i64 V, .int .i64 N, .int .i64 Q]] w fun e w' => e = .returned (.int .i64 (if Zn.okB C R S D V N Q then 0 else 1)) ∧ Below w.heap.size w w' :=
  zcheck_r _ _ _ _ _ _ _ _ w (Lib.hid (by cases h : Zn.okB C R S D V N Q <;> simp))

set_option maxHeartbeats 1000000 in
theorem count_any (b : Nat) (C R S D V N Q : Int) (w : World) (h : MapAt w b C R S D V N Q) (ok : Ok C R S D V) :
    Calls Try.prog 7 #[.pointer (some ⟨b, 0, none⟩)] w fun e w' => e = .returned (.int .i64 (C * R)) ∧ Below w.heap.size w w' := by
  obtain ⟨⟨k0, k1, k2, k3, k4, k5, k6⟩, f0, f1, f2, f3, f4, f5, f6⟩ := box7 h
  have lt := h.lt
  have m := Zn.mul_bd ok
  have s0 : IntKind.i64.wrap (C * R) = C * R := IntWalk.i64_in _ ⟨by omega, by omega⟩
  clear h ok f0 f1 f2 f3 f4 f5 f6 k2 k3 k4 k5 k6
  go_enter Try.func7, Try.ntmps7
  go_wp2
  refine Og.grow 12 (by kernel_rfl) (by kernel_rfl) fun hc hf => ?_
  simp only [List.take_succ_cons, List.take_zero, List.drop_succ_cons, List.drop_zero]
  repeat (refine Og.det [] rfl (fun K hK => ?_); go_simp; refine hK _ _ ?_; clear hK K)
  refine Og.fin fun W hW => ?_
  simp only [Og.opened_nil]
  clear hc hf
  go_wp2
  go_ret
  exact ⟨rfl, hW⟩
set_option maxHeartbeats 400000 in
theorem count_nil (w : World) :
    Calls Try.prog 7 #[.pointer none] w fun e w' => e = .returned (.int .i64 0) ∧ w = w' := by
  go_enter Try.func7, Try.ntmps7
  go_wp2
  go_ret
  exact ⟨rfl, rfl⟩
theorem there_two (C R k : Int) : decide (There C R k) = (decide (0 ≤ k) && decide (k < C * R)) := by rw [Bool.eq_iff_iff, Bool.and_eq_true, decide_eq_true_eq, decide_eq_true_eq, decide_eq_true_eq]; exact Iff.rfl
set_option maxHeartbeats 1000000 in
theorem world_nil (w : World) :
    Calls Try.prog 59 #[.pointer none] w fun e w' => e = .returned (.agg #[.int .i64 0, .int .i64 0, .int .i64 0, .int .i64 0]) ∧ Below w.heap.size w w' := by
  go_enter Try.func59, Try.ntmps59
  go_wp2
  exact bodyPost_ret (v := .agg #[.int .i64 0, .int .i64 0, .int .i64 0, .int .i64 0]) (by simp [results, Try.results59, go_sem]) rfl ⟨rfl, bel1 w _⟩
set_option maxHeartbeats 2000000 in
set_option maxRecDepth 100000 in
theorem world_any (b : Nat) (C R S D V N Q : Int) (w : World) (h : MapAt w b C R S D V N Q) (ok : Ok C R S D V) :
    Calls Try.prog 59 #[.pointer (some ⟨b, 0, none⟩)] w fun e w' => e = .returned (.agg #[.int .i64 0, .int .i64 0, .int .i64 (C * S), .int .i64 (R * S)]) ∧ Below w.heap.size w w' := by
  obtain ⟨⟨k0, k1, k2, k3, k4, k5, k6⟩, f0, f1, f2, f3, f4, f5, f6⟩ := box7 h
  have lt := h.lt
  have m1 := Zn.side_bd (q := C) ok.s0 ok.s1 (by have := ok.c0; omega) ok.c1
  have m2 := Zn.side_bd (q := R) ok.s0 ok.s1 (by have := ok.r0; omega) ok.r1
  have s0 : IntKind.i64.wrap (C * S) = C * S := IntWalk.i64_in _ ⟨by omega, by omega⟩
  have s1 : IntKind.i64.wrap (R * S) = R * S := IntWalk.i64_in _ ⟨by omega, by omega⟩
  clear h ok f0 f1 f2 f3 f4 f5 f6 k3 k4 k5 k6 m1 m2
  go_enter Try.func59, Try.ntmps59
  go_wp2
  have hx := Lib.hid (at1 w (.cells #[.int .i64 0, .int .i64 0, .int .i64 0, .int .i64 0] 102))
  have hz := Lib.hid (show w.heap.size < (w.alloc (.cells #[.int .i64 0, .int .i64 0, .int .i64 0, .int .i64 0] 102)).heap.size by rw [size1]; omega)
  refine Og.grow 23 (by kernel_rfl) (by kernel_rfl) fun hc hf => ?_
  simp only [List.take_succ_cons, List.take_zero, List.drop_succ_cons, List.drop_zero]
  repeat (refine Og.det [] rfl (fun K hK => ?_); go_simp; refine hK _ _ ?_; clear hK K)
  refine Og.fin fun W hW => ?_
  simp only [Og.opened_nil]
  clear hc hf k0 k1 k2
  have q1 := (hW.block _ hz.out).trans hx.out
  obtain ⟨⟨k0, k1, k2, k3⟩, f0, f1, f2, f3⟩ := box4 q1
  have b1 := (bel1 w _).trans (hW.mono (by rw [size1]; omega))
  clear hW q1
  go_wp2
  exact bodyPost_ret (v := .agg #[.int .i64 0, .int .i64 0, .int .i64 (C * S), .int .i64 (R * S)]) (by simp [results, Try.results59, go_sem, k0, k1, k2, k3]) rfl ⟨rfl, set4 b1 _ (Nat.le_refl _) _ _ _ _⟩
end Go.Proofs.Ytljaahemlcaffaa
namespace Go.Proofs.Ytljaahemlcaffaa
open Go.RowKit
open Zn (Ok There)
attribute [local go_sem high] run_max_ints3

set_option maxHeartbeats 1000000 in
theorem new_no (C R S D V N Q : Int) (w : World) (h : Zn.okB C R S D V N Q = false) :
    Calls Try.prog 5 #[.agg #[.int .i64 C, .int .i64 R, .int .i64 S, .int .i64 D, .int .i64 V, .int .i64 N, .int .i64 Q]] w fun e w' => e = .returned (.tuple #[.pointer none, .int .i64 1]) ∧ Below w.heap.size w w' := by
  have X := Lib.hid (fun W => zcheck_r C R S D V N Q 1 W (Lib.hid (.inr ⟨h, rfl⟩)))
  clear h
  go_enter Try.func5, Try.ntmps5
  go_wp2_with fail
  refine (X.out _).mono ?_
  rintro e w1 ⟨rfl, b1⟩
  go_wp2
  go_ret2
  exact ⟨rfl, (bel1 w _).trans (b1.mono (by rw [size1]; omega))⟩
set_option maxHeartbeats 1000000 in
theorem new_yes (C R S D V N Q : Int) (w : World) (h : Zn.okB C R S D V N Q = true) :
    Calls Try.prog 5 #[.agg #[.int .i64 C, .int .i64 R, .int .i64 S, .int .i64 D, .int .i64 V, .int .i64 N, .int .i64 Q]] w fun e w' => ∃ b, e = .returned (.tuple #[.pointer (some ⟨b, 0, none⟩), .int .i64 0]) ∧ w.heap.size ≤ b ∧ MapAt w' b C R S D V N Q ∧ Below w.heap.size w w' := by
  have X := Lib.hid (fun W => zcheck_r C R S D V N Q 0 W (Lib.hid (.inl ⟨h, rfl⟩)))
  clear h
  go_enter Try.func5, Try.ntmps5
  go_wp2_with fail
  refine (X.out _).mono ?_
  rintro e w1 ⟨rfl, b1⟩
  have hx := (b1.block w.heap.size (by rw [size1]; omega)).trans (at1 w _)
  have b2 := Lib.hid ((bel1 w _).trans (b1.mono (by rw [size1]; omega)))
  obtain ⟨⟨k0, k1, k2, k3, k4, k5, k6⟩, f0, f1, f2, f3, f4, f5, f6⟩ := box7 hx
  clear hx b1 X
  go_wp2
  go_ret2
  exact ⟨w1.heap.size, rfl, b2.out.size, at1 w1 _, b2.out.trans ((bel1 w1 _).mono b2.out.size)⟩

set_option maxHeartbeats 400000 in
theorem brought_any (n e : Int) (w : World) (_ : I n) (h0 : 0 ≤ e) (h1 : e ≤ 4194304) :
    Calls Try.prog 60 #[.int .i64 n, .int .i64 e] w fun x w' => x = .returned (.int .i64 (Zn.into n e)) ∧ w = w' := by
  go_enter Try.func60, Try.ntmps60
  go_wp2
  go_ret
  refine ⟨ret_int ?_, rfl⟩
  unfold Zn.into
  omega
set_option maxHeartbeats 2000000 in
/-- In, by what World tells -/
theorem in_of (b : Option Addr) (p q x y : Int) (w : World) (hx : I x) (hy : I y) (hp : 0 ≤ p ∧ p ≤ 4194304) (hq : 0 ≤ q ∧ q ≤ 4194304)
    (h : Hid (Calls Try.prog 59 #[.pointer b] w fun e w' => e = .returned (.agg #[.int .i64 0, .int .i64 0, .int .i64 p, .int .i64 q]) ∧ Below w.heap.size w w')) :
    Calls Try.prog 42 #[.pointer b, .int .i64 x, .int .i64 y] w fun e w' => e = .returned (.tuple #[.int .i64 (Zn.into x p), .int .i64 (Zn.into y q)]) ∧ Below w.heap.size w w' := by
  have X := Lib.hid (fun W => brought_any x p W hx hp.1 hp.2)
  have Y := Lib.hid (fun W => brought_any y q W hy hq.1 hq.2)
  generalize Zn.into x p = u at *
  generalize Zn.into y q = v at *
  clear hx hy hp hq
  go_enter Try.func42, Try.ntmps42
  go_wp2_with fail
  refine h.out.mono ?_
  rintro e w1 ⟨rfl, b1⟩
  go_wp2_with fail
  refine Og.grow 10 (by kernel_rfl) (by kernel_rfl) fun hc hf => ?_
  simp only [List.take_succ_cons, List.take_zero, List.drop_succ_cons, List.drop_zero]
  repeat (refine Og.det [] rfl (fun K hK => ?_); go_simp; first | (refine hK _ _ ?_; clear hK K) | (with_reducible refine ⟨_, fun p => Og.same (X.out _), hK _ _ ?_⟩; clear hK K) | (with_reducible refine ⟨_, fun p => Og.same (Y.out _), hK _ _ ?_⟩; clear hK K))
  refine Og.fin fun W hW => ?_
  simp only [Og.opened_nil]
  clear hc hf
  go_wp2
  go_ret2
  exact ⟨rfl, (b1.trans ((bel1 w1 _).mono b1.size)).trans (hW.mono (by rw [size1]; have := b1.size; omega))⟩
/-- Of, by what World and Has tell -/
theorem of_no (b : Option Addr) (p q x y : Int) (w : World) (hx : I x) (hy : I y) (hp : 0 ≤ p ∧ p ≤ 4194304) (hq : 0 ≤ q ∧ q ≤ 4194304)
    (h : Hid (Calls Try.prog 59 #[.pointer b] w fun e w' => e = .returned (.agg #[.int .i64 0, .int .i64 0, .int .i64 p, .int .i64 q]) ∧ Below w.heap.size w w'))
    (hn : hasB 0 0 p q x y = false) :
    Calls Try.prog 54 #[.pointer b, .int .i64 x, .int .i64 y] w fun e w' => e = .returned (.int .i64 (-1)) ∧ Below w.heap.size w w' := by
  have X := Lib.hid (fun W => rchas_any 0 0 p q x y W (by decide) (by decide) (by unfold I; omega) (by unfold I; omega) hx hy)
  rw [hn] at X
  clear hx hy hp hq hn
  go_enter Try.func54, Try.ntmps54
  go_wp2_with fail
  refine h.out.mono ?_
  rintro e w1 ⟨rfl, b1⟩
  go_wp2_with fail
  refine (X.out _).mono ?_
  rintro e w2 ⟨rfl, b2⟩
  go_wp2
  go_ret
  exact ⟨rfl, b1.trans (b2.mono b1.size)⟩
theorem has_same (a b c d x y : Int) : hasB a b c d x y = Rc.hasR a b c d x y := by
  unfold hasB Rc.hasR
  rw [decide_eq_decide]
  exact Rc.gap_has a b c d x y
theorem of_nil (x y : Int) (w : World) (hx : I x) (hy : I y) :
    Calls Try.prog 54 #[.pointer none, .int .i64 x, .int .i64 y] w fun e w' => e = .returned (.int .i64 (-1)) ∧ Below w.heap.size w w' :=
  of_no none 0 0 x y w hx hy (by decide) (by decide) (Lib.hid (world_nil w)) (by rw [has_same]; unfold Rc.hasR; rw [Rc.clamp_zero]; exact decide_eq_false (by omega))
theorem has_world {C R S D V : Int} (ok : Ok C R S D V) (x y : Int) : hasB 0 0 (C * S) (R * S) x y = decide (0 ≤ x ∧ x < C * S ∧ 0 ≤ y ∧ y < R * S) := by
  have m1 := Zn.side_bd (q := C) ok.s0 ok.s1 (by have := ok.c0; omega) ok.c1
  have m2 := Zn.side_bd (q := R) ok.s0 ok.s1 (by have := ok.r0; omega) ok.r1
  rw [has_same]
  unfold Rc.hasR
  rw [decide_eq_decide, Rc.clamp_zero, Rc.clamp_in (n := C * S) (by omega) (by omega), Rc.clamp_in (n := R * S) (by omega) (by omega)]
  rw [Zn.le_clamp (by omega) (by omega), Zn.le_clamp (by omega) (by omega), Zn.clamp_lt (by have := ok.s0; have := ok.c0; omega) (by omega), Zn.clamp_lt (by have := ok.s0; have := ok.c0; omega) (by omega)]
set_option maxHeartbeats 2000000 in
set_option maxRecDepth 100000 in
theorem of_some (b : Nat) (C R S D V N Q x y : Int) (w : World) (h : MapAt w b C R S D V N Q) (ok : Ok C R S D V) (hx : I x) (hy : I y) (hin : 0 ≤ x ∧ x < C * S ∧ 0 ≤ y ∧ y < R * S) :
    Calls Try.prog 54 #[.pointer (some ⟨b, 0, none⟩), .int .i64 x, .int .i64 y] w fun e w' => e = .returned (.int .i64 (y / S * C + x / S)) ∧ Below w.heap.size w w' := by
  have m1 := Zn.side_bd (q := C) ok.s0 ok.s1 (by have := ok.c0; omega) ok.c1
  have m2 := Zn.side_bd (q := R) ok.s0 ok.s1 (by have := ok.r0; omega) ok.r1
  have X := Lib.hid (fun W => rchas_any 0 0 (C * S) (R * S) x y W (by decide) (by decide) (by unfold I; omega) (by unfold I; omega) hx hy)
  rw [has_world ok, decide_eq_true hin] at X
  have Wd := Lib.hid (world_any b C R S D V N Q w h ok)
  have hk := Zn.of_in ok hin.1 hin.2.1 hin.2.2.1 hin.2.2.2
  have hb := Zn.mul_bd ok
  have e0 : Zn.of C R S x y = y / S * C + x / S := if_pos hin
  rw [e0] at hk
  have hyd : 0 ≤ y / S ∧ y / S < R := ⟨(Zn.div_ge ok.s0).2 (by omega), (Zn.div_lt ok.s0).2 (by omega)⟩
  have hyc : 0 ≤ y / S * C ∧ y / S * C ≤ 16 := by
    have : 0 ≤ x / S := (Zn.div_ge ok.s0).2 (by omega)
    exact ⟨Int.mul_nonneg hyd.1 (by have := ok.c0; omega), by have := hk.2; omega⟩
  obtain ⟨hk0, hk1⟩ := hk
  have s0 : y.tdiv S = y / S := Int.tdiv_eq_ediv_of_nonneg (by omega)
  have s1 : x.tdiv S = x / S := Int.tdiv_eq_ediv_of_nonneg (by omega)
  have s2 : IntKind.i64.wrap (y / S * C) = y / S * C := IntWalk.i64_in _ ⟨by omega, by omega⟩
  have s3 : IntKind.i64.wrap (y / S * C + x / S) = y / S * C + x / S := IntWalk.i64_in _ ⟨by omega, by omega⟩
  have s4 : IntKind.i64.wrap (y / S) = y / S := IntWalk.i64_in _ ⟨by have := ok.r1; omega, by have := ok.r1; omega⟩
  have s5 : IntKind.i64.wrap (x / S) = x / S := IntWalk.i64_in _ ⟨by omega, by omega⟩
  have hn : S ≠ 0 := by have := ok.s0; omega
  have HM := Lib.hid h
  clear h ok hin m1 m2 hb hyd hyc e0 hk0 hk1
  go_enter Try.func54, Try.ntmps54
  go_wp2_with fail
  refine Wd.out.mono ?_
  rintro e w1 ⟨rfl, b1⟩
  go_wp2_with fail
  refine (X.out _).mono ?_
  rintro e w2 ⟨rfl, b2⟩
  have b3 := Lib.hid (b1.trans (b2.mono b1.size))
  have hm := HM.out.below b3.out
  have lt := hm.lt
  obtain ⟨⟨k0, k1, k2, k3, k4, k5, k6⟩, f0, f1, f2, f3, f4, f5, f6⟩ := box7 hm
  clear b1 b2 hm f0 f1 f2 f3 f4 f5 f6 k1 k3 k4 k5 k6 X Wd HM
  go_wp2
  refine Og.grow 22 (by kernel_rfl) (by kernel_rfl) fun hc hf => ?_
  simp only [List.take_succ_cons, List.take_zero, List.drop_succ_cons, List.drop_zero]
  repeat (refine Og.det [] rfl (fun K hK => ?_); go_simp; refine hK _ _ ?_; clear hK K)
  refine Og.fin fun W hW => ?_
  simp only [Og.opened_nil]
  clear hc hf k0 k2
  go_wp2
  go_ret
  exact ⟨rfl, b3.out.trans (hW.mono b3.out.size)⟩
theorem of_any (b : Nat) (C R S D V N Q x y : Int) (w : World) (h : MapAt w b C R S D V N Q) (ok : Ok C R S D V) (hx : I x) (hy : I y) :
    Calls Try.prog 54 #[.pointer (some ⟨b, 0, none⟩), .int .i64 x, .int .i64 y] w fun e w' => e = .returned (.int .i64 (Zn.of C R S x y)) ∧ Below w.heap.size w w' := by
  unfold Zn.of
  by_cases hin : 0 ≤ x ∧ x < C * S ∧ 0 ≤ y ∧ y < R * S
  · rw [if_pos hin]; exact of_some b C R S D V N Q x y w h ok hx hy hin
  · rw [if_neg hin]
    have m1 := Zn.side_bd (q := C) ok.s0 ok.s1 (by have := ok.c0; omega) ok.c1
    have m2 := Zn.side_bd (q := R) ok.s0 ok.s1 (by have := ok.r0; omega) ok.r1
    exact of_no _ (C * S) (R * S) x y w hx hy m1 m2 (Lib.hid (world_any b C R S D V N Q w h ok)) ((has_world ok x y).trans (decide_eq_false hin))
theorem zin_any (b : Nat) (C R S D V N Q x y : Int) (w : World) (h : MapAt w b C R S D V N Q) (ok : Ok C R S D V) (hx : I x) (hy : I y) :
    Calls Try.prog 42 #[.pointer (some ⟨b, 0, none⟩), .int .i64 x, .int .i64 y] w fun e w' => e = .returned (.tuple #[.int .i64 (Zn.into x (C * S)), .int .i64 (Zn.into y (R * S))]) ∧ Below w.heap.size w w' :=
  in_of _ _ _ x y w hx hy (Zn.side_bd (q := C) ok.s0 ok.s1 (by have := ok.c0; omega) ok.c1) (Zn.side_bd (q := R) ok.s0 ok.s1 (by have := ok.r0; omega) ok.r1) (Lib.hid (world_any b C R S D V N Q w h ok))
theorem in_nil (x y : Int) (w : World) (hx : I x) (hy : I y) :
    Calls Try.prog 42 #[.pointer none, .int .i64 x, .int .i64 y] w fun e w' => e = .returned (.tuple #[.int .i64 0, .int .i64 0]) ∧ Below w.heap.size w w' := by
  have := in_of none 0 0 x y w hx hy (by decide) (by decide) (Lib.hid (world_nil w))
  rwa [show Zn.into x 0 = 0 by unfold Zn.into; omega, show Zn.into y 0 = 0 by unfold Zn.into; omega] at this
end Go.Proofs.Ytljaahemlcaffaa
namespace Go.Proofs.Ytljaahemlcaffaa
open Go.RowKit
open Zn (Ok There)

theorem int_info : (Try.prog.info? 3).map (fun i => (i.zero, i.size, i.bytes)) = some (some (.int .i64 0), 1, 8) := by kernel_rfl
theorem ints_und : Try.prog.underlying 99 = some (.slice 3) := by kernel_rfl
/-- a row of ints that the call itself made -/
abbrev Own (W : World) (B : Nat) (v : Value) (l : List Int) : Prop := W.ownsRow B 3 1 v l.length (l.map (Value.int .i64))
theorem own_nil (W : World) (B : Nat) : Own W B (.slice none 0 0) [] := World.ownsRow_nil _ _ _ _
theorem below_grown {W W' : World} (hb : Below W.heap.size W W') : W.grownBy W' none := ⟨hb.os, hb.tape, hb.output, hb.size, fun k hk _ => hb.block k hk⟩
theorem own_below {W W' : World} {B : Nat} {v : Value} {l : List Int} (h : Own W B v l) (hb : Below W.heap.size W W') : Own W' B v l :=
  World.ownsRow.kept h (below_grown hb) (by cases v.ownBlock <;> simp)
theorem own_base {W : World} {B B' : Nat} {v : Value} {l : List Int} (h : Own W B v l) (hb : B' ≤ B) : Own W B' v l := by
  refine ⟨h.1, ?_⟩
  rcases h.2 with hn | ⟨g, cap, cur, e, hg, rest⟩
  · exact .inl hn
  · exact .inr ⟨g, cap, cur, e, by omega, rest⟩
theorem push_step {B : Nat} {w wr w1 : World} {v v' : Value} {l : List Int} {x : Int} {o : Obj} (hown : Own wr B v l) (hnx : Below B w wr) (hB : B ≤ wr.heap.size)
    (hown' : w1.ownsRow B 3 1 v' (l.length + 1) (l.map (Value.int .i64) ++ [.int .i64 x])) (hgrow : (wr.alloc o).grownBy w1 v.ownBlock) : Own w1 B v' (l ++ [x]) ∧ Below B w w1 :=
  ⟨by show w1.ownsRow B 3 1 v' (l ++ [x]).length ((l ++ [x]).map (Value.int .i64)); simpa using hown', (hnx.alloc hB o).grown hgrow (by simp; omega) (fun j hj => (World.ownsRow.lt hown j hj).1)⟩
theorem own_len {W : World} {B : Nat} {v : Value} {l : List Int} (h : Own W B v l) : ∃ A cap, v = .slice A l.length cap := by
  rcases h.2 with ⟨hv, hn⟩ | ⟨g, cap, cur, hv, _⟩
  · exact ⟨none, 0, by rw [hv, hn]⟩
  · exact ⟨_, cap, hv⟩
/-- the row's slice and its cells -/
theorem zown_at {W : World} {B : Nat} {v : Value} {l : List Int} (h : Own W B v l) : ∃ A cap, v = .slice A l.length cap ∧ Reads W W.heap.size A (ints l) := by
  rcases h.2 with ⟨hv, hn⟩ | ⟨g, cap, cur, hv, _, hg, _⟩
  · refine ⟨none, 0, by rw [hv, hn], fun h0 => ?_⟩
    rw [show ints l = [] by unfold ints; rw [List.length_eq_zero_iff.1 hn]; rfl] at h0
    simp at h0
  · refine ⟨_, cap, hv, fun _ => ⟨g, 0, rfl, (Array.getElem?_eq_some_iff.1 hg).1, fun k x hk => ?_⟩⟩
    have := World.ownsRow.cells h (g := g) (by rw [hv]; rfl) k x hk
    rwa [show (⟨g, 0, none⟩ : Addr).add k = ⟨g, 0 + k, none⟩ by unfold Addr.add; split <;> simp_all] at this

theorem bes_hit {C k : Int} {m : Nat} (h : Zn.besP C k m = true) : Zn.bes C k (m + 1) = Zn.bes C k m ++ [(m : Int)] := by rw [Zn.bes_succ, if_pos h]
theorem bes_miss {C k : Int} {m : Nat} (h : Zn.besP C k m = false) : Zn.bes C k (m + 1) = Zn.bes C k m := by rw [Zn.bes_succ, h]; simp

end Go.Proofs.Ytljaahemlcaffaa
