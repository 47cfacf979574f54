/- fixed.Clamp, rect.counted: what they answer. zones: Check, New, Count, World, Zone, In, Of: what they answer. zones: New, In, Of: what they answer. zones: Beside, Near: what they answer. -/
import Derived.Test.YtljaahemlcaffaaGreatK06
import Derived.Test.YtljaahemlcaffaaGreatK01
import Derived.Test.YtljaahemlcaffaaGreatRows
import Derived.Test.YtljaahemlcaffaaGreatK07
import Derived.LoopTactic
import Derived.OwnWalk
import Derived.WalkKit
namespace Go.Proofs.YtljaahemlcaffaaGreat
open Go.RowKit
attribute [local go_sem high] run_max_ints3

set_option maxHeartbeats 400000 in
set_option maxRecDepth 100000 in
theorem clamp_any (n : Int) (w : World) (_ : -9223372036854775808 ≤ n) (_ : n ≤ 9223372036854775807) :
    Calls Tryz.prog 97 #[.int .i64 n] w fun e w' => e = .returned (.int .i64 (Rc.clamp n)) ∧ w = w' := by
  go_enter Tryz.func97, Tryz.ntmps97
  go_wp2
  go_ret
  exact ⟨rfl, rfl⟩

set_option maxHeartbeats 1000000 in
set_option maxRecDepth 100000 in
theorem counted_none (a b c d : Int) (w : World) (ha : I a) (hb : I b) (hc : I c) (hd : I d) (h : Rc.None a b c d) :
    Calls Tryz.prog 102 #[.agg #[.int .i64 a, .int .i64 b, .int .i64 c, .int .i64 d]] w fun e w' => e = .returned (.agg #[.int .i64 0, .int .i64 0, .int .i64 0, .int .i64 0]) ∧ Below w.heap.size w w' := by
  obtain ⟨a0, a1⟩ := ha
  obtain ⟨b0, b1⟩ := hb
  obtain ⟨c0, c1⟩ := hc
  obtain ⟨d0, d1⟩ := hd
  have hx : Rc.clamp a < Rc.clamp c → Rc.clamp d ≤ Rc.clamp b := fun h' => by rcases h with h | h <;> omega
  clear h
  go_enter Tryz.func102, Tryz.ntmps102
  go_wp2
  refine still_tail 13 (by kernel_rfl) (by kernel_rfl) fun W hW hD => ?_
  simp only [List.take_succ_cons, List.take_zero, List.drop_succ_cons, List.drop_zero]
  repeat (first | still_step | still_call (still_of (clamp_any _ _ (by omega) (by omega))))
  refine wpStill_nil ?_
  have hD' := hD.out
  subst hD'
  clear hW hD
  go_wp2
  all_goals exact bodyPost_ret (v := .agg #[.int .i64 0, .int .i64 0, .int .i64 0, .int .i64 0]) (by simp [results, Tryz.results102, go_sem]) rfl ⟨rfl, Below.d' (bel2 _ _ _)⟩
set_option maxHeartbeats 1000000 in
set_option maxRecDepth 100000 in
theorem counted_some (a b c d : Int) (w : World) (ha : I a) (hb : I b) (hc : I c) (hd : I d) (h : ¬ Rc.None a b c d) :
    Calls Tryz.prog 102 #[.agg #[.int .i64 a, .int .i64 b, .int .i64 c, .int .i64 d]] w fun e w' => e = .returned (.agg #[.int .i64 (Rc.clamp a), .int .i64 (Rc.clamp b), .int .i64 (Rc.clamp c), .int .i64 (Rc.clamp d)]) ∧ Below w.heap.size w w' := by
  obtain ⟨a0, a1⟩ := ha
  obtain ⟨b0, b1⟩ := hb
  obtain ⟨c0, c1⟩ := hc
  obtain ⟨d0, d1⟩ := hd
  have hx : Rc.clamp a < Rc.clamp c := by unfold Rc.None at h; omega
  have hy : Rc.clamp b < Rc.clamp d := by unfold Rc.None at h; omega
  clear h
  go_enter Tryz.func102, Tryz.ntmps102
  go_wp2
  refine still_tail 13 (by kernel_rfl) (by kernel_rfl) fun W hW hD => ?_
  simp only [List.take_succ_cons, List.take_zero, List.drop_succ_cons, List.drop_zero]
  repeat (first | still_step | still_call (still_of (clamp_any _ _ (by omega) (by omega))))
  refine wpStill_nil ?_
  have hD' := hD.out
  subst hD'
  clear hW hD
  go_wp2
  all_goals exact bodyPost_ret (v := .agg #[.int .i64 (Rc.clamp a), .int .i64 (Rc.clamp b), .int .i64 (Rc.clamp c), .int .i64 (Rc.clamp d)]) (by simp [results, Tryz.results102, go_sem]) rfl ⟨rfl, Below.d' (bel2 _ _ _)⟩

set_option maxHeartbeats 400000 in
set_option maxRecDepth 100000 in
theorem none_yes (w : World) :
    Calls Tryz.prog 103 #[.agg #[.int .i64 0, .int .i64 0, .int .i64 0, .int .i64 0]] w fun e w' => e = .returned (.bool true) ∧ Below w.heap.size w w' := by
  go_enter Tryz.func103, Tryz.ntmps103
  go_wp2
  go_ret
  exact ⟨rfl, bel1 _ _⟩
set_option maxHeartbeats 400000 in
set_option maxRecDepth 100000 in
theorem none_no (a b c d : Int) (w : World) (h : a < c) :
    Calls Tryz.prog 103 #[.agg #[.int .i64 a, .int .i64 b, .int .i64 c, .int .i64 d]] w fun e w' => e = .returned (.bool false) ∧ Below w.heap.size w w' := by
  go_enter Tryz.func103, Tryz.ntmps103
  go_wp2
  all_goals
    go_ret
    exact ⟨rfl, bel1 _ _⟩
set_option maxHeartbeats 1000000 in
set_option maxRecDepth 100000 in
theorem outside_any (n lo hi : Int) (w : World) (hn : I n) (hl : -1073741824 ≤ lo ∧ lo ≤ 1073741824) (hh : -1073741824 ≤ hi ∧ hi ≤ 1073741824) :
    Calls Tryz.prog 104 #[.int .i64 n, .int .i64 lo, .int .i64 hi] w fun e w' => e = .returned (.int .i64 (Rc.out n lo hi)) ∧ w = w' := by
  obtain ⟨n0, n1⟩ := hn
  obtain ⟨l0, l1⟩ := hl
  obtain ⟨h0, h1⟩ := hh
  obtain ⟨c0, c1⟩ := Rc.clamp_bd n
  go_enter Tryz.func104, Tryz.ntmps104
  go_wp2_with (go_at_call 97; refine (clamp_any _ _ (by omega) (by omega)).mono ?_; rintro e w' ⟨rfl, rfl⟩)
  go_ret
  exact ⟨rfl, rfl⟩

set_option maxHeartbeats 1000000 in
set_option maxRecDepth 100000 in
theorem gap_none (a b c d x y : Int) (w : World) (ha : I a) (hb : I b) (hc : I c) (hd : I d) (h : Rc.None a b c d) :
    Calls Tryz.prog 84 #[.agg #[.int .i64 a, .int .i64 b, .int .i64 c, .int .i64 d], .int .i64 x, .int .i64 y] w fun e w' => e = .returned (.int .i64 (-1)) ∧ Below w.heap.size w w' := by
  have C := Lib.hid (fun W => counted_none a b c d W ha hb hc hd h)
  clear ha hb hc hd h
  go_enter Tryz.func84, Tryz.ntmps84
  go_wp2_with fail
  refine (C.out _).mono ?_
  rintro e w1 ⟨rfl, b1⟩
  obtain ⟨c1, f1⟩ := bcell b1
  go_wp2_with fail
  refine (none_yes _).mono ?_
  rintro e w2 ⟨rfl, b2⟩
  clear c1 f1
  have b1' := (bel1 w _).trans (b1.mono (by simp))
  have b3 := (set4 b1' _ (Nat.le_refl _) _ _ _ _).trans (b2.mono (by simpa using b1'.size))
  clear b1 b2 b1'
  go_wp2
  go_ret
  exact ⟨rfl, b3⟩
set_option maxHeartbeats 1000000 in
set_option maxRecDepth 100000 in
theorem gap_some (a b c d x y : Int) (w : World) (ha : I a) (hb : I b) (hc : I c) (hd : I d) (hx : I x) (hy : I y) (h : ¬ Rc.None a b c d) :
    Calls Tryz.prog 84 #[.agg #[.int .i64 a, .int .i64 b, .int .i64 c, .int .i64 d], .int .i64 x, .int .i64 y] w fun e w' => e = .returned (.int .i64 (max (Rc.out x (Rc.clamp a) (Rc.clamp c)) (Rc.out y (Rc.clamp b) (Rc.clamp d)))) ∧ Below w.heap.size w w' := by
  have C := Lib.hid (fun W => counted_some a b c d W ha hb hc hd h)
  have D := Lib.hid (fun W => none_no (Rc.clamp a) (Rc.clamp b) (Rc.clamp c) (Rc.clamp d) W (by unfold Rc.None at h; omega))
  have X := Lib.hid (fun W => outside_any x (Rc.clamp a) (Rc.clamp c) W hx (Rc.clamp_bd a) (Rc.clamp_bd c))
  have Y := Lib.hid (fun W => outside_any y (Rc.clamp b) (Rc.clamp d) W hy (Rc.clamp_bd b) (Rc.clamp_bd d))
  clear ha hb hc hd h hx hy
  go_enter Tryz.func84, Tryz.ntmps84
  go_wp2_with fail
  refine (C.out _).mono ?_
  rintro e w1 ⟨rfl, b1⟩
  obtain ⟨c1, f1⟩ := bcell b1
  go_wp2_with fail
  refine (D.out _).mono ?_
  rintro e w2 ⟨rfl, b2⟩
  obtain ⟨c2, f2⟩ := bcell b2
  have b1' := (bel1 w _).trans (b1.mono (by simp))
  have b3 := (set4 b1' _ (Nat.le_refl _) _ _ _ _).trans (b2.mono (by simpa using b1'.size))
  have hz : w.heap.size < w1.heap.size := by have := b1.size; simp at this; omega
  clear b1 b2 b1'
  go_wp2_with fail
  refine still_tail 12 (by kernel_rfl) (by kernel_rfl) fun W hW hD => ?_
  simp only [List.take_succ_cons, List.take_zero, List.drop_succ_cons, List.drop_zero]
  iterate 5 still_step
  still_call (still_of (X.out _))
  iterate 5 still_step
  still_call (still_of (Y.out _))
  refine wpStill_nil ?_
  have hD' := hD.out
  subst hD'
  clear hW hD
  go_wp2
  go_ret
  exact ⟨rfl, Below.d' b3⟩

set_option maxHeartbeats 1000000 in
set_option maxRecDepth 100000 in
theorem apart_any (a b : Int) (w : World) (ha : I a) (hb : I b) :
    Calls Tryz.prog 83 #[.int .i64 a, .int .i64 b] w fun e w' => e = .returned (.int .i64 (Rc.dist a b)) ∧ w = w' := by
  obtain ⟨a0, a1⟩ := ha
  obtain ⟨b0, b1⟩ := hb
  obtain ⟨c0, c1⟩ := Rc.clamp_bd a
  obtain ⟨d0, d1⟩ := Rc.clamp_bd b
  go_enter Tryz.func83, Tryz.ntmps83
  go_wp2_with (go_at_call 97; refine (clamp_any _ _ (by omega) (by omega)).mono ?_; rintro e w' ⟨rfl, rfl⟩)
  go_ret
  exact ⟨rfl, rfl⟩
set_option maxHeartbeats 1000000 in
set_option maxRecDepth 100000 in
theorem far_any (x y u v : Int) (w : World) (hx : I x) (hy : I y) (hu : I u) (hv : I v) :
    Calls Tryz.prog 48 #[.int .i64 x, .int .i64 y, .int .i64 u, .int .i64 v] w fun e w' => e = .returned (.int .i64 (Rc.far x y u v)) ∧ w = w' := by
  go_enter Tryz.func48, Tryz.ntmps48
  go_wp2_with fail
  refine (apart_any _ _ _ hx hu).mono ?_
  rintro e w' ⟨rfl, rfl⟩
  go_wp2_with fail
  refine (apart_any _ _ _ hy hv).mono ?_
  rintro e w' ⟨rfl, rfl⟩
  go_wp2
  go_ret
  exact ⟨rfl, rfl⟩

theorem gap_any (a b c d x y : Int) (w : World) (ha : I a) (hb : I b) (hc : I c) (hd : I d) (hx : I x) (hy : I y) :
    Calls Tryz.prog 84 #[.agg #[.int .i64 a, .int .i64 b, .int .i64 c, .int .i64 d], .int .i64 x, .int .i64 y] w fun e w' => e = .returned (.int .i64 (Rc.gap a b c d x y)) ∧ Below w.heap.size w w' := by
  unfold Rc.gap
  by_cases h : Rc.None a b c d
  · rw [if_pos h]; exact gap_none a b c d x y w ha hb hc hd h
  · rw [if_neg h]; exact gap_some a b c d x y w ha hb hc hd hx hy h
def hasB (a b c d x y : Int) : Bool := decide (Rc.gap a b c d x y = 0)
def nearB (a b c d x y n : Int) : Bool := decide (0 ≤ Rc.gap a b c d x y ∧ Rc.gap a b c d x y ≤ n)
set_option maxHeartbeats 1000000 in
set_option maxRecDepth 100000 in
theorem rchas_any (a b c d x y : Int) (w : World) (ha : I a) (hb : I b) (hc : I c) (hd : I d) (hx : I x) (hy : I y) :
    Calls Tryz.prog 51 #[.agg #[.int .i64 a, .int .i64 b, .int .i64 c, .int .i64 d], .int .i64 x, .int .i64 y] w fun e w' => e = .returned (.bool (hasB a b c d x y)) ∧ Below w.heap.size w w' := by
  have G := Lib.hid (fun W => gap_any a b c d x y W ha hb hc hd hx hy)
  unfold hasB
  generalize Rc.gap a b c d x y = g at *
  clear ha hb hc hd hx hy
  go_enter Tryz.func51, Tryz.ntmps51
  go_wp2_with fail
  refine (G.out _).mono ?_
  rintro e w1 ⟨rfl, b1⟩
  go_wp2
  go_ret
  exact ⟨ret_bool (by rw [Bool.eq_iff_iff]; simp), (bel1 w _).trans (b1.mono (by simp))⟩
end Go.Proofs.YtljaahemlcaffaaGreat
namespace Go.Proofs.YtljaahemlcaffaaGreat
open Go.RowKit
open Zn (Ok There)

theorem box7 {W : World} {b T : Nat} {v0 v1 v2 v3 v4 v5 v6 : Value} (h : W.heap[b]? = some (.cells #[v0, v1, v2, v3, v4, v5, v6] T (0, 0))) :
    (W.cell? ⟨b, 0, none⟩ = some v0 ∧ W.cell? ⟨b, 1, none⟩ = some v1 ∧ W.cell? ⟨b, 2, none⟩ = some v2 ∧ W.cell? ⟨b, 3, none⟩ = some v3 ∧ W.cell? ⟨b, 4, none⟩ = some v4 ∧ W.cell? ⟨b, 5, none⟩ = some v5 ∧ W.cell? ⟨b, 6, none⟩ = some v6) ∧
    (W.frozen? ⟨b, 0, none⟩ = false ∧ W.frozen? ⟨b, 1, none⟩ = false ∧ W.frozen? ⟨b, 2, none⟩ = false ∧ W.frozen? ⟨b, 3, none⟩ = false ∧ W.frozen? ⟨b, 4, none⟩ = false ∧ W.frozen? ⟨b, 5, none⟩ = false ∧ W.frozen? ⟨b, 6, none⟩ = false) := by
  simp [World.cell?, World.frozen?, h]

/-- at a block lies a map of this config -/
def MapAt (W : World) (b : Nat) (C R S D V N Q : Int) : Prop := W.heap[b]? = some (.cells #[.int .i64 C, .int .i64 R, .int .i64 S, .int .i64 D, .int .i64 V, .int .i64 N, .int .i64 Q] 68 (0, 0))
theorem MapAt.lt {W : World} {b : Nat} {C R S D V N Q : Int} (h : MapAt W b C R S D V N Q) : b < W.heap.size := (Array.getElem?_eq_some_iff.1 h).1
theorem MapAt.below {W W' : World} {b : Nat} {C R S D V N Q : Int} (h : MapAt W b C R S D V N Q) (hb : Below W.heap.size W W') : MapAt W' b C R S D V N Q := (hb.block b h.lt).trans h
theorem MapAt.at {W W' : World} {B b : Nat} {C R S D V N Q : Int} (h : MapAt W b C R S D V N Q) (hb : Below B W W') (hl : b < B) : MapAt W' b C R S D V N Q := (hb.block b hl).trans h

theorem zlat_below {w : World} (p : Lat grows w) : Below w.heap.size w p.W := p.h
set_option maxHeartbeats 400000 in
theorem zwithin_any (n lo hi : Int) (w : World) :
    Calls Tryz.prog 56 #[.int .i64 n, .int .i64 lo, .int .i64 hi] w fun e w' => e = .returned (.bool (decide (lo ≤ n ∧ n ≤ hi))) ∧ w = w' := by
  go_enter Tryz.func56, Tryz.ntmps56
  go_wp2
  all_goals
    go_ret
    refine ⟨ret_bool ?_, rfl⟩
    simp
  all_goals omega
theorem okB_is (C R S D V N Q : Int) : Zn.okB C R S D V N Q = true ↔ ((1 ≤ C ∧ C ≤ 4) ∧ (1 ≤ R ∧ R ≤ 4) ∧ (256 ≤ S ∧ S ≤ 1048576) ∧ (0 ≤ D ∧ D ≤ S) ∧ (0 ≤ V ∧ V ≤ S) ∧ (1 ≤ N ∧ N ≤ 16) ∧ (1 ≤ Q ∧ Q ≤ 64)) := by unfold Zn.okB; rw [decide_eq_true_eq]
set_option maxHeartbeats 2000000 in
theorem zcheck_r (C R S D V N Q r : Int) (w : World) (hr : Hid ((Zn.okB C R S D V N Q = true ∧ r = 0) ∨ (Zn.okB C R S D V N Q = false ∧ r = 1))) :
    Calls Tryz.prog 29 #[.agg #[.int .i64 C, .int .i64 R, .int .i64 S, .int .i64 D, .int .i64 V, .int .i64 N, .int .i64 Q]] w fun e w' => e = .returned (.int .i64 r) ∧ Below w.heap.size w w' := by
  go_enter Tryz.func29, Tryz.ntmps29
  go_wp2_with (go_at_call 56; refine (zwithin_any _ _ _ _).mono ?_; rintro e w' ⟨rfl, rfl⟩)
  all_goals
    go_ret
    refine ⟨ret_int ?_, bel1 _ _⟩
    rcases hr.out with ⟨h, hr'⟩ | ⟨h, hr'⟩
    · have h2 := (okB_is _ _ _ _ _ _ _).1 h
      omega
    · have h2 := mt (okB_is _ _ _ _ _ _ _).2 (by rw [h]; decide)
      omega
theorem zcheck_any (C R S D V N Q : Int) (w : World) :
    Calls Tryz.prog 29 #[.agg #[.int .i64 C, .int .i64 R, .int .i64 S, .int .i64 D, .int .i64 V, .int .i64 N, .int .i64 Q]] w fun e w' => e = .returned (.int .i64 (if Zn.okB C R S D V N Q then 0 else 1)) ∧ Below w.heap.size w w' :=
  zcheck_r _ _ _ _ _ _ _ _ w (Lib.hid (by cases h : Zn.okB C R S D V N Q <;> simp))

set_option maxHeartbeats 1000000 in
theorem count_any (b : Nat) (C R S D V N Q : Int) (w : World) (h : MapAt w b C R S D V N Q) (ok : Ok C R S D V) :
    Calls Tryz.prog 21 #[.pointer (some ⟨b, 0, none⟩)] w fun e w' => e = .returned (.int .i64 (C * R)) ∧ Below w.heap.size w w' := by
  obtain ⟨⟨k0, k1, k2, k3, k4, k5, k6⟩, f0, f1, f2, f3, f4, f5, f6⟩ := box7 h
  have lt := h.lt
  have m := Zn.mul_bd ok
  have s0 : IntKind.i64.wrap (C * R) = C * R := IntWalk.i64_in _ ⟨by omega, by omega⟩
  clear h ok f0 f1 f2 f3 f4 f5 f6 k2 k3 k4 k5 k6
  go_enter Tryz.func21, Tryz.ntmps21
  go_wp2
  refine Og.grow 12 (by kernel_rfl) (by kernel_rfl) fun hc hf => ?_
  simp only [List.take_succ_cons, List.take_zero, List.drop_succ_cons, List.drop_zero]
  repeat (refine Og.det [] rfl (fun K hK => ?_); go_simp; refine hK _ _ ?_; clear hK K)
  refine Og.fin fun W hW => ?_
  simp only [Og.opened_nil]
  clear hc hf
  go_wp2
  go_ret
  exact ⟨rfl, hW⟩
set_option maxHeartbeats 400000 in
theorem count_nil (w : World) :
    Calls Tryz.prog 21 #[.pointer none] w fun e w' => e = .returned (.int .i64 0) ∧ w = w' := by
  go_enter Tryz.func21, Tryz.ntmps21
  go_wp2
  go_ret
  exact ⟨rfl, rfl⟩
theorem there_two (C R k : Int) : decide (There C R k) = (decide (0 ≤ k) && decide (k < C * R)) := by rw [Bool.eq_iff_iff, Bool.and_eq_true, decide_eq_true_eq, decide_eq_true_eq, decide_eq_true_eq]; exact Iff.rfl
set_option maxHeartbeats 1000000 in
theorem there_any (b : Nat) (C R S D V N Q k : Int) (w : World) (h : MapAt w b C R S D V N Q) (ok : Ok C R S D V) :
    Calls Tryz.prog 47 #[.pointer (some ⟨b, 0, none⟩), .int .i64 k] w fun e w' => e = .returned (.bool (decide (There C R k))) ∧ Below w.heap.size w w' := by
  have X := Lib.hid (count_any b C R S D V N Q w h ok)
  clear h ok
  rw [there_two]
  generalize C * R = n at *
  go_enter Tryz.func47, Tryz.ntmps47
  go_wp2_with (go_at_call 21; refine X.out.mono ?_; rintro e w1 ⟨rfl, b1⟩)
  all_goals
    go_ret
    first | exact ⟨ret_bool (by simp [*]), by assumption⟩ | exact ⟨ret_bool (by simp; omega), Below.refl _ _⟩
set_option maxHeartbeats 400000 in
theorem there_nil (k : Int) (w : World) :
    Calls Tryz.prog 47 #[.pointer none, .int .i64 k] w fun e w' => e = .returned (.bool false) ∧ w = w' := by
  go_enter Tryz.func47, Tryz.ntmps47
  go_wp2_with (go_at_call 21; refine (count_nil _).mono ?_; rintro e w' ⟨rfl, rfl⟩)
  all_goals
    go_ret
    first | exact ⟨rfl, rfl⟩ | exact ⟨ret_bool (by simp; omega), rfl⟩
set_option maxHeartbeats 1000000 in
theorem column_any (b : Nat) (C R S D V N Q k : Int) (w : World) (h : MapAt w b C R S D V N Q) (ok : Ok C R S D V) (hk : There C R k) :
    Calls Tryz.prog 49 #[.pointer (some ⟨b, 0, none⟩), .int .i64 k] w fun e w' => e = .returned (.int .i64 (k % C)) ∧ w = w' := by
  obtain ⟨⟨k0, k1, k2, k3, k4, k5, k6⟩, f0, f1, f2, f3, f4, f5, f6⟩ := box7 h
  have lt := h.lt
  have m := Zn.mul_bd ok
  have cb := Zn.col_bd (k := k) ok
  have c0 := ok.c0
  have c1 := ok.c1
  have hn : C ≠ 0 := by omega
  have s0 : k.tmod C = k % C := Int.tmod_eq_emod_of_nonneg hk.1
  clear h ok f0 f1 f2 f3 f4 f5 f6 k1 k2 k3 k4 k5 k6
  go_enter Tryz.func49, Tryz.ntmps49
  go_wp2
  go_ret
  exact ⟨rfl, rfl⟩
set_option maxHeartbeats 1000000 in
theorem row_any (b : Nat) (C R S D V N Q k : Int) (w : World) (h : MapAt w b C R S D V N Q) (ok : Ok C R S D V) (hk : There C R k) :
    Calls Tryz.prog 50 #[.pointer (some ⟨b, 0, none⟩), .int .i64 k] w fun e w' => e = .returned (.int .i64 (k / C)) ∧ w = w' := by
  obtain ⟨⟨k0, k1, k2, k3, k4, k5, k6⟩, f0, f1, f2, f3, f4, f5, f6⟩ := box7 h
  have lt := h.lt
  have rb := Zn.row_bd ok hk
  have r1 := ok.r1
  have c0 := ok.c0
  have hn : C ≠ 0 := by omega
  have s0 : IntKind.i64.wrap (k.tdiv C) = k / C := by rw [Int.tdiv_eq_ediv_of_nonneg hk.1]; exact IntWalk.i64_in _ ⟨by omega, by omega⟩
  clear h ok f0 f1 f2 f3 f4 f5 f6 k1 k2 k3 k4 k5 k6
  go_enter Tryz.func50, Tryz.ntmps50
  go_wp2
  go_ret
  exact ⟨rfl, rfl⟩
set_option maxHeartbeats 1000000 in
theorem world_nil (w : World) :
    Calls Tryz.prog 52 #[.pointer none] w fun e w' => e = .returned (.agg #[.int .i64 0, .int .i64 0, .int .i64 0, .int .i64 0]) ∧ Below w.heap.size w w' := by
  go_enter Tryz.func52, Tryz.ntmps52
  go_wp2
  exact bodyPost_ret (v := .agg #[.int .i64 0, .int .i64 0, .int .i64 0, .int .i64 0]) (by simp [results, Tryz.results52, go_sem]) rfl ⟨rfl, bel1 w _⟩
set_option maxHeartbeats 2000000 in
set_option maxRecDepth 100000 in
theorem world_any (b : Nat) (C R S D V N Q : Int) (w : World) (h : MapAt w b C R S D V N Q) (ok : Ok C R S D V) :
    Calls Tryz.prog 52 #[.pointer (some ⟨b, 0, none⟩)] w fun e w' => e = .returned (.agg #[.int .i64 0, .int .i64 0, .int .i64 (C * S), .int .i64 (R * S)]) ∧ Below w.heap.size w w' := by
  obtain ⟨⟨k0, k1, k2, k3, k4, k5, k6⟩, f0, f1, f2, f3, f4, f5, f6⟩ := box7 h
  have lt := h.lt
  have m1 := Zn.side_bd (q := C) ok.s0 ok.s1 (by have := ok.c0; omega) ok.c1
  have m2 := Zn.side_bd (q := R) ok.s0 ok.s1 (by have := ok.r0; omega) ok.r1
  have s0 : IntKind.i64.wrap (C * S) = C * S := IntWalk.i64_in _ ⟨by omega, by omega⟩
  have s1 : IntKind.i64.wrap (R * S) = R * S := IntWalk.i64_in _ ⟨by omega, by omega⟩
  clear h ok f0 f1 f2 f3 f4 f5 f6 k3 k4 k5 k6 m1 m2
  go_enter Tryz.func52, Tryz.ntmps52
  go_wp2
  have hx := Lib.hid (at1 w (.cells #[.int .i64 0, .int .i64 0, .int .i64 0, .int .i64 0] 85))
  have hz := Lib.hid (show w.heap.size < (w.alloc (.cells #[.int .i64 0, .int .i64 0, .int .i64 0, .int .i64 0] 85)).heap.size by rw [size1]; omega)
  refine Og.grow 23 (by kernel_rfl) (by kernel_rfl) fun hc hf => ?_
  simp only [List.take_succ_cons, List.take_zero, List.drop_succ_cons, List.drop_zero]
  repeat (refine Og.det [] rfl (fun K hK => ?_); go_simp; refine hK _ _ ?_; clear hK K)
  refine Og.fin fun W hW => ?_
  simp only [Og.opened_nil]
  clear hc hf k0 k1 k2
  have q1 := (hW.block _ hz.out).trans hx.out
  obtain ⟨⟨k0, k1, k2, k3⟩, f0, f1, f2, f3⟩ := box4 q1
  have b1 := (bel1 w _).trans (hW.mono (by rw [size1]; omega))
  clear hW q1
  go_wp2
  exact bodyPost_ret (v := .agg #[.int .i64 0, .int .i64 0, .int .i64 (C * S), .int .i64 (R * S)]) (by simp [results, Tryz.results52, go_sem, k0, k1, k2, k3]) rfl ⟨rfl, set4 b1 _ (Nat.le_refl _) _ _ _ _⟩
end Go.Proofs.YtljaahemlcaffaaGreat
namespace Go.Proofs.YtljaahemlcaffaaGreat
open Go.RowKit
open Zn (Ok There)
attribute [local go_sem high] run_max_ints3

set_option maxHeartbeats 1000000 in
theorem new_no (C R S D V N Q : Int) (w : World) (h : Zn.okB C R S D V N Q = false) :
    Calls Tryz.prog 10 #[.agg #[.int .i64 C, .int .i64 R, .int .i64 S, .int .i64 D, .int .i64 V, .int .i64 N, .int .i64 Q]] w fun e w' => e = .returned (.tuple #[.pointer none, .int .i64 1]) ∧ Below w.heap.size w w' := by
  have X := Lib.hid (fun W => zcheck_r C R S D V N Q 1 W (Lib.hid (.inr ⟨h, rfl⟩)))
  clear h
  go_enter Tryz.func10, Tryz.ntmps10
  go_wp2_with fail
  refine (X.out _).mono ?_
  rintro e w1 ⟨rfl, b1⟩
  go_wp2
  go_ret2
  exact ⟨rfl, (bel1 w _).trans (b1.mono (by rw [size1]; omega))⟩
set_option maxHeartbeats 1000000 in
theorem new_yes (C R S D V N Q : Int) (w : World) (h : Zn.okB C R S D V N Q = true) :
    Calls Tryz.prog 10 #[.agg #[.int .i64 C, .int .i64 R, .int .i64 S, .int .i64 D, .int .i64 V, .int .i64 N, .int .i64 Q]] w fun e w' => ∃ b, e = .returned (.tuple #[.pointer (some ⟨b, 0, none⟩), .int .i64 0]) ∧ w.heap.size ≤ b ∧ MapAt w' b C R S D V N Q ∧ Below w.heap.size w w' := by
  have X := Lib.hid (fun W => zcheck_r C R S D V N Q 0 W (Lib.hid (.inl ⟨h, rfl⟩)))
  clear h
  go_enter Tryz.func10, Tryz.ntmps10
  go_wp2_with fail
  refine (X.out _).mono ?_
  rintro e w1 ⟨rfl, b1⟩
  have hx := (b1.block w.heap.size (by rw [size1]; omega)).trans (at1 w _)
  have b2 := Lib.hid ((bel1 w _).trans (b1.mono (by rw [size1]; omega)))
  obtain ⟨⟨k0, k1, k2, k3, k4, k5, k6⟩, f0, f1, f2, f3, f4, f5, f6⟩ := box7 hx
  clear hx b1 X
  go_wp2
  go_ret2
  exact ⟨w1.heap.size, rfl, b2.out.size, at1 w1 _, b2.out.trans ((bel1 w1 _).mono b2.out.size)⟩

set_option maxHeartbeats 400000 in
theorem brought_any (n e : Int) (w : World) (_ : I n) (h0 : 0 ≤ e) (h1 : e ≤ 4194304) :
    Calls Tryz.prog 98 #[.int .i64 n, .int .i64 e] w fun x w' => x = .returned (.int .i64 (Zn.into n e)) ∧ w = w' := by
  go_enter Tryz.func98, Tryz.ntmps98
  go_wp2
  go_ret
  refine ⟨ret_int ?_, rfl⟩
  unfold Zn.into
  omega
set_option maxHeartbeats 2000000 in
/-- In, by what World tells -/
theorem in_of (b : Option Addr) (p q x y : Int) (w : World) (hx : I x) (hy : I y) (hp : 0 ≤ p ∧ p ≤ 4194304) (hq : 0 ≤ q ∧ q ≤ 4194304)
    (h : Hid (Calls Tryz.prog 52 #[.pointer b] w fun e w' => e = .returned (.agg #[.int .i64 0, .int .i64 0, .int .i64 p, .int .i64 q]) ∧ Below w.heap.size w w')) :
    Calls Tryz.prog 75 #[.pointer b, .int .i64 x, .int .i64 y] w fun e w' => e = .returned (.tuple #[.int .i64 (Zn.into x p), .int .i64 (Zn.into y q)]) ∧ Below w.heap.size w w' := by
  have X := Lib.hid (fun W => brought_any x p W hx hp.1 hp.2)
  have Y := Lib.hid (fun W => brought_any y q W hy hq.1 hq.2)
  generalize Zn.into x p = u at *
  generalize Zn.into y q = v at *
  clear hx hy hp hq
  go_enter Tryz.func75, Tryz.ntmps75
  go_wp2_with fail
  refine h.out.mono ?_
  rintro e w1 ⟨rfl, b1⟩
  go_wp2_with fail
  refine Og.grow 10 (by kernel_rfl) (by kernel_rfl) fun hc hf => ?_
  simp only [List.take_succ_cons, List.take_zero, List.drop_succ_cons, List.drop_zero]
  repeat (refine Og.det [] rfl (fun K hK => ?_); go_simp; first | (refine hK _ _ ?_; clear hK K) | (with_reducible refine ⟨_, fun p => Og.same (X.out _), hK _ _ ?_⟩; clear hK K) | (with_reducible refine ⟨_, fun p => Og.same (Y.out _), hK _ _ ?_⟩; clear hK K))
  refine Og.fin fun W hW => ?_
  simp only [Og.opened_nil]
  clear hc hf
  go_wp2
  go_ret2
  exact ⟨rfl, (b1.trans ((bel1 w1 _).mono b1.size)).trans (hW.mono (by rw [size1]; have := b1.size; omega))⟩
/-- Of, by what World and Has tell -/
theorem of_no (b : Option Addr) (p q x y : Int) (w : World) (hx : I x) (hy : I y) (hp : 0 ≤ p ∧ p ≤ 4194304) (hq : 0 ≤ q ∧ q ≤ 4194304)
    (h : Hid (Calls Tryz.prog 52 #[.pointer b] w fun e w' => e = .returned (.agg #[.int .i64 0, .int .i64 0, .int .i64 p, .int .i64 q]) ∧ Below w.heap.size w w'))
    (hn : hasB 0 0 p q x y = false) :
    Calls Tryz.prog 25 #[.pointer b, .int .i64 x, .int .i64 y] w fun e w' => e = .returned (.int .i64 (-1)) ∧ Below w.heap.size w w' := by
  have X := Lib.hid (fun W => rchas_any 0 0 p q x y W (by decide) (by decide) (by unfold I; omega) (by unfold I; omega) hx hy)
  rw [hn] at X
  clear hx hy hp hq hn
  go_enter Tryz.func25, Tryz.ntmps25
  go_wp2_with fail
  refine h.out.mono ?_
  rintro e w1 ⟨rfl, b1⟩
  go_wp2_with fail
  refine (X.out _).mono ?_
  rintro e w2 ⟨rfl, b2⟩
  go_wp2
  go_ret
  exact ⟨rfl, b1.trans (b2.mono b1.size)⟩
theorem has_same (a b c d x y : Int) : hasB a b c d x y = Rc.hasR a b c d x y := by
  unfold hasB Rc.hasR
  rw [decide_eq_decide]
  exact Rc.gap_has a b c d x y
theorem of_nil (x y : Int) (w : World) (hx : I x) (hy : I y) :
    Calls Tryz.prog 25 #[.pointer none, .int .i64 x, .int .i64 y] w fun e w' => e = .returned (.int .i64 (-1)) ∧ Below w.heap.size w w' :=
  of_no none 0 0 x y w hx hy (by decide) (by decide) (Lib.hid (world_nil w)) (by rw [has_same]; unfold Rc.hasR; rw [Rc.clamp_zero]; exact decide_eq_false (by omega))
theorem has_world {C R S D V : Int} (ok : Ok C R S D V) (x y : Int) : hasB 0 0 (C * S) (R * S) x y = decide (0 ≤ x ∧ x < C * S ∧ 0 ≤ y ∧ y < R * S) := by
  have m1 := Zn.side_bd (q := C) ok.s0 ok.s1 (by have := ok.c0; omega) ok.c1
  have m2 := Zn.side_bd (q := R) ok.s0 ok.s1 (by have := ok.r0; omega) ok.r1
  rw [has_same]
  unfold Rc.hasR
  rw [decide_eq_decide, Rc.clamp_zero, Rc.clamp_in (n := C * S) (by omega) (by omega), Rc.clamp_in (n := R * S) (by omega) (by omega)]
  rw [Zn.le_clamp (by omega) (by omega), Zn.le_clamp (by omega) (by omega), Zn.clamp_lt (by have := ok.s0; have := ok.c0; omega) (by omega), Zn.clamp_lt (by have := ok.s0; have := ok.c0; omega) (by omega)]
set_option maxHeartbeats 2000000 in
set_option maxRecDepth 100000 in
theorem of_some (b : Nat) (C R S D V N Q x y : Int) (w : World) (h : MapAt w b C R S D V N Q) (ok : Ok C R S D V) (hx : I x) (hy : I y) (hin : 0 ≤ x ∧ x < C * S ∧ 0 ≤ y ∧ y < R * S) :
    Calls Tryz.prog 25 #[.pointer (some ⟨b, 0, none⟩), .int .i64 x, .int .i64 y] w fun e w' => e = .returned (.int .i64 (y / S * C + x / S)) ∧ Below w.heap.size w w' := by
  have m1 := Zn.side_bd (q := C) ok.s0 ok.s1 (by have := ok.c0; omega) ok.c1
  have m2 := Zn.side_bd (q := R) ok.s0 ok.s1 (by have := ok.r0; omega) ok.r1
  have X := Lib.hid (fun W => rchas_any 0 0 (C * S) (R * S) x y W (by decide) (by decide) (by unfold I; omega) (by unfold I; omega) hx hy)
  rw [has_world ok, decide_eq_true hin] at X
  have Wd := Lib.hid (world_any b C R S D V N Q w h ok)
  have hk := Zn.of_in ok hin.1 hin.2.1 hin.2.2.1 hin.2.2.2
  have hb := Zn.mul_bd ok
  have e0 : Zn.of C R S x y = y / S * C + x / S := if_pos hin
  rw [e0] at hk
  have hyd : 0 ≤ y / S ∧ y / S < R := ⟨(Zn.div_ge ok.s0).2 (by omega), (Zn.div_lt ok.s0).2 (by omega)⟩
  have hyc : 0 ≤ y / S * C ∧ y / S * C ≤ 16 := by
    have : 0 ≤ x / S := (Zn.div_ge ok.s0).2 (by omega)
    exact ⟨Int.mul_nonneg hyd.1 (by have := ok.c0; omega), by have := hk.2; omega⟩
  obtain ⟨hk0, hk1⟩ := hk
  have s0 : y.tdiv S = y / S := Int.tdiv_eq_ediv_of_nonneg (by omega)
  have s1 : x.tdiv S = x / S := Int.tdiv_eq_ediv_of_nonneg (by omega)
  have s2 : IntKind.i64.wrap (y / S * C) = y / S * C := IntWalk.i64_in _ ⟨by omega, by omega⟩
  have s3 : IntKind.i64.wrap (y / S * C + x / S) = y / S * C + x / S := IntWalk.i64_in _ ⟨by omega, by omega⟩
  have s4 : IntKind.i64.wrap (y / S) = y / S := IntWalk.i64_in _ ⟨by have := ok.r1; omega, by have := ok.r1; omega⟩
  have s5 : IntKind.i64.wrap (x / S) = x / S := IntWalk.i64_in _ ⟨by omega, by omega⟩
  have hn : S ≠ 0 := by have := ok.s0; omega
  have HM := Lib.hid h
  clear h ok hin m1 m2 hb hyd hyc e0 hk0 hk1
  go_enter Tryz.func25, Tryz.ntmps25
  go_wp2_with fail
  refine Wd.out.mono ?_
  rintro e w1 ⟨rfl, b1⟩
  go_wp2_with fail
  refine (X.out _).mono ?_
  rintro e w2 ⟨rfl, b2⟩
  have b3 := Lib.hid (b1.trans (b2.mono b1.size))
  have hm := HM.out.below b3.out
  have lt := hm.lt
  obtain ⟨⟨k0, k1, k2, k3, k4, k5, k6⟩, f0, f1, f2, f3, f4, f5, f6⟩ := box7 hm
  clear b1 b2 hm f0 f1 f2 f3 f4 f5 f6 k1 k3 k4 k5 k6 X Wd HM
  go_wp2
  refine Og.grow 22 (by kernel_rfl) (by kernel_rfl) fun hc hf => ?_
  simp only [List.take_succ_cons, List.take_zero, List.drop_succ_cons, List.drop_zero]
  repeat (refine Og.det [] rfl (fun K hK => ?_); go_simp; refine hK _ _ ?_; clear hK K)
  refine Og.fin fun W hW => ?_
  simp only [Og.opened_nil]
  clear hc hf k0 k2
  go_wp2
  go_ret
  exact ⟨rfl, b3.out.trans (hW.mono b3.out.size)⟩
theorem of_any (b : Nat) (C R S D V N Q x y : Int) (w : World) (h : MapAt w b C R S D V N Q) (ok : Ok C R S D V) (hx : I x) (hy : I y) :
    Calls Tryz.prog 25 #[.pointer (some ⟨b, 0, none⟩), .int .i64 x, .int .i64 y] w fun e w' => e = .returned (.int .i64 (Zn.of C R S x y)) ∧ Below w.heap.size w w' := by
  unfold Zn.of
  by_cases hin : 0 ≤ x ∧ x < C * S ∧ 0 ≤ y ∧ y < R * S
  · rw [if_pos hin]; exact of_some b C R S D V N Q x y w h ok hx hy hin
  · rw [if_neg hin]
    have m1 := Zn.side_bd (q := C) ok.s0 ok.s1 (by have := ok.c0; omega) ok.c1
    have m2 := Zn.side_bd (q := R) ok.s0 ok.s1 (by have := ok.r0; omega) ok.r1
    exact of_no _ (C * S) (R * S) x y w hx hy m1 m2 (Lib.hid (world_any b C R S D V N Q w h ok)) ((has_world ok x y).trans (decide_eq_false hin))
theorem zin_any (b : Nat) (C R S D V N Q x y : Int) (w : World) (h : MapAt w b C R S D V N Q) (ok : Ok C R S D V) (hx : I x) (hy : I y) :
    Calls Tryz.prog 75 #[.pointer (some ⟨b, 0, none⟩), .int .i64 x, .int .i64 y] w fun e w' => e = .returned (.tuple #[.int .i64 (Zn.into x (C * S)), .int .i64 (Zn.into y (R * S))]) ∧ Below w.heap.size w w' :=
  in_of _ _ _ x y w hx hy (Zn.side_bd (q := C) ok.s0 ok.s1 (by have := ok.c0; omega) ok.c1) (Zn.side_bd (q := R) ok.s0 ok.s1 (by have := ok.r0; omega) ok.r1) (Lib.hid (world_any b C R S D V N Q w h ok))
theorem in_nil (x y : Int) (w : World) (hx : I x) (hy : I y) :
    Calls Tryz.prog 75 #[.pointer none, .int .i64 x, .int .i64 y] w fun e w' => e = .returned (.tuple #[.int .i64 0, .int .i64 0]) ∧ Below w.heap.size w w' := by
  have := in_of none 0 0 x y w hx hy (by decide) (by decide) (Lib.hid (world_nil w))
  rwa [show Zn.into x 0 = 0 by unfold Zn.into; omega, show Zn.into y 0 = 0 by unfold Zn.into; omega] at this
end Go.Proofs.YtljaahemlcaffaaGreat
namespace Go.Proofs.YtljaahemlcaffaaGreat
open Go.RowKit
open Zn (Ok There)

theorem int_info : (Tryz.prog.info? 3).map (fun i => (i.zero, i.size, i.bytes)) = some (some (.int .i64 0), 1, 8) := by kernel_rfl
theorem ints_und : Tryz.prog.underlying 60 = some (.slice 3) := by kernel_rfl
/-- a row of ints that the call itself made -/
abbrev Own (W : World) (B : Nat) (v : Value) (l : List Int) : Prop := W.ownsRow B 3 1 v l.length (l.map (Value.int .i64))
theorem own_nil (W : World) (B : Nat) : Own W B (.slice none 0 0) [] := World.ownsRow_nil _ _ _ _
theorem below_grown {W W' : World} (hb : Below W.heap.size W W') : W.grownBy W' none := ⟨hb.os, hb.tape, hb.output, hb.size, fun k hk _ => hb.block k hk⟩
theorem own_below {W W' : World} {B : Nat} {v : Value} {l : List Int} (h : Own W B v l) (hb : Below W.heap.size W W') : Own W' B v l :=
  World.ownsRow.kept h (below_grown hb) (by cases v.ownBlock <;> simp)
theorem own_base {W : World} {B B' : Nat} {v : Value} {l : List Int} (h : Own W B v l) (hb : B' ≤ B) : Own W B' v l := by
  refine ⟨h.1, ?_⟩
  rcases h.2 with hn | ⟨g, cap, cur, e, hg, rest⟩
  · exact .inl hn
  · exact .inr ⟨g, cap, cur, e, by omega, rest⟩
theorem push_step {B : Nat} {w wr w1 : World} {v v' : Value} {l : List Int} {x : Int} {o : Obj} (hown : Own wr B v l) (hnx : Below B w wr) (hB : B ≤ wr.heap.size)
    (hown' : w1.ownsRow B 3 1 v' (l.length + 1) (l.map (Value.int .i64) ++ [.int .i64 x])) (hgrow : (wr.alloc o).grownBy w1 v.ownBlock) : Own w1 B v' (l ++ [x]) ∧ Below B w w1 :=
  ⟨by show w1.ownsRow B 3 1 v' (l ++ [x]).length ((l ++ [x]).map (Value.int .i64)); simpa using hown', (hnx.alloc hB o).grown hgrow (by simp; omega) (fun j hj => (World.ownsRow.lt hown j hj).1)⟩
theorem own_len {W : World} {B : Nat} {v : Value} {l : List Int} (h : Own W B v l) : ∃ A cap, v = .slice A l.length cap := by
  rcases h.2 with ⟨hv, hn⟩ | ⟨g, cap, cur, hv, _⟩
  · exact ⟨none, 0, by rw [hv, hn]⟩
  · exact ⟨_, cap, hv⟩
/-- the row's slice and its cells -/
theorem zown_at {W : World} {B : Nat} {v : Value} {l : List Int} (h : Own W B v l) : ∃ A cap, v = .slice A l.length cap ∧ Reads W W.heap.size A (ints l) := by
  rcases h.2 with ⟨hv, hn⟩ | ⟨g, cap, cur, hv, _, hg, _⟩
  · refine ⟨none, 0, by rw [hv, hn], fun h0 => ?_⟩
    rw [show ints l = [] by unfold ints; rw [List.length_eq_zero_iff.1 hn]; rfl] at h0
    simp at h0
  · refine ⟨_, cap, hv, fun _ => ⟨g, 0, rfl, (Array.getElem?_eq_some_iff.1 hg).1, fun k x hk => ?_⟩⟩
    have := World.ownsRow.cells h (g := g) (by rw [hv]; rfl) k x hk
    rwa [show (⟨g, 0, none⟩ : Addr).add k = ⟨g, 0 + k, none⟩ by unfold Addr.add; split <;> simp_all] at this

theorem bes_hit {C k : Int} {m : Nat} (h : Zn.besP C k m = true) : Zn.bes C k (m + 1) = Zn.bes C k m ++ [(m : Int)] := by rw [Zn.bes_succ, if_pos h]
theorem bes_miss {C k : Int} {m : Nat} (h : Zn.besP C k m = false) : Zn.bes C k (m + 1) = Zn.bes C k m := by rw [Zn.bes_succ, h]; simp

set_option maxHeartbeats 1000000 in
theorem beside_no (b : Option Addr) (k : Int) (w : World) (h : Hid (Calls Tryz.prog 47 #[.pointer b, .int .i64 k] w fun e w' => e = .returned (.bool false) ∧ Below w.heap.size w w')) :
    Calls Tryz.prog 24 #[.pointer b, .int .i64 k] w fun e w' => e = .returned (.slice none 0 0) ∧ Below w.heap.size w w' := by
  go_enter Tryz.func24, Tryz.ntmps24
  go_wp2_with fail
  refine h.out.mono ?_
  rintro e w1 ⟨rfl, b1⟩
  go_wp2
  go_ret
  exact ⟨rfl, b1⟩
set_option maxHeartbeats 4000000 in
set_option maxRecDepth 100000 in
theorem beside_some (b : Nat) (C R S D V N Q k : Int) (w : World) (h : MapAt w b C R S D V N Q) (ok : Ok C R S D V) (hk : There C R k) :
    Calls Tryz.prog 24 #[.pointer (some ⟨b, 0, none⟩), .int .i64 k] w fun e w' => ∃ v, e = .returned v ∧ Own w' w.heap.size v (Zn.beside C R k) ∧ Below w.heap.size w w' := by
  have T := Lib.hid (there_any b C R S D V N Q k w h ok)
  rw [show decide (There C R k) = true from decide_eq_true hk] at T
  have CN := Lib.hid (fun W (hb : Below w.heap.size w W) => count_any b C R S D V N Q W (h.below hb) ok)
  have m := Zn.mul_bd ok
  obtain ⟨M, hM⟩ : ∃ M : Nat, C * R = (M : Int) := ⟨(C * R).toNat, by omega⟩
  have X := Lib.hid (fun W (hb : Below w.heap.size w W) n (hn : There C R n) => column_any b C R S D V N Q n W (h.below hb) ok hn)
  have Y := Lib.hid (fun W (hb : Below w.heap.size w W) n (hn : There C R n) => row_any b C R S D V N Q n W (h.below hb) ok hn)
  have F := Lib.hid (fun W n (hn : There C R n) => far_any (n % C) (n / C) (k % C) (k / C) W
    (by have := Zn.col_bd (k := n) ok; have := ok.c1; unfold I; omega) (by have := Zn.row_bd ok hn; have := ok.r1; unfold I; omega)
    (by have := Zn.col_bd (k := k) ok; have := ok.c1; unfold I; omega) (by have := Zn.row_bd ok hk; have := ok.r1; unfold I; omega))
  have HK := Lib.hid hk
  have TH := Lib.hid (fun (m : Nat) (hm : m < M) => show There C R (m : Int) from ⟨by omega, by omega⟩)
  have HB : Zn.beside C R k = Zn.bes C k M := by unfold Zn.beside; rw [if_pos hk, hM]; rfl
  rw [HB]
  rw [hM] at CN m
  clear h ok hk HB hM
  obtain ⟨i0, hi, hz0, hz1, hz2⟩ := info_parts int_info
  have HI := Lib.hid (And.intro hi (And.intro hz0 (And.intro hz1 hz2)))
  clear hi hz0 hz1 hz2
  go_enter Tryz.func24, Tryz.ntmps24
  go_wp2_with fail
  refine T.out.mono ?_
  rintro e w1 ⟨rfl, b1⟩
  clear T
  go_wp2_with fail
  refine (CN.out _ b1).mono ?_
  rintro e w2 ⟨rfl, b2⟩
  clear CN
  have b3 := b1.trans (b2.mono b1.size)
  clear b1 b2
  go_wp2
  go_loopw [5, 6, 13] (fun v _ i wr => ∃ m : Nat, m ≤ M ∧ i = .int .i64 m ∧ Own wr w.heap.size v (Zn.bes C k m) ∧ Below w.heap.size w wr) (fun _ _ i _ => M - (intOf i).toNat)
  case atStart => exact ⟨0, Nat.zero_le _, rfl, own_nil _ _, b3⟩
  case round =>
    obtain ⟨m, hm, rfl, hown, hbel⟩ := hrel
    clear b3
    by_cases hlt : m < M
    · have Xm := Lib.hid (X.out wr hbel m (TH.out m hlt))
      have Xk := Lib.hid (X.out wr hbel k HK.out)
      have Ym := Lib.hid (Y.out wr hbel m (TH.out m hlt))
      have Yk := Lib.hid (Y.out wr hbel k HK.out)
      have Fm := Lib.hid (F.out wr m (TH.out m hlt))
      have hp : Zn.besP C k m = (decide ((m : Int) ≠ k) && decide (Rc.far ((m : Int) % C) ((m : Int) / C) (k % C) (k / C) ≤ 1)) := rfl
      have HP := Lib.hid hp
      clear hp X Y F TH
      have HO := Lib.hid hown
      have HB := Lib.hid hbel
      have hlen := Zn.bes_len C k m
      have hsz := hbel.size
      clear hown hbel
      generalize (m : Int) % C = cm at *
      generalize (m : Int) / C = rm at *
      generalize k % C = ck at *
      generalize k / C = rk at *
      generalize Rc.far cm rm ck rk = f at *
      by_cases hmk : (m : Int) = k
      · have hb : Zn.besP C k m = false := by rw [HP.out]; simp [hmk]
        have R' := HO.out
        rw [← bes_miss hb] at R'
        have R := Lib.hid R'
        clear R' HP hb
        go_wp2
        go_roundw
        case rel => exact ⟨m + 1, by omega, by go_num, R.out, HB.out⟩
        case measure => simp [intOf]; omega
      · by_cases hf : f ≤ 1
        · have hb : Zn.besP C k m = true := by rw [HP.out]; simp [hmk, hf]
          have HBB := Lib.hid hb
          clear HP hb
          go_wp2_with (first
            | (go_at_call 49; (first | (with_reducible refine Xm.out.mono ?_) | (with_reducible refine Xk.out.mono ?_)); rintro e w' ⟨rfl, rfl⟩)
            | (go_at_call 50; (first | (with_reducible refine Ym.out.mono ?_) | (with_reducible refine Yk.out.mono ?_)); rintro e w' ⟨rfl, rfl⟩)
            | (go_at_call 48; (with_reducible refine Fm.out.mono ?_); rintro e w' ⟨rfl, rfl⟩)
            | (at_builtin; refine wpList_append_own _ rfl _ _ 60 rfl w.heap.size 3 i0 (.int .i64 0) 1 8 ints_und HI.out.1 HI.out.2.1 HI.out.2.2.1 HI.out.2.2.2 rfl (by decide) _ _ _ rfl (World.ownsRow.alloc HO.out _) ⟨wr.heap.size, 0, none⟩ 1 1 [.int .i64 (m : Int)] rfl rfl (by intro j u hj; match j, hj with | 0, hj => simp at hj; subst hj; simp [Addr.add]) (by intro u hu; simp at hu; subst hu; rfl) (by unfold maxLen; omega) (by omega) (by rw [size1]; omega) ?_; intro v' w1 hown' hgrow _))
          have R' := push_step HO.out HB.out hsz hown' hgrow
          rw [← bes_hit HBB.out] at R'
          have R := Lib.hid R'
          clear R' hown' hgrow HO HB
          go_wp2
          go_roundw
          case rel => exact ⟨m + 1, by omega, by go_num, R.out.1, R.out.2⟩
          case measure => simp [intOf]; omega
        · have hb : Zn.besP C k m = false := by rw [HP.out]; simp [hf]
          have R' := HO.out
          rw [← bes_miss hb] at R'
          have R := Lib.hid R'
          clear R' HP hb
          go_wp2_with (first
            | (go_at_call 49; (first | (with_reducible refine Xm.out.mono ?_) | (with_reducible refine Xk.out.mono ?_)); rintro e w' ⟨rfl, rfl⟩)
            | (go_at_call 50; (first | (with_reducible refine Ym.out.mono ?_) | (with_reducible refine Yk.out.mono ?_)); rintro e w' ⟨rfl, rfl⟩)
            | (go_at_call 48; (with_reducible refine Fm.out.mono ?_); rintro e w' ⟨rfl, rfl⟩))
          go_roundw
          case rel => exact ⟨m + 1, by omega, by go_num, R.out, HB.out⟩
          case measure => simp [intOf]; omega
    · obtain rfl : m = M := by omega
      go_wp2
      go_ret
      exact ⟨_, rfl, hown, hbel⟩

theorem beside_any (b : Nat) (C R S D V N Q k : Int) (w : World) (h : MapAt w b C R S D V N Q) (ok : Ok C R S D V) :
    Calls Tryz.prog 24 #[.pointer (some ⟨b, 0, none⟩), .int .i64 k] w fun e w' => ∃ v, e = .returned v ∧ Own w' w.heap.size v (Zn.beside C R k) ∧ Below w.heap.size w w' := by
  by_cases hk : There C R k
  · exact beside_some b C R S D V N Q k w h ok hk
  · have := there_any b C R S D V N Q k w h ok
    rw [decide_eq_false hk] at this
    refine (beside_no _ k w (Lib.hid this)).mono fun e w' hh => ⟨_, hh.1, ?_, hh.2⟩
    unfold Zn.beside
    rw [if_neg hk]
    exact own_nil _ _
theorem beside_nil (k : Int) (w : World) :
    Calls Tryz.prog 24 #[.pointer none, .int .i64 k] w fun e w' => e = .returned (.slice none 0 0) ∧ Below w.heap.size w w' :=
  beside_no _ k w (Lib.hid ((there_nil k w).mono fun _ _ h => ⟨h.1, h.2 ▸ Below.refl _ _⟩))
end Go.Proofs.YtljaahemlcaffaaGreat
