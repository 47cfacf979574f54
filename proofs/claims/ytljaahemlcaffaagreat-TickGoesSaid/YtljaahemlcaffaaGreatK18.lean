/- The document's Clamp, Has, Far, Grow: what they answer. How far points lie apart, whatever numbers they have. The code: a sum of two, a step. Written by wip/tools/gensy.py. The code's Move. Written by wip/tools/gensy.py. -/
import Derived.Test.YtljaahemlcaffaaGreatK13
import Derived.Test.YtljaahemlcaffaaGreatK07
import Derived.Test.YtljaahemlcaffaaGreatK06
import Derived.Test.YtljaahemlcaffaaGreatK01
import Derived.Test.YtljaahemlcaffaaGreatK04
import Derived.Deep.DeepCutAuto
import Derived.Test.YtljaahemlcaffaaGreatK17
namespace Go.Proofs.YtljaahemlcaffaaGreat
open Go.RowKit

set_option maxHeartbeats 400000 in
theorem rclamp_any (n : Int) (w : World) (_ : -9223372036854775808 ≤ n) (_ : n ≤ 9223372036854775807) :
    Calls Tryz.prog 82 #[.int .i64 n] w fun e w' => e = .returned (.int .i64 (Rc.clamp n)) ∧ w = w' := by
  have e : Rc.clamp n = if 1073741824 < n then 1073741824 else if n < -1073741824 then -1073741824 else n := by unfold Rc.clamp; split <;> (try split) <;> omega
  have E := Lib.hid e
  clear e
  go_enter Tryz.func82, Tryz.ntmps82
  go_wp2
  all_goals
    go_ret
    refine ⟨ret_int ?_, rfl⟩
    rw [E.out]
    split <;> (try split) <;> omega
set_option maxHeartbeats 400000 in
theorem rsize_any (n : Int) (w : World) (h0 : -4294967296 ≤ n) (h1 : n ≤ 4294967296) :
    Calls Tryz.prog 101 #[.int .i64 n] w fun e w' => e = .returned (.int .i64 (max n (-n))) ∧ w = w' := by
  go_enter Tryz.func101, Tryz.ntmps101
  go_wp2
  all_goals
    go_ret
    exact ⟨ret_int (by omega), rfl⟩
set_option maxHeartbeats 1000000 in
theorem rfar_any (x y u v : Int) (w : World) (hx : I x) (hy : I y) (hu : I u) (hv : I v) :
    Calls Tryz.prog 80 #[.int .i64 x, .int .i64 y, .int .i64 u, .int .i64 v] w fun e w' => e = .returned (.int .i64 (Rc.far x y u v)) ∧ w = w' := by
  obtain ⟨x0, x1⟩ := hx
  obtain ⟨y0, y1⟩ := hy
  obtain ⟨u0, u1⟩ := hu
  obtain ⟨v0, v1⟩ := hv
  obtain ⟨a0, a1⟩ := Rc.clamp_bd x
  obtain ⟨b0, b1⟩ := Rc.clamp_bd y
  obtain ⟨c0, c1⟩ := Rc.clamp_bd u
  obtain ⟨d0, d1⟩ := Rc.clamp_bd v
  go_enter Tryz.func80, Tryz.ntmps80
  go_wp2_with (first | (go_at_call 82; refine (rclamp_any _ _ (by omega) (by omega)).mono ?_; rintro e w' ⟨rfl, rfl⟩) | (go_at_call 101; refine (rsize_any _ _ (by omega) (by omega)).mono ?_; rintro e w' ⟨rfl, rfl⟩))
  all_goals
    go_ret
    refine ⟨ret_int ?_, rfl⟩
    unfold Rc.far Rc.dist
    omega
set_option maxHeartbeats 1000000 in
theorem rhas_any (a b c d x y : Int) (w : World) (ha : I a) (hb : I b) (hc : I c) (hd : I d) (hx : I x) (hy : I y) :
    Calls Tryz.prog 46 #[.agg #[.int .i64 a, .int .i64 b, .int .i64 c, .int .i64 d], .int .i64 x, .int .i64 y] w fun e w' => e = .returned (.bool (Rc.hasR a b c d x y)) ∧ Below w.heap.size w w' := by
  obtain ⟨a0, a1⟩ := ha
  obtain ⟨b0, b1⟩ := hb
  obtain ⟨c0, c1⟩ := hc
  obtain ⟨d0, d1⟩ := hd
  obtain ⟨x0, x1⟩ := hx
  obtain ⟨y0, y1⟩ := hy
  unfold Rc.hasR
  go_enter Tryz.func46, Tryz.ntmps46
  go_wp2_with (go_at_call 82; refine (rclamp_any _ _ (by omega) (by omega)).mono ?_; rintro e w' ⟨rfl, rfl⟩)
  all_goals
    go_ret
    refine ⟨ret_bool ?_, bel1 _ _⟩
    simp [*]
  all_goals omega
set_option maxHeartbeats 1000000 in
theorem rnone_walk (a b c d : Int) (w : World) (ha : I a) (hb : I b) (hc : I c) (hd : I d) :
    Calls Tryz.prog 79 #[.agg #[.int .i64 a, .int .i64 b, .int .i64 c, .int .i64 d]] w fun e w' => e = .returned (.bool (Rc.noneB a b c d)) ∧ Below w.heap.size w w' := by
  obtain ⟨a0, a1⟩ := ha
  obtain ⟨b0, b1⟩ := hb
  obtain ⟨c0, c1⟩ := hc
  obtain ⟨d0, d1⟩ := hd
  by_cases h : Rc.clamp c ≤ Rc.clamp a
  · have h' : ¬ Rc.clamp a < Rc.clamp c := by omega
    go_enter Tryz.func79, Tryz.ntmps79
    go_wp2
    refine Og.grow 17 (by kernel_rfl) (by kernel_rfl) fun hc hf => ?_
    simp only [List.take_succ_cons, List.take_zero, List.drop_succ_cons, List.drop_zero]
    repeat (refine Og.det [] rfl (fun K hK => ?_); go_simp; first | (refine hK _ _ ?_; clear hK K) | (refine ⟨_, fun p => Og.same (rclamp_any _ _ (by omega) (by omega)), hK _ _ ?_⟩; clear hK K))
    refine Og.fin fun W hW => ?_
    simp only [Og.opened_nil]
    clear hc hf
    go_wp2
    go_ret
    exact ⟨ret_bool (by simp [Rc.noneB, h]), (bel1 _ _).trans (hW.mono (by simp))⟩
  · have h' : Rc.clamp a < Rc.clamp c := by omega
    go_enter Tryz.func79, Tryz.ntmps79
    go_wp2
    refine Og.grow 17 (by kernel_rfl) (by kernel_rfl) fun hc hf => ?_
    simp only [List.take_succ_cons, List.take_zero, List.drop_succ_cons, List.drop_zero]
    repeat (refine Og.det [] rfl (fun K hK => ?_); go_simp; first | (refine hK _ _ ?_; clear hK K) | (refine ⟨_, fun p => Og.same (rclamp_any _ _ (by omega) (by omega)), hK _ _ ?_⟩; clear hK K))
    refine Og.fin fun W hW => ?_
    simp only [Og.opened_nil]
    clear hc hf
    go_wp2
    go_ret
    exact ⟨ret_bool (by simp [Rc.noneB]), (bel1 _ _).trans (hW.mono (by simp))⟩

end Go.Proofs.YtljaahemlcaffaaGreat
namespace Go.Proofs.YtljaahemlcaffaaGreat
open Go.RowKit
set_option linter.unusedVariables false
set_option linter.unusedSimpArgs false

set_option maxHeartbeats 400000 in
set_option maxRecDepth 100000 in
theorem clamp_all (n : Int) (w : World) :
    Calls Tryz.prog 97 #[.int .i64 n] w fun e w' => e = .returned (.int .i64 (Rc.clamp n)) ∧ w = w' := by
  go_enter Tryz.func97, Tryz.ntmps97
  go_wp2
  go_ret
  exact ⟨rfl, rfl⟩

set_option maxHeartbeats 1000000 in
set_option maxRecDepth 100000 in
theorem apart_all (a b : Int) (w : World) :
    Calls Tryz.prog 83 #[.int .i64 a, .int .i64 b] w fun e w' => e = .returned (.int .i64 (Rc.dist a b)) ∧ w = w' := by
  obtain ⟨c0, c1⟩ := Rc.clamp_bd a
  obtain ⟨d0, d1⟩ := Rc.clamp_bd b
  go_enter Tryz.func83, Tryz.ntmps83
  go_wp2_with (go_at_call 97; refine (clamp_all _ _).mono ?_; rintro e w' ⟨rfl, rfl⟩)
  go_ret
  exact ⟨rfl, rfl⟩

set_option maxHeartbeats 1000000 in
set_option maxRecDepth 100000 in
theorem far_all (x y u v : Int) (w : World) :
    Calls Tryz.prog 48 #[.int .i64 x, .int .i64 y, .int .i64 u, .int .i64 v] w fun e w' => e = .returned (.int .i64 (Rc.far x y u v)) ∧ w = w' := by
  go_enter Tryz.func48, Tryz.ntmps48
  go_wp2_with fail
  refine (apart_all _ _ _).mono ?_
  rintro e w' ⟨rfl, rfl⟩
  go_wp2_with fail
  refine (apart_all _ _ _).mono ?_
  rintro e w' ⟨rfl, rfl⟩
  go_wp2
  go_ret
  exact ⟨rfl, rfl⟩

set_option maxHeartbeats 400000 in
set_option maxRecDepth 100000 in
theorem rclamp_all (n : Int) (w : World) :
    Calls Tryz.prog 82 #[.int .i64 n] w fun e w' => e = .returned (.int .i64 (Rc.clamp n)) ∧ w = w' := by
  have e : Rc.clamp n = if 1073741824 < n then 1073741824 else if n < -1073741824 then -1073741824 else n := by unfold Rc.clamp; split <;> (try split) <;> omega
  have E := Lib.hid e
  clear e
  go_enter Tryz.func82, Tryz.ntmps82
  go_wp2
  all_goals
    go_ret
    refine ⟨ret_int ?_, rfl⟩
    rw [E.out]
    split <;> (try split) <;> omega

set_option maxHeartbeats 1000000 in
set_option maxRecDepth 100000 in
theorem rfar_all (x y u v : Int) (w : World) :
    Calls Tryz.prog 80 #[.int .i64 x, .int .i64 y, .int .i64 u, .int .i64 v] w fun e w' => e = .returned (.int .i64 (Rc.far x y u v)) ∧ w = w' := by
  obtain ⟨a0, a1⟩ := Rc.clamp_bd x
  obtain ⟨b0, b1⟩ := Rc.clamp_bd y
  obtain ⟨c0, c1⟩ := Rc.clamp_bd u
  obtain ⟨d0, d1⟩ := Rc.clamp_bd v
  go_enter Tryz.func80, Tryz.ntmps80
  go_wp2_with (first | (go_at_call 82; refine (rclamp_all _ _).mono ?_; rintro e w' ⟨rfl, rfl⟩) | (go_at_call 101; refine (rsize_any _ _ (by omega) (by omega)).mono ?_; rintro e w' ⟨rfl, rfl⟩))
  all_goals
    go_ret
    refine ⟨ret_int ?_, rfl⟩
    unfold Rc.far Rc.dist
    omega
theorem dist_comm (a b : Int) : Rc.dist a b = Rc.dist b a := by unfold Rc.dist; omega
theorem far_comm (x y u v : Int) : Rc.far x y u v = Rc.far u v x y := by unfold Rc.far; rw [dist_comm x u, dist_comm y v]
end Go.Proofs.YtljaahemlcaffaaGreat
namespace Go.Proofs.YtljaahemlcaffaaGreat
open Go.RowKit Pz Sp
set_option linter.unusedVariables false
set_option linter.unusedSimpArgs false

set_option maxHeartbeats 1000000 in
set_option maxRecDepth 100000 in
theorem add2_any (a b : Int) (g c : Nat) (w : World) (h : w.heap[g]? = some (.cells #[.int .i64 a, .int .i64 b] 3 (0, 0))) :
    Calls Tryz.prog 73 #[.slice (some ⟨g, 0, none⟩) 2 c] w fun e w' => e = .returned (.int .i64 (Rc.clamp (Rc.clamp a + Rc.clamp b))) ∧ w = w' := by
  obtain ⟨⟨k0, k1⟩, _⟩ := Bx.b2 h
  clear h
  have C1 := Lib.hid fun W => clamp_all a W
  have C2 := Lib.hid fun W => clamp_all (Rc.clamp a) W
  have C3 := Lib.hid fun W => clamp_all b W
  have C4 := Lib.hid fun W => clamp_all (Rc.clamp a + Rc.clamp b) W
  rw [Rc.clamp_clamp] at C2
  have b0 := Rc.clamp_bd a
  have b1 := Rc.clamp_bd b
  generalize Rc.clamp (Rc.clamp a + Rc.clamp b) = cs at *
  generalize Rc.clamp a = ca at *
  generalize Rc.clamp b = cb at *
  have u0 : IntKind.i64.wrap (0 + ca) = ca := by rw [Int.zero_add]; exact IntWalk.i64_in _ ⟨by omega, by omega⟩
  have u1 : IntKind.i64.wrap (ca + cb) = ca + cb := IntWalk.i64_in _ ⟨by omega, by omega⟩
  have u2 : IntKind.i64.wrap ca = ca := IntWalk.i64_in _ ⟨by omega, by omega⟩
  go_enter Tryz.func73, Tryz.ntmps73
  go_wp2
  go_loop [3, 8] (fun s i => (s = .int .i64 0 ∧ i = .int .i64 0) ∨ (s = .int .i64 ca ∧ i = .int .i64 1) ∨ (s = .int .i64 cs ∧ i = .int .i64 2)) (fun _ i => 2 - (intOf i).toNat)
  case atStart => exact .inl ⟨rfl, rfl⟩
  case round =>
    rcases hrel with ⟨rfl, rfl⟩ | ⟨rfl, rfl⟩ | ⟨rfl, rfl⟩
    · go_wp2_with (first
        | (go_at_call 97; with_reducible refine (C1.out _).mono ?_; rintro e w1 ⟨rfl, rfl⟩; clear C1)
        | (go_at_call 97; with_reducible refine (C2.out _).mono ?_; rintro e w2 ⟨rfl, rfl⟩; clear C2))
      go_round
      case rel => exact .inr (.inl ⟨rfl, rfl⟩)
      case measure => simp [intOf]
    · go_wp2_with (first
        | (go_at_call 97; with_reducible refine (C3.out _).mono ?_; rintro e w1 ⟨rfl, rfl⟩; clear C3)
        | (go_at_call 97; with_reducible refine (C4.out _).mono ?_; rintro e w2 ⟨rfl, rfl⟩; clear C4))
      go_round
      case rel => exact .inr (.inr ⟨rfl, rfl⟩)
      case measure => simp [intOf]
    · go_wp2
      go_ret
      exact ⟨rfl, rfl⟩
set_option maxHeartbeats 1000000 in
set_option maxRecDepth 100000 in
theorem step_any (q : Nat) (C R S D V N Q v : Int) (w : World) (h : MapAt w q C R S D V N Q) (hV : 0 ≤ V ∧ V ≤ 1073741824) (hv : I v) :
    Calls Tryz.prog 74 #[.pointer (some ⟨q, 0, none⟩), .int .i64 v] w fun e w' => e = .returned (.int .i64 (Sy.near v V)) ∧ Below w.heap.size w w' := by
  have e : Sy.near v V = max (-V) (min v V) := by unfold Sy.near; split <;> (try split) <;> omega
  rw [e]
  have u0 : IntKind.i64.wrap (-V) = -V := IntWalk.i64_in _ ⟨by omega, by omega⟩
  obtain ⟨⟨g0, g1, g2, g3, g4, g5, g6⟩, _⟩ := box7 h
  clear h
  go_enter Tryz.func74, Tryz.ntmps74
  go_wp2
  go_region
  go_wp2
  go_ret
  exact ⟨rfl, (Below.refl _ _).drew⟩
end Go.Proofs.YtljaahemlcaffaaGreat
namespace Go.Proofs.YtljaahemlcaffaaGreat
open Go.RowKit Pz Sp
set_option linter.unusedVariables false
set_option linter.unusedSimpArgs false

/-- two numbers in a row of the call's own -/
def Pair (B : Nat) (x y : Int) : Og.Ph := Og.Fresh B #[.int .i64 x, .int .i64 y] 3 2
theorem pair_lasts (B : Nat) (x y : Int) : Og.Lasts grows (Pair B x y) := Og.Fresh.lasts _ _ _ _
theorem pair_noBool (B : Nat) (x y : Int) : Og.NoBool (Pair B x y) := Og.Fresh.noBool _ _ _ _
theorem pair_new (W : World) (B : Nat) (hB : B ≤ W.heap.size) (x y : Int) : grows.r W (W.alloc (.cells #[.int .i64 x, .int .i64 y] 3)) ∧ Pair B x y (.slice (some ⟨W.heap.size, 0, none⟩) 2 2) (W.alloc (.cells #[.int .i64 x, .int .i64 y] 3)) :=
  ⟨bel1 _ _, W.heap.size, rfl, hB, by rw [size1]; omega, at1 _ _⟩
theorem add_pair {B : Nat} {x y : Int} {W : World} {v : Value} (h : Pair B x y v W) :
    Calls Tryz.prog 73 #[v] W fun e w' => e = .returned (.int .i64 (Rc.clamp (Rc.clamp x + Rc.clamp y))) ∧ grows.r W w' := by
  obtain ⟨b, rfl, _, _, hb⟩ := h
  exact Og.same (add2_any x y b 2 W hb)
set_option maxHeartbeats 4000000 in
set_option maxRecDepth 100000 in
theorem cmove_any {w : World} {q : Nat} (cC cR cS cD cV cN cQ : Int) (hq : MapAt w q cC cR cS cD cV cN cQ) (ok : Zn.Ok cC cR cS cD cV) (qs qi qg qm qx qy qvx qvy qh qp ql : Int) (hx : Fit qx) (hy : Fit qy) (hvx : Fit qvx) (hvy : Fit qvy) : Calls Tryz.prog 39 #[.pointer (some ⟨q, 0, none⟩), .agg #[.int .i64 qs, .int .i64 qi, .int .i64 qg, .int .i64 qm, .int .i64 qx, .int .i64 qy, .int .i64 qvx, .int .i64 qvy, .int .i64 qh, .int .i64 qp, .int .i64 ql]] w fun e w' => e = .returned (Sy.move cC cR cS cV ⟨qs, qi, qg, qm, qx, qy, qvx, qvy, qh, qp, ql⟩).val ∧ Below w.heap.size w w' := by
  have BX : Hid (∀ W, Calls Tryz.prog 68 #[.agg #[.int .i64 qs, .int .i64 qi, .int .i64 qg, .int .i64 qm, .int .i64 qx, .int .i64 qy, .int .i64 qvx, .int .i64 qvy, .int .i64 qh, .int .i64 qp, .int .i64 ql], .int .i64 2] W fun e w' => e = .returned (.bool (bitB qm 1)) ∧ Below W.heap.size W w') := Lib.hid fun W => has_one ⟨qs, qi, qg, qm, qx, qy, qvx, qvy, qh, qp, ql⟩ (j := 1) (by decide) W
  have H0 : Hid (Sep w [box (w.heap.size + 1) (.cells #[.int .i64 0, .int .i64 0, .int .i64 0, .int .i64 0, .int .i64 0, .int .i64 0, .int .i64 0, .int .i64 0, .int .i64 0, .int .i64 0, .int .i64 0] 42), box w.heap.size (.cells #[.int .i64 qs, .int .i64 qi, .int .i64 qg, .int .i64 qm, .int .i64 qx, .int .i64 qy, .int .i64 qvx, .int .i64 qvy, .int .i64 qh, .int .i64 qp, .int .i64 ql] 42)] ((w.alloc (.cells #[.int .i64 qs, .int .i64 qi, .int .i64 qg, .int .i64 qm, .int .i64 qx, .int .i64 qy, .int .i64 qvx, .int .i64 qvy, .int .i64 qh, .int .i64 qp, .int .i64 ql] 42)).alloc (.cells #[.int .i64 0, .int .i64 0, .int .i64 0, .int .i64 0, .int .i64 0, .int .i64 0, .int .i64 0, .int .i64 0, .int .i64 0, .int .i64 0, .int .i64 0] 42))) := Lib.hid (by
    have := sep_box (sep_box (sep_new w) (.cells #[.int .i64 qs, .int .i64 qi, .int .i64 qg, .int .i64 qm, .int .i64 qx, .int .i64 qy, .int .i64 qvx, .int .i64 qvy, .int .i64 qh, .int .i64 qp, .int .i64 ql] 42)) (.cells #[.int .i64 0, .int .i64 0, .int .i64 0, .int .i64 0, .int .i64 0, .int .i64 0, .int .i64 0, .int .i64 0, .int .i64 0, .int .i64 0, .int .i64 0] 42)
    rw [size1] at this
    exact this)
  have hV : 0 ≤ cV ∧ cV ≤ 1073741824 := ⟨ok.v0, by have := ok.v1; have := ok.s1; omega⟩
  have fitI : ∀ n, Fit n → I n := fun n h => by unfold Fit at h; unfold I; omega
  have ST0 : Hid (∀ v, Fit v → ∀ W, Below w.heap.size w W → Calls Tryz.prog 74 #[.pointer (some ⟨q, 0, none⟩), .int .i64 v] W fun e w' => e = .returned (.int .i64 (Sy.near v cV)) ∧ Below W.heap.size W w') := Lib.hid fun v hv W hW => step_any q cC cR cS cD cV cN cQ v W (hq.below hW) hV (fitI v hv)
  have nb : ∀ v, -1073741824 ≤ Sy.near v cV ∧ Sy.near v cV ≤ 1073741824 := fun v => by unfold Sy.near; split <;> (try split) <;> omega
  have IN : Hid (∀ x y W, Below w.heap.size w W → I x → I y → Calls Tryz.prog 75 #[.pointer (some ⟨q, 0, none⟩), .int .i64 x, .int .i64 y] W fun e w' => e = .returned (.tuple #[.int .i64 (Zn.into x (cC * cS)), .int .i64 (Zn.into y (cR * cS))]) ∧ Below W.heap.size W w') := Lib.hid fun x y W hW hx hy => zin_any q cC cR cS cD cV cN cQ x y W (hq.below hW) ok hx hy
  obtain ⟨X, hX⟩ : ∃ X, X = (Sy.push cV ⟨qs, qi, qg, qm, qx, qy, qvx, qvy, qh, qp, ql⟩).x := ⟨_, rfl⟩
  obtain ⟨Y, hY⟩ : ∃ Y, Y = (Sy.push cV ⟨qs, qi, qg, qm, qx, qy, qvx, qvy, qh, qp, ql⟩).y := ⟨_, rfl⟩
  have EV : Sy.move cC cR cS cV ⟨qs, qi, qg, qm, qx, qy, qvx, qvy, qh, qp, ql⟩ = ⟨qs, qi, qg, qm, Zn.into X (cC * cS), Zn.into Y (cR * cS), qvx, qvy, qh, qp, ql⟩ := by
    rw [hX, hY]
    unfold Sy.move Sy.push
    split <;> rfl
  rw [EV]
  clear EV
  have hXb : bitB qm 1 = true → X = Rc.clamp (Rc.clamp qx + Sy.near qvx cV) ∧ Y = Rc.clamp (Rc.clamp qy + Sy.near qvy cV) := fun h => by
    rw [hX, hY]
    unfold Sy.push
    rw [if_pos h]
    exact ⟨rfl, rfl⟩
  have hXn : bitB qm 1 = false → X = qx ∧ Y = qy := fun h => by
    rw [hX, hY]
    unfold Sy.push
    rw [if_neg (by rw [h]; decide)]
    exact ⟨rfl, rfl⟩
  clear hX hY hq
  generalize bitB qm 1 = bit at *
  cases bit with
  | false =>
    obtain ⟨hX, hY⟩ := hXn rfl
    rw [hX, hY]
    have IXX := fitI _ hx
    have IYY := fitI _ hy
    clear hXb hXn ST0 nb hX hY X Y
    go_enter Tryz.func39, Tryz.ntmps39
    go_upto_region 1 with fail
    generalize (w.alloc (.cells #[.int .i64 qs, .int .i64 qi, .int .i64 qg, .int .i64 qm, .int .i64 qx, .int .i64 qy, .int .i64 qvx, .int .i64 qvy, .int .i64 qh, .int .i64 qp, .int .i64 ql] 42)).alloc (.cells #[.int .i64 0, .int .i64 0, .int .i64 0, .int .i64 0, .int .i64 0, .int .i64 0, .int .i64 0, .int .i64 0, .int .i64 0, .int .i64 0, .int .i64 0] 42) = w0 at *
    obtain ⟨⟨k0, k1, k2, k3, k4, k5, k6, k7, k8, k9, k10⟩, ⟨f0, f1, f2, f3, f4, f5, f6, f7, f8, f9, f10⟩⟩ := Bx.b11 (H0.out.held 1 rfl)
    obtain ⟨_, ⟨z0, z1, z2, z3, z4, z5, z6, z7, z8, z9, z10⟩⟩ := Bx.b11 (H0.out.held 0 rfl)
    go_upto_region 6 with (go_at_call 68; with_reducible refine (BX.out _).mono ?_; rintro e W1 ⟨rfl, b1⟩; clear BX k0 k1 k2 k3 k4 k5 k6 k7 k8 k9 k10 f0 f1 f2 f3 f4 f5 f6 f7 f8 f9 f10 z0 z1 z2 z3 z4 z5 z6 z7 z8 z9 z10; have H1' := H0.out.below b1; clear H0 b1; have HB1 := Lib.hid H1'.bel; have H1 := Lib.hid (show Sep w [box w.heap.size (.cells #[.int .i64 qs, .int .i64 qi, .int .i64 qg, .int .i64 qm, .int .i64 qx, .int .i64 qy, .int .i64 qvx, .int .i64 qvy, .int .i64 qh, .int .i64 qp, .int .i64 ql] 42), box (w.heap.size + 1) (.cells #[.int .i64 0, .int .i64 0, .int .i64 0, .int .i64 0, .int .i64 0, .int .i64 0, .int .i64 0, .int .i64 0, .int .i64 0, .int .i64 0, .int .i64 0] 42)] W1 from H1'.pull 1 rfl); clear H1'; obtain ⟨⟨k0, k1, k2, k3, k4, k5, k6, k7, k8, k9, k10⟩, ⟨f0, f1, f2, f3, f4, f5, f6, f7, f8, f9, f10⟩⟩ := Bx.b11 (H1.out.held 0 rfl); obtain ⟨_, ⟨z0, z1, z2, z3, z4, z5, z6, z7, z8, z9, z10⟩⟩ := Bx.b11 (H1.out.held 1 rfl))
    have IX := Lib.hid (IN.out qx qy W1 HB1.out IXX IYY)
    go_upto_region 7 with (go_at_call 75; with_reducible refine IX.out.mono ?_; rintro e w9 ⟨rfl, b9⟩; clear IX k0 k1 k2 k3 k4 k5 k6 k7 k8 k9 k10 f0 f1 f2 f3 f4 f5 f6 f7 f8 f9 f10 z0 z1 z2 z3 z4 z5 z6 z7 z8 z9 z10; have H9 := Lib.hid (H1.out.below b9); clear b9 H1; obtain ⟨⟨k0, k1, k2, k3, k4, k5, k6, k7, k8, k9, k10⟩, ⟨f0, f1, f2, f3, f4, f5, f6, f7, f8, f9, f10⟩⟩ := Bx.b11 (H9.out.held 0 rfl))
    have HA := ((H9.out.cell (o := 4) (.int .i64 (Zn.into qx (cC * cS)))).cell (o := 5) (.int .i64 (Zn.into qy (cR * cS))))
    simp only [List.setIfInBounds_toArray, List.set_cons_succ, List.set_cons_zero] at HA
    clear k0 k1 k2 k3 k4 k5 k6 k7 k8 k9 k10 f0 f1 f2 f3 f4 f5 f6 f7 f8 f9 f10 H9
    generalize (w9.setCell ⟨w.heap.size, 4, none⟩ (.int .i64 (Zn.into qx (cC * cS)))).setCell ⟨w.heap.size, 5, none⟩ (.int .i64 (Zn.into qy (cR * cS))) = w11 at *
    have HA := Lib.hid HA
    obtain ⟨⟨k0, k1, k2, k3, k4, k5, k6, k7, k8, k9, k10⟩, ⟨f0, f1, f2, f3, f4, f5, f6, f7, f8, f9, f10⟩⟩ := Bx.b11 (HA.out.held 0 rfl)
    obtain ⟨_, ⟨z0, z1, z2, z3, z4, z5, z6, z7, z8, z9, z10⟩⟩ := Bx.b11 (HA.out.held 1 rfl)
    have HF := Lib.hid ((show Sep w [box (w.heap.size + 1) (.cells #[.int .i64 0, .int .i64 0, .int .i64 0, .int .i64 0, .int .i64 0, .int .i64 0, .int .i64 0, .int .i64 0, .int .i64 0, .int .i64 0, .int .i64 0] 42), box w.heap.size (.cells #[.int .i64 qs, .int .i64 qi, .int .i64 qg, .int .i64 qm, .int .i64 (Zn.into qx (cC * cS)), .int .i64 (Zn.into qy (cR * cS)), .int .i64 qvx, .int .i64 qvy, .int .i64 qh, .int .i64 qp, .int .i64 ql] 42)] w11 from HA.out.pull 1 rfl).set11 (.int .i64 qs) (.int .i64 qi) (.int .i64 qg) (.int .i64 qm) (.int .i64 (Zn.into qx (cC * cS))) (.int .i64 (Zn.into qy (cR * cS))) (.int .i64 qvx) (.int .i64 qvy) (.int .i64 qh) (.int .i64 qp) (.int .i64 ql))
    go_wp2
    generalize (((((((((((w11.setCell ⟨w.heap.size + 1, 0, none⟩ (.int .i64 qs)).setCell ⟨w.heap.size + 1, 1, none⟩ (.int .i64 qi)).setCell ⟨w.heap.size + 1, 2, none⟩ (.int .i64 qg)).setCell ⟨w.heap.size + 1, 3, none⟩ (.int .i64 qm)).setCell ⟨w.heap.size + 1, 4, none⟩ (.int .i64 (Zn.into qx (cC * cS)))).setCell ⟨w.heap.size + 1, 5, none⟩ (.int .i64 (Zn.into qy (cR * cS)))).setCell ⟨w.heap.size + 1, 6, none⟩ (.int .i64 qvx)).setCell ⟨w.heap.size + 1, 7, none⟩ (.int .i64 qvy)).setCell ⟨w.heap.size + 1, 8, none⟩ (.int .i64 qh)).setCell ⟨w.heap.size + 1, 9, none⟩ (.int .i64 qp)).setCell ⟨w.heap.size + 1, 10, none⟩ (.int .i64 ql)) = V at *
    obtain ⟨r0, r1, r2, r3, r4, r5, r6, r7, r8, r9, r10⟩ := (Bx.b11 (HF.out.held 0 rfl)).1
    exact bodyPost_ret (v := .agg #[.int .i64 qs, .int .i64 qi, .int .i64 qg, .int .i64 qm, .int .i64 (Zn.into qx (cC * cS)), .int .i64 (Zn.into qy (cR * cS)), .int .i64 qvx, .int .i64 qvy, .int .i64 qh, .int .i64 qp, .int .i64 ql]) (by simp [results, Tryz.results39, go_sem, r0, r1, r2, r3, r4, r5, r6, r7, r8, r9, r10]) rfl ⟨rfl, HF.out.bel⟩
  | true =>
    obtain ⟨hX, hY⟩ := hXb rfl
    clear hXn hXb
    have b1 := nb qvx
    have b2 := nb qvy
    have M1 := Lib.hid (ST0.out qvx hvx)
    have M2 := Lib.hid (ST0.out qvy hvy)
    clear nb ST0
    generalize Sy.near qvx cV = nx at *
    generalize Sy.near qvy cV = ny at *
    have IXX : I X := by have := Rc.clamp_bd (Rc.clamp qx + nx); rw [← hX] at this; unfold I; omega
    have IYY : I Y := by have := Rc.clamp_bd (Rc.clamp qy + ny); rw [← hY] at this; unfold I; omega
    have A1 : Hid (∀ W v, Pair 0 qx nx v W → Calls Tryz.prog 73 #[v] W fun e w' => e = .returned (.int .i64 X) ∧ grows.r W w') := Lib.hid fun W v h => by
      have := add_pair h
      rw [Rc.clamp_in b1.1 b1.2, ← hX] at this
      exact this
    have A2 : Hid (∀ W v, Pair 0 qy ny v W → Calls Tryz.prog 73 #[v] W fun e w' => e = .returned (.int .i64 Y) ∧ grows.r W w') := Lib.hid fun W v h => by
      have := add_pair h
      rw [Rc.clamp_in b2.1 b2.2, ← hY] at this
      exact this
    clear hX hY
    go_enter Tryz.func39, Tryz.ntmps39
    go_upto_region 1 with fail
    generalize (w.alloc (.cells #[.int .i64 qs, .int .i64 qi, .int .i64 qg, .int .i64 qm, .int .i64 qx, .int .i64 qy, .int .i64 qvx, .int .i64 qvy, .int .i64 qh, .int .i64 qp, .int .i64 ql] 42)).alloc (.cells #[.int .i64 0, .int .i64 0, .int .i64 0, .int .i64 0, .int .i64 0, .int .i64 0, .int .i64 0, .int .i64 0, .int .i64 0, .int .i64 0, .int .i64 0] 42) = w0 at *
    obtain ⟨⟨k0, k1, k2, k3, k4, k5, k6, k7, k8, k9, k10⟩, ⟨f0, f1, f2, f3, f4, f5, f6, f7, f8, f9, f10⟩⟩ := Bx.b11 (H0.out.held 1 rfl)
    obtain ⟨_, ⟨z0, z1, z2, z3, z4, z5, z6, z7, z8, z9, z10⟩⟩ := Bx.b11 (H0.out.held 0 rfl)
    go_upto_region 4 with (go_at_call 68; with_reducible refine (BX.out _).mono ?_; rintro e W1 ⟨rfl, b1⟩; clear BX k0 k1 k2 k3 k4 k5 k6 k7 k8 k9 k10 f0 f1 f2 f3 f4 f5 f6 f7 f8 f9 f10 z0 z1 z2 z3 z4 z5 z6 z7 z8 z9 z10; have H1' := H0.out.below b1; clear H0 b1; have HB1 := Lib.hid H1'.bel; have H1 := Lib.hid (show Sep w [box w.heap.size (.cells #[.int .i64 qs, .int .i64 qi, .int .i64 qg, .int .i64 qm, .int .i64 qx, .int .i64 qy, .int .i64 qvx, .int .i64 qvy, .int .i64 qh, .int .i64 qp, .int .i64 ql] 42), box (w.heap.size + 1) (.cells #[.int .i64 0, .int .i64 0, .int .i64 0, .int .i64 0, .int .i64 0, .int .i64 0, .int .i64 0, .int .i64 0, .int .i64 0, .int .i64 0, .int .i64 0] 42)] W1 from H1'.pull 1 rfl); clear H1'; obtain ⟨⟨k0, k1, k2, k3, k4, k5, k6, k7, k8, k9, k10⟩, ⟨f0, f1, f2, f3, f4, f5, f6, f7, f8, f9, f10⟩⟩ := Bx.b11 (H1.out.held 0 rfl); obtain ⟨_, ⟨z0, z1, z2, z3, z4, z5, z6, z7, z8, z9, z10⟩⟩ := Bx.b11 (H1.out.held 1 rfl))
    have zz0 : w.heap.size < W1.heap.size := Bx.lt (H1.out.held 0 rfl)
    refine Og.grow 9 (by kernel_rfl) (by kernel_rfl) fun hc hf => ?_
    simp only [List.take_succ_cons, List.take_zero, List.drop_succ_cons, List.drop_zero]
    iterate 5 (refine Og.det [] rfl (fun J hJ => ?_); go_simp; refine hJ _ _ ?_; clear hJ J)
    refine Og.det [] rfl (fun J hJ => ?_)
    go_simp
    with_reducible refine ⟨_, fun p => Og.lays (M1.out p.W (HB1.out.trans ((zlat_below p).mono HB1.out.size))), hJ _ _ ?_⟩
    clear hJ J
    refine Og.such 16 (Pair 0 qx nx) [] rfl (pair_lasts _ _ _) (pair_noBool _ _ _) (fun J hJ => ?_)
    go_simp
    refine ⟨fun p => pair_new p.W 0 (by omega) _ _, hJ _ _ ?_⟩
    clear hJ J
    refine Og.det [(16, Pair 0 qx nx)] rfl (fun J hJ => ?_)
    go_simp
    refine ⟨_, fun p v hv => A1.out p.W v hv, hJ _ _ ?_⟩
    clear hJ J
    iterate 1 (refine Og.det [] rfl (fun J hJ => ?_); go_simp; refine hJ _ _ ?_; clear hJ J)
    clear hc hf
    refine Og.fin fun W hW => ?_
    simp only [Og.opened_cons, Og.opened_nil]
    intro pv hpv
    clear hpv
    have HW := H1.out.below hW
    have HBW := Lib.hid (HB1.out.trans (hW.mono HB1.out.size))
    clear k0 k1 k2 k3 k4 k5 k6 k7 k8 k9 k10 f0 f1 f2 f3 f4 f5 f6 f7 f8 f9 f10 z0 z1 z2 z3 z4 z5 z6 z7 z8 z9 z10 hW H1 HB1
    obtain ⟨⟨k0, k1, k2, k3, k4, k5, k6, k7, k8, k9, k10⟩, ⟨f0, f1, f2, f3, f4, f5, f6, f7, f8, f9, f10⟩⟩ := Bx.b11 (HW.held 0 rfl)
    have H2 := Lib.hid (HW.cell (o := 4) (.int .i64 X))
    clear HW
    go_upto_region 5 with fail
    clear k0 k1 k2 k3 k4 k5 k6 k7 k8 k9 k10 f0 f1 f2 f3 f4 f5 f6 f7 f8 f9 f10
    have HB1 := Lib.hid (HBW.out.trans ((Below.refl w.heap.size W).setCell (p := ⟨w.heap.size, 4, none⟩) (Nat.le_refl _) (.int .i64 X)))
    clear HBW
    generalize W.setCell ⟨w.heap.size, 4, none⟩ (.int .i64 X) = W4 at *
    simp only [List.setIfInBounds_toArray, List.set_cons_succ, List.set_cons_zero] at H2
    have H1 := H2
    clear H2
    obtain ⟨⟨k0, k1, k2, k3, k4, k5, k6, k7, k8, k9, k10⟩, ⟨f0, f1, f2, f3, f4, f5, f6, f7, f8, f9, f10⟩⟩ := Bx.b11 (H1.out.held 0 rfl)
    obtain ⟨_, ⟨z0, z1, z2, z3, z4, z5, z6, z7, z8, z9, z10⟩⟩ := Bx.b11 (H1.out.held 1 rfl)
    have zz0 : w.heap.size < W4.heap.size := Bx.lt (H1.out.held 0 rfl)
    refine Og.grow 9 (by kernel_rfl) (by kernel_rfl) fun hc hf => ?_
    simp only [List.take_succ_cons, List.take_zero, List.drop_succ_cons, List.drop_zero]
    iterate 5 (refine Og.det [] rfl (fun J hJ => ?_); go_simp; refine hJ _ _ ?_; clear hJ J)
    refine Og.det [] rfl (fun J hJ => ?_)
    go_simp
    with_reducible refine ⟨_, fun p => Og.lays (M2.out p.W (HB1.out.trans ((zlat_below p).mono HB1.out.size))), hJ _ _ ?_⟩
    clear hJ J
    refine Og.such 25 (Pair 0 qy ny) [] rfl (pair_lasts _ _ _) (pair_noBool _ _ _) (fun J hJ => ?_)
    go_simp
    refine ⟨fun p => pair_new p.W 0 (by omega) _ _, hJ _ _ ?_⟩
    clear hJ J
    refine Og.det [(25, Pair 0 qy ny)] rfl (fun J hJ => ?_)
    go_simp
    refine ⟨_, fun p v hv => A2.out p.W v hv, hJ _ _ ?_⟩
    clear hJ J
    iterate 1 (refine Og.det [] rfl (fun J hJ => ?_); go_simp; refine hJ _ _ ?_; clear hJ J)
    clear hc hf
    refine Og.fin fun W hW => ?_
    simp only [Og.opened_cons, Og.opened_nil]
    intro pv hpv
    clear hpv
    have HW := H1.out.below hW
    have HBW := Lib.hid (HB1.out.trans (hW.mono HB1.out.size))
    clear k0 k1 k2 k3 k4 k5 k6 k7 k8 k9 k10 f0 f1 f2 f3 f4 f5 f6 f7 f8 f9 f10 z0 z1 z2 z3 z4 z5 z6 z7 z8 z9 z10 hW H1 HB1
    obtain ⟨⟨k0, k1, k2, k3, k4, k5, k6, k7, k8, k9, k10⟩, ⟨f0, f1, f2, f3, f4, f5, f6, f7, f8, f9, f10⟩⟩ := Bx.b11 (HW.held 0 rfl)
    have H2 := Lib.hid (HW.cell (o := 5) (.int .i64 Y))
    clear HW
    go_upto_region 6 with fail
    clear k0 k1 k2 k3 k4 k5 k6 k7 k8 k9 k10 f0 f1 f2 f3 f4 f5 f6 f7 f8 f9 f10
    have HB1 := Lib.hid (HBW.out.trans ((Below.refl w.heap.size W).setCell (p := ⟨w.heap.size, 5, none⟩) (Nat.le_refl _) (.int .i64 Y)))
    clear HBW
    generalize W.setCell ⟨w.heap.size, 5, none⟩ (.int .i64 Y) = W5 at *
    simp only [List.setIfInBounds_toArray, List.set_cons_succ, List.set_cons_zero] at H2
    have H1 := H2
    clear H2
    obtain ⟨⟨k0, k1, k2, k3, k4, k5, k6, k7, k8, k9, k10⟩, ⟨f0, f1, f2, f3, f4, f5, f6, f7, f8, f9, f10⟩⟩ := Bx.b11 (H1.out.held 0 rfl)
    obtain ⟨_, ⟨z0, z1, z2, z3, z4, z5, z6, z7, z8, z9, z10⟩⟩ := Bx.b11 (H1.out.held 1 rfl)
    have zz0 : w.heap.size < W5.heap.size := Bx.lt (H1.out.held 0 rfl)
    have IX := Lib.hid (IN.out X Y W5 HB1.out IXX IYY)
    go_upto_region 7 with (go_at_call 75; with_reducible refine IX.out.mono ?_; rintro e w9 ⟨rfl, b9⟩; clear IX k0 k1 k2 k3 k4 k5 k6 k7 k8 k9 k10 f0 f1 f2 f3 f4 f5 f6 f7 f8 f9 f10 z0 z1 z2 z3 z4 z5 z6 z7 z8 z9 z10; have H9 := Lib.hid (H1.out.below b9); clear b9 H1; obtain ⟨⟨k0, k1, k2, k3, k4, k5, k6, k7, k8, k9, k10⟩, ⟨f0, f1, f2, f3, f4, f5, f6, f7, f8, f9, f10⟩⟩ := Bx.b11 (H9.out.held 0 rfl))
    have HA := ((H9.out.cell (o := 4) (.int .i64 (Zn.into X (cC * cS)))).cell (o := 5) (.int .i64 (Zn.into Y (cR * cS))))
    simp only [List.setIfInBounds_toArray, List.set_cons_succ, List.set_cons_zero] at HA
    clear k0 k1 k2 k3 k4 k5 k6 k7 k8 k9 k10 f0 f1 f2 f3 f4 f5 f6 f7 f8 f9 f10 H9
    generalize (w9.setCell ⟨w.heap.size, 4, none⟩ (.int .i64 (Zn.into X (cC * cS)))).setCell ⟨w.heap.size, 5, none⟩ (.int .i64 (Zn.into Y (cR * cS))) = w11 at *
    have HA := Lib.hid HA
    obtain ⟨⟨k0, k1, k2, k3, k4, k5, k6, k7, k8, k9, k10⟩, ⟨f0, f1, f2, f3, f4, f5, f6, f7, f8, f9, f10⟩⟩ := Bx.b11 (HA.out.held 0 rfl)
    obtain ⟨_, ⟨z0, z1, z2, z3, z4, z5, z6, z7, z8, z9, z10⟩⟩ := Bx.b11 (HA.out.held 1 rfl)
    have HF := Lib.hid ((show Sep w [box (w.heap.size + 1) (.cells #[.int .i64 0, .int .i64 0, .int .i64 0, .int .i64 0, .int .i64 0, .int .i64 0, .int .i64 0, .int .i64 0, .int .i64 0, .int .i64 0, .int .i64 0] 42), box w.heap.size (.cells #[.int .i64 qs, .int .i64 qi, .int .i64 qg, .int .i64 qm, .int .i64 (Zn.into X (cC * cS)), .int .i64 (Zn.into Y (cR * cS)), .int .i64 qvx, .int .i64 qvy, .int .i64 qh, .int .i64 qp, .int .i64 ql] 42)] w11 from HA.out.pull 1 rfl).set11 (.int .i64 qs) (.int .i64 qi) (.int .i64 qg) (.int .i64 qm) (.int .i64 (Zn.into X (cC * cS))) (.int .i64 (Zn.into Y (cR * cS))) (.int .i64 qvx) (.int .i64 qvy) (.int .i64 qh) (.int .i64 qp) (.int .i64 ql))
    go_wp2
    generalize (((((((((((w11.setCell ⟨w.heap.size + 1, 0, none⟩ (.int .i64 qs)).setCell ⟨w.heap.size + 1, 1, none⟩ (.int .i64 qi)).setCell ⟨w.heap.size + 1, 2, none⟩ (.int .i64 qg)).setCell ⟨w.heap.size + 1, 3, none⟩ (.int .i64 qm)).setCell ⟨w.heap.size + 1, 4, none⟩ (.int .i64 (Zn.into X (cC * cS)))).setCell ⟨w.heap.size + 1, 5, none⟩ (.int .i64 (Zn.into Y (cR * cS)))).setCell ⟨w.heap.size + 1, 6, none⟩ (.int .i64 qvx)).setCell ⟨w.heap.size + 1, 7, none⟩ (.int .i64 qvy)).setCell ⟨w.heap.size + 1, 8, none⟩ (.int .i64 qh)).setCell ⟨w.heap.size + 1, 9, none⟩ (.int .i64 qp)).setCell ⟨w.heap.size + 1, 10, none⟩ (.int .i64 ql)) = V at *
    obtain ⟨r0, r1, r2, r3, r4, r5, r6, r7, r8, r9, r10⟩ := (Bx.b11 (HF.out.held 0 rfl)).1
    exact bodyPost_ret (v := .agg #[.int .i64 qs, .int .i64 qi, .int .i64 qg, .int .i64 qm, .int .i64 (Zn.into X (cC * cS)), .int .i64 (Zn.into Y (cR * cS)), .int .i64 qvx, .int .i64 qvy, .int .i64 qh, .int .i64 qp, .int .i64 ql]) (by simp [results, Tryz.results39, go_sem, r0, r1, r2, r3, r4, r5, r6, r7, r8, r9, r10]) rfl ⟨rfl, HF.out.bel⟩
end Go.Proofs.YtljaahemlcaffaaGreat
