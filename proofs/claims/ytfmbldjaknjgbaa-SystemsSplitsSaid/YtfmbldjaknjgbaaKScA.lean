/- The code: a sum of two, a step. Written by wip/tools/gensy.py. -/
import Derived.Test.YtfmbldjaknjgbaaKSyA
import Derived.Test.YtfmbldjaknjgbaaKRc
import Derived.Test.YtfmbldjaknjgbaaKZn
import Derived.Test.YtfmbldjaknjgbaaKPc
import Derived.Test.YtfmbldjaknjgbaaKBase
import Derived.Test.YtfmbldjaknjgbaaKSp
import Derived.Deep.DeepCutAuto
namespace Go.Proofs.Ytfmbldjaknjgbaa
open Go.RowKit Pz Sp
set_option linter.unusedVariables false
set_option linter.unusedSimpArgs false

set_option maxHeartbeats 1000000 in
set_option maxRecDepth 100000 in
theorem add2_any (a b : Int) (g c : Nat) (w : World) (h : w.heap[g]? = some (.cells #[.int .i64 a, .int .i64 b] 3 (0, 0))) :
    Calls Try.prog 46 #[.slice (some ⟨g, 0, none⟩) 2 c] w fun e w' => e = .returned (.int .i64 (Rc.clamp (Rc.clamp a + Rc.clamp b))) ∧ w = w' := by
  obtain ⟨⟨k0, k1⟩, _⟩ := Bx.b2 h
  clear h
  have C1 := Lib.hid fun W => clamp_all a W
  have C2 := Lib.hid fun W => clamp_all (Rc.clamp a) W
  have C3 := Lib.hid fun W => clamp_all b W
  have C4 := Lib.hid fun W => clamp_all (Rc.clamp a + Rc.clamp b) W
  rw [Rc.clamp_clamp] at C2
  have b0 := Rc.clamp_bd a
  have b1 := Rc.clamp_bd b
  generalize Rc.clamp (Rc.clamp a + Rc.clamp b) = cs at *
  generalize Rc.clamp a = ca at *
  generalize Rc.clamp b = cb at *
  have u0 : IntKind.i64.wrap (0 + ca) = ca := by rw [Int.zero_add]; exact IntWalk.i64_in _ ⟨by omega, by omega⟩
  have u1 : IntKind.i64.wrap (ca + cb) = ca + cb := IntWalk.i64_in _ ⟨by omega, by omega⟩
  have u2 : IntKind.i64.wrap ca = ca := IntWalk.i64_in _ ⟨by omega, by omega⟩
  go_enter Try.func46, Try.ntmps46
  go_wp2
  go_loop [3, 8] (fun s i => (s = .int .i64 0 ∧ i = .int .i64 0) ∨ (s = .int .i64 ca ∧ i = .int .i64 1) ∨ (s = .int .i64 cs ∧ i = .int .i64 2)) (fun _ i => 2 - (intOf i).toNat)
  case atStart => exact .inl ⟨rfl, rfl⟩
  case round =>
    rcases hrel with ⟨rfl, rfl⟩ | ⟨rfl, rfl⟩ | ⟨rfl, rfl⟩
    · go_wp2_with (first
        | (go_at_call 73; with_reducible refine (C1.out _).mono ?_; rintro e w1 ⟨rfl, rfl⟩; clear C1)
        | (go_at_call 73; with_reducible refine (C2.out _).mono ?_; rintro e w2 ⟨rfl, rfl⟩; clear C2))
      go_round
      case rel => exact .inr (.inl ⟨rfl, rfl⟩)
      case measure => simp [intOf]
    · go_wp2_with (first
        | (go_at_call 73; with_reducible refine (C3.out _).mono ?_; rintro e w1 ⟨rfl, rfl⟩; clear C3)
        | (go_at_call 73; with_reducible refine (C4.out _).mono ?_; rintro e w2 ⟨rfl, rfl⟩; clear C4))
      go_round
      case rel => exact .inr (.inr ⟨rfl, rfl⟩)
      case measure => simp [intOf]
    · go_wp2
      go_ret
      exact ⟨rfl, rfl⟩
set_option maxHeartbeats 1000000 in
set_option maxRecDepth 100000 in
theorem step_any (q : Nat) (C R S D V N Q v : Int) (w : World) (h : MapAt w q C R S D V N Q) (hV : 0 ≤ V ∧ V ≤ 1073741824) (hv : I v) :
    Calls Try.prog 47 #[.pointer (some ⟨q, 0, none⟩), .int .i64 v] w fun e w' => e = .returned (.int .i64 (Sy.near v V)) ∧ Below w.heap.size w w' := by
  have e : Sy.near v V = max (-V) (min v V) := by unfold Sy.near; split <;> (try split) <;> omega
  rw [e]
  have u0 : IntKind.i64.wrap (-V) = -V := IntWalk.i64_in _ ⟨by omega, by omega⟩
  obtain ⟨⟨g0, g1, g2, g3, g4, g5, g6⟩, _⟩ := box7 h
  clear h
  go_enter Try.func47, Try.ntmps47
  go_wp2
  go_region
  go_wp2
  go_ret
  exact ⟨rfl, (Below.refl _ _).drew⟩
end Go.Proofs.Ytfmbldjaknjgbaa
