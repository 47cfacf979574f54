/- The document's parts: half, Bit, in, RightID, takes, Error. Written by wip/tools/genpz1.py. The document's parts: Right, May. Written by wip/tools/genpz2.py. Equality of names and of entities. Written by wip/tools/genpzeq.py. The document's parts: MayCmd. Written by wip/tools/genpz3.py. -/
import Derived.Test.YtljaahemlcaffaaK00
import Derived.Test.YtljaahemlcaffaaK01
import Derived.BigQuiet
import Derived.LoopTactic
import Derived.Lib.Hide
import Derived.Laws.StructEq
import Derived.Deep.DeepCutAuto
namespace Go.Proofs.Ytljaahemlcaffaa
open Go.RowKit Pz
set_option linter.unusedVariables false

theorem half_even (q : Int) : (2 * q).tdiv 2 = q := Int.mul_tdiv_cancel_left q (by decide)
theorem tmod_two (n : Int) : (n.tmod 2 != 0) = decide (n % 2 = 1) := by
  have h1 := Int.emod_emod_of_dvd n (Int.dvd_refl 2)
  by_cases h : n % 2 = 1
  · rw [decide_eq_true h, bne_iff_ne]
    intro e
    have := Int.dvd_of_tmod_eq_zero e
    omega
  · rw [decide_eq_false h]
    have e : n.tmod 2 = 0 := Int.tmod_eq_zero_of_dvd (by omega)
    rw [e]; rfl
end Go.Proofs.Ytljaahemlcaffaa
namespace Go.Proofs.Ytljaahemlcaffaa
open Go.RowKit Pz
set_option linter.unusedVariables false

theorem quiet_same {P : Program} {f : FuncId} {args : Array Value} {w : World} {n : Nat} {v : Value}
    (h : Calls P f args (w.drewN n) fun e w' => e = .returned v ∧ w.drewN n = w') : Calls P f args (w.drewN n) fun e w'' => e = .returned v ∧ ∃ m, w'' = w.drewN m := Calls.quiet_of_same (still_of h)
theorem dn_cell {w : World} {p : Addr} {v : Option Value} (n : Nat) (h : w.cell? p = v) : (w.drewN n).cell? p = v := h
end Go.Proofs.Ytljaahemlcaffaa
namespace Go.Proofs.Ytljaahemlcaffaa
open Go.RowKit Pz
set_option linter.unusedVariables false

theorem ite_and {a x : Int} {r : Result Bool} {c : Bool} {w : World} (h : r = .ok c w) : (if a = x then r else .ok false w) = .ok ((a == x) && c) w := by
  by_cases e : a = x
  · rw [if_pos e, beq_iff_eq.2 e, h]; rfl
  · rw [if_neg e, beq_eq_false_iff_ne.2 e]; rfl
theorem ite_end {a x : Int} {w : World} : (if a = x then Result.ok true w else .ok false w) = .ok (a == x) w := by
  by_cases e : a = x
  · rw [if_pos e, beq_iff_eq.2 e]
  · rw [if_neg e, beq_eq_false_iff_ne.2 e]
set_option maxRecDepth 100000 in
set_option maxHeartbeats 4000000 in
theorem eq_id (d : Nat) (p0 p1 p2 q0 q1 q2 : Int) (w : World) : (Op.equalIn (d + 2) 53 (.agg #[.int .i64 p0, .int .i64 p1, .int .i64 p2]) (.agg #[.int .i64 q0, .int .i64 q1, .int .i64 q2])).run Try.prog w = .ok ((p0 == q0) && ((p1 == q1) && (p2 == q2))) w := by
  have u3 := Try.underlying3
  have a3 := Try.isAgg3
  have z3 := Try.sizeOf3
  have hS : Try.prog.underlying 53 = some (.struct (Try.prog.fieldsOf 53)) := by kernel_rfl
  have hp : Try.prog.stoodInHeld 53 = false := by kernel_rfl
  rw [run_equalIn_agg w _ 53 _ _ hS hp]
  simp only [Program.fieldsOf, Try.underlying53]
  go_simp
  exact ite_and (ite_and ite_end)
set_option maxRecDepth 100000 in
set_option maxHeartbeats 4000000 in
theorem eq_bundle  (p0 p1 p2 p3 p4 p5 p6 p7 p8 p9 p10 q0 q1 q2 q3 q4 q5 q6 q7 q8 q9 q10 : Int) (w : World) : (Op.equalIn (9999 + 1) 55 (.agg #[.int .i64 p0, .int .i64 p1, .int .i64 p2, .int .i64 p3, .int .i64 p4, .int .i64 p5, .int .i64 p6, .int .i64 p7, .int .i64 p8, .int .i64 p9, .int .i64 p10]) (.agg #[.int .i64 q0, .int .i64 q1, .int .i64 q2, .int .i64 q3, .int .i64 q4, .int .i64 q5, .int .i64 q6, .int .i64 q7, .int .i64 q8, .int .i64 q9, .int .i64 q10])).run Try.prog w = .ok (((p0 == q0) && ((p1 == q1) && (p2 == q2))) && ((p3 == q3) && ((p4 == q4) && ((p5 == q5) && ((p6 == q6) && ((p7 == q7) && ((p8 == q8) && ((p9 == q9) && (p10 == q10))))))))) w := by
  have u3 := Try.underlying3
  have a3 := Try.isAgg3
  have z3 := Try.sizeOf3
  have hS : Try.prog.underlying 55 = some (.struct (Try.prog.fieldsOf 55)) := by kernel_rfl
  have hp : Try.prog.stoodInHeld 55 = false := by kernel_rfl
  have E := fun W => eq_id 9997 p0 p1 p2 q0 q1 q2 W
  have u23 := Try.underlying53
  have a23 := Try.isAgg53
  have z23 := Try.sizeOf53
  generalize ((p0 == q0) && ((p1 == q1) && (p2 == q2))) = b at *
  rw [run_equalIn_agg w _ 55 _ _ hS hp]
  simp only [Program.fieldsOf, Try.underlying55]
  go_simp
  cases b with
  | false => rfl
  | true => exact (ite_and (ite_and (ite_and (ite_and (ite_and (ite_and (ite_and ite_end)))))))
end Go.Proofs.Ytljaahemlcaffaa
namespace Go.Proofs.Ytljaahemlcaffaa
open Go.RowKit Pz
set_option linter.unusedVariables false

end Go.Proofs.Ytljaahemlcaffaa
