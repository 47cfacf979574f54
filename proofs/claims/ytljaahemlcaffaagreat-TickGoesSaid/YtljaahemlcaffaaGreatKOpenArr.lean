/- How an argument that came in is read: an array of two. -/
import Derived.Test.YtljaahemlcaffaaGreatK01
import Derived.Lib.SmallJoins
namespace Go.Proofs.YtljaahemlcaffaaGreat
open Go.ChangeShapes Go.WideShapes Go.ChangeAt Go.RowKit

section
variable {H : Type} {enc : TypeId × Value → H} {P : Program} {w : World} {t e : TypeId} {v : Value} {d : DataW H} {ps : List MemPlace} {b0 : Nat}
theorem in_arr2 (ht : P.underlying t = some (.array 2 e)) (hc : P.cellsOf e = 1) (hC : P.cellsOf t = 2) (hval : Value.okWide P w .any b0 t v) (hd : DataW.Trod enc P w 0 (fun _ => true) true t v d ps) :
    ∃ (c0 c1 : Value) (y0 y1 : DataW H × List MemPlace) (n : Nat), v = .agg #[c0, c1] ∧ d = .agg [y0.1, y1.1] ∧ DataW.trod enc P w 0 (fun _ => true) true n e [c0] = some y0 ∧ DataW.trod enc P w 0 (fun _ => true) true n e [c1] = some y1 := by
  simp only [Value.okWide, ht] at hval
  obtain ⟨cs, rfl, hsz, _⟩ := hval
  obtain ⟨c0, c1, rfl⟩ := Joins.array2 (hsz.trans hC)
  obtain ⟨fuel, hf⟩ := hd
  obtain ⟨xs, m, _, hx, hl, hxn, hel⟩ := DataW.trod_array ht hf
  obtain ⟨y0, y1, rfl⟩ : ∃ y0 y1, xs = [y0, y1] := by
    match xs, hxn with
    | [a, b], _ => exact ⟨a, b, rfl⟩
  simp only [Prod.mk.injEq] at hx
  have h0 := hel 0 (by omega)
  have h1 := hel 1 (by omega)
  rw [hc] at h0 h1
  exact ⟨c0, c1, y0, y1, m, rfl, hx.1, by simpa [Value.cells] using h0, by simpa [Value.cells] using h1⟩
theorem in_int2 (ht : P.underlying t = some (.array 2 e)) (he : P.underlying e = some (.int .i64)) (hc : P.cellsOf e = 1) (hC : P.cellsOf t = 2) (hval : Value.okWide P w .any b0 t v) (hd : DataW.Trod enc P w 0 (fun _ => true) true t v d ps) :
    ∃ a b : Int, v = .agg #[.int .i64 a, .int .i64 b] ∧ (-9223372036854775808 ≤ a ∧ a ≤ 9223372036854775807) ∧ (-9223372036854775808 ≤ b ∧ b ≤ 9223372036854775807) := by
  obtain ⟨c0, c1, y0, y1, n, rfl, _, h0, h1⟩ := in_arr2 ht hc hC hval hd
  obtain ⟨a, e0, _, wa⟩ := DataW.trod_int he h0
  obtain ⟨b, e1, _, wb⟩ := DataW.trod_int he h1
  simp only [List.cons.injEq, and_true] at e0 e1
  subst e0 e1
  exact ⟨a, b, rfl, wf_bd wa, wf_bd wb⟩
theorem in_str2 (ht : P.underlying t = some (.array 2 e)) (he : P.underlying e = some .string) (hc : P.cellsOf e = 1) (hC : P.cellsOf t = 2) (hval : Value.okWide P w .any b0 t v) (hd : DataW.Trod enc P w 0 (fun _ => true) true t v d ps) (hz : ∀ n ∈ DataW.weights P t d, n ≤ reachBytes) :
    ∃ a b : List UInt8, v = .agg #[.string ⟨a.toArray⟩, .string ⟨b.toArray⟩] ∧ a.length ≤ 140737488351232 ∧ b.length ≤ 140737488351232 := by
  obtain ⟨c0, c1, y0, y1, n, rfl, hd2, h0, h1⟩ := in_arr2 ht hc hC hval hd
  obtain ⟨a, e0, f0, wa⟩ := DataW.trod_string he h0
  obtain ⟨b, e1, f1, wb⟩ := DataW.trod_string he h1
  simp only [List.cons.injEq, and_true] at e0 e1
  subst e0 e1 f0 f1 hd2
  refine ⟨a.data.toList, b.data.toList, by simp, hz _ ?_, hz _ ?_⟩ <;> simp [DataW.weights, DataW.weightsAll, ht]
end

end Go.Proofs.YtljaahemlcaffaaGreat
