/- A slice of items (a number and a text); a slice of asks (two numbers). -/
import Derived.Test.YtjkjomnnpfbiiaaOpenRow
namespace Go.Proofs.Ytjkjomnnpfbiiaa
open Go.ChangeShapes Go.WideShapes Go.ChangeAt Go.RowKit
set_option linter.unusedVariables false

section
variable {H : Type} {enc : TypeId × Value → H} {P : Program} {w : World} {t e : TypeId} {v : Value} {d : DataW H} {ps : List MemPlace} {b0 : Nat}

theorem in_pair {f0 f1 : Field} {n : Nat} {row : List Value} {y : DataW H × List MemPlace} (he : P.underlying e = some (.struct #[f0, f1])) (hC : P.cellsOf e = 2) (o0 : f0.offset = 0) (o1 : f1.offset = 1) (k0 : P.cellsOf f0.type = 1) (k1 : P.cellsOf f1.type = 1)
    (h : DataW.trod enc P w 0 (fun _ => true) true n e row = some y) :
    ∃ c0 c1 y0 y1 m, row = [c0, c1] ∧ y.1 = .agg [y0.1, y1.1] ∧ DataW.trod enc P w 0 (fun _ => true) true m f0.type [c0] = some y0 ∧ DataW.trod enc P w 0 (fun _ => true) true m f1.type [c1] = some y1 := by
  obtain ⟨xs, m, _, hy, hl, hxl, hf⟩ := DataW.trod_struct he h
  rw [hC] at hl
  obtain ⟨c0, c1, rfl⟩ : ∃ c0 c1, row = [c0, c1] := by
    match row, hl with
    | [a, b], _ => exact ⟨a, b, rfl⟩
  obtain ⟨y0, y1, rfl⟩ : ∃ y0 y1, xs = [y0, y1] := by
    match xs, hxl with
    | [a, b], _ => exact ⟨a, b, rfl⟩
  have h0 := hf 0 f0 rfl
  have h1 := hf 1 f1 rfl
  rw [o0, k0] at h0
  rw [o1, k1] at h1
  exact ⟨c0, c1, y0, y1, m, rfl, by rw [hy]; rfl, h0, h1⟩

/-- a slice of pairs of an int and a string -/
theorem in_items {f0 f1 : Field} (ht : P.underlying t = some (.slice e)) (he : P.underlying e = some (.struct #[f0, f1])) (hC : P.cellsOf e = 2) (o0 : f0.offset = 0) (o1 : f1.offset = 1) (k0 : P.cellsOf f0.type = 1) (k1 : P.cellsOf f1.type = 1)
    (i0 : P.underlying f0.type = some (.int .i64)) (i1 : P.underlying f1.type = some .string) (hb : 1 ≤ P.bytesOf e)
    (hval : Value.okWide P w .any b0 t v) (hd : DataW.Trod enc P w 0 (fun _ => true) true t v d ps) (hz : ∀ n ∈ DataW.weights P t d, n ≤ reachBytes) :
    ∃ (A : Option Addr) (cap : Nat) (l : List (Int × List UInt8)), v = .slice A l.length cap ∧ l.length ≤ cap ∧ cap ≤ 140737488351232 ∧
      (∀ x ∈ l, (-9223372036854775808 ≤ x.1 ∧ x.1 ≤ 9223372036854775807) ∧ x.2.length ≤ 140737488351232) ∧ ReadsK w w.heap.size A 2 (l.map fun x => [.int .i64 x.1, .string ⟨x.2.toArray⟩]) := by
  obtain ⟨A, cap, rows, rfl, hl, hcap, _, hr, hR⟩ := in_rows ht hC (by omega) hb hval hd hz
  obtain ⟨l, rfl, hq⟩ := rows_map (f := fun x : Int × List UInt8 => [Value.int .i64 x.1, .string ⟨x.2.toArray⟩]) (Q := fun x => (-9223372036854775808 ≤ x.1 ∧ x.1 ≤ 9223372036854775807) ∧ x.2.length ≤ 140737488351232) (rows := rows) (by
    intro row hrow
    obtain ⟨n, y, hy, hw⟩ := hr row hrow
    obtain ⟨c0, c1, y0, y1, m, rfl, hy1, h0, h1⟩ := in_pair he hC o0 o1 k0 k1 hy
    obtain ⟨a, e0, _, wa⟩ := DataW.trod_int i0 h0
    obtain ⟨s, e1, g1, ws⟩ := DataW.trod_string i1 h1
    simp only [List.cons.injEq, and_true] at e0 e1
    subst e0 e1 g1
    refine ⟨(a, s.data.toList), by simp, wf_bd wa, hw _ ?_⟩
    rw [hy1]
    simp [DataW.weights, he, DataW.weightsEach])
  exact ⟨A, cap, l, by rw [List.length_map], by simpa using hl, hcap, hq, hR⟩

/-- a slice of pairs of two ints -/
theorem in_pairs {f0 f1 : Field} (ht : P.underlying t = some (.slice e)) (he : P.underlying e = some (.struct #[f0, f1])) (hC : P.cellsOf e = 2) (o0 : f0.offset = 0) (o1 : f1.offset = 1) (k0 : P.cellsOf f0.type = 1) (k1 : P.cellsOf f1.type = 1)
    (i0 : P.underlying f0.type = some (.int .i64)) (i1 : P.underlying f1.type = some (.int .i64)) (hb : 1 ≤ P.bytesOf e)
    (hval : Value.okWide P w .any b0 t v) (hd : DataW.Trod enc P w 0 (fun _ => true) true t v d ps) (hz : ∀ n ∈ DataW.weights P t d, n ≤ reachBytes) :
    ∃ (A : Option Addr) (cap : Nat) (l : List (Int × Int)), v = .slice A l.length cap ∧ l.length ≤ cap ∧ cap ≤ 140737488351232 ∧
      (∀ x ∈ l, (-9223372036854775808 ≤ x.1 ∧ x.1 ≤ 9223372036854775807) ∧ -9223372036854775808 ≤ x.2 ∧ x.2 ≤ 9223372036854775807) ∧ ReadsK w w.heap.size A 2 (l.map fun x => [.int .i64 x.1, .int .i64 x.2]) := by
  obtain ⟨A, cap, rows, rfl, hl, hcap, _, hr, hR⟩ := in_rows ht hC (by omega) hb hval hd hz
  obtain ⟨l, rfl, hq⟩ := rows_map (f := fun x : Int × Int => [Value.int .i64 x.1, .int .i64 x.2]) (Q := fun x => (-9223372036854775808 ≤ x.1 ∧ x.1 ≤ 9223372036854775807) ∧ -9223372036854775808 ≤ x.2 ∧ x.2 ≤ 9223372036854775807) (rows := rows) (by
    intro row hrow
    obtain ⟨n, y, hy, hw⟩ := hr row hrow
    obtain ⟨c0, c1, y0, y1, m, rfl, hy1, h0, h1⟩ := in_pair he hC o0 o1 k0 k1 hy
    obtain ⟨a, e0, _, wa⟩ := DataW.trod_int i0 h0
    obtain ⟨b, e1, _, wb⟩ := DataW.trod_int i1 h1
    simp only [List.cons.injEq, and_true] at e0 e1
    subst e0 e1
    exact ⟨(a, b), rfl, wf_bd wa, wf_bd wb⟩)
  exact ⟨A, cap, l, by rw [List.length_map], by simpa using hl, hcap, hq, hR⟩
end

end Go.Proofs.Ytjkjomnnpfbiiaa
