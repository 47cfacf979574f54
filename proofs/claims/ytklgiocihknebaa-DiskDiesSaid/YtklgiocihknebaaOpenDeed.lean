/- How an argument that came in is read: an array of three strings; a struct of two ints and three strings; a slice of such. -/
import Derived.Test.YtklgiocihknebaaOpenArr
import Derived.Test.YtklgiocihknebaaOpenRow
namespace Go.Proofs.Ytklgiocihknebaa
open Go.ChangeShapes Go.WideShapes Go.ChangeAt Go.RowKit
set_option linter.unusedVariables false

def Fits (n : Int) : Prop := -9223372036854775808 ≤ n ∧ n ≤ 9223372036854775807
/-- a deed, over lists -/
structure DD where
  kind : Int
  n : Int
  name : List UInt8
  to : List UInt8
  s : List UInt8
def DD.row (x : DD) : List Value := [.int .i64 x.kind, .int .i64 x.n, .string ⟨x.name.toArray⟩, .string ⟨x.to.toArray⟩, .string ⟨x.s.toArray⟩]
structure DD.Fine (x : DD) : Prop where
  kind : Fits x.kind
  n : Fits x.n
  name : x.name.length ≤ 140737488351232
  to : x.to.length ≤ 140737488351232
  s : x.s.length ≤ 140737488351232

section
variable {H : Type} {enc : TypeId × Value → H} {P : Program} {w : World} {t e : TypeId} {v : Value} {d : DataW H} {ps : List MemPlace} {b0 : Nat}
theorem in_str3 (ht : P.underlying t = some (.array 3 e)) (he : P.underlying e = some .string) (hc : P.cellsOf e = 1) (hC : P.cellsOf t = 3) (hval : Value.okWide P w .any b0 t v) (hd : DataW.Trod enc P w 0 (fun _ => true) true t v d ps) (hz : ∀ n ∈ DataW.weights P t d, n ≤ reachBytes) :
    ∃ a b c : List UInt8, v = .agg #[.string ⟨a.toArray⟩, .string ⟨b.toArray⟩, .string ⟨c.toArray⟩] ∧ a.length ≤ 140737488351232 ∧ b.length ≤ 140737488351232 ∧ c.length ≤ 140737488351232 := by
  simp only [Value.okWide, ht] at hval
  obtain ⟨cs, rfl, hsz, _⟩ := hval
  obtain ⟨c0, c1, c2, rfl⟩ : ∃ c0 c1 c2, cs = #[c0, c1, c2] := by
    have h3 := hsz.trans hC
    obtain ⟨l⟩ := cs
    match l, h3 with
    | [a, b, c], _ => exact ⟨a, b, c, rfl⟩
  obtain ⟨fuel, hf⟩ := hd
  obtain ⟨xs, m, _, hx, hl, hxn, hel⟩ := DataW.trod_array ht hf
  obtain ⟨y0, y1, y2, rfl⟩ : ∃ y0 y1 y2, xs = [y0, y1, y2] := by
    match xs, hxn with
    | [a, b, c], _ => exact ⟨a, b, c, rfl⟩
  simp only [Prod.mk.injEq] at hx
  have h0 := hel 0 (by omega)
  have h1 := hel 1 (by omega)
  have h2 := hel 2 (by omega)
  rw [hc] at h0 h1 h2
  replace h0 : DataW.trod enc P w 0 (fun _ => true) true m e [c0] = some y0 := by simpa [Value.cells] using h0
  replace h1 : DataW.trod enc P w 0 (fun _ => true) true m e [c1] = some y1 := by simpa [Value.cells] using h1
  replace h2 : DataW.trod enc P w 0 (fun _ => true) true m e [c2] = some y2 := by simpa [Value.cells] using h2
  obtain ⟨a, e0, f0, wa⟩ := DataW.trod_string he h0
  obtain ⟨b, e1, f1, wb⟩ := DataW.trod_string he h1
  obtain ⟨c, e2, f2, wc⟩ := DataW.trod_string he h2
  simp only [List.cons.injEq, and_true] at e0 e1 e2
  obtain ⟨hd3, _⟩ := hx
  subst e0 e1 e2 f0 f1 f2 hd3
  refine ⟨a.data.toList, b.data.toList, c.data.toList, by simp, hz _ ?_, hz _ ?_, hz _ ?_⟩ <;> simp [DataW.weights, DataW.weightsAll, ht]
section
variable {f0 f1 f2 f3 f4 : Field} (he : P.underlying e = some (.struct #[f0, f1, f2, f3, f4])) (hC : P.cellsOf e = 5) (o : f0.offset = 0 ∧ f1.offset = 1 ∧ f2.offset = 2 ∧ f3.offset = 3 ∧ f4.offset = 4)
    (k : P.cellsOf f0.type = 1 ∧ P.cellsOf f1.type = 1 ∧ P.cellsOf f2.type = 1 ∧ P.cellsOf f3.type = 1 ∧ P.cellsOf f4.type = 1) (i : P.underlying f0.type = some (.int .i64) ∧ P.underlying f1.type = some (.int .i64) ∧ P.underlying f2.type = some .string ∧ P.underlying f3.type = some .string ∧ P.underlying f4.type = some .string)
include he hC o k i
theorem row_deed {n : Nat} {row : List Value} {y : DataW H × List MemPlace} 
    (h : DataW.trod enc P w 0 (fun _ => true) true n e row = some y) (hz : ∀ n ∈ DataW.weights P e y.1, n ≤ reachBytes) :
    ∃ x : DD, row = x.row ∧ x.Fine := by
  obtain ⟨xs, m, _, hy, hl, hxl, hf⟩ := DataW.trod_struct he h
  rw [hC] at hl
  obtain ⟨c0, c1, c2, c3, c4, rfl⟩ : ∃ c0 c1 c2 c3 c4, row = [c0, c1, c2, c3, c4] := by
    match row, hl with
    | [a, b, c, d, e], _ => exact ⟨a, b, c, d, e, rfl⟩
  obtain ⟨y0, y1, y2, y3, y4, rfl⟩ : ∃ y0 y1 y2 y3 y4, xs = [y0, y1, y2, y3, y4] := by
    match xs, hxl with
    | [a, b, c, d, e], _ => exact ⟨a, b, c, d, e, rfl⟩
  have h0 := hf 0 f0 rfl
  have h1 := hf 1 f1 rfl
  have h2 := hf 2 f2 rfl
  have h3 := hf 3 f3 rfl
  have h4 := hf 4 f4 rfl
  rw [o.1, k.1] at h0
  rw [o.2.1, k.2.1] at h1
  rw [o.2.2.1, k.2.2.1] at h2
  rw [o.2.2.2.1, k.2.2.2.1] at h3
  rw [o.2.2.2.2, k.2.2.2.2] at h4
  obtain ⟨a, e0, _, wa⟩ := DataW.trod_int i.1 h0
  obtain ⟨b, e1, _, wb⟩ := DataW.trod_int i.2.1 h1
  obtain ⟨s, e2, g2, _⟩ := DataW.trod_string i.2.2.1 h2
  obtain ⟨t, e3, g3, _⟩ := DataW.trod_string i.2.2.2.1 h3
  obtain ⟨u, e4, g4, _⟩ := DataW.trod_string i.2.2.2.2 h4
  simp only [List.drop_zero, List.drop_succ_cons, List.take_succ_cons, List.take_zero, List.cons.injEq, and_true] at e0 e1 e2 e3 e4
  subst e0 e1 e2 e3 e4 g2 g3 g4 hy
  refine ⟨⟨a, b, s.data.toList, t.data.toList, u.data.toList⟩, by simp [DD.row], wf_bd wa, wf_bd wb, hz _ ?_, hz _ ?_, hz _ ?_⟩ <;> simp [DataW.weights, DataW.weightsEach, he]
theorem in_deed
    (hval : Value.okWide P w .any b0 e v) (hd : DataW.Trod enc P w 0 (fun _ => true) true e v d ps) (hz : ∀ n ∈ DataW.weights P e d, n ≤ reachBytes) :
    ∃ x : DD, v = .agg #[.int .i64 x.kind, .int .i64 x.n, .string ⟨x.name.toArray⟩, .string ⟨x.to.toArray⟩, .string ⟨x.s.toArray⟩] ∧ x.Fine := by
  obtain ⟨cs, rfl, hsz⟩ := okWide_struct he hval
  obtain ⟨fuel, hf⟩ := hd
  obtain ⟨x, h, r⟩ := row_deed he hC o k i hf hz
  refine ⟨x, ?_, r⟩
  simp only [Value.cells, DD.row] at h
  congr 1
  exact Array.ext' (by simpa using h)
theorem in_deeds (ht : P.underlying t = some (.slice e)) (hb : 1 ≤ P.bytesOf e)
    (hval : Value.okWide P w .any b0 t v) (hd : DataW.Trod enc P w 0 (fun _ => true) true t v d ps) (hz : ∀ n ∈ DataW.weights P t d, n ≤ reachBytes) :
    ∃ (A : Option Addr) (cap : Nat) (l : List DD), v = .slice A l.length cap ∧ l.length ≤ cap ∧ cap ≤ 140737488351232 ∧
      (∀ x ∈ l, x.Fine) ∧ ReadsK w w.heap.size A 5 (l.map DD.row) := by
  obtain ⟨A, cap, rows, rfl, hl, hcap, _, hr, hR⟩ := in_rows ht hC (by omega) hb hval hd hz
  obtain ⟨l, rfl, hq⟩ := rows_map (f := DD.row) (Q := DD.Fine) (rows := rows) (by
    intro row hrow
    obtain ⟨n, y, hy, hw⟩ := hr row hrow
    exact row_deed he hC o k i hy hw)
  exact ⟨A, cap, l, by rw [List.length_map], by simpa using hl, hcap, hq, hR⟩
end
end
end Go.Proofs.Ytklgiocihknebaa
