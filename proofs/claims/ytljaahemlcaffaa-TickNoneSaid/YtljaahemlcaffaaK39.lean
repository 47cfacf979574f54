/- How an argument that came in is read: a struct of four ints; a slice of such. How an argument that came in is read: a struct of seven ints. -/
import Derived.Test.YtljaahemlcaffaaK04
namespace Go.Proofs.Ytljaahemlcaffaa
open Go.ChangeShapes Go.WideShapes Go.ChangeAt Go.RowKit
set_option linter.unusedVariables false

def Fits (n : Int) : Prop := -9223372036854775808 ≤ n ∧ n ≤ 9223372036854775807

section
variable {H : Type} {enc : TypeId × Value → H} {P : Program} {w : World} {t e : TypeId} {v : Value} {d : DataW H} {ps : List MemPlace} {b0 : Nat}

theorem row_rect {f0 f1 f2 f3 : Field} {n : Nat} {row : List Value} {y : DataW H × List MemPlace} (he : P.underlying e = some (.struct #[f0, f1, f2, f3])) (hC : P.cellsOf e = 4) (o : f0.offset = 0 ∧ f1.offset = 1 ∧ f2.offset = 2 ∧ f3.offset = 3)
    (k : P.cellsOf f0.type = 1 ∧ P.cellsOf f1.type = 1 ∧ P.cellsOf f2.type = 1 ∧ P.cellsOf f3.type = 1) (i : P.underlying f0.type = some (.int .i64) ∧ P.underlying f1.type = some (.int .i64) ∧ P.underlying f2.type = some (.int .i64) ∧ P.underlying f3.type = some (.int .i64))
    (h : DataW.trod enc P w 0 (fun _ => true) true n e row = some y) :
    ∃ a b c d : Int, row = [.int .i64 a, .int .i64 b, .int .i64 c, .int .i64 d] ∧ Fits a ∧ Fits b ∧ Fits c ∧ Fits d := by
  obtain ⟨xs, m, _, hy, hl, hxl, hf⟩ := DataW.trod_struct he h
  rw [hC] at hl
  obtain ⟨c0, c1, c2, c3, rfl⟩ : ∃ c0 c1 c2 c3, row = [c0, c1, c2, c3] := by
    match row, hl with
    | [a, b, c, d], _ => exact ⟨a, b, c, d, rfl⟩
  obtain ⟨y0, y1, y2, y3, rfl⟩ : ∃ y0 y1 y2 y3, xs = [y0, y1, y2, y3] := by
    match xs, hxl with
    | [a, b, c, d], _ => exact ⟨a, b, c, d, rfl⟩
  have h0 := hf 0 f0 rfl
  have h1 := hf 1 f1 rfl
  have h2 := hf 2 f2 rfl
  have h3 := hf 3 f3 rfl
  rw [o.1, k.1] at h0
  rw [o.2.1, k.2.1] at h1
  rw [o.2.2.1, k.2.2.1] at h2
  rw [o.2.2.2, k.2.2.2] at h3
  obtain ⟨a, e0, _, wa⟩ := DataW.trod_int i.1 h0
  obtain ⟨b, e1, _, wb⟩ := DataW.trod_int i.2.1 h1
  obtain ⟨c, e2, _, wc⟩ := DataW.trod_int i.2.2.1 h2
  obtain ⟨dd, e3, _, wd⟩ := DataW.trod_int i.2.2.2 h3
  simp only [List.drop_zero, List.drop_succ_cons, List.take_succ_cons, List.take_zero, List.cons.injEq, and_true] at e0 e1 e2 e3
  subst e0 e1 e2 e3
  exact ⟨a, b, c, dd, rfl, wf_bd wa, wf_bd wb, wf_bd wc, wf_bd wd⟩
theorem in_rect {f0 f1 f2 f3 : Field} (he : P.underlying t = some (.struct #[f0, f1, f2, f3])) (hC : P.cellsOf t = 4) (o : f0.offset = 0 ∧ f1.offset = 1 ∧ f2.offset = 2 ∧ f3.offset = 3)
    (k : P.cellsOf f0.type = 1 ∧ P.cellsOf f1.type = 1 ∧ P.cellsOf f2.type = 1 ∧ P.cellsOf f3.type = 1) (i : P.underlying f0.type = some (.int .i64) ∧ P.underlying f1.type = some (.int .i64) ∧ P.underlying f2.type = some (.int .i64) ∧ P.underlying f3.type = some (.int .i64))
    (hval : Value.okWide P w .any b0 t v) (hd : DataW.Trod enc P w 0 (fun _ => true) true t v d ps) :
    ∃ a b c d : Int, v = .agg #[.int .i64 a, .int .i64 b, .int .i64 c, .int .i64 d] ∧ Fits a ∧ Fits b ∧ Fits c ∧ Fits d := by
  obtain ⟨cs, rfl, hsz⟩ := okWide_struct he hval
  obtain ⟨fuel, hf⟩ := hd
  obtain ⟨a, b, c, dd, h, r⟩ := row_rect he hC o k i hf
  refine ⟨a, b, c, dd, ?_, r⟩
  simp only [Value.cells] at h
  congr 1
  exact Array.ext' (by simpa using h)
def rectRow (x : Int × Int × Int × Int) : List Value := [.int .i64 x.1, .int .i64 x.2.1, .int .i64 x.2.2.1, .int .i64 x.2.2.2]
theorem in_rects {f0 f1 f2 f3 : Field} (ht : P.underlying t = some (.slice e)) (he : P.underlying e = some (.struct #[f0, f1, f2, f3])) (hC : P.cellsOf e = 4) (o : f0.offset = 0 ∧ f1.offset = 1 ∧ f2.offset = 2 ∧ f3.offset = 3)
    (k : P.cellsOf f0.type = 1 ∧ P.cellsOf f1.type = 1 ∧ P.cellsOf f2.type = 1 ∧ P.cellsOf f3.type = 1) (i : P.underlying f0.type = some (.int .i64) ∧ P.underlying f1.type = some (.int .i64) ∧ P.underlying f2.type = some (.int .i64) ∧ P.underlying f3.type = some (.int .i64)) (hb : 1 ≤ P.bytesOf e)
    (hval : Value.okWide P w .any b0 t v) (hd : DataW.Trod enc P w 0 (fun _ => true) true t v d ps) (hz : ∀ n ∈ DataW.weights P t d, n ≤ reachBytes) :
    ∃ (A : Option Addr) (cap : Nat) (l : List (Int × Int × Int × Int)), v = .slice A l.length cap ∧ l.length ≤ cap ∧ cap ≤ 140737488351232 ∧
      (∀ x ∈ l, Fits x.1 ∧ Fits x.2.1 ∧ Fits x.2.2.1 ∧ Fits x.2.2.2) ∧ ReadsK w w.heap.size A 4 (l.map rectRow) := by
  obtain ⟨A, cap, rows, rfl, hl, hcap, _, hr, hR⟩ := in_rows ht hC (by omega) hb hval hd hz
  obtain ⟨l, rfl, hq⟩ := rows_map (f := rectRow) (Q := fun x => Fits x.1 ∧ Fits x.2.1 ∧ Fits x.2.2.1 ∧ Fits x.2.2.2) (rows := rows) (by
    intro row hrow
    obtain ⟨n, y, hy, _⟩ := hr row hrow
    obtain ⟨a, b, c, dd, rfl, h1, h2, h3, h4⟩ := row_rect he hC o k i hy
    exact ⟨(a, b, c, dd), rfl, h1, h2, h3, h4⟩)
  exact ⟨A, cap, l, by rw [List.length_map], by simpa using hl, hcap, hq, hR⟩
end
end Go.Proofs.Ytljaahemlcaffaa
namespace Go.Proofs.Ytljaahemlcaffaa
open Go.ChangeShapes Go.WideShapes Go.ChangeAt Go.RowKit

section
variable {H : Type} {enc : TypeId × Value → H} {P : Program} {w : World} {t : TypeId} {v : Value} {d : DataW H} {ps : List MemPlace} {b0 : Nat}

theorem in_seven {f0 f1 f2 f3 f4 f5 f6 : Field} (he : P.underlying t = some (.struct #[f0, f1, f2, f3, f4, f5, f6])) (hC : P.cellsOf t = 7) (o : f0.offset = 0 ∧ f1.offset = 1 ∧ f2.offset = 2 ∧ f3.offset = 3 ∧ f4.offset = 4 ∧ f5.offset = 5 ∧ f6.offset = 6)
    (k : P.cellsOf f0.type = 1 ∧ P.cellsOf f1.type = 1 ∧ P.cellsOf f2.type = 1 ∧ P.cellsOf f3.type = 1 ∧ P.cellsOf f4.type = 1 ∧ P.cellsOf f5.type = 1 ∧ P.cellsOf f6.type = 1) (i : P.underlying f0.type = some (.int .i64) ∧ P.underlying f1.type = some (.int .i64) ∧ P.underlying f2.type = some (.int .i64) ∧ P.underlying f3.type = some (.int .i64) ∧ P.underlying f4.type = some (.int .i64) ∧ P.underlying f5.type = some (.int .i64) ∧ P.underlying f6.type = some (.int .i64))
    (hval : Value.okWide P w .any b0 t v) (hd : DataW.Trod enc P w 0 (fun _ => true) true t v d ps) :
    ∃ a0 a1 a2 a3 a4 a5 a6 : Int, v = .agg #[.int .i64 a0, .int .i64 a1, .int .i64 a2, .int .i64 a3, .int .i64 a4, .int .i64 a5, .int .i64 a6] ∧ Fits a0 ∧ Fits a1 ∧ Fits a2 ∧ Fits a3 ∧ Fits a4 ∧ Fits a5 ∧ Fits a6 := by
  obtain ⟨cs, rfl, hsz⟩ := okWide_struct he hval
  obtain ⟨fuel, hf⟩ := hd
  obtain ⟨xs, m, _, hy, hl, hxl, hf⟩ := DataW.trod_struct he hf
  rw [hC] at hl
  generalize hr : (Value.agg cs).cells.toList = row at *
  obtain ⟨c0, c1, c2, c3, c4, c5, c6, rfl⟩ : ∃ c0 c1 c2 c3 c4 c5 c6, row = [c0, c1, c2, c3, c4, c5, c6] := by
    match row, hl with
    | [c0, c1, c2, c3, c4, c5, c6], _ => exact ⟨c0, c1, c2, c3, c4, c5, c6, rfl⟩
  obtain ⟨y0, y1, y2, y3, y4, y5, y6, rfl⟩ : ∃ y0 y1 y2 y3 y4 y5 y6, xs = [y0, y1, y2, y3, y4, y5, y6] := by
    match xs, hxl with
    | [y0, y1, y2, y3, y4, y5, y6], _ => exact ⟨y0, y1, y2, y3, y4, y5, y6, rfl⟩
  have h0 := hf 0 f0 rfl
  rw [o.1, k.1] at h0
  obtain ⟨a0, e0, _, w0⟩ := DataW.trod_int i.1 h0
  have h1 := hf 1 f1 rfl
  rw [o.2.1, k.2.1] at h1
  obtain ⟨a1, e1, _, w1⟩ := DataW.trod_int i.2.1 h1
  have h2 := hf 2 f2 rfl
  rw [o.2.2.1, k.2.2.1] at h2
  obtain ⟨a2, e2, _, w2⟩ := DataW.trod_int i.2.2.1 h2
  have h3 := hf 3 f3 rfl
  rw [o.2.2.2.1, k.2.2.2.1] at h3
  obtain ⟨a3, e3, _, w3⟩ := DataW.trod_int i.2.2.2.1 h3
  have h4 := hf 4 f4 rfl
  rw [o.2.2.2.2.1, k.2.2.2.2.1] at h4
  obtain ⟨a4, e4, _, w4⟩ := DataW.trod_int i.2.2.2.2.1 h4
  have h5 := hf 5 f5 rfl
  rw [o.2.2.2.2.2.1, k.2.2.2.2.2.1] at h5
  obtain ⟨a5, e5, _, w5⟩ := DataW.trod_int i.2.2.2.2.2.1 h5
  have h6 := hf 6 f6 rfl
  rw [o.2.2.2.2.2.2, k.2.2.2.2.2.2] at h6
  obtain ⟨a6, e6, _, w6⟩ := DataW.trod_int i.2.2.2.2.2.2 h6
  simp only [List.drop_zero, List.drop_succ_cons, List.take_succ_cons, List.take_zero, List.cons.injEq, and_true] at e0 e1 e2 e3 e4 e5 e6
  subst e0 e1 e2 e3 e4 e5 e6
  refine ⟨a0, a1, a2, a3, a4, a5, a6, ?_, wf_bd w0, wf_bd w1, wf_bd w2, wf_bd w3, wf_bd w4, wf_bd w5, wf_bd w6⟩
  simp only [Value.cells] at hr
  congr 1
  exact Array.ext' (by simpa using hr)
end
end Go.Proofs.Ytljaahemlcaffaa
