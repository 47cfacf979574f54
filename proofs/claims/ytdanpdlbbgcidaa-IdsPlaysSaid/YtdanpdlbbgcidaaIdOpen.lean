/- How an argument that came in is read: a name; a deed; a slice of deeds; a bool. -/
import Derived.Test.YtdanpdlbbgcidaaOpenRow
namespace Go.Proofs.Ytdanpdlbbgcidaa
open Go.ChangeShapes Go.WideShapes Go.ChangeAt Go.RowKit
set_option linter.unusedVariables false

def Fits (n : Int) : Prop := -9223372036854775808 ≤ n ∧ n ≤ 9223372036854775807

section
variable {H : Type} {enc : TypeId × Value → H} {P : Program} {w : World} {t e q : TypeId} {v : Value} {d : DataW H} {ps : List MemPlace} {b0 : Nat}
theorem row_id {f0 f1 f2 : Field} {n : Nat} {row : List Value} {y : DataW H × List MemPlace} (he : P.underlying e = some (.struct #[f0, f1, f2])) (hC : P.cellsOf e = 3) (o : f0.offset = 0 ∧ f1.offset = 1 ∧ f2.offset = 2)
    (k : P.cellsOf f0.type = 1 ∧ P.cellsOf f1.type = 1 ∧ P.cellsOf f2.type = 1) (i : P.underlying f0.type = some (.int .i64) ∧ P.underlying f1.type = some (.int .i64) ∧ P.underlying f2.type = some (.int .i64))
    (h : DataW.trod enc P w 0 (fun _ => true) true n e row = some y) :
    ∃ a b c : Int, row = [.int .i64 a, .int .i64 b, .int .i64 c] ∧ Fits a ∧ Fits b ∧ Fits c := by
  obtain ⟨xs, m, _, hy, hl, hxl, hf⟩ := DataW.trod_struct he h
  rw [hC] at hl
  obtain ⟨c0, c1, c2, rfl⟩ : ∃ c0 c1 c2, row = [c0, c1, c2] := by
    match row, hl with
    | [a, b, c], _ => exact ⟨a, b, c, rfl⟩
  obtain ⟨y0, y1, y2, rfl⟩ : ∃ y0 y1 y2, xs = [y0, y1, y2] := by
    match xs, hxl with
    | [a, b, c], _ => exact ⟨a, b, c, rfl⟩
  have h0 := hf 0 f0 rfl
  have h1 := hf 1 f1 rfl
  have h2 := hf 2 f2 rfl
  rw [o.1, k.1] at h0
  rw [o.2.1, k.2.1] at h1
  rw [o.2.2, k.2.2] at h2
  obtain ⟨a, e0, _, wa⟩ := DataW.trod_int i.1 h0
  obtain ⟨b, e1, _, wb⟩ := DataW.trod_int i.2.1 h1
  obtain ⟨c, e2, _, wc⟩ := DataW.trod_int i.2.2 h2
  simp only [List.drop_zero, List.drop_succ_cons, List.take_succ_cons, List.take_zero, List.cons.injEq, and_true] at e0 e1 e2
  subst e0 e1 e2
  exact ⟨a, b, c, rfl, wf_bd wa, wf_bd wb, wf_bd wc⟩
theorem in_id {f0 f1 f2 : Field} (he : P.underlying t = some (.struct #[f0, f1, f2])) (hC : P.cellsOf t = 3) (o : f0.offset = 0 ∧ f1.offset = 1 ∧ f2.offset = 2)
    (k : P.cellsOf f0.type = 1 ∧ P.cellsOf f1.type = 1 ∧ P.cellsOf f2.type = 1) (i : P.underlying f0.type = some (.int .i64) ∧ P.underlying f1.type = some (.int .i64) ∧ P.underlying f2.type = some (.int .i64))
    (hval : Value.okWide P w .any b0 t v) (hd : DataW.Trod enc P w 0 (fun _ => true) true t v d ps) :
    ∃ a b c : Int, v = .agg #[.int .i64 a, .int .i64 b, .int .i64 c] ∧ Fits a ∧ Fits b ∧ Fits c := by
  obtain ⟨cs, rfl, hsz⟩ := okWide_struct he hval
  obtain ⟨fuel, hf⟩ := hd
  obtain ⟨a, b, c, h, r⟩ := row_id he hC o k i hf
  refine ⟨a, b, c, ?_, r⟩
  simp only [Value.cells] at h
  congr 1
  exact Array.ext' (by simpa using h)
/-- a deed, over numbers: its kind, its name -/
def deedRow (x : Int × Int × Int × Int) : List Value := [.int .i64 x.1, .int .i64 x.2.1, .int .i64 x.2.2.1, .int .i64 x.2.2.2]
def DFine (x : Int × Int × Int × Int) : Prop := Fits x.1 ∧ Fits x.2.1 ∧ Fits x.2.2.1 ∧ Fits x.2.2.2
section
variable {g0 g1 f0 f1 f2 : Field} (hq : P.underlying q = some (.struct #[f0, f1, f2])) (hCq : P.cellsOf q = 3) (o : f0.offset = 0 ∧ f1.offset = 1 ∧ f2.offset = 2)
    (k : P.cellsOf f0.type = 1 ∧ P.cellsOf f1.type = 1 ∧ P.cellsOf f2.type = 1) (i : P.underlying f0.type = some (.int .i64) ∧ P.underlying f1.type = some (.int .i64) ∧ P.underlying f2.type = some (.int .i64))
    (he : P.underlying e = some (.struct #[g0, g1])) (hCe : P.cellsOf e = 4) (og : g0.offset = 0 ∧ g1.offset = 1) (kg : P.cellsOf g0.type = 1) (ig : P.underlying g0.type = some (.int .i64)) (tg : g1.type = q)
include hq hCq o k i he hCe og kg ig tg
theorem row_deed {n : Nat} {row : List Value} {y : DataW H × List MemPlace} (h : DataW.trod enc P w 0 (fun _ => true) true n e row = some y) : ∃ x, row = deedRow x ∧ DFine x := by
  obtain ⟨xs, m, _, hy, hl, hxl, hf⟩ := DataW.trod_struct he h
  rw [hCe] at hl
  obtain ⟨c0, c1, c2, c3, rfl⟩ : ∃ c0 c1 c2 c3, row = [c0, c1, c2, c3] := by
    match row, hl with
    | [a, b, c, d], _ => exact ⟨a, b, c, d, rfl⟩
  obtain ⟨y0, y1, rfl⟩ : ∃ y0 y1, xs = [y0, y1] := by
    match xs, hxl with
    | [a, b], _ => exact ⟨a, b, rfl⟩
  have h0 := hf 0 g0 rfl
  have h1 := hf 1 g1 rfl
  rw [og.1, kg] at h0
  rw [og.2, tg, hCq] at h1
  obtain ⟨a, e0, _, wa⟩ := DataW.trod_int ig h0
  obtain ⟨b, c, dd, e1, f1, f2, f3⟩ := row_id hq hCq o k i h1
  simp only [List.drop_zero, List.drop_succ_cons, List.take_succ_cons, List.take_zero, List.cons.injEq, and_true] at e0 e1
  obtain ⟨e1, e2, e3⟩ := e1
  subst e0 e1 e2 e3
  exact ⟨(a, b, c, dd), rfl, wf_bd wa, f1, f2, f3⟩
theorem in_deeds (ht : P.underlying t = some (.slice e)) (hb : 1 ≤ P.bytesOf e)
    (hval : Value.okWide P w .any b0 t v) (hd : DataW.Trod enc P w 0 (fun _ => true) true t v d ps) (hz : ∀ n ∈ DataW.weights P t d, n ≤ reachBytes) :
    ∃ (A : Option Addr) (cap : Nat) (l : List (Int × Int × Int × Int)), v = .slice A l.length cap ∧ l.length ≤ cap ∧ cap ≤ 140737488351232 ∧ (∀ x ∈ l, DFine x) ∧ ReadsK w w.heap.size A 4 (l.map deedRow) := by
  obtain ⟨A, cap, rows, rfl, hl, hcap, _, hr, hR⟩ := in_rows ht hCe (by omega) hb hval hd hz
  obtain ⟨l, rfl, hq⟩ := rows_map (f := deedRow) (Q := DFine) (rows := rows) (by
    intro row hrow
    obtain ⟨n, y, hy, _⟩ := hr row hrow
    exact row_deed hq hCq o k i he hCe og kg ig tg hy)
  exact ⟨A, cap, l, by rw [List.length_map], by simpa using hl, hcap, hq, hR⟩
end
theorem in_bool (ht : P.underlying t = some .bool) (hval : Value.okWide P w .any b0 t v) (hd : DataW.Trod enc P w 0 (fun _ => true) true t v d ps) : ∃ b : Bool, v = .bool b := by
  obtain ⟨b, h, _⟩ := open_bool ht hval hd
  exact ⟨b, h⟩
end
end Go.Proofs.Ytdanpdlbbgcidaa
