/- How an argument that came in is read: an array of four bytes. -/
import Derived.Test.YtpigepkkiceihaaDoorOpen
namespace Go.Proofs.YtpigepkkiceihaaDoor
open Go.ChangeShapes Go.WideShapes Go.ChangeAt Go.RowKit

section
variable {H : Type} {enc : TypeId × Value → H} {P : Program} {w : World} {t e : TypeId} {v : Value} {d : DataW H} {ps : List MemPlace} {b0 : Nat}
theorem array4 {α : Type} {cs : Array α} (h : cs.size = 4) : ∃ a b c d, cs = #[a, b, c, d] := by
  obtain ⟨l⟩ := cs
  match l, h with
  | [a, b, c, d], _ => exact ⟨a, b, c, d, rfl⟩
theorem byte_of_int {a : Int} (h : (Lit.int .u8 a).wf = true) : ∃ x : UInt8, Value.int .u8 a = .int .u8 (x.toNat : Int) := by
  have hb : 0 ≤ a ∧ a ≤ 255 := by simpa [Lit.wf, IntKind.min, IntKind.max, IntKind.bits, IntKind.signed] using h
  refine ⟨UInt8.ofNat a.toNat, ?_⟩
  have : (UInt8.ofNat a.toNat).toNat = a.toNat := by rw [UInt8.toNat_ofNat']; omega
  rw [this, Int.toNat_of_nonneg hb.1]
theorem in_bytes4 (ht : P.underlying t = some (.array 4 e)) (he : P.underlying e = some (.int .u8)) (hc : P.cellsOf e = 1) (hC : P.cellsOf t = 4) (hval : Value.okWide P w .any b0 t v) (hd : DataW.Trod enc P w 0 (fun _ => true) true t v d ps) :
    ∃ x y z u : UInt8, v = .agg #[.int .u8 (x.toNat : Int), .int .u8 (y.toNat : Int), .int .u8 (z.toNat : Int), .int .u8 (u.toNat : Int)] ∧ True := by
  simp only [Value.okWide, ht] at hval
  obtain ⟨cs, rfl, hsz, _⟩ := hval
  obtain ⟨c0, c1, c2, c3, rfl⟩ := array4 (hsz.trans hC)
  obtain ⟨fuel, hf⟩ := hd
  obtain ⟨xs, m, _, hx, hl, hxn, hel⟩ := DataW.trod_array ht hf
  obtain ⟨y0, y1, y2, y3, rfl⟩ : ∃ y0 y1 y2 y3, xs = [y0, y1, y2, y3] := by
    match xs, hxn with
    | [a, b, c, d], _ => exact ⟨a, b, c, d, rfl⟩
  have h0 := hel 0 (by omega)
  have h1 := hel 1 (by omega)
  have h2 := hel 2 (by omega)
  have h3 := hel 3 (by omega)
  rw [hc] at h0 h1 h2 h3
  obtain ⟨a, e0, _, wa⟩ := DataW.trod_int he (by simpa [Value.cells] using h0)
  obtain ⟨b, e1, _, wb⟩ := DataW.trod_int he (by simpa [Value.cells] using h1)
  obtain ⟨c, e2, _, wc⟩ := DataW.trod_int he (by simpa [Value.cells] using h2)
  obtain ⟨d', e3, _, wd⟩ := DataW.trod_int he (by simpa [Value.cells] using h3)
  simp only [List.cons.injEq, and_true] at e0 e1 e2 e3
  subst e0 e1 e2 e3
  obtain ⟨x, hx⟩ := byte_of_int wa
  obtain ⟨y, hy⟩ := byte_of_int wb
  obtain ⟨z, hz⟩ := byte_of_int wc
  obtain ⟨u, hu⟩ := byte_of_int wd
  exact ⟨x, y, z, u, by rw [hx, hy, hz, hu], trivial⟩
end
end Go.Proofs.YtpigepkkiceihaaDoor
