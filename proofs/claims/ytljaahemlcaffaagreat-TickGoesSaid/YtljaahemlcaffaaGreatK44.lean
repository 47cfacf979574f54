/- How an argument that came in is read: a struct of four ints; a slice of such. How an argument that came in is read: a struct of seven ints. Whose a command is; a row of commands: a copy, and one stored over; a place among them. -/
import Derived.Test.YtljaahemlcaffaaGreatK04
import Derived.Test.YtljaahemlcaffaaGreatK37
import Derived.Test.YtljaahemlcaffaaGreatK32
namespace Go.Proofs.YtljaahemlcaffaaGreat
open Go.ChangeShapes Go.WideShapes Go.ChangeAt Go.RowKit
set_option linter.unusedVariables false

def Fits (n : Int) : Prop := -9223372036854775808 ≤ n ∧ n ≤ 9223372036854775807

section
variable {H : Type} {enc : TypeId × Value → H} {P : Program} {w : World} {t e : TypeId} {v : Value} {d : DataW H} {ps : List MemPlace} {b0 : Nat}

theorem row_rect {f0 f1 f2 f3 : Field} {n : Nat} {row : List Value} {y : DataW H × List MemPlace} (he : P.underlying e = some (.struct #[f0, f1, f2, f3])) (hC : P.cellsOf e = 4) (o : f0.offset = 0 ∧ f1.offset = 1 ∧ f2.offset = 2 ∧ f3.offset = 3)
    (k : P.cellsOf f0.type = 1 ∧ P.cellsOf f1.type = 1 ∧ P.cellsOf f2.type = 1 ∧ P.cellsOf f3.type = 1) (i : P.underlying f0.type = some (.int .i64) ∧ P.underlying f1.type = some (.int .i64) ∧ P.underlying f2.type = some (.int .i64) ∧ P.underlying f3.type = some (.int .i64))
    (h : DataW.trod enc P w 0 (fun _ => true) true n e row = some y) :
    ∃ a b c d : Int, row = [.int .i64 a, .int .i64 b, .int .i64 c, .int .i64 d] ∧ Fits a ∧ Fits b ∧ Fits c ∧ Fits d := by
  obtain ⟨xs, m, _, hy, hl, hxl, hf⟩ := DataW.trod_struct he h
  rw [hC] at hl
  obtain ⟨c0, c1, c2, c3, rfl⟩ : ∃ c0 c1 c2 c3, row = [c0, c1, c2, c3] := by
    match row, hl with
    | [a, b, c, d], _ => exact ⟨a, b, c, d, rfl⟩
  obtain ⟨y0, y1, y2, y3, rfl⟩ : ∃ y0 y1 y2 y3, xs = [y0, y1, y2, y3] := by
    match xs, hxl with
    | [a, b, c, d], _ => exact ⟨a, b, c, d, rfl⟩
  have h0 := hf 0 f0 rfl
  have h1 := hf 1 f1 rfl
  have h2 := hf 2 f2 rfl
  have h3 := hf 3 f3 rfl
  rw [o.1, k.1] at h0
  rw [o.2.1, k.2.1] at h1
  rw [o.2.2.1, k.2.2.1] at h2
  rw [o.2.2.2, k.2.2.2] at h3
  obtain ⟨a, e0, _, wa⟩ := DataW.trod_int i.1 h0
  obtain ⟨b, e1, _, wb⟩ := DataW.trod_int i.2.1 h1
  obtain ⟨c, e2, _, wc⟩ := DataW.trod_int i.2.2.1 h2
  obtain ⟨dd, e3, _, wd⟩ := DataW.trod_int i.2.2.2 h3
  simp only [List.drop_zero, List.drop_succ_cons, List.take_succ_cons, List.take_zero, List.cons.injEq, and_true] at e0 e1 e2 e3
  subst e0 e1 e2 e3
  exact ⟨a, b, c, dd, rfl, wf_bd wa, wf_bd wb, wf_bd wc, wf_bd wd⟩
theorem in_rect {f0 f1 f2 f3 : Field} (he : P.underlying t = some (.struct #[f0, f1, f2, f3])) (hC : P.cellsOf t = 4) (o : f0.offset = 0 ∧ f1.offset = 1 ∧ f2.offset = 2 ∧ f3.offset = 3)
    (k : P.cellsOf f0.type = 1 ∧ P.cellsOf f1.type = 1 ∧ P.cellsOf f2.type = 1 ∧ P.cellsOf f3.type = 1) (i : P.underlying f0.type = some (.int .i64) ∧ P.underlying f1.type = some (.int .i64) ∧ P.underlying f2.type = some (.int .i64) ∧ P.underlying f3.type = some (.int .i64))
    (hval : Value.okWide P w .any b0 t v) (hd : DataW.Trod enc P w 0 (fun _ => true) true t v d ps) :
    ∃ a b c d : Int, v = .agg #[.int .i64 a, .int .i64 b, .int .i64 c, .int .i64 d] ∧ Fits a ∧ Fits b ∧ Fits c ∧ Fits d := by
  obtain ⟨cs, rfl, hsz⟩ := okWide_struct he hval
  obtain ⟨fuel, hf⟩ := hd
  obtain ⟨a, b, c, dd, h, r⟩ := row_rect he hC o k i hf
  refine ⟨a, b, c, dd, ?_, r⟩
  simp only [Value.cells] at h
  congr 1
  exact Array.ext' (by simpa using h)
def rectRow (x : Int × Int × Int × Int) : List Value := [.int .i64 x.1, .int .i64 x.2.1, .int .i64 x.2.2.1, .int .i64 x.2.2.2]
theorem in_rects {f0 f1 f2 f3 : Field} (ht : P.underlying t = some (.slice e)) (he : P.underlying e = some (.struct #[f0, f1, f2, f3])) (hC : P.cellsOf e = 4) (o : f0.offset = 0 ∧ f1.offset = 1 ∧ f2.offset = 2 ∧ f3.offset = 3)
    (k : P.cellsOf f0.type = 1 ∧ P.cellsOf f1.type = 1 ∧ P.cellsOf f2.type = 1 ∧ P.cellsOf f3.type = 1) (i : P.underlying f0.type = some (.int .i64) ∧ P.underlying f1.type = some (.int .i64) ∧ P.underlying f2.type = some (.int .i64) ∧ P.underlying f3.type = some (.int .i64)) (hb : 1 ≤ P.bytesOf e)
    (hval : Value.okWide P w .any b0 t v) (hd : DataW.Trod enc P w 0 (fun _ => true) true t v d ps) (hz : ∀ n ∈ DataW.weights P t d, n ≤ reachBytes) :
    ∃ (A : Option Addr) (cap : Nat) (l : List (Int × Int × Int × Int)), v = .slice A l.length cap ∧ l.length ≤ cap ∧ cap ≤ 140737488351232 ∧
      (∀ x ∈ l, Fits x.1 ∧ Fits x.2.1 ∧ Fits x.2.2.1 ∧ Fits x.2.2.2) ∧ ReadsK w w.heap.size A 4 (l.map rectRow) := by
  obtain ⟨A, cap, rows, rfl, hl, hcap, _, hr, hR⟩ := in_rows ht hC (by omega) hb hval hd hz
  obtain ⟨l, rfl, hq⟩ := rows_map (f := rectRow) (Q := fun x => Fits x.1 ∧ Fits x.2.1 ∧ Fits x.2.2.1 ∧ Fits x.2.2.2) (rows := rows) (by
    intro row hrow
    obtain ⟨n, y, hy, _⟩ := hr row hrow
    obtain ⟨a, b, c, dd, rfl, h1, h2, h3, h4⟩ := row_rect he hC o k i hy
    exact ⟨(a, b, c, dd), rfl, h1, h2, h3, h4⟩)
  exact ⟨A, cap, l, by rw [List.length_map], by simpa using hl, hcap, hq, hR⟩
end
end Go.Proofs.YtljaahemlcaffaaGreat
namespace Go.Proofs.YtljaahemlcaffaaGreat
open Go.ChangeShapes Go.WideShapes Go.ChangeAt Go.RowKit

section
variable {H : Type} {enc : TypeId × Value → H} {P : Program} {w : World} {t : TypeId} {v : Value} {d : DataW H} {ps : List MemPlace} {b0 : Nat}

theorem in_seven {f0 f1 f2 f3 f4 f5 f6 : Field} (he : P.underlying t = some (.struct #[f0, f1, f2, f3, f4, f5, f6])) (hC : P.cellsOf t = 7) (o : f0.offset = 0 ∧ f1.offset = 1 ∧ f2.offset = 2 ∧ f3.offset = 3 ∧ f4.offset = 4 ∧ f5.offset = 5 ∧ f6.offset = 6)
    (k : P.cellsOf f0.type = 1 ∧ P.cellsOf f1.type = 1 ∧ P.cellsOf f2.type = 1 ∧ P.cellsOf f3.type = 1 ∧ P.cellsOf f4.type = 1 ∧ P.cellsOf f5.type = 1 ∧ P.cellsOf f6.type = 1) (i : P.underlying f0.type = some (.int .i64) ∧ P.underlying f1.type = some (.int .i64) ∧ P.underlying f2.type = some (.int .i64) ∧ P.underlying f3.type = some (.int .i64) ∧ P.underlying f4.type = some (.int .i64) ∧ P.underlying f5.type = some (.int .i64) ∧ P.underlying f6.type = some (.int .i64))
    (hval : Value.okWide P w .any b0 t v) (hd : DataW.Trod enc P w 0 (fun _ => true) true t v d ps) :
    ∃ a0 a1 a2 a3 a4 a5 a6 : Int, v = .agg #[.int .i64 a0, .int .i64 a1, .int .i64 a2, .int .i64 a3, .int .i64 a4, .int .i64 a5, .int .i64 a6] ∧ Fits a0 ∧ Fits a1 ∧ Fits a2 ∧ Fits a3 ∧ Fits a4 ∧ Fits a5 ∧ Fits a6 := by
  obtain ⟨cs, rfl, hsz⟩ := okWide_struct he hval
  obtain ⟨fuel, hf⟩ := hd
  obtain ⟨xs, m, _, hy, hl, hxl, hf⟩ := DataW.trod_struct he hf
  rw [hC] at hl
  generalize hr : (Value.agg cs).cells.toList = row at *
  obtain ⟨c0, c1, c2, c3, c4, c5, c6, rfl⟩ : ∃ c0 c1 c2 c3 c4 c5 c6, row = [c0, c1, c2, c3, c4, c5, c6] := by
    match row, hl with
    | [c0, c1, c2, c3, c4, c5, c6], _ => exact ⟨c0, c1, c2, c3, c4, c5, c6, rfl⟩
  obtain ⟨y0, y1, y2, y3, y4, y5, y6, rfl⟩ : ∃ y0 y1 y2 y3 y4 y5 y6, xs = [y0, y1, y2, y3, y4, y5, y6] := by
    match xs, hxl with
    | [y0, y1, y2, y3, y4, y5, y6], _ => exact ⟨y0, y1, y2, y3, y4, y5, y6, rfl⟩
  have h0 := hf 0 f0 rfl
  rw [o.1, k.1] at h0
  obtain ⟨a0, e0, _, w0⟩ := DataW.trod_int i.1 h0
  have h1 := hf 1 f1 rfl
  rw [o.2.1, k.2.1] at h1
  obtain ⟨a1, e1, _, w1⟩ := DataW.trod_int i.2.1 h1
  have h2 := hf 2 f2 rfl
  rw [o.2.2.1, k.2.2.1] at h2
  obtain ⟨a2, e2, _, w2⟩ := DataW.trod_int i.2.2.1 h2
  have h3 := hf 3 f3 rfl
  rw [o.2.2.2.1, k.2.2.2.1] at h3
  obtain ⟨a3, e3, _, w3⟩ := DataW.trod_int i.2.2.2.1 h3
  have h4 := hf 4 f4 rfl
  rw [o.2.2.2.2.1, k.2.2.2.2.1] at h4
  obtain ⟨a4, e4, _, w4⟩ := DataW.trod_int i.2.2.2.2.1 h4
  have h5 := hf 5 f5 rfl
  rw [o.2.2.2.2.2.1, k.2.2.2.2.2.1] at h5
  obtain ⟨a5, e5, _, w5⟩ := DataW.trod_int i.2.2.2.2.2.1 h5
  have h6 := hf 6 f6 rfl
  rw [o.2.2.2.2.2.2, k.2.2.2.2.2.2] at h6
  obtain ⟨a6, e6, _, w6⟩ := DataW.trod_int i.2.2.2.2.2.2 h6
  simp only [List.drop_zero, List.drop_succ_cons, List.take_succ_cons, List.take_zero, List.cons.injEq, and_true] at e0 e1 e2 e3 e4 e5 e6
  subst e0 e1 e2 e3 e4 e5 e6
  refine ⟨a0, a1, a2, a3, a4, a5, a6, ?_, wf_bd w0, wf_bd w1, wf_bd w2, wf_bd w3, wf_bd w4, wf_bd w5, wf_bd w6⟩
  simp only [Value.cells] at hr
  congr 1
  exact Array.ext' (by simpa using hr)
end
end Go.Proofs.YtljaahemlcaffaaGreat
namespace Go.Proofs.YtljaahemlcaffaaGreat
open Go.RowKit Pz Sp
set_option linter.unusedVariables false
set_option linter.unusedSimpArgs false

/-- an append of commands to a row of none -/
theorem app_cn (W : World) {l : List Cn} {A : Option Addr} {cap : Nat} (R : RdC W W.heap.size A l) (hl : l.length ≤ 1000000) (ty : TypeId) :
    ∃ A' c' w', (Builtin.append_ #[25, 25] ty #[.slice (some ⟨W.heap.size, 0, none⟩) 0 0, .slice A l.length cap]).run Tryz.prog (W.alloc (.cells #[] 55)) = .ok (.slice A' l.length c') w' ∧
      OwnC w' W.heap.size (.slice A' l.length c') l ∧ Below W.heap.size W w' := by
  have h0 : OwnC (W.alloc (.cells #[] 55)) W.heap.size (.slice (some ⟨W.heap.size, 0, none⟩) 0 0) [] :=
    .inr ⟨W.heap.size, 0, 0, #[], rfl, Nat.le_refl _, at1 W _, Nat.le_refl _, by decide, by simp, fun j x hj => by simp at hj⟩
  cases hll : l with
  | nil =>
    subst hll
    refine ⟨some ⟨W.heap.size, 0, none⟩, 0, W.alloc (.cells #[] 55), ?_, h0, bel1 W _⟩
    obtain ⟨i, hi, hz, h2, h3⟩ := info_parts cmd_info
    cases A <;> simp [Builtin.append_, run_underlying Tryz.underlying25, sizeOf, typeInfo, hi, Builtin.lenOf, Builtin.firstCells, storeCells, loadCells, loadCellsFrom]
  | cons x0 r0 =>
    rw [← hll]
    obtain ⟨g, o, rfl, _⟩ := R 0 x0 (by rw [hll]; rfl)
    have hpos : 0 < l.length := by rw [hll]; simp
    obtain ⟨v', w', hr, ho, hg, hb⟩ := h0.app (P := Tryz.prog) (t := 25) (ty := ty) Tryz.underlying25 cmd_info rfl (by decide) cnE_len cnE_one (by rw [size1]; omega) l ⟨g, o, none⟩ cap (fun j x hj => by
      obtain ⟨g', o', e, hg, KS⟩ := (R.below (bel1 W (.cells #[] 55))) j x hj
      cases e
      intro c u hu
      have hc : c < 16 := (List.getElem?_eq_some_iff.1 hu).1
      rw [Addr.add_mid, ← Nat.add_assoc]
      have : c = 0 ∨ c = 1 ∨ c = 2 ∨ c = 3 ∨ c = 4 ∨ c = 5 ∨ c = 6 ∨ c = 7 ∨ c = 8 ∨ c = 9 ∨ c = 10 ∨ c = 11 ∨ c = 12 ∨ c = 13 ∨ c = 14 ∨ c = 15 := by omega
      rcases this with rfl | rfl | rfl | rfl | rfl | rfl | rfl | rfl | rfl | rfl | rfl | rfl | rfl | rfl | rfl | rfl
      · have e1 : u = .int .i64 x.k := by simpa [cnE] using hu.symm
        rw [e1]
        exact KS.1
      · have e1 : u = .int .i64 x.s := by simpa [cnE] using hu.symm
        rw [e1]
        exact KS.2.1
      · have e1 : u = .int .i64 x.i := by simpa [cnE] using hu.symm
        rw [e1]
        exact KS.2.2.1
      · have e1 : u = .int .i64 x.g := by simpa [cnE] using hu.symm
        rw [e1]
        exact KS.2.2.2.1
      · have e1 : u = .int .i64 x.b.s := by simpa [cnE] using hu.symm
        rw [e1]
        exact KS.2.2.2.2.1
      · have e1 : u = .int .i64 x.b.i := by simpa [cnE] using hu.symm
        rw [e1]
        exact KS.2.2.2.2.2.1
      · have e1 : u = .int .i64 x.b.g := by simpa [cnE] using hu.symm
        rw [e1]
        exact KS.2.2.2.2.2.2.1
      · have e1 : u = .int .i64 x.b.m := by simpa [cnE] using hu.symm
        rw [e1]
        exact KS.2.2.2.2.2.2.2.1
      · have e1 : u = .int .i64 x.b.x := by simpa [cnE] using hu.symm
        rw [e1]
        exact KS.2.2.2.2.2.2.2.2.1
      · have e1 : u = .int .i64 x.b.y := by simpa [cnE] using hu.symm
        rw [e1]
        exact KS.2.2.2.2.2.2.2.2.2.1
      · have e1 : u = .int .i64 x.b.vx := by simpa [cnE] using hu.symm
        rw [e1]
        exact KS.2.2.2.2.2.2.2.2.2.2.1
      · have e1 : u = .int .i64 x.b.vy := by simpa [cnE] using hu.symm
        rw [e1]
        exact KS.2.2.2.2.2.2.2.2.2.2.2.1
      · have e1 : u = .int .i64 x.b.h := by simpa [cnE] using hu.symm
        rw [e1]
        exact KS.2.2.2.2.2.2.2.2.2.2.2.2.1
      · have e1 : u = .int .i64 x.b.p := by simpa [cnE] using hu.symm
        rw [e1]
        exact KS.2.2.2.2.2.2.2.2.2.2.2.2.2.1
      · have e1 : u = .int .i64 x.b.l := by simpa [cnE] using hu.symm
        rw [e1]
        exact KS.2.2.2.2.2.2.2.2.2.2.2.2.2.2.1
      · have e1 : u = .int .i64 x.m := by simpa [cnE] using hu.symm
        rw [e1]
        exact KS.2.2.2.2.2.2.2.2.2.2.2.2.2.2.2
      ) (by simpa using hl) (by decide) (.inl hpos)
    obtain ⟨A', c', hv⟩ := ho.form
    rw [List.nil_append] at ho hv
    subst hv
    exact ⟨A', c', w', hr, ho, ((Below.refl W.heap.size W).alloc (Nat.le_refl _) _).grown hg (by rw [size1]; omega) (fun k hk => (h0.blk hk).1)⟩
set_option maxHeartbeats 8000000 in
set_option maxRecDepth 100000 in
theorem owner_any (c : Cn) (w : World) : Calls Tryz.prog 20 #[c.val] w fun e w' => e = .returned (.agg #[.int .i64 (Tk.owner c).1, .int .i64 (Tk.owner c).2.1, .int .i64 (Tk.owner c).2.2]) ∧ Below w.heap.size w w' := by
  obtain ⟨ck, cs_, ci_, cg_, ⟨cs, ci, cg, cm, cx, cy, cvx, cvy, ch, cp, cl⟩, cm_⟩ := c
  simp only [Cn.val, Tk.owner, Bn.id] at *
  have H0 : Hid (Sep w [box (w.heap.size + 1) (.cells #[.int .i64 0, .int .i64 0, .int .i64 0] 40), box w.heap.size (.cells #[.int .i64 ck, .int .i64 cs_, .int .i64 ci_, .int .i64 cg_, .int .i64 cs, .int .i64 ci, .int .i64 cg, .int .i64 cm, .int .i64 cx, .int .i64 cy, .int .i64 cvx, .int .i64 cvy, .int .i64 ch, .int .i64 cp, .int .i64 cl, .int .i64 cm_] 55)] ((w.alloc (.cells #[.int .i64 ck, .int .i64 cs_, .int .i64 ci_, .int .i64 cg_, .int .i64 cs, .int .i64 ci, .int .i64 cg, .int .i64 cm, .int .i64 cx, .int .i64 cy, .int .i64 cvx, .int .i64 cvy, .int .i64 ch, .int .i64 cp, .int .i64 cl, .int .i64 cm_] 55)).alloc (.cells #[.int .i64 0, .int .i64 0, .int .i64 0] 40))) := Lib.hid (by
    have := sep_box (sep_box (sep_new w) (.cells #[.int .i64 ck, .int .i64 cs_, .int .i64 ci_, .int .i64 cg_, .int .i64 cs, .int .i64 ci, .int .i64 cg, .int .i64 cm, .int .i64 cx, .int .i64 cy, .int .i64 cvx, .int .i64 cvy, .int .i64 ch, .int .i64 cp, .int .i64 cl, .int .i64 cm_] 55)) (.cells #[.int .i64 0, .int .i64 0, .int .i64 0] 40)
    rw [size1] at this
    exact this)
  by_cases hk : ck = 1
  · subst hk
    simp only [if_true]
    have HX := Lib.hid (H0.out.set3 (.int .i64 cs) (.int .i64 ci) (.int .i64 cg))
    go_enter Tryz.func20, Tryz.ntmps20
    go_upto_region 1 with fail
    generalize (w.alloc (.cells #[.int .i64 1, .int .i64 cs_, .int .i64 ci_, .int .i64 cg_, .int .i64 cs, .int .i64 ci, .int .i64 cg, .int .i64 cm, .int .i64 cx, .int .i64 cy, .int .i64 cvx, .int .i64 cvy, .int .i64 ch, .int .i64 cp, .int .i64 cl, .int .i64 cm_] 55)).alloc (.cells #[.int .i64 0, .int .i64 0, .int .i64 0] 40) = w0 at *
    obtain ⟨⟨k0, k1, k2, k3, k4, k5, k6, k7, k8, k9, k10, k11, k12, k13, k14, k15⟩, _⟩ := Bx.b16 (H0.out.held 1 rfl)
    obtain ⟨⟨_, _, _⟩, f0, f1, f2⟩ := Bx.b3 (H0.out.held 0 rfl)
    go_wp2
    obtain ⟨r0, r1, r2⟩ := (Bx.b3 (HX.out.held 0 rfl)).1
    exact bodyPost_ret (v := .agg #[.int .i64 cs, .int .i64 ci, .int .i64 cg]) (by simp [results, Tryz.results20, go_sem, r0, r1, r2]) rfl ⟨rfl, HX.out.bel⟩
  · simp only [if_neg hk]
    have HX := Lib.hid (H0.out.set3 (.int .i64 cs_) (.int .i64 ci_) (.int .i64 cg_))
    go_enter Tryz.func20, Tryz.ntmps20
    go_upto_region 1 with fail
    generalize (w.alloc (.cells #[.int .i64 ck, .int .i64 cs_, .int .i64 ci_, .int .i64 cg_, .int .i64 cs, .int .i64 ci, .int .i64 cg, .int .i64 cm, .int .i64 cx, .int .i64 cy, .int .i64 cvx, .int .i64 cvy, .int .i64 ch, .int .i64 cp, .int .i64 cl, .int .i64 cm_] 55)).alloc (.cells #[.int .i64 0, .int .i64 0, .int .i64 0] 40) = w0 at *
    obtain ⟨⟨k0, k1, k2, k3, k4, k5, k6, k7, k8, k9, k10, k11, k12, k13, k14, k15⟩, _⟩ := Bx.b16 (H0.out.held 1 rfl)
    obtain ⟨⟨_, _, _⟩, f0, f1, f2⟩ := Bx.b3 (H0.out.held 0 rfl)
    go_wp2
    obtain ⟨r0, r1, r2⟩ := (Bx.b3 (HX.out.held 0 rfl)).1
    exact bodyPost_ret (v := .agg #[.int .i64 cs_, .int .i64 ci_, .int .i64 cg_]) (by simp [results, Tryz.results20, go_sem, r0, r1, r2]) rfl ⟨rfl, HX.out.bel⟩
/-- a command stored over one of a row -/
theorem cn_set {w W : World} {L : List Piece} {g o n c k : Nat} {R : List Cn} (H : Sep w (row cnE 55 16 (.slice (some ⟨g, o, none⟩) n c) R :: L) W) (hn : R.length = n) (hk : k < n) (x : Cn) : Sep w (row cnE 55 16 (.slice (some ⟨g, o, none⟩) n c) (R.set k x) :: L) ((((((((((((((((W.setCell ⟨g, o + k * 16, none⟩ (.int .i64 x.k)).setCell ⟨g, o + k * 16 + 1, none⟩ (.int .i64 x.s)).setCell ⟨g, o + k * 16 + 2, none⟩ (.int .i64 x.i)).setCell ⟨g, o + k * 16 + 3, none⟩ (.int .i64 x.g)).setCell ⟨g, o + k * 16 + 4, none⟩ (.int .i64 x.b.s)).setCell ⟨g, o + k * 16 + 5, none⟩ (.int .i64 x.b.i)).setCell ⟨g, o + k * 16 + 6, none⟩ (.int .i64 x.b.g)).setCell ⟨g, o + k * 16 + 7, none⟩ (.int .i64 x.b.m)).setCell ⟨g, o + k * 16 + 8, none⟩ (.int .i64 x.b.x)).setCell ⟨g, o + k * 16 + 9, none⟩ (.int .i64 x.b.y)).setCell ⟨g, o + k * 16 + 10, none⟩ (.int .i64 x.b.vx)).setCell ⟨g, o + k * 16 + 11, none⟩ (.int .i64 x.b.vy)).setCell ⟨g, o + k * 16 + 12, none⟩ (.int .i64 x.b.h)).setCell ⟨g, o + k * 16 + 13, none⟩ (.int .i64 x.b.p)).setCell ⟨g, o + k * 16 + 14, none⟩ (.int .i64 x.b.l)).setCell ⟨g, o + k * 16 + 15, none⟩ (.int .i64 x.m)) := by
  subst hn
  obtain ⟨G, ⟨h1, h2⟩, h3, next⟩ := H.one
  rcases h1 with ⟨e, _⟩ | ⟨g', o', cap, cur, e, q1, q2, q3, q4, q5, q6⟩
  · cases e
  · cases e
    obtain ⟨cur', a1, a2, a3, a4, a5⟩ := set_cells q2 (cnE x) (o + k * 16) (by rw [cnE_len]; omega)
    have hx := rw_of_cells (enc := cnE) (T := 55) (s := 16) (B := 0) (l := R.set k x) (Nat.zero_le g) a1 (by rw [List.length_set]; exact q3) q4 (by rw [a2]; exact q5) fun j y hj e u hu => by
      have he : e < 16 := (List.getElem?_eq_some_iff.1 hu).1
      by_cases hjk : j = k
      · subst hjk
        rw [List.getElem?_set_self hk] at hj
        have := Option.some.inj hj
        subst this
        rw [← Nat.add_assoc]
        exact a3 e u hu
      · rw [List.getElem?_set_ne (fun e => hjk e.symm)] at hj
        rw [a4 _ (by rw [cnE_len]; omega)]
        exact (Bx.cell q2 (q6 j y hj e u hu)).1
    rw [List.length_set] at hx
    exact next _ (row cnE 55 16 _ (R.set k x)) G ⟨a5.os, a5.tape, a5.output, a5.size, fun k hk hne => a5.block k hk fun e => hne ((h2 k).2 (by rw [e]; rfl))⟩ ⟨hx, h2⟩ fun k hk => .inl hk
/-- a place among n things that is not the last one -/
theorem place_is (at_ : Int) {n : Nat} (h2 : 2 ≤ n) (hn : n ≤ 1000) : ∃ k : Nat, k + 1 < n ∧ IntKind.i64.wrap ((n : Int) - 1) = (n : Int) - 1 ∧ IntKind.i64.wrap (at_.tmod ((n : Int) - 1) + (n : Int)) = at_.tmod ((n : Int) - 1) + (n : Int) ∧ IntKind.i64.wrap (at_.tmod ((n : Int) - 1) + (n : Int) - 1) = at_.tmod ((n : Int) - 1) + (n : Int) - 1 ∧ (at_.tmod ((n : Int) - 1) + (n : Int) - 1).tmod ((n : Int) - 1) = (k : Int) := by
  have hm := mod_lo at_ (show (0 : Int) < (n : Int) - 1 by omega)
  have e1 := mod_is at_ (show (0 : Int) < (n : Int) - 1 by omega)
  have h3 := Int.emod_nonneg at_ (show (n : Int) - 1 ≠ 0 by omega)
  have h4 := Int.emod_lt_of_pos at_ (show (0 : Int) < (n : Int) - 1 by omega)
  refine ⟨(at_ % ((n : Int) - 1)).toNat, by omega, IntWalk.i64_in _ ⟨by omega, by omega⟩, IntWalk.i64_in _ ⟨by omega, by omega⟩, IntWalk.i64_in _ ⟨by omega, by omega⟩, ?_⟩
  rw [show at_.tmod ((n : Int) - 1) + (n : Int) - 1 = at_.tmod ((n : Int) - 1) + ((n : Int) - 1) by omega, e1]
  omega
end Go.Proofs.YtljaahemlcaffaaGreat
