/- PcOpen, BuRow, in one text. -/
import Derived.Test.YteollbioeamciaaKBase
import Derived.Test.YteollbioeamciaaKPz
import Derived.Test.YteollbioeamciaaKBuA
import Derived.Test.YteollbioeamciaaKTab
namespace Go.Proofs.Yteollbioeamciaa
open Go.ChangeShapes Go.WideShapes Go.ChangeAt Go.RowKit Pz
set_option linter.unusedVariables false
set_option maxRecDepth 100000

theorem list_succ {α : Type} {l : List α} {n : Nat} (h : l.length = n + 1) : ∃ x r, l = x :: r ∧ r.length = n := by
  cases l with
  | nil => cases h
  | cons x r => exact ⟨x, r, rfl, by simpa using h⟩
theorem bn_of {l : List Int} (hl : l.length = 11) (hf : I64 l) : ∃ b : Bn, l.map (Value.int .i64) = b.row ∧ b.Fits := by
  obtain ⟨xs, l0, rfl, h0⟩ := list_succ hl
  obtain ⟨xi, l1, rfl, h1⟩ := list_succ h0
  obtain ⟨xg, l2, rfl, h2⟩ := list_succ h1
  obtain ⟨xm, l3, rfl, h3⟩ := list_succ h2
  obtain ⟨xx, l4, rfl, h4⟩ := list_succ h3
  obtain ⟨xy, l5, rfl, h5⟩ := list_succ h4
  obtain ⟨xvx, l6, rfl, h6⟩ := list_succ h5
  obtain ⟨xvy, l7, rfl, h7⟩ := list_succ h6
  obtain ⟨xh, l8, rfl, h8⟩ := list_succ h7
  obtain ⟨xp, l9, rfl, h9⟩ := list_succ h8
  obtain ⟨xl, l10, rfl, h10⟩ := list_succ h9
  obtain rfl := List.length_eq_zero_iff.1 h10
  refine ⟨⟨xs, xi, xg, xm, xx, xy, xvx, xvy, xh, xp, xl⟩, rfl, ?_⟩
  constructor <;> exact hf _ (by simp)
theorem cn_of {l : List Int} (hl : l.length = 16) (hf : I64 l) : ∃ c : Cn, (Value.agg (l.map (Value.int .i64)).toArray) = c.val ∧ Fit c.b.m := by
  obtain ⟨yk0, l0, rfl, h0⟩ := list_succ hl
  obtain ⟨ys1, l1, rfl, h1⟩ := list_succ h0
  obtain ⟨yi2, l2, rfl, h2⟩ := list_succ h1
  obtain ⟨yg3, l3, rfl, h3⟩ := list_succ h2
  obtain ⟨ybs4, l4, rfl, h4⟩ := list_succ h3
  obtain ⟨ybi5, l5, rfl, h5⟩ := list_succ h4
  obtain ⟨ybg6, l6, rfl, h6⟩ := list_succ h5
  obtain ⟨ybm7, l7, rfl, h7⟩ := list_succ h6
  obtain ⟨yx8, l8, rfl, h8⟩ := list_succ h7
  obtain ⟨yy9, l9, rfl, h9⟩ := list_succ h8
  obtain ⟨yvx10, l10, rfl, h10⟩ := list_succ h9
  obtain ⟨yvy11, l11, rfl, h11⟩ := list_succ h10
  obtain ⟨yh12, l12, rfl, h12⟩ := list_succ h11
  obtain ⟨yp13, l13, rfl, h13⟩ := list_succ h12
  obtain ⟨yl14, l14, rfl, h14⟩ := list_succ h13
  obtain ⟨ym15, l15, rfl, h15⟩ := list_succ h14
  obtain rfl := List.length_eq_zero_iff.1 h15
  exact ⟨⟨yk0, ys1, yi2, yg3, ⟨ybs4, ybi5, ybg6, ybm7, yx8, yy9, yvx10, yvy11, yh12, yp13, yl14⟩, ym15⟩, rfl, hf _ (by simp)⟩
section
variable {H : Type} {enc : TypeId × Value → H} {w : World} {v : Value} {d : DataW H} {ps : List MemPlace} {b0 : Nat}
theorem in_bundle (hval : Value.okWide Try.prog w .any b0 36 v) (hd : DataW.Trod enc Try.prog w 0 (fun _ => true) true 36 v d ps) : ∃ b : Bn, v = b.val ∧ b.Fits := by
  obtain ⟨l, rfl, hl, hf⟩ := in_flat 3 Try.underlying36 (by kernel_rfl) hval hd
  obtain ⟨b, hb, hF⟩ := bn_of (l := l) (hl.trans (by kernel_rfl)) hf
  refine ⟨b, ?_, hF⟩
  show Value.agg (l.map (Value.int .i64)).toArray = _
  rw [hb]
theorem in_name (hval : Value.okWide Try.prog w .any b0 34 v) (hd : DataW.Trod enc Try.prog w 0 (fun _ => true) true 34 v d ps) : ∃ s i g : Int, v = .agg #[.int .i64 s, .int .i64 i, .int .i64 g] := by
  obtain ⟨l, rfl, hl, hf⟩ := in_flat 3 Try.underlying34 (by kernel_rfl) hval hd
  have hl : l.length = 3 := hl.trans (by kernel_rfl)
  obtain ⟨a0, l0, rfl, h0⟩ := list_succ hl
  obtain ⟨a1, l1, rfl, h1⟩ := list_succ h0
  obtain ⟨a2, l2, rfl, h2⟩ := list_succ h1
  obtain rfl := List.length_eq_zero_iff.1 h2
  exact ⟨a0, a1, a2, rfl⟩
theorem rows_bn : ∀ l : List (List Int), (∀ x ∈ l, x.length = 11 ∧ I64 x) → ∃ bs : List Bn, l.map ints = bs.map Bn.row ∧ bs.length = l.length
  | [], _ => ⟨[], rfl, rfl⟩
  | x :: r, h => by
    obtain ⟨b, hb, _⟩ := bn_of (h x List.mem_cons_self).1 (h x List.mem_cons_self).2
    obtain ⟨bs, h1, h2⟩ := rows_bn r (fun y hy => h y (List.mem_cons_of_mem _ hy))
    refine ⟨b :: bs, ?_, by simp [h2]⟩
    rw [List.map_cons, List.map_cons, h1]
    congr 1
theorem in_bundles (hval : Value.okWide Try.prog w .any b0 26 v) (hd : DataW.Trod enc Try.prog w 0 (fun _ => true) true 26 v d ps) (hz : ∀ n ∈ DataW.weights Try.prog 26 d, n ≤ reachBytes) :
    ∃ (A : Option Addr) (cap : Nat) (l : List Bn), v = .slice A l.length cap ∧ l.length ≤ cap ∧ cap ≤ 140737488351232 ∧ RdB w w.heap.size A l := by
  obtain ⟨A, cap, l, rfl, h1, h2, h3, h4⟩ := in_flats (k := 11) 3 Try.underlying26 Try.underlying36 (by kernel_rfl) (by decide) (of_decide_eq_true (by kernel_rfl)) (by kernel_rfl) hval hd hz
  obtain ⟨bs, e1, e2⟩ := rows_bn l h3
  rw [e1] at h4
  exact ⟨A, cap, bs, by rw [e2], by omega, h2, RdB.of_reads h4⟩
end
end Go.Proofs.Yteollbioeamciaa
namespace Go.Proofs.Yteollbioeamciaa
open Go.ChangeShapes Go.WideShapes Go.ChangeAt Go.RowKit Pz Ar Bu
set_option linter.unusedVariables false
set_option linter.unusedSimpArgs false
set_option maxRecDepth 100000

abbrev DTY : TypeId := 38
abbrev DLT : TypeId := 22
abbrev deE (d : De) : List Value := d.row
abbrev OwnD (W : World) (B : Nat) (v : Value) (l : List De) : Prop := Rw deE DTY 13 W B v l
theorem deE_len (x : De) : (deE x).length = 13 := rfl
theorem deE_one (x : De) : ∀ u ∈ deE x, u.oneCell' = true := by
  intro u hu
  simp only [deE, De.row, List.mem_cons, List.not_mem_nil, or_false] at hu
  rcases hu with rfl | rfl | rfl | rfl | rfl | rfl | rfl | rfl | rfl | rfl | rfl | rfl | rfl <;> rfl
abbrev zeroD : Value := .agg #[.int .i64 0, .int .i64 0, .int .i64 0, .int .i64 0, .int .i64 0, .int .i64 0, .int .i64 0, .int .i64 0, .int .i64 0, .int .i64 0, .int .i64 0, .int .i64 0, .int .i64 0]
theorem deed_info : (Try.prog.info? DTY).map (fun i => (i.zero, i.size, i.bytes)) = some (some zeroD, 13, 104) := by kernel_rfl
/-- these deeds lie at A, below block B -/
def RdDe (W : World) (B : Nat) (A : Option Addr) (l : List De) : Prop :=
  ∀ (j : Nat) (x : De), l[j]? = some x → ∃ g o, A = some ⟨g, o, none⟩ ∧ g < B ∧ (W.cell? ⟨g, o + j * 13, none⟩ = some (.int .i64 x.k) ∧ W.cell? ⟨g, o + j * 13 + 1, none⟩ = some (.int .i64 x.b.s) ∧ W.cell? ⟨g, o + j * 13 + 2, none⟩ = some (.int .i64 x.b.i) ∧ W.cell? ⟨g, o + j * 13 + 3, none⟩ = some (.int .i64 x.b.g) ∧ W.cell? ⟨g, o + j * 13 + 4, none⟩ = some (.int .i64 x.b.m) ∧ W.cell? ⟨g, o + j * 13 + 5, none⟩ = some (.int .i64 x.b.x) ∧ W.cell? ⟨g, o + j * 13 + 6, none⟩ = some (.int .i64 x.b.y) ∧ W.cell? ⟨g, o + j * 13 + 7, none⟩ = some (.int .i64 x.b.vx) ∧ W.cell? ⟨g, o + j * 13 + 8, none⟩ = some (.int .i64 x.b.vy) ∧ W.cell? ⟨g, o + j * 13 + 9, none⟩ = some (.int .i64 x.b.h) ∧ W.cell? ⟨g, o + j * 13 + 10, none⟩ = some (.int .i64 x.b.p) ∧ W.cell? ⟨g, o + j * 13 + 11, none⟩ = some (.int .i64 x.b.l) ∧ W.cell? ⟨g, o + j * 13 + 12, none⟩ = some (.int .i64 x.m))
section
variable {W W' : World} {B : Nat} {A : Option Addr} {l : List De}
theorem RdDe.below (h : RdDe W B A l) (hb : Below B W W') : RdDe W' B A l := fun j x hx => by
  obtain ⟨g, o, e, hg, h0, h1, h2, h3, h4, h5, h6, h7, h8, h9, h10, h11, h12⟩ := h j x hx
  exact ⟨g, o, e, hg, (hb.cell (p := ⟨g, _, none⟩) hg).trans h0, (hb.cell (p := ⟨g, _, none⟩) hg).trans h1, (hb.cell (p := ⟨g, _, none⟩) hg).trans h2, (hb.cell (p := ⟨g, _, none⟩) hg).trans h3, (hb.cell (p := ⟨g, _, none⟩) hg).trans h4, (hb.cell (p := ⟨g, _, none⟩) hg).trans h5, (hb.cell (p := ⟨g, _, none⟩) hg).trans h6, (hb.cell (p := ⟨g, _, none⟩) hg).trans h7, (hb.cell (p := ⟨g, _, none⟩) hg).trans h8, (hb.cell (p := ⟨g, _, none⟩) hg).trans h9, (hb.cell (p := ⟨g, _, none⟩) hg).trans h10, (hb.cell (p := ⟨g, _, none⟩) hg).trans h11, (hb.cell (p := ⟨g, _, none⟩) hg).trans h12⟩
theorem RdDe.more (h : RdDe W B A l) {B' : Nat} (hB : B ≤ B') : RdDe W B' A l := fun j x hx => by
  obtain ⟨g, o, e, hg, h⟩ := h j x hx
  exact ⟨g, o, e, by omega, h⟩
theorem RdDe.take (h : RdDe W B A l) (n : Nat) : RdDe W B A (l.take n) := fun j x hx => h j x (by
  by_cases hj : j < n
  · rwa [List.getElem?_take_of_lt hj] at hx
  · have := (List.getElem?_eq_some_iff.1 hx).1
    rw [List.length_take] at this
    omega)
theorem RdDe.drop {g o : Nat} (h : RdDe W B (some ⟨g, o, none⟩) l) (n : Nat) : RdDe W B (some ⟨g, o + n * 13, none⟩) (l.drop n) := fun j x hx => by
  rw [List.getElem?_drop] at hx
  obtain ⟨g', o', e, hg, hc⟩ := h _ x hx
  cases e
  refine ⟨g, o + n * 13, rfl, hg, ?_⟩
  have e : o + (n + j) * 13 = o + n * 13 + j * 13 := by omega
  rw [e] at hc
  exact hc
theorem RdDe.of_own {c : Nat} {B0 : Nat} (h : OwnD W B0 (.slice A l.length c) l) : RdDe W W.heap.size A l := fun j x hx => by
  obtain ⟨g, o, c', e, _, hg, hc⟩ := h.at_ hx
  cases e
  exact ⟨g, o, rfl, hg, (hc 0 _ rfl).1, (hc 1 _ rfl).1, (hc 2 _ rfl).1, (hc 3 _ rfl).1, (hc 4 _ rfl).1, (hc 5 _ rfl).1, (hc 6 _ rfl).1, (hc 7 _ rfl).1, (hc 8 _ rfl).1, (hc 9 _ rfl).1, (hc 10 _ rfl).1, (hc 11 _ rfl).1, (hc 12 _ rfl).1⟩
theorem RdDe.of_reads (h : ReadsK W B A 13 (l.map De.row)) : RdDe W B A l := fun j x hx => by
  have hj := (List.getElem?_eq_some_iff.1 hx).1
  obtain ⟨g, o, e, hg, hc⟩ := h (by rw [List.length_map]; omega)
  have hr : (l.map De.row)[j]? = some x.row := by rw [List.getElem?_map, hx]; rfl
  exact ⟨g, o, e, hg, hc j _ hr 0 _ rfl, hc j _ hr 1 _ rfl, hc j _ hr 2 _ rfl, hc j _ hr 3 _ rfl, hc j _ hr 4 _ rfl, hc j _ hr 5 _ rfl, hc j _ hr 6 _ rfl, hc j _ hr 7 _ rfl, hc j _ hr 8 _ rfl, hc j _ hr 9 _ rfl, hc j _ hr 10 _ rfl, hc j _ hr 11 _ rfl, hc j _ hr 12 _ rfl⟩
theorem ownd_at {c B0 : Nat} (h : OwnD W B0 (.slice A l.length c) l) {j : Nat} {x : De} (hk : l[j]? = some x) : ∃ g o, A = some ⟨g, o, none⟩ ∧ B0 ≤ g ∧ g < W.heap.size ∧ (W.cell? ⟨g, o + j * 13, none⟩ = some (.int .i64 x.k) ∧ W.cell? ⟨g, o + j * 13 + 1, none⟩ = some (.int .i64 x.b.s) ∧ W.cell? ⟨g, o + j * 13 + 2, none⟩ = some (.int .i64 x.b.i) ∧ W.cell? ⟨g, o + j * 13 + 3, none⟩ = some (.int .i64 x.b.g) ∧ W.cell? ⟨g, o + j * 13 + 4, none⟩ = some (.int .i64 x.b.m) ∧ W.cell? ⟨g, o + j * 13 + 5, none⟩ = some (.int .i64 x.b.x) ∧ W.cell? ⟨g, o + j * 13 + 6, none⟩ = some (.int .i64 x.b.y) ∧ W.cell? ⟨g, o + j * 13 + 7, none⟩ = some (.int .i64 x.b.vx) ∧ W.cell? ⟨g, o + j * 13 + 8, none⟩ = some (.int .i64 x.b.vy) ∧ W.cell? ⟨g, o + j * 13 + 9, none⟩ = some (.int .i64 x.b.h) ∧ W.cell? ⟨g, o + j * 13 + 10, none⟩ = some (.int .i64 x.b.p) ∧ W.cell? ⟨g, o + j * 13 + 11, none⟩ = some (.int .i64 x.b.l) ∧ W.cell? ⟨g, o + j * 13 + 12, none⟩ = some (.int .i64 x.m)) ∧ (W.frozen? ⟨g, o + j * 13, none⟩ = false ∧ W.frozen? ⟨g, o + j * 13 + 1, none⟩ = false ∧ W.frozen? ⟨g, o + j * 13 + 2, none⟩ = false ∧ W.frozen? ⟨g, o + j * 13 + 3, none⟩ = false ∧ W.frozen? ⟨g, o + j * 13 + 4, none⟩ = false ∧ W.frozen? ⟨g, o + j * 13 + 5, none⟩ = false ∧ W.frozen? ⟨g, o + j * 13 + 6, none⟩ = false ∧ W.frozen? ⟨g, o + j * 13 + 7, none⟩ = false ∧ W.frozen? ⟨g, o + j * 13 + 8, none⟩ = false ∧ W.frozen? ⟨g, o + j * 13 + 9, none⟩ = false ∧ W.frozen? ⟨g, o + j * 13 + 10, none⟩ = false ∧ W.frozen? ⟨g, o + j * 13 + 11, none⟩ = false ∧ W.frozen? ⟨g, o + j * 13 + 12, none⟩ = false) := by
  obtain ⟨g, o, c', e, hB, hg, hc⟩ := h.at_ hk
  cases e
  exact ⟨g, o, rfl, hB, hg, ⟨(hc 0 _ rfl).1, (hc 1 _ rfl).1, (hc 2 _ rfl).1, (hc 3 _ rfl).1, (hc 4 _ rfl).1, (hc 5 _ rfl).1, (hc 6 _ rfl).1, (hc 7 _ rfl).1, (hc 8 _ rfl).1, (hc 9 _ rfl).1, (hc 10 _ rfl).1, (hc 11 _ rfl).1, (hc 12 _ rfl).1⟩, ⟨(hc 0 _ rfl).2, (hc 1 _ rfl).2, (hc 2 _ rfl).2, (hc 3 _ rfl).2, (hc 4 _ rfl).2, (hc 5 _ rfl).2, (hc 6 _ rfl).2, (hc 7 _ rfl).2, (hc 8 _ rfl).2, (hc 9 _ rfl).2, (hc 10 _ rfl).2, (hc 11 _ rfl).2, (hc 12 _ rfl).2⟩⟩
/-- deeds more at its end, such as are read -/
theorem OwnD.app {v : Value} {y : List De} {c : Nat} (h : OwnD W B v l) (hB : B ≤ W.heap.size) (R : RdDe W W.heap.size A y) (hn : l.length + y.length ≤ 1000000) (ty : TypeId) :
    ∃ v' w', (Builtin.append_ #[DLT, DLT] ty #[v, .slice A y.length c]).run Try.prog W = .ok v' w' ∧ OwnD w' B v' (l ++ y) ∧ W.grownBy w' v.ownBlock ∧ ∀ b, v'.ownBlock = some b → v.ownBlock = some b ∨ W.heap.size ≤ b := by
  by_cases h0 : 0 < y.length
  · obtain ⟨g, o, rfl, _⟩ := R 0 _ (List.getElem?_eq_getElem h0)
    exact Rw.app (P := Try.prog) (t := DLT) (ty := ty) Try.underlying22 deed_info rfl (by decide) deE_len deE_one h hB y ⟨g, o, none⟩ c (fun j x hj c2 u hu => by
      obtain ⟨g2, o2, e2, _, h0, h1, h2, h3, h4, h5, h6, h7, h8, h9, h10, h11, h12⟩ := R j x hj
      cases e2
      rw [Addr.add_mid]
      have hc : c2 < 13 := (List.getElem?_eq_some_iff.1 hu).1
      have : c2 = 0 ∨ c2 = 1 ∨ c2 = 2 ∨ c2 = 3 ∨ c2 = 4 ∨ c2 = 5 ∨ c2 = 6 ∨ c2 = 7 ∨ c2 = 8 ∨ c2 = 9 ∨ c2 = 10 ∨ c2 = 11 ∨ c2 = 12 := by omega
      rw [← Nat.add_assoc]
      rcases this with rfl | rfl | rfl | rfl | rfl | rfl | rfl | rfl | rfl | rfl | rfl | rfl | rfl <;> (cases hu; first | exact h0 | exact h1 | exact h2 | exact h3 | exact h4 | exact h5 | exact h6 | exact h7 | exact h8 | exact h9 | exact h10 | exact h11 | exact h12)) hn (by decide) (.inl h0)
  · obtain rfl : y = [] := List.length_eq_zero_iff.1 (by omega)
    obtain ⟨i, hi, _, h2, _⟩ := info_parts (P := Try.prog) deed_info
    have hs : Src Try.prog i.size DLT (.slice A 0 c) 0 [] W := by
      cases A with
      | none => exact Src.ofNil W Try.underlying22 c
      | some a => exact Src.ofSlice W Try.underlying22 a 0 c [] (by simp) (fun j u hj => by simp at hj) (by simp)
    rw [List.append_nil]
    obtain ⟨A', c', rfl⟩ := h.form
    exact ⟨_, W, run_append_nothing W _ _ ty _ i Try.underlying22 hi A' l.length c' (by
      rcases h with ⟨e, rfl⟩ | ⟨g, off, cap, cur, e, _, _, h3, _⟩
      · cases e; exact Nat.le_refl _
      · cases e; exact h3) _ hs, h, World.grownBy.refl W _, fun b hb => .inl hb⟩
end
/-! ### rows of numbers: what is said of each -/
abbrev nuE (n : Int) : List Value := [.int .i64 n]
theorem nuE_len (x : Int) : (nuE x).length = 1 := rfl
theorem nuE_one (x : Int) : ∀ u ∈ nuE x, u.oneCell' = true := by
  intro u hu
  simp only [nuE, List.mem_cons, List.not_mem_nil, or_false] at hu
  rcases hu with rfl; rfl
/-- answers of the code's, of the document's -/
abbrev OwnE (W : World) (B : Nat) (v : Value) (l : List Int) : Prop := Rw nuE 31 1 W B v l
abbrev OwnZ (W : World) (B : Nat) (v : Value) (l : List Int) : Prop := Rw nuE 3 1 W B v l
theorem errno_info : (Try.prog.info? 31).map (fun i => (i.zero, i.size, i.bytes)) = some (some (.int .i64 0), 1, 8) := by kernel_rfl
theorem int_info : (Try.prog.info? 3).map (fun i => (i.zero, i.size, i.bytes)) = some (some (.int .i64 0), 1, 8) := by kernel_rfl
section
variable {W V : World} {B c : Nat} {A : Option Addr} {v : Value} {l : List Int} {T : Nat}
theorem num_at (h : Rw nuE T 1 W B (.slice A l.length c) l) {j : Nat} {x : Int} (hk : l[j]? = some x) : ∃ g o, A = some ⟨g, o, none⟩ ∧ B ≤ g ∧ g < W.heap.size ∧ W.cell? ⟨g, o + j, none⟩ = some (.int .i64 x) := by
  obtain ⟨g, o, c', e, hB, hg, hc⟩ := h.at_ hk
  cases e
  have := (hc 0 _ rfl).1
  rw [Nat.mul_one, Nat.add_zero] at this
  exact ⟨g, o, rfl, hB, hg, this⟩
theorem owne_app {w : World} (h0 : Below w.heap.size w W) (h : OwnE W w.heap.size v l) (x : Int) (hn : l.length + 1 ≤ 1000000) (ty : TypeId) :
    ∃ A' c' w', (Builtin.append_ #[48, 48] ty #[v, .slice (some ⟨W.heap.size, 0, none⟩) 1 1]).run Try.prog (W.alloc (.cells #[.int .i64 x] 31)) = .ok (.slice A' (l ++ [x]).length c') w' ∧ OwnE w' w.heap.size (.slice A' (l ++ [x]).length c') (l ++ [x]) ∧ W.grownBy w' v.ownBlock := by
  obtain ⟨v', w', hr, ho, hg, _⟩ := app_x (enc := nuE) (T := 31) (s := 1) (t := 48) Try.underlying48 errno_info rfl (by decide) nuE_len nuE_one h h0.size x hn (by decide) ty
  obtain ⟨A', c', rfl⟩ := ho.form
  exact ⟨A', c', w', hr, ho, hg⟩
theorem ownz_app {w : World} (h0 : Below w.heap.size w W) (h : OwnZ W w.heap.size v l) (x : Int) (hn : l.length + 1 ≤ 1000000) (ty : TypeId) :
    ∃ A' c' w', (Builtin.append_ #[51, 51] ty #[v, .slice (some ⟨W.heap.size, 0, none⟩) 1 1]).run Try.prog (W.alloc (.cells #[.int .i64 x] 3)) = .ok (.slice A' (l ++ [x]).length c') w' ∧ OwnZ w' w.heap.size (.slice A' (l ++ [x]).length c') (l ++ [x]) ∧ W.grownBy w' v.ownBlock := by
  obtain ⟨v', w', hr, ho, hg, _⟩ := app_x (enc := nuE) (T := 3) (s := 1) (t := 51) Try.underlying51 int_info rfl (by decide) nuE_len nuE_one h h0.size x hn (by decide) ty
  obtain ⟨A', c', rfl⟩ := ho.form
  exact ⟨A', c', w', hr, ho, hg⟩
end
/-! ### deeds that came in -/
theorem de_of {l : List Int} (hl : l.length = 13) (hf : I64 l) : ∃ x : De, l.map (Value.int .i64) = x.row ∧ Fit x.b.m ∧ Fit x.m := by
  obtain ⟨y0, l0, rfl, h0⟩ := list_succ hl
  obtain ⟨y1, l1, rfl, h1⟩ := list_succ h0
  obtain ⟨y2, l2, rfl, h2⟩ := list_succ h1
  obtain ⟨y3, l3, rfl, h3⟩ := list_succ h2
  obtain ⟨y4, l4, rfl, h4⟩ := list_succ h3
  obtain ⟨y5, l5, rfl, h5⟩ := list_succ h4
  obtain ⟨y6, l6, rfl, h6⟩ := list_succ h5
  obtain ⟨y7, l7, rfl, h7⟩ := list_succ h6
  obtain ⟨y8, l8, rfl, h8⟩ := list_succ h7
  obtain ⟨y9, l9, rfl, h9⟩ := list_succ h8
  obtain ⟨y10, l10, rfl, h10⟩ := list_succ h9
  obtain ⟨y11, l11, rfl, h11⟩ := list_succ h10
  obtain ⟨y12, l12, rfl, h12⟩ := list_succ h11
  obtain rfl := List.length_eq_zero_iff.1 h12
  exact ⟨⟨y0, ⟨y1, y2, y3, y4, y5, y6, y7, y8, y9, y10, y11⟩, y12⟩, rfl, hf _ (by simp), hf _ (by simp)⟩
theorem rows_de : ∀ l : List (List Int), (∀ x ∈ l, x.length = 13 ∧ I64 x) → ∃ bs : List De, l.map ints = bs.map De.row ∧ bs.length = l.length ∧ ∀ x ∈ bs, Fit x.b.m ∧ Fit x.m
  | [], _ => ⟨[], rfl, rfl, fun x hx => by cases hx⟩
  | x :: r, h => by
    obtain ⟨b, hb, hF⟩ := de_of (h x List.mem_cons_self).1 (h x List.mem_cons_self).2
    obtain ⟨bs, h1, h2, h3⟩ := rows_de r (fun y hy => h y (List.mem_cons_of_mem _ hy))
    refine ⟨b :: bs, ?_, by simp [h2], fun y hy => ?_⟩
    · rw [List.map_cons, List.map_cons, h1]
      congr 1
    · rcases List.mem_cons.1 hy with rfl | hy
      · exact hF
      · exact h3 y hy
section
variable {H : Type} {enc : TypeId × Value → H} {w : World} {v : Value} {d : DataW H} {ps : List MemPlace} {b0 : Nat}
theorem in_deeds13 (hval : Value.okWide Try.prog w .any b0 DLT v) (hd : DataW.Trod enc Try.prog w 0 (fun _ => true) true DLT v d ps) (hz : ∀ n ∈ DataW.weights Try.prog DLT d, n ≤ reachBytes) :
    ∃ (A : Option Addr) (cap : Nat) (l : List De), v = .slice A l.length cap ∧ l.length ≤ cap ∧ cap ≤ 140737488351232 ∧ (∀ x ∈ l, Fit x.b.m ∧ Fit x.m) ∧ RdDe w w.heap.size A l := by
  obtain ⟨A, cap, l, rfl, h1, h2, h3, h4⟩ := in_flats (k := 13) 4 Try.underlying22 Try.underlying38 (by kernel_rfl) (by decide) (of_decide_eq_true (by kernel_rfl)) (by kernel_rfl) hval hd hz
  obtain ⟨bs, e1, e2, e3⟩ := rows_de l h3
  rw [e1] at h4
  exact ⟨A, cap, bs, by rw [e2], by omega, h2, e3, RdDe.of_reads h4⟩
theorem in_deed13 (hval : Value.okWide Try.prog w .any b0 DTY v) (hd : DataW.Trod enc Try.prog w 0 (fun _ => true) true DTY v d ps) : ∃ x : De, v = x.val ∧ Fit x.b.m ∧ Fit x.m := by
  obtain ⟨l, rfl, hl, hf⟩ := in_flat 4 Try.underlying38 (by kernel_rfl) hval hd
  obtain ⟨b, hb, hF⟩ := de_of (l := l) (hl.trans (by kernel_rfl)) hf
  refine ⟨b, ?_, hF⟩
  show Value.agg (l.map (Value.int .i64)).toArray = _
  rw [hb]
end
set_option maxHeartbeats 8000000 in
theorem few_any {w : World} {A : Option Addr} {c : Nat} {l : List De} (R : RdDe w w.heap.size A l) (hc : l.length ≤ c) (hcap : c ≤ 140737488351232) :
    Calls Try.prog 10 #[.slice A l.length c] w fun e w' => (∃ c', e = .returned (.slice A (l.take 60).length c') ∧ (l.take 60).length ≤ c' ∧ c' ≤ 140737488351232) ∧ w = w' := by
  rw [List.length_take]
  by_cases hl : 60 < l.length
  · obtain ⟨g, o, rfl, rest⟩ := R 0 l[0] (List.getElem?_eq_getElem (by omega))
    clear rest
    have t1 : (60 : Int) < (l.length : Int) := by omega
    have e1 : min 60 l.length = 60 := by omega
    have hc2 : 60 ≤ c := by omega
    rw [e1]
    clear R e1
    generalize l.length = n at *
    go_enter Try.func10, Try.ntmps10
    go_wp2
    go_ret
    exact ⟨⟨_, rfl, by omega, by omega⟩, rfl⟩
  · have t1 : ¬ (60 : Int) < (l.length : Int) := by omega
    have e1 : min 60 l.length = l.length := by omega
    rw [e1]
    clear R e1
    generalize l.length = n at *
    go_enter Try.func10, Try.ntmps10
    go_wp2
    go_ret
    exact ⟨⟨_, rfl, by omega, by omega⟩, rfl⟩
end Go.Proofs.Yteollbioeamciaa
