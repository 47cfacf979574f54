/- PcOpen, SyOpen, in one text. -/
import Derived.Test.YtfmbldjaknjgbaaKBase
import Derived.Test.YtfmbldjaknjgbaaKRw
namespace Go.Proofs.Ytfmbldjaknjgbaa
open Go.ChangeShapes Go.WideShapes Go.ChangeAt Go.RowKit Pz
set_option linter.unusedVariables false
set_option maxRecDepth 100000

theorem list_succ {α : Type} {l : List α} {n : Nat} (h : l.length = n + 1) : ∃ x r, l = x :: r ∧ r.length = n := by
  cases l with
  | nil => cases h
  | cons x r => exact ⟨x, r, rfl, by simpa using h⟩
theorem bn_of {l : List Int} (hl : l.length = 11) (hf : I64 l) : ∃ b : Bn, l.map (Value.int .i64) = b.row ∧ b.Fits := by
  obtain ⟨xs, l0, rfl, h0⟩ := list_succ hl
  obtain ⟨xi, l1, rfl, h1⟩ := list_succ h0
  obtain ⟨xg, l2, rfl, h2⟩ := list_succ h1
  obtain ⟨xm, l3, rfl, h3⟩ := list_succ h2
  obtain ⟨xx, l4, rfl, h4⟩ := list_succ h3
  obtain ⟨xy, l5, rfl, h5⟩ := list_succ h4
  obtain ⟨xvx, l6, rfl, h6⟩ := list_succ h5
  obtain ⟨xvy, l7, rfl, h7⟩ := list_succ h6
  obtain ⟨xh, l8, rfl, h8⟩ := list_succ h7
  obtain ⟨xp, l9, rfl, h9⟩ := list_succ h8
  obtain ⟨xl, l10, rfl, h10⟩ := list_succ h9
  obtain rfl := List.length_eq_zero_iff.1 h10
  refine ⟨⟨xs, xi, xg, xm, xx, xy, xvx, xvy, xh, xp, xl⟩, rfl, ?_⟩
  constructor <;> exact hf _ (by simp)
theorem cn_of {l : List Int} (hl : l.length = 16) (hf : I64 l) : ∃ c : Cn, (Value.agg (l.map (Value.int .i64)).toArray) = c.val ∧ Fit c.b.m := by
  obtain ⟨yk0, l0, rfl, h0⟩ := list_succ hl
  obtain ⟨ys1, l1, rfl, h1⟩ := list_succ h0
  obtain ⟨yi2, l2, rfl, h2⟩ := list_succ h1
  obtain ⟨yg3, l3, rfl, h3⟩ := list_succ h2
  obtain ⟨ybs4, l4, rfl, h4⟩ := list_succ h3
  obtain ⟨ybi5, l5, rfl, h5⟩ := list_succ h4
  obtain ⟨ybg6, l6, rfl, h6⟩ := list_succ h5
  obtain ⟨ybm7, l7, rfl, h7⟩ := list_succ h6
  obtain ⟨yx8, l8, rfl, h8⟩ := list_succ h7
  obtain ⟨yy9, l9, rfl, h9⟩ := list_succ h8
  obtain ⟨yvx10, l10, rfl, h10⟩ := list_succ h9
  obtain ⟨yvy11, l11, rfl, h11⟩ := list_succ h10
  obtain ⟨yh12, l12, rfl, h12⟩ := list_succ h11
  obtain ⟨yp13, l13, rfl, h13⟩ := list_succ h12
  obtain ⟨yl14, l14, rfl, h14⟩ := list_succ h13
  obtain ⟨ym15, l15, rfl, h15⟩ := list_succ h14
  obtain rfl := List.length_eq_zero_iff.1 h15
  exact ⟨⟨yk0, ys1, yi2, yg3, ⟨ybs4, ybi5, ybg6, ybm7, yx8, yy9, yvx10, yvy11, yh12, yp13, yl14⟩, ym15⟩, rfl, hf _ (by simp)⟩
section
variable {H : Type} {enc : TypeId × Value → H} {w : World} {v : Value} {d : DataW H} {ps : List MemPlace} {b0 : Nat}
theorem in_bundle (hval : Value.okWide Try.prog w .any b0 34 v) (hd : DataW.Trod enc Try.prog w 0 (fun _ => true) true 34 v d ps) : ∃ b : Bn, v = b.val ∧ b.Fits := by
  obtain ⟨l, rfl, hl, hf⟩ := in_flat 3 Try.underlying34 (by kernel_rfl) hval hd
  obtain ⟨b, hb, hF⟩ := bn_of (l := l) (hl.trans (by kernel_rfl)) hf
  refine ⟨b, ?_, hF⟩
  show Value.agg (l.map (Value.int .i64)).toArray = _
  rw [hb]
theorem in_name (hval : Value.okWide Try.prog w .any b0 32 v) (hd : DataW.Trod enc Try.prog w 0 (fun _ => true) true 32 v d ps) : ∃ s i g : Int, v = .agg #[.int .i64 s, .int .i64 i, .int .i64 g] := by
  obtain ⟨l, rfl, hl, hf⟩ := in_flat 3 Try.underlying32 (by kernel_rfl) hval hd
  have hl : l.length = 3 := hl.trans (by kernel_rfl)
  obtain ⟨a0, l0, rfl, h0⟩ := list_succ hl
  obtain ⟨a1, l1, rfl, h1⟩ := list_succ h0
  obtain ⟨a2, l2, rfl, h2⟩ := list_succ h1
  obtain rfl := List.length_eq_zero_iff.1 h2
  exact ⟨a0, a1, a2, rfl⟩
theorem rows_bn : ∀ l : List (List Int), (∀ x ∈ l, x.length = 11 ∧ I64 x) → ∃ bs : List Bn, l.map ints = bs.map Bn.row ∧ bs.length = l.length
  | [], _ => ⟨[], rfl, rfl⟩
  | x :: r, h => by
    obtain ⟨b, hb, _⟩ := bn_of (h x List.mem_cons_self).1 (h x List.mem_cons_self).2
    obtain ⟨bs, h1, h2⟩ := rows_bn r (fun y hy => h y (List.mem_cons_of_mem _ hy))
    refine ⟨b :: bs, ?_, by simp [h2]⟩
    rw [List.map_cons, List.map_cons, h1]
    congr 1
theorem in_bundles (hval : Value.okWide Try.prog w .any b0 22 v) (hd : DataW.Trod enc Try.prog w 0 (fun _ => true) true 22 v d ps) (hz : ∀ n ∈ DataW.weights Try.prog 22 d, n ≤ reachBytes) :
    ∃ (A : Option Addr) (cap : Nat) (l : List Bn), v = .slice A l.length cap ∧ l.length ≤ cap ∧ cap ≤ 140737488351232 ∧ RdB w w.heap.size A l := by
  obtain ⟨A, cap, l, rfl, h1, h2, h3, h4⟩ := in_flats (k := 11) 3 Try.underlying22 Try.underlying34 (by kernel_rfl) (by decide) (of_decide_eq_true (by kernel_rfl)) (by kernel_rfl) hval hd hz
  obtain ⟨bs, e1, e2⟩ := rows_bn l h3
  rw [e1] at h4
  exact ⟨A, cap, bs, by rw [e2], by omega, h2, RdB.of_reads h4⟩
end
end Go.Proofs.Ytfmbldjaknjgbaa
namespace Go.Proofs.Ytfmbldjaknjgbaa
open Go.ChangeShapes Go.WideShapes Go.ChangeAt Go.RowKit Pz
set_option linter.unusedVariables false
set_option maxRecDepth 100000
set_option linter.unusedSimpArgs false

theorem cn_fits {l : List Int} (hl : l.length = 16) (hf : I64 l) : ∃ c : Cn, (Value.agg (l.map (Value.int .i64)).toArray) = c.val ∧ Fit c.k ∧ Fit c.m ∧ c.b.Fits := by
  obtain ⟨yk, l0, rfl, h0⟩ := list_succ hl
  obtain ⟨ys, l1, rfl, h1⟩ := list_succ h0
  obtain ⟨yi, l2, rfl, h2⟩ := list_succ h1
  obtain ⟨yg, l3, rfl, h3⟩ := list_succ h2
  obtain ⟨ybs, l4, rfl, h4⟩ := list_succ h3
  obtain ⟨ybi, l5, rfl, h5⟩ := list_succ h4
  obtain ⟨ybg, l6, rfl, h6⟩ := list_succ h5
  obtain ⟨ybm, l7, rfl, h7⟩ := list_succ h6
  obtain ⟨yx, l8, rfl, h8⟩ := list_succ h7
  obtain ⟨yy, l9, rfl, h9⟩ := list_succ h8
  obtain ⟨yvx, l10, rfl, h10⟩ := list_succ h9
  obtain ⟨yvy, l11, rfl, h11⟩ := list_succ h10
  obtain ⟨yh, l12, rfl, h12⟩ := list_succ h11
  obtain ⟨yp, l13, rfl, h13⟩ := list_succ h12
  obtain ⟨yl, l14, rfl, h14⟩ := list_succ h13
  obtain ⟨ym, l15, rfl, h15⟩ := list_succ h14
  obtain rfl := List.length_eq_zero_iff.1 h15
  refine ⟨⟨yk, ys, yi, yg, ⟨ybs, ybi, ybg, ybm, yx, yy, yvx, yvy, yh, yp, yl⟩, ym⟩, rfl, hf _ (by simp), hf _ (by simp), ?_⟩
  constructor <;> exact hf _ (by simp)
theorem rows_bF : ∀ l : List (List Int), (∀ x ∈ l, x.length = 11 ∧ I64 x) → ∃ bs : List Bn, l.map ints = bs.map Bn.row ∧ bs.length = l.length ∧ ∀ x ∈ bs, x.Fits
  | [], _ => ⟨[], rfl, rfl, fun x hx => by cases hx⟩
  | x :: r, h => by
    obtain ⟨b, hb, hf⟩ := bn_of (h x List.mem_cons_self).1 (h x List.mem_cons_self).2
    obtain ⟨bs, h1, h2, h3⟩ := rows_bF r (fun y hy => h y (List.mem_cons_of_mem _ hy))
    refine ⟨b :: bs, ?_, by simp [h2], fun y hy => ?_⟩
    · rw [List.map_cons, List.map_cons, h1]
      congr 1
    · rcases List.mem_cons.1 hy with e | e
      · rw [e]; exact hf
      · exact h3 y e
section
variable {H : Type} {enc : TypeId × Value → H} {w : World} {v : Value} {d : DataW H} {ps : List MemPlace} {b0 : Nat}
theorem in_cmd14 (hval : Value.okWide Try.prog w .any b0 40 v) (hd : DataW.Trod enc Try.prog w 0 (fun _ => true) true 40 v d ps) : ∃ c : Cn, v = c.val ∧ Fit c.k ∧ Fit c.m ∧ c.b.Fits := by
  obtain ⟨l, rfl, hl, hf⟩ := in_flat 4 Try.underlying40 (by kernel_rfl) hval hd
  exact cn_fits (l := l) (hl.trans (by kernel_rfl)) hf
theorem in_bundles14 (hval : Value.okWide Try.prog w .any b0 22 v) (hd : DataW.Trod enc Try.prog w 0 (fun _ => true) true 22 v d ps) (hz : ∀ n ∈ DataW.weights Try.prog 22 d, n ≤ reachBytes) :
    ∃ (A : Option Addr) (cap : Nat) (l : List Bn), v = .slice A l.length cap ∧ l.length ≤ cap ∧ cap ≤ 140737488351232 ∧ RdB w w.heap.size A l ∧ ∀ x ∈ l, x.Fits := by
  obtain ⟨A, cap, l, rfl, h1, h2, h3, h4⟩ := in_flats (k := 11) 3 Try.underlying22 Try.underlying34 (by kernel_rfl) (by decide) (of_decide_eq_true (by kernel_rfl)) (by kernel_rfl) hval hd hz
  obtain ⟨bs, e1, e2, e3⟩ := rows_bF l h3
  rw [e1] at h4
  exact ⟨A, cap, bs, by rw [e2], by omega, h2, RdB.of_reads h4, e3⟩
end
end Go.Proofs.Ytfmbldjaknjgbaa
