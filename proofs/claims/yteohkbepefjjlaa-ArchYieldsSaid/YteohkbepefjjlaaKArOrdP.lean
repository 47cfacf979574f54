/- Entities that are put, one behind the other; the code's store beside one's own row of entities. -/
import Derived.Test.YteohkbepefjjlaaKArTabsP
import Derived.Test.YteohkbepefjjlaaKTwo
namespace Go.Proofs.Yteohkbepefjjlaa
open Go.RowKit Pz Ar
set_option linter.unusedVariables false
set_option linter.unusedSimpArgs false

namespace Ar
theorem filt_yes {P : List Bn} {m j : Nat} (hj : j < P.length) (h : P[j].m.toNat = m) : addAll (P.take (j + 1)) m = addAll (P.take j) m ++ [P[j]] ∧ (addAll P m)[(addAll (P.take j) m).length]? = some P[j] := by
  have e1 : P.take (j + 1) = P.take j ++ [P[j]] := by rw [List.take_add_one, List.getElem?_eq_getElem hj]; rfl
  have e2 : addAll (P.take (j + 1)) m = addAll (P.take j) m ++ [P[j]] := by
    unfold addAll
    rw [e1, List.filter_append]
    simp [h]
  refine ⟨e2, ?_⟩
  have e3 : addAll P m = addAll (P.take (j + 1)) m ++ addAll (P.drop (j + 1)) m := by
    unfold addAll
    rw [← List.filter_append, List.take_append_drop]
  rw [e3, e2, List.append_assoc, List.getElem?_append_right (Nat.le_refl _), Nat.sub_self]
  rfl
theorem filt_no {P : List Bn} {m j : Nat} (hj : j < P.length) (h : P[j].m.toNat ≠ m) : addAll (P.take (j + 1)) m = addAll (P.take j) m := by
  have e1 : P.take (j + 1) = P.take j ++ [P[j]] := by rw [List.take_add_one, List.getElem?_eq_getElem hj]; rfl
  unfold addAll
  rw [e1, List.filter_append]
  simp [h]
theorem put_cases (t : Tb) (b : Bn) : (put t b = (put0 t b, 0) ∧ may b = true) ∨ ∃ n : Int, n ≠ 0 ∧ put t b = (t, n) := by
  unfold put
  split
  · rename_i hm
    split
    · exact .inr ⟨7, by decide, rfl⟩
    · exact .inl ⟨rfl, hm⟩
  · exact .inr ⟨1, by decide, rfl⟩
theorem total_put0 {t : Tb} {b : Bn} (hb : may b = true) : total (put0 t b) = total t + 1 := by
  obtain ⟨h1, h2⟩ := may_mask hb
  have := total_up t (m := b.m.toNat) (by omega) (t b.m.toNat ++ [b])
  rw [List.length_append] at this
  unfold put0
  simp only [List.length_singleton] at this
  omega
theorem total_addAll {P : List Bn} (h : ∀ b ∈ P, may b = true) : total (addAll P) = P.length := by
  have : ∀ n, n ≤ P.length → total (addAll (P.take n)) = n := fun n => by
    induction n with
    | zero => intro _; rw [List.take_zero, addAll_nil]; exact total_none
    | succ n ih =>
      intro hn
      rw [List.take_add_one, List.getElem?_eq_getElem (by omega)]
      show total (addAll (P.take n ++ [P[n]])) = _
      rw [addAll_snoc, total_put0 (h _ (List.getElem_mem _)), ih (by omega)]
  have := this P.length (Nat.le_refl _)
  rwa [List.take_length] at this
end Ar
/-- the code's store, and one's own row of entities -/
def P1R (w : World) (s : Nat) (t : Tb) (v : Value) (l : List Bn) (W : World) : Prop :=
  Below w.heap.size w W ∧ ∃ F : Foot, CS F s t W ∧ (∀ b, F b → w.heap.size ≤ b) ∧ OwnB W w.heap.size v l ∧ ∀ g, v.ownBlock = some g → ¬ F g
section
variable {w W V : World} {s : Nat} {t t' : Tb} {v : Value} {l : List Bn}
theorem P1.row0 (h : P1 w s t [] W) : P1R w s t (.slice none 0 0) [] W := by
  obtain ⟨h0, F, h1, h4, h5⟩ := h
  exact ⟨h0, F, h1, h4, .inl ⟨rfl, rfl⟩, fun g hg => by cases hg⟩
theorem P1R.one (h : P1R w s t v l W) : P1 w s t [] W := by
  obtain ⟨h0, F, h1, h4, _⟩ := h
  exact ⟨h0, F, h1, h4, fun x hx => by cases hx⟩
theorem P1R.own (h : P1R w s t v l W) : OwnB W w.heap.size v l := by
  obtain ⟨h0, F, h1, h4, h5, _⟩ := h
  exact h5
theorem P1R.below (h : P1R w s t v l W) (hb : Below W.heap.size W V) : P1R w s t v l V := by
  obtain ⟨h0, F, h1, h4, h5, h6⟩ := h
  exact ⟨h0.trans (hb.mono h0.size), F, h1.below hb, h4, h5.below hb, h6⟩
theorem P1R.put (h : P1R w s t v l W) (b : Bn) {n : Nat} (hl : Le t n) (hn : n < 100000) {x : Int} (e : Ar.put t b = (t', x)) : Calls Try.prog 30 #[.pointer (some ⟨s, 0, none⟩), b.val] W fun e V => e = .returned (.int .i64 x) ∧ P1R w s t' v l V := by
  obtain ⟨h0, F, h1, h4, h5, h6⟩ := h
  refine (cput_any h1 b (fun m => by have := hl m; omega)).mono fun e' V ⟨e1, e2, e3⟩ => ?_
  rw [e] at e1 e2
  obtain ⟨k0, F', k1, k4, _⟩ := P1.left (K := []) h0 h1 h4 (fun x hx => by cases hx) e2 e3
  have hlt : ∀ g, v.ownBlock = some g → g < W.heap.size := fun g hg => by
    obtain ⟨_, cur, hc⟩ := h5.blk hg
    exact Bx.lt hc
  refine ⟨e1, k0, _, e2, fun b hb => ?_, h5.kept fun g hg => e3.block g (hlt g hg) (h6 g hg), fun g hg hf => ?_⟩
  · rcases hb with hb | hb
    · exact h4 b hb
    · have := h0.size; omega
  · rcases hf with hf | hf
    · exact h6 g hg hf
    · have := hlt g hg; omega
theorem P1R.app (h : P1R w s t v l W) (x : Bn) (hn : l.length + 1 ≤ 1000000) (ty : TypeId) :
    ∃ A' c' w', (Builtin.append_ #[26, 26] ty #[v, .slice (some ⟨W.heap.size, 0, none⟩) 1 1]).run Try.prog (W.alloc (.cells (bnE x).toArray 35)) = .ok (.slice A' (l ++ [x]).length c') w' ∧ P1R w s t (.slice A' (l ++ [x]).length c') (l ++ [x]) w' := by
  obtain ⟨h0, F, h1, h4, h5, h6⟩ := h
  obtain ⟨v', w', hr, ho, hg, hv, hf⟩ := app_x (enc := bnE) (T := 35) (s := 11) (t := 26) Try.underlying26 bundle_info rfl (by decide) bnE_len bnE_one h5 h0.size x hn (by decide) ty
  obtain ⟨A', c', rfl⟩ := ho.form
  refine ⟨A', c', w', hr, below_row h0 hg h0.size hf, F, h1.kept hg.size fun b hb => hg.block b (h1.lt b hb) (fun e => h6 b e.symm hb), h4, ho, fun g hg' hF => ?_⟩
  rcases hv g hg' with e | e
  · exact h6 g e hF
  · have := h1.lt g hF; omega
end
end Go.Proofs.Yteohkbepefjjlaa
