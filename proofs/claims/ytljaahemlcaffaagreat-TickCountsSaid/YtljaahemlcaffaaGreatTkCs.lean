/- What a tick's results count, name by name; nothing of the program. -/
import Derived.Test.YtljaahemlcaffaaGreatK41
import Derived.Test.YtljaahemlcaffaaGreatK30
import Derived.Test.YtljaahemlcaffaaGreatK28
namespace Go.Proofs.YtljaahemlcaffaaGreat
open Go Pz Sp
set_option linter.unusedVariables false

namespace Tk
theorem split_len (p f : Bn → Bool) : ∀ l : List Bn, ((l.filter p).filter f).length + ((l.filter fun b => !p b).filter f).length = (l.filter f).length
  | [] => rfl
  | x :: l => by
    have ih := split_len p f l
    simp only [List.filter_cons]
    cases hp : p x <;> cases hf : f x <;> simp only [Bool.not_true, Bool.not_false, Bool.false_eq_true, if_true, if_false, List.filter_cons, hf, List.length_cons] <;> omega
theorem split_all (p : Bn → Bool) : ∀ l : List Bn, (l.filter p).length + (l.filter fun b => !p b).length = l.length
  | [] => rfl
  | x :: l => by
    have ih := split_all p l
    simp only [List.filter_cons]
    cases hp : p x <;> simp only [Bool.not_true, Bool.not_false, Bool.false_eq_true, if_true, if_false, List.length_cons] <;> omega
theorem fresh_eq : ∀ {cs : List Cn}, Fresh cs → ∀ {a b : Cn}, a ∈ cs → b ∈ cs → a.k = 1 → b.k = 1 → a.b.id = b.b.id → a = b
  | [], _, a, _, ha, _, _, _, _ => by simp at ha
  | x :: l, h, a, b, ha, hb, ka, kb, e => by
    unfold Fresh at h
    rw [List.pairwise_cons] at h
    rcases List.mem_cons.1 ha with ea | ha
    · rcases List.mem_cons.1 hb with eb | hb
      · rw [ea, eb]
      · exact absurd e (by rw [ea] at ka ⊢; exact h.1 b hb ka kb)
    · rcases List.mem_cons.1 hb with eb | hb
      · exact absurd e.symm (by rw [eb] at kb ⊢; exact h.1 a ha kb ka)
      · exact fresh_eq (cs := l) h.2 ha hb ka kb e
/-- everyone who was there, or began in the zone, comes just once -/
structure CountsP (C R S z : Int) (U : List Bn) (O : List Cn) (r : List Bn × List Bn × List K3) : Prop where
  one : ∀ b ∈ U, cnt (r.1 ++ r.2.1) r.2.2 b.id = 1
  new : ∀ c ∈ O, c.k = 1 → cnt (r.1 ++ r.2.1) r.2.2 c.b.id = if inZone C R S z c.b = true then 1 else 0
  tot : r.1.length + r.2.1.length + r.2.2.length = U.length + (born C R S z O).length
  l1 : r.1.length ≤ 1000
  l2 : r.2.1.length ≤ 1000
  l3 : r.2.2.length ≤ 1000
theorem run_countsP {C R S D V z : Int} (hz : -1 ≤ z ∧ z < C * R) {U near : List Bn} {O : List Cn} (h : Told U O) (lU : U.length ≤ 60) (lO : O.length ≤ 40) : CountsP C R S z U O (run C R S D V z U near O) := by
  have hl := run_len C R S D V z U near O
  have ok := run_ok C R S D V z h.un near O
  have ht := total (C := C) (R := R) (S := S) (D := D) (V := V) (z := z) (near := near) h
  have key : ∀ k, cnt ((run C R S D V z U near O).1 ++ (run C R S D V z U near O).2.1) (run C R S D V z U near O).2.2 k = cnt (runS C R S D V z U near O).1 (runS C R S D V z U near O).2 k := fun k => by
    unfold run
    rw [if_pos hz]
    dsimp only
    unfold cnt
    rw [List.filter_append, List.length_append, split_len]
  refine ⟨fun b hb => ?_, fun c hc hk => ?_, ?_, by omega, by omega, by omega⟩
  · rw [key]
    exact cnt_settled ok (run_settled h (.inl ⟨b, hb, rfl⟩))
  · rw [key]
    cases e : inZone C R S z c.b with
    | true =>
      rw [if_pos rfl]
      exact cnt_settled ok (run_settled h (.inr ⟨c, hc, hk, rfl, e⟩))
    | false =>
      rw [if_neg (by simp)]
      refine cnt_blank ok (run_blank h ?_)
      rintro (⟨b, hb, eb⟩ | ⟨d, hd, dk, di, dz⟩)
      · exact at_none.1 (h.new c hc hk) b hb eb
      · have := fresh_eq h.fresh hd hc dk hk di
        rw [this, e] at dz
        cases dz
  · unfold run
    rw [if_pos hz]
    dsimp only
    rw [split_all]
    exact ht
/-! ### step by step -/
theorem cnt_ent_step {l : List Bn} {j : Nat} (h : j < l.length) (k : K3) : ((l.take (j + 1)).filter fun b => decide (b.id = k)).length = ((l.take j).filter fun b => decide (b.id = k)).length + if l[j].id = k then 1 else 0 := by
  rw [List.take_succ_eq_append_getElem h, List.filter_append, List.length_append]
  congr 1
  by_cases e : l[j].id = k
  · rw [List.filter_cons_of_pos (by simpa using e), if_pos e]; rfl
  · rw [List.filter_cons_of_neg (by simpa using e), if_neg e]; rfl
theorem cnt_name_step {l : List K3} {j : Nat} (h : j < l.length) (k : K3) : ((l.take (j + 1)).filter fun d => decide (d = k)).length = ((l.take j).filter fun d => decide (d = k)).length + if l[j] = k then 1 else 0 := by
  rw [List.take_succ_eq_append_getElem h, List.filter_append, List.length_append]
  congr 1
  by_cases e : l[j] = k
  · rw [List.filter_cons_of_pos (by simpa using e), if_pos e]; rfl
  · rw [List.filter_cons_of_neg (by simpa using e), if_neg e]; rfl
theorem born_step {C R S z : Int} {l : List Cn} {j : Nat} (h : j < l.length) : (born C R S z (l.take (j + 1))).length = (born C R S z (l.take j)).length + if l[j].k = 1 ∧ inZone C R S z l[j].b = true then 1 else 0 := by
  unfold born
  rw [List.take_succ_eq_append_getElem h, List.filter_append, List.length_append]
  congr 1
  by_cases e : l[j].k = 1 ∧ inZone C R S z l[j].b = true
  · rw [List.filter_cons_of_pos (by simpa using e), if_pos e]; rfl
  · rw [List.filter_cons_of_neg (by simpa using e), if_neg e]; rfl
theorem may_spot {c : Cn} (h : mayCmd c = true) (hk : c.k = 1) : I c.b.x ∧ I c.b.y := by
  unfold mayCmd at h
  rw [if_pos hk] at h
  simp only [Bool.and_eq_true] at h
  have h := h.2
  simp only [may, Bool.and_eq_true] at h
  obtain ⟨_, h1, h2, _⟩ := right_parts h.1.2
  rw [h.2] at h1 h2
  simp only [inB, if_true, Bool.and_eq_true, decide_eq_true_eq] at h1 h2
  unfold I
  omega
theorem born_le {C R S z : Int} {l : List Cn} : (born C R S z l).length ≤ l.length := List.length_filter_le _ _
end Tk
end Go.Proofs.YtljaahemlcaffaaGreat
