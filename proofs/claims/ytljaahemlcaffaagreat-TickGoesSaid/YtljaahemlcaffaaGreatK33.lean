/- The sum of the hits of one name. Written by wip/tools/gensy.py. -/
import Derived.Test.YtljaahemlcaffaaGreatK32
import Derived.Test.YtljaahemlcaffaaGreatK07
import Derived.Test.YtljaahemlcaffaaGreatK04
namespace Go.Proofs.YtljaahemlcaffaaGreat
open Go.RowKit Pz Sp
set_option linter.unusedVariables false
set_option linter.unusedSimpArgs false

namespace Sy
theorem sumH_take {l : List HK} (id : Int × Int × Int) {j : Nat} (hj : j < l.length) : sumH (l.take (j + 1)) id = if l[j].1 = id then sumH (l.take j) id + l[j].2 else sumH (l.take j) id := by
  rw [← List.take_append_getElem hj, sumH_app]
  by_cases h : l[j].1 = id
  · rw [if_pos h]
    simp [sumH, h]
  · rw [if_neg h]
    simp [sumH, h]
theorem sumH_bd (id : Int × Int × Int) : ∀ {l : List HK}, (∀ x ∈ l, 0 ≤ x.2 ∧ x.2 ≤ 1073741824) → 0 ≤ sumH l id ∧ sumH l id ≤ 1073741824 * l.length
  | [], _ => by simp [sumH_nil]
  | x :: l, h => by
    have ih := sumH_bd id (l := l) fun y hy => h y (List.mem_cons_of_mem _ hy)
    have hx := h x List.mem_cons_self
    have e : sumH (x :: l) id = (if x.1 = id then x.2 else 0) + sumH l id := by
      by_cases c : x.1 = id <;> simp [sumH, c]
    rw [e, List.length_cons]
    split <;> omega
theorem hits_bd {r : Int} {own others : List Bn} : ∀ x ∈ hits r own others, 0 ≤ x.2 ∧ x.2 ≤ 1073741824 := fun x hx => by
  obtain ⟨b, _, e⟩ := List.mem_filterMap.1 hx
  unfold hitOf at e
  split at e
  · rename_i c
    cases e
    exact ⟨Int.le_of_lt c.2, (takes_bd b r others _ (takes_bd b r own 0 (by decide))).2⟩
  · cases e
end Sy
end Go.Proofs.YtljaahemlcaffaaGreat
