/- Tables over lists: in what order, how many rows, which entities. Nothing of the program. -/
import Derived.Test.YteohkbepefjjlaaKAPu
namespace Go.Proofs.Yteohkbepefjjlaa
open Go Pz
set_option linter.unusedVariables false

namespace Ar
abbrev tabF (t : Tb) (m : Nat) : Option (Nat × List NK) := if (t m).isEmpty then none else some (m, (t m).map Bn.id)
theorem tabF_some {t : Tb} {m : Nat} {y : Nat × List NK} (h : tabF t m = some y) : y = (m, (t m).map Bn.id) ∧ 0 < (t m).length := by
  unfold tabF at h
  split at h
  · cases h
  · rename_i hn
    cases h
    exact ⟨rfl, Nat.pos_of_ne_zero fun e => hn (by rw [List.length_eq_zero_iff.1 e]; rfl)⟩
theorem tabs_at {t : Tb} {j m : Nat} {ks : List NK} (h : (tabs t)[j]? = some (m, ks)) : m < 32 ∧ ks = (t m).map Bn.id ∧ 0 < (t m).length := by
  obtain ⟨a, ha, he⟩ := List.mem_filterMap.1 (List.mem_of_getElem? h)
  obtain ⟨e, hl⟩ := tabF_some he
  cases e
  exact ⟨List.mem_range.1 ha, rfl, hl⟩
theorem tabs_pair (t : Tb) : (tabs t).Pairwise fun x y => x.1 < y.1 := by
  refine List.Pairwise.filterMap (tabF t) (fun a a' h b hb b' hb' => ?_) List.pairwise_lt_range
  obtain ⟨rfl, _⟩ := tabF_some hb
  obtain ⟨rfl, _⟩ := tabF_some hb'
  exact h
theorem tabs_lt {t : Tb} {i j : Nat} (hij : i < j) {x y : Nat × List NK} (hx : (tabs t)[i]? = some x) (hy : (tabs t)[j]? = some y) : x.1 < y.1 := by
  obtain ⟨h1, rfl⟩ := List.getElem?_eq_some_iff.1 hx
  obtain ⟨h2, rfl⟩ := List.getElem?_eq_some_iff.1 hy
  exact List.pairwise_iff_getElem.1 (tabs_pair t) i j h1 h2 hij
theorem flat_tabs (t : Tb) : ∀ ms : List Nat, (ms.filterMap (tabF t)).flatMap (fun y => t y.1) = ms.flatMap t
  | [] => rfl
  | m :: ms => by
    rw [List.filterMap_cons, List.flatMap_cons, ← flat_tabs t ms]
    cases h : tabF t m with
    | none =>
      have : t m = [] := by
        unfold tabF at h
        split at h
        · rename_i he; exact List.isEmpty_iff.1 he
        · cases h
      rw [this]; rfl
    | some y =>
      obtain ⟨rfl, _⟩ := tabF_some h
      rw [List.flatMap_cons]
theorem tabs_flat (t : Tb) : (tabs t).flatMap (fun y => t y.1) = all t := flat_tabs t _
/-- how many rows the first so many tables have -/
def rowsTo (t : Tb) (j : Nat) : Nat := (((tabs t).take j).flatMap fun y => t y.1).length
theorem rowsTo_succ {t : Tb} {j m : Nat} {ks : List NK} (h : (tabs t)[j]? = some (m, ks)) : rowsTo t (j + 1) = rowsTo t j + (t m).length := by
  unfold rowsTo
  rw [List.take_add_one, h, List.flatMap_append, List.length_append]
  simp
theorem rowsTo_all (t : Tb) : rowsTo t (tabs t).length = total t := by
  unfold rowsTo
  rw [List.take_length, tabs_flat, total_all]
theorem rowsTo_le (t : Tb) (j : Nat) : rowsTo t j ≤ total t := by
  rw [← rowsTo_all t]
  unfold rowsTo
  rw [List.take_length]
  have h := List.take_append_drop j (tabs t)
  conv => rhs; rw [← h]
  rw [List.flatMap_append, List.length_append]
  omega
end Ar
end Go.Proofs.Yteohkbepefjjlaa
