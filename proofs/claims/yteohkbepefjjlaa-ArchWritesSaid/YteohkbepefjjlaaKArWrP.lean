/- What a write changes, over lists. Nothing of the program. -/
import Derived.Test.YteohkbepefjjlaaKArTabsP
namespace Go.Proofs.Yteohkbepefjjlaa
open Go Pz
set_option linter.unusedVariables false

namespace Ar
theorem cutL_mem {l : List Bn} {i j : Nat} {y : Bn} (hi : i < l.length) (hy : l[j]? = some y) (hne : j ≠ i) : y ∈ cutL l i := by
  have hj := (List.getElem?_eq_some_iff.1 hy).1
  by_cases hl : j + 1 < l.length
  · have := cutL_get (l := l) (i := i) hl
    rw [if_neg hne, hy] at this
    exact List.mem_of_getElem? this
  · have e : l.length - 1 = j := by omega
    have := cutL_get (l := l) (i := i) (j := i) (by omega)
    rw [if_pos rfl, e, hy] at this
    exact List.mem_of_getElem? this
theorem get_of_mem {t : Tb} (hg : Good t) {m : Nat} {y : Bn} (h : y ∈ t m) : ∃ i, find t y.id = some (m, i) ∧ (t m)[i]? = some y := by
  obtain ⟨i, hi⟩ := List.getElem?_of_mem h
  exact ⟨i, find_is hg hi, hi⟩
theorem write_eq {t : Tb} {b : Bn} {m i : Nat} (hb : may b = true) (hf : find t b.id = some (m, i)) : write t b = if (m : Int) = b.m then (up t m ((t m).set i b), 0) else (put0 (cut0 t m i) b, 0) := by
  unfold write
  rw [if_pos hb, hf]
theorem write_mem {t : Tb} {b : Bn} {m i : Nat} (hb : may b = true) (hf : find t b.id = some (m, i)) (hg : Good t) : (∃ M, b ∈ (write t b).1 M) ∧ ∀ y ∈ all t, y.id ≠ b.id → ∃ M, y ∈ (write t b).1 M := by
  obtain ⟨hm, x, hx, hid⟩ := find_at hf
  have hi := (List.getElem?_eq_some_iff.1 hx).1
  rw [write_eq hb hf]
  split
  · dsimp only
    refine ⟨⟨m, ?_⟩, fun y hy hne => ?_⟩
    · rw [up_same]
      exact List.mem_of_getElem? (List.getElem?_set_self hi)
    · obtain ⟨m', j, _, hj⟩ := all_mem hy
      refine ⟨m', ?_⟩
      by_cases hmm : m' = m
      · subst hmm
        have hji : i ≠ j := fun e => by subst e; rw [hx] at hj; cases hj; exact hne hid
        rw [up_same]
        exact List.mem_of_getElem? ((List.getElem?_set_ne hji).trans hj)
      · rw [up_ne _ _ hmm]
        exact List.mem_of_getElem? hj
  · rename_i hne0
    have hpm : ∀ {M : Nat} {y : Bn}, y ∈ cut0 t m i M → y ∈ put0 (cut0 t m i) b M := fun {M y} h => by
      unfold put0
      by_cases hM : M = b.m.toNat
      · subst hM
        rw [up_same]
        exact List.mem_append_left _ h
      · rw [up_ne _ _ hM]
        exact h
    dsimp only
    refine ⟨⟨b.m.toNat, ?_⟩, fun y hy hne => ?_⟩
    · unfold put0
      rw [up_same]
      exact List.mem_append_right _ (List.mem_singleton.2 rfl)
    · obtain ⟨m', j, _, hj⟩ := all_mem hy
      refine ⟨m', hpm ?_⟩
      unfold cut0
      by_cases hmm : m' = m
      · subst hmm
        have hji : j ≠ i := fun e => by subst e; rw [hx] at hj; cases hj; exact hne hid
        rw [up_same]
        exact cutL_mem hi hj hji
      · rw [up_ne _ _ hmm]
        exact List.mem_of_getElem? hj
theorem write_get {t : Tb} {b : Bn} {m i : Nat} (hb : may b = true) (hf : find t b.id = some (m, i)) (hg : Good t) {y : Bn} (hy : y ∈ all t) : ∃ M I, find (write t b).1 y.id = some (M, I) ∧ ((write t b).1 M)[I]? = some (if y.id = b.id then b else y) := by
  obtain ⟨⟨M, h1⟩, h2⟩ := write_mem hb hf hg
  by_cases e : y.id = b.id
  · obtain ⟨I, k1, k2⟩ := get_of_mem (hg.write b) h1
    exact ⟨M, I, by rw [e]; exact k1, by rw [if_pos e]; exact k2⟩
  · obtain ⟨M', h3⟩ := h2 y hy e
    obtain ⟨I, k1, k2⟩ := get_of_mem (hg.write b) h3
    exact ⟨M', I, k1, by rw [if_neg e]; exact k2⟩
theorem write_total {t : Tb} {b : Bn} {m i : Nat} (hb : may b = true) (hf : find t b.id = some (m, i)) : total (write t b).1 = total t := by
  obtain ⟨hm, x, hx, hid⟩ := find_at hf
  have hi := (List.getElem?_eq_some_iff.1 hx).1
  rw [write_eq hb hf]
  split
  · have := total_up t hm ((t m).set i b)
    rw [List.length_set] at this
    show total (up t m ((t m).set i b)) = _
    omega
  · have h1 := total_up t hm (cutL (t m) i)
    rw [cutL_len] at h1
    obtain ⟨k1, k2⟩ := may_mask hb
    have h2 := total_up (cut0 t m i) (m := b.m.toNat) (by omega) (cut0 t m i b.m.toNat ++ [b])
    rw [List.length_append] at h2
    simp only [List.length_singleton] at h2
    show total (up (cut0 t m i) b.m.toNat (cut0 t m i b.m.toNat ++ [b])) = _
    have h3 : total (cut0 t m i) = total (up t m (cutL (t m) i)) := rfl
    omega
theorem write_tabs {t : Tb} {b : Bn} {m i : Nat} (hb : may b = true) (hf : find t b.id = some (m, i)) (hm : (m : Int) = b.m) : tabs (write t b).1 = tabs t := by
  obtain ⟨_, x, hx, hid⟩ := find_at hf
  have hi := (List.getElem?_eq_some_iff.1 hx).1
  rw [write_eq hb hf, if_pos hm]
  show (List.range 32).filterMap (tabF (up t m ((t m).set i b))) = (List.range 32).filterMap (tabF t)
  refine congrArg (fun f => (List.range 32).filterMap f) (funext fun a => ?_)
  unfold tabF
  by_cases ha : a = m
  · subst ha
    rw [up_same]
    have e1 : ((t a).set i b).isEmpty = (t a).isEmpty := by
      cases h : t a with
      | nil => rfl
      | cons c r => cases i <;> rfl
    have e2 : ((t a).set i b).map Bn.id = (t a).map Bn.id := by
      rw [List.map_set, ← hid]
      refine List.ext_getElem? fun q => ?_
      by_cases hq : i = q
      · subst hq
        rw [List.getElem?_set_self (by simpa using hi), List.getElem?_map, hx]; rfl
      · rw [List.getElem?_set_ne hq]
    rw [e1, e2]
  · rw [up_ne _ _ ha]
end Ar
end Go.Proofs.Yteohkbepefjjlaa
