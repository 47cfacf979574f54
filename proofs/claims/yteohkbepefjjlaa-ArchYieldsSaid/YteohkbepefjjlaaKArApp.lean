/- A row of entities appended whole to a row that is none: a copy of one's own. -/
import Derived.Test.YteohkbepefjjlaaKArRef1
import Derived.Deep.Upon
namespace Go.Proofs.Yteohkbepefjjlaa
open Go.RowKit Pz Ar
set_option linter.unusedVariables false

theorem app_all {W : World} {B : Nat} {A : Option Addr} {c : Nat} {l : List Bn} (ho : OwnB W B (.slice A l.length c) l) (hl : l.length ≤ 1000000) (ty : TypeId) :
    ∃ v' w', (Builtin.append_ #[26, 26] ty #[.slice none 0 0, .slice A l.length c]).run Try.prog W = .ok v' w' ∧ OwnB w' W.heap.size v' l ∧ W.grownBy w' none := by
  by_cases h0 : 0 < l.length
  · obtain ⟨g, o, c', e, hB, hg, hc⟩ := ho.at_ (j := 0) (List.getElem?_eq_getElem h0)
    cases e
    obtain ⟨v', w', hr, ho', hgr, _⟩ := (rw_nil (enc := bnE) (T := 35) (s := 11) W W.heap.size).app (P := Try.prog) (t := 26) (ty := ty) Try.underlying26 bundle_info rfl (by decide) bnE_len bnE_one (Nat.le_refl _) l ⟨g, o, none⟩ c (fun j y hj c2 u hu => by
      obtain ⟨g2, o2, c3, e2, _, _, hc2⟩ := ho.at_ hj
      cases e2
      rw [Addr.add_mid]
      exact (hc2 c2 u hu).1) (by simpa using hl) (by decide) (.inl h0)
    exact ⟨v', w', hr, by simpa using ho', by simpa [Value.ownBlock] using hgr⟩
  · obtain rfl : l = [] := List.length_eq_zero_iff.1 (by omega)
    obtain ⟨i, hi, _, h2, _⟩ := info_parts (P := Try.prog) bundle_info
    have hs : Src Try.prog i.size 26 (.slice A 0 c) 0 [] W := by
      cases A with
      | none => exact Src.ofNil W Try.underlying26 c
      | some a => exact Src.ofSlice W Try.underlying26 a 0 c [] (by simp) (fun j u hj => by simp at hj) (by simp)
    exact ⟨_, W, run_append_nothing W _ _ ty _ i Try.underlying26 hi none 0 0 (Nat.le_refl _) _ hs, rw_nil _ _, World.grownBy.refl W _⟩
end Go.Proofs.Yteohkbepefjjlaa
