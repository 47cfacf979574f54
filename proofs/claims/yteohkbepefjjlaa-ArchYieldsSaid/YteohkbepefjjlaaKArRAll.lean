/- The document's store: All, Copy. -/
import Derived.Test.YteohkbepefjjlaaKArCopy
namespace Go.Proofs.Yteohkbepefjjlaa
open Go.RowKit Pz Ar
set_option linter.unusedVariables false
set_option linter.unusedSimpArgs false

theorem sum_mono (f g : Nat → Nat) (h : ∀ a, f a ≤ g a) : ∀ l : List Nat, (l.map f).sum ≤ (l.map g).sum
  | [] => Nat.le_refl _
  | a :: l => by
    rw [List.map_cons, List.map_cons, List.sum_cons, List.sum_cons]
    have := h a
    have := sum_mono f g h l
    omega
theorem total_mono {s t : Tb} (h : ∀ a, (s a).length ≤ (t a).length) : total s ≤ total t := sum_mono _ _ h _
/-- a row appended whole to one's own -/
theorem app_more {W : World} {B B2 : Nat} {v : Value} {l r : List Bn} {A : Option Addr} {c : Nat} (h : OwnB W B v l) (hB : B ≤ W.heap.size) (hr : OwnB W B2 (.slice A r.length c) r) (hl : l.length + r.length ≤ 1000000) (ty : TypeId) :
    ∃ v' w', (Builtin.append_ #[26, 26] ty #[v, .slice A r.length c]).run Try.prog W = .ok v' w' ∧ OwnB w' B v' (l ++ r) ∧ W.grownBy w' v.ownBlock ∧ ∀ g, v.ownBlock = some g → B ≤ g := by
  by_cases h0 : 0 < r.length
  · obtain ⟨g, o, c', e, _, hg, hc⟩ := hr.at_ (j := 0) (List.getElem?_eq_getElem h0)
    cases e
    obtain ⟨v', w', hrun, ho, hgr, _⟩ := h.app (P := Try.prog) (t := 26) (ty := ty) Try.underlying26 bundle_info rfl (by decide) bnE_len bnE_one hB r ⟨g, o, none⟩ c (fun j y hj c2 u hu => by
      obtain ⟨g2, o2, c3, e2, _, _, hc2⟩ := hr.at_ hj
      cases e2
      rw [Addr.add_mid]
      exact (hc2 c2 u hu).1) hl (by decide) (.inl h0)
    exact ⟨v', w', hrun, ho, hgr, fun g e => (h.blk e).1⟩
  · obtain rfl : r = [] := List.length_eq_zero_iff.1 (by omega)
    obtain ⟨i, hi, _, h2, _⟩ := info_parts (P := Try.prog) bundle_info
    have hs : Src Try.prog i.size 26 (.slice A 0 c) 0 [] W := by
      cases A with
      | none => exact Src.ofNil W Try.underlying26 c
      | some a => exact Src.ofSlice W Try.underlying26 a 0 c [] (by simp) (fun j u hj => by simp at hj) (by simp)
    obtain ⟨A', c', rfl⟩ := h.form
    have hle : l.length ≤ c' := by
      rcases h with ⟨e, e2⟩ | ⟨_, _, _, _, e, _, _, e3, _⟩
      · subst e2
        have := congrArg (fun v => match v with | Value.slice _ _ c => c | _ => 0) e
        simp at this ⊢
      · cases e; exact e3
    exact ⟨_, W, run_append_nothing W _ _ ty _ i Try.underlying26 hi A' l.length c' hle _ hs, by simpa using h, World.grownBy.refl W _, fun g e => (h.blk e).1⟩
set_option maxHeartbeats 8000000 in
set_option maxRecDepth 100000 in
theorem rall_any {F : Foot} {p : Nat} {t : Tb} {w : World} (h : RS F p t w) (hl : total t ≤ 100000) : Calls Try.prog 34 #[.pointer (some ⟨p, 0, none⟩)] w fun e w' => ∃ A c, e = .returned (.slice A (all t).length c) ∧ OwnB w' w.heap.size (.slice A (all t).length c) (all t) ∧ Below w.heap.size w w' := by
  have HA : Hid (∀ W, Below w.heap.size w W → ∀ m, m < 32 → ∃ A c, W.cell? ⟨p, m, none⟩ = some (.slice A (t m).length c) ∧ OwnB W 0 (.slice A (t m).length c) (t m)) := Lib.hid fun W hW m hm => (h.below hW).at_ hm
  have HL : Hid (∀ m, m < 32 → ((List.range m).flatMap t).length + (t m).length ≤ 1000000) := Lib.hid fun m hm => by
    have h1 := total_all (upto t m (t m).length)
    rw [all_upto t (by omega), if_pos hm, List.length_append, List.take_length] at h1
    have h2 := total_mono (s := upto t m (t m).length) (t := t) (fun a => by unfold upto; split; exact Nat.le_refl _; split; (rename_i e; subst e; rw [List.length_take]; omega); simp)
    omega
  clear h
  go_enter Try.func34, Try.ntmps34
  go_wp2
  go_loopw [3, 4] (fun u ix wr => ∃ m : Nat, m ≤ 32 ∧ ix = .int .i64 m ∧ Hid (OwnB wr w.heap.size u ((List.range m).flatMap t)) ∧ Hid (Below w.heap.size w wr)) (fun u ix _ => 32 - (intOf ix).toNat)
  case atStart => exact ⟨0, Nat.zero_le _, rfl, Lib.hid (.inl ⟨rfl, rfl⟩), Lib.hid (Below.refl _ _)⟩
  case round =>
    obtain ⟨m, hm, rfl, HO, HB⟩ := hrel
    by_cases hml : m < 32
    · have t1 : (m : Int) < 32 := by omega
      obtain ⟨A, c, hc, ho⟩ := HA.out wr HB.out m hml
      obtain ⟨Au, cu, hu⟩ := HO.out.form
      obtain ⟨v', w', hr, ho', hg, hf⟩ := app_more HO.out HB.out.size ho (HL.out m hml) 26
      generalize ((List.range m).flatMap t).length = n0 at hu
      have HV : Hid (OwnB w' w.heap.size v' ((List.range (m + 1)).flatMap t)) := Lib.hid (by rw [← flat_next, List.take_length]; exact ho')
      have HN := Lib.hid (below_row HB.out hg HB.out.size hf)
      have HR := Lib.hid hr
      clear ho hr ho' hg hf HO
      subst hu
      go_wp2_with (at_builtin; refine wpList_append _ rfl (.tmp 9) (.tmp 15) _ _ rfl _ _ rfl rfl _ _ HR.out ?_)
      go_roundw
      case rel => exact ⟨m + 1, by omega, by go_num, HV, HN⟩
      case measure => simp [intOf]; omega
    · obtain rfl : m = 32 := by omega
      have t1 : ¬ (32 : Int) < 32 := by omega
      have HO2 : OwnB wr w.heap.size _ (all t) := HO.out
      clear HO
      obtain ⟨Au, cu, hu⟩ := HO2.form
      subst hu
      replace HO2 := Lib.hid HO2
      go_wp2
      go_ret
      exact ⟨Au, cu, rfl, HO2.out, HB.out⟩
end Go.Proofs.Yteohkbepefjjlaa
