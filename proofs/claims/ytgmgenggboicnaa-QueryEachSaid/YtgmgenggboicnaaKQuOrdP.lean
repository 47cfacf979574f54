/- Put in another order, with others that came and went: the same are there. -/
import Derived.Test.YtgmgenggboicnaaKQuE
import Derived.Test.YtgmgenggboicnaaKLaw
namespace Go.Proofs.Ytgmgenggboicnaa
open Go.RowKit Pz Ar
set_option linter.unusedVariables false
set_option linter.unusedSimpArgs false
namespace Ar
section
variable {t t' : Tb} {x y z : Bn} {l : List Bn}
theorem none_of (hg : Good t) {k : NK} (h : ∀ z ∈ all t, z.id ≠ k) : find t k = none := by
  cases hf : find t k with
  | none => rfl
  | some p =>
    obtain ⟨m, i⟩ := p
    obtain ⟨hm, b, hb, e⟩ := find_at hf
    exact absurd e (h b (mem_all hm (List.mem_of_getElem? hb)))
theorem none_all {k : NK} (h : find t k = none) (hz : z ∈ all t) : z.id ≠ k := by
  obtain ⟨m, i, hm, hi⟩ := all_mem hz
  exact find_none h m hm z (List.mem_of_getElem? hi)
theorem all_put (hm : may x = true) : z ∈ all (put0 t x) ↔ z ∈ all t ∨ z = x := by
  have h := may_mask hm
  constructor
  · intro hz
    obtain ⟨m, i, hm', hi⟩ := all_mem hz
    have hz' := List.mem_of_getElem? hi
    unfold put0 at hz'
    by_cases e : m = x.m.toNat
    · subst e
      rw [up_same] at hz'
      rcases List.mem_append.1 hz' with h1 | h1
      · exact .inl (mem_all hm' h1)
      · exact .inr (List.mem_singleton.1 h1)
    · rw [up_ne _ _ e] at hz'
      exact .inl (mem_all hm' hz')
  · intro hz
    rcases hz with hz | rfl
    · obtain ⟨m, i, hm', hi⟩ := all_mem hz
      refine mem_all hm' ?_
      unfold put0
      by_cases e : m = x.m.toNat
      · subst e; rw [up_same]; exact List.mem_append_left _ (List.mem_of_getElem? hi)
      · rw [up_ne _ _ e]; exact List.mem_of_getElem? hi
    · refine mem_all (m := z.m.toNat) (by omega) ?_
      unfold put0
      rw [up_same]
      exact List.mem_append_right _ (List.mem_singleton.2 rfl)
theorem all_cut (hg : Good t) {m i : Nat} (hm : m < 32) (hx : (t m)[i]? = some x) : z ∈ all (cut0 t m i) ↔ z ∈ all t ∧ z.id ≠ x.id := by
  have hlt := (List.getElem?_eq_some_iff.1 hx).1
  constructor
  · intro hz
    refine ⟨?_, none_all (cut_gone hg hx) hz⟩
    obtain ⟨a, j, ha, hj⟩ := all_mem hz
    unfold cut0 at hj
    by_cases e : a = m
    · subst e
      rw [up_same] at hj
      rcases (cutL_from hj).2 with ⟨_, h⟩ | ⟨_, h⟩ <;> exact mem_all ha (List.mem_of_getElem? h)
    · rw [up_ne _ _ e] at hj
      exact mem_all ha (List.mem_of_getElem? hj)
  · rintro ⟨hz, hne⟩
    obtain ⟨a, j, ha, hj⟩ := all_mem hz
    refine mem_all ha ?_
    unfold cut0
    by_cases e : a = m
    · subst e
      rw [up_same]
      have hji : j ≠ i := fun e => by subst e; rw [hx] at hj; injection hj with hj; exact hne (by rw [hj])
      have hjl := (List.getElem?_eq_some_iff.1 hj).1
      by_cases hjk : j + 1 < (t a).length
      · refine List.mem_of_getElem? (i := j) ?_
        rw [cutL_get hjk, if_neg hji]; exact hj
      · have : j = (t a).length - 1 := by omega
        subst this
        refine List.mem_of_getElem? (i := i) ?_
        rw [cutL_get (by omega), if_pos rfl]; exact hj
    · rw [up_ne _ _ e]; exact List.mem_of_getElem? hj
/-- just these are there -/
structure Mem (t : Tb) (l : List Bn) : Prop where
  good : Good t
  mem : ∀ z, z ∈ all t ↔ z ∈ l
  tot : total t = l.length
theorem Mem.none : Mem (fun _ => []) [] := ⟨good_none, fun z => ⟨fun h => by
  obtain ⟨m, i, _, hi⟩ := all_mem h
  simp at hi, fun h => by cases h⟩, total_none⟩
theorem Mem.len (h : Mem t l) (m : Nat) : (t m).length ≤ l.length := by
  by_cases hm : m < 32
  · rw [← h.tot]; exact len_total t hm
  · cases e : t m with
    | nil => simp
    | cons a r => exact absurd (h.good.lt (m := m) (b := a) (by rw [e]; exact List.mem_cons_self ..)) hm
theorem Mem.put (h : Mem t l) (hm : may x = true) (hn : ∀ z ∈ l, z.id ≠ x.id) : Ar.put t x = (put0 t x, 0) ∧ Mem (put0 t x) (x :: l) := by
  have hf : find t x.id = .none := none_of h.good fun z hz => hn z ((h.mem z).1 hz)
  refine ⟨by unfold Ar.put; rw [if_pos hm, hf]; rfl, put_good h.good hm hf, fun z => ?_, ?_⟩
  · rw [all_put hm, h.mem, List.mem_cons]; exact Or.comm
  · rw [total_put0 hm, h.tot, List.length_cons]
theorem Mem.more (h : Mem t l) (e : Ar.put t y = (put0 t y, 0)) (hm : may y = true) : (∀ z ∈ l, z.id ≠ y.id) ∧ Mem (put0 t y) (y :: l) := by
  have hf := put_ok e
  have hn : ∀ z ∈ l, z.id ≠ y.id := fun z hz => none_all hf ((h.mem z).2 hz)
  exact ⟨hn, (h.put hm hn).2⟩
theorem Mem.again (h : Mem t l) (hx : x ∈ l) : Ar.put t x = (t, 7) := by
  have hx' := (h.mem x).2 hx
  obtain ⟨m, i, _, hf, _, _⟩ := find_all h.good hx'
  unfold Ar.put
  rw [if_pos ((all_ok h.good).may x hx'), hf]
  rfl
theorem Mem.rem (h : Mem t (x :: y :: l)) (hxy : x.id ≠ y.id) (hy : ∀ z ∈ l, z.id ≠ y.id) : ∃ t', remove t y.id = (t', true) ∧ Mem t' (x :: l) := by
  obtain ⟨m, i, hm, hf, hi, _⟩ := find_all h.good ((h.mem y).2 (by simp))
  have hlt := (List.getElem?_eq_some_iff.1 hi).1
  refine ⟨_, remove_is hf, cut_good h.good hlt, fun z => ?_, ?_⟩
  · rw [all_cut h.good hm hi, h.mem]
    simp only [List.mem_cons]
    constructor
    · rintro ⟨rfl | rfl | h1, h2⟩
      · exact .inl rfl
      · exact absurd rfl h2
      · exact .inr h1
    · rintro (rfl | h1)
      · exact ⟨.inl rfl, hxy⟩
      · exact ⟨.inr (.inr h1), hy z h1⟩
  · have := total_cut (t := t) hm hlt
    have h2 := h.tot
    simp only [List.length_cons] at h2 ⊢
    omega
/-- a round: another of a later age comes, it itself, and the other goes -/
theorem Mem.round (h : Mem t l) (hm : may x = true) (hn : ∀ z ∈ l, z.id ≠ x.id) (y : Bn) (hy : y.id = x.id → y = x) :
    (y = x ∧ ∃ t1, Ar.put t y = (t1, 0) ∧ Ar.put t1 x = (t1, 7) ∧ Mem t1 (x :: l) ∧ ∀ m, (t1 m).length ≤ l.length + 1) ∨
    (y.id ≠ x.id ∧ ∃ t1 t2 t3, Ar.put t y = (t1, 0) ∧ Ar.put t1 x = (t2, 0) ∧ remove t2 y.id = (t3, true) ∧ Mem t3 (x :: l) ∧ ∀ m, (t1 m).length ≤ l.length + 1) ∨
    ∃ n t2, n ≠ 0 ∧ Ar.put t y = (t, n) ∧ Ar.put t x = (t2, 0) ∧ Mem t2 (x :: l) := by
  rcases put_cases t y with ⟨e, hmy⟩ | ⟨n, h0, e⟩
  · obtain ⟨hny, h1⟩ := h.more e hmy
    by_cases hyx : y.id = x.id
    · obtain rfl := hy hyx
      exact .inl ⟨rfl, _, e, h1.again (List.mem_cons_self ..), h1, fun m => h1.len m⟩
    · have h2 := h1.put hm (fun z hz => by
        rcases List.mem_cons.1 hz with rfl | hz
        · exact hyx
        · exact hn z hz)
      obtain ⟨t3, e3, h3⟩ := h2.2.rem (fun e => hyx e.symm) hny
      exact .inr (.inl ⟨hyx, _, _, t3, e, h2.1, e3, h3, fun m => h1.len m⟩)
  · obtain ⟨e2, h2⟩ := h.put hm hn
    exact .inr (.inr ⟨n, _, h0, e, e2, h2⟩)
end
end Ar
section
variable {w W V : World} {s : Nat} {t t' : Tb} {Φ Ψ : World → Prop}
theorem PX.put2 (h : PX w s t Φ W) (b : Bn) (hl : ∀ m, (t m).length + 1 ≤ 100000) {x : Int} (e : Ar.put t b = (t', x)) : Calls Try.prog 44 #[.pointer (some ⟨s, 0, none⟩), b.val] W fun e V => e = .returned (.int .i64 x) ∧ PX w s t' Φ V := by
  obtain ⟨h0, F, h1, h4, h5⟩ := h
  refine (cput_any h1 b hl).mono fun e' V ⟨e1, e2, e3⟩ => ?_
  rw [e] at e1 e2
  exact ⟨e1, PX.turn h0 h1 h4 h5 e2 e3⟩
end
end Go.Proofs.Ytgmgenggboicnaa
