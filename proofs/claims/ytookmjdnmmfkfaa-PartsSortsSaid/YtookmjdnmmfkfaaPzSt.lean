/- Rows of entities in the order of their names, those of one name as they stood: there is just one such row. Nothing of the program. -/
import Derived.Test.YtookmjdnmmfkfaaPzRef7
namespace Go.Proofs.Ytookmjdnmmfkfaa
open Pz
set_option linter.unusedVariables false

namespace Pz
abbrev NK := Int × Int × Int
theorem before_iff (a b : NK) : before a b = true ↔ (a.1 < b.1 ∨ (a.1 = b.1 ∧ (a.2.1 < b.2.1 ∨ (a.2.1 = b.2.1 ∧ a.2.2 < b.2.2)))) := by
  unfold before
  split
  · rename_i h
    simp only [decide_eq_true_eq]
    constructor
    · exact fun h1 => .inl h1
    · rintro (h1 | ⟨h1, _⟩)
      · exact h1
      · exact absurd h1 h
  · rename_i h
    have h : a.1 = b.1 := Classical.not_not.1 h
    split
    · rename_i h2
      simp only [decide_eq_true_eq]
      constructor
      · exact fun h1 => .inr ⟨h, .inl h1⟩
      · rintro (h1 | ⟨_, h1 | ⟨h1, _⟩⟩)
        · omega
        · exact h1
        · exact absurd h1 h2
    · rename_i h2
      have h2 : a.2.1 = b.2.1 := Classical.not_not.1 h2
      simp only [decide_eq_true_eq]
      constructor
      · exact fun h1 => .inr ⟨h, .inr ⟨h2, h1⟩⟩
      · rintro (h1 | ⟨_, h1 | ⟨_, h1⟩⟩)
        · omega
        · omega
        · exact h1
theorem before_not (a b : NK) : before a b = false ↔ ¬ (a.1 < b.1 ∨ (a.1 = b.1 ∧ (a.2.1 < b.2.1 ∨ (a.2.1 = b.2.1 ∧ a.2.2 < b.2.2)))) := by
  rw [← before_iff, Bool.not_eq_true]
theorem before_irr (a : NK) : before a a = false := by
  rw [before_not]; omega
theorem before_asym {a b : NK} (h : before a b = true) : before b a = false := by
  rw [before_iff] at h
  rw [before_not]
  omega
theorem before_trans {a b c : NK} (h : before a b = true) (h2 : before b c = true) : before a c = true := by
  rw [before_iff] at h h2 ⊢
  omega
/-- 'not ahead of', twice -/
theorem le_trans' {a b c : NK} (h : before b a = false) (h2 : before c b = false) : before c a = false := by
  rw [before_not] at h h2 ⊢
  omega
theorem lt_le {a b c : NK} (h : before a b = true) (h2 : before c b = false) : before a c = true := by
  rw [before_iff] at h ⊢
  rw [before_not] at h2
  omega
theorem le_lt {a b c : NK} (h : before b a = false) (h2 : before b c = true) : before a c = true := by
  rw [before_not] at h
  rw [before_iff] at h2 ⊢
  omega
theorem same_of {a b : NK} (h : before b a = false) (h2 : before a b = false) : a = b := by
  rw [before_not] at h h2
  obtain ⟨a1, a2, a3⟩ := a
  obtain ⟨b1, b2, b3⟩ := b
  simp only at h h2
  have h3 : a1 = b1 := by omega
  subst h3
  have h4 : a2 = b2 := by omega
  subst h4
  have h5 : a3 = b3 := by omega
  rw [h5]
theorem ne_of_lt {a b : NK} (h : before a b = true) : a ≠ b := fun e => by
  rw [e, before_irr] at h
  cases h
/-- in the order of their names -/
def Srt (l : List Bn) : Prop := l.Pairwise fun a b => before b.id a.id = false
/-- those of one name -/
def flt (k : NK) (l : List Bn) : List Bn := l.filter fun b => decide (b.id = k)
/-- the same ones, those of one name in the same order -/
def Alike (l m : List Bn) : Prop := ∀ k, flt k l = flt k m
theorem flt_app (k : NK) (a b : List Bn) : flt k (a ++ b) = flt k a ++ flt k b := List.filter_append ..
theorem Alike.refl (l : List Bn) : Alike l l := fun _ => rfl
theorem Alike.symm {l m : List Bn} (h : Alike l m) : Alike m l := fun k => (h k).symm
theorem Alike.trans {l m n : List Bn} (h : Alike l m) (h2 : Alike m n) : Alike l n := fun k => (h k).trans (h2 k)
theorem Alike.app {a b c d : List Bn} (h : Alike a b) (h2 : Alike c d) : Alike (a ++ c) (b ++ d) := fun k => by rw [flt_app, flt_app, h k, h2 k]
theorem Alike.mem {l m : List Bn} (h : Alike l m) {x : Bn} (hx : x ∈ l) : x ∈ m := by
  have : x ∈ flt x.id l := List.mem_filter.2 ⟨hx, by simp⟩
  rw [h] at this
  exact (List.mem_filter.1 this).1
theorem flt_none {k : NK} {l : List Bn} (h : ∀ x ∈ l, x.id ≠ k) : flt k l = [] := by
  unfold flt
  rw [List.filter_eq_nil_iff]
  intro x hx
  simpa using h x hx
theorem Alike.swap {p q : List Bn} (h : ∀ x ∈ p, ∀ y ∈ q, x.id ≠ y.id) : Alike (p ++ q) (q ++ p) := fun k => by
  rw [flt_app, flt_app]
  by_cases hp : ∃ x ∈ p, x.id = k
  · obtain ⟨x, hx, rfl⟩ := hp
    have : flt x.id q = [] := flt_none fun y hy e => h x hx y hy e.symm
    rw [this, List.append_nil, List.nil_append]
  · have : flt k p = [] := flt_none fun x hx e => hp ⟨x, hx, e⟩
    rw [this, List.append_nil, List.nil_append]
theorem alike_nil {l : List Bn} (h : Alike [] l) : l = [] := by
  cases l with
  | nil => rfl
  | cons x r =>
    have := h.symm.mem (x := x) List.mem_cons_self
    cases this
theorem srt_app {a b : List Bn} : Srt (a ++ b) ↔ Srt a ∧ Srt b ∧ ∀ x ∈ a, ∀ y ∈ b, before y.id x.id = false := List.pairwise_append
theorem uniq : ∀ (l m : List Bn), Srt l → Srt m → Alike l m → l = m
  | [], m, _, _, h => (alike_nil h).symm
  | x :: r, [], _, _, h => alike_nil h.symm
  | x :: r, y :: s, h1, h2, h => by
    obtain ⟨p1, q1⟩ := List.pairwise_cons.1 h1
    obtain ⟨p2, q2⟩ := List.pairwise_cons.1 h2
    have hxy : before y.id x.id = false := by
      have : y ∈ x :: r := h.symm.mem List.mem_cons_self
      rcases List.mem_cons.1 this with e | hm
      · rw [e]; exact before_irr _
      · exact p1 y hm
    have hyx : before x.id y.id = false := by
      have : x ∈ y :: s := h.mem List.mem_cons_self
      rcases List.mem_cons.1 this with e | hm
      · rw [e]; exact before_irr _
      · exact p2 x hm
    have e := same_of hxy hyx
    have hk := h x.id
    unfold flt at hk
    rw [List.filter_cons_of_pos (by simp), List.filter_cons_of_pos (by simp [e])] at hk
    have exy : x = y := (List.cons.inj hk).1
    subst exy
    rw [uniq r s q1 q2 (fun k => by
      have hk := h k
      unfold flt at hk ⊢
      by_cases hx : x.id = k
      · rw [List.filter_cons_of_pos (by simpa using hx), List.filter_cons_of_pos (by simpa using hx)] at hk
        exact (List.cons.inj hk).2
      · rwa [List.filter_cons_of_neg (by simpa using hx), List.filter_cons_of_neg (by simpa using hx)] at hk)]
/-- an entity is put between those that it does not come ahead of and those that it comes ahead of -/
theorem srt_mid {a b : List Bn} {x : Bn} (h : Srt (a ++ b)) (h1 : ∀ y ∈ a, before x.id y.id = false) (h2 : ∀ y ∈ b, before x.id y.id = true) : Srt (a ++ x :: b) ∧ Alike (a ++ x :: b) ((a ++ b) ++ [x]) := by
  obtain ⟨ha, hb, hab⟩ := srt_app.1 h
  refine ⟨srt_app.2 ⟨ha, List.pairwise_cons.2 ⟨fun y hy => before_asym (h2 y hy), hb⟩, fun z hz y hy => ?_⟩, ?_⟩
  · rcases List.mem_cons.1 hy with rfl | hy
    · exact h1 z hz
    · exact hab z hz y hy
  · rw [List.append_assoc]
    refine Alike.app (Alike.refl a) ?_
    have := Alike.swap (p := [x]) (q := b) (fun u hu y hy => by
      rw [List.mem_singleton.1 hu]
      exact ne_of_lt (h2 y hy))
    exact this
theorem insK_hi (x : Bn) (out : List Bn) : ∀ k, k ≤ out.length → ∀ j y, insK x out k ≤ j → j < k → out[j]? = some y → before x.id y.id = true
  | 0, _, j, y, _, h, _ => by omega
  | k + 1, hk, j, y, h1, h2, hy => by
    have e : out[k]? = some out[k] := List.getElem?_eq_getElem (by omega)
    unfold insK at h1
    rw [e] at h1
    simp only at h1
    by_cases hb : before x.id out[k].id = true
    · rw [if_pos hb] at h1
      by_cases hj : j = k
      · subst hj
        rw [e] at hy
        rw [← Option.some.inj hy]
        exact hb
      · exact insK_hi x out k (by omega) j y h1 (by omega) hy
    · rw [if_neg hb] at h1
      omega
theorem insK_lo (x : Bn) (out : List Bn) : ∀ k, k ≤ out.length → insK x out k = 0 ∨ ∃ j y, insK x out k = j + 1 ∧ out[j]? = some y ∧ before x.id y.id = false
  | 0, _ => .inl rfl
  | k + 1, hk => by
    have e : out[k]? = some out[k] := List.getElem?_eq_getElem (by omega)
    unfold insK
    rw [e]
    simp only
    by_cases hb : before x.id out[k].id = true
    · rw [if_pos hb]
      exact insK_lo x out k (by omega)
    · rw [if_neg hb]
      exact .inr ⟨k, _, rfl, e, by simpa using hb⟩
theorem ins_srt (x : Bn) {out : List Bn} (h : Srt out) : Srt (ins x out) ∧ Alike (ins x out) (out ++ [x]) := by
  have hle := insK_le x out out.length
  have hsp : out = out.take (insK x out out.length) ++ out.drop (insK x out out.length) := (List.take_append_drop _ _).symm
  have h1 : ∀ y ∈ out.take (insK x out out.length), before x.id y.id = false := fun y hy => by
    rcases insK_lo x out out.length (Nat.le_refl _) with h0 | ⟨j, z, e, hz, hb⟩
    · rw [h0] at hy
      simp at hy
    · obtain ⟨i, hi⟩ := List.mem_iff_getElem?.1 hy
      rw [e, List.getElem?_take] at hi
      split at hi
      · rename_i hlt
        by_cases hij : i = j
        · subst hij
          rw [hz] at hi
          rw [← Option.some.inj hi]
          exact hb
        · have hz' := (List.getElem?_eq_some_iff.1 hz)
          have hi' := (List.getElem?_eq_some_iff.1 hi)
          obtain ⟨hzl, hze⟩ := hz'
          obtain ⟨hil, hie⟩ := hi'
          have := List.pairwise_iff_getElem.1 h i j hil hzl (by omega)
          rw [hze, hie] at this
          exact le_trans' this hb
      · cases hi
  have h2 : ∀ y ∈ out.drop (insK x out out.length), before x.id y.id = true := fun y hy => by
    obtain ⟨i, hi⟩ := List.mem_iff_getElem?.1 hy
    rw [List.getElem?_drop] at hi
    exact insK_hi x out out.length (Nat.le_refl _) _ y (by omega) (List.getElem?_eq_some_iff.1 hi).1 hi
  have := srt_mid (by rw [← hsp]; exact h) h1 h2
  unfold ins
  rw [← hsp] at this
  exact this
theorem sortL_go : ∀ (l out : List Bn), Srt out → Srt (l.foldl (fun o x => ins x o) out) ∧ Alike (l.foldl (fun o x => ins x o) out) (out ++ l)
  | [], out, h => ⟨h, by rw [List.append_nil]; exact Alike.refl _⟩
  | x :: r, out, h => by
    obtain ⟨h1, h2⟩ := ins_srt x h
    obtain ⟨h3, h4⟩ := sortL_go r _ h1
    refine ⟨h3, h4.trans ?_⟩
    have := Alike.app h2 (Alike.refl r)
    rwa [List.append_assoc] at this
theorem sortL_srt (l : List Bn) : Srt (sortL l) ∧ Alike (sortL l) l := sortL_go l [] List.Pairwise.nil
/-- there is just one -/
theorem sorted_is {l m : List Bn} (h : Srt m) (ha : Alike m l) : m = sortL l :=
  uniq _ _ h (sortL_srt l).1 (ha.trans (sortL_srt l).2.symm)
/-- two sorted rows of which the first one's tail and the second one's head are exchanged -/
theorem merge_parts {l1 l2 r1 r2 s1 s2 : List Bn} (hl : Srt (l1 ++ l2)) (hr : Srt (r1 ++ r2)) (h1 : ∀ x ∈ l1, ∀ y ∈ r2, before y.id x.id = false) (h2 : ∀ x ∈ l2, ∀ y ∈ r1, before y.id x.id = true)
    (hs1 : Srt s1) (ha1 : Alike s1 (l1 ++ r1)) (hs2 : Srt s2) (ha2 : Alike s2 (l2 ++ r2)) : Srt (s1 ++ s2) ∧ Alike (s1 ++ s2) ((l1 ++ l2) ++ (r1 ++ r2)) := by
  obtain ⟨_, _, hl3⟩ := srt_app.1 hl
  obtain ⟨_, _, hr3⟩ := srt_app.1 hr
  refine ⟨srt_app.2 ⟨hs1, hs2, fun x hx y hy => ?_⟩, ?_⟩
  · rcases List.mem_append.1 (ha1.mem hx) with hx | hx <;> rcases List.mem_append.1 (ha2.mem hy) with hy | hy
    · exact hl3 x hx y hy
    · exact h1 x hx y hy
    · exact before_asym (h2 y hy x hx)
    · exact hr3 x hx y hy
  · refine (Alike.app ha1 ha2).trans ?_
    have := Alike.app (Alike.app (Alike.refl l1) (Alike.swap (p := r1) (q := l2) (fun x hx y hy => ne_of_lt (h2 y hy x hx)))) (Alike.refl r2)
    simpa [List.append_assoc] using this
end Pz
end Go.Proofs.Ytookmjdnmmfkfaa
