/- SoPure, SoRow, SoRef, SoCode6, SoCmp, in one text. -/
import Derived.Test.YtgmgenggboicnaaKPz
import Derived.Test.YtgmgenggboicnaaKBase
import Derived.Deep.DeepCutAuto
import Derived.Test.YtgmgenggboicnaaKPc
import Derived.BigQuiet
import Derived.Shelf.Abstract
namespace Go.Proofs.Ytgmgenggboicnaa
open Pz
set_option linter.unusedVariables false

namespace Pz
abbrev K3 := Int × Int × Int
variable {κ : Bn → K3}
/-- behind all that x does not come ahead of, from place k down -/
def insK (κ : Bn → K3) (x : Bn) (out : List Bn) : Nat → Nat
  | 0 => 0
  | k + 1 => match out[k]? with
    | some y => if before (κ x) (κ y) then insK κ x out k else k + 1
    | none => k + 1
def ins (κ : Bn → K3) (x : Bn) (out : List Bn) : List Bn := out.take (insK κ x out out.length) ++ x :: out.drop (insK κ x out out.length)
def sortL (κ : Bn → K3) (l : List Bn) : List Bn := l.foldl (fun out x => ins κ x out) []
def sortP (κ : Bn → K3) (l : List Bn) (i : Nat) : List Bn := sortL κ (l.take i)
theorem insK_le (x : Bn) (out : List Bn) : ∀ k, insK κ x out k ≤ k
  | 0 => Nat.le_refl _
  | k + 1 => by
    unfold insK
    split
    · split
      · have := insK_le x out k; omega
      · exact Nat.le_refl _
    · exact Nat.le_refl _
theorem ins_len (x : Bn) (out : List Bn) : (ins κ x out).length = out.length + 1 := by
  have := insK_le (κ := κ) x out out.length
  unfold ins
  simp only [List.length_append, List.length_take, List.length_cons, List.length_drop]
  omega
theorem sortP_zero (l : List Bn) : sortP κ l 0 = [] := by simp [sortP, sortL]
theorem sortP_succ {l : List Bn} {i : Nat} (hi : i < l.length) : sortP κ l (i + 1) = ins κ l[i] (sortP κ l i) := by
  unfold sortP sortL
  rw [List.take_succ_eq_append_getElem hi, List.foldl_append]
  rfl
theorem sortP_len (l : List Bn) : ∀ i, i ≤ l.length → (sortP κ l i).length = i
  | 0, _ => by rw [sortP_zero]; rfl
  | i + 1, h => by rw [sortP_succ (κ := κ) (by omega), ins_len, sortP_len l i (by omega)]
theorem sortP_all (l : List Bn) : sortP κ l l.length = sortL κ l := by unfold sortP; rw [List.take_length]
/-- out with a hole at k -/
structure Hole (κ : Bn → K3) (x : Bn) (out R : List Bn) (k : Nat) : Prop where
  len : R.length = out.length + 1
  le : k ≤ out.length
  lo : ∀ j, j < k → R[j]? = out[j]?
  hi : ∀ j, k < j → j ≤ out.length → R[j]? = out[j - 1]?
  at_ : insK κ x out out.length = insK κ x out k
theorem Hole.start (x : Bn) (out : List Bn) : Hole κ x out (out ++ [x]) out.length :=
  ⟨by simp, Nat.le_refl _, fun j hj => List.getElem?_append_left hj, fun j h1 h2 => by omega, rfl⟩
theorem Hole.down {x : Bn} {out R : List Bn} {k : Nat} (h : Hole κ x out R (k + 1)) {y : Bn} (hy : R[k]? = some y) (hb : before (κ x) (κ y) = true) : Hole κ x out (R.set (k + 1) y) k := by
  have hk := h.le
  have hl := h.len
  have hyo : out[k]? = some y := by rw [← h.lo k (by omega)]; exact hy
  refine ⟨by rw [List.length_set]; exact h.len, by omega, fun j hj => ?_, fun j h1 h2 => ?_, ?_⟩
  · rw [List.getElem?_set_ne (by omega)]
    exact h.lo j (by omega)
  · by_cases e : j = k + 1
    · subst e
      rw [List.getElem?_set_self (by omega)]
      exact hyo.symm
    · rw [List.getElem?_set_ne (by omega)]
      exact h.hi j (by omega) h2
  · rw [h.at_]
    show (match out[k]? with | some y => if before (κ x) (κ y) then insK κ x out k else k + 1 | none => k + 1) = _
    rw [hyo]
    show (if before (κ x) (κ y) then insK κ x out k else k + 1) = _
    rw [hb]
    rfl
theorem Hole.fin {x : Bn} {out R : List Bn} {k : Nat} (h : Hole κ x out R k) (hk : insK κ x out k = k) : R.set k x = ins κ x out := by
  have hle := h.le
  have hlen := h.len
  unfold ins
  rw [h.at_, hk]
  apply List.ext_getElem?
  intro j
  by_cases h1 : j < k
  · rw [List.getElem?_set_ne (by omega), h.lo j h1, List.getElem?_append_left (by rw [List.length_take]; omega), List.getElem?_take, if_pos h1]
  · rw [List.getElem?_append_right (by rw [List.length_take]; omega), List.length_take, Nat.min_eq_left hle]
    by_cases h2 : j = k
    · subst h2
      rw [List.getElem?_set_self (by omega), Nat.sub_self]
      rfl
    · rw [List.getElem?_set_ne (by omega)]
      obtain ⟨m, hm⟩ : ∃ m, j - k = m + 1 := ⟨j - k - 1, by omega⟩
      rw [hm, List.getElem?_cons_succ, List.getElem?_drop]
      by_cases h3 : j ≤ out.length
      · rw [h.hi j (by omega) h3]
        congr 1
        omega
      · rw [List.getElem?_eq_none (by omega), List.getElem?_eq_none (by omega)]
theorem Hole.stop {x : Bn} {out R : List Bn} {k : Nat} (h : Hole κ x out R (k + 1)) {y : Bn} (hy : R[k]? = some y) (hb : before (κ x) (κ y) = false) : insK κ x out (k + 1) = k + 1 := by
  have hyo : out[k]? = some y := by rw [← h.lo k (by omega)]; exact hy
  show (match out[k]? with | some y => if before (κ x) (κ y) then insK κ x out k else k + 1 | none => k + 1) = _
  rw [hyo]
  show (if before (κ x) (κ y) then insK κ x out k else k + 1) = _
  rw [hb]
  rfl
theorem before_iff (a b : K3) : before a b = true ↔ (a.1 < b.1 ∨ (a.1 = b.1 ∧ (a.2.1 < b.2.1 ∨ (a.2.1 = b.2.1 ∧ a.2.2 < b.2.2)))) := by
  unfold before
  split
  · rename_i h
    simp only [decide_eq_true_eq]
    constructor
    · exact fun h1 => .inl h1
    · rintro (h1 | ⟨h1, _⟩)
      · exact h1
      · exact absurd h1 h
  · rename_i h
    have h : a.1 = b.1 := Classical.not_not.1 h
    split
    · rename_i h2
      simp only [decide_eq_true_eq]
      constructor
      · exact fun h1 => .inr ⟨h, .inl h1⟩
      · rintro (h1 | ⟨_, h1 | ⟨h1, _⟩⟩)
        · omega
        · exact h1
        · exact absurd h1 h2
    · rename_i h2
      have h2 : a.2.1 = b.2.1 := Classical.not_not.1 h2
      simp only [decide_eq_true_eq]
      constructor
      · exact fun h1 => .inr ⟨h, .inr ⟨h2, h1⟩⟩
      · rintro (h1 | ⟨_, h1 | ⟨_, h1⟩⟩)
        · omega
        · omega
        · exact h1
theorem before_not (a b : K3) : before a b = false ↔ ¬ (a.1 < b.1 ∨ (a.1 = b.1 ∧ (a.2.1 < b.2.1 ∨ (a.2.1 = b.2.1 ∧ a.2.2 < b.2.2)))) := by
  rw [← before_iff, Bool.not_eq_true]
theorem before_irr (a : K3) : before a a = false := by
  rw [before_not]; omega
theorem before_asym {a b : K3} (h : before a b = true) : before b a = false := by
  rw [before_iff] at h
  rw [before_not]
  omega
theorem before_trans {a b c : K3} (h : before a b = true) (h2 : before b c = true) : before a c = true := by
  rw [before_iff] at h h2 ⊢
  omega
/-- 'not ahead of', twice -/
theorem le_trans' {a b c : K3} (h : before b a = false) (h2 : before c b = false) : before c a = false := by
  rw [before_not] at h h2 ⊢
  omega
theorem lt_le {a b c : K3} (h : before a b = true) (h2 : before c b = false) : before a c = true := by
  rw [before_iff] at h ⊢
  rw [before_not] at h2
  omega
theorem le_lt {a b c : K3} (h : before b a = false) (h2 : before b c = true) : before a c = true := by
  rw [before_not] at h
  rw [before_iff] at h2 ⊢
  omega
theorem same_of {a b : K3} (h : before b a = false) (h2 : before a b = false) : a = b := by
  rw [before_not] at h h2
  obtain ⟨a1, a2, a3⟩ := a
  obtain ⟨b1, b2, b3⟩ := b
  simp only at h h2
  have h3 : a1 = b1 := by omega
  subst h3
  have h4 : a2 = b2 := by omega
  subst h4
  have h5 : a3 = b3 := by omega
  rw [h5]
theorem ne_of_lt {a b : K3} (h : before a b = true) : a ≠ b := fun e => by
  rw [e, before_irr] at h
  cases h
/-- in the order of their names -/
def Srt (κ : Bn → K3) (l : List Bn) : Prop := l.Pairwise fun a b => before (κ b) (κ a) = false
/-- those of one name -/
def flt (κ : Bn → K3) (k : K3) (l : List Bn) : List Bn := l.filter fun b => decide ((κ b) = k)
/-- the same ones, those of one name in the same order -/
def Alike (κ : Bn → K3) (l m : List Bn) : Prop := ∀ k, flt κ k l = flt κ k m
theorem flt_app (k : K3) (a b : List Bn) : flt κ k (a ++ b) = flt κ k a ++ flt κ k b := List.filter_append ..
theorem Alike.refl (l : List Bn) : Alike κ l l := fun _ => rfl
theorem Alike.symm {l m : List Bn} (h : Alike κ l m) : Alike κ m l := fun k => (h k).symm
theorem Alike.trans {l m n : List Bn} (h : Alike κ l m) (h2 : Alike κ m n) : Alike κ l n := fun k => (h k).trans (h2 k)
theorem Alike.app {a b c d : List Bn} (h : Alike κ a b) (h2 : Alike κ c d) : Alike κ (a ++ c) (b ++ d) := fun k => by rw [flt_app, flt_app, h k, h2 k]
theorem Alike.mem {l m : List Bn} (h : Alike κ l m) {x : Bn} (hx : x ∈ l) : x ∈ m := by
  have : x ∈ flt κ (κ x) l := List.mem_filter.2 ⟨hx, by simp⟩
  rw [h] at this
  exact (List.mem_filter.1 this).1
theorem flt_none {k : K3} {l : List Bn} (h : ∀ x ∈ l, (κ x) ≠ k) : flt κ k l = [] := by
  unfold flt
  rw [List.filter_eq_nil_iff]
  intro x hx
  simpa using h x hx
theorem Alike.swap {p q : List Bn} (h : ∀ x ∈ p, ∀ y ∈ q, (κ x) ≠ (κ y)) : Alike κ (p ++ q) (q ++ p) := fun k => by
  rw [flt_app, flt_app]
  by_cases hp : ∃ x ∈ p, (κ x) = k
  · obtain ⟨x, hx, rfl⟩ := hp
    have : flt κ (κ x) q = [] := flt_none fun y hy e => h x hx y hy e.symm
    rw [this, List.append_nil, List.nil_append]
  · have : flt κ k p = [] := flt_none fun x hx e => hp ⟨x, hx, e⟩
    rw [this, List.append_nil, List.nil_append]
theorem alike_nil {l : List Bn} (h : Alike κ [] l) : l = [] := by
  cases l with
  | nil => rfl
  | cons x r =>
    have := h.symm.mem (x := x) List.mem_cons_self
    cases this
theorem srt_app {a b : List Bn} : Srt κ (a ++ b) ↔ Srt κ a ∧ Srt κ b ∧ ∀ x ∈ a, ∀ y ∈ b, before (κ y) (κ x) = false := List.pairwise_append
theorem uniq : ∀ (l m : List Bn), Srt κ l → Srt κ m → Alike κ l m → l = m
  | [], m, _, _, h => (alike_nil h).symm
  | x :: r, [], _, _, h => alike_nil h.symm
  | x :: r, y :: s, h1, h2, h => by
    obtain ⟨p1, q1⟩ := List.pairwise_cons.1 h1
    obtain ⟨p2, q2⟩ := List.pairwise_cons.1 h2
    have hxy : before (κ y) (κ x) = false := by
      have : y ∈ x :: r := h.symm.mem List.mem_cons_self
      rcases List.mem_cons.1 this with e | hm
      · rw [e]; exact before_irr _
      · exact p1 y hm
    have hyx : before (κ x) (κ y) = false := by
      have : x ∈ y :: s := h.mem List.mem_cons_self
      rcases List.mem_cons.1 this with e | hm
      · rw [e]; exact before_irr _
      · exact p2 x hm
    have e := same_of hxy hyx
    have hk := h (κ x)
    unfold flt at hk
    rw [List.filter_cons_of_pos (by simp), List.filter_cons_of_pos (by simp [e])] at hk
    have exy : x = y := (List.cons.inj hk).1
    subst exy
    rw [uniq r s q1 q2 (fun k => by
      have hk := h k
      unfold flt at hk ⊢
      by_cases hx : (κ x) = k
      · rw [List.filter_cons_of_pos (by simpa using hx), List.filter_cons_of_pos (by simpa using hx)] at hk
        exact (List.cons.inj hk).2
      · rwa [List.filter_cons_of_neg (by simpa using hx), List.filter_cons_of_neg (by simpa using hx)] at hk)]
/-- an entity is put between those that it does not come ahead of and those that it comes ahead of -/
theorem srt_mid {a b : List Bn} {x : Bn} (h : Srt κ (a ++ b)) (h1 : ∀ y ∈ a, before (κ x) (κ y) = false) (h2 : ∀ y ∈ b, before (κ x) (κ y) = true) : Srt κ (a ++ x :: b) ∧ Alike κ (a ++ x :: b) ((a ++ b) ++ [x]) := by
  obtain ⟨ha, hb, hab⟩ := srt_app.1 h
  refine ⟨srt_app.2 ⟨ha, List.pairwise_cons.2 ⟨fun y hy => before_asym (h2 y hy), hb⟩, fun z hz y hy => ?_⟩, ?_⟩
  · rcases List.mem_cons.1 hy with rfl | hy
    · exact h1 z hz
    · exact hab z hz y hy
  · rw [List.append_assoc]
    refine Alike.app (Alike.refl a) ?_
    have := Alike.swap (p := [x]) (q := b) (fun u hu y hy => by
      rw [List.mem_singleton.1 hu]
      exact ne_of_lt (h2 y hy))
    exact this
theorem insK_hi (x : Bn) (out : List Bn) : ∀ k, k ≤ out.length → ∀ j y, insK κ x out k ≤ j → j < k → out[j]? = some y → before (κ x) (κ y) = true
  | 0, _, j, y, _, h, _ => by omega
  | k + 1, hk, j, y, h1, h2, hy => by
    have e : out[k]? = some out[k] := List.getElem?_eq_getElem (by omega)
    unfold insK at h1
    rw [e] at h1
    simp only at h1
    by_cases hb : before (κ x) (κ out[k]) = true
    · rw [if_pos hb] at h1
      by_cases hj : j = k
      · subst hj
        rw [e] at hy
        rw [← Option.some.inj hy]
        exact hb
      · exact insK_hi x out k (by omega) j y h1 (by omega) hy
    · rw [if_neg hb] at h1
      omega
theorem insK_lo (x : Bn) (out : List Bn) : ∀ k, k ≤ out.length → insK κ x out k = 0 ∨ ∃ j y, insK κ x out k = j + 1 ∧ out[j]? = some y ∧ before (κ x) (κ y) = false
  | 0, _ => .inl rfl
  | k + 1, hk => by
    have e : out[k]? = some out[k] := List.getElem?_eq_getElem (by omega)
    unfold insK
    rw [e]
    simp only
    by_cases hb : before (κ x) (κ out[k]) = true
    · rw [if_pos hb]
      exact insK_lo x out k (by omega)
    · rw [if_neg hb]
      exact .inr ⟨k, _, rfl, e, by simpa using hb⟩
theorem ins_srt (x : Bn) {out : List Bn} (h : Srt κ out) : Srt κ (ins κ x out) ∧ Alike κ (ins κ x out) (out ++ [x]) := by
  have hle := insK_le (κ := κ) x out out.length
  have hsp : out = out.take (insK κ x out out.length) ++ out.drop (insK κ x out out.length) := (List.take_append_drop _ _).symm
  have h1 : ∀ y ∈ out.take (insK κ x out out.length), before (κ x) (κ y) = false := fun y hy => by
    rcases insK_lo (κ := κ) x out out.length (Nat.le_refl _) with h0 | ⟨j, z, e, hz, hb⟩
    · rw [h0] at hy
      simp at hy
    · obtain ⟨i, hi⟩ := List.mem_iff_getElem?.1 hy
      rw [e, List.getElem?_take] at hi
      split at hi
      · rename_i hlt
        by_cases hij : i = j
        · subst hij
          rw [hz] at hi
          rw [← Option.some.inj hi]
          exact hb
        · have hz' := (List.getElem?_eq_some_iff.1 hz)
          have hi' := (List.getElem?_eq_some_iff.1 hi)
          obtain ⟨hzl, hze⟩ := hz'
          obtain ⟨hil, hie⟩ := hi'
          have := List.pairwise_iff_getElem.1 h i j hil hzl (by omega)
          rw [hze, hie] at this
          exact le_trans' this hb
      · cases hi
  have h2 : ∀ y ∈ out.drop (insK κ x out out.length), before (κ x) (κ y) = true := fun y hy => by
    obtain ⟨i, hi⟩ := List.mem_iff_getElem?.1 hy
    rw [List.getElem?_drop] at hi
    exact insK_hi (κ := κ) x out out.length (Nat.le_refl _) _ y (by omega) (List.getElem?_eq_some_iff.1 hi).1 hi
  have := srt_mid (by rw [← hsp]; exact h) h1 h2
  unfold ins
  rw [← hsp] at this
  exact this
theorem sortL_go : ∀ (l out : List Bn), Srt κ out → Srt κ (l.foldl (fun o x => ins κ x o) out) ∧ Alike κ (l.foldl (fun o x => ins κ x o) out) (out ++ l)
  | [], out, h => ⟨h, by rw [List.append_nil]; exact Alike.refl _⟩
  | x :: r, out, h => by
    obtain ⟨h1, h2⟩ := ins_srt (κ := κ) x h
    obtain ⟨h3, h4⟩ := sortL_go r _ h1
    refine ⟨h3, h4.trans ?_⟩
    have := Alike.app h2 (Alike.refl r)
    rwa [List.append_assoc] at this
theorem sortL_srt (l : List Bn) : Srt κ (sortL κ l) ∧ Alike κ (sortL κ l) l := sortL_go (κ := κ) l [] List.Pairwise.nil
/-- there is just one -/
theorem sorted_is {l m : List Bn} (h : Srt κ m) (ha : Alike κ m l) : m = sortL κ l :=
  uniq _ _ h (sortL_srt (κ := κ) l).1 (ha.trans (sortL_srt (κ := κ) l).2.symm)
/-- two sorted rows of which the first one's tail and the second one's head are exchanged -/
theorem merge_parts {l1 l2 r1 r2 s1 s2 : List Bn} (hl : Srt κ (l1 ++ l2)) (hr : Srt κ (r1 ++ r2)) (h1 : ∀ x ∈ l1, ∀ y ∈ r2, before (κ y) (κ x) = false) (h2 : ∀ x ∈ l2, ∀ y ∈ r1, before (κ y) (κ x) = true)
    (hs1 : Srt κ s1) (ha1 : Alike κ s1 (l1 ++ r1)) (hs2 : Srt κ s2) (ha2 : Alike κ s2 (l2 ++ r2)) : Srt κ (s1 ++ s2) ∧ Alike κ (s1 ++ s2) ((l1 ++ l2) ++ (r1 ++ r2)) := by
  obtain ⟨_, _, hl3⟩ := srt_app.1 hl
  obtain ⟨_, _, hr3⟩ := srt_app.1 hr
  refine ⟨srt_app.2 ⟨hs1, hs2, fun x hx y hy => ?_⟩, ?_⟩
  · rcases List.mem_append.1 (ha1.mem hx) with hx | hx <;> rcases List.mem_append.1 (ha2.mem hy) with hy | hy
    · exact hl3 x hx y hy
    · exact h1 x hx y hy
    · exact before_asym (h2 y hy x hx)
    · exact hr3 x hx y hy
  · refine (Alike.app ha1 ha2).trans ?_
    have := Alike.app (Alike.app (Alike.refl l1) (Alike.swap (p := r1) (q := l2) (fun x hx y hy => ne_of_lt (h2 y hy x hx)))) (Alike.refl r2)
    simpa [List.append_assoc] using this
end Pz
end Go.Proofs.Ytgmgenggboicnaa
namespace Go.Proofs.Ytgmgenggboicnaa
open Go.RowKit Pz
set_option linter.unusedVariables false

theorem lat_below {W : World} (p : Lat grows W) : Below W.heap.size W p.W := p.h
theorem push_bn (W : World) {B : Nat} {v : Value} {l : List Bn} (h : OwnB W B v l) (hB : B ≤ W.heap.size) (hl : l.length ≤ 10000) (x : Bn) (ty : TypeId) :
    ∃ v' w', (Builtin.append_ #[42, 42] ty #[v, .slice (some ⟨W.heap.size, 0, none⟩) 1 1]).run Try.prog (W.alloc (.cells #[.int .i64 x.s, .int .i64 x.i, .int .i64 x.g, .int .i64 x.m, .int .i64 x.x, .int .i64 x.y, .int .i64 x.vx, .int .i64 x.vy, .int .i64 x.h, .int .i64 x.p, .int .i64 x.l] 33)) = .ok v' w' ∧
      OwnB w' B v' (l ++ [x]) ∧ Below B W w' := by
  have h' : OwnB (W.alloc (.cells #[.int .i64 x.s, .int .i64 x.i, .int .i64 x.g, .int .i64 x.m, .int .i64 x.x, .int .i64 x.y, .int .i64 x.vx, .int .i64 x.vy, .int .i64 x.h, .int .i64 x.p, .int .i64 x.l] 33)) B v l := h.below (bel1 W _)
  obtain ⟨v', w', hr, ho, hg, hb⟩ := h'.app (P := Try.prog) (t := 42) (ty := ty) Try.underlying42 bundle_info rfl (by decide) bnE_len bnE_one (by rw [size1]; omega) [x] ⟨W.heap.size, 0, none⟩ 1 (fun j y hj => by
    match j, hj with
    | 0, hj =>
      simp only [List.getElem?_cons_zero, Option.some.injEq] at hj
      subst hj
      intro c u hu
      have hc : c < 11 := (List.getElem?_eq_some_iff.1 hu).1
      rw [Addr.add_mid, cellAt (heap_alloc_new W _)]
      have : c = 0 ∨ c = 1 ∨ c = 2 ∨ c = 3 ∨ c = 4 ∨ c = 5 ∨ c = 6 ∨ c = 7 ∨ c = 8 ∨ c = 9 ∨ c = 10 := by omega
      rcases this with rfl | rfl | rfl | rfl | rfl | rfl | rfl | rfl | rfl | rfl | rfl <;> simpa [bnE] using hu) (by simp; omega) (by decide) (.inl (by simp))
  refine ⟨v', w', hr, ho, ((Below.refl B W).alloc hB _).grown hg (by rw [size1]; omega) (fun k hk => (h'.blk hk).1)⟩
/-- an entity is put at a place of one's own row -/
theorem row_put {W : World} {B n c : Nat} {A : Option Addr} {R : List Bn} (h : OwnB W B (.slice A n c) R) (hn : R.length = n) {k : Nat} (hk : k < n) (x : Bn) :
    ∃ g o, A = some ⟨g, o, none⟩ ∧ (∃ y : Bn, R[k]? = some y ∧ (W.cell? ⟨g, o + k * 11, none⟩ = some (.int .i64 y.s) ∧ W.cell? ⟨g, o + k * 11 + 1, none⟩ = some (.int .i64 y.i) ∧ W.cell? ⟨g, o + k * 11 + 2, none⟩ = some (.int .i64 y.g) ∧ W.cell? ⟨g, o + k * 11 + 3, none⟩ = some (.int .i64 y.m) ∧ W.cell? ⟨g, o + k * 11 + 4, none⟩ = some (.int .i64 y.x) ∧ W.cell? ⟨g, o + k * 11 + 5, none⟩ = some (.int .i64 y.y) ∧ W.cell? ⟨g, o + k * 11 + 6, none⟩ = some (.int .i64 y.vx) ∧ W.cell? ⟨g, o + k * 11 + 7, none⟩ = some (.int .i64 y.vy) ∧ W.cell? ⟨g, o + k * 11 + 8, none⟩ = some (.int .i64 y.h) ∧ W.cell? ⟨g, o + k * 11 + 9, none⟩ = some (.int .i64 y.p) ∧ W.cell? ⟨g, o + k * 11 + 10, none⟩ = some (.int .i64 y.l))) ∧ (W.frozen? ⟨g, o + k * 11, none⟩ = false ∧ W.frozen? ⟨g, o + k * 11 + 1, none⟩ = false ∧ W.frozen? ⟨g, o + k * 11 + 2, none⟩ = false ∧ W.frozen? ⟨g, o + k * 11 + 3, none⟩ = false ∧ W.frozen? ⟨g, o + k * 11 + 4, none⟩ = false ∧ W.frozen? ⟨g, o + k * 11 + 5, none⟩ = false ∧ W.frozen? ⟨g, o + k * 11 + 6, none⟩ = false ∧ W.frozen? ⟨g, o + k * 11 + 7, none⟩ = false ∧ W.frozen? ⟨g, o + k * 11 + 8, none⟩ = false ∧ W.frozen? ⟨g, o + k * 11 + 9, none⟩ = false ∧ W.frozen? ⟨g, o + k * 11 + 10, none⟩ = false) ∧ Hid (OwnB (((((((((((W.setCell ⟨g, o + k * 11, none⟩ (.int .i64 x.s)).setCell ⟨g, o + k * 11 + 1, none⟩ (.int .i64 x.i)).setCell ⟨g, o + k * 11 + 2, none⟩ (.int .i64 x.g)).setCell ⟨g, o + k * 11 + 3, none⟩ (.int .i64 x.m)).setCell ⟨g, o + k * 11 + 4, none⟩ (.int .i64 x.x)).setCell ⟨g, o + k * 11 + 5, none⟩ (.int .i64 x.y)).setCell ⟨g, o + k * 11 + 6, none⟩ (.int .i64 x.vx)).setCell ⟨g, o + k * 11 + 7, none⟩ (.int .i64 x.vy)).setCell ⟨g, o + k * 11 + 8, none⟩ (.int .i64 x.h)).setCell ⟨g, o + k * 11 + 9, none⟩ (.int .i64 x.p)).setCell ⟨g, o + k * 11 + 10, none⟩ (.int .i64 x.l)) B (.slice (some ⟨g, o, none⟩) n c) (R.set k x) ∧ Below B W (((((((((((W.setCell ⟨g, o + k * 11, none⟩ (.int .i64 x.s)).setCell ⟨g, o + k * 11 + 1, none⟩ (.int .i64 x.i)).setCell ⟨g, o + k * 11 + 2, none⟩ (.int .i64 x.g)).setCell ⟨g, o + k * 11 + 3, none⟩ (.int .i64 x.m)).setCell ⟨g, o + k * 11 + 4, none⟩ (.int .i64 x.x)).setCell ⟨g, o + k * 11 + 5, none⟩ (.int .i64 x.y)).setCell ⟨g, o + k * 11 + 6, none⟩ (.int .i64 x.vx)).setCell ⟨g, o + k * 11 + 7, none⟩ (.int .i64 x.vy)).setCell ⟨g, o + k * 11 + 8, none⟩ (.int .i64 x.h)).setCell ⟨g, o + k * 11 + 9, none⟩ (.int .i64 x.p)).setCell ⟨g, o + k * 11 + 10, none⟩ (.int .i64 x.l))) := by
  subst hn
  obtain ⟨g, o, rfl, hB, hc, hf⟩ := own_at h (List.getElem?_eq_getElem hk)
  obtain ⟨h1, h2⟩ := own_set h hk x
  exact ⟨g, o, rfl, ⟨_, List.getElem?_eq_getElem hk, hc⟩, hf, Lib.hid ⟨h1, h2 B hB⟩⟩
end Go.Proofs.Ytgmgenggboicnaa
namespace Go.Proofs.Ytgmgenggboicnaa
open Go.RowKit Pz
set_option linter.unusedVariables false

set_option maxHeartbeats 8000000 in
theorem before_any (s i g s' i' g' : Int) (w : World) : Calls Try.prog 81 #[.agg #[.int .i64 s, .int .i64 i, .int .i64 g], .agg #[.int .i64 s', .int .i64 i', .int .i64 g']] w fun e w' => e = .returned (.bool (before (s, i, g) (s', i', g'))) ∧ Below w.heap.size w w' := by
  have FIN := Lib.hid (bel2 w (.cells #[.int .i64 s, .int .i64 i, .int .i64 g] 31) (.cells #[.int .i64 s', .int .i64 i', .int .i64 g'] 31))
  obtain ⟨⟨c0, c1, c2⟩, _⟩ := Bx.b3 (at2a w (.cells #[.int .i64 s, .int .i64 i, .int .i64 g] 31) (.cells #[.int .i64 s', .int .i64 i', .int .i64 g'] 31))
  obtain ⟨⟨d0, d1, d2⟩, _⟩ := Bx.b3 (at2b w (.cells #[.int .i64 s, .int .i64 i, .int .i64 g] 31) (.cells #[.int .i64 s', .int .i64 i', .int .i64 g'] 31))
  unfold before
  simp only
  by_cases h1 : s ≠ s'
  · rw [if_pos h1]
    have t1 : (s != s') = true := bne_iff_ne.2 h1
    obtain ⟨b, t2⟩ : ∃ b, decide (s < s') = b := ⟨_, rfl⟩
    rw [t2]
    clear h1
    go_enter Try.func81, Try.ntmps81
    go_wp2
    go_ret
    exact ⟨rfl, FIN.out⟩
  · rw [if_neg h1]
    have t1 : (s != s') = false := by rw [bne, beq_iff_eq.2 (by omega)]; rfl
    by_cases h2 : i ≠ i'
    · rw [if_pos h2]
      have t3 : (i != i') = true := bne_iff_ne.2 h2
      obtain ⟨b, t4⟩ : ∃ b, decide (i < i') = b := ⟨_, rfl⟩
      rw [t4]
      clear h1 h2
      go_enter Try.func81, Try.ntmps81
      go_wp2
      go_ret
      exact ⟨rfl, FIN.out⟩
    · rw [if_neg h2]
      have t3 : (i != i') = false := by rw [bne, beq_iff_eq.2 (by omega)]; rfl
      obtain ⟨b, t5⟩ : ∃ b, decide (g < g') = b := ⟨_, rfl⟩
      rw [t5]
      clear h1 h2
      go_enter Try.func81, Try.ntmps81
      go_wp2
      go_ret
      exact ⟨rfl, FIN.out⟩
set_option maxHeartbeats 16000000 in
set_option maxRecDepth 100000 in
theorem rsorted_any {w : World} {A : Option Addr} {cap : Nat} {l : List Bn} (R : RdB w w.heap.size A l) (hl : l.length ≤ 1000) :
    Calls Try.prog 58 #[.slice A l.length cap] w fun e w' => (∃ A' c', e = .returned (.slice A' l.length c') ∧ OwnB w' w.heap.size (.slice A' l.length c') (sortL Bn.id l)) ∧ Below w.heap.size w w' := by
  have AT : Hid (∀ W, Below w.heap.size w W → ∀ j (hj : j < l.length), ∃ ga oa, A = some ⟨ga, oa, none⟩ ∧ (W.cell? ⟨ga, oa + j * 11, none⟩ = some (.int .i64 l[j].s) ∧ W.cell? ⟨ga, oa + j * 11 + 1, none⟩ = some (.int .i64 l[j].i) ∧ W.cell? ⟨ga, oa + j * 11 + 2, none⟩ = some (.int .i64 l[j].g) ∧ W.cell? ⟨ga, oa + j * 11 + 3, none⟩ = some (.int .i64 l[j].m) ∧ W.cell? ⟨ga, oa + j * 11 + 4, none⟩ = some (.int .i64 l[j].x) ∧ W.cell? ⟨ga, oa + j * 11 + 5, none⟩ = some (.int .i64 l[j].y) ∧ W.cell? ⟨ga, oa + j * 11 + 6, none⟩ = some (.int .i64 l[j].vx) ∧ W.cell? ⟨ga, oa + j * 11 + 7, none⟩ = some (.int .i64 l[j].vy) ∧ W.cell? ⟨ga, oa + j * 11 + 8, none⟩ = some (.int .i64 l[j].h) ∧ W.cell? ⟨ga, oa + j * 11 + 9, none⟩ = some (.int .i64 l[j].p) ∧ W.cell? ⟨ga, oa + j * 11 + 10, none⟩ = some (.int .i64 l[j].l))) := Lib.hid fun W hW j hj => by
    obtain ⟨ga, oa, e, _, k1⟩ := (R.below hW) j _ (List.getElem?_eq_getElem hj)
    exact ⟨ga, oa, e, k1⟩
  have SL : Hid (∀ i, i ≤ l.length → (sortP Bn.id l i).length = i) := Lib.hid fun i hi => sortP_len (κ := Bn.id) l i hi
  have SS : Hid (∀ i (hi : i < l.length), sortP Bn.id l (i + 1) = ins Bn.id l[i] (sortP Bn.id l i)) := Lib.hid fun i hi => sortP_succ (κ := Bn.id) hi
  have S0 : Hid (OwnB w w.heap.size (.slice none 0 0) (sortP Bn.id l 0)) := Lib.hid (by rw [sortP_zero]; exact rw_nil _ _)
  have SE : Hid (sortP Bn.id l l.length = sortL Bn.id l) := Lib.hid (sortP_all (κ := Bn.id) l)
  clear R
  go_enter Try.func58, Try.ntmps58
  go_wp2
  go_loopw [4, 3] (fun ix v wr => ∃ (i : Nat) (A3 : Option Addr) (cq : Nat), i ≤ l.length ∧ ix = .int .i64 i ∧ v = .slice A3 i cq ∧ Hid (OwnB wr w.heap.size (.slice A3 i cq) (sortP Bn.id l i)) ∧ Hid (Below w.heap.size w wr)) (fun ix _ _ => l.length - (intOf ix).toNat)
  case atStart => exact ⟨0, none, 0, Nat.zero_le _, rfl, rfl, S0, Lib.hid (Below.refl _ _)⟩
  case round =>
    obtain ⟨i, A3, cq, hi, rfl, rfl, HO, HB⟩ := hrel
    clear S0
    by_cases hil : i < l.length
    · have t1 : (i : Int) < (l.length : Int) := by omega
      obtain ⟨ga, oa, rfl, c0, c1, c2, c3, c4, c5, c6, c7, c8, c9, c10⟩ := AT.out wr HB.out i hil
      obtain ⟨v', w', HR, HO2, HB2⟩ := push_bn wr HO.out HB.out.size (by rw [SL.out i hi]; omega) l[i] 42
      have hln : (sortP Bn.id l i ++ [l[i]]).length = i + 1 := by rw [List.length_append, SL.out i hi]; rfl
      obtain ⟨A4, cr, hv⟩ := HO2.form
      obtain ⟨n1, hn1⟩ : ∃ n1, n1 = i + 1 := ⟨_, rfl⟩
      rw [hln, ← hn1] at hv
      subst hv
      have HRH := Lib.hid HR
      have HN1 := Lib.hid hn1
      have hn1' : (n1 : Int) ≤ 1001 := by omega
      have HOL : Hid (OwnB w' w.heap.size (.slice A4 n1 cr) (sortP Bn.id l i ++ [l[i]])) := Lib.hid HO2
      have HB3 := Lib.hid (HB.out.trans HB2)
      have hol := Hole.start (κ := Bn.id) l[i] (sortP Bn.id l i)
      have NXT := SS.out i hil
      have SLI := SL.out i hi
      rw [SLI] at hol
      have HH := Lib.hid hol
      have NX : Hid (∀ R k, Hole Bn.id l[i] (sortP Bn.id l i) R k → insK Bn.id l[i] (sortP Bn.id l i) k = k → R.set k l[i] = sortP Bn.id l (i + 1)) := Lib.hid fun R k h1 h2 => by rw [NXT]; exact h1.fin h2
      have HLEN : Hid (∀ R k, Hole Bn.id l[i] (sortP Bn.id l i) R k → R.length = n1) := Lib.hid fun R k h => by rw [h.len, SLI, hn1]
      have AI : Hid (∀ W, Below w.heap.size w W → W.cell? ⟨ga, oa + i * 11, none⟩ = some (.int .i64 l[i].s) ∧ W.cell? ⟨ga, oa + i * 11 + 1, none⟩ = some (.int .i64 l[i].i) ∧ W.cell? ⟨ga, oa + i * 11 + 2, none⟩ = some (.int .i64 l[i].g) ∧ W.cell? ⟨ga, oa + i * 11 + 3, none⟩ = some (.int .i64 l[i].m) ∧ W.cell? ⟨ga, oa + i * 11 + 4, none⟩ = some (.int .i64 l[i].x) ∧ W.cell? ⟨ga, oa + i * 11 + 5, none⟩ = some (.int .i64 l[i].y) ∧ W.cell? ⟨ga, oa + i * 11 + 6, none⟩ = some (.int .i64 l[i].vx) ∧ W.cell? ⟨ga, oa + i * 11 + 7, none⟩ = some (.int .i64 l[i].vy) ∧ W.cell? ⟨ga, oa + i * 11 + 8, none⟩ = some (.int .i64 l[i].h) ∧ W.cell? ⟨ga, oa + i * 11 + 9, none⟩ = some (.int .i64 l[i].p) ∧ W.cell? ⟨ga, oa + i * 11 + 10, none⟩ = some (.int .i64 l[i].l)) := Lib.hid fun W hW => by
        obtain ⟨g', o', e, k1⟩ := AT.out W hW i hil
        cases e
        exact k1
      clear HR HO2 HB2 hln hol NXT SL SS HO AT SLI SE hn1
      generalize sortP Bn.id l i = out at *
      generalize l[i] = x at *
      generalize l.length = n at *
      go_wp2_with (at_builtin; refine wpList_append _ rfl (.tmp 14) (.tmp 19) _ _ rfl _ (.slice (some ⟨_, 0, none⟩) 1 1) rfl rfl _ _ HRH.out ?_; clear HRH c0 c1 c2 c3 c4 c5 c6 c7 c8 c9 c10)
      go_loopw [5] (fun kx wr2 => ∃ (k : Nat) (R : List Bn), k ≤ i ∧ kx = .int .i64 k ∧ Hid (OwnB wr2 w.heap.size (.slice A4 n1 cr) R) ∧ Hid (Below w.heap.size w wr2) ∧ Hid (Hole Bn.id x out R k)) (fun kx _ => (intOf kx).toNat)
      case atStart => exact ⟨i, _, Nat.le_refl _, rfl, HOL, HB3, HH⟩
      case round =>
        obtain ⟨k, R, hk, rfl, HOX, HBX, HL⟩ := hrel
        clear HOL HB3 HH
        have hkn : k < n1 := by have := HN1.out; omega
        by_cases h0 : 0 < k
        · obtain ⟨k', hk'⟩ : ∃ k', k = k' + 1 := ⟨k - 1, by omega⟩
          obtain ⟨y, hy⟩ : ∃ y, R[k']? = some y := ⟨_, List.getElem?_eq_getElem (by have := HLEN.out R k HL.out; omega)⟩
          have t2 : decide ((k : Int) > 0) = true := decide_eq_true (by omega)
          have t2' : decide (0 < k) = true := decide_eq_true h0
          have ws : IntKind.i64.wrap ((k : Int) - 1) = (k' : Int) := by
            have := HN1.out
            rw [IntWalk.i64_in _ (by omega)]
            omega
          have tk : (k' : Int) < (n1 : Int) := by omega
          have tn : (k : Int) < (n1 : Int) := by omega
          have HOY := HOX.out
          rw [← HLEN.out R k HL.out] at HOY
          obtain ⟨gb, ob, rfl, hgb, _, _⟩ := own_at HOY hy
          have RB := RdB.of_own HOY
          have PB : ∀ p : Lat grows wr, Below w.heap.size w p.W := fun p => HBX.out.trans ((lat_below p).mono HBX.out.size)
          have b0' : ∀ p : Lat grows wr, p.W.cell? ⟨gb, ob + k' * 11, none⟩ = some (.int .i64 y.s) := fun p => by
            obtain ⟨g', o', e, _, h0, h1, h2, _⟩ := (RB.below (lat_below p)) k' y hy
            cases e; exact h0
          have b1' : ∀ p : Lat grows wr, p.W.cell? ⟨gb, ob + k' * 11 + 1, none⟩ = some (.int .i64 y.i) := fun p => by
            obtain ⟨g', o', e, _, h0, h1, h2, _⟩ := (RB.below (lat_below p)) k' y hy
            cases e; exact h1
          have b2' : ∀ p : Lat grows wr, p.W.cell? ⟨gb, ob + k' * 11 + 2, none⟩ = some (.int .i64 y.g) := fun p => by
            obtain ⟨g', o', e, _, h0, h1, h2, _⟩ := (RB.below (lat_below p)) k' y hy
            cases e; exact h2
          have a0' : ∀ p : Lat grows wr, p.W.cell? ⟨ga, oa + i * 11, none⟩ = some (.int .i64 x.s) := fun p => (AI.out _ (PB p)).1
          have a1' : ∀ p : Lat grows wr, p.W.cell? ⟨ga, oa + i * 11 + 1, none⟩ = some (.int .i64 x.i) := fun p => (AI.out _ (PB p)).2.1
          have a2' : ∀ p : Lat grows wr, p.W.cell? ⟨ga, oa + i * 11 + 2, none⟩ = some (.int .i64 x.g) := fun p => (AI.out _ (PB p)).2.2.1
          have BF : Hid (∀ p : Lat grows wr, Calls Try.prog 81 #[.agg #[.int .i64 x.s, .int .i64 x.i, .int .i64 x.g], .agg #[.int .i64 y.s, .int .i64 y.i, .int .i64 y.g]] p.W fun e w' => e = .returned (.bool (before x.id y.id)) ∧ Below p.W.heap.size p.W w') := Lib.hid fun p => before_any x.s x.i x.g y.s y.i y.g p.W
          have HK9 : Hid (before x.id y.id = false → insK Bn.id x out k = k) := Lib.hid fun hb => by
            have h8 := HL.out
            rw [hk'] at h8 ⊢
            exact h8.stop hy hb
          have HD9 : Hid (before x.id y.id = true → Hole Bn.id x out (R.set k y) k') := Lib.hid fun hb => by
            have h8 := HL.out
            rw [hk'] at h8 ⊢
            exact h8.down hy hb
          replace hk' := Lib.hid hk'
          generalize before x.id y.id = bf at *
          clear RB HOY hgb PB h0
          go_upto_region 7 with fail
          refine Og.grow 16 (by kernel_rfl) (by kernel_rfl) fun hc hf => ?_
          clear hc hf
          simp only [List.take_succ_cons, List.take_zero, List.drop_succ_cons, List.drop_zero]
          iterate 14 (refine Og.det [] rfl (fun J hJ => ?_); go_simp; refine hJ _ _ ?_; clear hJ J)
          refine Og.det [] rfl (fun J hJ => ?_)
          go_simp
          with_reducible refine ⟨_, fun p => Og.lays (BF.out p), hJ _ _ ?_⟩
          clear hJ J
          (refine Og.det [] rfl (fun J hJ => ?_); go_simp; refine hJ _ _ ?_; clear hJ J)
          refine Og.fin fun W hW => ?_
          simp only [Og.opened_nil]
          replace HOX := Lib.hid (HOX.out.below hW)
          replace HBX := Lib.hid (HBX.out.trans (hW.mono HBX.out.size))
          clear hW a0' a1' a2' b0' b1' b2' BF
          cases bf with
          | false =>
            have HK := Lib.hid (HK9.out rfl)
            clear HK9 HD9 HB
            obtain ⟨g, o, e0, ⟨y0, hy0, d0, d1, d2, d3, d4, d5, d6, d7, d8, d9, d10⟩, ⟨f0, f1, f2, f3, f4, f5, f6, f7, f8, f9, f10⟩, HP⟩ := row_put HOX.out (HLEN.out R k HL.out) hkn x
            cases e0
            have EQX := NX.out R k HL.out HK.out
            rw [EQX] at HP
            have HBX2 : Hid (Below w.heap.size w _) := Lib.hid (HBX.out.trans (HP.out.2.mono (Nat.le_refl _)))
            have HPO := Lib.hid HP.out.1
            obtain ⟨c0, c1, c2, c3, c4, c5, c6, c7, c8, c9, c10⟩ := AI.out W HBX.out
            clear EQX HP HOX HBX HL HK HLEN NX hy0
            generalize y0.s = q0 at *
            go_wp2
            go_roundw
            case rel => exact ⟨i + 1, _, _, by omega, by go_num, by rw [HN1.out], by have h9 := HPO.out; rw [HN1.out] at h9; exact Lib.hid h9, HBX2⟩
            case measure => simp [intOf]; omega
          | true =>
            have HD := Lib.hid (HD9.out rfl)
            have HOZ := HOX.out
            rw [← HLEN.out R k HL.out] at HOZ
            obtain ⟨gc, oc, e, _, ⟨d0, d1, d2, d3, d4, d5, d6, d7, d8, d9, d10⟩, _⟩ := own_at HOZ hy
            cases e
            obtain ⟨g, o, e, ⟨y0, hy0, c0, c1, c2, c3, c4, c5, c6, c7, c8, c9, c10⟩, ⟨f0, f1, f2, f3, f4, f5, f6, f7, f8, f9, f10⟩, HP⟩ := row_put HOX.out (HLEN.out R k HL.out) hkn y
            cases e
            have HBX2 : Hid (Below w.heap.size w _) := Lib.hid (HBX.out.trans (HP.out.2.mono (Nat.le_refl _)))
            have HPO := Lib.hid HP.out.1
            have tkk : k' < k := by have := hk'.out; omega
            have tke : k' ≤ i := by omega
            clear HP HOX HBX HL HLEN NX hy0 HK9 HD9 HB HOZ AI
            go_wp2
            go_roundw
            case rel => exact ⟨k', _, tke, by go_num, HPO, HBX2, HD⟩
            case measure => simp [intOf]; omega
        · have t2 : decide ((k : Int) > 0) = false := decide_eq_false (by omega)
          have t2' : decide (0 < k) = false := decide_eq_false h0
          have HK : Hid (insK Bn.id x out k = k) := Lib.hid (by
            have e : k = 0 := by omega
            rw [e]; rfl)
          have tn : (k : Int) < (n1 : Int) := by omega
          clear h0 HB
          go_upto_region 7 with fail
          go_quiet (fail)
          rename_i nq
          replace HOX := Lib.hid (HOX.out.below (below_dn wr nq))
          replace HBX := Lib.hid (HBX.out.trans ((below_dn wr nq).mono HBX.out.size))
          generalize wr.drewN nq = wx at *
          obtain ⟨g, o, rfl, ⟨y0, hy0, d0, d1, d2, d3, d4, d5, d6, d7, d8, d9, d10⟩, ⟨f0, f1, f2, f3, f4, f5, f6, f7, f8, f9, f10⟩, HP⟩ := row_put HOX.out (HLEN.out R k HL.out) hkn x
          have EQX := NX.out R k HL.out HK.out
          rw [EQX] at HP
          have HBX2 : Hid (Below w.heap.size w _) := Lib.hid (HBX.out.trans (HP.out.2.mono (Nat.le_refl _)))
          have HPO := Lib.hid HP.out.1
          obtain ⟨c0, c1, c2, c3, c4, c5, c6, c7, c8, c9, c10⟩ := AI.out wx HBX.out
          clear EQX HP HOX HBX HL HK HLEN NX hy0
          generalize y0.s = q0 at *
          go_wp2
          go_roundw
          case rel => exact ⟨i + 1, _, _, by omega, by go_num, by rw [HN1.out], by have h9 := HPO.out; rw [HN1.out] at h9; exact Lib.hid h9, HBX2⟩
          case measure => simp [intOf]; omega
    · obtain rfl : i = l.length := by omega
      have t1 : ¬ (l.length : Int) < (l.length : Int) := by omega
      have HF : Hid (OwnB wr w.heap.size (.slice A3 l.length cq) (sortL Bn.id l)) := Lib.hid (by rw [← SE.out]; exact HO.out)
      clear HO AT SL SS SE
      go_wp2
      go_ret
      exact ⟨⟨_, _, rfl, HF.out⟩, HB.out⟩
end Go.Proofs.Ytgmgenggboicnaa
namespace Go.Proofs.Ytgmgenggboicnaa
open Go.RowKit Pz
set_option linter.unusedVariables false

set_option maxHeartbeats 4000000 in
theorem isnan_any (n : Int) (w : World) : Calls Try.prog 86 #[.int .i64 n] w fun e w' => e = .returned (.bool false) ∧ w = w' := by
  have h : (n != n) = false := by simp
  go_enter Try.func86, Try.ntmps86
  go_wp2
  go_ret
  exact ⟨rfl, rfl⟩

set_option maxHeartbeats 8000000 in
theorem cmpi_any (x y : Int) (w : World) : Calls Try.prog 70 #[.int .i64 x, .int .i64 y] w fun e w' => e = .returned (.int .i64 (cmpI x y)) ∧ w = w' := by
  have N := Lib.hid isnan_any
  unfold cmpI
  by_cases h1 : x < y
  · rw [if_pos h1]
    have t1 : decide (x < y) = true := decide_eq_true h1
    go_enter Try.func70, Try.ntmps70
    go_wp2_with (go_at_call 86; with_reducible refine (N.out _ _).mono ?_; rintro e w' ⟨rfl, rfl⟩)
    go_ret
    exact ⟨rfl, rfl⟩
  · rw [if_neg h1]
    have t1 : decide (x < y) = false := decide_eq_false h1
    by_cases h2 : x > y
    · rw [if_pos h2]
      have t2 : decide (x > y) = true := decide_eq_true h2
      go_enter Try.func70, Try.ntmps70
      go_wp2_with (go_at_call 86; with_reducible refine (N.out _ _).mono ?_; rintro e w' ⟨rfl, rfl⟩)
      go_ret
      exact ⟨rfl, rfl⟩
    · rw [if_neg h2]
      have t2 : decide (x > y) = false := decide_eq_false h2
      go_enter Try.func70, Try.ntmps70
      go_wp2_with (go_at_call 86; with_reducible refine (N.out _ _).mono ?_; rintro e w' ⟨rfl, rfl⟩)
      go_ret
      exact ⟨rfl, rfl⟩
set_option maxHeartbeats 8000000 in
/-- the first of three that is not 0 -/
theorem or_any {w : World} {b : Nat} {x y z : Int} (h0 : w.cell? ⟨b, 0, none⟩ = some (.int .i64 x)) (h1 : w.cell? ⟨b, 1, none⟩ = some (.int .i64 y)) (h2 : w.cell? ⟨b, 2, none⟩ = some (.int .i64 z)) :
    Calls Try.prog 104 #[.slice (some ⟨b, 0, none⟩) 3 3] w fun e w' => e = .returned (.int .i64 (orI x y z)) ∧ w = w' := by
  obtain ⟨r, hr⟩ : ∃ r, orI x y z = r := ⟨_, rfl⟩
  have R0 : Hid ((x != 0) = true → r = x) := Lib.hid fun h => by rw [← hr]; unfold orI; rw [if_pos (bne_iff_ne.1 h)]
  have R1 : Hid ((x != 0) = false → (y != 0) = true → r = y) := Lib.hid fun h h2 => by rw [← hr]; unfold orI; rw [if_neg (fun e => by rw [bne_iff_ne.2 e] at h; cases h), if_pos (bne_iff_ne.1 h2)]
  have R2 : Hid ((x != 0) = false → (y != 0) = false → r = z) := Lib.hid fun h h2 => by rw [← hr]; unfold orI; rw [if_neg (fun e => by rw [bne_iff_ne.2 e] at h; cases h), if_neg (fun e => by rw [bne_iff_ne.2 e] at h2; cases h2)]
  have R3 : Hid ((z != 0) = false → z = 0) := Lib.hid fun h => by simpa using h
  rw [hr]
  clear hr
  obtain ⟨tx, htx⟩ : ∃ t, (x != 0) = t := ⟨_, rfl⟩
  obtain ⟨ty, hty⟩ : ∃ t, (y != 0) = t := ⟨_, rfl⟩
  obtain ⟨tz, htz⟩ : ∃ t, (z != 0) = t := ⟨_, rfl⟩
  rw [htx, hty] at R1 R2
  rw [htx] at R0
  rw [htz] at R3
  go_enter Try.func104, Try.ntmps104
  go_wp2
  go_loopw [8] (fun ix wr => wr = w ∧ ((ix = .int .i64 0) ∨ (ix = .int .i64 1 ∧ tx = false) ∨ (ix = .int .i64 2 ∧ tx = false ∧ ty = false) ∨ (ix = .int .i64 3 ∧ tx = false ∧ ty = false ∧ tz = false))) (fun ix _ => 3 - (intOf ix).toNat)
  case atStart => exact ⟨rfl, .inl rfl⟩
  case round =>
    obtain ⟨rfl, rfl | ⟨rfl, rfl⟩ | ⟨rfl, rfl, rfl⟩ | ⟨rfl, rfl, rfl, rfl⟩⟩ := hrel
    · cases tx with
      | true =>
        have e := R0.out rfl
        subst e
        clear R0 R1 R2 R3
        go_wp2
        go_ret
        exact ⟨rfl, rfl⟩
      | false =>
        go_wp2
        go_roundw
        case rel => simp
        case measure => simp [intOf]
    · cases ty with
      | true =>
        have e := R1.out rfl rfl
        subst e
        clear R0 R1 R2 R3
        go_wp2
        go_ret
        exact ⟨rfl, rfl⟩
      | false =>
        go_wp2
        go_roundw
        case rel => simp
        case measure => simp [intOf]
    · cases tz with
      | true =>
        have e := R2.out rfl rfl
        subst e
        clear R0 R1 R2 R3
        go_wp2
        go_ret
        exact ⟨rfl, rfl⟩
      | false =>
        go_wp2
        go_roundw
        case rel => simp
        case measure => simp [intOf]
    · have e := (R2.out rfl rfl).trans (R3.out rfl)
      subst e
      clear R0 R1 R2 R3
      go_wp2
      go_ret
      exact ⟨rfl, rfl⟩
abbrev Trio (x y z : Int) : Og.Ph := Og.Fresh 0 #[.int .i64 x, .int .i64 y, .int .i64 z] 3 3
theorem or_trio {x y z r : Int} (hr : orI x y z = r) {W : World} {v : Value} (h : Trio x y z v W) : Calls Try.prog 104 #[v] W fun e w' => e = .returned (.int .i64 r) ∧ grows.r W w' := by
  obtain ⟨b, rfl, _, _, hb⟩ := h
  obtain ⟨⟨g0, g1, g2⟩, _⟩ := Bx.b3 hb
  subst hr
  exact Og.same (or_any g0 g1 g2)
set_option maxHeartbeats 16000000 in
set_option maxRecDepth 100000 in
theorem compare_any (a1 a2 a3 b1 b2 b3 : Int) (w : World) : Calls Try.prog 94 #[.agg #[.int .i64 a1, .int .i64 a2, .int .i64 a3], .agg #[.int .i64 b1, .int .i64 b2, .int .i64 b3]] w fun e w' => e = .returned (.int .i64 (cmpB (a1, a2, a3) (b1, b2, b3))) ∧ Below w.heap.size w w' := by
  have BE := Lib.hid (bel2 w (.cells #[.int .i64 a1, .int .i64 a2, .int .i64 a3] 31) (.cells #[.int .i64 b1, .int .i64 b2, .int .i64 b3] 31))
  have HA := at2a w (.cells #[.int .i64 a1, .int .i64 a2, .int .i64 a3] 31) (.cells #[.int .i64 b1, .int .i64 b2, .int .i64 b3] 31)
  have HB := at2b w (.cells #[.int .i64 a1, .int .i64 a2, .int .i64 a3] 31) (.cells #[.int .i64 b1, .int .i64 b2, .int .i64 b3] 31)
  have C1 : Hid (∀ W, Calls Try.prog 70 #[.int .i64 a1, .int .i64 b1] W fun e w' => e = .returned (.int .i64 (cmpI a1 b1)) ∧ W = w') := Lib.hid fun W => cmpi_any a1 b1 W
  have C2 : Hid (∀ W, Calls Try.prog 70 #[.int .i64 a2, .int .i64 b2] W fun e w' => e = .returned (.int .i64 (cmpI a2 b2)) ∧ W = w') := Lib.hid fun W => cmpi_any a2 b2 W
  have C3 : Hid (∀ W, Calls Try.prog 70 #[.int .i64 a3, .int .i64 b3] W fun e w' => e = .returned (.int .i64 (cmpI a3 b3)) ∧ W = w') := Lib.hid fun W => cmpi_any a3 b3 W
  unfold cmpB
  simp only
  generalize cmpI a1 b1 = x at *
  generalize cmpI a2 b2 = y at *
  generalize cmpI a3 b3 = z at *
  obtain ⟨r, hr⟩ : ∃ r, orI x y z = r := ⟨_, rfl⟩
  rw [hr]
  go_enter Try.func94, Try.ntmps94
  go_upto_region 1 with fail
  generalize (w.alloc (.cells #[.int .i64 a1, .int .i64 a2, .int .i64 a3] 31)).alloc (.cells #[.int .i64 b1, .int .i64 b2, .int .i64 b3] 31) = w1 at *
  have PA : ∀ p : Lat grows w1, p.W.cell? ⟨w.heap.size, 0, none⟩ = some (.int .i64 a1) ∧ p.W.cell? ⟨w.heap.size, 1, none⟩ = some (.int .i64 a2) ∧ p.W.cell? ⟨w.heap.size, 2, none⟩ = some (.int .i64 a3) := fun p => (Bx.b3 ((Below.block p.h _ (Bx.lt HA)).trans HA)).1
  have PB : ∀ p : Lat grows w1, p.W.cell? ⟨w.heap.size + 1, 0, none⟩ = some (.int .i64 b1) ∧ p.W.cell? ⟨w.heap.size + 1, 1, none⟩ = some (.int .i64 b2) ∧ p.W.cell? ⟨w.heap.size + 1, 2, none⟩ = some (.int .i64 b3) := fun p => (Bx.b3 ((Below.block p.h _ (Bx.lt HB)).trans HB)).1
  have k0 := fun p => (PA p).1
  have k1 := fun p => (PA p).2.1
  have k2 := fun p => (PA p).2.2
  have m0 := fun p => (PB p).1
  have m1 := fun p => (PB p).2.1
  have m2 := fun p => (PB p).2.2
  clear PA PB HA HB
  replace hr := Lib.hid hr
  refine Og.grow 18 (by kernel_rfl) (by kernel_rfl) fun hc hf => ?_
  clear hc hf
  simp only [List.take_succ_cons, List.take_zero, List.drop_succ_cons, List.drop_zero]
  iterate 4 (refine Og.det [] rfl (fun J hJ => ?_); go_simp; refine hJ _ _ ?_; clear hJ J)
  refine Og.det [] rfl (fun J hJ => ?_)
  go_simp
  with_reducible refine ⟨_, fun p => Og.same (C1.out p.W), hJ _ _ ?_⟩
  clear hJ J
  iterate 4 (refine Og.det [] rfl (fun J hJ => ?_); go_simp; refine hJ _ _ ?_; clear hJ J)
  refine Og.det [] rfl (fun J hJ => ?_)
  go_simp
  with_reducible refine ⟨_, fun p => Og.same (C2.out p.W), hJ _ _ ?_⟩
  clear hJ J
  iterate 4 (refine Og.det [] rfl (fun J hJ => ?_); go_simp; refine hJ _ _ ?_; clear hJ J)
  refine Og.det [] rfl (fun J hJ => ?_)
  go_simp
  with_reducible refine ⟨_, fun p => Og.same (C3.out p.W), hJ _ _ ?_⟩
  clear hJ J
  refine Og.such 20 (Trio x y z) [] rfl (Og.Fresh.lasts _ _ _ _) (Og.Fresh.noBool _ _ _ _) (fun J hJ => ?_)
  go_simp
  refine ⟨fun p => Og.Fresh.new p.W 0 (Nat.zero_le _) _ _ _, hJ _ _ ?_⟩
  clear hJ J
  refine Og.det [(20, Trio x y z)] rfl (fun J hJ => ?_)
  go_simp
  refine ⟨_, fun p v hv => or_trio hr.out hv, hJ _ _ ?_⟩
  clear hJ J
  refine Og.det [] rfl (fun J hJ => ?_); go_simp; refine hJ _ _ ?_; clear hJ J
  refine Og.fin fun W hW => ?_
  simp only [Og.opened_cons, Og.opened_nil]
  intro v20 hv20
  clear hv20
  have FIN := BE.out.trans (hW.mono BE.out.size)
  go_wp2
  go_ret
  exact ⟨rfl, FIN⟩
end Go.Proofs.Ytgmgenggboicnaa
namespace Go.Proofs.Ytgmgenggboicnaa
open Go.RowKit Pz Go.Shelf
set_option linter.unusedVariables false

namespace Pz
theorem cmpB_cases (a b : K3) : (before a b = true ∧ cmpB a b = -1) ∨ (before b a = true ∧ cmpB a b = 1) ∨ (a = b ∧ cmpB a b = 0) := by
  obtain ⟨a1, a2, a3⟩ := a
  obtain ⟨b1, b2, b3⟩ := b
  rw [before_iff, before_iff]
  unfold cmpB orI cmpI
  simp only
  by_cases h1 : a1 < b1
  · refine .inl ⟨.inl h1, ?_⟩
    rw [if_pos h1]; rfl
  · by_cases h2 : a1 > b1
    · refine .inr (.inl ⟨.inl h2, ?_⟩)
      rw [if_neg h1, if_pos h2]; rfl
    · have e1 : a1 = b1 := by omega
      subst e1
      by_cases h3 : a2 < b2
      · refine .inl ⟨.inr ⟨rfl, .inl h3⟩, ?_⟩
        rw [if_neg h1, if_neg h2, if_pos h3]; rfl
      · by_cases h4 : a2 > b2
        · refine .inr (.inl ⟨.inr ⟨rfl, .inl h4⟩, ?_⟩)
          rw [if_neg h1, if_neg h2, if_neg h3, if_pos h4]; rfl
        · have e2 : a2 = b2 := by omega
          subst e2
          by_cases h5 : a3 < b3
          · refine .inl ⟨.inr ⟨rfl, .inr ⟨rfl, h5⟩⟩, ?_⟩
            rw [if_neg h1, if_neg h2, if_neg h3, if_neg h4, if_pos h5]; rfl
          · by_cases h6 : a3 > b3
            · refine .inr (.inl ⟨.inr ⟨rfl, .inr ⟨rfl, h6⟩⟩, ?_⟩)
              rw [if_neg h1, if_neg h2, if_neg h3, if_neg h4, if_neg h5, if_pos h6]; rfl
            · have e3 : a3 = b3 := by omega
              subst e3
              refine .inr (.inr ⟨rfl, ?_⟩)
              rw [if_neg h1, if_neg h2, if_neg h3, if_neg h4, if_neg h5, if_neg h6]; rfl
theorem cmp_lt (a b : K3) : decide (cmpB a b < 0) = before a b := by
  rcases cmpB_cases a b with ⟨h, e⟩ | ⟨h, e⟩ | ⟨h, e⟩
  · rw [e, h]; rfl
  · rw [e, before_asym h]; rfl
  · rw [e, h, before_irr]; rfl
theorem cmp_ge (a b : K3) : decide (cmpB a b ≥ 0) = !before a b := by
  rcases cmpB_cases a b with ⟨h, e⟩ | ⟨h, e⟩ | ⟨h, e⟩
  · rw [e, h]; rfl
  · rw [e, before_asym h]; rfl
  · rw [e, h, before_irr]; rfl
end Pz
/-- a function that compares by a key, as long as what lies below a bound stays -/
structure CmpAt (κ : Bn → K3) (fn : Nat) (cap : Array Value) (B : Nat) (w : World) : Prop where
  ent : ∀ args W, (callFunc fn args).run Try.prog W = .ok (.enter fn args) W
  less : ∀ (x y : Bn) (W : World), Below B w W → Calls Try.prog fn (#[x.val, y.val] ++ cap) W fun e w' => e = .returned (.int .i64 (cmpB (κ x) (κ y))) ∧ Below W.heap.size W w'
theorem CmpAt.below {κ : Bn → K3} {fn : Nat} {cap : Array Value} {B : Nat} {w W : World} (h : CmpAt κ fn cap B w) (hb : Below B w W) : CmpAt κ fn cap B W :=
  ⟨h.ent, fun x y V hV => h.less x y V (hb.trans hV)⟩
theorem enters42 : ∀ args w, (callFunc 93 args).run Try.prog w = .ok (.enter 93 args) w := enters_of Try.func93 (by kernel_rfl) rfl
set_option maxHeartbeats 16000000 in
set_option maxRecDepth 100000 in
/-- the comparison that sorts -/
theorem less_any (b c : Bn) (w : World) : Calls Try.prog 93 #[b.val, c.val] w fun e w' => e = .returned (.int .i64 (cmpB b.id c.id)) ∧ Below w.heap.size w w' := by
  have C1 : Hid (∀ W, Calls Try.prog 94 #[.agg #[.int .i64 b.s, .int .i64 b.i, .int .i64 b.g], .agg #[.int .i64 c.s, .int .i64 c.i, .int .i64 c.g]] W fun e w' => e = .returned (.int .i64 (cmpB b.id c.id)) ∧ Below W.heap.size W w') := Lib.hid fun W => compare_any _ _ _ _ _ _ W
  generalize cmpB b.id c.id = r at *
  obtain ⟨ubs, ubi, ubg, ubm, ubx, uby, ubvx, ubvy, ubh, ubp, ubl⟩ := b
  obtain ⟨ucs, uci, ucg, ucm, ucx, ucy, ucvx, ucvy, uch, ucp, ucl⟩ := c
  simp only [Bn.val] at *
  have FIN := Lib.hid (bel2 w (.cells #[.int .i64 ubs, .int .i64 ubi, .int .i64 ubg, .int .i64 ubm, .int .i64 ubx, .int .i64 uby, .int .i64 ubvx, .int .i64 ubvy, .int .i64 ubh, .int .i64 ubp, .int .i64 ubl] 33) (.cells #[.int .i64 ucs, .int .i64 uci, .int .i64 ucg, .int .i64 ucm, .int .i64 ucx, .int .i64 ucy, .int .i64 ucvx, .int .i64 ucvy, .int .i64 uch, .int .i64 ucp, .int .i64 ucl] 33))
  obtain ⟨⟨k0, k1, k2, _⟩, _⟩ := Bx.b11 (at2a w (.cells #[.int .i64 ubs, .int .i64 ubi, .int .i64 ubg, .int .i64 ubm, .int .i64 ubx, .int .i64 uby, .int .i64 ubvx, .int .i64 ubvy, .int .i64 ubh, .int .i64 ubp, .int .i64 ubl] 33) (.cells #[.int .i64 ucs, .int .i64 uci, .int .i64 ucg, .int .i64 ucm, .int .i64 ucx, .int .i64 ucy, .int .i64 ucvx, .int .i64 ucvy, .int .i64 uch, .int .i64 ucp, .int .i64 ucl] 33))
  obtain ⟨⟨m0, m1, m2, _⟩, _⟩ := Bx.b11 (at2b w (.cells #[.int .i64 ubs, .int .i64 ubi, .int .i64 ubg, .int .i64 ubm, .int .i64 ubx, .int .i64 uby, .int .i64 ubvx, .int .i64 ubvy, .int .i64 ubh, .int .i64 ubp, .int .i64 ubl] 33) (.cells #[.int .i64 ucs, .int .i64 uci, .int .i64 ucg, .int .i64 ucm, .int .i64 ucx, .int .i64 ucy, .int .i64 ucvx, .int .i64 ucvy, .int .i64 uch, .int .i64 ucp, .int .i64 ucl] 33))
  generalize hww : (w.alloc (.cells #[.int .i64 ubs, .int .i64 ubi, .int .i64 ubg, .int .i64 ubm, .int .i64 ubx, .int .i64 uby, .int .i64 ubvx, .int .i64 ubvy, .int .i64 ubh, .int .i64 ubp, .int .i64 ubl] 33)).alloc (.cells #[.int .i64 ucs, .int .i64 uci, .int .i64 ucg, .int .i64 ucm, .int .i64 ucx, .int .i64 ucy, .int .i64 ucvx, .int .i64 ucvy, .int .i64 uch, .int .i64 ucp, .int .i64 ucl] 33) = w1 at *
  go_enter Try.func93, Try.ntmps93
  go_wp2_with (go_at_call 94; with_reducible refine (C1.out _).mono ?_; rintro e w' ⟨rfl, hb2⟩; replace FIN := Lib.hid (FIN.out.trans (hb2.mono FIN.out.size)))
  go_ret
  exact ⟨rfl, FIN.out⟩
theorem cmp_names (B : Nat) (w : World) : CmpAt Bn.id 93 #[] B w :=
  ⟨enters42, fun x y W _ => by simpa using less_any x y W⟩
end Go.Proofs.Ytgmgenggboicnaa
