/- SoPure, SoCode6, SoRow, SoCmp, SoSw, SoCut, in one text. -/
import Derived.Test.YtfmbldjaknjgbaaKRw
import Derived.Test.YtfmbldjaknjgbaaKPc
import Derived.Test.YtfmbldjaknjgbaaKBase
import Derived.Deep.DeepCutAuto
import Derived.BigQuiet
import Derived.Shelf.Abstract
import Derived.BigRegion
namespace Go.Proofs.Ytfmbldjaknjgbaa
open Pz
set_option linter.unusedVariables false

namespace Pz
abbrev K3 := Int × Int × Int
variable {κ : Bn → K3}
/-- behind all that x does not come ahead of, from place k down -/
def insK (κ : Bn → K3) (x : Bn) (out : List Bn) : Nat → Nat
  | 0 => 0
  | k + 1 => match out[k]? with
    | some y => if before (κ x) (κ y) then insK κ x out k else k + 1
    | none => k + 1
def ins (κ : Bn → K3) (x : Bn) (out : List Bn) : List Bn := out.take (insK κ x out out.length) ++ x :: out.drop (insK κ x out out.length)
def sortL (κ : Bn → K3) (l : List Bn) : List Bn := l.foldl (fun out x => ins κ x out) []
def sortP (κ : Bn → K3) (l : List Bn) (i : Nat) : List Bn := sortL κ (l.take i)
theorem insK_le (x : Bn) (out : List Bn) : ∀ k, insK κ x out k ≤ k
  | 0 => Nat.le_refl _
  | k + 1 => by
    unfold insK
    split
    · split
      · have := insK_le x out k; omega
      · exact Nat.le_refl _
    · exact Nat.le_refl _
theorem ins_len (x : Bn) (out : List Bn) : (ins κ x out).length = out.length + 1 := by
  have := insK_le (κ := κ) x out out.length
  unfold ins
  simp only [List.length_append, List.length_take, List.length_cons, List.length_drop]
  omega
theorem sortP_zero (l : List Bn) : sortP κ l 0 = [] := by simp [sortP, sortL]
theorem sortP_succ {l : List Bn} {i : Nat} (hi : i < l.length) : sortP κ l (i + 1) = ins κ l[i] (sortP κ l i) := by
  unfold sortP sortL
  rw [List.take_succ_eq_append_getElem hi, List.foldl_append]
  rfl
theorem sortP_len (l : List Bn) : ∀ i, i ≤ l.length → (sortP κ l i).length = i
  | 0, _ => by rw [sortP_zero]; rfl
  | i + 1, h => by rw [sortP_succ (κ := κ) (by omega), ins_len, sortP_len l i (by omega)]
theorem sortP_all (l : List Bn) : sortP κ l l.length = sortL κ l := by unfold sortP; rw [List.take_length]
/-- out with a hole at k -/
structure Hole (κ : Bn → K3) (x : Bn) (out R : List Bn) (k : Nat) : Prop where
  len : R.length = out.length + 1
  le : k ≤ out.length
  lo : ∀ j, j < k → R[j]? = out[j]?
  hi : ∀ j, k < j → j ≤ out.length → R[j]? = out[j - 1]?
  at_ : insK κ x out out.length = insK κ x out k
theorem Hole.start (x : Bn) (out : List Bn) : Hole κ x out (out ++ [x]) out.length :=
  ⟨by simp, Nat.le_refl _, fun j hj => List.getElem?_append_left hj, fun j h1 h2 => by omega, rfl⟩
theorem Hole.down {x : Bn} {out R : List Bn} {k : Nat} (h : Hole κ x out R (k + 1)) {y : Bn} (hy : R[k]? = some y) (hb : before (κ x) (κ y) = true) : Hole κ x out (R.set (k + 1) y) k := by
  have hk := h.le
  have hl := h.len
  have hyo : out[k]? = some y := by rw [← h.lo k (by omega)]; exact hy
  refine ⟨by rw [List.length_set]; exact h.len, by omega, fun j hj => ?_, fun j h1 h2 => ?_, ?_⟩
  · rw [List.getElem?_set_ne (by omega)]
    exact h.lo j (by omega)
  · by_cases e : j = k + 1
    · subst e
      rw [List.getElem?_set_self (by omega)]
      exact hyo.symm
    · rw [List.getElem?_set_ne (by omega)]
      exact h.hi j (by omega) h2
  · rw [h.at_]
    show (match out[k]? with | some y => if before (κ x) (κ y) then insK κ x out k else k + 1 | none => k + 1) = _
    rw [hyo]
    show (if before (κ x) (κ y) then insK κ x out k else k + 1) = _
    rw [hb]
    rfl
theorem Hole.fin {x : Bn} {out R : List Bn} {k : Nat} (h : Hole κ x out R k) (hk : insK κ x out k = k) : R.set k x = ins κ x out := by
  have hle := h.le
  have hlen := h.len
  unfold ins
  rw [h.at_, hk]
  apply List.ext_getElem?
  intro j
  by_cases h1 : j < k
  · rw [List.getElem?_set_ne (by omega), h.lo j h1, List.getElem?_append_left (by rw [List.length_take]; omega), List.getElem?_take, if_pos h1]
  · rw [List.getElem?_append_right (by rw [List.length_take]; omega), List.length_take, Nat.min_eq_left hle]
    by_cases h2 : j = k
    · subst h2
      rw [List.getElem?_set_self (by omega), Nat.sub_self]
      rfl
    · rw [List.getElem?_set_ne (by omega)]
      obtain ⟨m, hm⟩ : ∃ m, j - k = m + 1 := ⟨j - k - 1, by omega⟩
      rw [hm, List.getElem?_cons_succ, List.getElem?_drop]
      by_cases h3 : j ≤ out.length
      · rw [h.hi j (by omega) h3]
        congr 1
        omega
      · rw [List.getElem?_eq_none (by omega), List.getElem?_eq_none (by omega)]
theorem Hole.stop {x : Bn} {out R : List Bn} {k : Nat} (h : Hole κ x out R (k + 1)) {y : Bn} (hy : R[k]? = some y) (hb : before (κ x) (κ y) = false) : insK κ x out (k + 1) = k + 1 := by
  have hyo : out[k]? = some y := by rw [← h.lo k (by omega)]; exact hy
  show (match out[k]? with | some y => if before (κ x) (κ y) then insK κ x out k else k + 1 | none => k + 1) = _
  rw [hyo]
  show (if before (κ x) (κ y) then insK κ x out k else k + 1) = _
  rw [hb]
  rfl
theorem before_iff (a b : K3) : before a b = true ↔ (a.1 < b.1 ∨ (a.1 = b.1 ∧ (a.2.1 < b.2.1 ∨ (a.2.1 = b.2.1 ∧ a.2.2 < b.2.2)))) := by
  unfold before
  split
  · rename_i h
    simp only [decide_eq_true_eq]
    constructor
    · exact fun h1 => .inl h1
    · rintro (h1 | ⟨h1, _⟩)
      · exact h1
      · exact absurd h1 h
  · rename_i h
    have h : a.1 = b.1 := Classical.not_not.1 h
    split
    · rename_i h2
      simp only [decide_eq_true_eq]
      constructor
      · exact fun h1 => .inr ⟨h, .inl h1⟩
      · rintro (h1 | ⟨_, h1 | ⟨h1, _⟩⟩)
        · omega
        · exact h1
        · exact absurd h1 h2
    · rename_i h2
      have h2 : a.2.1 = b.2.1 := Classical.not_not.1 h2
      simp only [decide_eq_true_eq]
      constructor
      · exact fun h1 => .inr ⟨h, .inr ⟨h2, h1⟩⟩
      · rintro (h1 | ⟨_, h1 | ⟨_, h1⟩⟩)
        · omega
        · omega
        · exact h1
theorem before_not (a b : K3) : before a b = false ↔ ¬ (a.1 < b.1 ∨ (a.1 = b.1 ∧ (a.2.1 < b.2.1 ∨ (a.2.1 = b.2.1 ∧ a.2.2 < b.2.2)))) := by
  rw [← before_iff, Bool.not_eq_true]
theorem before_irr (a : K3) : before a a = false := by
  rw [before_not]; omega
theorem before_asym {a b : K3} (h : before a b = true) : before b a = false := by
  rw [before_iff] at h
  rw [before_not]
  omega
theorem before_trans {a b c : K3} (h : before a b = true) (h2 : before b c = true) : before a c = true := by
  rw [before_iff] at h h2 ⊢
  omega
/-- 'not ahead of', twice -/
theorem le_trans' {a b c : K3} (h : before b a = false) (h2 : before c b = false) : before c a = false := by
  rw [before_not] at h h2 ⊢
  omega
theorem lt_le {a b c : K3} (h : before a b = true) (h2 : before c b = false) : before a c = true := by
  rw [before_iff] at h ⊢
  rw [before_not] at h2
  omega
theorem le_lt {a b c : K3} (h : before b a = false) (h2 : before b c = true) : before a c = true := by
  rw [before_not] at h
  rw [before_iff] at h2 ⊢
  omega
theorem same_of {a b : K3} (h : before b a = false) (h2 : before a b = false) : a = b := by
  rw [before_not] at h h2
  obtain ⟨a1, a2, a3⟩ := a
  obtain ⟨b1, b2, b3⟩ := b
  simp only at h h2
  have h3 : a1 = b1 := by omega
  subst h3
  have h4 : a2 = b2 := by omega
  subst h4
  have h5 : a3 = b3 := by omega
  rw [h5]
theorem ne_of_lt {a b : K3} (h : before a b = true) : a ≠ b := fun e => by
  rw [e, before_irr] at h
  cases h
/-- in the order of their names -/
def Srt (κ : Bn → K3) (l : List Bn) : Prop := l.Pairwise fun a b => before (κ b) (κ a) = false
/-- those of one name -/
def flt (κ : Bn → K3) (k : K3) (l : List Bn) : List Bn := l.filter fun b => decide ((κ b) = k)
/-- the same ones, those of one name in the same order -/
def Alike (κ : Bn → K3) (l m : List Bn) : Prop := ∀ k, flt κ k l = flt κ k m
theorem flt_app (k : K3) (a b : List Bn) : flt κ k (a ++ b) = flt κ k a ++ flt κ k b := List.filter_append ..
theorem Alike.refl (l : List Bn) : Alike κ l l := fun _ => rfl
theorem Alike.symm {l m : List Bn} (h : Alike κ l m) : Alike κ m l := fun k => (h k).symm
theorem Alike.trans {l m n : List Bn} (h : Alike κ l m) (h2 : Alike κ m n) : Alike κ l n := fun k => (h k).trans (h2 k)
theorem Alike.app {a b c d : List Bn} (h : Alike κ a b) (h2 : Alike κ c d) : Alike κ (a ++ c) (b ++ d) := fun k => by rw [flt_app, flt_app, h k, h2 k]
theorem Alike.mem {l m : List Bn} (h : Alike κ l m) {x : Bn} (hx : x ∈ l) : x ∈ m := by
  have : x ∈ flt κ (κ x) l := List.mem_filter.2 ⟨hx, by simp⟩
  rw [h] at this
  exact (List.mem_filter.1 this).1
theorem flt_none {k : K3} {l : List Bn} (h : ∀ x ∈ l, (κ x) ≠ k) : flt κ k l = [] := by
  unfold flt
  rw [List.filter_eq_nil_iff]
  intro x hx
  simpa using h x hx
theorem Alike.swap {p q : List Bn} (h : ∀ x ∈ p, ∀ y ∈ q, (κ x) ≠ (κ y)) : Alike κ (p ++ q) (q ++ p) := fun k => by
  rw [flt_app, flt_app]
  by_cases hp : ∃ x ∈ p, (κ x) = k
  · obtain ⟨x, hx, rfl⟩ := hp
    have : flt κ (κ x) q = [] := flt_none fun y hy e => h x hx y hy e.symm
    rw [this, List.append_nil, List.nil_append]
  · have : flt κ k p = [] := flt_none fun x hx e => hp ⟨x, hx, e⟩
    rw [this, List.append_nil, List.nil_append]
theorem alike_nil {l : List Bn} (h : Alike κ [] l) : l = [] := by
  cases l with
  | nil => rfl
  | cons x r =>
    have := h.symm.mem (x := x) List.mem_cons_self
    cases this
theorem srt_app {a b : List Bn} : Srt κ (a ++ b) ↔ Srt κ a ∧ Srt κ b ∧ ∀ x ∈ a, ∀ y ∈ b, before (κ y) (κ x) = false := List.pairwise_append
theorem uniq : ∀ (l m : List Bn), Srt κ l → Srt κ m → Alike κ l m → l = m
  | [], m, _, _, h => (alike_nil h).symm
  | x :: r, [], _, _, h => alike_nil h.symm
  | x :: r, y :: s, h1, h2, h => by
    obtain ⟨p1, q1⟩ := List.pairwise_cons.1 h1
    obtain ⟨p2, q2⟩ := List.pairwise_cons.1 h2
    have hxy : before (κ y) (κ x) = false := by
      have : y ∈ x :: r := h.symm.mem List.mem_cons_self
      rcases List.mem_cons.1 this with e | hm
      · rw [e]; exact before_irr _
      · exact p1 y hm
    have hyx : before (κ x) (κ y) = false := by
      have : x ∈ y :: s := h.mem List.mem_cons_self
      rcases List.mem_cons.1 this with e | hm
      · rw [e]; exact before_irr _
      · exact p2 x hm
    have e := same_of hxy hyx
    have hk := h (κ x)
    unfold flt at hk
    rw [List.filter_cons_of_pos (by simp), List.filter_cons_of_pos (by simp [e])] at hk
    have exy : x = y := (List.cons.inj hk).1
    subst exy
    rw [uniq r s q1 q2 (fun k => by
      have hk := h k
      unfold flt at hk ⊢
      by_cases hx : (κ x) = k
      · rw [List.filter_cons_of_pos (by simpa using hx), List.filter_cons_of_pos (by simpa using hx)] at hk
        exact (List.cons.inj hk).2
      · rwa [List.filter_cons_of_neg (by simpa using hx), List.filter_cons_of_neg (by simpa using hx)] at hk)]
/-- an entity is put between those that it does not come ahead of and those that it comes ahead of -/
theorem srt_mid {a b : List Bn} {x : Bn} (h : Srt κ (a ++ b)) (h1 : ∀ y ∈ a, before (κ x) (κ y) = false) (h2 : ∀ y ∈ b, before (κ x) (κ y) = true) : Srt κ (a ++ x :: b) ∧ Alike κ (a ++ x :: b) ((a ++ b) ++ [x]) := by
  obtain ⟨ha, hb, hab⟩ := srt_app.1 h
  refine ⟨srt_app.2 ⟨ha, List.pairwise_cons.2 ⟨fun y hy => before_asym (h2 y hy), hb⟩, fun z hz y hy => ?_⟩, ?_⟩
  · rcases List.mem_cons.1 hy with rfl | hy
    · exact h1 z hz
    · exact hab z hz y hy
  · rw [List.append_assoc]
    refine Alike.app (Alike.refl a) ?_
    have := Alike.swap (p := [x]) (q := b) (fun u hu y hy => by
      rw [List.mem_singleton.1 hu]
      exact ne_of_lt (h2 y hy))
    exact this
theorem insK_hi (x : Bn) (out : List Bn) : ∀ k, k ≤ out.length → ∀ j y, insK κ x out k ≤ j → j < k → out[j]? = some y → before (κ x) (κ y) = true
  | 0, _, j, y, _, h, _ => by omega
  | k + 1, hk, j, y, h1, h2, hy => by
    have e : out[k]? = some out[k] := List.getElem?_eq_getElem (by omega)
    unfold insK at h1
    rw [e] at h1
    simp only at h1
    by_cases hb : before (κ x) (κ out[k]) = true
    · rw [if_pos hb] at h1
      by_cases hj : j = k
      · subst hj
        rw [e] at hy
        rw [← Option.some.inj hy]
        exact hb
      · exact insK_hi x out k (by omega) j y h1 (by omega) hy
    · rw [if_neg hb] at h1
      omega
theorem insK_lo (x : Bn) (out : List Bn) : ∀ k, k ≤ out.length → insK κ x out k = 0 ∨ ∃ j y, insK κ x out k = j + 1 ∧ out[j]? = some y ∧ before (κ x) (κ y) = false
  | 0, _ => .inl rfl
  | k + 1, hk => by
    have e : out[k]? = some out[k] := List.getElem?_eq_getElem (by omega)
    unfold insK
    rw [e]
    simp only
    by_cases hb : before (κ x) (κ out[k]) = true
    · rw [if_pos hb]
      exact insK_lo x out k (by omega)
    · rw [if_neg hb]
      exact .inr ⟨k, _, rfl, e, by simpa using hb⟩
theorem ins_srt (x : Bn) {out : List Bn} (h : Srt κ out) : Srt κ (ins κ x out) ∧ Alike κ (ins κ x out) (out ++ [x]) := by
  have hle := insK_le (κ := κ) x out out.length
  have hsp : out = out.take (insK κ x out out.length) ++ out.drop (insK κ x out out.length) := (List.take_append_drop _ _).symm
  have h1 : ∀ y ∈ out.take (insK κ x out out.length), before (κ x) (κ y) = false := fun y hy => by
    rcases insK_lo (κ := κ) x out out.length (Nat.le_refl _) with h0 | ⟨j, z, e, hz, hb⟩
    · rw [h0] at hy
      simp at hy
    · obtain ⟨i, hi⟩ := List.mem_iff_getElem?.1 hy
      rw [e, List.getElem?_take] at hi
      split at hi
      · rename_i hlt
        by_cases hij : i = j
        · subst hij
          rw [hz] at hi
          rw [← Option.some.inj hi]
          exact hb
        · have hz' := (List.getElem?_eq_some_iff.1 hz)
          have hi' := (List.getElem?_eq_some_iff.1 hi)
          obtain ⟨hzl, hze⟩ := hz'
          obtain ⟨hil, hie⟩ := hi'
          have := List.pairwise_iff_getElem.1 h i j hil hzl (by omega)
          rw [hze, hie] at this
          exact le_trans' this hb
      · cases hi
  have h2 : ∀ y ∈ out.drop (insK κ x out out.length), before (κ x) (κ y) = true := fun y hy => by
    obtain ⟨i, hi⟩ := List.mem_iff_getElem?.1 hy
    rw [List.getElem?_drop] at hi
    exact insK_hi (κ := κ) x out out.length (Nat.le_refl _) _ y (by omega) (List.getElem?_eq_some_iff.1 hi).1 hi
  have := srt_mid (by rw [← hsp]; exact h) h1 h2
  unfold ins
  rw [← hsp] at this
  exact this
theorem sortL_go : ∀ (l out : List Bn), Srt κ out → Srt κ (l.foldl (fun o x => ins κ x o) out) ∧ Alike κ (l.foldl (fun o x => ins κ x o) out) (out ++ l)
  | [], out, h => ⟨h, by rw [List.append_nil]; exact Alike.refl _⟩
  | x :: r, out, h => by
    obtain ⟨h1, h2⟩ := ins_srt (κ := κ) x h
    obtain ⟨h3, h4⟩ := sortL_go r _ h1
    refine ⟨h3, h4.trans ?_⟩
    have := Alike.app h2 (Alike.refl r)
    rwa [List.append_assoc] at this
theorem sortL_srt (l : List Bn) : Srt κ (sortL κ l) ∧ Alike κ (sortL κ l) l := sortL_go (κ := κ) l [] List.Pairwise.nil
/-- there is just one -/
theorem sorted_is {l m : List Bn} (h : Srt κ m) (ha : Alike κ m l) : m = sortL κ l :=
  uniq _ _ h (sortL_srt (κ := κ) l).1 (ha.trans (sortL_srt (κ := κ) l).2.symm)
/-- two sorted rows of which the first one's tail and the second one's head are exchanged -/
theorem merge_parts {l1 l2 r1 r2 s1 s2 : List Bn} (hl : Srt κ (l1 ++ l2)) (hr : Srt κ (r1 ++ r2)) (h1 : ∀ x ∈ l1, ∀ y ∈ r2, before (κ y) (κ x) = false) (h2 : ∀ x ∈ l2, ∀ y ∈ r1, before (κ y) (κ x) = true)
    (hs1 : Srt κ s1) (ha1 : Alike κ s1 (l1 ++ r1)) (hs2 : Srt κ s2) (ha2 : Alike κ s2 (l2 ++ r2)) : Srt κ (s1 ++ s2) ∧ Alike κ (s1 ++ s2) ((l1 ++ l2) ++ (r1 ++ r2)) := by
  obtain ⟨_, _, hl3⟩ := srt_app.1 hl
  obtain ⟨_, _, hr3⟩ := srt_app.1 hr
  refine ⟨srt_app.2 ⟨hs1, hs2, fun x hx y hy => ?_⟩, ?_⟩
  · rcases List.mem_append.1 (ha1.mem hx) with hx | hx <;> rcases List.mem_append.1 (ha2.mem hy) with hy | hy
    · exact hl3 x hx y hy
    · exact h1 x hx y hy
    · exact before_asym (h2 y hy x hx)
    · exact hr3 x hx y hy
  · refine (Alike.app ha1 ha2).trans ?_
    have := Alike.app (Alike.app (Alike.refl l1) (Alike.swap (p := r1) (q := l2) (fun x hx y hy => ne_of_lt (h2 y hy x hx)))) (Alike.refl r2)
    simpa [List.append_assoc] using this
end Pz
end Go.Proofs.Ytfmbldjaknjgbaa
namespace Go.Proofs.Ytfmbldjaknjgbaa
open Go.RowKit Pz
set_option linter.unusedVariables false

set_option maxHeartbeats 4000000 in
theorem isnan_any (n : Int) (w : World) : Calls Try.prog 90 #[.int .i64 n] w fun e w' => e = .returned (.bool false) ∧ w = w' := by
  have h : (n != n) = false := by simp
  go_enter Try.func90, Try.ntmps90
  go_wp2
  go_ret
  exact ⟨rfl, rfl⟩

set_option maxHeartbeats 8000000 in
theorem cmpi_any (x y : Int) (w : World) : Calls Try.prog 83 #[.int .i64 x, .int .i64 y] w fun e w' => e = .returned (.int .i64 (cmpI x y)) ∧ w = w' := by
  have N := Lib.hid isnan_any
  unfold cmpI
  by_cases h1 : x < y
  · rw [if_pos h1]
    have t1 : decide (x < y) = true := decide_eq_true h1
    go_enter Try.func83, Try.ntmps83
    go_wp2_with (go_at_call 90; with_reducible refine (N.out _ _).mono ?_; rintro e w' ⟨rfl, rfl⟩)
    go_ret
    exact ⟨rfl, rfl⟩
  · rw [if_neg h1]
    have t1 : decide (x < y) = false := decide_eq_false h1
    by_cases h2 : x > y
    · rw [if_pos h2]
      have t2 : decide (x > y) = true := decide_eq_true h2
      go_enter Try.func83, Try.ntmps83
      go_wp2_with (go_at_call 90; with_reducible refine (N.out _ _).mono ?_; rintro e w' ⟨rfl, rfl⟩)
      go_ret
      exact ⟨rfl, rfl⟩
    · rw [if_neg h2]
      have t2 : decide (x > y) = false := decide_eq_false h2
      go_enter Try.func83, Try.ntmps83
      go_wp2_with (go_at_call 90; with_reducible refine (N.out _ _).mono ?_; rintro e w' ⟨rfl, rfl⟩)
      go_ret
      exact ⟨rfl, rfl⟩
set_option maxHeartbeats 8000000 in
/-- the first of three that is not 0 -/
theorem or_any {w : World} {b : Nat} {x y z : Int} (h0 : w.cell? ⟨b, 0, none⟩ = some (.int .i64 x)) (h1 : w.cell? ⟨b, 1, none⟩ = some (.int .i64 y)) (h2 : w.cell? ⟨b, 2, none⟩ = some (.int .i64 z)) :
    Calls Try.prog 82 #[.slice (some ⟨b, 0, none⟩) 3 3] w fun e w' => e = .returned (.int .i64 (orI x y z)) ∧ w = w' := by
  obtain ⟨r, hr⟩ : ∃ r, orI x y z = r := ⟨_, rfl⟩
  have R0 : Hid ((x != 0) = true → r = x) := Lib.hid fun h => by rw [← hr]; unfold orI; rw [if_pos (bne_iff_ne.1 h)]
  have R1 : Hid ((x != 0) = false → (y != 0) = true → r = y) := Lib.hid fun h h2 => by rw [← hr]; unfold orI; rw [if_neg (fun e => by rw [bne_iff_ne.2 e] at h; cases h), if_pos (bne_iff_ne.1 h2)]
  have R2 : Hid ((x != 0) = false → (y != 0) = false → r = z) := Lib.hid fun h h2 => by rw [← hr]; unfold orI; rw [if_neg (fun e => by rw [bne_iff_ne.2 e] at h; cases h), if_neg (fun e => by rw [bne_iff_ne.2 e] at h2; cases h2)]
  have R3 : Hid ((z != 0) = false → z = 0) := Lib.hid fun h => by simpa using h
  rw [hr]
  clear hr
  obtain ⟨tx, htx⟩ : ∃ t, (x != 0) = t := ⟨_, rfl⟩
  obtain ⟨ty, hty⟩ : ∃ t, (y != 0) = t := ⟨_, rfl⟩
  obtain ⟨tz, htz⟩ : ∃ t, (z != 0) = t := ⟨_, rfl⟩
  rw [htx, hty] at R1 R2
  rw [htx] at R0
  rw [htz] at R3
  go_enter Try.func82, Try.ntmps82
  go_wp2
  go_loopw [8] (fun ix wr => wr = w ∧ ((ix = .int .i64 0) ∨ (ix = .int .i64 1 ∧ tx = false) ∨ (ix = .int .i64 2 ∧ tx = false ∧ ty = false) ∨ (ix = .int .i64 3 ∧ tx = false ∧ ty = false ∧ tz = false))) (fun ix _ => 3 - (intOf ix).toNat)
  case atStart => exact ⟨rfl, .inl rfl⟩
  case round =>
    obtain ⟨rfl, rfl | ⟨rfl, rfl⟩ | ⟨rfl, rfl, rfl⟩ | ⟨rfl, rfl, rfl, rfl⟩⟩ := hrel
    · cases tx with
      | true =>
        have e := R0.out rfl
        subst e
        clear R0 R1 R2 R3
        go_wp2
        go_ret
        exact ⟨rfl, rfl⟩
      | false =>
        go_wp2
        go_roundw
        case rel => simp
        case measure => simp [intOf]
    · cases ty with
      | true =>
        have e := R1.out rfl rfl
        subst e
        clear R0 R1 R2 R3
        go_wp2
        go_ret
        exact ⟨rfl, rfl⟩
      | false =>
        go_wp2
        go_roundw
        case rel => simp
        case measure => simp [intOf]
    · cases tz with
      | true =>
        have e := R2.out rfl rfl
        subst e
        clear R0 R1 R2 R3
        go_wp2
        go_ret
        exact ⟨rfl, rfl⟩
      | false =>
        go_wp2
        go_roundw
        case rel => simp
        case measure => simp [intOf]
    · have e := (R2.out rfl rfl).trans (R3.out rfl)
      subst e
      clear R0 R1 R2 R3
      go_wp2
      go_ret
      exact ⟨rfl, rfl⟩
abbrev Trio (x y z : Int) : Og.Ph := Og.Fresh 0 #[.int .i64 x, .int .i64 y, .int .i64 z] 3 3
theorem or_trio {x y z r : Int} (hr : orI x y z = r) {W : World} {v : Value} (h : Trio x y z v W) : Calls Try.prog 82 #[v] W fun e w' => e = .returned (.int .i64 r) ∧ grows.r W w' := by
  obtain ⟨b, rfl, _, _, hb⟩ := h
  obtain ⟨⟨g0, g1, g2⟩, _⟩ := Bx.b3 hb
  subst hr
  exact Og.same (or_any g0 g1 g2)
set_option maxHeartbeats 16000000 in
set_option maxRecDepth 100000 in
theorem compare_any (a1 a2 a3 b1 b2 b3 : Int) (w : World) : Calls Try.prog 68 #[.agg #[.int .i64 a1, .int .i64 a2, .int .i64 a3], .agg #[.int .i64 b1, .int .i64 b2, .int .i64 b3]] w fun e w' => e = .returned (.int .i64 (cmpB (a1, a2, a3) (b1, b2, b3))) ∧ Below w.heap.size w w' := by
  have BE := Lib.hid (bel2 w (.cells #[.int .i64 a1, .int .i64 a2, .int .i64 a3] 32) (.cells #[.int .i64 b1, .int .i64 b2, .int .i64 b3] 32))
  have HA := at2a w (.cells #[.int .i64 a1, .int .i64 a2, .int .i64 a3] 32) (.cells #[.int .i64 b1, .int .i64 b2, .int .i64 b3] 32)
  have HB := at2b w (.cells #[.int .i64 a1, .int .i64 a2, .int .i64 a3] 32) (.cells #[.int .i64 b1, .int .i64 b2, .int .i64 b3] 32)
  have C1 : Hid (∀ W, Calls Try.prog 83 #[.int .i64 a1, .int .i64 b1] W fun e w' => e = .returned (.int .i64 (cmpI a1 b1)) ∧ W = w') := Lib.hid fun W => cmpi_any a1 b1 W
  have C2 : Hid (∀ W, Calls Try.prog 83 #[.int .i64 a2, .int .i64 b2] W fun e w' => e = .returned (.int .i64 (cmpI a2 b2)) ∧ W = w') := Lib.hid fun W => cmpi_any a2 b2 W
  have C3 : Hid (∀ W, Calls Try.prog 83 #[.int .i64 a3, .int .i64 b3] W fun e w' => e = .returned (.int .i64 (cmpI a3 b3)) ∧ W = w') := Lib.hid fun W => cmpi_any a3 b3 W
  unfold cmpB
  simp only
  generalize cmpI a1 b1 = x at *
  generalize cmpI a2 b2 = y at *
  generalize cmpI a3 b3 = z at *
  obtain ⟨r, hr⟩ : ∃ r, orI x y z = r := ⟨_, rfl⟩
  rw [hr]
  go_enter Try.func68, Try.ntmps68
  go_upto_region 1 with fail
  generalize (w.alloc (.cells #[.int .i64 a1, .int .i64 a2, .int .i64 a3] 32)).alloc (.cells #[.int .i64 b1, .int .i64 b2, .int .i64 b3] 32) = w1 at *
  have PA : ∀ p : Lat grows w1, p.W.cell? ⟨w.heap.size, 0, none⟩ = some (.int .i64 a1) ∧ p.W.cell? ⟨w.heap.size, 1, none⟩ = some (.int .i64 a2) ∧ p.W.cell? ⟨w.heap.size, 2, none⟩ = some (.int .i64 a3) := fun p => (Bx.b3 ((Below.block p.h _ (Bx.lt HA)).trans HA)).1
  have PB : ∀ p : Lat grows w1, p.W.cell? ⟨w.heap.size + 1, 0, none⟩ = some (.int .i64 b1) ∧ p.W.cell? ⟨w.heap.size + 1, 1, none⟩ = some (.int .i64 b2) ∧ p.W.cell? ⟨w.heap.size + 1, 2, none⟩ = some (.int .i64 b3) := fun p => (Bx.b3 ((Below.block p.h _ (Bx.lt HB)).trans HB)).1
  have k0 := fun p => (PA p).1
  have k1 := fun p => (PA p).2.1
  have k2 := fun p => (PA p).2.2
  have m0 := fun p => (PB p).1
  have m1 := fun p => (PB p).2.1
  have m2 := fun p => (PB p).2.2
  clear PA PB HA HB
  replace hr := Lib.hid hr
  refine Og.grow 18 (by kernel_rfl) (by kernel_rfl) fun hc hf => ?_
  clear hc hf
  simp only [List.take_succ_cons, List.take_zero, List.drop_succ_cons, List.drop_zero]
  iterate 4 (refine Og.det [] rfl (fun J hJ => ?_); go_simp; refine hJ _ _ ?_; clear hJ J)
  refine Og.det [] rfl (fun J hJ => ?_)
  go_simp
  with_reducible refine ⟨_, fun p => Og.same (C1.out p.W), hJ _ _ ?_⟩
  clear hJ J
  iterate 4 (refine Og.det [] rfl (fun J hJ => ?_); go_simp; refine hJ _ _ ?_; clear hJ J)
  refine Og.det [] rfl (fun J hJ => ?_)
  go_simp
  with_reducible refine ⟨_, fun p => Og.same (C2.out p.W), hJ _ _ ?_⟩
  clear hJ J
  iterate 4 (refine Og.det [] rfl (fun J hJ => ?_); go_simp; refine hJ _ _ ?_; clear hJ J)
  refine Og.det [] rfl (fun J hJ => ?_)
  go_simp
  with_reducible refine ⟨_, fun p => Og.same (C3.out p.W), hJ _ _ ?_⟩
  clear hJ J
  refine Og.such 20 (Trio x y z) [] rfl (Og.Fresh.lasts _ _ _ _) (Og.Fresh.noBool _ _ _ _) (fun J hJ => ?_)
  go_simp
  refine ⟨fun p => Og.Fresh.new p.W 0 (Nat.zero_le _) _ _ _, hJ _ _ ?_⟩
  clear hJ J
  refine Og.det [(20, Trio x y z)] rfl (fun J hJ => ?_)
  go_simp
  refine ⟨_, fun p v hv => or_trio hr.out hv, hJ _ _ ?_⟩
  clear hJ J
  refine Og.det [] rfl (fun J hJ => ?_); go_simp; refine hJ _ _ ?_; clear hJ J
  refine Og.fin fun W hW => ?_
  simp only [Og.opened_cons, Og.opened_nil]
  intro v20 hv20
  clear hv20
  have FIN := BE.out.trans (hW.mono BE.out.size)
  go_wp2
  go_ret
  exact ⟨rfl, FIN⟩
end Go.Proofs.Ytfmbldjaknjgbaa
namespace Go.Proofs.Ytfmbldjaknjgbaa
open Go.RowKit Pz
set_option linter.unusedVariables false

theorem lat_below {W : World} (p : Lat grows W) : Below W.heap.size W p.W := p.h
theorem push_bn (W : World) {B : Nat} {v : Value} {l : List Bn} (h : OwnB W B v l) (hB : B ≤ W.heap.size) (hl : l.length ≤ 10000) (x : Bn) (ty : TypeId) :
    ∃ v' w', (Builtin.append_ #[22, 22] ty #[v, .slice (some ⟨W.heap.size, 0, none⟩) 1 1]).run Try.prog (W.alloc (.cells #[.int .i64 x.s, .int .i64 x.i, .int .i64 x.g, .int .i64 x.m, .int .i64 x.x, .int .i64 x.y, .int .i64 x.vx, .int .i64 x.vy, .int .i64 x.h, .int .i64 x.p, .int .i64 x.l] 34)) = .ok v' w' ∧
      OwnB w' B v' (l ++ [x]) ∧ Below B W w' := by
  have h' : OwnB (W.alloc (.cells #[.int .i64 x.s, .int .i64 x.i, .int .i64 x.g, .int .i64 x.m, .int .i64 x.x, .int .i64 x.y, .int .i64 x.vx, .int .i64 x.vy, .int .i64 x.h, .int .i64 x.p, .int .i64 x.l] 34)) B v l := h.below (bel1 W _)
  obtain ⟨v', w', hr, ho, hg, hb⟩ := h'.app (P := Try.prog) (t := 22) (ty := ty) Try.underlying22 bundle_info rfl (by decide) bnE_len bnE_one (by rw [size1]; omega) [x] ⟨W.heap.size, 0, none⟩ 1 (fun j y hj => by
    match j, hj with
    | 0, hj =>
      simp only [List.getElem?_cons_zero, Option.some.injEq] at hj
      subst hj
      intro c u hu
      have hc : c < 11 := (List.getElem?_eq_some_iff.1 hu).1
      rw [Addr.add_mid, cellAt (heap_alloc_new W _)]
      have : c = 0 ∨ c = 1 ∨ c = 2 ∨ c = 3 ∨ c = 4 ∨ c = 5 ∨ c = 6 ∨ c = 7 ∨ c = 8 ∨ c = 9 ∨ c = 10 := by omega
      rcases this with rfl | rfl | rfl | rfl | rfl | rfl | rfl | rfl | rfl | rfl | rfl <;> simpa [bnE] using hu) (by simp; omega) (by decide) (.inl (by simp))
  refine ⟨v', w', hr, ho, ((Below.refl B W).alloc hB _).grown hg (by rw [size1]; omega) (fun k hk => (h'.blk hk).1)⟩
/-- an entity is put at a place of one's own row -/
theorem row_put {W : World} {B n c : Nat} {A : Option Addr} {R : List Bn} (h : OwnB W B (.slice A n c) R) (hn : R.length = n) {k : Nat} (hk : k < n) (x : Bn) :
    ∃ g o, A = some ⟨g, o, none⟩ ∧ (∃ y : Bn, R[k]? = some y ∧ (W.cell? ⟨g, o + k * 11, none⟩ = some (.int .i64 y.s) ∧ W.cell? ⟨g, o + k * 11 + 1, none⟩ = some (.int .i64 y.i) ∧ W.cell? ⟨g, o + k * 11 + 2, none⟩ = some (.int .i64 y.g) ∧ W.cell? ⟨g, o + k * 11 + 3, none⟩ = some (.int .i64 y.m) ∧ W.cell? ⟨g, o + k * 11 + 4, none⟩ = some (.int .i64 y.x) ∧ W.cell? ⟨g, o + k * 11 + 5, none⟩ = some (.int .i64 y.y) ∧ W.cell? ⟨g, o + k * 11 + 6, none⟩ = some (.int .i64 y.vx) ∧ W.cell? ⟨g, o + k * 11 + 7, none⟩ = some (.int .i64 y.vy) ∧ W.cell? ⟨g, o + k * 11 + 8, none⟩ = some (.int .i64 y.h) ∧ W.cell? ⟨g, o + k * 11 + 9, none⟩ = some (.int .i64 y.p) ∧ W.cell? ⟨g, o + k * 11 + 10, none⟩ = some (.int .i64 y.l))) ∧ (W.frozen? ⟨g, o + k * 11, none⟩ = false ∧ W.frozen? ⟨g, o + k * 11 + 1, none⟩ = false ∧ W.frozen? ⟨g, o + k * 11 + 2, none⟩ = false ∧ W.frozen? ⟨g, o + k * 11 + 3, none⟩ = false ∧ W.frozen? ⟨g, o + k * 11 + 4, none⟩ = false ∧ W.frozen? ⟨g, o + k * 11 + 5, none⟩ = false ∧ W.frozen? ⟨g, o + k * 11 + 6, none⟩ = false ∧ W.frozen? ⟨g, o + k * 11 + 7, none⟩ = false ∧ W.frozen? ⟨g, o + k * 11 + 8, none⟩ = false ∧ W.frozen? ⟨g, o + k * 11 + 9, none⟩ = false ∧ W.frozen? ⟨g, o + k * 11 + 10, none⟩ = false) ∧ Hid (OwnB (((((((((((W.setCell ⟨g, o + k * 11, none⟩ (.int .i64 x.s)).setCell ⟨g, o + k * 11 + 1, none⟩ (.int .i64 x.i)).setCell ⟨g, o + k * 11 + 2, none⟩ (.int .i64 x.g)).setCell ⟨g, o + k * 11 + 3, none⟩ (.int .i64 x.m)).setCell ⟨g, o + k * 11 + 4, none⟩ (.int .i64 x.x)).setCell ⟨g, o + k * 11 + 5, none⟩ (.int .i64 x.y)).setCell ⟨g, o + k * 11 + 6, none⟩ (.int .i64 x.vx)).setCell ⟨g, o + k * 11 + 7, none⟩ (.int .i64 x.vy)).setCell ⟨g, o + k * 11 + 8, none⟩ (.int .i64 x.h)).setCell ⟨g, o + k * 11 + 9, none⟩ (.int .i64 x.p)).setCell ⟨g, o + k * 11 + 10, none⟩ (.int .i64 x.l)) B (.slice (some ⟨g, o, none⟩) n c) (R.set k x) ∧ Below B W (((((((((((W.setCell ⟨g, o + k * 11, none⟩ (.int .i64 x.s)).setCell ⟨g, o + k * 11 + 1, none⟩ (.int .i64 x.i)).setCell ⟨g, o + k * 11 + 2, none⟩ (.int .i64 x.g)).setCell ⟨g, o + k * 11 + 3, none⟩ (.int .i64 x.m)).setCell ⟨g, o + k * 11 + 4, none⟩ (.int .i64 x.x)).setCell ⟨g, o + k * 11 + 5, none⟩ (.int .i64 x.y)).setCell ⟨g, o + k * 11 + 6, none⟩ (.int .i64 x.vx)).setCell ⟨g, o + k * 11 + 7, none⟩ (.int .i64 x.vy)).setCell ⟨g, o + k * 11 + 8, none⟩ (.int .i64 x.h)).setCell ⟨g, o + k * 11 + 9, none⟩ (.int .i64 x.p)).setCell ⟨g, o + k * 11 + 10, none⟩ (.int .i64 x.l))) := by
  subst hn
  obtain ⟨g, o, rfl, hB, hc, hf⟩ := own_at h (List.getElem?_eq_getElem hk)
  obtain ⟨h1, h2⟩ := own_set h hk x
  exact ⟨g, o, rfl, ⟨_, List.getElem?_eq_getElem hk, hc⟩, hf, Lib.hid ⟨h1, h2 B hB⟩⟩
end Go.Proofs.Ytfmbldjaknjgbaa
namespace Go.Proofs.Ytfmbldjaknjgbaa
open Go.RowKit Pz Go.Shelf
set_option linter.unusedVariables false

namespace Pz
theorem cmpB_cases (a b : K3) : (before a b = true ∧ cmpB a b = -1) ∨ (before b a = true ∧ cmpB a b = 1) ∨ (a = b ∧ cmpB a b = 0) := by
  obtain ⟨a1, a2, a3⟩ := a
  obtain ⟨b1, b2, b3⟩ := b
  rw [before_iff, before_iff]
  unfold cmpB orI cmpI
  simp only
  by_cases h1 : a1 < b1
  · refine .inl ⟨.inl h1, ?_⟩
    rw [if_pos h1]; rfl
  · by_cases h2 : a1 > b1
    · refine .inr (.inl ⟨.inl h2, ?_⟩)
      rw [if_neg h1, if_pos h2]; rfl
    · have e1 : a1 = b1 := by omega
      subst e1
      by_cases h3 : a2 < b2
      · refine .inl ⟨.inr ⟨rfl, .inl h3⟩, ?_⟩
        rw [if_neg h1, if_neg h2, if_pos h3]; rfl
      · by_cases h4 : a2 > b2
        · refine .inr (.inl ⟨.inr ⟨rfl, .inl h4⟩, ?_⟩)
          rw [if_neg h1, if_neg h2, if_neg h3, if_pos h4]; rfl
        · have e2 : a2 = b2 := by omega
          subst e2
          by_cases h5 : a3 < b3
          · refine .inl ⟨.inr ⟨rfl, .inr ⟨rfl, h5⟩⟩, ?_⟩
            rw [if_neg h1, if_neg h2, if_neg h3, if_neg h4, if_pos h5]; rfl
          · by_cases h6 : a3 > b3
            · refine .inr (.inl ⟨.inr ⟨rfl, .inr ⟨rfl, h6⟩⟩, ?_⟩)
              rw [if_neg h1, if_neg h2, if_neg h3, if_neg h4, if_neg h5, if_pos h6]; rfl
            · have e3 : a3 = b3 := by omega
              subst e3
              refine .inr (.inr ⟨rfl, ?_⟩)
              rw [if_neg h1, if_neg h2, if_neg h3, if_neg h4, if_neg h5, if_neg h6]; rfl
theorem cmp_lt (a b : K3) : decide (cmpB a b < 0) = before a b := by
  rcases cmpB_cases a b with ⟨h, e⟩ | ⟨h, e⟩ | ⟨h, e⟩
  · rw [e, h]; rfl
  · rw [e, before_asym h]; rfl
  · rw [e, h, before_irr]; rfl
theorem cmp_ge (a b : K3) : decide (cmpB a b ≥ 0) = !before a b := by
  rcases cmpB_cases a b with ⟨h, e⟩ | ⟨h, e⟩ | ⟨h, e⟩
  · rw [e, h]; rfl
  · rw [e, before_asym h]; rfl
  · rw [e, h, before_irr]; rfl
end Pz
/-- a function that compares by a key, as long as what lies below a bound stays -/
structure CmpAt (κ : Bn → K3) (fn : Nat) (cap : Array Value) (B : Nat) (w : World) : Prop where
  ent : ∀ args W, (callFunc fn args).run Try.prog W = .ok (.enter fn args) W
  less : ∀ (x y : Bn) (W : World), Below B w W → Calls Try.prog fn (#[x.val, y.val] ++ cap) W fun e w' => e = .returned (.int .i64 (cmpB (κ x) (κ y))) ∧ Below W.heap.size W w'
theorem CmpAt.below {κ : Bn → K3} {fn : Nat} {cap : Array Value} {B : Nat} {w W : World} (h : CmpAt κ fn cap B w) (hb : Below B w W) : CmpAt κ fn cap B W :=
  ⟨h.ent, fun x y V hV => h.less x y V (hb.trans hV)⟩
theorem enters42 : ∀ args w, (callFunc 67 args).run Try.prog w = .ok (.enter 67 args) w := enters_of Try.func67 (by kernel_rfl) rfl
set_option maxHeartbeats 16000000 in
set_option maxRecDepth 100000 in
/-- the comparison that sorts -/
theorem less_any (b c : Bn) (w : World) : Calls Try.prog 67 #[b.val, c.val] w fun e w' => e = .returned (.int .i64 (cmpB b.id c.id)) ∧ Below w.heap.size w w' := by
  have C1 : Hid (∀ W, Calls Try.prog 68 #[.agg #[.int .i64 b.s, .int .i64 b.i, .int .i64 b.g], .agg #[.int .i64 c.s, .int .i64 c.i, .int .i64 c.g]] W fun e w' => e = .returned (.int .i64 (cmpB b.id c.id)) ∧ Below W.heap.size W w') := Lib.hid fun W => compare_any _ _ _ _ _ _ W
  generalize cmpB b.id c.id = r at *
  obtain ⟨ubs, ubi, ubg, ubm, ubx, uby, ubvx, ubvy, ubh, ubp, ubl⟩ := b
  obtain ⟨ucs, uci, ucg, ucm, ucx, ucy, ucvx, ucvy, uch, ucp, ucl⟩ := c
  simp only [Bn.val] at *
  have FIN := Lib.hid (bel2 w (.cells #[.int .i64 ubs, .int .i64 ubi, .int .i64 ubg, .int .i64 ubm, .int .i64 ubx, .int .i64 uby, .int .i64 ubvx, .int .i64 ubvy, .int .i64 ubh, .int .i64 ubp, .int .i64 ubl] 34) (.cells #[.int .i64 ucs, .int .i64 uci, .int .i64 ucg, .int .i64 ucm, .int .i64 ucx, .int .i64 ucy, .int .i64 ucvx, .int .i64 ucvy, .int .i64 uch, .int .i64 ucp, .int .i64 ucl] 34))
  obtain ⟨⟨k0, k1, k2, _⟩, _⟩ := Bx.b11 (at2a w (.cells #[.int .i64 ubs, .int .i64 ubi, .int .i64 ubg, .int .i64 ubm, .int .i64 ubx, .int .i64 uby, .int .i64 ubvx, .int .i64 ubvy, .int .i64 ubh, .int .i64 ubp, .int .i64 ubl] 34) (.cells #[.int .i64 ucs, .int .i64 uci, .int .i64 ucg, .int .i64 ucm, .int .i64 ucx, .int .i64 ucy, .int .i64 ucvx, .int .i64 ucvy, .int .i64 uch, .int .i64 ucp, .int .i64 ucl] 34))
  obtain ⟨⟨m0, m1, m2, _⟩, _⟩ := Bx.b11 (at2b w (.cells #[.int .i64 ubs, .int .i64 ubi, .int .i64 ubg, .int .i64 ubm, .int .i64 ubx, .int .i64 uby, .int .i64 ubvx, .int .i64 ubvy, .int .i64 ubh, .int .i64 ubp, .int .i64 ubl] 34) (.cells #[.int .i64 ucs, .int .i64 uci, .int .i64 ucg, .int .i64 ucm, .int .i64 ucx, .int .i64 ucy, .int .i64 ucvx, .int .i64 ucvy, .int .i64 uch, .int .i64 ucp, .int .i64 ucl] 34))
  generalize hww : (w.alloc (.cells #[.int .i64 ubs, .int .i64 ubi, .int .i64 ubg, .int .i64 ubm, .int .i64 ubx, .int .i64 uby, .int .i64 ubvx, .int .i64 ubvy, .int .i64 ubh, .int .i64 ubp, .int .i64 ubl] 34)).alloc (.cells #[.int .i64 ucs, .int .i64 uci, .int .i64 ucg, .int .i64 ucm, .int .i64 ucx, .int .i64 ucy, .int .i64 ucvx, .int .i64 ucvy, .int .i64 uch, .int .i64 ucp, .int .i64 ucl] 34) = w1 at *
  go_enter Try.func67, Try.ntmps67
  go_wp2_with (go_at_call 68; with_reducible refine (C1.out _).mono ?_; rintro e w' ⟨rfl, hb2⟩; replace FIN := Lib.hid (FIN.out.trans (hb2.mono FIN.out.size)))
  go_ret
  exact ⟨rfl, FIN.out⟩
theorem cmp_names (B : Nat) (w : World) : CmpAt Bn.id 67 #[] B w :=
  ⟨enters42, fun x y W _ => by simpa using less_any x y W⟩
end Go.Proofs.Ytfmbldjaknjgbaa
namespace Go.Proofs.Ytfmbldjaknjgbaa
open Go.RowKit Pz
set_option linter.unusedVariables false
variable {κ : Bn → K3} {fn : Nat} {cap : Array Value}

namespace Pz
/-- two exchanged -/
def sw (l : List Bn) (i j : Nat) : List Bn := match l[i]?, l[j]? with | some x, some y => (l.set i y).set j x | _, _ => l
theorem sw_is {l : List Bn} {i j : Nat} {x y : Bn} (hx : l[i]? = some x) (hy : l[j]? = some y) : sw l i j = (l.set i y).set j x := by
  unfold sw
  rw [hx, hy]
theorem sw_len (l : List Bn) (i j : Nat) : (sw l i j).length = l.length := by
  unfold sw
  split
  · rw [List.length_set, List.length_set]
  · rfl
/-- n in a row -/
def swr (l : List Bn) (a b : Nat) : Nat → List Bn
  | 0 => l
  | n + 1 => swr (sw l a b) (a + 1) (b + 1) n
theorem swr_len : ∀ (n : Nat) (l : List Bn) (a b : Nat), (swr l a b n).length = l.length
  | 0, _, _, _ => rfl
  | n + 1, l, a, b => by
    rw [swr, swr_len n, sw_len]
theorem sw_parts (P M Q : List Bn) (x y : Bn) : sw (P ++ x :: (M ++ y :: Q)) P.length (P.length + 1 + M.length) = P ++ y :: (M ++ x :: Q) := by
  have e1 : (P ++ x :: (M ++ y :: Q))[P.length]? = some x := by rw [List.getElem?_append_right (Nat.le_refl _), Nat.sub_self]; rfl
  have e2 : (P ++ x :: (M ++ y :: Q))[P.length + 1 + M.length]? = some y := by
    rw [List.getElem?_append_right (by omega), show P.length + 1 + M.length - P.length = M.length + 1 by omega, List.getElem?_cons_succ, List.getElem?_append_right (Nat.le_refl _), Nat.sub_self]
    rfl
  rw [sw_is e1 e2, List.set_append_right _ _ (Nat.le_refl _), Nat.sub_self, List.set_cons_zero, List.set_append_right _ _ (by omega), show P.length + 1 + M.length - P.length = M.length + 1 by omega, List.set_cons_succ, List.set_append_right _ _ (Nat.le_refl _), Nat.sub_self, List.set_cons_zero]
theorem swr_parts : ∀ (X Y P M Q : List Bn), X.length = Y.length → swr (P ++ (X ++ (M ++ (Y ++ Q)))) P.length (P.length + X.length + M.length) X.length = P ++ (Y ++ (M ++ (X ++ Q)))
  | [], [], P, M, Q, _ => rfl
  | [], y :: Y, _, _, _, h => by simp at h
  | x :: X, [], _, _, _, h => by simp at h
  | x :: X, y :: Y, P, M, Q, h => by
    have h : X.length = Y.length := by simpa using h
    have e := sw_parts P (X ++ M) (Y ++ Q) x y
    have ih := swr_parts X Y (P ++ [y]) (M ++ [x]) Q h
    simp only [List.length_append, List.length_cons, List.length_nil, List.append_assoc, List.cons_append, List.nil_append, Nat.zero_add] at e ih ⊢
    rw [swr]
    rw [show P.length + (X.length + 1) + M.length = P.length + 1 + (X.length + M.length) by omega, e]
    rw [show P.length + 1 + (X.length + M.length) + 1 = P.length + 1 + X.length + (M.length + 1) by omega]
    exact ih
end Pz
/-- what a call of the sort's may do: the row is another one, all that lies below stays -/
structure Rs (B : Nat) (A : Option Addr) (N c : Nat) (d : List Bn) (w W : World) : Prop where
  own : OwnB W B (.slice A N c) d
  len : d.length = N
  bel : Below B w W
theorem Rs.grown {B : Nat} {A : Option Addr} {N c : Nat} {d : List Bn} {w W W2 : World} (h : Rs B A N c d w W) (hB : B ≤ W.heap.size) (hb : Below W.heap.size W W2) : Rs B A N c d w W2 :=
  ⟨h.own.below hb, h.len, h.bel.trans (hb.mono hB)⟩
theorem Rs.again {B : Nat} {A : Option Addr} {N c : Nat} {d d2 : List Bn} {w W W2 : World} (h : Rs B A N c d w W) (h2 : Rs B A N c d2 W W2) : Rs B A N c d2 w W2 := ⟨h2.own, h2.len, h.bel.trans h2.bel⟩
theorem Rs.room {B : Nat} {A : Option Addr} {N c : Nat} {d : List Bn} {w W : World} (h : Rs B A N c d w W) {k : Nat} (hk : k < N) : B < W.heap.size := by
  have hk' : k < d.length := by rw [h.len]; exact hk
  have ho := h.own
  rw [← h.len] at ho
  obtain ⟨g, o, c', e, h1, h2, _⟩ := ho.at_ (List.getElem?_eq_getElem hk')
  omega
/-- one entity is read -/
theorem Rs.get {B : Nat} {A : Option Addr} {N c : Nat} {d : List Bn} {w W : World} (h : Rs B A N c d w W) {k : Nat} {x : Bn} (hk : d[k]? = some x) :
    ∃ g o, A = some ⟨g, o, none⟩ ∧ ∀ p : Lat grows W, (p.W.cell? ⟨g, o + k * 11, none⟩ = some (.int .i64 x.s) ∧ p.W.cell? ⟨g, o + k * 11 + 1, none⟩ = some (.int .i64 x.i) ∧ p.W.cell? ⟨g, o + k * 11 + 2, none⟩ = some (.int .i64 x.g) ∧ p.W.cell? ⟨g, o + k * 11 + 3, none⟩ = some (.int .i64 x.m) ∧ p.W.cell? ⟨g, o + k * 11 + 4, none⟩ = some (.int .i64 x.x) ∧ p.W.cell? ⟨g, o + k * 11 + 5, none⟩ = some (.int .i64 x.y) ∧ p.W.cell? ⟨g, o + k * 11 + 6, none⟩ = some (.int .i64 x.vx) ∧ p.W.cell? ⟨g, o + k * 11 + 7, none⟩ = some (.int .i64 x.vy) ∧ p.W.cell? ⟨g, o + k * 11 + 8, none⟩ = some (.int .i64 x.h) ∧ p.W.cell? ⟨g, o + k * 11 + 9, none⟩ = some (.int .i64 x.p) ∧ p.W.cell? ⟨g, o + k * 11 + 10, none⟩ = some (.int .i64 x.l)) := by
  have ho := h.own
  rw [← h.len] at ho
  obtain ⟨g, o, e, hB, hc, hf⟩ := own_at ho hk
  refine ⟨g, o, e, fun p => ?_⟩
  have R := RdB.of_own ho
  obtain ⟨g', o', e', _, hc'⟩ := (R.below (lat_below p)) k x hk
  rw [e] at e'
  cases e'
  exact hc'
/-- one entity is put -/
theorem Rs.put {B : Nat} {A : Option Addr} {N c : Nat} {d : List Bn} {w W : World} (h : Rs B A N c d w W) {k : Nat} (hk : k < N) (x : Bn) :
    ∃ g o, A = some ⟨g, o, none⟩ ∧ (∃ y : Bn, (W.cell? ⟨g, o + k * 11, none⟩ = some (.int .i64 y.s) ∧ W.cell? ⟨g, o + k * 11 + 1, none⟩ = some (.int .i64 y.i) ∧ W.cell? ⟨g, o + k * 11 + 2, none⟩ = some (.int .i64 y.g) ∧ W.cell? ⟨g, o + k * 11 + 3, none⟩ = some (.int .i64 y.m) ∧ W.cell? ⟨g, o + k * 11 + 4, none⟩ = some (.int .i64 y.x) ∧ W.cell? ⟨g, o + k * 11 + 5, none⟩ = some (.int .i64 y.y) ∧ W.cell? ⟨g, o + k * 11 + 6, none⟩ = some (.int .i64 y.vx) ∧ W.cell? ⟨g, o + k * 11 + 7, none⟩ = some (.int .i64 y.vy) ∧ W.cell? ⟨g, o + k * 11 + 8, none⟩ = some (.int .i64 y.h) ∧ W.cell? ⟨g, o + k * 11 + 9, none⟩ = some (.int .i64 y.p) ∧ W.cell? ⟨g, o + k * 11 + 10, none⟩ = some (.int .i64 y.l))) ∧ (W.frozen? ⟨g, o + k * 11, none⟩ = false ∧ W.frozen? ⟨g, o + k * 11 + 1, none⟩ = false ∧ W.frozen? ⟨g, o + k * 11 + 2, none⟩ = false ∧ W.frozen? ⟨g, o + k * 11 + 3, none⟩ = false ∧ W.frozen? ⟨g, o + k * 11 + 4, none⟩ = false ∧ W.frozen? ⟨g, o + k * 11 + 5, none⟩ = false ∧ W.frozen? ⟨g, o + k * 11 + 6, none⟩ = false ∧ W.frozen? ⟨g, o + k * 11 + 7, none⟩ = false ∧ W.frozen? ⟨g, o + k * 11 + 8, none⟩ = false ∧ W.frozen? ⟨g, o + k * 11 + 9, none⟩ = false ∧ W.frozen? ⟨g, o + k * 11 + 10, none⟩ = false) ∧ Hid (Rs B A N c (d.set k x) w (((((((((((W.setCell ⟨g, o + k * 11, none⟩ (.int .i64 x.s)).setCell ⟨g, o + k * 11 + 1, none⟩ (.int .i64 x.i)).setCell ⟨g, o + k * 11 + 2, none⟩ (.int .i64 x.g)).setCell ⟨g, o + k * 11 + 3, none⟩ (.int .i64 x.m)).setCell ⟨g, o + k * 11 + 4, none⟩ (.int .i64 x.x)).setCell ⟨g, o + k * 11 + 5, none⟩ (.int .i64 x.y)).setCell ⟨g, o + k * 11 + 6, none⟩ (.int .i64 x.vx)).setCell ⟨g, o + k * 11 + 7, none⟩ (.int .i64 x.vy)).setCell ⟨g, o + k * 11 + 8, none⟩ (.int .i64 x.h)).setCell ⟨g, o + k * 11 + 9, none⟩ (.int .i64 x.p)).setCell ⟨g, o + k * 11 + 10, none⟩ (.int .i64 x.l))) := by
  obtain ⟨g, o, e, ⟨y, _, hy⟩, hf, hp⟩ := row_put h.own h.len hk x
  subst e
  exact ⟨g, o, rfl, ⟨y, hy⟩, hf, Lib.hid ⟨hp.out.1, by rw [List.length_set]; exact h.len, h.bel.trans hp.out.2⟩⟩
set_option maxHeartbeats 16000000 in
set_option maxRecDepth 100000 in
theorem swaprange_any {B : Nat} {A : Option Addr} {N c : Nat} {d : List Bn} {w : World} (h : Rs B A N c d w w) (hN : N ≤ 1000000) (a b m : Nat) (ha : a + m ≤ b) (hb : b + m ≤ N) :
    Calls Try.prog 92 #[.slice A N c, .int .i64 (a : Int), .int .i64 (b : Int), .int .i64 (m : Int), .func (.func fn) #[] cap] w fun e w' => e = .returned (.tuple #[]) ∧ Rs B A N c (swr d a b m) w w' := by
  have H0 := Lib.hid h
  obtain ⟨D, hD⟩ : ∃ D, D = swr d a b m := ⟨_, rfl⟩
  rw [← hD]
  have D0 : Hid (swr d (a + 0) (b + 0) (m - 0) = D) := Lib.hid hD.symm
  clear hD
  go_enter Try.func92, Try.ntmps92
  go_wp2
  go_loopw [10] (fun ix wr => ∃ (k : Nat) (R : List Bn), k ≤ m ∧ ix = .int .i64 k ∧ Hid (Rs B A N c R w wr) ∧ Hid (swr R (a + k) (b + k) (m - k) = D)) (fun ix _ => m - (intOf ix).toNat)
  case atStart => exact ⟨0, d, Nat.zero_le _, rfl, H0, D0⟩
  case round =>
    obtain ⟨k, R, hk, rfl, HR, HD⟩ := hrel
    clear H0 D0 h
    by_cases hkm : k < m
    · have t1 : (k : Int) < (m : Int) := by omega
      obtain ⟨ia, hia⟩ : ∃ i, i = a + k := ⟨_, rfl⟩
      obtain ⟨ib, hib⟩ : ∃ i, i = b + k := ⟨_, rfl⟩
      have wa : IntKind.i64.wrap ((a : Int) + (k : Int)) = (ia : Int) := by rw [IntWalk.i64_in _ (by omega)]; omega
      have wb : IntKind.i64.wrap ((b : Int) + (k : Int)) = (ib : Int) := by rw [IntWalk.i64_in _ (by omega)]; omega
      have la : (ia : Int) < (N : Int) := by omega
      have lb : (ib : Int) < (N : Int) := by omega
      have hlen := HR.out.len
      obtain ⟨x, hx⟩ : ∃ x, R[ia]? = some x := ⟨_, List.getElem?_eq_getElem (by omega)⟩
      obtain ⟨y, hy⟩ : ∃ y, R[ib]? = some y := ⟨_, List.getElem?_eq_getElem (by omega)⟩
      have ND : Hid (swr ((R.set ia y).set ib x) (a + (k + 1)) (b + (k + 1)) (m - (k + 1)) = D) := Lib.hid (by
        have := HD.out
        rw [show m - k = (m - (k + 1)) + 1 by omega, swr, ← hia, ← hib, sw_is hx hy] at this
        rw [show a + (k + 1) = ia + 1 by omega, show b + (k + 1) = ib + 1 by omega]
        exact this)
      obtain ⟨g, o, rfl, px⟩ := HR.out.get hx
      obtain ⟨g', o', e, py⟩ := HR.out.get hy
      cases e
      have hroom := HR.out.room (k := ia) (by omega)
      replace hia := Lib.hid hia
      replace hib := Lib.hid hib
      clear HD hx hy hlen
      obtain ⟨xs, xi, xg, xm, xx, xy, xvx, xvy, xh, xp, xl⟩ := x
      obtain ⟨ys, yi, yg, ym, yx, yy, yvx, yvy, yh, yp, yl⟩ := y
      simp only at px py
      have c0 := (px ⟨wr.drew, Below.d' (Below.refl _ _)⟩).1
      have e0 := (py ⟨wr.drew, Below.d' (Below.refl _ _)⟩).1
      have c1 := (px ⟨wr.drew, Below.d' (Below.refl _ _)⟩).2.1
      have e1 := (py ⟨wr.drew, Below.d' (Below.refl _ _)⟩).2.1
      have c2 := (px ⟨wr.drew, Below.d' (Below.refl _ _)⟩).2.2.1
      have e2 := (py ⟨wr.drew, Below.d' (Below.refl _ _)⟩).2.2.1
      have c3 := (px ⟨wr.drew, Below.d' (Below.refl _ _)⟩).2.2.2.1
      have e3 := (py ⟨wr.drew, Below.d' (Below.refl _ _)⟩).2.2.2.1
      have c4 := (px ⟨wr.drew, Below.d' (Below.refl _ _)⟩).2.2.2.2.1
      have e4 := (py ⟨wr.drew, Below.d' (Below.refl _ _)⟩).2.2.2.2.1
      have c5 := (px ⟨wr.drew, Below.d' (Below.refl _ _)⟩).2.2.2.2.2.1
      have e5 := (py ⟨wr.drew, Below.d' (Below.refl _ _)⟩).2.2.2.2.2.1
      have c6 := (px ⟨wr.drew, Below.d' (Below.refl _ _)⟩).2.2.2.2.2.2.1
      have e6 := (py ⟨wr.drew, Below.d' (Below.refl _ _)⟩).2.2.2.2.2.2.1
      have c7 := (px ⟨wr.drew, Below.d' (Below.refl _ _)⟩).2.2.2.2.2.2.2.1
      have e7 := (py ⟨wr.drew, Below.d' (Below.refl _ _)⟩).2.2.2.2.2.2.2.1
      have c8 := (px ⟨wr.drew, Below.d' (Below.refl _ _)⟩).2.2.2.2.2.2.2.2.1
      have e8 := (py ⟨wr.drew, Below.d' (Below.refl _ _)⟩).2.2.2.2.2.2.2.2.1
      have c9 := (px ⟨wr.drew, Below.d' (Below.refl _ _)⟩).2.2.2.2.2.2.2.2.2.1
      have e9 := (py ⟨wr.drew, Below.d' (Below.refl _ _)⟩).2.2.2.2.2.2.2.2.2.1
      have c10 := (px ⟨wr.drew, Below.d' (Below.refl _ _)⟩).2.2.2.2.2.2.2.2.2.2
      have e10 := (py ⟨wr.drew, Below.d' (Below.refl _ _)⟩).2.2.2.2.2.2.2.2.2.2
      clear px py
      simp only at c0 c1 c2 c3 c4 c5 c6 c7 c8 c9 c10 e0 e1 e2 e3 e4 e5 e6 e7 e8 e9 e10
      go_upto_region 3 with fail
      obtain ⟨g', o', e, ⟨q9, z0, z1, z2, z3, z4, z5, z6, z7, z8, z9, z10⟩, ⟨y0, y1, y2, y3, y4, y5, y6, y7, y8, y9, y10⟩, HP⟩ := HR.out.put (k := ia) (by have := hia.out; omega) ⟨ys, yi, yg, ym, yx, yy, yvx, yvy, yh, yp, yl⟩
      cases e
      clear HR
      simp only at HP
      obtain ⟨g', o', e, ⟨q2, p0, p1, p2, p3, p4, p5, p6, p7, p8, p9, p10⟩, ⟨h0, h1, h2, h3, h4, h5, h6, h7, h8, h9, h10⟩, HP2⟩ := HP.out.put (k := ib) (by have := hib.out; omega) ⟨xs, xi, xg, xm, xx, xy, xvx, xvy, xh, xp, xl⟩
      cases e
      clear HP
      simp only at HP2
      go_big_region
      clear c0 c1 c2 c3 c4 c5 c6 c7 c8 c9 c10 e0 e1 e2 e3 e4 e5 e6 e7 e8 e9 e10 z0 z1 z2 z3 z4 z5 z6 z7 z8 z9 z10 y0 y1 y2 y3 y4 y5 y6 y7 y8 y9 y10 p0 p1 p2 p3 p4 p5 p6 p7 p8 p9 p10 h0 h1 h2 h3 h4 h5 h6 h7 h8 h9 h10
      have HP3 := Lib.hid (HP2.out.grown (by have := HP2.out.room (k := ia) (by have := hia.out; omega); omega) (Below.d' (Below.refl _ _)))
      clear HP2
      go_wp2
      go_roundw
      case rel => exact ⟨k + 1, _, by omega, by go_num, HP3, ND⟩
      case measure => simp [intOf]; omega
    · have e : k = m := by omega
      subst e
      have t1 : ¬ (k : Int) < (k : Int) := by omega
      have e2 : R = D := by have := HD.out; rw [Nat.sub_self] at this; exact this
      subst e2
      clear HD
      go_wp2
      go_end0
      exact ⟨rfl, HR.out⟩
end Go.Proofs.Ytfmbldjaknjgbaa
namespace Go.Proofs.Ytfmbldjaknjgbaa
open Pz
set_option linter.unusedVariables false
variable {κ : Bn → K3} {fn : Nat} {cap : Array Value}

namespace Pz
theorem srt_last {X1 : List Bn} {u : Bn} (h : Srt κ X1) (hu : X1[X1.length - 1]? = some u) : ∀ x ∈ X1, before (κ u) (κ x) = false := fun x hx => by
  rcases List.eq_nil_or_concat X1 with e | ⟨Z, z, e⟩
  · rw [e] at hx; cases hx
  · rw [List.concat_eq_append] at e
    subst e
    rw [List.length_append, List.length_singleton, Nat.add_sub_cancel, List.getElem?_append_right (Nat.le_refl _), Nat.sub_self] at hu
    simp only [List.getElem?_cons_zero, Option.some.injEq] at hu
    subst hu
    rcases List.mem_append.1 hx with hx | hx
    · exact (srt_app.1 h).2.2 x hx z (List.mem_singleton.2 rfl)
    · rw [List.mem_singleton.1 hx]
      exact before_irr _
theorem srt_first {X1 : List Bn} {u : Bn} (h : Srt κ X1) (hu : X1[0]? = some u) : ∀ x ∈ X1, before (κ x) (κ u) = false := fun x hx => by
  cases X1 with
  | nil => cases hx
  | cons y r =>
    simp only [List.getElem?_cons_zero, Option.some.injEq] at hu
    subst hu
    rcases List.mem_cons.1 hx with e | hx
    · rw [e]; exact before_irr _
    · exact (List.pairwise_cons.1 h).1 x hx
/-- what a search in two sorted rows tells -/
theorem cut {P X Y Q : List Bn} {a m b s e : Nat} (ha : P.length = a) (hm : a + X.length = m) (hb : m + Y.length = b) (hX : Srt κ X) (hY : Srt κ Y) (h1 : a ≤ s) (h2 : s ≤ m) (h3 : m ≤ e) (h4 : e ≤ b)
    (h5 : s = a ∨ e = b ∨ ∃ u v, (P ++ (X ++ (Y ++ Q)))[s - 1]? = some u ∧ (P ++ (X ++ (Y ++ Q)))[e]? = some v ∧ a < s ∧ before (κ v) (κ u) = false)
    (h6 : s = m ∨ e = m ∨ ∃ u v, (P ++ (X ++ (Y ++ Q)))[s]? = some u ∧ (P ++ (X ++ (Y ++ Q)))[e - 1]? = some v ∧ m < e ∧ before (κ v) (κ u) = true) :
    ∃ X1 X2 Y1 Y2, X = X1 ++ X2 ∧ Y = Y1 ++ Y2 ∧ a + X1.length = s ∧ m + Y1.length = e ∧ (∀ x ∈ X1, ∀ y ∈ Y2, before (κ y) (κ x) = false) ∧ (∀ x ∈ X2, ∀ y ∈ Y1, before (κ y) (κ x) = true) := by
  have l1 : (X.take (s - a)).length = s - a := by rw [List.length_take]; omega
  have l2 : (Y.take (e - m)).length = e - m := by rw [List.length_take]; omega
  have eX := List.take_append_drop (s - a) X
  have eY := List.take_append_drop (e - m) Y
  refine ⟨X.take (s - a), X.drop (s - a), Y.take (e - m), Y.drop (e - m), eX.symm, eY.symm, by omega, by omega, ?_, ?_⟩
  · rcases h5 with h5 | h5 | ⟨u, v, hu, hv, hs, hb'⟩
    · intro x hx
      rw [h5, Nat.sub_self, List.take_zero] at hx
      cases hx
    · intro x _ y hy
      rw [List.drop_eq_nil_of_le (by omega)] at hy
      cases hy
    · intro x hx y hy
      rw [List.getElem?_append_right (by omega), List.getElem?_append_left (by omega)] at hu
      have hu' : (X.take (s - a))[(X.take (s - a)).length - 1]? = some u := by
        rw [l1, List.getElem?_take, if_pos (by omega), ← hu]
        congr 1
        omega
      rw [← eX] at hX
      have q1 := srt_last (srt_app.1 hX).1 hu' x hx
      have hel : e - m < Y.length := by
        rcases Nat.lt_or_ge (e - m) Y.length with h | h
        · exact h
        · rw [List.drop_eq_nil_of_le h] at hy
          cases hy
      rw [List.getElem?_append_right (by omega), List.getElem?_append_right (by omega), List.getElem?_append_left (by omega)] at hv
      have hv' : (Y.drop (e - m))[0]? = some v := by
        rw [List.getElem?_drop, ← hv]
        congr 1
        omega
      rw [← eY] at hY
      have q2 := srt_first (srt_app.1 hY).2.1 hv' y hy
      exact le_trans' (le_trans' q1 hb') q2
  · rcases h6 with h6 | h6 | ⟨u, v, hu, hv, hs, hb'⟩
    · intro x hx
      rw [List.drop_eq_nil_of_le (by omega)] at hx
      cases hx
    · intro x _ y hy
      rw [h6, Nat.sub_self, List.take_zero] at hy
      cases hy
    · intro x hx y hy
      have hsl : s - a < X.length := by
        rcases Nat.lt_or_ge (s - a) X.length with h | h
        · exact h
        · rw [List.drop_eq_nil_of_le h] at hx
          cases hx
      rw [List.getElem?_append_right (by omega), List.getElem?_append_left (by omega)] at hu
      have hu' : (X.drop (s - a))[0]? = some u := by
        rw [List.getElem?_drop, ← hu]
        congr 1
        omega
      rw [← eX] at hX
      have q1 := srt_first (srt_app.1 hX).2.1 hu' x hx
      rw [List.getElem?_append_right (by omega), List.getElem?_append_right (by omega), List.getElem?_append_left (by omega)] at hv
      have hv' : (Y.take (e - m))[(Y.take (e - m)).length - 1]? = some v := by
        rw [l2, List.getElem?_take, if_pos (by omega), ← hv]
        congr 1
        omega
      rw [← eY] at hY
      have q2 := srt_last (srt_app.1 hY).1 hv' y hy
      exact lt_le (le_lt q2 hb') q1
/-- one entity wanders along a row -/
def Up (P T L R : List Bn) (x : Bn) (k : Nat) : Prop := ∃ U V : List Bn, R = P ++ (U ++ (x :: (V ++ T))) ∧ U ++ V = L ∧ P.length + U.length = k
theorem Up.first (P T L : List Bn) (x : Bn) : Up P T L (P ++ (x :: (L ++ T))) x P.length := ⟨[], L, by simp, rfl, by simp⟩
theorem Up.last (P T L : List Bn) (x : Bn) : Up P T L (P ++ (L ++ (x :: T))) x (P.length + L.length) := ⟨L, [], by simp, by simp, rfl⟩
theorem Up.right {P T L R : List Bn} {x : Bn} {k : Nat} (h : Up P T L R x k) (hk : k < P.length + L.length) : ∃ y, R[k]? = some x ∧ R[k + 1]? = some y ∧ Up P T L ((R.set k y).set (k + 1) x) x (k + 1) := by
  obtain ⟨U, V, rfl, rfl, h1⟩ := h
  cases V with
  | nil => simp only [List.length_append, List.length_nil] at hk; omega
  | cons y V =>
    have e1 : (P ++ (U ++ (x :: (y :: V ++ T))))[k]? = some x := by
      rw [List.getElem?_append_right (by omega), List.getElem?_append_right (by omega), show k - P.length - U.length = 0 by omega]
      rfl
    have e2 : (P ++ (U ++ (x :: (y :: V ++ T))))[k + 1]? = some y := by
      rw [List.getElem?_append_right (by omega), List.getElem?_append_right (by omega), show k + 1 - P.length - U.length = 1 by omega]
      rfl
    refine ⟨y, e1, e2, U ++ [y], V, ?_, by simp, by rw [List.length_append, List.length_singleton]; omega⟩
    rw [← sw_is e1 e2]
    have := sw_parts (P ++ U) [] (V ++ T) x y
    simp only [List.length_append, List.length_nil, Nat.add_zero, List.nil_append, List.append_assoc] at this
    rw [h1] at this
    simpa using this
theorem Up.left {P T L R : List Bn} {x : Bn} {k : Nat} (h : Up P T L R x (k + 1)) (hk : P.length ≤ k) : ∃ y, R[k + 1]? = some x ∧ R[k]? = some y ∧ Up P T L ((R.set (k + 1) y).set k x) x k := by
  obtain ⟨U, V, rfl, rfl, h1⟩ := h
  rcases List.eq_nil_or_concat U with e | ⟨Z, y, e⟩
  · subst e
    simp at h1
    omega
  · rw [List.concat_eq_append] at e
    subst e
    simp only [List.length_append, List.length_singleton] at h1
    have e1 : (P ++ ((Z ++ [y]) ++ (x :: (V ++ T))))[k + 1]? = some x := by
      rw [List.getElem?_append_right (by omega), List.getElem?_append_right (by simp; omega), show k + 1 - P.length - (Z ++ [y]).length = 0 by simp; omega]
      rfl
    have e2 : (P ++ ((Z ++ [y]) ++ (x :: (V ++ T))))[k]? = some y := by
      rw [List.getElem?_append_right (by omega), List.append_assoc, List.getElem?_append_right (by omega), show k - P.length - Z.length = 0 by omega]
      rfl
    refine ⟨y, e1, e2, Z, y :: V, ?_, by simp, by omega⟩
    have e0 := sw_is e2 e1
    rw [List.set_comm _ _ (by omega)] at e0
    rw [← e0]
    have := sw_parts (P ++ Z) [] (V ++ T) y x
    simp only [List.length_append, List.length_nil, Nat.add_zero, List.nil_append, List.append_assoc] at this
    rw [show P.length + Z.length = k by omega] at this
    simpa using this
theorem Up.at_last {P T L R : List Bn} {x : Bn} {k : Nat} (h : Up P T L R x k) (hk : ¬ k < P.length + L.length) : R = P ++ (L ++ (x :: T)) := by
  obtain ⟨U, V, rfl, rfl, h1⟩ := h
  rw [List.length_append] at hk
  have : V = [] := List.length_eq_zero_iff.1 (by omega)
  subst this
  simp
theorem Up.at_first {P T L R : List Bn} {x : Bn} (h : Up P T L R x P.length) : R = P ++ (x :: (L ++ T)) := by
  obtain ⟨U, V, rfl, rfl, h1⟩ := h
  have : U = [] := List.length_eq_zero_iff.1 (by omega)
  subst this
  simp
end Pz
end Go.Proofs.Ytfmbldjaknjgbaa
