/- The document's pool: where the first one of a shard's row stands. -/
import Derived.Test.YtdanpdlbbgcidaaIdRef8
namespace Go.Proofs.Ytdanpdlbbgcidaa
open Go.RowKit Ids
set_option linter.unusedVariables false

section
variable {w W W' : World} {q : RPl} {K : St}
def InRow (K : St) (k : Int) (p : Nat) : Prop := ((p / K.m : Nat) : Int) = k ∧ p % K.m ∈ K.row (p / K.m)
def IsFirst (q : RPl) (K : St) (k : Int) (n : Nat) (x : Int) : Prop :=
  (x = -1 ∧ ∀ p, p < n → ¬ InRow K k p) ∨ ∃ pm : Nat, pm < n ∧ x = (pm : Int) ∧ InRow K k pm ∧ ∀ p, p < n → InRow K k p → q.when_ (pm / K.m) (pm % K.m) ≤ q.when_ (p / K.m) (p % K.m)
theorem IsFirst.zero (q : RPl) (K : St) (k : Int) : IsFirst q K k 0 (-1) := .inl ⟨rfl, fun p hp => absurd hp (Nat.not_lt_zero _)⟩
theorem IsFirst.skip {k x : Int} {n : Nat} (h : IsFirst q K k n x) (hn : ¬ InRow K k n) : IsFirst q K k (n + 1) x := by
  rcases h with ⟨h1, h2⟩ | ⟨pm, h1, h2, h3, h4⟩
  · exact .inl ⟨h1, fun p hp hr => by
      by_cases e : p = n
      · subst e; exact hn hr
      · exact h2 p (by omega) hr⟩
  · exact .inr ⟨pm, by omega, h2, h3, fun p hp hr => by
      by_cases e : p = n
      · subst e; exact absurd hr hn
      · exact h4 p (by omega) hr⟩
theorem IsFirst.take {k x : Int} {n : Nat} (h : IsFirst q K k n x) (hn : InRow K k n) (hx : x = -1 ∨ ∃ pm : Nat, x = (pm : Int) ∧ q.when_ (n / K.m) (n % K.m) < q.when_ (pm / K.m) (pm % K.m)) : IsFirst q K k (n + 1) (n : Int) := by
  refine .inr ⟨n, Nat.lt_succ_self n, rfl, hn, fun p hp hr => ?_⟩
  by_cases e : p = n
  · subst e; exact Nat.le_refl _
  · rcases h with ⟨h1, h2⟩ | ⟨pm, h1, h2, h3, h4⟩
    · exact absurd hr (h2 p (by omega))
    · rcases hx with hx | ⟨pm', hx, hlt⟩
      · omega
      · obtain rfl : pm = pm' := by omega
        have := h4 p (by omega) hr
        omega
theorem IsFirst.stay {k x : Int} {n pm : Nat} (h : IsFirst q K k n x) (hx : x = (pm : Int)) (hle : q.when_ (pm / K.m) (pm % K.m) ≤ q.when_ (n / K.m) (n % K.m)) : IsFirst q K k (n + 1) x := by
  rcases h with ⟨h1, h2⟩ | ⟨pm', h1, h2, h3, h4⟩
  · omega
  · obtain rfl : pm = pm' := by omega
    exact .inr ⟨pm, by omega, h2, h3, fun p hp hr => by
      by_cases e : p = n
      · subst e; exact hle
      · exact h4 p (by omega) hr⟩
/-- the place of the first of a row; -1: nowhere -/
def rfirst (K : St) (k : Int) : Int := if 0 ≤ k ∧ k < K.n then (match K.row k.toNat with | [] => -1 | i :: _ => k * K.m + i) else -1
theorem IsFirst.end_ (h : RA w q K) {k x : Int} (hf : IsFirst q K k (K.n * K.m) x) : x = rfirst K k := by
  have hm := h.ok.m1
  unfold rfirst
  by_cases hk : 0 ≤ k ∧ k < K.n
  · rw [if_pos hk]
    obtain ⟨k', rfl⟩ := Int.eq_ofNat_of_zero_le hk.1
    have hk' : k' < K.n := by omega
    have at_ : ∀ i, i ∈ K.row k' → InRow K (k' : Int) (k' * K.m + i) ∧ k' * K.m + i < K.n * K.m ∧ i < K.m := fun i hi => by
      have h1 := h.ok.lt k' hk' i hi
      exact ⟨⟨by rw [pos_div h1], by rw [pos_div h1, pos_mod h1]; exact hi⟩, pos_lt hk' h1, h1⟩
    show x = match K.row k' with | [] => -1 | i :: _ => (k' : Int) * K.m + i
    cases hr : K.row k' with
    | nil =>
      rcases hf with ⟨h1, _⟩ | ⟨pm, h1, h2, ⟨h3, h4⟩, _⟩
      · exact h1
      · have : pm / K.m = k' := by omega
        rw [this, hr] at h4
        cases h4
    | cons i r =>
      obtain ⟨a1, a2, a3⟩ := at_ i (by rw [hr]; simp)
      rcases hf with ⟨_, h2⟩ | ⟨pm, h1, h2, ⟨h3, h4⟩, h5⟩
      · exact absurd a1 (h2 _ a2)
      · have e1 : pm / K.m = k' := by omega
        have h6 := h5 _ a2 a1
        rw [pos_div a3, pos_mod a3, e1] at h6
        rw [e1, hr] at h4
        have hp := h.rise k' hk'
        rw [hr, List.pairwise_cons] at hp
        have e2 : pm % K.m = i := by
          rcases List.mem_cons.1 h4 with e | e
          · exact e
          · have := hp.1 _ e; omega
        have e3 := (pos_of hm h1).2.2
        rw [e1, e2] at e3
        rw [h2, ← e3, Int.natCast_add, Int.natCast_mul]
  · rw [if_neg hk]
    rcases hf with ⟨h1, _⟩ | ⟨pm, h1, h2, ⟨h3, h4⟩, _⟩
    · exact h1
    · have h6 : (0 : Int) ≤ ((pm / K.m : Nat) : Int) := Int.natCast_nonneg _
      have h7 : ((pm / K.m : Nat) : Int) < (K.n : Int) := Int.ofNat_lt.2 (pos_of hm h1).1
      rw [h3] at h6 h7
      exact absurd ⟨h6, h7⟩ hk
end
end Go.Proofs.Ytdanpdlbbgcidaa
