/- The library's stable sort, over a row of one's own: symMerge whole; passes over blocks. -/
import Derived.Test.YtookmjdnmmfkfaaPcSymB
import Derived.Test.YtookmjdnmmfkfaaPcSymC1
import Derived.Test.YtookmjdnmmfkfaaPcSymC2
import Derived.Test.YtookmjdnmmfkfaaPcIns
namespace Go.Proofs.Ytookmjdnmmfkfaa
open Go.RowKit Pz
set_option linter.unusedVariables false

theorem sym_all : ∀ n, SymAt n
  | 0 => fun B A N c P X Y Q W a m b h hN hB hX hY sX sY ha hm hb hn => by omega
  | n + 1 => fun B A N c P X Y Q W a m b h hN hB hX hY sX sY ha hm hb hn => by
    by_cases h1 : X.length = 1
    · obtain ⟨x0, rfl⟩ := List.length_eq_one_iff.1 h1
      exact syma_any h hN hB hY sY ha (by simpa using hm) hb
    · by_cases h2 : Y.length = 1
      · obtain ⟨y0, rfl⟩ := List.length_eq_one_iff.1 h2
        exact symb_any h hN hB (by omega) sX ha hm (by simpa using hb)
      · by_cases h3 : (a + b) / 2 < m
        · exact symc1_any (sym_all n) h hN hB (by omega) (by omega) sX sY ha hm hb hn h3
        · exact symc2_any (sym_all n) h hN hB (by omega) (by omega) sX sY ha hm hb hn h3
namespace Pz
/-- the s ones from place i on are sorted -/
def Bl (R : List Bn) (i s : Nat) : Prop := Srt ((R.drop i).take s)
theorem Bl.one (R : List Bn) (i : Nat) : Bl R i 1 := by
  unfold Bl
  cases h : (R.drop i).take 1 with
  | nil => exact List.Pairwise.nil
  | cons x r =>
    have hl := congrArg List.length h
    rw [List.length_take, List.length_cons] at hl
    have : r = [] := List.length_eq_zero_iff.1 (by omega)
    rw [this]
    exact List.pairwise_singleton _ _
theorem Bl.past {R : List Bn} {i s : Nat} (h : R.length ≤ i) : Bl R i s := by
  unfold Bl
  rw [List.drop_eq_nil_of_le h, List.take_nil]
  exact List.Pairwise.nil
theorem Bl.ahead {P X Z Q : List Bn} {i s : Nat} (h : Bl (P ++ (X ++ Q)) i s) (hi : i + s ≤ P.length) : Bl (P ++ (Z ++ Q)) i s := by
  unfold Bl at h ⊢
  rw [List.drop_append_of_le_length (by omega), List.take_append_of_le_length (by rw [List.length_drop]; omega)] at h ⊢
  exact h
theorem Bl.behind {P X Z Q : List Bn} {i s : Nat} (h : Bl (P ++ (X ++ Q)) i s) (hl : Z.length = X.length) (hi : P.length + X.length ≤ i) : Bl (P ++ (Z ++ Q)) i s := by
  unfold Bl at h ⊢
  have e : ∀ Y : List Bn, Y.length = X.length → (P ++ (Y ++ Q)).drop i = Q.drop (i - (P.length + X.length)) := fun Y hY => by
    rw [← List.append_assoc, List.drop_append, List.drop_eq_nil_of_le (by rw [List.length_append]; omega), List.nil_append, List.length_append, hY]
  rw [e Z hl]
  rw [e X rfl] at h
  exact h
theorem Bl.mid {P Z Q : List Bn} {s : Nat} (hz : Srt Z) (hs : Z.length = s ∨ Z.length ≤ s ∧ Q = []) : Bl (P ++ (Z ++ Q)) P.length s := by
  unfold Bl
  rw [List.drop_left]
  rcases hs with rfl | ⟨h, rfl⟩
  · rw [List.take_left]
    exact hz
  · rw [List.append_nil, List.take_of_length_le h]
    exact hz
theorem dvd_step {d i a : Nat} (h1 : d ∣ i) (h2 : d ∣ a) (h : i < a) : i + d ≤ a := by
  obtain ⟨x, rfl⟩ := h1
  obtain ⟨y, rfl⟩ := h2
  have hxy : x < y := Nat.lt_of_mul_lt_mul_left h
  have := Nat.mul_le_mul_left d (show x + 1 ≤ y by omega)
  rwa [Nat.mul_succ] at this
/-- all blocks of s are sorted -/
structure Full (d : List Bn) (s : Nat) (R : List Bn) : Prop where
  alike : Alike R d
  blk : ∀ i, s ∣ i → Bl R i s
/-- blocks of s become blocks of t; what is ahead of a is done -/
structure Pass (d : List Bn) (s t a : Nat) (R : List Bn) : Prop where
  alike : Alike R d
  at_ : t ∣ a
  st : s ∣ t
  done : ∀ i, t ∣ i → i < a → Bl R i t
  todo : ∀ i, s ∣ i → a ≤ i → Bl R i s
theorem Full.pass {d R : List Bn} {s : Nat} (h : Full d s R) : Pass d s (2 * s) 0 R :=
  ⟨h.alike, Nat.dvd_zero _, Nat.dvd_mul_left _ _, fun i _ hi => by omega, fun i hi _ => h.blk i hi⟩
theorem Pass.first (d : List Bn) : Pass d 1 20 0 d := ⟨Alike.refl _, Nat.dvd_zero _, Nat.one_dvd _, fun i _ hi => by omega, fun i _ _ => Bl.one _ _⟩
theorem Full.sorted {d R : List Bn} {s : Nat} (h : Full d s R) (hs : R.length ≤ s) : R = sortL d := by
  have := h.blk 0 (Nat.dvd_zero _)
  unfold Bl at this
  rw [List.drop_zero, List.take_of_length_le hs] at this
  exact sorted_is this h.alike
theorem Pass.step {d P X Q Z : List Bn} {s t a : Nat} (h : Pass d s t a (P ++ (X ++ Q))) (ht : 0 < t) (ha : P.length = a) (hX : X.length = t) (hl : Z.length = X.length) (hz : Srt Z) (hA : Alike Z X) : Pass d s t (a + t) (P ++ (Z ++ Q)) := by
  refine ⟨(Alike.app (Alike.refl P) (Alike.app hA (Alike.refl Q))).trans h.alike, (Nat.dvd_add_right h.at_).2 (Nat.dvd_refl t), h.st, fun i hi hlt => ?_, fun i hi hle => ?_⟩
  · by_cases hia : i < a
    · exact (h.done i hi hia).ahead (by have := dvd_step hi h.at_ hia; omega)
    · have : i = a := by
        rcases Nat.lt_or_ge a i with hlt2 | hge
        · have := dvd_step h.at_ hi hlt2
          omega
        · omega
      subst this
      rw [← ha]
      exact Bl.mid hz (.inl (by omega))
  · exact (h.todo i hi (by omega)).behind hl (by omega)
theorem Pass.last {d P X Z : List Bn} {s t a : Nat} (h : Pass d s t a (P ++ (X ++ []))) (ht : 0 < t) (ha : P.length = a) (hX : X.length < t) (hl : Z.length = X.length) (hz : Srt Z) (hA : Alike Z X) : Full d t (P ++ (Z ++ [])) := by
  refine ⟨(Alike.app (Alike.refl P) (Alike.app hA (Alike.refl []))).trans h.alike, fun i hi => ?_⟩
  by_cases hia : i < a
  · exact (h.done i hi hia).ahead (by have := dvd_step hi h.at_ hia; omega)
  · by_cases hea : i = a
    · subst hea
      rw [← ha]
      exact Bl.mid hz (.inr ⟨by omega, rfl⟩)
    · have := dvd_step h.at_ hi (by omega)
      exact Bl.past (by simp only [List.length_append, List.length_nil]; omega)
theorem Pass.rest {d R : List Bn} {s t a : Nat} (h : Pass d s t a R) (hs : R.length ≤ a + s) (hst : s ≤ t) (ht : 0 < t) : Full d t R := by
  refine ⟨h.alike, fun i hi => ?_⟩
  by_cases hia : i < a
  · exact h.done i hi hia
  · by_cases hea : i = a
    · subst hea
      have := h.todo i (Nat.dvd_trans h.st h.at_) (Nat.le_refl _)
      unfold Bl at this ⊢
      rw [List.take_of_length_le (by rw [List.length_drop]; omega)] at this ⊢
      exact this
    · have := dvd_step h.at_ hi (by omega)
      exact Bl.past (by omega)
theorem three {R : List Bn} {a b : Nat} (h1 : a ≤ b) (h2 : b ≤ R.length) : R = R.take a ++ ((R.drop a).take (b - a) ++ R.drop b) ∧ (R.take a).length = a ∧ ((R.drop a).take (b - a)).length = b - a := by
  refine ⟨?_, by rw [List.length_take]; omega, by rw [List.length_take, List.length_drop]; omega⟩
  have e : R.drop b = (R.drop a).drop (b - a) := by rw [List.drop_drop]; congr 1; omega
  rw [e, List.take_append_drop, List.take_append_drop]
end Pz
section
variable {B : Nat} {A : Option Addr} {N c : Nat} {d : List Bn} {w : World}
/-- the insertion sort of a block -/
theorem ins_block (hN : N ≤ 1000000) (hBw : B ≤ w.heap.size) {R : List Bn} {W : World} (h : Rs B A N c R w W) {a b : Nat} (hp : Pass d 1 20 a R) (hab : a + 20 = b) (hb : b ≤ N) :
    Calls Try.prog 54 #[.slice A N c, .int .i64 (a : Int), .int .i64 (b : Int), .func (.func 42) #[] #[]] W fun e w' => e = .returned (.tuple #[]) ∧ ∃ R2, Rs B A N c R2 w w' ∧ Pass d 1 20 b R2 := by
  obtain ⟨e, l1, l2⟩ := three (R := R) (a := a) (b := b) (by omega) (by rw [h.len]; exact hb)
  have hs : Rs B A N c (R.take a ++ ((R.drop a).take (b - a) ++ R.drop b)) W W := by rw [← e]; exact ⟨h.own, h.len, Below.refl _ _⟩
  rw [e] at hp
  refine (insertion_any hs hN (Nat.le_trans hBw h.bel.size) l1 (by omega)).mono ?_
  rintro ee w' ⟨he, Z, z1, z2, z3⟩
  have lz : Z.length = ((R.drop a).take (b - a)).length := by
    have q1 := z3.len
    have q2 := hs.len
    simp only [List.length_append] at q1 q2
    omega
  refine ⟨he, _, h.again z3, ?_⟩
  have := hp.step (by decide) l1 (by omega) lz z1 z2
  rwa [hab] at this
theorem ins_last (hN : N ≤ 1000000) (hBw : B ≤ w.heap.size) {R : List Bn} {W : World} (h : Rs B A N c R w W) {a : Nat} (hp : Pass d 1 20 a R) (ha : a ≤ N) (hb : N < a + 20) :
    Calls Try.prog 54 #[.slice A N c, .int .i64 (a : Int), .int .i64 (N : Int), .func (.func 42) #[] #[]] W fun e w' => e = .returned (.tuple #[]) ∧ ∃ R2, Rs B A N c R2 w w' ∧ Full d 20 R2 := by
  obtain ⟨e, l1, l2⟩ := three (R := R) (a := a) (b := N) ha (by rw [h.len]; exact Nat.le_refl _)
  have hq : R.drop N = [] := List.drop_eq_nil_of_le (by rw [h.len]; exact Nat.le_refl _)
  rw [hq] at e
  have hs : Rs B A N c (R.take a ++ ((R.drop a).take (N - a) ++ [])) W W := by rw [← e]; exact ⟨h.own, h.len, Below.refl _ _⟩
  rw [e] at hp
  refine (insertion_any hs hN (Nat.le_trans hBw h.bel.size) l1 (by omega)).mono ?_
  rintro ee w' ⟨he, Z, z1, z2, z3⟩
  have lz : Z.length = ((R.drop a).take (N - a)).length := by
    have q1 := z3.len
    have q2 := hs.len
    simp only [List.length_append] at q1 q2
    omega
  exact ⟨he, _, h.again z3, hp.last (by decide) l1 (by omega) lz z1 z2⟩
/-- two blocks beside each other -/
theorem sym_block (hN : N ≤ 1000000) (hBw : B ≤ w.heap.size) {R : List Bn} {W : World} (h : Rs B A N c R w W) {s a m b : Nat} (hs0 : 0 < s) (hp : Pass d s (2 * s) a R) (hm : a + s = m) (hab : a + 2 * s = b) (hb : b ≤ N) :
    Calls Try.prog 55 #[.slice A N c, .int .i64 (a : Int), .int .i64 (m : Int), .int .i64 (b : Int), .func (.func 42) #[] #[]] W fun e w' => e = .returned (.tuple #[]) ∧ ∃ R2, Rs B A N c R2 w w' ∧ Pass d s (2 * s) b R2 := by
  obtain ⟨e, l1, l2⟩ := three (R := R) (a := a) (b := b) (by omega) (by rw [h.len]; exact hb)
  obtain ⟨e2, l3, l4⟩ := three (R := (R.drop a).take (b - a)) (a := 0) (b := s) (by omega) (by omega)
  have hX := hp.todo a (Nat.dvd_trans hp.st hp.at_) (Nat.le_refl _)
  have hY := hp.todo m (by rw [← hm]; exact (Nat.dvd_add_right (Nat.dvd_trans hp.st hp.at_)).2 (Nat.dvd_refl s)) (by omega)
  have eX : (R.drop a).take s = ((R.drop a).take (b - a)).take s := by rw [List.take_take, Nat.min_eq_left (by omega)]
  have eY : (R.drop m).take s = ((R.drop a).take (b - a)).drop s := by
    rw [List.drop_take, List.drop_drop]
    rw [hm]
    congr 1
    omega
  unfold Bl at hX hY
  rw [eX] at hX
  rw [eY] at hY
  have hsplit : (R.drop a).take (b - a) = ((R.drop a).take (b - a)).take s ++ ((R.drop a).take (b - a)).drop s := (List.take_append_drop _ _).symm
  have lX : (((R.drop a).take (b - a)).take s).length = s := by rw [List.length_take]; omega
  have lY : (((R.drop a).take (b - a)).drop s).length = s := by rw [List.length_drop]; omega
  have hs : Rs B A N c (R.take a ++ ((R.drop a).take (b - a) ++ R.drop b)) W W := by rw [← e]; exact ⟨h.own, h.len, Below.refl _ _⟩
  rw [e] at hp
  generalize (R.drop a).take (b - a) = M at *
  have hs2 : Rs B A N c (R.take a ++ (M.take s ++ (M.drop s ++ R.drop b))) W W := by
    rw [← List.append_assoc (M.take s), List.take_append_drop]
    exact hs
  refine (sym_all _ B A N c (R.take a) (M.take s) (M.drop s) (R.drop b) W a m b hs2 hN (Nat.le_trans hBw h.bel.size) (by omega) (by omega) hX hY l1 (by omega) (by omega) (Nat.le_refl _)).mono ?_
  rintro ee w' ⟨he, Z, z1, z2, z3⟩
  rw [List.take_append_drop] at z2
  have lz : Z.length = M.length := by
    have q1 := z3.len
    have q2 := hs.len
    simp only [List.length_append] at q1 q2
    omega
  refine ⟨he, _, h.again z3, ?_⟩
  have := hp.step (by omega) l1 (by omega) lz z1 z2
  rwa [hab] at this
theorem sym_last (hN : N ≤ 1000000) (hBw : B ≤ w.heap.size) {R : List Bn} {W : World} (h : Rs B A N c R w W) {s a m : Nat} (hs0 : 0 < s) (hp : Pass d s (2 * s) a R) (hm : a + s = m) (hmN : m < N) (hb : N < a + 2 * s) :
    Calls Try.prog 55 #[.slice A N c, .int .i64 (a : Int), .int .i64 (m : Int), .int .i64 (N : Int), .func (.func 42) #[] #[]] W fun e w' => e = .returned (.tuple #[]) ∧ ∃ R2, Rs B A N c R2 w w' ∧ Full d (2 * s) R2 := by
  obtain ⟨e, l1, l2⟩ := three (R := R) (a := a) (b := N) (by omega) (by rw [h.len]; exact Nat.le_refl _)
  have hq : R.drop N = [] := List.drop_eq_nil_of_le (by rw [h.len]; exact Nat.le_refl _)
  rw [hq] at e
  have hX := hp.todo a (Nat.dvd_trans hp.st hp.at_) (Nat.le_refl _)
  have hY := hp.todo m (by rw [← hm]; exact (Nat.dvd_add_right (Nat.dvd_trans hp.st hp.at_)).2 (Nat.dvd_refl s)) (by omega)
  have eX : (R.drop a).take s = ((R.drop a).take (N - a)).take s := by rw [List.take_take, Nat.min_eq_left (by omega)]
  have eY : (R.drop m).take s = ((R.drop a).take (N - a)).drop s := by
    rw [List.drop_take, List.drop_drop, hm, List.take_of_length_le (by rw [List.length_drop, h.len]; omega), List.take_of_length_le (by rw [List.length_drop, h.len]; omega)]
  unfold Bl at hX hY
  rw [eX] at hX
  rw [eY] at hY
  have lX : (((R.drop a).take (N - a)).take s).length = s := by rw [List.length_take]; omega
  have lY : (((R.drop a).take (N - a)).drop s).length = N - m := by rw [List.length_drop]; omega
  have hs : Rs B A N c (R.take a ++ ((R.drop a).take (N - a) ++ [])) W W := by rw [← e]; exact ⟨h.own, h.len, Below.refl _ _⟩
  rw [e] at hp
  generalize (R.drop a).take (N - a) = M at *
  have hs2 : Rs B A N c (R.take a ++ (M.take s ++ (M.drop s ++ []))) W W := by
    rw [← List.append_assoc (M.take s), List.take_append_drop]
    exact hs
  refine (sym_all _ B A N c (R.take a) (M.take s) (M.drop s) [] W a m N hs2 hN (Nat.le_trans hBw h.bel.size) (by omega) (by omega) hX hY l1 (by omega) (by omega) (Nat.le_refl _)).mono ?_
  rintro ee w' ⟨he, Z, z1, z2, z3⟩
  rw [List.take_append_drop] at z2
  have lz : Z.length = M.length := by
    have q1 := z3.len
    have q2 := hs.len
    simp only [List.length_append] at q1 q2
    omega
  exact ⟨he, _, h.again z3, hp.last (by omega) l1 (by omega) lz z1 z2⟩
end
end Go.Proofs.Ytookmjdnmmfkfaa
