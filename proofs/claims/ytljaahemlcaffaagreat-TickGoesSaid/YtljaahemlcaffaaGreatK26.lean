/- The library's stable sort, over a row of one's own: symMerge whole; passes over blocks. The library's stableCmpFunc, SortStableFunc, over a row of one's own. The code's Sorted: a copy, sorted. Written by wip/tools/gensrt.py. The code: Grow of none, Concat of two rows of entities. Written by wip/tools/gensy.py. -/
import Derived.Test.YtljaahemlcaffaaGreatK24
import Derived.Test.YtljaahemlcaffaaGreatK25
import Derived.Test.YtljaahemlcaffaaGreatK05
import Derived.Laws.OwnMore
import Derived.Lib.SliceRun
import Derived.Test.YtljaahemlcaffaaGreatK18
import Derived.Lib.AppendZeros
namespace Go.Proofs.YtljaahemlcaffaaGreat
open Go.RowKit Pz
set_option linter.unusedVariables false
variable {κ : Bn → K3} {fn : Nat} {cap : Array Value}

theorem sym_all : ∀ n, SymAt κ fn cap n
  | 0 => fun B A N c P X Y Q W a m b h hN hB HC hX hY sX sY ha hm hb hn => by omega
  | n + 1 => fun B A N c P X Y Q W a m b h hN hB HC hX hY sX sY ha hm hb hn => by
    by_cases h1 : X.length = 1
    · obtain ⟨x0, rfl⟩ := List.length_eq_one_iff.1 h1
      exact syma_any h hN hB HC hY sY ha (by simpa using hm) hb
    · by_cases h2 : Y.length = 1
      · obtain ⟨y0, rfl⟩ := List.length_eq_one_iff.1 h2
        exact symb_any h hN hB HC (by omega) sX ha hm (by simpa using hb)
      · by_cases h3 : (a + b) / 2 < m
        · exact symc1_any (sym_all n) h hN hB HC (by omega) (by omega) sX sY ha hm hb hn h3
        · exact symc2_any (sym_all n) h hN hB HC (by omega) (by omega) sX sY ha hm hb hn h3
namespace Pz
/-- the s ones from place i on are sorted -/
def Bl (κ : Bn → K3) (R : List Bn) (i s : Nat) : Prop := Srt κ ((R.drop i).take s)
theorem Bl.one (R : List Bn) (i : Nat) : Bl κ R i 1 := by
  unfold Bl
  cases h : (R.drop i).take 1 with
  | nil => exact List.Pairwise.nil
  | cons x r =>
    have hl := congrArg List.length h
    rw [List.length_take, List.length_cons] at hl
    have : r = [] := List.length_eq_zero_iff.1 (by omega)
    rw [this]
    exact List.pairwise_singleton _ _
theorem Bl.past {R : List Bn} {i s : Nat} (h : R.length ≤ i) : Bl κ R i s := by
  unfold Bl
  rw [List.drop_eq_nil_of_le h, List.take_nil]
  exact List.Pairwise.nil
theorem Bl.ahead {P X Z Q : List Bn} {i s : Nat} (h : Bl κ (P ++ (X ++ Q)) i s) (hi : i + s ≤ P.length) : Bl κ (P ++ (Z ++ Q)) i s := by
  unfold Bl at h ⊢
  rw [List.drop_append_of_le_length (by omega), List.take_append_of_le_length (by rw [List.length_drop]; omega)] at h ⊢
  exact h
theorem Bl.behind {P X Z Q : List Bn} {i s : Nat} (h : Bl κ (P ++ (X ++ Q)) i s) (hl : Z.length = X.length) (hi : P.length + X.length ≤ i) : Bl κ (P ++ (Z ++ Q)) i s := by
  unfold Bl at h ⊢
  have e : ∀ Y : List Bn, Y.length = X.length → (P ++ (Y ++ Q)).drop i = Q.drop (i - (P.length + X.length)) := fun Y hY => by
    rw [← List.append_assoc, List.drop_append, List.drop_eq_nil_of_le (by rw [List.length_append]; omega), List.nil_append, List.length_append, hY]
  rw [e Z hl]
  rw [e X rfl] at h
  exact h
theorem Bl.mid {P Z Q : List Bn} {s : Nat} (hz : Srt κ Z) (hs : Z.length = s ∨ Z.length ≤ s ∧ Q = []) : Bl κ (P ++ (Z ++ Q)) P.length s := by
  unfold Bl
  rw [List.drop_left]
  rcases hs with rfl | ⟨h, rfl⟩
  · rw [List.take_left]
    exact hz
  · rw [List.append_nil, List.take_of_length_le h]
    exact hz
theorem dvd_step {d i a : Nat} (h1 : d ∣ i) (h2 : d ∣ a) (h : i < a) : i + d ≤ a := by
  obtain ⟨x, rfl⟩ := h1
  obtain ⟨y, rfl⟩ := h2
  have hxy : x < y := Nat.lt_of_mul_lt_mul_left h
  have := Nat.mul_le_mul_left d (show x + 1 ≤ y by omega)
  rwa [Nat.mul_succ] at this
/-- all blocks of s are sorted -/
structure Full (κ : Bn → K3) (d : List Bn) (s : Nat) (R : List Bn) : Prop where
  alike : Alike κ R d
  blk : ∀ i, s ∣ i → Bl κ R i s
/-- blocks of s become blocks of t; what is ahead of a is done -/
structure Pass (κ : Bn → K3) (d : List Bn) (s t a : Nat) (R : List Bn) : Prop where
  alike : Alike κ R d
  at_ : t ∣ a
  st : s ∣ t
  done : ∀ i, t ∣ i → i < a → Bl κ R i t
  todo : ∀ i, s ∣ i → a ≤ i → Bl κ R i s
theorem Full.pass {d R : List Bn} {s : Nat} (h : Full κ d s R) : Pass κ d s (2 * s) 0 R :=
  ⟨h.alike, Nat.dvd_zero _, Nat.dvd_mul_left _ _, fun i _ hi => by omega, fun i hi _ => h.blk i hi⟩
theorem Pass.first (d : List Bn) : Pass κ d 1 20 0 d := ⟨Alike.refl _, Nat.dvd_zero _, Nat.one_dvd _, fun i _ hi => by omega, fun i _ _ => Bl.one _ _⟩
theorem Full.sorted {d R : List Bn} {s : Nat} (h : Full κ d s R) (hs : R.length ≤ s) : R = sortL κ d := by
  have := h.blk 0 (Nat.dvd_zero _)
  unfold Bl at this
  rw [List.drop_zero, List.take_of_length_le hs] at this
  exact sorted_is this h.alike
theorem Pass.step {d P X Q Z : List Bn} {s t a : Nat} (h : Pass κ d s t a (P ++ (X ++ Q))) (ht : 0 < t) (ha : P.length = a) (hX : X.length = t) (hl : Z.length = X.length) (hz : Srt κ Z) (hA : Alike κ Z X) : Pass κ d s t (a + t) (P ++ (Z ++ Q)) := by
  refine ⟨(Alike.app (Alike.refl P) (Alike.app hA (Alike.refl Q))).trans h.alike, (Nat.dvd_add_right h.at_).2 (Nat.dvd_refl t), h.st, fun i hi hlt => ?_, fun i hi hle => ?_⟩
  · by_cases hia : i < a
    · exact (h.done i hi hia).ahead (by have := dvd_step hi h.at_ hia; omega)
    · have : i = a := by
        rcases Nat.lt_or_ge a i with hlt2 | hge
        · have := dvd_step h.at_ hi hlt2
          omega
        · omega
      subst this
      rw [← ha]
      exact Bl.mid hz (.inl (by omega))
  · exact (h.todo i hi (by omega)).behind hl (by omega)
theorem Pass.last {d P X Z : List Bn} {s t a : Nat} (h : Pass κ d s t a (P ++ (X ++ []))) (ht : 0 < t) (ha : P.length = a) (hX : X.length < t) (hl : Z.length = X.length) (hz : Srt κ Z) (hA : Alike κ Z X) : Full κ d t (P ++ (Z ++ [])) := by
  refine ⟨(Alike.app (Alike.refl P) (Alike.app hA (Alike.refl []))).trans h.alike, fun i hi => ?_⟩
  by_cases hia : i < a
  · exact (h.done i hi hia).ahead (by have := dvd_step hi h.at_ hia; omega)
  · by_cases hea : i = a
    · subst hea
      rw [← ha]
      exact Bl.mid hz (.inr ⟨by omega, rfl⟩)
    · have := dvd_step h.at_ hi (by omega)
      exact Bl.past (by simp only [List.length_append, List.length_nil]; omega)
theorem Pass.rest {d R : List Bn} {s t a : Nat} (h : Pass κ d s t a R) (hs : R.length ≤ a + s) (hst : s ≤ t) (ht : 0 < t) : Full κ d t R := by
  refine ⟨h.alike, fun i hi => ?_⟩
  by_cases hia : i < a
  · exact h.done i hi hia
  · by_cases hea : i = a
    · subst hea
      have := h.todo i (Nat.dvd_trans h.st h.at_) (Nat.le_refl _)
      unfold Bl at this ⊢
      rw [List.take_of_length_le (by rw [List.length_drop]; omega)] at this ⊢
      exact this
    · have := dvd_step h.at_ hi (by omega)
      exact Bl.past (by omega)
theorem three {R : List Bn} {a b : Nat} (h1 : a ≤ b) (h2 : b ≤ R.length) : R = R.take a ++ ((R.drop a).take (b - a) ++ R.drop b) ∧ (R.take a).length = a ∧ ((R.drop a).take (b - a)).length = b - a := by
  refine ⟨?_, by rw [List.length_take]; omega, by rw [List.length_take, List.length_drop]; omega⟩
  have e : R.drop b = (R.drop a).drop (b - a) := by rw [List.drop_drop]; congr 1; omega
  rw [e, List.take_append_drop, List.take_append_drop]
end Pz
section
variable {B : Nat} {A : Option Addr} {N c : Nat} {d : List Bn} {w : World}
/-- the insertion sort of a block -/
theorem ins_block (hN : N ≤ 1000000) (hBw : B ≤ w.heap.size) (HC : CmpAt κ fn cap B w) {R : List Bn} {W : World} (h : Rs B A N c R w W) {a b : Nat} (hp : Pass κ d 1 20 a R) (hab : a + 20 = b) (hb : b ≤ N) :
    Calls Tryz.prog 105 #[.slice A N c, .int .i64 (a : Int), .int .i64 (b : Int), .func (.func fn) #[] cap] W fun e w' => e = .returned (.tuple #[]) ∧ ∃ R2, Rs B A N c R2 w w' ∧ Pass κ d 1 20 b R2 := by
  obtain ⟨e, l1, l2⟩ := three (R := R) (a := a) (b := b) (by omega) (by rw [h.len]; exact hb)
  have hs : Rs B A N c (R.take a ++ ((R.drop a).take (b - a) ++ R.drop b)) W W := by rw [← e]; exact ⟨h.own, h.len, Below.refl _ _⟩
  rw [e] at hp
  refine (insertion_any hs hN (Nat.le_trans hBw h.bel.size) (HC.below h.bel) l1 (by omega)).mono ?_
  rintro ee w' ⟨he, Z, z1, z2, z3⟩
  have lz : Z.length = ((R.drop a).take (b - a)).length := by
    have q1 := z3.len
    have q2 := hs.len
    simp only [List.length_append] at q1 q2
    omega
  refine ⟨he, _, h.again z3, ?_⟩
  have := hp.step (by decide) l1 (by omega) lz z1 z2
  rwa [hab] at this
theorem ins_last (hN : N ≤ 1000000) (hBw : B ≤ w.heap.size) (HC : CmpAt κ fn cap B w) {R : List Bn} {W : World} (h : Rs B A N c R w W) {a : Nat} (hp : Pass κ d 1 20 a R) (ha : a ≤ N) (hb : N < a + 20) :
    Calls Tryz.prog 105 #[.slice A N c, .int .i64 (a : Int), .int .i64 (N : Int), .func (.func fn) #[] cap] W fun e w' => e = .returned (.tuple #[]) ∧ ∃ R2, Rs B A N c R2 w w' ∧ Full κ d 20 R2 := by
  obtain ⟨e, l1, l2⟩ := three (R := R) (a := a) (b := N) ha (by rw [h.len]; exact Nat.le_refl _)
  have hq : R.drop N = [] := List.drop_eq_nil_of_le (by rw [h.len]; exact Nat.le_refl _)
  rw [hq] at e
  have hs : Rs B A N c (R.take a ++ ((R.drop a).take (N - a) ++ [])) W W := by rw [← e]; exact ⟨h.own, h.len, Below.refl _ _⟩
  rw [e] at hp
  refine (insertion_any hs hN (Nat.le_trans hBw h.bel.size) (HC.below h.bel) l1 (by omega)).mono ?_
  rintro ee w' ⟨he, Z, z1, z2, z3⟩
  have lz : Z.length = ((R.drop a).take (N - a)).length := by
    have q1 := z3.len
    have q2 := hs.len
    simp only [List.length_append] at q1 q2
    omega
  exact ⟨he, _, h.again z3, hp.last (by decide) l1 (by omega) lz z1 z2⟩
/-- two blocks beside each other -/
theorem sym_block (hN : N ≤ 1000000) (hBw : B ≤ w.heap.size) (HC : CmpAt κ fn cap B w) {R : List Bn} {W : World} (h : Rs B A N c R w W) {s a m b : Nat} (hs0 : 0 < s) (hp : Pass κ d s (2 * s) a R) (hm : a + s = m) (hab : a + 2 * s = b) (hb : b ≤ N) :
    Calls Tryz.prog 106 #[.slice A N c, .int .i64 (a : Int), .int .i64 (m : Int), .int .i64 (b : Int), .func (.func fn) #[] cap] W fun e w' => e = .returned (.tuple #[]) ∧ ∃ R2, Rs B A N c R2 w w' ∧ Pass κ d s (2 * s) b R2 := by
  obtain ⟨e, l1, l2⟩ := three (R := R) (a := a) (b := b) (by omega) (by rw [h.len]; exact hb)
  obtain ⟨e2, l3, l4⟩ := three (R := (R.drop a).take (b - a)) (a := 0) (b := s) (by omega) (by omega)
  have hX := hp.todo a (Nat.dvd_trans hp.st hp.at_) (Nat.le_refl _)
  have hY := hp.todo m (by rw [← hm]; exact (Nat.dvd_add_right (Nat.dvd_trans hp.st hp.at_)).2 (Nat.dvd_refl s)) (by omega)
  have eX : (R.drop a).take s = ((R.drop a).take (b - a)).take s := by rw [List.take_take, Nat.min_eq_left (by omega)]
  have eY : (R.drop m).take s = ((R.drop a).take (b - a)).drop s := by
    rw [List.drop_take, List.drop_drop]
    rw [hm]
    congr 1
    omega
  unfold Bl at hX hY
  rw [eX] at hX
  rw [eY] at hY
  have hsplit : (R.drop a).take (b - a) = ((R.drop a).take (b - a)).take s ++ ((R.drop a).take (b - a)).drop s := (List.take_append_drop _ _).symm
  have lX : (((R.drop a).take (b - a)).take s).length = s := by rw [List.length_take]; omega
  have lY : (((R.drop a).take (b - a)).drop s).length = s := by rw [List.length_drop]; omega
  have hs : Rs B A N c (R.take a ++ ((R.drop a).take (b - a) ++ R.drop b)) W W := by rw [← e]; exact ⟨h.own, h.len, Below.refl _ _⟩
  rw [e] at hp
  generalize (R.drop a).take (b - a) = M at *
  have hs2 : Rs B A N c (R.take a ++ (M.take s ++ (M.drop s ++ R.drop b))) W W := by
    rw [← List.append_assoc (M.take s), List.take_append_drop]
    exact hs
  refine (sym_all _ B A N c (R.take a) (M.take s) (M.drop s) (R.drop b) W a m b hs2 hN (Nat.le_trans hBw h.bel.size) (HC.below h.bel) (by omega) (by omega) hX hY l1 (by omega) (by omega) (Nat.le_refl _)).mono ?_
  rintro ee w' ⟨he, Z, z1, z2, z3⟩
  rw [List.take_append_drop] at z2
  have lz : Z.length = M.length := by
    have q1 := z3.len
    have q2 := hs.len
    simp only [List.length_append] at q1 q2
    omega
  refine ⟨he, _, h.again z3, ?_⟩
  have := hp.step (by omega) l1 (by omega) lz z1 z2
  rwa [hab] at this
theorem sym_last (hN : N ≤ 1000000) (hBw : B ≤ w.heap.size) (HC : CmpAt κ fn cap B w) {R : List Bn} {W : World} (h : Rs B A N c R w W) {s a m : Nat} (hs0 : 0 < s) (hp : Pass κ d s (2 * s) a R) (hm : a + s = m) (hmN : m < N) (hb : N < a + 2 * s) :
    Calls Tryz.prog 106 #[.slice A N c, .int .i64 (a : Int), .int .i64 (m : Int), .int .i64 (N : Int), .func (.func fn) #[] cap] W fun e w' => e = .returned (.tuple #[]) ∧ ∃ R2, Rs B A N c R2 w w' ∧ Full κ d (2 * s) R2 := by
  obtain ⟨e, l1, l2⟩ := three (R := R) (a := a) (b := N) (by omega) (by rw [h.len]; exact Nat.le_refl _)
  have hq : R.drop N = [] := List.drop_eq_nil_of_le (by rw [h.len]; exact Nat.le_refl _)
  rw [hq] at e
  have hX := hp.todo a (Nat.dvd_trans hp.st hp.at_) (Nat.le_refl _)
  have hY := hp.todo m (by rw [← hm]; exact (Nat.dvd_add_right (Nat.dvd_trans hp.st hp.at_)).2 (Nat.dvd_refl s)) (by omega)
  have eX : (R.drop a).take s = ((R.drop a).take (N - a)).take s := by rw [List.take_take, Nat.min_eq_left (by omega)]
  have eY : (R.drop m).take s = ((R.drop a).take (N - a)).drop s := by
    rw [List.drop_take, List.drop_drop, hm, List.take_of_length_le (by rw [List.length_drop, h.len]; omega), List.take_of_length_le (by rw [List.length_drop, h.len]; omega)]
  unfold Bl at hX hY
  rw [eX] at hX
  rw [eY] at hY
  have lX : (((R.drop a).take (N - a)).take s).length = s := by rw [List.length_take]; omega
  have lY : (((R.drop a).take (N - a)).drop s).length = N - m := by rw [List.length_drop]; omega
  have hs : Rs B A N c (R.take a ++ ((R.drop a).take (N - a) ++ [])) W W := by rw [← e]; exact ⟨h.own, h.len, Below.refl _ _⟩
  rw [e] at hp
  generalize (R.drop a).take (N - a) = M at *
  have hs2 : Rs B A N c (R.take a ++ (M.take s ++ (M.drop s ++ []))) W W := by
    rw [← List.append_assoc (M.take s), List.take_append_drop]
    exact hs
  refine (sym_all _ B A N c (R.take a) (M.take s) (M.drop s) [] W a m N hs2 hN (Nat.le_trans hBw h.bel.size) (HC.below h.bel) (by omega) (by omega) hX hY l1 (by omega) (by omega) (Nat.le_refl _)).mono ?_
  rintro ee w' ⟨he, Z, z1, z2, z3⟩
  rw [List.take_append_drop] at z2
  have lz : Z.length = M.length := by
    have q1 := z3.len
    have q2 := hs.len
    simp only [List.length_append] at q1 q2
    omega
  exact ⟨he, _, h.again z3, hp.last (by omega) l1 (by omega) lz z1 z2⟩
end
end Go.Proofs.YtljaahemlcaffaaGreat
namespace Go.Proofs.YtljaahemlcaffaaGreat
open Go.RowKit Pz
set_option linter.unusedVariables false
variable {κ : Bn → K3} {fn : Nat} {cap : Array Value}

set_option maxHeartbeats 16000000 in
set_option maxRecDepth 100000 in
theorem stable_any {B : Nat} {A : Option Addr} {N c : Nat} {d : List Bn} {w : World} (h : Rs B A N c d w w) (hN : N ≤ 1000000) (hBw : B ≤ w.heap.size) (HC : CmpAt κ fn cap B w) :
    Calls Tryz.prog 87 #[.slice A N c, .int .i64 (N : Int), .func (.func fn) #[] cap] w fun e w' => e = .returned (.tuple #[]) ∧ Rs B A N c (sortL κ d) w w' := by
  have H0 := Lib.hid h
  have P0 := Lib.hid (Pass.first (κ := κ) d)
  have INSC : Hid (∀ (R : List Bn) (W : World) (a b : Nat), Rs B A N c R w W → Pass κ d 1 20 a R → a + 20 = b → b ≤ N → Calls Tryz.prog 105 #[.slice A N c, .int .i64 (a : Int), .int .i64 (b : Int), .func (.func fn) #[] cap] W fun e w' => e = .returned (.tuple #[]) ∧ ∃ R2, Rs B A N c R2 w w' ∧ Pass κ d 1 20 b R2) := Lib.hid fun R W a b h hp h1 h2 => ins_block hN hBw HC h hp h1 h2
  have INSE : Hid (∀ (R : List Bn) (W : World) (a : Nat), Rs B A N c R w W → Pass κ d 1 20 a R → a ≤ N → N < a + 20 → Calls Tryz.prog 105 #[.slice A N c, .int .i64 (a : Int), .int .i64 (N : Int), .func (.func fn) #[] cap] W fun e w' => e = .returned (.tuple #[]) ∧ ∃ R2, Rs B A N c R2 w w' ∧ Full κ d 20 R2) := Lib.hid fun R W a h hp h1 h2 => ins_last hN hBw HC h hp h1 h2
  have SYC : Hid (∀ (R : List Bn) (W : World) (s a m b : Nat), Rs B A N c R w W → 0 < s → Pass κ d s (2 * s) a R → a + s = m → a + 2 * s = b → b ≤ N → Calls Tryz.prog 106 #[.slice A N c, .int .i64 (a : Int), .int .i64 (m : Int), .int .i64 (b : Int), .func (.func fn) #[] cap] W fun e w' => e = .returned (.tuple #[]) ∧ ∃ R2, Rs B A N c R2 w w' ∧ Pass κ d s (2 * s) b R2) := Lib.hid fun R W s a m b h h0 hp h1 h2 h3 => sym_block hN hBw HC h h0 hp h1 h2 h3
  have SYE : Hid (∀ (R : List Bn) (W : World) (s a m : Nat), Rs B A N c R w W → 0 < s → Pass κ d s (2 * s) a R → a + s = m → m < N → N < a + 2 * s → Calls Tryz.prog 106 #[.slice A N c, .int .i64 (a : Int), .int .i64 (m : Int), .int .i64 (N : Int), .func (.func fn) #[] cap] W fun e w' => e = .returned (.tuple #[]) ∧ ∃ R2, Rs B A N c R2 w w' ∧ Full κ d (2 * s) R2) := Lib.hid fun R W s a m h h0 hp h1 h2 h3 => sym_last hN hBw HC h h0 hp h1 h2 h3
  have SY0 : Hid (∀ (R : List Bn) (W : World) (s a m : Nat), Rs B A N c R w W → 0 < s → Pass κ d s (2 * s) a R → a + s = m → ¬ m < N → Full κ d (2 * s) R) := Lib.hid fun R W s a m h h0 hp h1 h2 => hp.rest (by rw [h.len]; omega) (by omega) (by omega)
  have FIN : Hid (∀ (R : List Bn) (W : World) (s : Nat), Rs B A N c R w W → Full κ d s R → ¬ s < N → Rs B A N c (sortL κ d) w W) := Lib.hid fun R W s h hf hs => by
    have := hf.sorted (by rw [h.len]; omega)
    rw [← this]
    exact h
  generalize sortL κ d = G at *
  clear h hBw HC
  go_enter Tryz.func87, Tryz.ntmps87
  go_wp2
  go_loopw [7, 8] (fun ax bx wr => ∃ (a b : Nat) (R : List Bn), ax = .int .i64 a ∧ bx = .int .i64 b ∧ a + 20 = b ∧ a ≤ N ∧ Hid (Rs B A N c R w wr) ∧ Hid (Pass κ d 1 20 a R)) (fun ax _ _ => N - (intOf ax).toNat)
  case atStart => exact ⟨0, 20, d, rfl, rfl, rfl, Nat.zero_le _, H0, P0⟩
  case round =>
    obtain ⟨a, b, R, rfl, rfl, hab, haN, HR, HP⟩ := hrel
    clear H0 P0
    by_cases hbN : b ≤ N
    · have t1 : (b : Int) ≤ (N : Int) := by omega
      obtain ⟨b2, hb2⟩ : ∃ b2, b2 = b + 20 := ⟨_, rfl⟩
      have wb : IntKind.i64.wrap ((b : Int) + 20) = (b2 : Int) := by rw [IntWalk.i64_in _ (by omega)]; omega
      have C1 := Lib.hid (INSC.out R wr a b HR.out HP.out hab hbN)
      have hab2 : a < b := by omega
      have e2 : b + 20 = b2 := hb2.symm
      replace e2 := Lib.hid e2
      clear hb2 INSC INSE SYC SYE SY0 FIN HR HP
      go_wp2_with (go_at_call 105; with_reducible refine (C1.out).mono ?_; rintro e w' ⟨rfl, R2, hr, hp⟩; have HR2 := Lib.hid hr; have HP2 := Lib.hid hp; clear hr hp C1)
      go_roundw
      case rel => exact ⟨b, b2, R2, rfl, rfl, e2.out, hbN, HR2, HP2⟩
      case measure => simp [intOf]; omega
    · have t1 : ¬ (b : Int) ≤ (N : Int) := by omega
      have C1 := Lib.hid (INSE.out R wr a HR.out HP.out haN (by omega))
      clear INSC INSE HR HP
      go_wp2_with (go_at_call 105; with_reducible refine (C1.out).mono ?_; rintro e w' ⟨rfl, R2, hr, hp⟩; have HR2 := Lib.hid hr; have HF2 := Lib.hid hp; clear hr hp C1)
      go_loopw [6] (fun sx wr => ∃ (s : Nat) (R : List Bn), sx = .int .i64 s ∧ 20 ≤ s ∧ s ≤ 2000000 ∧ Hid (Rs B A N c R w wr) ∧ Hid (Full κ d s R)) (fun sx _ => N - (intOf sx).toNat)
      case atStart => exact ⟨20, R2, rfl, by omega, by omega, HR2, HF2⟩
      case round =>
        clear HR2 HF2
        obtain ⟨s, R, rfl, h20, hs6, HR, HF⟩ := hrel
        by_cases hsN : s < N
        · have t2 : (s : Int) < (N : Int) := by omega
          obtain ⟨s2, hs2⟩ : ∃ s2, s2 = 2 * s := ⟨_, rfl⟩
          have ws : IntKind.i64.wrap (2 * (s : Int)) = (s2 : Int) := by rw [IntWalk.i64_in _ (by omega)]; omega
          have ws' : IntKind.i64.wrap ((s : Int) * 2) = (s2 : Int) := by rw [IntWalk.i64_in _ (by omega)]; omega
          have P1 := HF.out.pass
          rw [← hs2] at P1
          replace P1 := Lib.hid P1
          have e2 := Lib.hid hs2
          have h2s : s2 ≤ 2000000 := by omega
          have h1s : s < s2 := by omega
          clear HF hs2 FIN
          go_wp2
          go_loopw [7, 8] (fun ax bx wr => ∃ (a b : Nat) (R : List Bn), ax = .int .i64 a ∧ bx = .int .i64 b ∧ Hid (a + s2 = b) ∧ a ≤ N ∧ b ≤ 4000000 ∧ a < b ∧ Hid (Rs B A N c R w wr) ∧ Hid (Pass κ d s s2 a R)) (fun ax _ _ => N - (intOf ax).toNat)
          case atStart => exact ⟨0, s2, R, rfl, rfl, Lib.hid (by omega), Nat.zero_le _, by omega, by omega, HR, P1⟩
          case round =>
            clear HR P1
            obtain ⟨a, b, R, rfl, rfl, hab, haN, hb6, hab2, HR, HP⟩ := hrel
            obtain ⟨m, hm⟩ : ∃ m, m = a + s := ⟨_, rfl⟩
            have wm : IntKind.i64.wrap ((a : Int) + (s : Int)) = (m : Int) := by rw [IntWalk.i64_in _ (by omega)]; omega
            have hm6 : m ≤ 4000000 := by omega
            by_cases hbN : b ≤ N
            · have t3 : (b : Int) ≤ (N : Int) := by omega
              obtain ⟨b2, hb2⟩ : ∃ b2, b2 = b + s2 := ⟨_, rfl⟩
              have wb : IntKind.i64.wrap ((b : Int) + (s2 : Int)) = (b2 : Int) := by rw [IntWalk.i64_in _ (by omega)]; omega
              have C1 := SYC.out R wr s a m b HR.out (by omega) (by rw [← e2.out]; exact HP.out) hm.symm (by have := hab.out; have := e2.out; omega) hbN
              rw [← e2.out] at C1
              replace C1 := Lib.hid C1
              have e3 : Hid (b + s2 = b2) := Lib.hid hb2.symm
              have hb7 : b2 ≤ 4000000 := by omega
              have hb8 : b < b2 := by omega
              replace hm := Lib.hid hm
              clear hb2 SYC SYE SY0 HR HP
              go_wp2_with (go_at_call 106; with_reducible refine (C1.out).mono ?_; rintro e w' ⟨rfl, R2, hr, hp⟩; have HR2 := Lib.hid hr; have HP2 := Lib.hid hp; clear hr hp C1)
              go_roundw
              case rel => exact ⟨b, b2, R2, rfl, rfl, e3, hbN, hb7, hb8, HR2, HP2⟩
              case measure => simp [intOf]; omega
            · have t3 : ¬ (b : Int) ≤ (N : Int) := by omega
              have HPP : Pass κ d s (2 * s) a R := by rw [← e2.out]; exact HP.out
              by_cases hmN : m < N
              · have t4 : (m : Int) < (N : Int) := by omega
                have C1 := SYE.out R wr s a m HR.out (by omega) HPP hm.symm hmN (by have := hab.out; have := e2.out; omega)
                rw [← e2.out] at C1
                replace C1 := Lib.hid C1
                replace hm := Lib.hid hm
                clear HPP SYC SYE SY0 HR HP
                go_wp2_with (go_at_call 106; with_reducible refine (C1.out).mono ?_; rintro e w' ⟨rfl, R2, hr, hp⟩; have HR2 := Lib.hid hr; have HF2 := Lib.hid hp; clear hr hp C1)
                go_roundw
                case rel => exact ⟨s2, R2, rfl, by omega, h2s, HR2, HF2⟩
                case measure => simp [intOf]; omega
              · have t4 : ¬ (m : Int) < (N : Int) := by omega
                have C1 := SY0.out R wr s a m HR.out (by omega) HPP hm.symm hmN
                rw [← e2.out] at C1
                have HF2 := Lib.hid C1
                replace hm := Lib.hid hm
                clear C1 HPP SYC SYE SY0 HP
                go_wp2
                go_roundw
                case rel => exact ⟨s2, R, rfl, by omega, h2s, HR, HF2⟩
                case measure => simp [intOf]; omega
        · have t2 : ¬ (s : Int) < (N : Int) := by omega
          have HG := Lib.hid (FIN.out R wr s HR.out HF.out hsN)
          clear HR HF SYC SYE SY0 FIN
          go_wp2
          go_end0
          exact ⟨rfl, HG.out⟩
set_option maxHeartbeats 16000000 in
theorem sortstable_any {B : Nat} {A : Option Addr} {N c : Nat} {d : List Bn} {w : World} (h : Rs B A N c d w w) (hN : N ≤ 1000000) (hBw : B ≤ w.heap.size) (HC : CmpAt κ fn cap B w) :
    Calls Tryz.prog 60 #[.slice A N c, .func (.func fn) #[] cap] w fun e w' => e = .returned (.tuple #[]) ∧ Rs B A N c (sortL κ d) w w' := by
  have C1 := Lib.hid (stable_any h hN hBw HC)
  generalize sortL κ d = G at *
  clear h hN hBw HC
  go_enter Tryz.func60, Tryz.ntmps60
  go_wp2_with (go_at_call 87; with_reducible refine (C1.out).mono ?_; rintro e w' ⟨rfl, hr⟩; have HR2 := Lib.hid hr; clear hr C1)
  go_end0
  exact ⟨rfl, HR2.out⟩
end Go.Proofs.YtljaahemlcaffaaGreat
namespace Go.Proofs.YtljaahemlcaffaaGreat
open Go.RowKit Pz
set_option linter.unusedVariables false

/-- an append of entities to a row of none -/
theorem app_bn (W : World) {l : List Bn} {A : Option Addr} {cap : Nat} (R : RdB W W.heap.size A l) (hl : l.length ≤ 1000000) (ty : TypeId) :
    ∃ A' c' w', (Builtin.append_ #[24, 24] ty #[.slice (some ⟨W.heap.size, 0, none⟩) 0 0, .slice A l.length cap]).run Tryz.prog (W.alloc (.cells #[] 42)) = .ok (.slice A' l.length c') w' ∧
      OwnB w' W.heap.size (.slice A' l.length c') l ∧ Below W.heap.size W w' := by
  have h0 : OwnB (W.alloc (.cells #[] 42)) W.heap.size (.slice (some ⟨W.heap.size, 0, none⟩) 0 0) [] :=
    .inr ⟨W.heap.size, 0, 0, #[], rfl, Nat.le_refl _, at1 W _, Nat.le_refl _, by decide, by simp, fun j x hj => by simp at hj⟩
  cases hll : l with
  | nil =>
    subst hll
    refine ⟨some ⟨W.heap.size, 0, none⟩, 0, W.alloc (.cells #[] 42), ?_, h0, bel1 W _⟩
    obtain ⟨i, hi, hz, h2, h3⟩ := info_parts bundle_info
    cases A <;> simp [Builtin.append_, run_underlying Tryz.underlying24, sizeOf, typeInfo, hi, Builtin.lenOf, Builtin.firstCells, storeCells, loadCells, loadCellsFrom]
  | cons x0 r0 =>
    rw [← hll]
    obtain ⟨g, o, rfl, _⟩ := R 0 x0 (by rw [hll]; rfl)
    have hpos : 0 < l.length := by rw [hll]; simp
    obtain ⟨v', w', hr, ho, hg, hb⟩ := h0.app (P := Tryz.prog) (t := 24) (ty := ty) Tryz.underlying24 bundle_info rfl (by decide) bnE_len bnE_one (by rw [size1]; omega) l ⟨g, o, none⟩ cap (fun j x hj => by
      obtain ⟨g', o', e, hg, KS⟩ := (R.below (bel1 W (.cells #[] 42))) j x hj
      cases e
      intro c u hu
      have hc : c < 11 := (List.getElem?_eq_some_iff.1 hu).1
      rw [Addr.add_mid, ← Nat.add_assoc]
      have : c = 0 ∨ c = 1 ∨ c = 2 ∨ c = 3 ∨ c = 4 ∨ c = 5 ∨ c = 6 ∨ c = 7 ∨ c = 8 ∨ c = 9 ∨ c = 10 := by omega
      rcases this with rfl | rfl | rfl | rfl | rfl | rfl | rfl | rfl | rfl | rfl | rfl
      · have e1 : u = .int .i64 x.s := by simpa [bnE] using hu.symm
        rw [e1]
        exact KS.1
      · have e1 : u = .int .i64 x.i := by simpa [bnE] using hu.symm
        rw [e1]
        exact KS.2.1
      · have e1 : u = .int .i64 x.g := by simpa [bnE] using hu.symm
        rw [e1]
        exact KS.2.2.1
      · have e1 : u = .int .i64 x.m := by simpa [bnE] using hu.symm
        rw [e1]
        exact KS.2.2.2.1
      · have e1 : u = .int .i64 x.x := by simpa [bnE] using hu.symm
        rw [e1]
        exact KS.2.2.2.2.1
      · have e1 : u = .int .i64 x.y := by simpa [bnE] using hu.symm
        rw [e1]
        exact KS.2.2.2.2.2.1
      · have e1 : u = .int .i64 x.vx := by simpa [bnE] using hu.symm
        rw [e1]
        exact KS.2.2.2.2.2.2.1
      · have e1 : u = .int .i64 x.vy := by simpa [bnE] using hu.symm
        rw [e1]
        exact KS.2.2.2.2.2.2.2.1
      · have e1 : u = .int .i64 x.h := by simpa [bnE] using hu.symm
        rw [e1]
        exact KS.2.2.2.2.2.2.2.2.1
      · have e1 : u = .int .i64 x.p := by simpa [bnE] using hu.symm
        rw [e1]
        exact KS.2.2.2.2.2.2.2.2.2.1
      · have e1 : u = .int .i64 x.l := by simpa [bnE] using hu.symm
        rw [e1]
        exact KS.2.2.2.2.2.2.2.2.2.2
      ) (by simpa using hl) (by decide) (.inl hpos)
    obtain ⟨A', c', hv⟩ := ho.form
    rw [List.nil_append] at ho hv
    subst hv
    exact ⟨A', c', w', hr, ho, ((Below.refl W.heap.size W).alloc (Nat.le_refl _) _).grown hg (by rw [size1]; omega) (fun k hk => (h0.blk hk).1)⟩
set_option maxHeartbeats 16000000 in
set_option maxRecDepth 100000 in
theorem clone_any {w : World} {l : List Bn} {A : Option Addr} {cap : Nat} (R : RdB w w.heap.size A l) (hl : l.length ≤ 1000000) :
    Calls Tryz.prog 59 #[.slice A l.length cap] w fun e w' => (∃ A' c', e = .returned (.slice A' l.length c') ∧ OwnB w' w.heap.size (.slice A' l.length c') l) ∧ Below w.heap.size w w' := by
  obtain ⟨A', c', w2, hr, ho, hb⟩ := app_bn w (cap := cap) R hl 24
  have HR := Lib.hid hr
  have HO := Lib.hid ho
  have HB := Lib.hid hb
  have N0 : Hid (A = none → l = []) := Lib.hid fun e => by
    cases l with
    | nil => rfl
    | cons x r =>
      obtain ⟨g, o, e2, _⟩ := R 0 x rfl
      rw [e] at e2
      cases e2
  have EQN := fun (W : World) (a : Option Addr) (n c : Nat) => Lib.run_eql_slice_nil (P := Tryz.prog) W 24 42 a n c 0 0 Tryz.underlying24
  clear R hr ho hb
  cases A with
  | none =>
    have e := N0.out rfl
    subst e
    go_enter Tryz.func59, Tryz.ntmps59
    go_wp2
    go_ret
    exact ⟨⟨none, 0, rfl, .inl ⟨rfl, rfl⟩⟩, Below.refl _ _⟩
  | some a =>
    generalize hn : l.length = n at *
    go_enter Tryz.func59, Tryz.ntmps59
    go_wp2_with (at_builtin; refine wpList_append _ rfl (.tmp 5) (.tmp 6) _ _ rfl _ _ rfl rfl _ _ HR.out ?_; clear HR)
    go_ret
    exact ⟨⟨A', c', rfl, HO.out⟩, HB.out⟩
set_option maxHeartbeats 16000000 in
set_option maxRecDepth 100000 in
theorem sorted_any {w : World} {l : List Bn} {A : Option Addr} {cap : Nat} (R : RdB w w.heap.size A l) (hl : l.length ≤ 1000000) :
    Calls Tryz.prog 32 #[.slice A l.length cap] w fun e w' => (∃ A' c', e = .returned (.slice A' l.length c') ∧ OwnB w' w.heap.size (.slice A' l.length c') (sortL Bn.id l)) ∧ Below w.heap.size w w' := by
  have C1 := Lib.hid (clone_any (cap := cap) R hl)
  have S1 : Hid (∀ (A' : Option Addr) (c' : Nat) (W : World), OwnB W w.heap.size (.slice A' l.length c') l → Below w.heap.size w W → Calls Tryz.prog 60 #[.slice A' l.length c', .func (.func 61) #[] #[]] W fun e w' => e = .returned (.tuple #[]) ∧ OwnB w' w.heap.size (.slice A' l.length c') (sortL Bn.id l) ∧ Below w.heap.size w w') := Lib.hid fun A' c' W ho hb => by
    refine (sortstable_any (B := w.heap.size) (w := W) ⟨ho, rfl, Below.refl _ _⟩ hl hb.size (cmp_names _ _)).mono ?_
    rintro e w' ⟨he, hr⟩
    exact ⟨he, hr.own, hb.trans hr.bel⟩
  generalize hn : l.length = n at *
  generalize sortL Bn.id l = G at *
  clear hn R hl
  go_enter Tryz.func32, Tryz.ntmps32
  go_wp2_with (first
    | (go_at_call 59; with_reducible refine (C1.out).mono ?_; rintro e w2 ⟨⟨A2, c2, rfl, ho⟩, hb⟩; have S2 := Lib.hid (S1.out A2 c2 w2 ho hb); clear ho hb C1 S1)
    | (go_at_call 60; with_reducible refine (S2.out).mono ?_; rintro e w2 ⟨rfl, ho, hb⟩; have HO := Lib.hid ho; have HB := Lib.hid hb; clear ho hb S2))
  go_ret
  exact ⟨⟨_, _, rfl, HO.out⟩, HB.out⟩
end Go.Proofs.YtljaahemlcaffaaGreat
namespace Go.Proofs.YtljaahemlcaffaaGreat
open Go.RowKit Pz Sp
set_option linter.unusedVariables false
set_option linter.unusedSimpArgs false

/-- a row behind a row -/
theorem app_row {W : World} {B : Nat} {v : Value} {l y : List Bn} (h : OwnB W B v l) (hB : B ≤ W.heap.size) {A : Option Addr} {cap : Nat} (R : RdB W W.heap.size A y) (hl : l.length + y.length ≤ 1000000) (ty : TypeId) :
    ∃ A' c' w', (Builtin.append_ #[24, 24] ty #[v, .slice A y.length cap]).run Tryz.prog W = .ok (.slice A' (l.length + y.length) c') w' ∧ OwnB w' B (.slice A' (l.length + y.length) c') (l ++ y) ∧ Below B W w' := by
  cases hyy : y with
  | nil =>
    subst hyy
    simp only [List.length_nil, Nat.add_zero, List.append_nil]
    obtain ⟨i, hi, hz, h2, h3⟩ := info_parts bundle_info
    rcases id h with ⟨rfl, rfl⟩ | ⟨g, off, cp, cur, rfl, h1, h4, h5, _⟩
    · refine ⟨none, 0, W, ?_, h, Below.refl _ _⟩
      cases A <;> simp [Builtin.append_, run_underlying Tryz.underlying24, sizeOf, typeInfo, hi, Builtin.lenOf, Builtin.firstCells, storeCells, loadCells, loadCellsFrom]
    · refine ⟨_, cp, W, ?_, h, Below.refl _ _⟩
      cases A <;> simp [Builtin.append_, run_underlying Tryz.underlying24, sizeOf, typeInfo, hi, Builtin.lenOf, Builtin.firstCells, storeCells, loadCells, loadCellsFrom, h5]
  | cons x0 r0 =>
    rw [← hyy]
    obtain ⟨g, o, rfl, _⟩ := R 0 x0 (by rw [hyy]; rfl)
    have hpos : 0 < y.length := by rw [hyy]; simp
    obtain ⟨v', w', hr, ho, hg, hb⟩ := h.app (P := Tryz.prog) (t := 24) (ty := ty) Tryz.underlying24 bundle_info rfl (by decide) bnE_len bnE_one hB y ⟨g, o, none⟩ cap (fun j x hj => by
      obtain ⟨g', o', e, hg, KS⟩ := R j x hj
      cases e
      intro c u hu
      have hc : c < 11 := (List.getElem?_eq_some_iff.1 hu).1
      rw [Addr.add_mid, ← Nat.add_assoc]
      obtain ⟨k0, k1, k2, k3, k4, k5, k6, k7, k8, k9, k10⟩ := KS
      have : c = 0 ∨ c = 1 ∨ c = 2 ∨ c = 3 ∨ c = 4 ∨ c = 5 ∨ c = 6 ∨ c = 7 ∨ c = 8 ∨ c = 9 ∨ c = 10 := by omega
      rcases this with rfl | rfl | rfl | rfl | rfl | rfl | rfl | rfl | rfl | rfl | rfl
      · have e1 : u = .int .i64 x.s := by simpa [bnE] using hu.symm
        rw [e1]
        exact k0
      · have e1 : u = .int .i64 x.i := by simpa [bnE] using hu.symm
        rw [e1]
        exact k1
      · have e1 : u = .int .i64 x.g := by simpa [bnE] using hu.symm
        rw [e1]
        exact k2
      · have e1 : u = .int .i64 x.m := by simpa [bnE] using hu.symm
        rw [e1]
        exact k3
      · have e1 : u = .int .i64 x.x := by simpa [bnE] using hu.symm
        rw [e1]
        exact k4
      · have e1 : u = .int .i64 x.y := by simpa [bnE] using hu.symm
        rw [e1]
        exact k5
      · have e1 : u = .int .i64 x.vx := by simpa [bnE] using hu.symm
        rw [e1]
        exact k6
      · have e1 : u = .int .i64 x.vy := by simpa [bnE] using hu.symm
        rw [e1]
        exact k7
      · have e1 : u = .int .i64 x.h := by simpa [bnE] using hu.symm
        rw [e1]
        exact k8
      · have e1 : u = .int .i64 x.p := by simpa [bnE] using hu.symm
        rw [e1]
        exact k9
      · have e1 : u = .int .i64 x.l := by simpa [bnE] using hu.symm
        rw [e1]
        exact k10
      ) hl (by decide) (.inl hpos)
    obtain ⟨A', c', hv⟩ := ho.form
    rw [List.length_append] at hv
    subst hv
    exact ⟨A', c', w', hr, ho, (Below.refl B W).grown hg hB (fun k hk => (h.blk hk).1)⟩
set_option maxHeartbeats 4000000 in
set_option maxRecDepth 100000 in
theorem grow_nil (n : Nat) (hn : n ≤ 2000) (w : World) :
    Calls Tryz.prog 109 #[.slice none 0 0, .int .i64 n] w fun e V => ∃ A c, e = .returned (.slice A 0 c) ∧ OwnB V w.heap.size (.slice A 0 c) [] ∧ Below w.heap.size w V := by
  have t1 : ¬ ((n : Int) < 0) := by omega
  have t2 : IntKind.i64.wrap (n : Int) = n := IntWalk.i64_in _ ⟨by omega, by omega⟩
  by_cases h0 : n = 0
  · subst h0
    go_enter Tryz.func109, Tryz.ntmps109
    go_wp2
    go_ret
    exact ⟨none, 0, rfl, .inl ⟨rfl, rfl⟩, Below.refl _ _⟩
  · have t3 : (n : Int) > 0 := by omega
    obtain ⟨i, hi, hz, h2, h3⟩ := info_parts bundle_info
    have hr := fun ty => Lib.run_append_nil_zeros (P := Tryz.prog) w 24 3 ty 42 i _ .i64 .i64 Tryz.underlying24 Tryz.underlying3 hi hz n (by omega) (by rw [h2]; decide) (by omega) (by rw [h3]; omega)
    have hge := grownCap_ge w n 0 42
    have hcm : grownCap w n 0 42 ≤ maxLen := grownCap_le_maxLen w n 0 42 (by unfold maxLen; omega)
    have hsz : ∀ (zc : Array Value) (a b : Nat), zc.size = 11 → (Builtin.zeroCells zc a ++ Builtin.zeroCells zc b).size = (a + b) * 11 := fun zc a b e => by simp only [Array.size_append, size_zeroCells, e, ← Nat.add_mul]
    have FIN : Hid (OwnB (w.drew.alloc (.cells (Builtin.zeroCells (Value.cells (.agg #[.int .i64 0, .int .i64 0, .int .i64 0, .int .i64 0, .int .i64 0, .int .i64 0, .int .i64 0, .int .i64 0, .int .i64 0, .int .i64 0, .int .i64 0])) n ++ Builtin.zeroCells (Value.cells (.agg #[.int .i64 0, .int .i64 0, .int .i64 0, .int .i64 0, .int .i64 0, .int .i64 0, .int .i64 0, .int .i64 0, .int .i64 0, .int .i64 0, .int .i64 0])) (grownCap w n 0 42 - n)) 42)) w.heap.size (.slice (some ⟨w.heap.size, 0, none⟩) 0 (grownCap w n 0 42)) [] ∧ Below w.heap.size w (w.drew.alloc (.cells (Builtin.zeroCells (Value.cells (.agg #[.int .i64 0, .int .i64 0, .int .i64 0, .int .i64 0, .int .i64 0, .int .i64 0, .int .i64 0, .int .i64 0, .int .i64 0, .int .i64 0, .int .i64 0])) n ++ Builtin.zeroCells (Value.cells (.agg #[.int .i64 0, .int .i64 0, .int .i64 0, .int .i64 0, .int .i64 0, .int .i64 0, .int .i64 0, .int .i64 0, .int .i64 0, .int .i64 0, .int .i64 0])) (grownCap w n 0 42 - n)) 42))) := Lib.hid (by
      refine ⟨.inr ⟨w.heap.size, 0, _, _, rfl, Nat.le_refl _, heap_alloc_new w.drew _, Nat.zero_le _, hcm, ?_, fun j x hj => by simp at hj⟩, ((Below.refl _ _).drew).alloc (Nat.le_refl _) _⟩
      rw [hsz _ _ _ rfl]
      omega)
    have HR := Lib.hid hr
    clear hr hsz hcm hi hz h2 h3
    generalize w.drew.alloc (.cells (Builtin.zeroCells (Value.cells (.agg #[.int .i64 0, .int .i64 0, .int .i64 0, .int .i64 0, .int .i64 0, .int .i64 0, .int .i64 0, .int .i64 0, .int .i64 0, .int .i64 0, .int .i64 0])) n ++ Builtin.zeroCells (Value.cells (.agg #[.int .i64 0, .int .i64 0, .int .i64 0, .int .i64 0, .int .i64 0, .int .i64 0, .int .i64 0, .int .i64 0, .int .i64 0, .int .i64 0, .int .i64 0])) (grownCap w n 0 42 - n)) 42) = V at *
    generalize grownCap w n 0 42 = G at *
    go_enter Tryz.func109, Tryz.ntmps109
    go_wp2_with (at_builtin; refine Lib.wpList_append_run _ rfl _ _ _ _ rfl _ _ rfl rfl _ _ (HR.out _) ?_)
    go_ret
    exact ⟨_, _, rfl, FIN.out.1, FIN.out.2⟩
set_option maxHeartbeats 4000000 in
set_option maxRecDepth 100000 in
theorem concat_any {w : World} {A A2 : Option Addr} {c c2 cz : Nat} {own others : List Bn} (R : RdB w w.heap.size A own) (R2 : RdB w w.heap.size A2 others) (hl : own.length ≤ 1000) (hl2 : others.length ≤ 1000) {g : Nat} (hg : w.heap[g]? = some (.cells #[.slice A own.length c, .slice A2 others.length c2] 24 (0, 0))) :
    Calls Tryz.prog 91 #[.slice (some ⟨g, 0, none⟩) 2 cz] w fun e V => ∃ A' c', e = .returned (.slice A' (own.length + others.length) c') ∧ OwnB V w.heap.size (.slice A' (own.length + others.length) c') (own ++ others) ∧ Below w.heap.size w V := by
  have HG := Lib.hid fun V (hV : Below w.heap.size w V) => (hV.block g (Bx.lt hg)).trans hg
  obtain ⟨⟨k0, k1⟩, _⟩ := Bx.b2 hg
  have GW : Hid (Calls Tryz.prog 109 #[.slice none 0 0, .int .i64 ((own.length : Int) + (others.length : Int))] w fun e V => ∃ A c, e = .returned (.slice A 0 c) ∧ OwnB V w.heap.size (.slice A 0 c) [] ∧ Below w.heap.size w V) := Lib.hid (by
    have := grow_nil (own.length + others.length) (by omega) w
    rw [Int.natCast_add] at this
    exact this)
  have P1 : Hid (∀ V v, Below w.heap.size w V → OwnB V w.heap.size v [] → ∃ A' c' w', (∀ ty, (Builtin.append_ #[24, 24] ty #[v, .slice A own.length c]).run Tryz.prog V = .ok (.slice A' own.length c') w') ∧ Hid (OwnB w' w.heap.size (.slice A' own.length c') own) ∧ Hid (Below w.heap.size w w')) := Lib.hid fun V v hV ho => by
    obtain ⟨A', c', w', h1, h2, h3⟩ := app_row (cap := c) ho hV.size ((R.below hV).more hV.size) (by simp; omega) 24
    simp only [List.length_nil, Nat.zero_add, List.nil_append] at h1 h2
    exact ⟨A', c', w', fun _ => h1, Lib.hid h2, Lib.hid (hV.trans h3)⟩
  have P2 : Hid (∀ V v, Below w.heap.size w V → OwnB V w.heap.size v own → ∃ A' c' w', (∀ ty, (Builtin.append_ #[24, 24] ty #[v, .slice A2 others.length c2]).run Tryz.prog V = .ok (.slice A' (own.length + others.length) c') w') ∧ Hid (OwnB w' w.heap.size (.slice A' (own.length + others.length) c') (own ++ others)) ∧ Hid (Below w.heap.size w w')) := Lib.hid fun V v hV ho => by
    obtain ⟨A', c', w', h1, h2, h3⟩ := app_row (cap := c2) ho hV.size ((R2.below hV).more hV.size) (by omega) 24
    exact ⟨A', c', w', fun _ => h1, Lib.hid h2, Lib.hid (hV.trans h3)⟩
  clear R R2 hg
  generalize own.length = n1 at *
  generalize others.length = n2 at *
  generalize own ++ others = all at *
  have u1 : IntKind.i64.wrap (n1 : Int) = n1 := IntWalk.i64_in _ ⟨by omega, by omega⟩
  have u2 : IntKind.i64.wrap ((n1 : Int) + (n2 : Int)) = (n1 : Int) + (n2 : Int) := IntWalk.i64_in _ ⟨by omega, by omega⟩
  have t1 : ¬ ((n1 : Int) < 0) := by omega
  have t2 : ¬ ((n1 : Int) + (n2 : Int) < 0) := by omega
  go_enter Tryz.func91, Tryz.ntmps91
  go_wp2
  go_loop [3, 11] (fun s i => (s = .int .i64 0 ∧ i = .int .i64 0) ∨ (s = .int .i64 n1 ∧ i = .int .i64 1) ∨ (s = .int .i64 ((n1 : Int) + (n2 : Int)) ∧ i = .int .i64 2)) (fun _ i => 2 - (intOf i).toNat)
  case atStart => exact .inl ⟨rfl, rfl⟩
  case round =>
    rcases hrel with ⟨rfl, rfl⟩ | ⟨rfl, rfl⟩ | ⟨rfl, rfl⟩
    · go_wp2
      go_round
      case rel => exact .inr (.inl ⟨rfl, rfl⟩)
      case measure => simp [intOf]
    · go_wp2
      go_round
      case rel => exact .inr (.inr ⟨rfl, rfl⟩)
      case measure => simp [intOf]
    · go_wp2_with (go_at_call 109; with_reducible refine GW.out.mono ?_; rintro e w1 ⟨A0, c0, rfl, ho, hb⟩; have HO := Lib.hid ho; have HB := Lib.hid hb; clear ho hb GW k0 k1)
      go_loopw [6, 27] (fun v i wr => ∃ A' c', Hid (Below w.heap.size w wr) ∧ ((v = .slice A' 0 c' ∧ i = .int .i64 0 ∧ Hid (OwnB wr w.heap.size (.slice A' 0 c') [])) ∨ (v = .slice A' n1 c' ∧ i = .int .i64 1 ∧ Hid (OwnB wr w.heap.size (.slice A' n1 c') own)) ∨ (v = .slice A' (n1 + n2) c' ∧ i = .int .i64 2 ∧ Hid (OwnB wr w.heap.size (.slice A' (n1 + n2) c') all)))) (fun _ i _ => 2 - (intOf i).toNat)
      case atStart => exact ⟨A0, c0, HB, .inl ⟨rfl, rfl, HO⟩⟩
      case round =>
        clear HB HO
        obtain ⟨A', c', HB, ⟨rfl, rfl, HO⟩ | ⟨rfl, rfl, HO⟩ | ⟨rfl, rfl, HO⟩⟩ := hrel
        · obtain ⟨⟨k0, k1⟩, _⟩ := Bx.b2 (HG.out _ HB.out)
          obtain ⟨A3, c3, w3, hr, H3, B3⟩ := P1.out _ _ HB.out HO.out
          have HR := Lib.hid hr
          clear hr
          go_wp2_with (at_builtin; refine Lib.wpList_append_run _ rfl _ _ _ _ rfl _ _ rfl rfl _ _ (HR.out _) ?_)
          go_roundw
          case rel => exact ⟨A3, c3, B3, .inr (.inl ⟨rfl, rfl, H3⟩)⟩
          case measure => simp [intOf]
        · obtain ⟨⟨k0, k1⟩, _⟩ := Bx.b2 (HG.out _ HB.out)
          obtain ⟨A3, c3, w3, hr, H3, B3⟩ := P2.out _ _ HB.out HO.out
          have HR := Lib.hid hr
          clear hr
          go_wp2_with (at_builtin; refine Lib.wpList_append_run _ rfl _ _ _ _ rfl _ _ rfl rfl _ _ (HR.out _) ?_)
          go_roundw
          case rel => exact ⟨A3, c3, B3, .inr (.inr ⟨rfl, rfl, H3⟩)⟩
          case measure => simp [intOf]
        · go_wp2
          go_ret
          exact ⟨A', c', rfl, HO.out, HB.out⟩
end Go.Proofs.YtljaahemlcaffaaGreat
