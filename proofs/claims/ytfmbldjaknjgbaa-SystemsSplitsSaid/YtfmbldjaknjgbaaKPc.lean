/- PcCode1, PcAlg, in one text. -/
import Derived.Test.YtfmbldjaknjgbaaKPz
namespace Go.Proofs.Ytfmbldjaknjgbaa
open Go.RowKit Pz
set_option linter.unusedVariables false

namespace Pz
def within (n lo hi : Int) : Bool := decide (lo ≤ n) && decide (n ≤ hi)
/-- has a mask all bits of another one? -/
def hasB (m k : Int) : Bool := bits .and .i64 m k == k
theorem rightID_is (s i g : Int) : rightID s i g = ((within s 0 15 && within i 0 15) && within g 0 1048575) := by
  unfold rightID within
  rw [show decide (g < 1048576) = decide (g ≤ 1048575) from decide_eq_decide.2 (by omega)]
  simp only [ge_iff_le, Bool.and_assoc]
theorem inB_is (n lo hi : Int) (b : Bool) : inB n lo hi b = if b then within n lo hi else decide (n = 0) := rfl
theorem and_pow (m : Int) {j : Nat} (hj : j ≤ 4) : bits .and .i64 m ((2 : Int) ^ j) = if bitB m j then (2 : Int) ^ j else 0 := by
  have e : BitVec.ofInt 64 ((2 : Int) ^ j) = BitVec.twoPow 64 j := by
    have : j = 0 ∨ j = 1 ∨ j = 2 ∨ j = 3 ∨ j = 4 := by omega
    rcases this with rfl | rfl | rfl | rfl | rfl <;> rfl
  rw [bits_and, e, BitVec.and_twoPow, getLsb_of hj]
  split
  · have : j = 0 ∨ j = 1 ∨ j = 2 ∨ j = 3 ∨ j = 4 := by omega
    rcases this with rfl | rfl | rfl | rfl | rfl <;> rfl
  · rfl
theorem has_bit (m : Int) {j : Nat} (hj : j ≤ 4) : hasB m ((2 : Int) ^ j) = bitB m j := by
  have h0 : (2 : Int) ^ j ≠ 0 := by
    have : j = 0 ∨ j = 1 ∨ j = 2 ∨ j = 3 ∨ j = 4 := by omega
    rcases this with rfl | rfl | rfl | rfl | rfl <;> decide
  unfold hasB
  rw [and_pow m hj]
  cases bitB m j with
  | true => rw [if_pos rfl]; exact beq_self_eq_true _
  | false =>
    rw [if_neg (by decide)]
    exact beq_eq_false_iff_ne.2 fun e => h0 e.symm
theorem takes_is (m : Int) : takesB m = (within m 1 31 && (bits .and .i64 m 1 == 0)) := by
  have := and_pow m (j := 0) (by decide)
  rw [show (2 : Int) ^ 0 = 1 from rfl] at this
  unfold takesB within
  rw [this]
  cases bitB m 0 <;> rfl
def cmpI (x y : Int) : Int := if x < y then -1 else if x > y then 1 else 0
/-- the first one that is not 0 -/
def orI (x y z : Int) : Int := if x ≠ 0 then x else if y ≠ 0 then y else z
def cmpB (a b : Int × Int × Int) : Int := orI (cmpI a.1 b.1) (cmpI a.2.1 b.2.1) (cmpI a.2.2 b.2.2)
end Pz
set_option maxHeartbeats 8000000 in
theorem has_any (b : Bn) (k : Int) (w : World) : Calls Try.prog 35 #[b.val, .int .i64 k] w fun e w' => e = .returned (.bool (hasB b.m k)) ∧ Below w.heap.size w w' := by
  obtain ⟨s, i, g, m, x, y, vx, vy, h, p, l⟩ := b
  unfold hasB
  simp only [Bn.val]
  obtain ⟨r, hr⟩ : ∃ r, bits .and .i64 m k = r := ⟨_, rfl⟩
  obtain ⟨t, ht⟩ : ∃ t, (r == k) = t := ⟨_, rfl⟩
  rw [hr, ht]
  have FIN := Lib.hid (bel1 w (.cells #[.int .i64 s, .int .i64 i, .int .i64 g, .int .i64 m, .int .i64 x, .int .i64 y, .int .i64 vx, .int .i64 vy, .int .i64 h, .int .i64 p, .int .i64 l] 34))
  obtain ⟨⟨k0, k1, k2, k3, k4, k5, k6, k7, k8, k9, k10⟩, _⟩ := Bx.b11 (at1 w (.cells #[.int .i64 s, .int .i64 i, .int .i64 g, .int .i64 m, .int .i64 x, .int .i64 y, .int .i64 vx, .int .i64 vy, .int .i64 h, .int .i64 p, .int .i64 l] 34))
  generalize hww : w.alloc (.cells #[.int .i64 s, .int .i64 i, .int .i64 g, .int .i64 m, .int .i64 x, .int .i64 y, .int .i64 vx, .int .i64 vy, .int .i64 h, .int .i64 p, .int .i64 l] 34) = w1 at *
  go_enter Try.func35, Try.ntmps35
  go_wp2
  go_ret
  exact ⟨rfl, FIN.out⟩

/-- of one component -/
theorem has_one (b : Bn) {j : Nat} (hj : j ≤ 4) (w : World) : Calls Try.prog 35 #[b.val, .int .i64 ((2 : Int) ^ j)] w fun e w' => e = .returned (.bool (bitB b.m j)) ∧ Below w.heap.size w w' := by
  have := has_any b ((2 : Int) ^ j) w
  rw [has_bit _ hj] at this
  exact this
end Go.Proofs.Ytfmbldjaknjgbaa
namespace Go.Proofs.Ytfmbldjaknjgbaa
open Go Pz
set_option linter.unusedVariables false

namespace Pz
theorem ite_two (p q : Bool) (x y z : Int) : (if q = true then z else if p = true then y else x) = (if (p || q) = true then (if q = true then z else y) else x) := by
  cases p <;> cases q <;> rfl
theorem ite_zero (p q : Bool) (x : Int) : (if q = true then 0 else if p = true then 0 else x) = (if (p || q) = true then 0 else x) := by
  cases p <;> cases q <;> rfl
theorem ite_back (p : Bool) (x y : Int) : (if p = true then 0 else if p = true then y else x) = (if p = true then 0 else x) := by
  cases p <;> rfl
theorem with_two (a b c : Bn) : withB (withB a b) c = withB a (withB b c) := by
  simp only [withB, bit_or _ _ (show 0 ≤ 4 by decide), bit_or _ _ (show 1 ≤ 4 by decide), bit_or _ _ (show 2 ≤ 4 by decide), bit_or _ _ (show 3 ≤ 4 by decide), bit_or _ _ (show 4 ≤ 4 by decide), ite_two, or_assoc']
theorem without_two (a : Bn) (m n : Int) : withoutB (withoutB a m) n = withoutB a (bits .or .i64 m n) := by
  simp only [withoutB, bit_or _ _ (show 0 ≤ 4 by decide), bit_or _ _ (show 1 ≤ 4 by decide), bit_or _ _ (show 2 ≤ 4 by decide), bit_or _ _ (show 3 ≤ 4 by decide), bit_or _ _ (show 4 ≤ 4 by decide), ite_zero, andNot_two]
theorem with_self {a : Bn} (h : a.Fits) : withB a a = a := by
  simp only [withB, ite_self, or_self' h.m]
theorem without_none {a : Bn} (h : a.Fits) : withoutB a 0 = a := by
  have e : ∀ k, k ≤ 4 → bitB 0 k = false := fun k hk => by
    have : k = 0 ∨ k = 1 ∨ k = 2 ∨ k = 3 ∨ k = 4 := by omega
    rcases this with rfl | rfl | rfl | rfl | rfl <;> rfl
  simp only [withoutB, e 0 (by decide), e 1 (by decide), e 2 (by decide), e 3 (by decide), e 4 (by decide), andNot_zero' h.m, Bool.false_eq_true, if_false]
theorem without_with (a b : Bn) : withoutB (withB a b) b.m = withoutB a b.m := by
  simp only [withoutB, withB, ite_back, andNot_or]
theorem inB_none {n lo hi : Int} (h : inB n lo hi false = true) : n = 0 := by
  simpa [inB] using h
theorem right_parts {a : Bn} (h : right a = true) : (0 ≤ a.m ∧ a.m ≤ 31) ∧ inB a.x (-1073741824) 1073741824 (bitB a.m 0) = true ∧ inB a.y (-1073741824) 1073741824 (bitB a.m 0) = true ∧ inB a.vx (-1073741824) 1073741824 (bitB a.m 1) = true ∧ inB a.vy (-1073741824) 1073741824 (bitB a.m 1) = true ∧ inB a.h 1 1048576 (bitB a.m 2) = true ∧ inB a.p 0 1024 (bitB a.m 3) = true ∧ inB a.l 1 1048576 (bitB a.m 4) = true := by
  unfold right at h
  simp only [Bool.and_eq_true, Bool.not_eq_true', Bool.or_eq_false_iff, decide_eq_false_iff_not] at h
  obtain ⟨⟨⟨⟨h1, h2⟩, h3, h4⟩, h5, h6⟩, ⟨h7, h8⟩, h9⟩ := h
  exact ⟨⟨by omega, by omega⟩, h3, h4, h5, h6, h7, h8, h9⟩
theorem right_of {a : Bn} (h0 : 0 ≤ a.m ∧ a.m ≤ 31) (h1 : inB a.x (-1073741824) 1073741824 (bitB a.m 0) = true) (h2 : inB a.y (-1073741824) 1073741824 (bitB a.m 0) = true) (h3 : inB a.vx (-1073741824) 1073741824 (bitB a.m 1) = true) (h4 : inB a.vy (-1073741824) 1073741824 (bitB a.m 1) = true) (h5 : inB a.h 1 1048576 (bitB a.m 2) = true) (h6 : inB a.p 0 1024 (bitB a.m 3) = true) (h7 : inB a.l 1 1048576 (bitB a.m 4) = true) : right a = true := by
  unfold right
  rw [h1, h2, h3, h4, h5, h6, h7, decide_eq_false (by omega : ¬ a.m < 0), decide_eq_false (by omega : ¬ a.m > 31)]
  rfl
theorem ite_again {p q : Bool} {x lo hi : Int} (h : inB x lo hi p = true) : (if p = true then x else if q = true then 0 else x) = x := by
  cases p with
  | true => rfl
  | false =>
    have := inB_none h
    subst this
    cases q <;> rfl
theorem with_back {a : Bn} (hf : a.Fits) (h : right a = true) (n : Int) : withB (withoutB a n) a = a := by
  obtain ⟨_, h1, h2, h3, h4, h5, h6, h7⟩ := right_parts h
  simp only [withB, withoutB, ite_again h1, ite_again h2, ite_again h3, ite_again h4, ite_again h5, ite_again h6, ite_again h7, or_andNot hf.m]
/-! ### masks -/
theorem small_or {x y : Int} (hx : 0 ≤ x ∧ x ≤ 31) (hy : 0 ≤ y ∧ y ≤ 31) : 0 ≤ bits .or .i64 x y ∧ bits .or .i64 x y ≤ 31 := by
  obtain ⟨m, rfl⟩ : ∃ m : Nat, x = m := ⟨x.toNat, by omega⟩
  obtain ⟨n, rfl⟩ : ∃ n : Nat, y = n := ⟨y.toNat, by omega⟩
  have h1 : (m : Nat) < 2 ^ 5 := by omega
  have h2 : (n : Nat) < 2 ^ 5 := by omega
  have h3 := Nat.or_lt_two_pow h1 h2
  have e : (BitVec.ofInt 64 (m : Int) ||| BitVec.ofInt 64 (n : Int)) = BitVec.ofNat 64 (m ||| n) := by
    apply BitVec.eq_of_toNat_eq
    rw [BitVec.toNat_or, BitVec.toNat_ofNat, BitVec.toNat_ofInt, BitVec.toNat_ofInt]
    have e1 : ((m : Int) % ((2 ^ 64 : Nat) : Int)).toNat = m := by omega
    have e2 : ((n : Int) % ((2 ^ 64 : Nat) : Int)).toNat = n := by omega
    rw [e1, e2, Nat.mod_eq_of_lt (by omega)]
  rw [bits_or, e, BitVec.toInt_eq_toNat_of_lt (by rw [BitVec.toNat_ofNat, Nat.mod_eq_of_lt (by omega)]; omega), BitVec.toNat_ofNat, Nat.mod_eq_of_lt (by omega)]
  omega
theorem small_andNot {x : Int} (hx : 0 ≤ x ∧ x ≤ 31) (y : Int) : 0 ≤ bits .andNot .i64 x y ∧ bits .andNot .i64 x y ≤ 31 := by
  obtain ⟨m, rfl⟩ : ∃ m : Nat, x = m := ⟨x.toNat, by omega⟩
  have h1 : (m : Nat) < 2 ^ 5 := by omega
  have h3 : (BitVec.ofInt 64 (m : Int) &&& ~~~ BitVec.ofInt 64 y).toNat ≤ m := by
    rw [BitVec.toNat_and, BitVec.toNat_ofInt]
    have e1 : ((m : Int) % ((2 ^ 64 : Nat) : Int)).toNat = m := by omega
    rw [e1]
    exact Nat.and_le_left
  rw [bits_andNot, BitVec.toInt_eq_toNat_of_lt (by omega)]
  omega
/-! ### what leaves one that may be -/
theorem inB_pick {p q : Bool} {x y lo hi : Int} (h1 : inB x lo hi p = true) (h2 : inB y lo hi q = true) : inB (if q = true then y else x) lo hi (p || q) = true := by
  cases q with
  | true => rw [if_pos rfl, Bool.or_true]; exact h2
  | false => rw [if_neg (by decide), Bool.or_false]; exact h1
theorem inB_drop {p q : Bool} {x lo hi : Int} (h1 : inB x lo hi p = true) : inB (if q = true then 0 else x) lo hi (p && !q) = true := by
  cases q with
  | true => rw [if_pos rfl, Bool.not_true, Bool.and_false]; rfl
  | false => rw [if_neg (by decide), Bool.not_false, Bool.and_true]; exact h1
theorem right_with {b c : Bn} (hb : right b = true) (hc : right c = true) : right (withB b c) = true := by
  obtain ⟨b0, b1, b2, b3, b4, b5, b6, b7⟩ := right_parts hb
  obtain ⟨c0, c1, c2, c3, c4, c5, c6, c7⟩ := right_parts hc
  have e : ∀ k, k ≤ 4 → bitB (withB b c).m k = (bitB b.m k || bitB c.m k) := fun k hk => bit_or _ _ hk
  refine right_of (small_or b0 c0) ?_ ?_ ?_ ?_ ?_ ?_ ?_
  · rw [e 0 (by decide)]; exact inB_pick b1 c1
  · rw [e 0 (by decide)]; exact inB_pick b2 c2
  · rw [e 1 (by decide)]; exact inB_pick b3 c3
  · rw [e 1 (by decide)]; exact inB_pick b4 c4
  · rw [e 2 (by decide)]; exact inB_pick b5 c5
  · rw [e 3 (by decide)]; exact inB_pick b6 c6
  · rw [e 4 (by decide)]; exact inB_pick b7 c7
theorem right_without {b : Bn} (hb : right b = true) (n : Int) : right (withoutB b n) = true := by
  obtain ⟨b0, b1, b2, b3, b4, b5, b6, b7⟩ := right_parts hb
  have e : ∀ k, k ≤ 4 → bitB (withoutB b n).m k = (bitB b.m k && !bitB n k) := fun k hk => bit_andNot _ _ hk
  refine right_of (small_andNot b0 n) ?_ ?_ ?_ ?_ ?_ ?_ ?_
  · rw [e 0 (by decide)]; exact inB_drop b1
  · rw [e 0 (by decide)]; exact inB_drop b2
  · rw [e 1 (by decide)]; exact inB_drop b3
  · rw [e 1 (by decide)]; exact inB_drop b4
  · rw [e 2 (by decide)]; exact inB_drop b5
  · rw [e 3 (by decide)]; exact inB_drop b6
  · rw [e 4 (by decide)]; exact inB_drop b7
theorem may_with {b c : Bn} (hb : may b = true) (hc : right c = true) : may (withB b c) = true := by
  unfold may at hb ⊢
  simp only [Bool.and_eq_true] at hb ⊢
  refine ⟨⟨hb.1.1, right_with hb.1.2 hc⟩, ?_⟩
  rw [show (withB b c).m = bits .or .i64 b.m c.m from rfl, bit_or _ _ (by decide), hb.2, Bool.true_or]
theorem may_without {b : Bn} (hb : may b = true) (n : Int) : may (withoutB b n) = !bitB n 0 := by
  unfold may at hb ⊢
  simp only [Bool.and_eq_true] at hb
  have h1 : rightID (withoutB b n).s (withoutB b n).i (withoutB b n).g = true := hb.1.1
  rw [h1, right_without hb.1.2 n, show (withoutB b n).m = bits .andNot .i64 b.m n from rfl, bit_andNot _ _ (by decide), hb.2]
  simp
theorem has_left {b c : Bn} (hb : Fit b.m) : hasB (withB b c).m b.m = true := by
  unfold hasB
  rw [show (withB b c).m = bits .or .i64 b.m c.m from rfl, and_or_left, and_self' hb]
  exact beq_self_eq_true _
theorem has_right {b c : Bn} (hc : Fit c.m) : hasB (withB b c).m c.m = true := by
  unfold hasB
  rw [show (withB b c).m = bits .or .i64 b.m c.m from rfl, and_or_right, and_self' hc]
  exact beq_self_eq_true _
theorem pos_bit (n : Int) : (bits .and .i64 n 1 == 0) = !bitB n 0 := by
  have := and_pow n (j := 0) (by decide)
  rw [show (2 : Int) ^ 0 = 1 from rfl] at this
  rw [this]
  cases bitB n 0 <;> rfl
/-! ### the order of names -/
theorem cmpB_neg (a b : Int × Int × Int) : cmpB b a = - cmpB a b := by
  obtain ⟨a1, a2, a3⟩ := a
  obtain ⟨b1, b2, b3⟩ := b
  unfold cmpB orI cmpI
  simp only
  repeat' split
  all_goals first | rfl | omega
end Pz
end Go.Proofs.Ytfmbldjaknjgbaa
