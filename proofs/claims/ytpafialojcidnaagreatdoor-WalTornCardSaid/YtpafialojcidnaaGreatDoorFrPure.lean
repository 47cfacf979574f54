/- Chapter 5's sum and frames, over lists of bytes: nothing of the program. -/
import Derived.IntWalk
import Derived.RowKit
namespace Go.Proofs.YtpafialojcidnaaGreatDoor
namespace Fr

/-! ### the register -/
/-- one step of the register -/
def step (c : Nat) : Nat := if c % 2 = 1 then (c / 2) ^^^ 3988292384 else c / 2
def stepN : Nat → Nat → Nat
  | 0, c => c
  | k + 1, c => stepN k (step c)
def feed (c : Nat) (b : UInt8) : Nat := stepN 8 (c ^^^ b.toNat)
def reg (c : Nat) (l : List UInt8) : Nat := l.foldl feed c
/-- the sum of bytes -/
def sum (l : List UInt8) : Nat := 4294967295 - reg 4294967295 l

theorem xor_two (a b : Nat) : (a ^^^ b) % 2 = (a % 2 + b % 2) % 2 := by
  have h := Nat.xor_mod_two_pow (a := a) (b := b) (n := 1)
  simp only [Nat.pow_one] at h
  rw [h]
  have ha : a % 2 = 0 ∨ a % 2 = 1 := by omega
  have hb : b % 2 = 0 ∨ b % 2 = 1 := by omega
  rcases ha with ha | ha <;> rcases hb with hb | hb <;> rw [ha, hb] <;> decide
theorem xor_half (a b : Nat) : (a ^^^ b) / 2 = (a / 2) ^^^ (b / 2) := by
  have h := Nat.xor_div_two_pow (a := a) (b := b) (n := 1)
  simpa using h
theorem xor_lt {a b : Nat} (ha : a < 4294967296) (hb : b < 4294967296) : a ^^^ b < 4294967296 := Nat.xor_lt_two_pow (n := 32) ha hb
theorem xor_cancel {a b c : Nat} (h : a ^^^ c = b ^^^ c) : a = b := by
  have := congrArg (· ^^^ c) h
  simpa [Nat.xor_assoc] using this
theorem xor_cancel' {a b c : Nat} (h : c ^^^ a = c ^^^ b) : a = b := xor_cancel (c := c) (by rw [Nat.xor_comm a, Nat.xor_comm b]; exact h)
theorem step_lin (a b : Nat) : step (a ^^^ b) = step a ^^^ step b := by
  unfold step
  rw [xor_two, xor_half]
  have ha : a % 2 = 0 ∨ a % 2 = 1 := by omega
  have hb : b % 2 = 0 ∨ b % 2 = 1 := by omega
  rcases ha with ha | ha <;> rcases hb with hb | hb <;> rw [ha, hb]
  · rfl
  · simp [Nat.xor_assoc]
  · simp only [Nat.reduceAdd, Nat.reduceMod, if_true, Nat.zero_ne_one, if_false]
    rw [Nat.xor_assoc, Nat.xor_comm (b / 2), ← Nat.xor_assoc]
  · simp only [Nat.reduceAdd, Nat.reduceMod, if_true, Nat.zero_ne_one, if_false]
    rw [Nat.xor_comm (b / 2), Nat.xor_assoc, ← Nat.xor_assoc 3988292384, Nat.xor_self, Nat.zero_xor]
theorem step_lt {c : Nat} (h : c < 4294967296) : step c < 4294967296 := by
  unfold step
  split
  · exact xor_lt (by omega) (by decide)
  · omega
theorem step_two (x : Nat) : step (2 * x) = x := by
  unfold step
  rw [if_neg (by omega)]
  omega
theorem stepN_lin : ∀ (k a b : Nat), stepN k (a ^^^ b) = stepN k a ^^^ stepN k b
  | 0, _, _ => rfl
  | k + 1, a, b => by rw [stepN, step_lin, stepN_lin k]; rfl
theorem stepN_lt : ∀ (k : Nat) {c : Nat}, c < 4294967296 → stepN k c < 4294967296
  | 0, _, h => h
  | k + 1, _, h => stepN_lt k (step_lt h)
theorem stepN_add : ∀ (j k c : Nat), stepN k (stepN j c) = stepN (j + k) c
  | 0, k, c => by rw [Nat.zero_add]; rfl
  | j + 1, k, c => by rw [stepN, stepN_add j, Nat.add_right_comm]; rfl
theorem stepN_pow : ∀ (k x : Nat), stepN k (2 ^ k * x) = x
  | 0, x => by simp [stepN]
  | k + 1, x => by rw [stepN, show 2 ^ (k + 1) * x = 2 * (2 ^ k * x) by rw [Nat.pow_succ, Nat.mul_comm (2 ^ k), Nat.mul_assoc], step_two, stepN_pow k]
/-- a step is one-to-one on 32 bits: the bit that it turns on top is the one that it takes away -/
theorem step_inj {a b : Nat} (ha : a < 4294967296) (hb : b < 4294967296) (h : step a = step b) : a = b := by
  have key : ∀ c, c < 4294967296 → (step c) / 2147483648 = c % 2 := by
    intro c hc
    have h2 : c / 2 / 2147483648 = 0 := by omega
    unfold step
    split
    · rename_i h1
      have := Nat.xor_div_two_pow (a := c / 2) (b := 3988292384) (n := 31)
      rw [show (2 : Nat) ^ 31 = 2147483648 from rfl, h2] at this
      rw [this, h1]
      decide
    · omega
  have h2 : a % 2 = b % 2 := by rw [← key a ha, ← key b hb, h]
  have h3 : a / 2 = b / 2 := by
    unfold step at h
    rw [h2] at h
    split at h
    · exact xor_cancel h
    · exact h
  omega
theorem stepN_inj : ∀ (k : Nat) {a b : Nat}, a < 4294967296 → b < 4294967296 → stepN k a = stepN k b → a = b
  | 0, _, _, _, _, h => h
  | k + 1, _, _, ha, hb, h => step_inj ha hb (stepN_inj k (step_lt ha) (step_lt hb) h)

/-! ### four bits at once -/
def table : List Nat := [0, 498536548, 997073096, 651767980, 1994146192, 1802195444, 1303535960, 1342533948, 3988292384, 4027552580, 3604390888, 3412177804, 2607071920, 2262029012, 2685067896, 3183342108]
def four (c : Nat) : Nat := (c / 16) ^^^ table.getD (c % 16) 0
theorem split16 (c : Nat) : c = (2 ^ 4 * (c / 16)) ^^^ (c % 16) := by
  have h1 := Nat.xor_div_two_pow (a := 2 ^ 4 * (c / 16)) (b := c % 16) (n := 4)
  have h2 := Nat.xor_mod_two_pow (a := 2 ^ 4 * (c / 16)) (b := c % 16) (n := 4)
  rw [Nat.mul_div_cancel_left _ (by decide), show c % 16 / 2 ^ 4 = 0 by omega, Nat.xor_zero] at h1
  rw [Nat.mul_mod_right, show c % 16 % 2 ^ 4 = c % 16 by omega, Nat.zero_xor] at h2
  omega
theorem four_low : ∀ r : Nat, r < 16 → stepN 4 r = table.getD r 0 := by decide
theorem four_step (c : Nat) : four c = stepN 4 c := by
  have h := stepN_lin 4 (2 ^ 4 * (c / 16)) (c % 16)
  have s := split16 c
  rw [stepN_pow, four_low (c % 16) (by omega), ← s] at h
  rw [h]
  rfl
theorem feed_four (c : Nat) (b : UInt8) : four (four (c ^^^ b.toNat)) = feed c b := by
  rw [four_step, four_step, stepN_add]
  rfl
theorem four_lt {c : Nat} (h : c < 4294967296) : four c < 4294967296 := by rw [four_step]; exact stepN_lt 4 h
theorem byte_lt (b : UInt8) : b.toNat < 256 := by have := b.toNat_lt; omega
theorem feed_lt {c : Nat} (b : UInt8) (h : c < 4294967296) : feed c b < 4294967296 := stepN_lt 8 (xor_lt h (by have := byte_lt b; omega))
theorem reg_lt : ∀ (l : List UInt8) {c : Nat}, c < 4294967296 → reg c l < 4294967296
  | [], _, h => h
  | b :: l, _, h => reg_lt l (feed_lt b h)
theorem reg_append (c : Nat) (l r : List UInt8) : reg c (l ++ r) = reg (reg c l) r := by simp [reg, List.foldl_append]
theorem sum_lt (l : List UInt8) : sum l < 4294967296 := by unfold sum; omega

/-! ### what few neighbouring bytes do -/
/-- bytes as a number, the lowest first -/
def le : List UInt8 → Nat
  | [] => 0
  | b :: r => b.toNat ^^^ (256 * le r)
theorem reg_le : ∀ (l : List UInt8) (c : Nat), reg c l = stepN (8 * l.length) (c ^^^ le l)
  | [], c => by simp [reg, le, stepN]
  | b :: r, c => by
    have e : reg c (b :: r) = reg (feed c b) r := rfl
    rw [e, reg_le r, feed]
    have h8 : le r = stepN 8 (256 * le r) := (stepN_pow 8 (le r)).symm
    rw [show stepN 8 (c ^^^ b.toNat) ^^^ le r = stepN 8 (c ^^^ b.toNat) ^^^ stepN 8 (256 * le r) by rw [← h8], ← stepN_lin, stepN_add, Nat.xor_assoc]
    rw [show 8 + 8 * r.length = 8 * (b :: r).length by simp; omega]
    rfl
theorem le_lt : ∀ (l : List UInt8), le l < 2 ^ (8 * l.length)
  | [] => by simp [le]
  | b :: r => by
    have h1 := le_lt r
    have h2 := byte_lt b
    have e : 2 ^ (8 * (b :: r).length) = 256 * 2 ^ (8 * r.length) := by
      rw [List.length_cons, Nat.mul_add, Nat.pow_add, Nat.mul_comm]
    refine Nat.xor_lt_two_pow ?_ ?_
    · have : 0 < 2 ^ (8 * r.length) := Nat.two_pow_pos _
      omega
    · omega
theorem le_inj : ∀ {l m : List UInt8}, l.length = m.length → le l = le m → l = m
  | [], [], _, _ => rfl
  | [], _ :: _, h, _ => by simp at h
  | _ :: _, [], h, _ => by simp at h
  | a :: l, b :: m, h, he => by
    have ha := byte_lt a
    have hb := byte_lt b
    have q : ∀ (c : UInt8) (x : Nat), (c.toNat ^^^ (256 * x)) % 256 = c.toNat ∧ (c.toNat ^^^ (256 * x)) / 256 = x := by
      intro c x
      have hc := byte_lt c
      have h1 := Nat.xor_div_two_pow (a := c.toNat) (b := 256 * x) (n := 8)
      have h2 := Nat.xor_mod_two_pow (a := c.toNat) (b := 256 * x) (n := 8)
      rw [show (2 : Nat) ^ 8 = 256 from rfl] at h1 h2
      rw [Nat.div_eq_of_lt hc, Nat.mul_div_cancel_left _ (by decide), Nat.zero_xor] at h1
      rw [Nat.mod_eq_of_lt hc, Nat.mul_mod_right, Nat.xor_zero] at h2
      exact ⟨h2, h1⟩
    simp only [le] at he
    have e1 : a.toNat = b.toNat := by rw [← (q a (le l)).1, ← (q b (le m)).1, he]
    have e2 : le l = le m := by rw [← (q a (le l)).2, ← (q b (le m)).2, he]
    rw [UInt8.toNat_inj.1 e1, le_inj (by simpa using h) e2]
theorem burst_inj {l m : List UInt8} {c : Nat} (hc : c < 4294967296) (hl : l.length ≤ 4) (h : l.length = m.length) (he : reg c l = reg c m) : l = m := by
  have bd : ∀ x : List UInt8, x.length ≤ 4 → le x < 4294967296 := by
    intro x hx
    have h1 := le_lt x
    have h2 : 2 ^ (8 * x.length) ≤ 2 ^ 32 := Nat.pow_le_pow_right (by decide) (by omega)
    omega
  rw [reg_le, reg_le, ← h] at he
  have := stepN_inj _ (xor_lt hc (bd l hl)) (xor_lt hc (bd m (by omega))) he
  exact le_inj h (xor_cancel' this)
theorem reg_inj : ∀ (q : List UInt8) {a b : Nat}, a < 4294967296 → b < 4294967296 → reg a q = reg b q → a = b
  | [], _, _, _, _, h => h
  | x :: q, a, b, ha, hb, h => by
    have := reg_inj q (feed_lt x ha) (feed_lt x hb) h
    unfold feed at this
    have hx := byte_lt x
    exact xor_cancel (stepN_inj 8 (xor_lt ha (by omega)) (xor_lt hb (by omega)) this)
theorem sum_burst {p m m' q : List UInt8} (hl : m.length ≤ 4) (h : m.length = m'.length) (he : sum (p ++ (m ++ q)) = sum (p ++ (m' ++ q))) : m = m' := by
  have r0 : ∀ x : List UInt8, reg 4294967295 x < 4294967296 := fun x => reg_lt x (by decide)
  have e : reg 4294967295 (p ++ (m ++ q)) = reg 4294967295 (p ++ (m' ++ q)) := by
    have h1 := r0 (p ++ (m ++ q))
    have h2 := r0 (p ++ (m' ++ q))
    unfold sum at he
    omega
  rw [reg_append, reg_append, reg_append, reg_append] at e
  exact burst_inj (r0 p) hl h (reg_inj q (reg_lt m (r0 p)) (reg_lt m' (r0 p)) e)

/-! ### numbers in bytes, the highest first -/
def hi : Nat → Nat → List UInt8
  | _, 0 => []
  | m, k + 1 => hi (m / 256) k ++ [UInt8.ofNat (m % 256)]
theorem hi_len : ∀ (m k : Nat), (hi m k).length = k
  | _, 0 => rfl
  | m, k + 1 => by simp [hi, hi_len (m / 256) k]
def be (l : List UInt8) : Nat := l.foldl (fun n b => 256 * n + b.toNat) 0
theorem be_snoc (l : List UInt8) (b : UInt8) : be (l ++ [b]) = 256 * be l + b.toNat := by simp [be, List.foldl_append]
theorem ofNat_nat (n : Nat) (h : n < 256) : (UInt8.ofNat n).toNat = n := by rw [UInt8.toNat_ofNat']; omega
theorem be_hi : ∀ (k m : Nat), m < 256 ^ k → be (hi m k) = m
  | 0, m, h => by simp at h; simp [hi, be, h]
  | k + 1, m, h => by
    rw [hi, be_snoc, be_hi k (m / 256) (by rw [Nat.pow_succ] at h; omega), ofNat_nat _ (by omega)]
    omega
theorem snoc_of {l : List UInt8} {k : Nat} (h : l.length = k + 1) : ∃ r b, l = r ++ [b] ∧ r.length = k := by
  have hne : l ≠ [] := by intro e; subst e; simp at h
  exact ⟨l.dropLast, l.getLast hne, (List.dropLast_concat_getLast hne).symm, by simp; omega⟩
theorem hi_be : ∀ (k : Nat) (l : List UInt8), l.length = k → hi (be l) k = l
  | 0, l, h => by rw [List.length_eq_zero_iff.1 h]; rfl
  | k + 1, l, h => by
    obtain ⟨r, b, rfl, hr⟩ := snoc_of h
    have hb := byte_lt b
    rw [be_snoc, hi, show (256 * be r + b.toNat) / 256 = be r by omega, show (256 * be r + b.toNat) % 256 = b.toNat by omega, hi_be k r hr]
    simp
theorem be_lt : ∀ (k : Nat) (l : List UInt8), l.length = k → be l < 256 ^ k
  | 0, l, h => by rw [List.length_eq_zero_iff.1 h]; decide
  | k + 1, l, h => by
    obtain ⟨r, b, rfl, hr⟩ := snoc_of h
    have hb := byte_lt b
    have := be_lt k r hr
    rw [be_snoc, Nat.pow_succ]
    omega
end Fr
end Go.Proofs.YtpafialojcidnaaGreatDoor
