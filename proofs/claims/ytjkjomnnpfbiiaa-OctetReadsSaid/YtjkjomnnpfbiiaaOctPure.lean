/- Plain lists and numbers: what chapter 1 says of numbers and texts as bytes. No program. -/
import Derived.Lib.BitFns
namespace Go.Proofs.Ytjkjomnnpfbiiaa.Oct

/-- in how many bytes is m written to the base 256? -/
def szF : Nat → Nat → Nat
  | 0, _ => 0
  | f + 1, m => if m = 0 then 0 else szF f (m / 256) + 1
def sz (m : Nat) : Nat := szF 8 m

/-- m in k bytes, the highest one first -/
def hi : Nat → Nat → List UInt8
  | _, 0 => []
  | m, k + 1 => hi (m / 256) k ++ [UInt8.ofNat (m % 256)]

def mag (n : Int) : Nat := if n < 0 then (-n - 1).toNat else n.toNat
def head (n : Int) : Nat := (if n < 0 then 128 else 0) + sz (mag n)
def enc (n : Int) : List UInt8 := UInt8.ofNat (head n) :: hi (mag n) (sz (mag n))
def encs (l : List Int) : List UInt8 := l.flatMap enc
def encT (s : List UInt8) : List UInt8 := enc s.length ++ s
def encTs (l : List (List UInt8)) : List UInt8 := l.flatMap encT

theorem hi_length : ∀ (k m : Nat), (hi m k).length = k
  | 0, _ => rfl
  | k + 1, m => by simp [hi, hi_length k]

theorem szF_le : ∀ (f m : Nat), szF f m ≤ f
  | 0, _ => Nat.le_refl _
  | f + 1, m => by unfold szF; split <;> have := szF_le f (m / 256) <;> omega
theorem sz_le (m : Nat) : sz m ≤ 8 := szF_le 8 m

theorem szF_bits : ∀ (f m : Nat), m < 2 ^ (8 * f) → f ≤ 8 → szF f m = (Lib.bitLen m + 7) / 8
  | 0, m, h, _ => by simp at h; subst h; rfl
  | f + 1, m, h, hf => by
    unfold szF
    split
    · next h0 => subst h0; rfl
    · next h0 =>
      have h64 : m < 2 ^ 64 := Nat.lt_of_lt_of_le h (Nat.pow_le_pow_right (by omega) (by omega))
      have hq : m / 256 < 2 ^ (8 * f) := by
        have e : (2 : Nat) ^ (8 * (f + 1)) = 2 ^ (8 * f) * 256 := by rw [Nat.mul_add, Nat.pow_add]
        rw [e] at h
        exact Nat.div_lt_of_lt_mul (by omega)
      have ih := szF_bits f (m / 256) hq (by omega)
      rw [ih]
      by_cases hs : 256 ≤ m
      · have := Lib.bitLen_shift8 m hs (by simpa using h64)
        omega
      · have e : m / 256 = 0 := by omega
        have h8 := Lib.bitLen_le8 ⟨m, by omega⟩
        have h1 := Lib.bitLen_half m h0 h64
        rw [e]
        have : Lib.bitLen 0 = 0 := rfl
        simp only at h8
        omega
theorem sz_bits (m : Nat) (h : m < 18446744073709551616) : sz m = (Lib.bitLen m + 7) / 8 := szF_bits 8 m (by simpa using h) (by omega)

theorem szF_pow : ∀ (f m : Nat), m < 256 ^ f → m < 256 ^ szF f m
  | 0, m, h => by simpa [szF] using h
  | f + 1, m, h => by
    unfold szF
    split
    · next h0 => subst h0; simp
    · have hq : m / 256 < 256 ^ f := Nat.div_lt_of_lt_mul (by rw [Nat.mul_comm]; rwa [Nat.pow_succ] at h)
      have ih := szF_pow f (m / 256) hq
      rw [Nat.pow_succ]
      omega
theorem sz_pow (m : Nat) (h : m < 18446744073709551616) : m < 256 ^ sz m := szF_pow 8 m (by simpa using h)
/-- fewest bytes: with one less it does not go -/
theorem szF_low : ∀ (f m : Nat), szF f m ≠ 0 → 256 ^ (szF f m - 1) ≤ m
  | 0, m, h => by simp [szF] at h
  | f + 1, m, h => by
    unfold szF at h ⊢
    split at h
    · exact absurd rfl h
    · next h0 =>
      rw [if_neg h0]
      by_cases hz : szF f (m / 256) = 0
      · simp [hz]; omega
      · have ih := szF_low f (m / 256) hz
        obtain ⟨j, hj⟩ : ∃ j, szF f (m / 256) = j + 1 := ⟨szF f (m / 256) - 1, by omega⟩
        rw [hj] at ih ⊢
        simp only [Nat.add_sub_cancel] at ih ⊢
        rw [Nat.pow_succ]
        omega
theorem sz_low (m : Nat) (h : sz m ≠ 0) : 256 ^ (sz m - 1) ≤ m := szF_low 8 m h
theorem sz_zero (m : Nat) : sz m = 0 ↔ m = 0 := by
  unfold sz szF
  split <;> simp_all

/-- the number that bytes tell, the highest one first -/
def val (l : List UInt8) : Nat := l.foldl (fun n c => n * 256 + c.toNat) 0
theorem val_snoc (l : List UInt8) (c : UInt8) : val (l ++ [c]) = val l * 256 + c.toNat := by simp [val]
theorem val_lt : ∀ l : List UInt8, val l < 256 ^ l.length := by
  intro l
  rw [← l.reverse_reverse]
  generalize l.reverse = r
  induction r with
  | nil => simp [val]
  | cons c r ih =>
    rw [List.reverse_cons, val_snoc, List.length_append, List.length_singleton, Nat.pow_succ]
    have := c.toNat_lt
    omega
theorem hi_val : ∀ (k m : Nat), m < 256 ^ k → val (hi m k) = m
  | 0, m, h => by simp at h; subst h; rfl
  | k + 1, m, h => by
    have hq : m / 256 < 256 ^ k := Nat.div_lt_of_lt_mul (by rw [Nat.mul_comm]; rwa [Nat.pow_succ] at h)
    rw [hi, val_snoc, hi_val k _ hq]
    have : (UInt8.ofNat (m % 256)).toNat = m % 256 := by simp [UInt8.toNat_ofNat']
    rw [this]
    omega
theorem val_hi (l : List UInt8) : hi (val l) l.length = l := by
  rw [← l.reverse_reverse]
  generalize l.reverse = r
  induction r with
  | nil => rfl
  | cons c r ih =>
    rw [List.reverse_cons, val_snoc, List.length_append, List.length_singleton, hi]
    have hc := c.toNat_lt
    rw [show (val r.reverse * 256 + c.toNat) / 256 = val r.reverse by omega, ih]
    rw [show (val r.reverse * 256 + c.toNat) % 256 = c.toNat by omega]
    simp
/-- the first byte of a number's bytes is not 0 -/
theorem hi_first : ∀ (k m : Nat), m < 256 ^ (k + 1) → (hi m (k + 1))[0]? = some (UInt8.ofNat (m / 256 ^ k))
  | 0, m, h => by
    have : m % 256 = m := by simp at h; omega
    simp [hi, this]
  | k + 1, m, h => by
    have hq : m / 256 < 256 ^ (k + 1) := Nat.div_lt_of_lt_mul (by rw [Nat.mul_comm]; rwa [Nat.pow_succ] at h)
    have ih := hi_first k (m / 256) hq
    rw [hi, List.getElem?_append_left (by rw [hi_length]; omega), ih, Nat.div_div_eq_div_mul]
    congr 3
    rw [Nat.pow_succ, Nat.mul_comm]

theorem mag_lt (n : Int) (h1 : -9223372036854775808 ≤ n) (h2 : n ≤ 9223372036854775807) : mag n < 9223372036854775808 := by unfold mag; split <;> omega
theorem enc_length (n : Int) : (enc n).length = 1 + sz (mag n) := by simp [enc, hi_length]; omega
theorem enc_length_le (n : Int) : (enc n).length ≤ 9 := by rw [enc_length]; have := sz_le (mag n); omega
theorem encs_length_le : ∀ l : List Int, (encs l).length ≤ 9 * l.length
  | [] => by simp [encs]
  | n :: r => by
    have := encs_length_le r
    have := enc_length_le n
    simp only [encs, List.flatMap_cons, List.length_append, List.length_cons] at *
    omega
theorem encT_length (s : List UInt8) : (encT s).length ≤ 9 + s.length := by
  have := enc_length_le s.length
  simp [encT]; omega
theorem encs_snoc (l : List Int) (n : Int) : encs (l ++ [n]) = encs l ++ enc n := by simp [encs]
theorem encTs_snoc (l : List (List UInt8)) (s : List UInt8) : encTs (l ++ [s]) = encTs l ++ encT s := by simp [encTs]

end Go.Proofs.Ytjkjomnnpfbiiaa.Oct
