/- OctPure, OctTell, PzPure, PzMod, CdPure, CdPure2, CdPure3, CdFold, in one text. -/
import Derived.Lib.BitFns
import Derived.Laws.BitsAllLaws
import Derived.IntWalk
namespace Go.Proofs.YtdhlebmgeiiejaaGreat.Oct

/-- in how many bytes is m written to the base 256? -/
def szF : Nat → Nat → Nat
  | 0, _ => 0
  | f + 1, m => if m = 0 then 0 else szF f (m / 256) + 1
def sz (m : Nat) : Nat := szF 8 m

/-- m in k bytes, the highest one first -/
def hi : Nat → Nat → List UInt8
  | _, 0 => []
  | m, k + 1 => hi (m / 256) k ++ [UInt8.ofNat (m % 256)]

def mag (n : Int) : Nat := if n < 0 then (-n - 1).toNat else n.toNat
def head (n : Int) : Nat := (if n < 0 then 128 else 0) + sz (mag n)
def enc (n : Int) : List UInt8 := UInt8.ofNat (head n) :: hi (mag n) (sz (mag n))
def encs (l : List Int) : List UInt8 := l.flatMap enc
def encT (s : List UInt8) : List UInt8 := enc s.length ++ s
def encTs (l : List (List UInt8)) : List UInt8 := l.flatMap encT

theorem hi_length : ∀ (k m : Nat), (hi m k).length = k
  | 0, _ => rfl
  | k + 1, m => by simp [hi, hi_length k]

theorem szF_le : ∀ (f m : Nat), szF f m ≤ f
  | 0, _ => Nat.le_refl _
  | f + 1, m => by unfold szF; split <;> have := szF_le f (m / 256) <;> omega
theorem sz_le (m : Nat) : sz m ≤ 8 := szF_le 8 m

theorem szF_bits : ∀ (f m : Nat), m < 2 ^ (8 * f) → f ≤ 8 → szF f m = (Lib.bitLen m + 7) / 8
  | 0, m, h, _ => by simp at h; subst h; rfl
  | f + 1, m, h, hf => by
    unfold szF
    split
    · next h0 => subst h0; rfl
    · next h0 =>
      have h64 : m < 2 ^ 64 := Nat.lt_of_lt_of_le h (Nat.pow_le_pow_right (by omega) (by omega))
      have hq : m / 256 < 2 ^ (8 * f) := by
        have e : (2 : Nat) ^ (8 * (f + 1)) = 2 ^ (8 * f) * 256 := by rw [Nat.mul_add, Nat.pow_add]
        rw [e] at h
        exact Nat.div_lt_of_lt_mul (by omega)
      have ih := szF_bits f (m / 256) hq (by omega)
      rw [ih]
      by_cases hs : 256 ≤ m
      · have := Lib.bitLen_shift8 m hs (by simpa using h64)
        omega
      · have e : m / 256 = 0 := by omega
        have h8 := Lib.bitLen_le8 ⟨m, by omega⟩
        have h1 := Lib.bitLen_half m h0 h64
        rw [e]
        have : Lib.bitLen 0 = 0 := rfl
        simp only at h8
        omega
theorem sz_bits (m : Nat) (h : m < 18446744073709551616) : sz m = (Lib.bitLen m + 7) / 8 := szF_bits 8 m (by simpa using h) (by omega)

theorem szF_pow : ∀ (f m : Nat), m < 256 ^ f → m < 256 ^ szF f m
  | 0, m, h => by simpa [szF] using h
  | f + 1, m, h => by
    unfold szF
    split
    · next h0 => subst h0; simp
    · have hq : m / 256 < 256 ^ f := Nat.div_lt_of_lt_mul (by rw [Nat.mul_comm]; rwa [Nat.pow_succ] at h)
      have ih := szF_pow f (m / 256) hq
      rw [Nat.pow_succ]
      omega
theorem sz_pow (m : Nat) (h : m < 18446744073709551616) : m < 256 ^ sz m := szF_pow 8 m (by simpa using h)
/-- fewest bytes: with one less it does not go -/
theorem szF_low : ∀ (f m : Nat), szF f m ≠ 0 → 256 ^ (szF f m - 1) ≤ m
  | 0, m, h => by simp [szF] at h
  | f + 1, m, h => by
    unfold szF at h ⊢
    split at h
    · exact absurd rfl h
    · next h0 =>
      rw [if_neg h0]
      by_cases hz : szF f (m / 256) = 0
      · simp [hz]; omega
      · have ih := szF_low f (m / 256) hz
        obtain ⟨j, hj⟩ : ∃ j, szF f (m / 256) = j + 1 := ⟨szF f (m / 256) - 1, by omega⟩
        rw [hj] at ih ⊢
        simp only [Nat.add_sub_cancel] at ih ⊢
        rw [Nat.pow_succ]
        omega
theorem sz_low (m : Nat) (h : sz m ≠ 0) : 256 ^ (sz m - 1) ≤ m := szF_low 8 m h
theorem sz_zero (m : Nat) : sz m = 0 ↔ m = 0 := by
  unfold sz szF
  split <;> simp_all

/-- the number that bytes tell, the highest one first -/
def val (l : List UInt8) : Nat := l.foldl (fun n c => n * 256 + c.toNat) 0
theorem val_snoc (l : List UInt8) (c : UInt8) : val (l ++ [c]) = val l * 256 + c.toNat := by simp [val]
theorem val_lt : ∀ l : List UInt8, val l < 256 ^ l.length := by
  intro l
  rw [← l.reverse_reverse]
  generalize l.reverse = r
  induction r with
  | nil => simp [val]
  | cons c r ih =>
    rw [List.reverse_cons, val_snoc, List.length_append, List.length_singleton, Nat.pow_succ]
    have := c.toNat_lt
    omega
theorem hi_val : ∀ (k m : Nat), m < 256 ^ k → val (hi m k) = m
  | 0, m, h => by simp at h; subst h; rfl
  | k + 1, m, h => by
    have hq : m / 256 < 256 ^ k := Nat.div_lt_of_lt_mul (by rw [Nat.mul_comm]; rwa [Nat.pow_succ] at h)
    rw [hi, val_snoc, hi_val k _ hq]
    have : (UInt8.ofNat (m % 256)).toNat = m % 256 := by simp [UInt8.toNat_ofNat']
    rw [this]
    omega
theorem val_hi (l : List UInt8) : hi (val l) l.length = l := by
  rw [← l.reverse_reverse]
  generalize l.reverse = r
  induction r with
  | nil => rfl
  | cons c r ih =>
    rw [List.reverse_cons, val_snoc, List.length_append, List.length_singleton, hi]
    have hc := c.toNat_lt
    rw [show (val r.reverse * 256 + c.toNat) / 256 = val r.reverse by omega, ih]
    rw [show (val r.reverse * 256 + c.toNat) % 256 = c.toNat by omega]
    simp
/-- the first byte of a number's bytes is not 0 -/
theorem hi_first : ∀ (k m : Nat), m < 256 ^ (k + 1) → (hi m (k + 1))[0]? = some (UInt8.ofNat (m / 256 ^ k))
  | 0, m, h => by
    have : m % 256 = m := by simp at h; omega
    simp [hi, this]
  | k + 1, m, h => by
    have hq : m / 256 < 256 ^ (k + 1) := Nat.div_lt_of_lt_mul (by rw [Nat.mul_comm]; rwa [Nat.pow_succ] at h)
    have ih := hi_first k (m / 256) hq
    rw [hi, List.getElem?_append_left (by rw [hi_length]; omega), ih, Nat.div_div_eq_div_mul]
    congr 3
    rw [Nat.pow_succ, Nat.mul_comm]

theorem mag_lt (n : Int) (h1 : -9223372036854775808 ≤ n) (h2 : n ≤ 9223372036854775807) : mag n < 9223372036854775808 := by unfold mag; split <;> omega
theorem enc_length (n : Int) : (enc n).length = 1 + sz (mag n) := by simp [enc, hi_length]; omega
theorem enc_length_le (n : Int) : (enc n).length ≤ 9 := by rw [enc_length]; have := sz_le (mag n); omega
theorem encs_length_le : ∀ l : List Int, (encs l).length ≤ 9 * l.length
  | [] => by simp [encs]
  | n :: r => by
    have := encs_length_le r
    have := enc_length_le n
    simp only [encs, List.flatMap_cons, List.length_append, List.length_cons] at *
    omega
theorem encT_length (s : List UInt8) : (encT s).length ≤ 9 + s.length := by
  have := enc_length_le s.length
  simp [encT]; omega
theorem encs_snoc (l : List Int) (n : Int) : encs (l ++ [n]) = encs l ++ enc n := by simp [encs]
theorem encTs_snoc (l : List (List UInt8)) (s : List UInt8) : encTs (l ++ [s]) = encTs l ++ encT s := by simp [encTs]

end Go.Proofs.YtdhlebmgeiiejaaGreat.Oct
namespace Go.Proofs.YtdhlebmgeiiejaaGreat
open Go
set_option linter.unusedVariables false

def fewB : List UInt8 → Bool
  | [] => true
  | c :: t => (c.toNat != 0) && (t.length != 7 || c.toNat ≤ 127)
theorem idx0 (c : UInt8) (t : List UInt8) : ∀ h, (ByteArray.mk (c :: t).toArray)[0]'h = c := fun _ => rfl
theorem fewB_eight (c : UInt8) (t : List UInt8) (ht : t.length = 7) (hz : ¬ c.toNat = 0) : fewB (c :: t) = decide ((c.toNat : Int) ≤ 127) := by
  show ((c.toNat != 0) && (t.length != 7 || decide (c.toNat ≤ 127))) = _
  rw [ht]
  generalize c.toNat = x at hz ⊢
  have : (x != 0) = true := by rw [bne_iff_ne]; exact hz
  rw [this]
  have e : ((x : Int) ≤ 127) ↔ x ≤ 127 := by omega
  simp [e]
theorem fewB_other (c : UInt8) (t : List UInt8) (ht : t.length ≠ 7) : fewB (c :: t) = ((c.toNat : Int) != 0) := by
  show ((c.toNat != 0) && (t.length != 7 || decide (c.toNat ≤ 127))) = _
  have : (t.length != 7) = true := by rw [bne_iff_ne]; exact ht
  rw [this]
  generalize c.toNat = x
  simp only [Bool.true_or, Bool.and_true]
  rw [Bool.eq_iff_iff, bne_iff_ne, bne_iff_ne]
  omega
def low (c : UInt8) : Nat := c.toNat % 128
/-- the number with which a text begins, and in how many bytes it stands -/
def rd : List UInt8 → Option (Int × Nat)
  | [] => none
  | c :: t => if low c > 8 ∨ low c > t.length then none else if fewB (t.take (low c)) = false then none else
      some (if 128 ≤ c.toNat then -(Oct.val (t.take (low c)) : Int) - 1 else (Oct.val (t.take (low c)) : Int), 1 + low c)
def rdN (s : List UInt8) : Int := (rd s).elim 0 (·.1)
def rdS (s : List UInt8) : Nat := (rd s).elim 0 (·.2)
theorem cutb (l : List UInt8) (i j : Nat) : (ByteArray.mk l.toArray).extract i j = ⟨((l.drop i).take (j - i)).toArray⟩ := by
  apply ByteArray.ext
  rw [ByteArray.data_extract]
  apply Array.ext'
  simp [List.extract_eq_take_drop]
theorem take_snoc (s : List UInt8) (k : Nat) (h : k < s.length) : s.take (k + 1) = s.take k ++ [s[k]] := List.take_succ_eq_append_getElem h
/-- what a text of at most eight bytes, none needless, tells is an int -/
theorem val_few (d : List UInt8) (h8 : d.length ≤ 8) (hf : fewB d = true) : Oct.val d < 9223372036854775808 := by
  match d, h8, hf with
  | [], _, _ => decide
  | c :: t, h8, hf =>
    by_cases ht : t.length = 7
    · have hc : c.toNat ≤ 127 := by
        have h : ((c.toNat != 0) && (t.length != 7 || decide (c.toNat ≤ 127))) = true := hf
        rw [ht] at h
        simp at h
        exact h.2
      have e : Oct.val (c :: t) = c.toNat * 256 ^ t.length + Oct.val t := val_cons c t
      have := Oct.val_lt t
      rw [ht] at e this
      omega
    · have hl : (c :: t).length ≤ 7 := by simp at h8 ⊢; omega
      have := Oct.val_lt (c :: t)
      have h2 : (256 : Nat) ^ (c :: t).length ≤ 256 ^ 7 := Nat.pow_le_pow_right (by omega) hl
      omega
where
  val_cons (c : UInt8) (t : List UInt8) : Oct.val (c :: t) = c.toNat * 256 ^ t.length + Oct.val t := by
    rw [← t.reverse_reverse]
    generalize t.reverse = r
    induction r with
    | nil => simp [Oct.val]
    | cons x r ih =>
      rw [List.reverse_cons, ← List.cons_append, Oct.val_snoc, Oct.val_snoc, ih, List.length_append, List.length_singleton, Nat.pow_succ, Nat.add_mul, Nat.mul_assoc]
      omega
theorem val_append (a b : List UInt8) : Oct.val (a ++ b) = Oct.val a * 256 ^ b.length + Oct.val b := by
  rw [← b.reverse_reverse]
  generalize b.reverse = r
  induction r with
  | nil => simp [Oct.val]
  | cons x r ih =>
    rw [List.reverse_cons, ← List.append_assoc, Oct.val_snoc, Oct.val_snoc, ih, List.length_append, List.length_singleton, Nat.pow_succ, Nat.add_mul, Nat.mul_assoc]
    omega
theorem val_take (d : List UInt8) (k : Nat) (hk : k < d.length) (hv : Oct.val d < 9223372036854775808) : Oct.val (d.take k) * 256 + 255 < 9223372036854775808 := by
  have h := val_append (d.take k) (d.drop k)
  rw [List.take_append_drop] at h
  have h1 : 256 ≤ 256 ^ (d.drop k).length := by
    have : (256 : Nat) ^ 1 ≤ 256 ^ (d.drop k).length := Nat.pow_le_pow_right (by omega) (by simp; omega)
    simpa using this
  have h2 := Nat.mul_le_mul_left (Oct.val (d.take k)) h1
  omega
theorem rdS_le (s : List UInt8) : rdS s ≤ s.length := by
  match s with
  | [] => exact Nat.le_refl _
  | c :: t =>
    by_cases h : low c > 8 ∨ low c > t.length
    · have e : rd (c :: t) = none := by simp only [rd]; rw [if_pos h]
      simp [rdS, e]
    · by_cases hf : fewB (t.take (low c)) = false
      · have e : rd (c :: t) = none := by simp only [rd]; rw [if_neg h, if_pos hf]
        simp [rdS, e]
      · have e : ∃ n, rd (c :: t) = some (n, 1 + low c) := by simp only [rd]; rw [if_neg h, if_neg hf]; exact ⟨_, rfl⟩
        obtain ⟨n, e⟩ := e
        simp [rdS, e]; omega
/-- what Int answers, and what it leaves -/
structure Rd where
  n : Int
  s : List UInt8
  bad : Bool
def oInt (s : List UInt8) (bad : Bool) : Rd := if rdS s = 0 then ⟨0, [], true⟩ else ⟨rdN s, s.drop (rdS s), bad⟩
theorem oInt_bad (s : List UInt8) (bad : Bool) (h : rdS s = 0) : oInt s bad = ⟨0, [], true⟩ := by unfold oInt; rw [if_pos h]
theorem oInt_ok (s : List UInt8) (bad : Bool) (h : ¬ rdS s = 0) : oInt s bad = ⟨rdN s, s.drop (rdS s), bad⟩ := by unfold oInt; rw [if_neg h]
def oCount (s : List UInt8) (bad : Bool) (most : Int) : Rd := if (oInt s bad).n < 0 ∨ most < (oInt s bad).n then ⟨0, [], true⟩ else oInt s bad
theorem oCount_bad {s : List UInt8} {bad : Bool} {most : Int} (h : (oInt s bad).n < 0 ∨ most < (oInt s bad).n) : oCount s bad most = ⟨0, [], true⟩ := if_pos h
theorem oCount_ok {s : List UInt8} {bad : Bool} {most : Int} (h : ¬ ((oInt s bad).n < 0 ∨ most < (oInt s bad).n)) : oCount s bad most = oInt s bad := if_neg h
structure Rt where
  t : List UInt8
  s : List UInt8
  bad : Bool
def oText (s : List UInt8) (bad : Bool) : Rt :=
  if (oCount s bad 65536).n > (oCount s bad 65536).s.length then ⟨[], [], true⟩ else
    ⟨(oCount s bad 65536).s.take (oCount s bad 65536).n.toNat, (oCount s bad 65536).s.drop (oCount s bad 65536).n.toNat, (oCount s bad 65536).bad⟩
theorem oInt_len (s : List UInt8) (bad : Bool) : (oInt s bad).s.length ≤ s.length := by
  unfold oInt
  split
  · exact Nat.zero_le _
  · simp
theorem oCount_len (s : List UInt8) (bad : Bool) (most : Int) : (oCount s bad most).s.length ≤ s.length := by
  unfold oCount
  split
  · exact Nat.zero_le _
  · exact oInt_len s bad
theorem oCount_range (s : List UInt8) (bad : Bool) (most : Int) (h : 0 ≤ most) : 0 ≤ (oCount s bad most).n ∧ (oCount s bad most).n ≤ most := by
  unfold oCount
  split
  · exact ⟨Int.le_refl _, h⟩
  · omega
theorem few_enc (m : Nat) (hm : m < 9223372036854775808) : fewB (Oct.hi m (Oct.sz m)) = true := by
  have hp := Oct.sz_pow m (by omega)
  have h8 := Oct.sz_le m
  obtain ⟨k, hk⟩ : ∃ k, k = Oct.sz m := ⟨_, rfl⟩
  match k, hk with
  | 0, hk => rw [← hk]; rfl
  | j + 1, hk =>
    have hlow := Oct.sz_low m (by omega)
    rw [← hk] at hp hlow h8
    rw [← hk]
    simp only [Nat.add_sub_cancel] at hlow
    have hf := Oct.hi_first j m hp
    have hlen := Oct.hi_length (j + 1) m
    cases hd : Oct.hi m (j + 1) with
    | nil => rw [hd] at hlen; simp at hlen
    | cons c t =>
      rw [hd] at hf hlen
      simp only [List.getElem?_cons_zero, Option.some.injEq] at hf
      simp only [List.length_cons] at hlen
      have hq : m / 256 ^ j < 256 := Nat.div_lt_of_lt_mul (by rwa [Nat.pow_succ] at hp)
      have hc : c.toNat = m / 256 ^ j := by rw [hf, UInt8.toNat_ofNat', Nat.mod_eq_of_lt hq]
      have hpos : 1 ≤ m / 256 ^ j := (Nat.le_div_iff_mul_le (Nat.pow_pos (by omega))).2 (by omega)
      show ((c.toNat != 0) && (t.length != 7 || decide (c.toNat ≤ 127))) = true
      rw [hc]
      have h1 : (m / 256 ^ j != 0) = true := by rw [bne_iff_ne]; omega
      rw [h1, Bool.true_and]
      by_cases h7 : j = 7
      · subst h7
        have : m / 256 ^ 7 ≤ 127 := by omega
        simp [this]
      · have : (t.length != 7) = true := by rw [bne_iff_ne]; omega
        rw [this]; rfl
theorem low_head (n : Int) (h0 : -9223372036854775808 ≤ n) (h1 : n ≤ 9223372036854775807) : low (UInt8.ofNat (Oct.head n)) = Oct.sz (Oct.mag n) ∧ (128 ≤ (UInt8.ofNat (Oct.head n)).toNat ↔ n < 0) := by
  have h8 := Oct.sz_le (Oct.mag n)
  have hh : (UInt8.ofNat (Oct.head n)).toNat = Oct.head n := by
    rw [UInt8.toNat_ofNat', Nat.mod_eq_of_lt]
    unfold Oct.head; split <;> omega
  unfold low
  rw [hh]
  unfold Oct.head
  split <;> omega
theorem rd_enc (n : Int) (r : List UInt8) (h0 : -9223372036854775808 ≤ n) (h1 : n ≤ 9223372036854775807) : rd (Oct.enc n ++ r) = some (n, (Oct.enc n).length) := by
  have hm := Oct.mag_lt n h0 h1
  obtain ⟨hl, hs⟩ := low_head n h0 h1
  have h8 := Oct.sz_le (Oct.mag n)
  have hlen := Oct.hi_length (Oct.sz (Oct.mag n)) (Oct.mag n)
  have htake : (Oct.hi (Oct.mag n) (Oct.sz (Oct.mag n)) ++ r).take (Oct.sz (Oct.mag n)) = Oct.hi (Oct.mag n) (Oct.sz (Oct.mag n)) := by
    rw [List.take_append_of_le_length (by omega), List.take_of_length_le (by omega)]
  show rd (UInt8.ofNat (Oct.head n) :: (Oct.hi (Oct.mag n) (Oct.sz (Oct.mag n)) ++ r)) = _
  simp only [rd]
  rw [hl, htake, if_neg (by simp only [List.length_append]; omega), if_neg (by rw [few_enc _ hm]; simp), Oct.hi_val _ _ (Oct.sz_pow _ (by omega)), Oct.enc_length]
  by_cases hn : n < 0
  · rw [if_pos (hs.2 hn)]
    have : Oct.mag n = (-n - 1).toNat := by unfold Oct.mag; rw [if_pos hn]
    rw [this]
    congr 2
    omega
  · rw [if_neg (fun h => hn (hs.1 h))]
    have : Oct.mag n = n.toNat := by unfold Oct.mag; rw [if_neg hn]
    rw [this]
    congr 2
    omega
theorem enc_inj {a b : Int} (ha : -9223372036854775808 ≤ a ∧ a ≤ 9223372036854775807) (hb : -9223372036854775808 ≤ b ∧ b ≤ 9223372036854775807) {r : List UInt8} (h : Oct.enc b = Oct.enc a ++ r) : a = b := by
  have h1 := rd_enc a r ha.1 ha.2
  have h2 := rd_enc b [] hb.1 hb.2
  rw [List.append_nil, h, h1] at h2
  simpa using congrArg (fun o => (o.map (·.1))) h2
theorem oInt_enc (n : Int) (r : List UInt8) (bad : Bool) (h0 : -9223372036854775808 ≤ n) (h1 : n ≤ 9223372036854775807) : oInt (Oct.enc n ++ r) bad = ⟨n, r, bad⟩ := by
  have h := rd_enc n r h0 h1
  have hS : rdS (Oct.enc n ++ r) = (Oct.enc n).length := by simp [rdS, h]
  have hN : rdN (Oct.enc n ++ r) = n := by simp [rdN, h]
  rw [oInt_ok _ _ (by rw [hS, Oct.enc_length]; omega), hS, hN]
  simp
end Go.Proofs.YtdhlebmgeiiejaaGreat
namespace Go.Proofs.YtdhlebmgeiiejaaGreat
open Go
set_option linter.unusedVariables false

def Fit (n : Int) : Prop := -9223372036854775808 ≤ n ∧ n ≤ 9223372036854775807
/-! ### bits -/
theorem wrap_toInt (r : BitVec 64) : IntKind.i64.wrap (r.toNat : Int) = r.toInt := by
  rw [IntKind.wrap_i64, BitVec.toInt_eq_toNat_cond]
  have := r.isLt
  split <;> omega
theorem bits_or (x y : Int) : bits .or .i64 x y = (BitVec.ofInt 64 x ||| BitVec.ofInt 64 y).toInt := wrap_toInt _
theorem bits_and (x y : Int) : bits .and .i64 x y = (BitVec.ofInt 64 x &&& BitVec.ofInt 64 y).toInt := wrap_toInt _
theorem bits_andNot (x y : Int) : bits .andNot .i64 x y = (BitVec.ofInt 64 x &&& ~~~ BitVec.ofInt 64 y).toInt := wrap_toInt _
theorem bits_xor (x y : Int) : bits .xor .i64 x y = (BitVec.ofInt 64 x ^^^ BitVec.ofInt 64 y).toInt := wrap_toInt _
theorem of_toInt (r : BitVec 64) : BitVec.ofInt 64 r.toInt = r := BitVec.ofInt_toInt
theorem toInt_of {x : Int} (h : Fit x) : (BitVec.ofInt 64 x).toInt = x := by
  obtain ⟨h1, h2⟩ := h
  rw [BitVec.toInt_ofInt]
  simp only [Int.bmod]
  omega
theorem fit_toInt (r : BitVec 64) : Fit r.toInt := by
  have h1 := BitVec.toInt_lt (x := r)
  have h2 := BitVec.le_toInt (x := r)
  unfold Fit
  omega
theorem fit_or (x y : Int) : Fit (bits .or .i64 x y) := by rw [bits_or]; exact fit_toInt _
theorem fit_and (x y : Int) : Fit (bits .and .i64 x y) := by rw [bits_and]; exact fit_toInt _
theorem fit_andNot (x y : Int) : Fit (bits .andNot .i64 x y) := by rw [bits_andNot]; exact fit_toInt _
/-- bit k of a number, also of one below 0 -/
def bitB (x : Int) (k : Nat) : Bool := decide (x / (2 : Int) ^ k % 2 = 1)
theorem getLsb_of {x : Int} {k : Nat} (hk : k ≤ 4) : (BitVec.ofInt 64 x).getLsbD k = bitB x k := by
  rw [← BitVec.testBit_toNat, Nat.testBit_eq_decide_div_mod_eq, BitVec.toNat_ofInt]
  unfold bitB
  rw [decide_eq_decide]
  have : k = 0 ∨ k = 1 ∨ k = 2 ∨ k = 3 ∨ k = 4 := by omega
  rcases this with rfl | rfl | rfl | rfl | rfl <;> simp only [Nat.reducePow, Int.reducePow] <;> omega
theorem bit_or (x y : Int) {k : Nat} (hk : k ≤ 4) : bitB (bits .or .i64 x y) k = (bitB x k || bitB y k) := by
  rw [← getLsb_of hk, bits_or, of_toInt, BitVec.getLsbD_or, getLsb_of hk, getLsb_of hk]
theorem bit_and (x y : Int) {k : Nat} (hk : k ≤ 4) : bitB (bits .and .i64 x y) k = (bitB x k && bitB y k) := by
  rw [← getLsb_of hk, bits_and, of_toInt, BitVec.getLsbD_and, getLsb_of hk, getLsb_of hk]
theorem bit_andNot (x y : Int) {k : Nat} (hk : k ≤ 4) : bitB (bits .andNot .i64 x y) k = (bitB x k && !bitB y k) := by
  rw [← getLsb_of hk, bits_andNot, of_toInt, BitVec.getLsbD_and, BitVec.getLsbD_not, getLsb_of hk, getLsb_of hk]
  simp [show k < 64 by omega]
theorem or_assoc' (x y z : Int) : bits .or .i64 (bits .or .i64 x y) z = bits .or .i64 x (bits .or .i64 y z) := by
  rw [bits_or, bits_or, bits_or, bits_or, of_toInt, of_toInt, BitVec.or_assoc]
theorem or_self' {x : Int} (h : Fit x) : bits .or .i64 x x = x := by rw [bits_or, BitVec.or_self, toInt_of h]
theorem or_zero' {x : Int} (h : Fit x) : bits .or .i64 x 0 = x := by
  rw [bits_or, show BitVec.ofInt 64 0 = 0#64 from rfl, BitVec.or_zero, toInt_of h]
theorem andNot_zero' {x : Int} (h : Fit x) : bits .andNot .i64 x 0 = x := by
  rw [bits_andNot, show ~~~ BitVec.ofInt 64 0 = BitVec.allOnes 64 by decide, BitVec.and_allOnes, toInt_of h]
theorem andNot_two (x y z : Int) : bits .andNot .i64 (bits .andNot .i64 x y) z = bits .andNot .i64 x (bits .or .i64 y z) := by
  rw [bits_andNot, bits_andNot, bits_andNot, bits_or, of_toInt, of_toInt]
  congr 1
  rw [BitVec.and_assoc, ← BitVec.not_or]
theorem andNot_or (x y : Int) : bits .andNot .i64 (bits .or .i64 x y) y = bits .andNot .i64 x y := by
  rw [bits_andNot, bits_andNot, bits_or, of_toInt]
  congr 1
  apply BitVec.eq_of_getLsbD_eq
  intro i hi
  simp only [BitVec.getLsbD_and, BitVec.getLsbD_or, BitVec.getLsbD_not, hi, decide_true, Bool.true_and]
  cases (BitVec.ofInt 64 x).getLsbD i <;> cases (BitVec.ofInt 64 y).getLsbD i <;> rfl
theorem or_andNot {x : Int} (hx : Fit x) (y : Int) : bits .or .i64 (bits .andNot .i64 x y) x = x := by
  rw [bits_or, bits_andNot, of_toInt]
  have : (BitVec.ofInt 64 x &&& ~~~ BitVec.ofInt 64 y) ||| BitVec.ofInt 64 x = BitVec.ofInt 64 x := by
    apply BitVec.eq_of_getLsbD_eq
    intro i hi
    simp only [BitVec.getLsbD_and, BitVec.getLsbD_or, BitVec.getLsbD_not, hi, decide_true, Bool.true_and]
    cases (BitVec.ofInt 64 x).getLsbD i <;> cases (BitVec.ofInt 64 y).getLsbD i <;> rfl
  rw [this, toInt_of hx]
theorem and_or_right (x y : Int) : bits .and .i64 (bits .or .i64 x y) y = bits .and .i64 y y := by
  rw [bits_and, bits_and, bits_or, of_toInt]
  congr 1
  apply BitVec.eq_of_getLsbD_eq
  intro i hi
  simp only [BitVec.getLsbD_and, BitVec.getLsbD_or]
  cases (BitVec.ofInt 64 x).getLsbD i <;> cases (BitVec.ofInt 64 y).getLsbD i <;> rfl
theorem and_or_left (x y : Int) : bits .and .i64 (bits .or .i64 x y) x = bits .and .i64 x x := by
  rw [bits_and, bits_and, bits_or, of_toInt]
  congr 1
  apply BitVec.eq_of_getLsbD_eq
  intro i hi
  simp only [BitVec.getLsbD_and, BitVec.getLsbD_or]
  cases (BitVec.ofInt 64 x).getLsbD i <;> cases (BitVec.ofInt 64 y).getLsbD i <;> rfl
theorem and_self' {x : Int} (h : Fit x) : bits .and .i64 x x = x := by rw [bits_and, BitVec.and_self, toInt_of h]
theorem and_andNot (x y : Int) : bits .and .i64 (bits .andNot .i64 x y) y = 0 := by
  rw [bits_and, bits_andNot, of_toInt]
  have : (BitVec.ofInt 64 x &&& ~~~ BitVec.ofInt 64 y) &&& BitVec.ofInt 64 y = 0#64 := by
    apply BitVec.eq_of_getLsbD_eq
    intro i hi
    simp only [BitVec.getLsbD_and, BitVec.getLsbD_not, hi, decide_true, Bool.true_and, BitVec.getLsbD_zero]
    cases (BitVec.ofInt 64 x).getLsbD i <;> cases (BitVec.ofInt 64 y).getLsbD i <;> rfl
  rw [this]
  rfl
/-- what is left of x without what it has of y -/
theorem sub_and (x y : Int) : IntKind.i64.wrap (x - bits .and .i64 x y) = bits .andNot .i64 x y := by
  have h1 : BitVec.ofInt 64 x - (BitVec.ofInt 64 x &&& BitVec.ofInt 64 y) = BitVec.ofInt 64 x &&& ~~~ BitVec.ofInt 64 y := by
    have h2 : (BitVec.ofInt 64 x &&& ~~~ BitVec.ofInt 64 y) + (BitVec.ofInt 64 x &&& BitVec.ofInt 64 y) = BitVec.ofInt 64 x := by
      rw [BitVec.add_eq_or_of_and_eq_zero]
      · apply BitVec.eq_of_getLsbD_eq
        intro i hi
        simp only [BitVec.getLsbD_and, BitVec.getLsbD_or, BitVec.getLsbD_not, hi, decide_true, Bool.true_and]
        cases (BitVec.ofInt 64 x).getLsbD i <;> cases (BitVec.ofInt 64 y).getLsbD i <;> rfl
      · apply BitVec.eq_of_getLsbD_eq
        intro i hi
        simp only [BitVec.getLsbD_and, BitVec.getLsbD_not, hi, decide_true, Bool.true_and, BitVec.getLsbD_zero]
        cases (BitVec.ofInt 64 x).getLsbD i <;> cases (BitVec.ofInt 64 y).getLsbD i <;> rfl
    generalize BitVec.ofInt 64 x &&& ~~~ BitVec.ofInt 64 y = p at *
    generalize BitVec.ofInt 64 x &&& BitVec.ofInt 64 y = q at *
    rw [← h2, BitVec.add_sub_cancel]
  rw [bits_andNot, ← h1, bits_and, IntKind.wrap_i64]
  generalize hq : BitVec.ofInt 64 x &&& BitVec.ofInt 64 y = q
  rw [BitVec.toInt_sub, BitVec.toInt_ofInt]
  simp only [Int.bmod]
  omega
/-- two masks with 31 as their greatest: their bits tell them -/
theorem mask_lt {x : Int} : 0 ≤ x ∧ x ≤ 31 ↔ (0 ≤ x ∧ x / 32 = 0) := by omega
end Go.Proofs.YtdhlebmgeiiejaaGreat
namespace Go.Proofs.YtdhlebmgeiiejaaGreat
open Go
set_option linter.unusedVariables false

namespace Pz
/-- an entity: its name, its mask, its numbers -/
structure Bn where
  s : Int
  i : Int
  g : Int
  m : Int
  x : Int
  y : Int
  vx : Int
  vy : Int
  h : Int
  p : Int
  l : Int
abbrev Bn.row (b : Bn) : List Value := [.int .i64 b.s, .int .i64 b.i, .int .i64 b.g, .int .i64 b.m, .int .i64 b.x, .int .i64 b.y, .int .i64 b.vx, .int .i64 b.vy, .int .i64 b.h, .int .i64 b.p, .int .i64 b.l]
abbrev Bn.val (b : Bn) : Value := .agg #[.int .i64 b.s, .int .i64 b.i, .int .i64 b.g, .int .i64 b.m, .int .i64 b.x, .int .i64 b.y, .int .i64 b.vx, .int .i64 b.vy, .int .i64 b.h, .int .i64 b.p, .int .i64 b.l]
structure Bn.Fits (b : Bn) : Prop where
  s : Fit b.s
  i : Fit b.i
  g : Fit b.g
  m : Fit b.m
  x : Fit b.x
  y : Fit b.y
  vx : Fit b.vx
  vy : Fit b.vy
  h : Fit b.h
  p : Fit b.p
  l : Fit b.l
def inB (n lo hi : Int) (has : Bool) : Bool := if has then decide (lo ≤ n) && decide (n ≤ hi) else decide (n = 0)
def rightID (s i g : Int) : Bool := ((((decide (s ≥ 0) && decide (s ≤ 15)) && decide (i ≥ 0)) && decide (i ≤ 15)) && decide (g ≥ 0)) && decide (g < 1048576)
def right (b : Bn) : Bool :=
  (!(decide (b.m < 0) || decide (b.m > 31)) && (inB b.x (-1073741824) 1073741824 (bitB b.m 0) && inB b.y (-1073741824) 1073741824 (bitB b.m 0)) && (inB b.vx (-1073741824) 1073741824 (bitB b.m 1) && inB b.vy (-1073741824) 1073741824 (bitB b.m 1))) &&
    ((inB b.h 1 1048576 (bitB b.m 2) && inB b.p 0 1024 (bitB b.m 3)) && inB b.l 1 1048576 (bitB b.m 4))
def may (b : Bn) : Bool := (rightID b.s b.i b.g && right b) && bitB b.m 0
def takesB (m : Int) : Bool := (decide (m ≥ 1) && decide (m ≤ 31)) && !bitB m 0
def errB (b : Bool) : Int := if b then 0 else 1
/-- a command: its kind, name, entity, mask -/
structure Cn where
  k : Int
  s : Int
  i : Int
  g : Int
  b : Bn
  m : Int
abbrev Cn.val (c : Cn) : Value := .agg #[.int .i64 c.k, .int .i64 c.s, .int .i64 c.i, .int .i64 c.g, .int .i64 c.b.s, .int .i64 c.b.i, .int .i64 c.b.g, .int .i64 c.b.m, .int .i64 c.b.x, .int .i64 c.b.y, .int .i64 c.b.vx, .int .i64 c.b.vy, .int .i64 c.b.h, .int .i64 c.b.p, .int .i64 c.b.l, .int .i64 c.m]
def noID (s i g : Int) : Bool := (s == 0) && ((i == 0) && (g == 0))
def empty (b : Bn) : Bool := noID b.s b.i b.g && ((b.m == 0) && ((b.x == 0) && ((b.y == 0) && ((b.vx == 0) && ((b.vy == 0) && ((b.h == 0) && ((b.p == 0) && (b.l == 0))))))))
/-- the same entity? -/
def sameB (a b : Bn) : Bool := ((a.s == b.s) && ((a.i == b.i) && (a.g == b.g))) && ((a.m == b.m) && ((a.x == b.x) && ((a.y == b.y) && ((a.vx == b.vx) && ((a.vy == b.vy) && ((a.h == b.h) && ((a.p == b.p) && (a.l == b.l))))))))
def mayCmd (c : Cn) : Bool :=
  if c.k = 1 then (noID c.s c.i c.g && decide (c.m = 0)) && may c.b else
  if c.k = 2 then (rightID c.s c.i c.g && decide (c.m = 0)) && empty c.b else
  if c.k = 3 then (((rightID c.s c.i c.g && decide (c.m = 0)) && noID c.b.s c.b.i c.b.g) && takesB c.b.m) && right c.b else
  if c.k = 4 then (rightID c.s c.i c.g && empty c.b) && takesB c.m else false
def withB (b c : Bn) : Bn :=
  { b with
    x := if bitB c.m 0 then c.x else b.x
    y := if bitB c.m 0 then c.y else b.y
    vx := if bitB c.m 1 then c.vx else b.vx
    vy := if bitB c.m 1 then c.vy else b.vy
    h := if bitB c.m 2 then c.h else b.h
    p := if bitB c.m 3 then c.p else b.p
    l := if bitB c.m 4 then c.l else b.l
    m := bits .or .i64 b.m c.m }
def withoutB (b : Bn) (k : Int) : Bn :=
  { b with
    x := if bitB k 0 then 0 else b.x
    y := if bitB k 0 then 0 else b.y
    vx := if bitB k 1 then 0 else b.vx
    vy := if bitB k 1 then 0 else b.vy
    h := if bitB k 2 then 0 else b.h
    p := if bitB k 3 then 0 else b.p
    l := if bitB k 4 then 0 else b.l
    m := bits .andNot .i64 b.m k }
def before (a b : Int × Int × Int) : Bool := if a.1 ≠ b.1 then decide (a.1 < b.1) else if a.2.1 ≠ b.2.1 then decide (a.2.1 < b.2.1) else decide (a.2.2 < b.2.2)
abbrev Bn.id (b : Bn) : Int × Int × Int := (b.s, b.i, b.g)
end Pz
end Go.Proofs.YtdhlebmgeiiejaaGreat
namespace Go.Proofs.YtdhlebmgeiiejaaGreat
open Go Pz
set_option linter.unusedVariables false

def FitN (n : Int) : Prop := -9223372036854775808 ≤ n ∧ n ≤ 9223372036854775807
theorem val_one (c : UInt8) (t : List UInt8) : Oct.val (c :: t) = c.toNat * 256 ^ t.length + Oct.val t := by
  rw [← t.reverse_reverse]
  generalize t.reverse = r
  induction r with
  | nil => simp [Oct.val]
  | cons x r ih =>
    rw [List.reverse_cons, ← List.cons_append, Oct.val_snoc, Oct.val_snoc, ih, List.length_append, List.length_singleton, Nat.pow_succ, Nat.add_mul, Nat.mul_assoc]
    omega
theorem sz_of {v L : Nat} (h8 : L ≤ 8) (h1 : v < 256 ^ L) (h2 : L ≠ 0 → 256 ^ (L - 1) ≤ v) : Oct.sz v = L := by
  have hv : v < 18446744073709551616 := by
    have : (256 : Nat) ^ L ≤ 256 ^ 8 := Nat.pow_le_pow_right (by omega) h8
    have e : (256 : Nat) ^ 8 = 18446744073709551616 := by decide
    omega
  have hp := Oct.sz_pow v hv
  have hl := Oct.sz_low v
  rcases Nat.lt_trichotomy (Oct.sz v) L with h | h | h
  · have : (256 : Nat) ^ Oct.sz v ≤ 256 ^ (L - 1) := Nat.pow_le_pow_right (by omega) (by omega)
    have := h2 (by omega)
    omega
  · exact h
  · have : (256 : Nat) ^ L ≤ 256 ^ (Oct.sz v - 1) := Nat.pow_le_pow_right (by omega) (by omega)
    have := hl (by omega)
    omega
/-- a number's bytes are just its own -/
theorem rd_only {s : List UInt8} {n : Int} {k : Nat} (h : rd s = some (n, k)) : s = Oct.enc n ++ s.drop k ∧ (Oct.enc n).length = k ∧ FitN n := by
  cases s with
  | nil => cases h
  | cons c t =>
    simp only [rd] at h
    by_cases h1 : low c > 8 ∨ low c > t.length
    · rw [if_pos h1] at h; cases h
    · rw [if_neg h1] at h
      by_cases h2 : fewB (t.take (low c)) = false
      · rw [if_pos h2] at h; cases h
      · rw [if_neg h2] at h
        have h2 : fewB (t.take (low c)) = true := by simpa using h2
        obtain ⟨rfl, rfl⟩ : (if 128 ≤ c.toNat then -(Oct.val (t.take (low c)) : Int) - 1 else (Oct.val (t.take (low c)) : Int)) = n ∧ 1 + low c = k := by simpa using h
        have hL : (t.take (low c)).length = low c := by rw [List.length_take]; omega
        have hv := val_few (t.take (low c)) (by omega) h2
        have hlt := Oct.val_lt (t.take (low c))
        rw [hL] at hlt
        have hlow : low c ≠ 0 → 256 ^ (low c - 1) ≤ Oct.val (t.take (low c)) := fun h0 => by
          cases hd : t.take (low c) with
          | nil => rw [hd] at hL; simp at hL; omega
          | cons x r =>
            rw [hd] at h2 hL
            rw [val_one]
            have hx : x.toNat ≠ 0 := by
              have h : ((x.toNat != 0) && (r.length != 7 || decide (x.toNat ≤ 127))) = true := h2
              rw [Bool.and_eq_true, bne_iff_ne] at h
              exact h.1
            have hr : r.length = low c - 1 := by simp at hL; omega
            rw [hr]
            have : 256 ^ (low c - 1) ≤ x.toNat * 256 ^ (low c - 1) := Nat.le_mul_of_pos_left _ (by omega)
            omega
        have hsz := sz_of (by omega) hlt hlow
        have hhi := Oct.val_hi (t.take (low c))
        rw [hL] at hhi
        have hc := c.toNat_lt
        have hlc : low c = c.toNat % 128 := rfl
        have key : ∀ n : Int, Oct.mag n = Oct.val (t.take (low c)) → Oct.head n = c.toNat → FitN n → c :: t = Oct.enc n ++ (c :: t).drop (1 + low c) ∧ (Oct.enc n).length = 1 + low c ∧ FitN n := fun n hm hh hf => by
          refine ⟨?_, by rw [Oct.enc_length, hm, hsz], hf⟩
          unfold Oct.enc
          rw [hm, hsz, hhi, hh, UInt8.ofNat_toNat, Nat.add_comm, List.drop_succ_cons, List.cons_append, List.take_append_drop]
        split
        · rename_i hb
          refine key _ ?_ ?_ ⟨by omega, by omega⟩
          · unfold Oct.mag; rw [if_pos (by omega)]; omega
          · unfold Oct.head
            have : Oct.mag (-(Oct.val (t.take (low c)) : Int) - 1) = Oct.val (t.take (low c)) := by unfold Oct.mag; rw [if_pos (by omega)]; omega
            rw [this, hsz, if_pos (by omega)]
            omega
        · rename_i hb
          refine key _ ?_ ?_ ⟨by omega, by omega⟩
          · unfold Oct.mag; rw [if_neg (by omega)]; omega
          · unfold Oct.head
            have : Oct.mag (Oct.val (t.take (low c)) : Int) = Oct.val (t.take (low c)) := by unfold Oct.mag; rw [if_neg (by omega)]; omega
            rw [this, hsz, if_neg (by omega)]
            omega
theorem rdN_fit (s : List UInt8) : FitN (rdN s) := by
  unfold rdN
  cases h : rd s with
  | none => exact ⟨by decide, by decide⟩
  | some p => exact (rd_only (n := p.1) (k := p.2) h).2.2
namespace Cd
/-- a reader: what is left, and whether it is bad -/
structure Rr where
  s : List UInt8
  bad : Bool
abbrev Rr.of (s : List UInt8) : Rr := ⟨s, false⟩
abbrev Rr.no : Rr := ⟨[], true⟩
/-- a bad reader has nothing left -/
def Rr.Ok (q : Rr) : Prop := q.bad = true → q.s = []
def tInt (q : Rr) : Int × Rr := ((oInt q.s q.bad).n, ⟨(oInt q.s q.bad).s, (oInt q.s q.bad).bad⟩)
theorem rr_no {q : Rr} (h : q.Ok) (hb : q.bad = true) : q = Rr.no := by
  obtain ⟨s, b⟩ := q
  have hb : b = true := hb
  subst hb
  have := h rfl
  simp only at this
  rw [this]
theorem tInt_no : tInt Rr.no = (0, Rr.no) := rfl
theorem tInt_back (n : Int) (r : List UInt8) (h : FitN n) : tInt (Rr.of (Oct.enc n ++ r)) = (n, Rr.of r) := by
  unfold tInt
  rw [oInt_enc n r false h.1 h.2]
/-- read: bad and nothing, or just the number's bytes -/
theorem tInt_only (q : Rr) (h : q.Ok) : tInt q = (0, Rr.no) ∨ (q.bad = false ∧ (tInt q).2.bad = false ∧ q.s = Oct.enc (tInt q).1 ++ (tInt q).2.s ∧ FitN (tInt q).1) := by
  obtain ⟨s, b⟩ := q
  cases b with
  | true => exact .inl (by rw [rr_no h rfl]; rfl)
  | false =>
    by_cases h0 : rdS s = 0
    · refine .inl ?_
      unfold tInt
      rw [oInt_bad s false h0]
    · refine .inr ⟨rfl, ?_⟩
      unfold tInt
      simp only
      rw [oInt_ok s false h0]
      cases hr : rd s with
      | none => exact absurd (by simp [rdS, hr]) h0
      | some p =>
        obtain ⟨n, k⟩ := p
        obtain ⟨e1, e2, e3⟩ := rd_only hr
        have eN : rdN s = n := by simp [rdN, hr]
        have eS : rdS s = k := by simp [rdS, hr]
        rw [eN, eS]
        exact ⟨rfl, e1, e3⟩
theorem tInt_ok (q : Rr) (h : q.Ok) : (tInt q).2.Ok := by
  rcases tInt_only q h with e | ⟨_, e, _⟩
  · rw [e]; exact fun _ => rfl
  · intro hb; rw [e] at hb; cases hb
theorem tInt_fit (q : Rr) : FitN (tInt q).1 := by
  unfold tInt oInt
  split
  · exact ⟨by decide, by decide⟩
  · exact rdN_fit _
/-- how things of a kind are laid and taken -/
structure Kind (α : Type) where
  ok : α → Bool
  put : α → List UInt8
  take : Rr → α × Rr
  zero : α
/-- what is laid is taken, what is taken was laid just so -/
structure Kind.Good {α : Type} (K : Kind α) : Prop where
  back : ∀ x r, K.ok x = true → K.take (Rr.of (K.put x ++ r)) = (x, Rr.of r)
  only : ∀ q, q.Ok → K.take q = (K.zero, Rr.no) ∨ (q.bad = false ∧ (K.take q).2.bad = false ∧ K.ok (K.take q).1 = true ∧ q.s = K.put (K.take q).1 ++ (K.take q).2.s)
theorem Kind.Good.ok' {α : Type} {K : Kind α} (h : K.Good) (q : Rr) (hq : q.Ok) : (K.take q).2.Ok := by
  rcases h.only q hq with e | ⟨_, e, _⟩
  · rw [e]; exact fun _ => rfl
  · intro hb; rw [e] at hb; cases hb
theorem Kind.Good.no {α : Type} {K : Kind α} (h : K.Good) : K.take Rr.no = (K.zero, Rr.no) := by
  rcases h.only Rr.no (fun _ => rfl) with e | ⟨e, _⟩
  · exact e
  · cases e
/-! ### names -/
abbrev NKy := Int × Int × Int
def okID (k : NKy) : Bool := rightID k.1 k.2.1 k.2.2
def rawID (k : NKy) : List UInt8 := Oct.enc k.1 ++ (Oct.enc k.2.1 ++ Oct.enc k.2.2)
def putID (k : NKy) : List UInt8 := if okID k then rawID k else []
def takeID (q : Rr) : NKy × Rr :=
  let a := tInt q
  let b := tInt a.2
  let c := tInt b.2
  if c.2.bad || !okID (a.1, b.1, c.1) then ((0, 0, 0), Rr.no) else ((a.1, b.1, c.1), c.2)
theorem okID_fit {k : NKy} (h : okID k = true) : FitN k.1 ∧ FitN k.2.1 ∧ FitN k.2.2 := by
  unfold okID rightID at h
  simp only [Bool.and_eq_true, decide_eq_true_eq] at h
  unfold FitN
  omega
def kID : Kind NKy := ⟨okID, putID, takeID, (0, 0, 0)⟩
theorem goodID : kID.Good := by
  refine ⟨fun x r h => ?_, fun q hq => ?_⟩
  · obtain ⟨f1, f2, f3⟩ := okID_fit h
    show takeID (Rr.of (putID x ++ r)) = _
    have h' : okID x = true := h
    unfold putID takeID
    rw [if_pos h']
    unfold rawID
    simp only [List.append_assoc, tInt_back _ _ f1, tInt_back _ _ f2, tInt_back _ _ f3]
    rw [if_neg (by rw [show (x.1, x.2.1, x.2.2) = x from rfl, h']; decide)]
  · show takeID q = _ ∨ (q.bad = false ∧ (takeID q).2.bad = false ∧ okID (takeID q).1 = true ∧ q.s = putID (takeID q).1 ++ (takeID q).2.s)
    unfold takeID
    simp only
    split
    · exact .inl rfl
    · rename_i hc
      rw [Bool.or_eq_true, not_or, Bool.not_eq_true, Bool.not_eq_true', Bool.not_eq_false] at hc
      obtain ⟨hc1, hc2⟩ := hc
      have q1 := tInt_ok q hq
      have q2 := tInt_ok _ q1
      rcases tInt_only _ q2 with e | ⟨b2, _, s3, _⟩
      · rw [e] at hc1; cases hc1
      · rcases tInt_only _ q1 with e | ⟨b1, _, s2, _⟩
        · rw [e] at b2; cases b2
        · rcases tInt_only _ hq with e | ⟨b0, _, s1, _⟩
          · rw [e] at b1; cases b1
          · refine .inr ⟨b0, hc1, hc2, ?_⟩
            simp only [putID]
            rw [if_pos hc2, s1, s2, s3]
            simp [rawID, List.append_assoc]
end Cd
end Go.Proofs.YtdhlebmgeiiejaaGreat
namespace Go.Proofs.YtdhlebmgeiiejaaGreat
open Go Pz
set_option linter.unusedVariables false

namespace Cd
abbrev zeroB : Bn := ⟨0, 0, 0, 0, 0, 0, 0, 0, 0, 0, 0⟩
/-- a number of a component that may be there -/
def optP (has : Bool) (n : Int) : List UInt8 := if has then Oct.enc n else []
def optT (has : Bool) (q : Rr) : Int × Rr := if has then tInt q else (0, q)
theorem optT_back {has : Bool} {n : Int} (h1 : has = true → FitN n) (h2 : has = false → n = 0) (r : List UInt8) : optT has (Rr.of (optP has n ++ r)) = (n, Rr.of r) := by
  cases has with
  | true => exact tInt_back n r (h1 rfl)
  | false =>
    rw [h2 rfl]
    rfl
theorem optT_ok (has : Bool) (q : Rr) (h : q.Ok) : (optT has q).2.Ok := by
  cases has with
  | true => exact tInt_ok q h
  | false => exact h
theorem optT_only (has : Bool) (q : Rr) (h : q.Ok) (hb : (optT has q).2.bad = false) : q.bad = false ∧ q.s = optP has (optT has q).1 ++ (optT has q).2.s := by
  cases has with
  | true =>
    rcases tInt_only q h with e | ⟨h1, _, h2, _⟩
    · rw [show optT true q = tInt q from rfl, e] at hb; cases hb
    · exact ⟨h1, h2⟩
  | false => exact ⟨hb, rfl⟩
def rest (b : Bn) : List UInt8 :=
  Oct.enc b.m ++ (optP (bitB b.m 0) b.x ++ (optP (bitB b.m 0) b.y ++ (optP (bitB b.m 1) b.vx ++ (optP (bitB b.m 1) b.vy ++ (optP (bitB b.m 2) b.h ++ (optP (bitB b.m 3) b.p ++ optP (bitB b.m 4) b.l))))))
def takeRest (q : Rr) : Bn × Rr :=
  let m := tInt q
  if (m.2.bad || decide (m.1 < 0)) || decide (m.1 > 31) then (zeroB, Rr.no) else
    let x := optT (bitB m.1 0) m.2
    let y := optT (bitB m.1 0) x.2
    let vx := optT (bitB m.1 1) y.2
    let vy := optT (bitB m.1 1) vx.2
    let h := optT (bitB m.1 2) vy.2
    let p := optT (bitB m.1 3) h.2
    let l := optT (bitB m.1 4) p.2
    (⟨0, 0, 0, m.1, x.1, y.1, vx.1, vy.1, h.1, p.1, l.1⟩, l.2)
theorem inB_fit {n lo hi : Int} {b : Bool} (h : inB n lo hi b = true) (hl : -9223372036854775808 ≤ lo) (hh : hi ≤ 9223372036854775807) : (b = true → FitN n) ∧ (b = false → n = 0) := by
  unfold inB at h
  refine ⟨fun e => ?_, fun e => ?_⟩
  · subst e
    rw [if_pos rfl, Bool.and_eq_true, decide_eq_true_eq, decide_eq_true_eq] at h
    exact ⟨by omega, by omega⟩
  · subst e
    rw [if_neg (by decide), decide_eq_true_eq] at h
    exact h
theorem right_split {a : Bn} (h : right a = true) : (0 ≤ a.m ∧ a.m ≤ 31) ∧ inB a.x (-1073741824) 1073741824 (bitB a.m 0) = true ∧ inB a.y (-1073741824) 1073741824 (bitB a.m 0) = true ∧ inB a.vx (-1073741824) 1073741824 (bitB a.m 1) = true ∧ inB a.vy (-1073741824) 1073741824 (bitB a.m 1) = true ∧ inB a.h 1 1048576 (bitB a.m 2) = true ∧ inB a.p 0 1024 (bitB a.m 3) = true ∧ inB a.l 1 1048576 (bitB a.m 4) = true := by
  unfold right at h
  simp only [Bool.and_eq_true, Bool.not_eq_true', Bool.or_eq_false_iff, decide_eq_false_iff_not] at h
  obtain ⟨⟨⟨⟨h1, h2⟩, h3, h4⟩, h5, h6⟩, ⟨h7, h8⟩, h9⟩ := h
  exact ⟨⟨by omega, by omega⟩, h3, h4, h5, h6, h7, h8, h9⟩
theorem rest_back {b : Bn} (h : right b = true) (r : List UInt8) : takeRest (Rr.of (rest b ++ r)) = ({ b with s := 0, i := 0, g := 0 }, Rr.of r) := by
  obtain ⟨hm, h1, h2, h3, h4, h5, h6, h7⟩ := right_split h
  have f1 := inB_fit h1 (by decide) (by decide)
  have f2 := inB_fit h2 (by decide) (by decide)
  have f3 := inB_fit h3 (by decide) (by decide)
  have f4 := inB_fit h4 (by decide) (by decide)
  have f5 := inB_fit h5 (by decide) (by decide)
  have f6 := inB_fit h6 (by decide) (by decide)
  have f7 := inB_fit h7 (by decide) (by decide)
  unfold takeRest rest
  simp only [List.append_assoc, tInt_back b.m _ ⟨by omega, by omega⟩, optT_back f1.1 f1.2, optT_back f2.1 f2.2, optT_back f3.1 f3.2, optT_back f4.1 f4.2, optT_back f5.1 f5.2, optT_back f6.1 f6.2, optT_back f7.1 f7.2]
  rw [if_neg (by rw [decide_eq_false (by omega : ¬ b.m < 0), decide_eq_false (by omega : ¬ b.m > 31)]; decide)]
theorem rest_ok (q : Rr) (h : q.Ok) : (takeRest q).2.Ok := by
  unfold takeRest
  simp only
  split
  · exact fun _ => rfl
  · exact optT_ok _ _ (optT_ok _ _ (optT_ok _ _ (optT_ok _ _ (optT_ok _ _ (optT_ok _ _ (optT_ok _ _ (tInt_ok q h)))))))
theorem rest_only (q : Rr) (h : q.Ok) (hb : (takeRest q).2.bad = false) : q.bad = false ∧ q.s = rest (takeRest q).1 ++ (takeRest q).2.s ∧ (takeRest q).1.s = 0 ∧ (takeRest q).1.i = 0 ∧ (takeRest q).1.g = 0 := by
  unfold takeRest at hb ⊢
  simp only at hb ⊢
  split
  · rename_i hc
    rw [if_pos hc] at hb
    cases hb
  · rename_i hc
    rw [if_neg hc] at hb
    have k0 := tInt_ok q h
    have k1 := optT_ok (bitB (tInt q).1 0) _ k0
    have k2 := optT_ok (bitB (tInt q).1 0) _ k1
    have k3 := optT_ok (bitB (tInt q).1 1) _ k2
    have k4 := optT_ok (bitB (tInt q).1 1) _ k3
    have k5 := optT_ok (bitB (tInt q).1 2) _ k4
    have k6 := optT_ok (bitB (tInt q).1 3) _ k5
    obtain ⟨b6, s7⟩ := optT_only _ _ k6 hb
    obtain ⟨b5, s6⟩ := optT_only _ _ k5 b6
    obtain ⟨b4, s5⟩ := optT_only _ _ k4 b5
    obtain ⟨b3, s4⟩ := optT_only _ _ k3 b4
    obtain ⟨b2, s3⟩ := optT_only _ _ k2 b3
    obtain ⟨b1, s2⟩ := optT_only _ _ k1 b2
    obtain ⟨b0, s1⟩ := optT_only _ _ k0 b1
    rcases tInt_only q h with e | ⟨hq, _, s0, _⟩
    · rw [e] at b0; cases b0
    · refine ⟨hq, ?_, rfl, rfl, rfl⟩
      show q.s = Oct.enc (tInt q).1 ++ _ ++ _
      rw [s0, s1, s2, s3, s4, s5, s6, s7]
      simp only [List.append_assoc]
/-! ### entities -/
def putB (b : Bn) : List UInt8 := if may b then putID b.id ++ rest b else []
def takeB (q : Rr) : Bn × Rr :=
  let k := takeID q
  let b := takeRest k.2
  if b.2.bad || !may { b.1 with s := k.1.1, i := k.1.2.1, g := k.1.2.2 } then (zeroB, Rr.no) else ({ b.1 with s := k.1.1, i := k.1.2.1, g := k.1.2.2 }, b.2)
def kB : Kind Bn := ⟨may, putB, takeB, zeroB⟩
theorem may_split {b : Bn} (h : may b = true) : okID b.id = true ∧ right b = true := by
  unfold may at h
  simp only [Bool.and_eq_true] at h
  exact h.1
theorem goodB : kB.Good := by
  refine ⟨fun x r h => ?_, fun q hq => ?_⟩
  · have h : may x = true := h
    obtain ⟨h1, h2⟩ := may_split h
    show takeB (Rr.of (putB x ++ r)) = _
    unfold putB takeB
    rw [if_pos h]
    have e := goodID.back x.id (rest x ++ r) h1
    change takeID (Rr.of (putID x.id ++ (rest x ++ r))) = _ at e
    simp only [List.append_assoc, e, rest_back h2]
    rw [if_neg (by
      rw [show ({ x with s := x.s, i := x.i, g := x.g } : Bn) = x from rfl, h]
      decide)]
  · show takeB q = _ ∨ (q.bad = false ∧ (takeB q).2.bad = false ∧ may (takeB q).1 = true ∧ q.s = putB (takeB q).1 ++ (takeB q).2.s)
    unfold takeB
    simp only
    split
    · exact .inl rfl
    · rename_i hc
      rw [Bool.or_eq_true, not_or, Bool.not_eq_true, Bool.not_eq_true', Bool.not_eq_false] at hc
      obtain ⟨hc1, hc2⟩ := hc
      have hk : (takeID q).2.Ok := goodID.ok' q hq
      obtain ⟨b1, s1, _⟩ := rest_only _ hk hc1
      rcases goodID.only q hq with e | ⟨b0, _, ok0, s0⟩
      · change takeID q = _ at e
        rw [e] at b1; cases b1
      · change okID (takeID q).1 = true at ok0
        change q.s = putID (takeID q).1 ++ (takeID q).2.s at s0
        refine .inr ⟨b0, hc1, hc2, ?_⟩
        unfold putB
        rw [if_pos hc2, s0, s1]
        simp only [List.append_assoc]
        rfl
/-! ### commands -/
abbrev zeroC : Cn := ⟨0, 0, 0, 0, zeroB, 0⟩
abbrev Cn.id (c : Cn) : NKy := (c.s, c.i, c.g)
def bodyC (c : Cn) : List UInt8 := if c.k = 1 then putB c.b else if c.k = 3 then putID (Cn.id c) ++ rest c.b else if c.k = 4 then putID (Cn.id c) ++ Oct.enc c.m else putID (Cn.id c)
def putC (c : Cn) : List UInt8 := if mayCmd c then Oct.enc c.k ++ bodyC c else []
def takeBody (k : Int) (q : Rr) : Cn × Rr :=
  if k = 1 then ((⟨k, 0, 0, 0, (takeB q).1, 0⟩ : Cn), (takeB q).2)
  else if k = 2 then (⟨k, (takeID q).1.1, (takeID q).1.2.1, (takeID q).1.2.2, zeroB, 0⟩, (takeID q).2)
  else if k = 3 then (⟨k, (takeID q).1.1, (takeID q).1.2.1, (takeID q).1.2.2, (takeRest (takeID q).2).1, 0⟩, (takeRest (takeID q).2).2)
  else if k = 4 then (⟨k, (takeID q).1.1, (takeID q).1.2.1, (takeID q).1.2.2, zeroB, (tInt (takeID q).2).1⟩, (tInt (takeID q).2).2)
  else (⟨k, 0, 0, 0, zeroB, 0⟩, q)
def takeC (q : Rr) : Cn × Rr :=
  let k := tInt q
  let c := takeBody k.1 k.2
  if c.2.bad || !mayCmd c.1 then (zeroC, Rr.no) else c
def kC : Kind Cn := ⟨mayCmd, putC, takeC, zeroC⟩
theorem may_kind {c : Cn} (h : mayCmd c = true) : c.k = 1 ∨ c.k = 2 ∨ c.k = 3 ∨ c.k = 4 := by
  unfold mayCmd at h
  split at h
  · exact .inl ‹_›
  · split at h
    · exact .inr (.inl ‹_›)
    · split at h
      · exact .inr (.inr (.inl ‹_›))
      · split at h
        · exact .inr (.inr (.inr ‹_›))
        · cases h
theorem noID_is {s i g : Int} (h : noID s i g = true) : s = 0 ∧ i = 0 ∧ g = 0 := by
  simpa [noID] using h
theorem empty_is {b : Bn} (h : empty b = true) : b = zeroB := by
  obtain ⟨s, i, g, m, x, y, vx, vy, h', p, l⟩ := b
  simp only [empty, noID, Bool.and_eq_true, beq_iff_eq] at h
  obtain ⟨⟨rfl, rfl, rfl⟩, rfl, rfl, rfl, rfl, rfl, rfl, rfl, rfl⟩ := h
  rfl
theorem body_back {c : Cn} (h : mayCmd c = true) (r : List UInt8) : takeBody c.k (Rr.of (bodyC c ++ r)) = (c, Rr.of r) := by
  obtain ⟨k, s, i, g, b, m⟩ := c
  rcases may_kind h with e | e | e | e <;> (simp only at e; subst e)
  · have h : ((noID s i g && decide (m = 0)) && may b) = true := h
    simp only [Bool.and_eq_true, decide_eq_true_eq] at h
    obtain ⟨⟨h1, rfl⟩, h3⟩ := h
    obtain ⟨rfl, rfl, rfl⟩ := noID_is h1
    have e := goodB.back b r h3
    change takeB (Rr.of (putB b ++ r)) = _ at e
    show ((⟨1, 0, 0, 0, (takeB (Rr.of (putB b ++ r))).1, 0⟩ : Cn), (takeB (Rr.of (putB b ++ r))).2) = _
    rw [e]
  · have h : ((rightID s i g && decide (m = 0)) && empty b) = true := h
    simp only [Bool.and_eq_true, decide_eq_true_eq] at h
    obtain ⟨⟨h1, rfl⟩, h3⟩ := h
    have hb := empty_is h3
    subst hb
    have e := goodID.back (s, i, g) r h1
    change takeID (Rr.of (putID (s, i, g) ++ r)) = _ at e
    show ((⟨2, (takeID (Rr.of (putID (s, i, g) ++ r))).1.1, (takeID (Rr.of (putID (s, i, g) ++ r))).1.2.1, (takeID (Rr.of (putID (s, i, g) ++ r))).1.2.2, zeroB, 0⟩ : Cn), (takeID (Rr.of (putID (s, i, g) ++ r))).2) = _
    rw [e]
  · have h : ((((rightID s i g && decide (m = 0)) && noID b.s b.i b.g) && takesB b.m) && right b) = true := h
    simp only [Bool.and_eq_true, decide_eq_true_eq] at h
    obtain ⟨⟨⟨⟨h1, rfl⟩, h3⟩, _⟩, h5⟩ := h
    obtain ⟨z1, z2, z3⟩ := noID_is h3
    have e := goodID.back (s, i, g) (rest b ++ r) h1
    change takeID (Rr.of (putID (s, i, g) ++ (rest b ++ r))) = _ at e
    have e2 := rest_back h5 r
    show ((⟨3, (takeID (Rr.of ((putID (s, i, g) ++ rest b) ++ r))).1.1, (takeID (Rr.of ((putID (s, i, g) ++ rest b) ++ r))).1.2.1, (takeID (Rr.of ((putID (s, i, g) ++ rest b) ++ r))).1.2.2, (takeRest (takeID (Rr.of ((putID (s, i, g) ++ rest b) ++ r))).2).1, 0⟩ : Cn), (takeRest (takeID (Rr.of ((putID (s, i, g) ++ rest b) ++ r))).2).2) = _
    rw [List.append_assoc, e, e2]
    obtain ⟨bs, bi, bg, bm, x, y, vx, vy, h', p, l⟩ := b
    simp only at z1 z2 z3
    subst z1 z2 z3
    rfl
  · have h : ((rightID s i g && empty b) && takesB m) = true := h
    simp only [Bool.and_eq_true] at h
    obtain ⟨⟨h1, h2⟩, h3⟩ := h
    have hb := empty_is h2
    subst hb
    have hf : FitN m := by
      simp only [takesB, Bool.and_eq_true, decide_eq_true_eq] at h3
      exact ⟨by omega, by omega⟩
    have e := goodID.back (s, i, g) (Oct.enc m ++ r) h1
    change takeID (Rr.of (putID (s, i, g) ++ (Oct.enc m ++ r))) = _ at e
    show ((⟨4, (takeID (Rr.of ((putID (s, i, g) ++ Oct.enc m) ++ r))).1.1, (takeID (Rr.of ((putID (s, i, g) ++ Oct.enc m) ++ r))).1.2.1, (takeID (Rr.of ((putID (s, i, g) ++ Oct.enc m) ++ r))).1.2.2, zeroB, (tInt (takeID (Rr.of ((putID (s, i, g) ++ Oct.enc m) ++ r))).2).1⟩ : Cn), (tInt (takeID (Rr.of ((putID (s, i, g) ++ Oct.enc m) ++ r))).2).2) = _
    rw [List.append_assoc, e, tInt_back m r hf]
theorem body_only (k : Int) (q : Rr) (h : q.Ok) (hb : (takeBody k q).2.bad = false) (hm : mayCmd (takeBody k q).1 = true) : (takeBody k q).1.k = k ∧ q.bad = false ∧ q.s = bodyC (takeBody k q).1 ++ (takeBody k q).2.s := by
  unfold takeBody at hb hm ⊢
  by_cases h1 : k = 1
  · subst h1
    simp only [if_true] at hb hm ⊢
    rcases goodB.only q h with e | ⟨b0, _, _, s0⟩
    · change takeB q = _ at e
      rw [e] at hb; cases hb
    · exact ⟨trivial, b0, s0⟩
  · rw [if_neg h1] at hb hm ⊢
    by_cases h2 : k = 2
    · subst h2
      simp only [if_true] at hb hm ⊢
      rcases goodID.only q h with e | ⟨b0, _, _, s0⟩
      · change takeID q = _ at e
        rw [e] at hb; cases hb
      · exact ⟨trivial, b0, s0⟩
    · rw [if_neg h2] at hb hm ⊢
      by_cases h3 : k = 3
      · subst h3
        simp only [if_true] at hb hm ⊢
        obtain ⟨b1, s1, _⟩ := rest_only _ (show (takeID q).2.Ok from goodID.ok' q h) hb
        rcases goodID.only q h with e | ⟨b0, _, _, s0⟩
        · change takeID q = _ at e
          rw [e] at b1; cases b1
        · refine ⟨trivial, b0, ?_⟩
          change q.s = putID (takeID q).1 ++ (takeID q).2.s at s0
          show q.s = (putID (takeID q).1 ++ rest (takeRest (takeID q).2).1) ++ (takeRest (takeID q).2).2.s
          rw [s0, List.append_assoc]
          congr 1
      · rw [if_neg h3] at hb hm ⊢
        by_cases h4 : k = 4
        · subst h4
          simp only [if_true] at hb hm ⊢
          rcases tInt_only _ (show (takeID q).2.Ok from goodID.ok' q h) with e | ⟨b1, _, s1, _⟩
          · rw [e] at hb; cases hb
          · rcases goodID.only q h with e | ⟨b0, _, _, s0⟩
            · change takeID q = _ at e
              rw [e] at b1; cases b1
            · refine ⟨trivial, b0, ?_⟩
              change q.s = putID (takeID q).1 ++ (takeID q).2.s at s0
              show q.s = (putID (takeID q).1 ++ Oct.enc (tInt (takeID q).2).1) ++ (tInt (takeID q).2).2.s
              rw [s0, List.append_assoc]
              congr 1
        · rw [if_neg h4] at hm
          rcases may_kind hm with e | e | e | e
          · exact absurd e h1
          · exact absurd e h2
          · exact absurd e h3
          · exact absurd e h4
theorem goodC : kC.Good := by
  refine ⟨fun x r h => ?_, fun q hq => ?_⟩
  · have h : mayCmd x = true := h
    show takeC (Rr.of (putC x ++ r)) = _
    have hf : FitN x.k := by
      rcases may_kind h with e | e | e | e <;> (rw [e]; exact ⟨by decide, by decide⟩)
    unfold putC takeC
    rw [if_pos h]
    simp only [List.append_assoc, tInt_back _ _ hf, body_back h]
    rw [if_neg (by rw [h]; decide)]
  · show takeC q = _ ∨ (q.bad = false ∧ (takeC q).2.bad = false ∧ mayCmd (takeC q).1 = true ∧ q.s = putC (takeC q).1 ++ (takeC q).2.s)
    unfold takeC
    simp only
    split
    · exact .inl rfl
    · rename_i hc
      rw [Bool.or_eq_true, not_or, Bool.not_eq_true, Bool.not_eq_true', Bool.not_eq_false] at hc
      obtain ⟨hc1, hc2⟩ := hc
      obtain ⟨ek, b1, s1⟩ := body_only _ _ (tInt_ok q hq) hc1 hc2
      rcases tInt_only q hq with e | ⟨b0, _, s0, _⟩
      · rw [e] at b1; cases b1
      · refine .inr ⟨b0, hc1, hc2, ?_⟩
        unfold putC
        rw [if_pos hc2, ek, s0, s1]
        simp only [List.append_assoc]
end Cd
end Go.Proofs.YtdhlebmgeiiejaaGreat
namespace Go.Proofs.YtdhlebmgeiiejaaGreat
open Go Pz
set_option linter.unusedVariables false

namespace Cd
variable {α : Type}
def Kind.puts (K : Kind α) (l : List α) : List UInt8 := l.flatMap K.put
/-- n things, as long as the reader is not bad -/
def Kind.takeN (K : Kind α) : Nat → Rr → List α × Rr
  | 0, q => ([], q)
  | n + 1, q => if q.bad then ([], q) else ((K.take q).1 :: (K.takeN n (K.take q).2).1, (K.takeN n (K.take q).2).2)
def Kind.putL (K : Kind α) (l : List α) : List UInt8 := Oct.enc l.length ++ K.puts l
def Kind.okL (K : Kind α) (most : Int) (l : List α) : Bool := decide ((l.length : Int) ≤ most) && l.all K.ok
def Kind.takeL (K : Kind α) (most : Int) (q : Rr) : List α × Rr :=
  let c := tInt q
  if c.1 < 0 ∨ most < c.1 then ([], Rr.no) else
    let r := K.takeN c.1.toNat c.2
    if r.2.bad then ([], Rr.no) else r
theorem Kind.Good.backN {K : Kind α} (h : K.Good) : ∀ (l : List α) (r : List UInt8), l.all K.ok = true → K.takeN l.length (Rr.of (K.puts l ++ r)) = (l, Rr.of r)
  | [], r, _ => rfl
  | x :: l, r, ha => by
    rw [List.all_cons, Bool.and_eq_true] at ha
    have e := h.back x (K.puts l ++ r) ha.1
    have e2 := h.backN l r ha.2
    show (if false = true then _ else _) = _
    rw [if_neg (by decide)]
    have e3 : K.puts (x :: l) ++ r = K.put x ++ (K.puts l ++ r) := by simp [Kind.puts, List.append_assoc]
    rw [e3, e, e2]
theorem Kind.Good.okN {K : Kind α} (h : K.Good) : ∀ (n : Nat) (q : Rr), q.Ok → (K.takeN n q).2.Ok
  | 0, q, hq => hq
  | n + 1, q, hq => by
    unfold Kind.takeN
    split
    · exact hq
    · exact h.okN n _ (h.ok' q hq)
theorem Kind.Good.onlyN {K : Kind α} (h : K.Good) : ∀ (n : Nat) (q : Rr), q.Ok → (K.takeN n q).2.bad = false → q.bad = false ∧ (K.takeN n q).1.length = n ∧ (K.takeN n q).1.all K.ok = true ∧ q.s = K.puts (K.takeN n q).1 ++ (K.takeN n q).2.s
  | 0, q, hq, hb => ⟨hb, rfl, rfl, rfl⟩
  | n + 1, q, hq, hb => by
    unfold Kind.takeN at hb ⊢
    split
    · rename_i hc
      rw [if_pos hc] at hb
      exact absurd (hb.symm.trans hc) (by decide)
    · rename_i hc
      rw [if_neg hc] at hb
      obtain ⟨b1, l1, a1, s1⟩ := h.onlyN n _ (h.ok' q hq) hb
      rcases h.only q hq with e | ⟨b0, _, o0, s0⟩
      · rw [e] at b1; cases b1
      · refine ⟨b0, by simp only [List.length_cons, l1], by rw [List.all_cons, o0, a1]; rfl, ?_⟩
        rw [s0, s1]
        simp only [Kind.puts, List.flatMap_cons, List.append_assoc]
def Kind.list (K : Kind α) (most : Int) : Kind (List α) := ⟨K.okL most, K.putL, K.takeL most, []⟩
theorem Kind.Good.list {K : Kind α} (h : K.Good) {most : Int} (hm : most ≤ 9223372036854775807) : (K.list most).Good := by
  refine ⟨fun l r ha => ?_, fun q hq => ?_⟩
  · have ha : (decide ((l.length : Int) ≤ most) && l.all K.ok) = true := ha
    rw [Bool.and_eq_true, decide_eq_true_eq] at ha
    show K.takeL most (Rr.of (K.putL l ++ r)) = _
    unfold Kind.takeL Kind.putL
    simp only [List.append_assoc, tInt_back _ _ (⟨by omega, by omega⟩ : FitN (l.length : Int))]
    rw [if_neg (by omega), Int.toNat_natCast, h.backN l r ha.2]
    rfl
  · show K.takeL most q = _ ∨ (q.bad = false ∧ (K.takeL most q).2.bad = false ∧ K.okL most (K.takeL most q).1 = true ∧ q.s = K.putL (K.takeL most q).1 ++ (K.takeL most q).2.s)
    unfold Kind.takeL
    simp only
    split
    · exact .inl rfl
    · rename_i hc
      split
      · exact .inl rfl
      · rename_i hb
        have hb : (K.takeN (tInt q).1.toNat (tInt q).2).2.bad = false := by simpa using hb
        obtain ⟨b1, l1, a1, s1⟩ := h.onlyN _ _ (tInt_ok q hq) hb
        rcases tInt_only q hq with e | ⟨b0, _, s0, _⟩
        · rw [e] at b1; cases b1
        · have el : ((K.takeN (tInt q).1.toNat (tInt q).2).1.length : Int) = (tInt q).1 := by rw [l1]; omega
          refine .inr ⟨b0, hb, ?_, ?_⟩
          · unfold Kind.okL
            rw [el, a1, decide_eq_true (by omega)]
            rfl
          · unfold Kind.putL
            rw [el, List.append_assoc, ← s1, s0]
/-! ### messages -/
structure Mn where
  k : Int
  t : Int
  n : Int
  c : List Cn
  b : List Bn
  i : List NKy
abbrev zeroM : Mn := ⟨0, 0, 0, [], [], []⟩
def hasT (k : Int) : Bool := ((decide (k ≥ 1) && decide (k ≤ 6)) || decide (k = 11)) || decide (k = 12)
def hasN (k : Int) : Bool := decide (k ≥ 7) && decide (k ≤ 10)
def timeB (has : Bool) (n : Int) : Bool := if has then decide (n ≥ 1) && decide (n ≤ 1099511627776) else decide (n = 0)
def mayM (m : Mn) : Bool :=
  (((decide (1 ≤ m.k) && decide (m.k ≤ 12)) && timeB (hasT m.k) m.t) && timeB (hasN m.k) m.n) &&
    ((m.c.isEmpty || decide (m.k = 1)) && ((m.b.isEmpty || (decide (m.k = 7) || decide (m.k = 12))) && (m.i.isEmpty || decide (m.k = 4)))) &&
      ((kC.okL 64 m.c && (kB.okL 1024 m.b && kID.okL 1024 m.i)) && (!decide (m.k = 7) || decide (m.b.length = 1)))
def lists (k : Int) (c : List Cn) (b : List Bn) (i : List NKy) : List UInt8 := if k = 1 then kC.putL c else if k = 4 then kID.putL i else if k = 7 ∨ k = 12 then kB.putL b else []
def encM (m : Mn) : List UInt8 := Oct.enc m.k ++ (optP (hasT m.k) m.t ++ (optP (hasN m.k) m.n ++ lists m.k m.c m.b m.i))
def takeLs (k : Int) (q : Rr) : (List Cn × List Bn × List NKy) × Rr :=
  if k = 1 then (((kC.takeL 64 q).1, [], []), (kC.takeL 64 q).2)
  else if k = 4 then (([], [], (kID.takeL 1024 q).1), (kID.takeL 1024 q).2)
  else if k = 7 ∨ k = 12 then (([], (kB.takeL 1024 q).1, []), (kB.takeL 1024 q).2)
  else (([], [], []), q)
def takeM0 (q : Rr) : Mn × Rr :=
  let k := tInt q
  let t := optT (hasT k.1) k.2
  let n := optT (hasN k.1) t.2
  let l := takeLs k.1 n.2
  (⟨k.1, t.1, n.1, l.1.1, l.1.2.1, l.1.2.2⟩, l.2)
def takeM (q : Rr) : Mn × Rr := if (takeM0 q).2.bad || !mayM (takeM0 q).1 then (zeroM, Rr.no) else takeM0 q
def putM (m : Mn) : List UInt8 := if mayM m then encM m else []
def kM : Kind Mn := ⟨mayM, putM, takeM, zeroM⟩
structure MayM (m : Mn) : Prop where
  k1 : 1 ≤ m.k
  k2 : m.k ≤ 12
  t : timeB (hasT m.k) m.t = true
  n : timeB (hasN m.k) m.n = true
  c : m.c = [] ∨ m.k = 1
  b : m.b = [] ∨ m.k = 7 ∨ m.k = 12
  i : m.i = [] ∨ m.k = 4
  oc : kC.okL 64 m.c = true
  ob : kB.okL 1024 m.b = true
  oi : kID.okL 1024 m.i = true
  one : m.k = 7 → m.b.length = 1
theorem mayM_is (m : Mn) : mayM m = true ↔ MayM m := by
  unfold mayM
  simp only [Bool.and_eq_true, Bool.or_eq_true, decide_eq_true_eq, List.isEmpty_iff, Bool.not_eq_true', decide_eq_false_iff_not]
  constructor
  · rintro ⟨⟨⟨⟨⟨h1, h2⟩, h3⟩, h4⟩, h5, h6, h7⟩, ⟨h8, h9, h10⟩, h11⟩
    exact ⟨h1, h2, h3, h4, h5, h6, h7, h8, h9, h10, fun h => h11.resolve_left (fun hn => hn h)⟩
  · rintro ⟨h1, h2, h3, h4, h5, h6, h7, h8, h9, h10, h11⟩
    exact ⟨⟨⟨⟨⟨h1, h2⟩, h3⟩, h4⟩, h5, h6, h7⟩, ⟨h8, h9, h10⟩, by by_cases h : m.k = 7; exact .inr (h11 h); exact .inl h⟩
theorem time_fit {has : Bool} {n : Int} (h : timeB has n = true) : (has = true → FitN n) ∧ (has = false → n = 0) := by
  unfold timeB at h
  refine ⟨fun e => ?_, fun e => ?_⟩
  · subst e
    rw [if_pos rfl, Bool.and_eq_true, decide_eq_true_eq, decide_eq_true_eq] at h
    exact ⟨by omega, by omega⟩
  · subst e
    rw [if_neg (by decide), decide_eq_true_eq] at h
    exact h
theorem goodLC : (kC.list 64).Good := goodC.list (by decide)
theorem goodLB : (kB.list 1024).Good := goodB.list (by decide)
theorem goodLI : (kID.list 1024).Good := goodID.list (by decide)
theorem lists_back {m : Mn} (h : MayM m) (r : List UInt8) : takeLs m.k (Rr.of (lists m.k m.c m.b m.i ++ r)) = ((m.c, m.b, m.i), Rr.of r) := by
  unfold takeLs lists
  by_cases h1 : m.k = 1
  · rw [if_pos h1, if_pos h1]
    have hb : m.b = [] := by rcases h.b with e | e | e; exact e; all_goals omega
    have hi : m.i = [] := by rcases h.i with e | e; exact e; omega
    have e := goodLC.back m.c r h.oc
    change kC.takeL 64 (Rr.of (kC.putL m.c ++ r)) = _ at e
    rw [e, hb, hi]
  · rw [if_neg h1, if_neg h1]
    have hc : m.c = [] := by rcases h.c with e | e; exact e; omega
    by_cases h4 : m.k = 4
    · rw [if_pos h4, if_pos h4]
      have hb : m.b = [] := by rcases h.b with e | e | e; exact e; all_goals omega
      have e := goodLI.back m.i r h.oi
      change kID.takeL 1024 (Rr.of (kID.putL m.i ++ r)) = _ at e
      rw [e, hb, hc]
    · rw [if_neg h4, if_neg h4]
      have hi : m.i = [] := by rcases h.i with e | e; exact e; omega
      by_cases h7 : m.k = 7 ∨ m.k = 12
      · rw [if_pos h7, if_pos h7]
        have e := goodLB.back m.b r h.ob
        change kB.takeL 1024 (Rr.of (kB.putL m.b ++ r)) = _ at e
        rw [e, hc, hi]
      · rw [if_neg h7, if_neg h7]
        have hb : m.b = [] := by rcases h.b with e | e | e; exact e; all_goals omega
        rw [hb, hc, hi]
        rfl
theorem lists_ok (k : Int) (q : Rr) (h : q.Ok) : (takeLs k q).2.Ok := by
  unfold takeLs
  split
  · exact goodLC.ok' q h
  · split
    · exact goodLI.ok' q h
    · split
      · exact goodLB.ok' q h
      · exact h
theorem lists_only (k : Int) (q : Rr) (h : q.Ok) (hb : (takeLs k q).2.bad = false) : q.bad = false ∧ q.s = lists k (takeLs k q).1.1 (takeLs k q).1.2.1 (takeLs k q).1.2.2 ++ (takeLs k q).2.s := by
  unfold takeLs lists at *
  by_cases h1 : k = 1
  · simp only [if_pos h1] at hb ⊢
    rcases goodLC.only q h with e | ⟨b0, _, _, s0⟩
    · change kC.takeL 64 q = _ at e
      rw [e] at hb; cases hb
    · exact ⟨b0, s0⟩
  · simp only [if_neg h1] at hb ⊢
    by_cases h4 : k = 4
    · simp only [if_pos h4] at hb ⊢
      rcases goodLI.only q h with e | ⟨b0, _, _, s0⟩
      · change kID.takeL 1024 q = _ at e
        rw [e] at hb; cases hb
      · exact ⟨b0, s0⟩
    · simp only [if_neg h4] at hb ⊢
      by_cases h7 : k = 7 ∨ k = 12
      · simp only [if_pos h7] at hb ⊢
        rcases goodLB.only q h with e | ⟨b0, _, _, s0⟩
        · change kB.takeL 1024 q = _ at e
          rw [e] at hb; cases hb
        · exact ⟨b0, s0⟩
      · simp only [if_neg h7] at hb ⊢
        exact ⟨hb, rfl⟩
theorem goodM : kM.Good := by
  refine ⟨fun x r h => ?_, fun q hq => ?_⟩
  · have h : mayM x = true := h
    have hm := (mayM_is x).1 h
    have f1 := time_fit hm.t
    have f2 := time_fit hm.n
    have e : takeM0 (Rr.of (encM x ++ r)) = (x, Rr.of r) := by
      unfold takeM0 encM
      have hk : FitN x.k := ⟨by have := hm.k1; omega, by have := hm.k2; omega⟩
      simp only [List.append_assoc, tInt_back _ _ hk, optT_back f1.1 f1.2, optT_back f2.1 f2.2, lists_back hm]
    show takeM (Rr.of (putM x ++ r)) = _
    unfold putM takeM
    rw [if_pos h, e]
    simp only [h]
    rfl
  · show takeM q = _ ∨ (q.bad = false ∧ (takeM q).2.bad = false ∧ mayM (takeM q).1 = true ∧ q.s = putM (takeM q).1 ++ (takeM q).2.s)
    unfold takeM
    split
    · exact .inl rfl
    · rename_i hc
      rw [Bool.or_eq_true, not_or, Bool.not_eq_true, Bool.not_eq_true', Bool.not_eq_false] at hc
      obtain ⟨hc1, hc2⟩ := hc
      have k0 := tInt_ok q hq
      have k1 := optT_ok (hasT (tInt q).1) _ k0
      have k2 := optT_ok (hasN (tInt q).1) _ k1
      obtain ⟨b2, s3⟩ := lists_only _ _ k2 hc1
      obtain ⟨b1, s2⟩ := optT_only _ _ k1 b2
      obtain ⟨b0, s1⟩ := optT_only _ _ k0 b1
      rcases tInt_only q hq with e | ⟨hq0, _, s0, _⟩
      · rw [e] at b0; cases b0
      · refine .inr ⟨hq0, hc1, hc2, ?_⟩
        unfold putM
        rw [if_pos hc2]
        show q.s = (Oct.enc (tInt q).1 ++ _) ++ _
        rw [s0, s1, s2, s3]
        simp only [List.append_assoc]
        rfl
/-- the message whose bytes these are -/
def decM (s : List UInt8) : Option Mn := if (takeM0 (Rr.of s)).2.bad || (!(takeM0 (Rr.of s)).2.s.isEmpty || !mayM (takeM0 (Rr.of s)).1) then none else some (takeM0 (Rr.of s)).1
theorem dec_enc {m : Mn} (h : mayM m = true) : decM (encM m) = some m := by
  have e := goodM.back m [] h
  change takeM (Rr.of (putM m ++ [])) = _ at e
  unfold putM at e
  rw [if_pos h, List.append_nil] at e
  unfold takeM at e
  split at e
  · have := congrArg (fun p : Mn × Rr => p.2.bad) e
    cases this
  · unfold decM
    rw [e]
    simp only [h]
    rfl
theorem dec_only {s : List UInt8} {m : Mn} (h : decM s = some m) : mayM m = true ∧ s = encM m := by
  unfold decM at h
  split at h
  · cases h
  · rename_i hc
    simp only [Bool.or_eq_true, not_or, Bool.not_eq_true, Bool.not_eq_false'] at hc
    obtain ⟨h1, h2, h3⟩ := hc
    have hm := Option.some.inj h
    rcases goodM.only (Rr.of s) (fun hb => by cases hb) with e | ⟨_, _, h4, h5⟩
    · change takeM (Rr.of s) = _ at e
      unfold takeM at e
      rw [if_neg (by rw [h1, h3]; decide)] at e
      rw [e] at h1
      cases h1
    · change mayM (takeM (Rr.of s)).1 = true at h4
      change s = putM (takeM (Rr.of s)).1 ++ (takeM (Rr.of s)).2.s at h5
      have et : takeM (Rr.of s) = takeM0 (Rr.of s) := by
        unfold takeM
        rw [if_neg (by rw [h1, h3]; decide)]
      rw [et, hm] at h4 h5
      have e2 : (takeM0 (Rr.of s)).2.s = [] := List.isEmpty_iff.1 h2
      rw [e2, List.append_nil] at h5
      unfold putM at h5
      rw [if_pos h4] at h5
      exact ⟨h4, h5⟩
/-- no message's bytes begin another one's -/
theorem enc_begins {m m' : Mn} (h : mayM m = true) (h' : mayM m' = true) {r : List UInt8} (e : encM m = encM m' ++ r) : m = m' ∧ r = [] := by
  have e1 := goodM.back m [] h
  have e2 := goodM.back m' r h'
  change takeM (Rr.of (putM m ++ [])) = _ at e1
  change takeM (Rr.of (putM m' ++ r)) = _ at e2
  unfold putM at e1 e2
  rw [if_pos h, List.append_nil, e] at e1
  rw [if_pos h'] at e2
  rw [e1] at e2
  have q1 := congrArg Prod.fst e2
  have q2 := congrArg (fun p : Mn × Rr => p.2.s) e2
  exact ⟨q1, q2.symm⟩
end Cd
end Go.Proofs.YtdhlebmgeiiejaaGreat
namespace Go.Proofs.YtdhlebmgeiiejaaGreat
open Go Pz
set_option linter.unusedVariables false

namespace Cd
inductive Fld | x | y | vx | vy | h | p | l
def Fld.off : Fld → Nat | .x => 4 | .y => 5 | .vx => 6 | .vy => 7 | .h => 8 | .p => 9 | .l => 10
def Fld.bit : Fld → Nat | .x => 0 | .y => 0 | .vx => 1 | .vy => 1 | .h => 2 | .p => 3 | .l => 4
def Fld.get (b : Bn) : Fld → Int | .x => b.x | .y => b.y | .vx => b.vx | .vy => b.vy | .h => b.h | .p => b.p | .l => b.l
def Fld.set (b : Bn) (v : Int) : Fld → Bn
  | .x => { b with x := v } | .y => { b with y := v } | .vx => { b with vx := v } | .vy => { b with vy := v } | .h => { b with h := v } | .p => { b with p := v } | .l => { b with l := v }
theorem Fld.bit_le (f : Fld) : f.bit ≤ 4 := by cases f <;> decide
theorem Fld.set_m (b : Bn) (v : Int) (f : Fld) : (f.set b v).m = b.m := by cases f <;> rfl
theorem Fld.off_le (f : Fld) : 4 ≤ f.off ∧ f.off ≤ 10 := by cases f <;> decide
def fds : List Fld := [.x, .y, .vx, .vy, .h, .p, .l]
/-- the numbers that are there, of the first k -/
def pl (m : Int) (k : Nat) : List Fld := (fds.take k).filter fun f => bitB m f.bit
theorem pl_len (m : Int) (k : Nat) : (pl m k).length ≤ 7 := by
  unfold pl
  refine Nat.le_trans (List.length_filter_le _ _) ?_
  rw [List.length_take]
  exact Nat.min_le_right _ _
theorem pl_succ (m : Int) {k : Nat} {f : Fld} (h : fds[k]? = some f) : pl m (k + 1) = if bitB m f.bit then pl m k ++ [f] else pl m k := by
  unfold pl
  rw [List.take_add_one, h]
  simp only [Option.toList_some, List.filter_append]
  cases hb : bitB m f.bit
  · simp [hb]
  · simp [hb]
theorem pl_yes (m : Int) {k : Nat} {f : Fld} (h : fds[k]? = some f) (hb : bitB m f.bit = true) : pl m (k + 1) = pl m k ++ [f] := by rw [pl_succ m h, hb, if_pos rfl]
theorem pl_no (m : Int) {k : Nat} {f : Fld} (h : fds[k]? = some f) (hb : bitB m f.bit = false) : pl m (k + 1) = pl m k := by rw [pl_succ m h, hb, if_neg (by decide)]
theorem pl_lt (m : Int) {k : Nat} (hk : k < 7) : (pl m k).length < 7 := by
  unfold pl
  refine Nat.lt_of_le_of_lt (List.length_filter_le _ _) ?_
  rw [List.length_take]
  exact Nat.lt_of_le_of_lt (Nat.min_le_left _ _) hk
/-- numbers are read, one behind the other -/
def rdF (b : Bn) (q : Rr) : List Fld → Bn × Rr
  | [] => (b, q)
  | f :: r => rdF (f.set b (tInt q).1) (tInt q).2 r
theorem rdF_snoc (f : Fld) : ∀ (r : List Fld) (b : Bn) (q : Rr), rdF b q (r ++ [f]) = (f.set (rdF b q r).1 (tInt (rdF b q r).2).1, (tInt (rdF b q r).2).2)
  | [], _, _ => rfl
  | g :: r, b, q => rdF_snoc f r _ _
theorem rdF_m : ∀ (r : List Fld) (b : Bn) (q : Rr), (rdF b q r).1.m = b.m
  | [], _, _ => rfl
  | g :: r, b, q => (rdF_m r _ _).trans (Fld.set_m _ _ _)
theorem rdF_no : ∀ (r : List Fld) (b : Bn), (rdF b Rr.no r).2 = Rr.no
  | [], _ => rfl
  | g :: r, b => by
    unfold rdF
    rw [tInt_no]
    exact rdF_no r _
def base (m : Int) : Bn := ⟨0, 0, 0, m, 0, 0, 0, 0, 0, 0, 0⟩
/-- components as they come, whatever they are -/
def rawRest (q : Rr) : Bn × Rr := rdF (base (tInt q).1) (tInt q).2 (pl (tInt q).1 7)
theorem rest_fold (m : Int) (q : Rr) : rdF (base m) q (pl m 7) =
    (let x := optT (bitB m 0) q
     let y := optT (bitB m 0) x.2
     let vx := optT (bitB m 1) y.2
     let vy := optT (bitB m 1) vx.2
     let h := optT (bitB m 2) vy.2
     let p := optT (bitB m 3) h.2
     let l := optT (bitB m 4) p.2
     (⟨0, 0, 0, m, x.1, y.1, vx.1, vy.1, h.1, p.1, l.1⟩, l.2)) := by
  unfold pl fds
  simp only [List.take, List.filter, Fld.bit]
  cases bitB m 0 <;> cases bitB m 1 <;> cases bitB m 2 <;> cases bitB m 3 <;> cases bitB m 4 <;> rfl
theorem takeRest_is (q : Rr) : takeRest q = if ((tInt q).2.bad || decide ((tInt q).1 < 0)) || decide ((tInt q).1 > 31) then (zeroB, Rr.no) else rawRest q := by
  unfold rawRest
  rw [rest_fold]
  rfl
theorem tInt_bad (q : Rr) (h : q.Ok) (hb : (tInt q).2.bad = true) : (tInt q).2 = Rr.no := rr_no (tInt_ok q h) hb
/-- a name as it comes, whatever it is -/
def rawTID (q : Rr) : NKy × Rr :=
  (((tInt q).1, (tInt (tInt q).2).1, (tInt (tInt (tInt q).2).2).1), (tInt (tInt (tInt q).2).2).2)
theorem rawTID_ok (q : Rr) (h : q.Ok) : (rawTID q).2.Ok := tInt_ok _ (tInt_ok _ (tInt_ok _ h))
theorem takeID_is (q : Rr) : takeID q = if (rawTID q).2.bad || !okID (rawTID q).1 then ((0, 0, 0), Rr.no) else rawTID q := rfl
theorem rawRest_no : (rawRest Rr.no).2 = Rr.no := by
  unfold rawRest
  rw [tInt_no]
  exact rdF_no _ _
def withID (b : Bn) (k : NKy) : Bn := { b with s := k.1, i := k.2.1, g := k.2.2 }
/-- an entity as it comes -/
def rawTB (q : Rr) : Bn × Rr := (withID (rawRest (rawTID q).2).1 (rawTID q).1, (rawRest (rawTID q).2).2)
theorem may_id {b : Bn} {k : NKy} (h : may (withID b k) = true) : okID k = true := (may_split h).1
theorem may_m {b : Bn} {k : NKy} (h : may (withID b k) = true) : 0 ≤ b.m ∧ b.m ≤ 31 := (right_split (may_split h).2).1
theorem rawRest_m (q : Rr) : (rawRest q).1.m = (tInt q).1 := rdF_m _ _ _
theorem rawRest_bad (q : Rr) (h : q.Ok) (hb : q.bad = true) : (rawRest q).2.bad = true := by
  rw [rr_no h hb, rawRest_no]
theorem rawRest_bad1 (q : Rr) (h : q.Ok) (hb : (tInt q).2.bad = true) : (rawRest q).2.bad = true := by
  unfold rawRest
  rw [tInt_bad q h hb, rdF_no]
theorem no_or {α : Type} {a : Bool} {x y : α} (h : a = true) : (if a || false then x else y) = x := by rw [h]; rfl
/-- what is taken of components, once all is checked behind it -/
theorem rest_checked {β : Type} (q : Rr) (h : q.Ok) (f : Bn → β) (z : β) (ok : Bn → Bool) (hok : ∀ b, ok b = true → 0 ≤ b.m ∧ b.m ≤ 31) :
    (if (takeRest q).2.bad || !ok (takeRest q).1 then (z, Rr.no) else (f (takeRest q).1, (takeRest q).2)) = (if (rawRest q).2.bad || !ok (rawRest q).1 then (z, Rr.no) else (f (rawRest q).1, (rawRest q).2)) := by
  rw [takeRest_is]
  by_cases hc : (((tInt q).2.bad || decide ((tInt q).1 < 0)) || decide ((tInt q).1 > 31)) = true
  · rw [if_pos hc, if_pos (by rfl)]
    by_cases hb : (tInt q).2.bad = true
    · rw [rawRest_bad1 q h hb]
      rfl
    · rw [if_pos]
      have : ok (rawRest q).1 = false := by
        cases ho : ok (rawRest q).1 with
        | false => rfl
        | true =>
          have := hok _ ho
          rw [rawRest_m] at this
          simp only [Bool.or_eq_true, decide_eq_true_eq] at hc
          rcases hc with (hc | hc) | hc
          · exact absurd hc hb
          · omega
          · omega
      rw [this]
      simp
  · rw [if_neg hc]
theorem takeB_is (q : Rr) (h : q.Ok) : takeB q = if (rawTB q).2.bad || !may (rawTB q).1 then (zeroB, Rr.no) else rawTB q := by
  have e : takeB q = if (takeRest (takeID q).2).2.bad || !may (withID (takeRest (takeID q).2).1 (takeID q).1) then (zeroB, Rr.no) else (withID (takeRest (takeID q).2).1 (takeID q).1, (takeRest (takeID q).2).2) := rfl
  rw [e]
  have hk : (takeID q).2.Ok := goodID.ok' q h
  rw [rest_checked (takeID q).2 hk (fun b => withID b (takeID q).1) zeroB (fun b => may (withID b (takeID q).1)) (fun b hb => may_m hb)]
  unfold rawTB
  rw [takeID_is]
  by_cases hc : ((rawTID q).2.bad || !okID (rawTID q).1) = true
  · rw [if_pos hc, rawRest_no]
    rw [if_pos (by rfl), if_pos]
    by_cases hb : (rawTID q).2.bad = true
    · rw [rawRest_bad _ (rawTID_ok q h) hb]; rfl
    · have hn : okID (rawTID q).1 = false := by simpa [hb] using hc
      have : may (withID (rawRest (rawTID q).2).1 (rawTID q).1) = false := by
        cases hm : may (withID (rawRest (rawTID q).2).1 (rawTID q).1) with
        | false => rfl
        | true => rw [may_id hm] at hn; cases hn
      rw [this]
      simp
  · rw [if_neg hc]
/-- a command's body as it comes -/
def rawBody (k : Int) (q : Rr) : Cn × Rr :=
  if k = 1 then ((⟨k, 0, 0, 0, (rawTB q).1, 0⟩ : Cn), (rawTB q).2)
  else if k = 2 then (⟨k, (rawTID q).1.1, (rawTID q).1.2.1, (rawTID q).1.2.2, zeroB, 0⟩, (rawTID q).2)
  else if k = 3 then (⟨k, (rawTID q).1.1, (rawTID q).1.2.1, (rawTID q).1.2.2, (rawRest (rawTID q).2).1, 0⟩, (rawRest (rawTID q).2).2)
  else if k = 4 then (⟨k, (rawTID q).1.1, (rawTID q).1.2.1, (rawTID q).1.2.2, zeroB, (tInt (rawTID q).2).1⟩, (tInt (rawTID q).2).2)
  else (⟨k, 0, 0, 0, zeroB, 0⟩, q)
def rawTC (q : Rr) : Cn × Rr := rawBody (tInt q).1 (tInt q).2
theorem mc2 {s i g m : Int} {b : Bn} (h : mayCmd ⟨2, s, i, g, b, m⟩ = true) : okID (s, i, g) = true := by
  have h : ((rightID s i g && decide (m = 0)) && empty b) = true := h
  simp only [Bool.and_eq_true] at h
  exact h.1.1
theorem mc3 {s i g m : Int} {b : Bn} (h : mayCmd ⟨3, s, i, g, b, m⟩ = true) : okID (s, i, g) = true ∧ 0 ≤ b.m ∧ b.m ≤ 31 := by
  have h : ((((rightID s i g && decide (m = 0)) && noID b.s b.i b.g) && takesB b.m) && right b) = true := h
  simp only [Bool.and_eq_true] at h
  exact ⟨h.1.1.1.1, (right_split h.2).1⟩
theorem mc4 {s i g m : Int} {b : Bn} (h : mayCmd ⟨4, s, i, g, b, m⟩ = true) : okID (s, i, g) = true := by
  have h : ((rightID s i g && empty b) && takesB m) = true := h
  simp only [Bool.and_eq_true] at h
  exact h.1.1
theorem mc1 {s i g m : Int} {b : Bn} (h : mayCmd ⟨1, s, i, g, b, m⟩ = true) : may b = true := by
  have h : ((noID s i g && decide (m = 0)) && may b) = true := h
  simp only [Bool.and_eq_true] at h
  exact h.2
/-- a check behind what is bad, or no name, tells the same -/
theorem id_checked {β : Type} (q : Rr) (h : q.Ok) (f : NKy → Rr → β × Rr) (z : β) (ok : β → Bool) (hbad : ∀ k r, r.Ok → r.bad = true → (f k r).2.bad = true) (hok : ∀ k r, ok (f k r).1 = true → okID k = true) :
    (if (f (takeID q).1 (takeID q).2).2.bad || !ok (f (takeID q).1 (takeID q).2).1 then (z, Rr.no) else f (takeID q).1 (takeID q).2) = (if (f (rawTID q).1 (rawTID q).2).2.bad || !ok (f (rawTID q).1 (rawTID q).2).1 then (z, Rr.no) else f (rawTID q).1 (rawTID q).2) := by
  rw [takeID_is]
  by_cases hc : ((rawTID q).2.bad || !okID (rawTID q).1) = true
  · rw [if_pos hc]
    simp only
    rw [hbad _ Rr.no (fun _ => rfl) rfl, if_pos (by rfl), if_pos]
    by_cases hb : (rawTID q).2.bad = true
    · rw [hbad _ _ (rawTID_ok q h) hb]; rfl
    · have hn : okID (rawTID q).1 = false := by simpa [hb] using hc
      cases hm : ok (f (rawTID q).1 (rawTID q).2).1 with
      | false => simp
      | true => rw [hok _ _ hm] at hn; cases hn
  · rw [if_neg hc]
theorem body_checked (k : Int) (q : Rr) (h : q.Ok) : (if (takeBody k q).2.bad || !mayCmd (takeBody k q).1 then (zeroC, Rr.no) else takeBody k q) = (if (rawBody k q).2.bad || !mayCmd (rawBody k q).1 then (zeroC, Rr.no) else rawBody k q) := by
  unfold takeBody rawBody
  by_cases h1 : k = 1
  · subst h1
    simp only [if_true]
    rw [takeB_is q h]
    by_cases hc : ((rawTB q).2.bad || !may (rawTB q).1) = true
    · rw [if_pos hc]
      simp only
      rw [if_pos (by rfl), if_pos]
      by_cases hb : (rawTB q).2.bad = true
      · rw [hb]; rfl
      · have hn : may (rawTB q).1 = false := by simpa [hb] using hc
        cases hm : mayCmd ⟨1, 0, 0, 0, (rawTB q).1, 0⟩ with
        | false => simp
        | true => rw [mc1 hm] at hn; cases hn
    · rw [if_neg hc]
  · simp only [if_neg h1]
    by_cases h2 : k = 2
    · subst h2
      simp only [if_true]
      exact id_checked q h (fun k r => ((⟨2, k.1, k.2.1, k.2.2, zeroB, 0⟩ : Cn), r)) zeroC mayCmd (fun k r _ hb => hb) (fun k r hm => mc2 hm)
    · simp only [if_neg h2]
      by_cases h3 : k = 3
      · subst h3
        simp only [if_true]
        rw [rest_checked (takeID q).2 (goodID.ok' q h) (fun b => (⟨3, (takeID q).1.1, (takeID q).1.2.1, (takeID q).1.2.2, b, 0⟩ : Cn)) zeroC (fun b => mayCmd ⟨3, (takeID q).1.1, (takeID q).1.2.1, (takeID q).1.2.2, b, 0⟩) (fun b hm => (mc3 hm).2)]
        exact id_checked q h (fun k r => ((⟨3, k.1, k.2.1, k.2.2, (rawRest r).1, 0⟩ : Cn), (rawRest r).2)) zeroC mayCmd (fun k r hr hb => rawRest_bad r hr hb) (fun k r hm => (mc3 hm).1)
      · simp only [if_neg h3]
        by_cases h4 : k = 4
        · subst h4
          simp only [if_true]
          exact id_checked q h (fun k r => ((⟨4, k.1, k.2.1, k.2.2, zeroB, (tInt r).1⟩ : Cn), (tInt r).2)) zeroC mayCmd (fun k r hr hb => by rw [rr_no hr hb, tInt_no]) (fun k r hm => mc4 hm)
        · simp only [if_neg h4]
theorem takeC_is (q : Rr) (h : q.Ok) : takeC q = if (rawTC q).2.bad || !mayCmd (rawTC q).1 then (zeroC, Rr.no) else rawTC q :=
  body_checked (tInt q).1 (tInt q).2 (tInt_ok q h)
/-- components' bytes, number by number -/
theorem rest_lay (b : Bn) : rest b = Oct.enc b.m ++ (pl b.m 7).flatMap fun f => Oct.enc (f.get b) := by
  unfold rest pl fds optP
  simp only [List.take, List.filter, Fld.bit]
  cases bitB b.m 0 <;> cases bitB b.m 1 <;> cases bitB b.m 2 <;> cases bitB b.m 3 <;> cases bitB b.m 4 <;> simp [Fld.get, List.flatMap_cons]
end Cd
end Go.Proofs.YtdhlebmgeiiejaaGreat
