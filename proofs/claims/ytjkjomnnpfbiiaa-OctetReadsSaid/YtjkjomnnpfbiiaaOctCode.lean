/- What was laid is read; no number's bytes begin another number's. Plain lists alone. -/
import Derived.Test.YtjkjomnnpfbiiaaOctRdr3
namespace Go.Proofs.Ytjkjomnnpfbiiaa
open Go.RowKit
set_option linter.unusedVariables false

theorem few_enc (m : Nat) (hm : m < 9223372036854775808) : fewB (Oct.hi m (Oct.sz m)) = true := by
  have hp := Oct.sz_pow m (by omega)
  have h8 := Oct.sz_le m
  obtain ⟨k, hk⟩ : ∃ k, k = Oct.sz m := ⟨_, rfl⟩
  match k, hk with
  | 0, hk => rw [← hk]; rfl
  | j + 1, hk =>
    have hlow := Oct.sz_low m (by omega)
    rw [← hk] at hp hlow h8
    rw [← hk]
    simp only [Nat.add_sub_cancel] at hlow
    have hf := Oct.hi_first j m hp
    have hlen := Oct.hi_length (j + 1) m
    cases hd : Oct.hi m (j + 1) with
    | nil => rw [hd] at hlen; simp at hlen
    | cons c t =>
      rw [hd] at hf hlen
      simp only [List.getElem?_cons_zero, Option.some.injEq] at hf
      simp only [List.length_cons] at hlen
      have hq : m / 256 ^ j < 256 := Nat.div_lt_of_lt_mul (by rwa [Nat.pow_succ] at hp)
      have hc : c.toNat = m / 256 ^ j := by rw [hf, UInt8.toNat_ofNat', Nat.mod_eq_of_lt hq]
      have hpos : 1 ≤ m / 256 ^ j := (Nat.le_div_iff_mul_le (Nat.pow_pos (by omega))).2 (by omega)
      show ((c.toNat != 0) && (t.length != 7 || decide (c.toNat ≤ 127))) = true
      rw [hc]
      have h1 : (m / 256 ^ j != 0) = true := by rw [bne_iff_ne]; omega
      rw [h1, Bool.true_and]
      by_cases h7 : j = 7
      · subst h7
        have : m / 256 ^ 7 ≤ 127 := by omega
        simp [this]
      · have : (t.length != 7) = true := by rw [bne_iff_ne]; omega
        rw [this]; rfl

theorem low_head (n : Int) (h0 : -9223372036854775808 ≤ n) (h1 : n ≤ 9223372036854775807) : low (UInt8.ofNat (Oct.head n)) = Oct.sz (Oct.mag n) ∧ (128 ≤ (UInt8.ofNat (Oct.head n)).toNat ↔ n < 0) := by
  have h8 := Oct.sz_le (Oct.mag n)
  have hh : (UInt8.ofNat (Oct.head n)).toNat = Oct.head n := by
    rw [UInt8.toNat_ofNat', Nat.mod_eq_of_lt]
    unfold Oct.head; split <;> omega
  unfold low
  rw [hh]
  unfold Oct.head
  split <;> omega

theorem rd_enc (n : Int) (r : List UInt8) (h0 : -9223372036854775808 ≤ n) (h1 : n ≤ 9223372036854775807) : rd (Oct.enc n ++ r) = some (n, (Oct.enc n).length) := by
  have hm := Oct.mag_lt n h0 h1
  obtain ⟨hl, hs⟩ := low_head n h0 h1
  have h8 := Oct.sz_le (Oct.mag n)
  have hlen := Oct.hi_length (Oct.sz (Oct.mag n)) (Oct.mag n)
  have htake : (Oct.hi (Oct.mag n) (Oct.sz (Oct.mag n)) ++ r).take (Oct.sz (Oct.mag n)) = Oct.hi (Oct.mag n) (Oct.sz (Oct.mag n)) := by
    rw [List.take_append_of_le_length (by omega), List.take_of_length_le (by omega)]
  show rd (UInt8.ofNat (Oct.head n) :: (Oct.hi (Oct.mag n) (Oct.sz (Oct.mag n)) ++ r)) = _
  simp only [rd]
  rw [hl, htake, if_neg (by simp only [List.length_append]; omega), if_neg (by rw [few_enc _ hm]; simp), Oct.hi_val _ _ (Oct.sz_pow _ (by omega)), Oct.enc_length]
  by_cases hn : n < 0
  · rw [if_pos (hs.2 hn)]
    have : Oct.mag n = (-n - 1).toNat := by unfold Oct.mag; rw [if_pos hn]
    rw [this]
    congr 2
    omega
  · rw [if_neg (fun h => hn (hs.1 h))]
    have : Oct.mag n = n.toNat := by unfold Oct.mag; rw [if_neg hn]
    rw [this]
    congr 2
    omega

theorem pre_of_take {a b : List UInt8} {n : Nat} (hn : n = min a.length b.length) (h : a.take n = b.take n) : (∃ r, b = a ++ r) ∨ (∃ r, a = b ++ r) := by
  rcases Nat.le_total a.length b.length with hl | hl
  · left
    rw [Nat.min_eq_left hl] at hn
    rw [hn, List.take_length] at h
    have e := List.take_append_drop a.length b
    rw [← h] at e
    exact ⟨b.drop a.length, e.symm⟩
  · right
    rw [Nat.min_eq_right hl] at hn
    rw [hn, List.take_length] at h
    have e := List.take_append_drop b.length a
    rw [h] at e
    exact ⟨a.drop b.length, e.symm⟩
theorem enc_inj {a b : Int} (ha : -9223372036854775808 ≤ a ∧ a ≤ 9223372036854775807) (hb : -9223372036854775808 ≤ b ∧ b ≤ 9223372036854775807) {r : List UInt8} (h : Oct.enc b = Oct.enc a ++ r) : a = b := by
  have h1 := rd_enc a r ha.1 ha.2
  have h2 := rd_enc b [] hb.1 hb.2
  rw [List.append_nil, h, h1] at h2
  simpa using congrArg (fun o => (o.map (·.1))) h2
def beginsB (a b : List UInt8) : Bool := a.take (min a.length b.length) == b.take (min a.length b.length)
theorem begins_enc {a b : Int} (ha : -9223372036854775808 ≤ a ∧ a ≤ 9223372036854775807) (hb : -9223372036854775808 ≤ b ∧ b ≤ 9223372036854775807) : beginsB (Oct.enc a) (Oct.enc b) = (a == b) := by
  rw [Bool.eq_iff_iff, beq_iff_eq, beginsB, beq_iff_eq]
  constructor
  · intro h
    rcases pre_of_take rfl h with ⟨r, hr⟩ | ⟨r, hr⟩
    · exact enc_inj ha hb hr
    · exact (enc_inj hb ha hr).symm
  · rintro rfl; rfl
theorem encT_inj {a b : List UInt8} (ha : a.length ≤ 9223372036854775807) (hb : b.length ≤ 9223372036854775807) {r : List UInt8} (h : Oct.encT b = Oct.encT a ++ r) : a = b := by
  have h1 := rd_enc a.length (a ++ r) (by omega) (by omega)
  have h2 := rd_enc b.length b (by omega) (by omega)
  unfold Oct.encT at h
  rw [List.append_assoc] at h
  rw [h, h1] at h2
  have hl : (a.length : Int) = b.length := by simpa using congrArg (fun o => (o.map (·.1))) h2
  have e : Oct.enc (a.length : Int) = Oct.enc b.length := by rw [hl]
  rw [e] at h
  have h3 := List.append_cancel_left h
  have : r = [] := by
    have := congrArg List.length h3
    simp only [List.length_append] at this
    exact List.eq_nil_of_length_eq_zero (by omega)
  rw [this, List.append_nil] at h3
  exact h3.symm
theorem begins_encT {a b : List UInt8} (ha : a.length ≤ 9223372036854775807) (hb : b.length ≤ 9223372036854775807) : beginsB (Oct.encT a) (Oct.encT b) = (a == b) := by
  rw [Bool.eq_iff_iff, beq_iff_eq, beginsB, beq_iff_eq]
  constructor
  · intro h
    rcases pre_of_take rfl h with ⟨r, hr⟩ | ⟨r, hr⟩
    · exact encT_inj ha hb hr
    · exact (encT_inj hb ha hr).symm
  · rintro rfl; rfl

theorem oInt_enc (n : Int) (r : List UInt8) (bad : Bool) (h0 : -9223372036854775808 ≤ n) (h1 : n ≤ 9223372036854775807) : oInt (Oct.enc n ++ r) bad = ⟨n, r, bad⟩ := by
  have h := rd_enc n r h0 h1
  have hS : rdS (Oct.enc n ++ r) = (Oct.enc n).length := by simp [rdS, h]
  have hN : rdN (Oct.enc n ++ r) = n := by simp [rdN, h]
  rw [oInt_ok _ _ (by rw [hS, Oct.enc_length]; omega), hS, hN]
  simp
theorem oText_enc (s r : List UInt8) (bad : Bool) (hs : s.length ≤ 65536) : oText (Oct.encT s ++ r) bad = ⟨s, r, bad⟩ := by
  have h : oCount (Oct.encT s ++ r) bad 65536 = ⟨s.length, s ++ r, bad⟩ := by
    have e : Oct.encT s ++ r = Oct.enc s.length ++ (s ++ r) := by simp [Oct.encT]
    rw [e, oCount_ok (by rw [oInt_enc _ _ _ (by omega) (by omega)]; simp only; omega), oInt_enc _ _ _ (by omega) (by omega)]
  unfold oText
  rw [h]
  simp only [List.length_append]
  rw [if_neg (by omega)]
  simp

end Go.Proofs.Ytjkjomnnpfbiiaa
