/- Eight decimal digits: how a number shows them, and how they are read. Nothing of the program. -/
import Derived.Test.YtpafialojcidnaaGreatDoorWlPure
import Derived.Lib.ItoaNum
import Derived.Lib.AtoiAll
namespace Go.Proofs.YtpafialojcidnaaGreatDoor
set_option linter.unusedVariables false
namespace Wl
open Dk

theorem dec_cut : ∀ (k q n : Nat), 1 ≤ q → n < 10 ^ k → Lib.decDigits (q * 10 ^ k + n) = Lib.decDigits q ++ dg k n
  | 0, q, n, _, h => by
    have : n = 0 := by simp at h; omega
    subst this
    simp [dg]
  | k + 1, q, n, hq, h => by
    have hp : 10 ^ (k + 1) = 10 * 10 ^ k := by rw [Nat.pow_succ]; omega
    have hpos : 0 < 10 ^ k := Nat.pos_of_ne_zero (by intro e; simp at e)
    have hm : q * 10 ^ (k + 1) = 10 * (q * 10 ^ k) := by rw [hp, ← Nat.mul_assoc, Nat.mul_comm q 10, Nat.mul_assoc]
    have hge : 10 ^ k ≤ q * 10 ^ k := Nat.le_mul_of_pos_left _ hq
    rw [Lib.decDigits, dif_neg (by omega)]
    rw [show (q * 10 ^ (k + 1) + n) / 10 = q * 10 ^ k + n / 10 by omega, show (q * 10 ^ (k + 1) + n) % 10 = n % 10 by omega]
    rw [dec_cut k q (n / 10) hq (by omega), dg, List.append_assoc]
theorem itoa_cut {n : Nat} (h : n ≤ 99999999) : (Lib.itoa ((100000000 : Int) + (n : Int))) = 49 :: dg 8 n := by
  unfold Lib.itoa
  rw [if_neg (by omega), show ((100000000 : Int) + (n : Int)).toNat = 1 * 10 ^ 8 + n by omega, dec_cut 8 1 n (by decide) (by omega), Lib.decDigits_one (by decide)]
  rfl
theorem parse_dg : ∀ (k n acc : Nat) (r : Str), n < 10 ^ k → acc * 10 ^ k + n < 1844674407370955162 → Lib.parseUint10 acc (dg k n ++ r) = Lib.parseUint10 (acc * 10 ^ k + n) r
  | 0, n, acc, r, h, _ => by
    have : n = 0 := by simp at h; omega
    subst this
    simp [dg]
  | k + 1, n, acc, r, h, hb => by
    have hp : acc * 10 ^ (k + 1) = 10 * (acc * 10 ^ k) := by rw [Nat.pow_succ, ← Nat.mul_assoc]; omega
    rw [dg, List.append_assoc, parse_dg k (n / 10) acc _ (by rw [Nat.pow_succ] at h; omega) (by omega)]
    rw [List.singleton_append, Lib.parseUint10, dig_toNat, if_pos (by omega), if_neg (by omega), if_neg (by omega)]
    congr 1
    omega
theorem dg_cons (n : Nat) : ∃ c r, dg 8 n = c :: r ∧ 48 ≤ c.toNat ∧ c.toNat ≤ 57 := by
  have h := dg_dig 8 n
  have hl := dg_len 8 n
  cases hd : dg 8 n with
  | nil => rw [hd] at hl; simp at hl
  | cons c r =>
    rw [hd] at h
    simp only [List.all_cons, Bool.and_eq_true, isDig, decide_eq_true_eq] at h
    exact ⟨c, r, rfl, h.1.1, h.1.2⟩
theorem atoi_dg {n : Nat} (h : n ≤ 99999999) : Lib.atoiAll (dg 8 n) = .ok (n : Int) := by
  have hp := parse_dg 8 n 0 [] (by omega) (by omega)
  rw [List.append_nil] at hp
  obtain ⟨c, r, e, h1, h2⟩ := dg_cons n
  have hn : ¬ (c.toNat = 43 ∨ c.toNat = 45) := by omega
  rw [e] at hp ⊢
  unfold Lib.atoiAll
  simp only [if_neg hn]
  unfold Lib.parseMag
  rw [if_neg (by simp), hp]
  simp only [Lib.parseUint10]
  rw [if_neg (by omega), if_neg (by omega), if_neg (by omega)]
  congr 1
  omega
end Wl
end Go.Proofs.YtpafialojcidnaaGreatDoor
