/- octet.number, where a number's head stands. -/
import Derived.Test.YtjkjomnnpfbiiaaOctNum
namespace Go.Proofs.Ytjkjomnnpfbiiaa
open Go.RowKit

theorem cutb (l : List UInt8) (i j : Nat) : (ByteArray.mk l.toArray).extract i j = ⟨((l.drop i).take (j - i)).toArray⟩ := by
  apply ByteArray.ext
  rw [ByteArray.data_extract]
  apply Array.ext'
  simp [List.extract_eq_take_drop]

theorem ret2_int {a b c d : Int} (h : a = b) (k : c = d) : Ending.returned (.tuple #[.int .i64 a, .int .i64 c]) = .returned (.tuple #[.int .i64 b, .int .i64 d]) := by rw [h, k]
theorem take_snoc (s : List UInt8) (k : Nat) (h : k < s.length) : s.take (k + 1) = s.take k ++ [s[k]] := List.take_succ_eq_append_getElem h

theorem or_low (n : Nat) (c : UInt8) (h : n * 256 + 255 < 9223372036854775808) : bits .or .i64 ((n : Int) * 256) (c.toNat : Int) = ((n * 256 + c.toNat : Nat) : Int) := by
  have hc := c.toNat_lt
  show IntKind.i64.wrap ((BitVec.ofInt 64 ((n : Int) * 256) ||| BitVec.ofInt 64 (c.toNat : Int)).toNat : Int) = _
  rw [BitVec.toNat_or, BitVec.toNat_ofInt, BitVec.toNat_ofInt]
  have e1 : ((n : Int) * 256 % ((2 ^ 64 : Nat) : Int)).toNat = n <<< 8 := by rw [Nat.shiftLeft_eq]; omega
  have e2 : ((c.toNat : Int) % ((2 ^ 64 : Nat) : Int)).toNat = c.toNat := by omega
  rw [e1, e2, ← Nat.shiftLeft_add_eq_or_of_lt (by omega), Nat.shiftLeft_eq]
  exact IntWalk.i64_in _ (by omega)

theorem not_nonneg (m : Nat) (h : m < 9223372036854775808) : bits .xor .i64 (-1) (m : Int) = -(m : Int) - 1 := by
  show IntKind.i64.wrap ((BitVec.ofInt 64 (-1) ^^^ BitVec.ofInt 64 (m : Int)).toNat : Int) = _
  have e1 : BitVec.ofInt 64 (-1) = BitVec.allOnes 64 := by decide
  rw [e1, BitVec.allOnes_xor, BitVec.toNat_not, BitVec.toNat_ofInt]
  simp [IntKind.wrap, IntKind.bits, IntKind.signed]
  omega

/-- what a text of at most eight bytes, none needless, tells is an int -/
theorem val_few (d : List UInt8) (h8 : d.length ≤ 8) (hf : fewB d = true) : Oct.val d < 9223372036854775808 := by
  match d, h8, hf with
  | [], _, _ => decide
  | c :: t, h8, hf =>
    by_cases ht : t.length = 7
    · have hc : c.toNat ≤ 127 := by
        have h : ((c.toNat != 0) && (t.length != 7 || decide (c.toNat ≤ 127))) = true := hf
        rw [ht] at h
        simp at h
        exact h.2
      have e : Oct.val (c :: t) = c.toNat * 256 ^ t.length + Oct.val t := val_cons c t
      have := Oct.val_lt t
      rw [ht] at e this
      omega
    · have hl : (c :: t).length ≤ 7 := by simp at h8 ⊢; omega
      have := Oct.val_lt (c :: t)
      have h2 : (256 : Nat) ^ (c :: t).length ≤ 256 ^ 7 := Nat.pow_le_pow_right (by omega) hl
      omega
where
  val_cons (c : UInt8) (t : List UInt8) : Oct.val (c :: t) = c.toNat * 256 ^ t.length + Oct.val t := by
    rw [← t.reverse_reverse]
    generalize t.reverse = r
    induction r with
    | nil => simp [Oct.val]
    | cons x r ih =>
      rw [List.reverse_cons, ← List.cons_append, Oct.val_snoc, Oct.val_snoc, ih, List.length_append, List.length_singleton, Nat.pow_succ, Nat.add_mul, Nat.mul_assoc]
      omega

theorem val_append (a b : List UInt8) : Oct.val (a ++ b) = Oct.val a * 256 ^ b.length + Oct.val b := by
  rw [← b.reverse_reverse]
  generalize b.reverse = r
  induction r with
  | nil => simp [Oct.val]
  | cons x r ih =>
    rw [List.reverse_cons, ← List.append_assoc, Oct.val_snoc, Oct.val_snoc, ih, List.length_append, List.length_singleton, Nat.pow_succ, Nat.add_mul, Nat.mul_assoc]
    omega
theorem val_take (d : List UInt8) (k : Nat) (hk : k < d.length) (hv : Oct.val d < 9223372036854775808) : Oct.val (d.take k) * 256 + 255 < 9223372036854775808 := by
  have h := val_append (d.take k) (d.drop k)
  rw [List.take_append_drop] at h
  have h1 : 256 ≤ 256 ^ (d.drop k).length := by
    have : (256 : Nat) ^ 1 ≤ 256 ^ (d.drop k).length := Nat.pow_le_pow_right (by omega) (by simp; omega)
    simpa using this
  have h2 := Nat.mul_le_mul_left (Oct.val (d.take k)) h1
  omega

set_option maxHeartbeats 400000 in
theorem num_bad (c : UInt8) (t : List UInt8) (w : World) (hl : t.length ≤ 9223372036854775800) (h8 : low c ≤ 8) (h9 : low c ≤ t.length) (hf : fewB (t.take (low c)) = false) : Calls Try.prog 31 #[.string ⟨(c :: t).toArray⟩] w fun e w' => e = .returned (.tuple #[.int .i64 0, .int .i64 0]) ∧ w = w' := by
  have i0 := idx0 c t
  have hb := low_bits c
  obtain ⟨d, hd⟩ : ∃ d, d = t.take (low c) := ⟨_, rfl⟩
  have hdl : d.length ≤ 100 := by rw [hd, List.length_take]; omega
  have hx : (ByteArray.mk (c :: t).toArray).extract 1 (1 + low c) = ⟨d.toArray⟩ := by rw [cutb, hd]; simp
  rw [← hd] at hf
  have cf := few_any d w hdl
  rw [hf] at cf
  have CF := Lib.hid cf
  clear hd hf cf
  go_enter Try.func31, Try.ntmps31
  go_wp2_with (go_at_call 40; refine CF.out.mono ?_; rintro e w' ⟨rfl, rfl⟩)
  go_ret2
  exact ⟨rfl, rfl⟩

set_option maxHeartbeats 1000000 in
theorem num_good (c : UInt8) (t : List UInt8) (w : World) (hl : t.length ≤ 9223372036854775800) (h8 : low c ≤ 8) (h9 : low c ≤ t.length) (hf : fewB (t.take (low c)) = true) : Calls Try.prog 31 #[.string ⟨(c :: t).toArray⟩] w fun e w' =>
    e = .returned (.tuple #[.int .i64 (if 128 ≤ c.toNat then -(Oct.val (t.take (low c)) : Int) - 1 else (Oct.val (t.take (low c)) : Int)), .int .i64 (1 + (low c : Int))]) ∧ w = w' := by
  have i0 := idx0 c t
  have hb := low_bits c
  obtain ⟨d, hd⟩ : ∃ d, d = t.take (low c) := ⟨_, rfl⟩
  have hdl : d.length = low c := by rw [hd, List.length_take]; omega
  have hx : (ByteArray.mk (c :: t).toArray).extract 1 (1 + low c) = ⟨d.toArray⟩ := by rw [cutb, hd]; simp
  rw [← hd] at hf ⊢
  have cf := few_any d w (by omega)
  rw [hf] at cf
  have CF := Lib.hid cf
  have hv := val_few d (by omega) hf
  have HL := Lib.hid hdl
  have hd8 : decide ((8 : Int) < (low c : Int)) = false := by simp; omega
  clear hd hf cf hdl
  go_enter Try.func31, Try.ntmps31
  go_wp2_with (go_at_call 40; refine CF.out.mono ?_; rintro e w' ⟨rfl, rfl⟩)
  go_loop [2, 30] (fun n i => ∃ k m : Nat, k ≤ low c ∧ i = .int .i64 k ∧ n = .int .i64 m ∧ Hid (m = Oct.val (d.take k))) (fun _ i => low c - (intOf i).toNat)
  case atStart => exact ⟨0, 0, Nat.zero_le _, rfl, rfl, rfl⟩
  case round =>
    obtain ⟨k, m, hk, rfl, rfl, hm⟩ := hrel
    have hdl := HL.out
    by_cases hlt : k < low c
    · have hkd : k < d.length := by omega
      obtain ⟨x, hxx⟩ : ∃ x, x = d[k] := ⟨_, rfl⟩
      have ix : ∀ h, (ByteArray.mk d.toArray)[k]'h = x := fun h => by rw [hxx]; rfl
      have hb1 : m * 256 + 255 < 9223372036854775808 := by rw [hm.out]; exact val_take d k hkd hv
      have hor := or_low m x hb1
      have hxb : (x.toNat : Int) < 256 := by have := x.toNat_lt; omega
      have HN : Hid (m * 256 + x.toNat = Oct.val (d.take (k + 1))) := Lib.hid (by rw [take_snoc d k hkd, Oct.val_snoc, hm.out, hxx])
      have hkk : (k : Int) < (d.length : Int) := by omega
      clear hdl hxx
      go_wp2
      go_round
      case rel => exact ⟨k + 1, m * 256 + x.toNat, by omega, by go_num, by go_num, HN⟩
      case measure => simp [intOf]; omega
    · have HM : Hid (m = Oct.val d) := Lib.hid (by rw [hm.out, show k = d.length by omega, List.take_length])
      have hmv : m < 9223372036854775808 := by rw [HM.out]; exact hv
      have hnot := not_nonneg m hmv
      clear hdl hm
      by_cases hs : 128 ≤ c.toNat
      · have hs' : (128 : Int) ≤ (c.toNat : Int) := by omega
        go_wp2
        go_ret2
        exact ⟨ret2_int (by rw [HM.out]) rfl, rfl⟩
      · have hs' : ¬ (128 : Int) ≤ (c.toNat : Int) := by omega
        go_wp2
        go_ret2
        exact ⟨ret2_int (by rw [HM.out]) rfl, rfl⟩

theorem num_any (s : List UInt8) (w : World) (hl : s.length ≤ 9223372036854775800) : Calls Try.prog 31 #[.string ⟨s.toArray⟩] w fun e w' =>
    e = .returned (.tuple #[.int .i64 (rdN s), .int .i64 (rdS s)]) ∧ w = w' := by
  match s, hl with
  | [], _ => exact num_nil w
  | c :: t, hl =>
    have hl' : t.length ≤ 9223372036854775800 := by simp at hl; omega
    by_cases h : low c > 8 ∨ low c > t.length
    · have e : rd (c :: t) = none := by simp only [rd]; rw [if_pos h]
      have := num_head c t w hl' h
      simpa [rdN, rdS, e] using this
    · by_cases hf : fewB (t.take (low c)) = true
      · have e : rd (c :: t) = some (if 128 ≤ c.toNat then -(Oct.val (t.take (low c)) : Int) - 1 else (Oct.val (t.take (low c)) : Int), 1 + low c) := by
          simp only [rd]; rw [if_neg h, if_neg (by rw [hf]; simp)]
        have := num_good c t w hl' (by omega) (by omega) hf
        simp only [rdN, rdS, e, Option.elim_some, Int.natCast_add]
        exact this
      · have hf' : fewB (t.take (low c)) = false := by simpa using hf
        have e : rd (c :: t) = none := by simp only [rd]; rw [if_neg h, if_pos hf']
        have := num_bad c t w hl' (by omega) (by omega) hf'
        simpa [rdN, rdS, e] using this

end Go.Proofs.Ytjkjomnnpfbiiaa
