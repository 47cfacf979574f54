/- hedgerowref01.Reader.Int where a number stands. -/
import Derived.Test.YtjkjomnnpfbiiaaOctRd2
namespace Go.Proofs.Ytjkjomnnpfbiiaa
open Go.RowKit
set_option linter.unusedVariables false

theorem take_take_le (t : List UInt8) (i k : Nat) (h : i ≤ k) : (t.take k).take i = t.take i := by rw [List.take_take, Nat.min_eq_left h]

set_option maxHeartbeats 4000000 in
set_option maxRecDepth 100000 in
theorem rint_ok (b : Nat) (c : UInt8) (t : List UInt8) (w : World) (hl : t.length ≤ 1000000000) (h8 : low c ≤ 8) (h9 : low c ≤ t.length) (hf : fewB (t.take (low c)) = true) (h : Rdr 36 b (c :: t) false w) :
    ROk b (if 128 ≤ c.toNat then -(Oct.val (t.take (low c)) : Int) - 1 else (Oct.val (t.take (low c)) : Int)) (t.drop (low c)) w := by
  have c0 := h.c0
  have c1 := h.c1
  have f0 := h.f 0
  have H := Lib.hid h
  have i0 := idx0 c t
  have hm := low_mod c
  have hz : (((t.length : Int) + 1) == 0) = false := by simp; omega
  have hcb : (c.toNat : Int) < 256 := by have := c.toNat_lt; omega
  have e8 : decide ((8 : Int) < (low c : Int)) = false := by simp; omega
  have e9 : decide ((t.length : Int) + 1 < 1 + (low c : Int)) = false := by simp; omega
  have hdl : (t.take (low c)).length = low c := by rw [List.length_take]; omega
  have hv := val_few (t.take (low c)) (by omega) hf
  have hcut : (ByteArray.mk (c :: t).toArray).extract (1 + low c) (t.length + 1) = ⟨(t.drop (low c)).toArray⟩ := by
    rw [cutb, Nat.add_comm 1 (low c), List.drop_succ_cons, List.take_of_length_le (by rw [List.length_drop]; omega)]
  have HS : Hid (∀ j, 1 ≤ j → j ≤ low c → ∃ x, (∀ h, (ByteArray.mk (c :: t).toArray)[j]'h = x) ∧ Oct.val (t.take (j - 1)) * 256 + x.toNat = Oct.val (t.take j) ∧ Oct.val (t.take (j - 1)) * 256 + 255 < 9223372036854775808) := Lib.hid (fun j hj1 hj2 => by
    obtain ⟨i, rfl⟩ : ∃ i, j = i + 1 := ⟨j - 1, by omega⟩
    have hi : i < t.length := by omega
    refine ⟨t[i], fun h => rfl, ?_, ?_⟩
    · rw [Nat.add_sub_cancel, take_snoc t i hi, Oct.val_snoc]
    · have := val_take (t.take (low c)) i (by omega) hv
      rwa [take_take_le t i _ (by omega)] at this)
  have hcase : (low c = 0) ∨ (1 ≤ low c ∧ ∃ x : UInt8, (∀ h, (ByteArray.mk (c :: t).toArray)[1]'h = x) ∧ x.toNat ≠ 0 ∧ (low c = 8 → x.toNat ≤ 127)) := by
    by_cases h0 : low c = 0
    · exact .inl h0
    · right
      match t, h9 with
      | [], h9 => simp at h9; omega
      | x :: t', h9 =>
        obtain ⟨k, hk⟩ : ∃ k, low c = k + 1 := ⟨low c - 1, by omega⟩
        rw [hk, List.take_succ_cons] at hf
        have hff : ((x.toNat != 0) && ((t'.take k).length != 7 || decide (x.toNat ≤ 127))) = true := hf
        simp only [List.length_cons] at h9
        have hlk : (t'.take k).length = k := by rw [List.length_take]; omega
        rw [hlk] at hff
        simp only [Bool.and_eq_true, bne_iff_ne, Bool.or_eq_true, decide_eq_true_eq] at hff
        refine ⟨by omega, x, fun h => rfl, hff.1, fun h => ?_⟩
        rcases hff.2 with h7 | h7
        · omega
        · exact h7
  have HV := Lib.hid hv
  clear h hf hdl hv
  generalize low c = k at *
  unfold ROk
  have hcase2 : ∃ x1 : UInt8, (decide (0 < k) = false ∧ ((k : Int) == 8) = false) ∨ (decide (0 < k) = true ∧ 1 ≤ t.length ∧ (∀ h, (ByteArray.mk (c :: t).toArray)[1]'h = x1) ∧ ((x1.toNat : Int) == 0) = false ∧ ((((k : Int) == 8) = false) ∨ (((k : Int) == 8) = true ∧ decide ((127 : Int) < (x1.toNat : Int)) = false))) := by
    rcases hcase with h0 | ⟨h1, x1, i1, hx0, hx8⟩
    · exact ⟨0, .inl ⟨by simp; omega, by rw [beq_eq_false_iff_ne]; omega⟩⟩
    · refine ⟨x1, .inr ⟨by simp; omega, by omega, i1, by rw [beq_eq_false_iff_ne]; omega, ?_⟩⟩
      by_cases hk8 : k = 8
      · exact .inr ⟨by rw [beq_iff_eq]; omega, by have := hx8 hk8; simp; omega⟩
      · exact .inl (by rw [beq_eq_false_iff_ne]; omega)
  clear hcase
  obtain ⟨x1, hcase⟩ := hcase2
  have hb1 : (x1.toNat : Int) < 256 := by have := x1.toNat_lt; omega
  rcases hcase with ⟨e1, ek⟩ | ⟨e1, ht1, i1, ez, ek | ⟨ek, e127⟩⟩
  all_goals
    go_enter Try.func17, Try.ntmps17
    go_wp2
    go_loop [4, 5] (fun n i => ∃ j m : Nat, 1 ≤ j ∧ j ≤ k + 1 ∧ i = .int .i64 j ∧ n = .int .i64 m ∧ Hid (m = Oct.val (t.take (j - 1)))) (fun _ i => k + 1 - (intOf i).toNat)
    case atStart => exact ⟨1, 0, Nat.le_refl _, by omega, rfl, rfl, rfl⟩
    case round =>
      obtain ⟨j, m, hj1, hj2, rfl, rfl, hmm⟩ := hrel
      by_cases hlt : j ≤ k
      · obtain ⟨x, hx, hval, hbd⟩ := HS.out j hj1 hlt
        rw [← hmm.out] at hval hbd
        have HN : Hid (256 * m + x.toNat = Oct.val (t.take (j + 1 - 1))) := Lib.hid (by rw [Nat.add_sub_cancel, ← hval]; omega)
        have hxb : (x.toNat : Int) < 256 := by have := x.toNat_lt; omega
        have hjl : (j : Int) < (t.length : Int) + 1 := by omega
        clear hval
        go_wp2
        go_round
        case rel => exact ⟨j + 1, 256 * m + x.toNat, by omega, by omega, by go_num, by go_num, HN⟩
        case measure => simp [intOf]; omega
      · have HM : Hid (m = Oct.val (t.take k)) := Lib.hid (by rw [hmm.out, show j - 1 = k by omega])
        have hmv : m < 9223372036854775808 := by rw [HM.out]; exact HV.out
        clear hmm
        by_cases hs : 128 ≤ c.toNat
        · have hs' : decide ((127 : Int) < (c.toNat : Int)) = true := by simp; omega
          go_wp2
          go_ret
          exact ⟨ret_int (by rw [HM.out]), Rdr.set0 H.out (t.drop k), only_set (p := ⟨b, 0, none⟩) (World.grownBy.refl w _) (.inl rfl) _⟩
        · have hs' : decide ((127 : Int) < (c.toNat : Int)) = false := by simp; omega
          go_wp2
          go_ret
          exact ⟨ret_int (by rw [HM.out]), Rdr.set0 H.out (t.drop k), only_set (p := ⟨b, 0, none⟩) (World.grownBy.refl w _) (.inl rfl) _⟩

end Go.Proofs.Ytjkjomnnpfbiiaa
