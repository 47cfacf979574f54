/- OctRd2, OctRd3, OctRd4, in one text. -/
import Derived.Test.YtdhlebmgeiiejaaGreatKRdr
import Derived.Test.YtdhlebmgeiiejaaGreatKOctRef2
namespace Go.Proofs.YtdhlebmgeiiejaaGreat
open Go.RowKit
set_option linter.unusedVariables false

set_option maxHeartbeats 400000 in
theorem rspoil_any (b : Nat) (s : List UInt8) (bad : Bool) (w : World) (h : Rdr 27 b s bad w) :
    Calls Tryz.prog 80 #[.pointer (some ⟨b, 0, none⟩)] w fun e w' => e = .returned (.tuple #[]) ∧ Rdr 27 b [] true w' ∧ w.grownBy w' (some b) := by
  have c0 := h.c0
  have c1 := h.c1
  have f0 := h.f 0
  have f1 := h.f 1
  have H := Lib.hid h
  clear h
  go_enter Tryz.func80, Tryz.ntmps80
  go_wp2
  go_end0
  refine ⟨rfl, ?_, ?_⟩
  · have h1 := Rdr.set1 H.out true
    exact h1.set0 []
  · exact only_set (p := ⟨b, 0, none⟩) (only_set (p := ⟨b, 1, none⟩) (World.grownBy.refl w _) (.inl rfl) _) (.inl rfl) _

theorem idx1 (c c1 : UInt8) (t : List UInt8) : ∀ h, (ByteArray.mk (c :: c1 :: t).toArray)[1]'h = c1 := fun _ => rfl
theorem low_mod (c : UInt8) : (c.toNat : Int) % 128 = (low c : Int) := by unfold low; omega
def RSpoil (b : Nat) (w : World) : Prop := Calls Tryz.prog 39 #[.pointer (some ⟨b, 0, none⟩)] w fun e w' => e = .returned (.int .i64 0) ∧ Rdr 27 b [] true w' ∧ w.grownBy w' (some b)

set_option maxHeartbeats 1000000 in
set_option maxRecDepth 100000 in
theorem rint_bad (b : Nat) (s : List UInt8) (w : World) (h : Rdr 27 b s true w) : RSpoil b w := by
  have c0 := h.c0
  have c1 := h.c1
  have H := Lib.hid h
  clear h
  unfold RSpoil
  go_enter Tryz.func39, Tryz.ntmps39
  go_wp2_with (go_at_call 80; refine (rspoil_any b _ _ _ H.out).mono ?_; rintro e w1 ⟨rfl, h1, g1⟩)
  go_ret
  exact ⟨rfl, h1, g1⟩
set_option maxHeartbeats 1000000 in
set_option maxRecDepth 100000 in
theorem rint_nil (b : Nat) (w : World) (h : Rdr 27 b [] false w) : RSpoil b w := by
  have c0 := h.c0
  have c1 := h.c1
  have H := Lib.hid h
  clear h
  unfold RSpoil
  go_enter Tryz.func39, Tryz.ntmps39
  go_wp2_with (go_at_call 80; refine (rspoil_any b _ _ _ H.out).mono ?_; rintro e w1 ⟨rfl, h1, g1⟩)
  go_ret
  exact ⟨rfl, h1, g1⟩
set_option maxHeartbeats 1000000 in
set_option maxRecDepth 100000 in
theorem rint_head (b : Nat) (c : UInt8) (t : List UInt8) (w : World) (hl : t.length ≤ 140737489351232) (hk : low c > 8 ∨ low c > t.length) (h : Rdr 27 b (c :: t) false w) : RSpoil b w := by
  have c0 := h.c0
  have c1 := h.c1
  have H := Lib.hid h
  have i0 := idx0 c t
  have hm := low_mod c
  have hz : (((t.length : Int) + 1) == 0) = false := by simp; omega
  have hl8 : low c < 128 := Nat.mod_lt _ (by decide)
  have hcb : (c.toNat : Int) < 256 := by have := c.toNat_lt; omega
  clear h
  unfold RSpoil
  by_cases h8 : low c > 8
  · have h8' : decide ((8 : Int) < (low c : Int)) = true := by simp; omega
    clear hk
    go_enter Tryz.func39, Tryz.ntmps39
    go_wp2_with (go_at_call 80; refine (rspoil_any b _ _ _ H.out).mono ?_; rintro e w1 ⟨rfl, h1, g1⟩)
    go_ret
    exact ⟨rfl, h1, g1⟩
  · have h8' : decide ((8 : Int) < (low c : Int)) = false := by simp; omega
    have h9 : decide ((t.length : Int) + 1 < 1 + (low c : Int)) = true := by simp; omega
    clear hk
    go_enter Tryz.func39, Tryz.ntmps39
    go_wp2_with (go_at_call 80; refine (rspoil_any b _ _ _ H.out).mono ?_; rintro e w1 ⟨rfl, h1, g1⟩)
    go_ret
    exact ⟨rfl, h1, g1⟩


def ROk (b : Nat) (n : Int) (s : List UInt8) (w : World) : Prop := Calls Tryz.prog 39 #[.pointer (some ⟨b, 0, none⟩)] w fun e w' => e = .returned (.int .i64 n) ∧ Rdr 27 b s false w' ∧ w.grownBy w' (some b)

set_option maxHeartbeats 2000000 in
set_option maxRecDepth 100000 in
theorem rint_digits (b : Nat) (c c1' : UInt8) (t : List UInt8) (w : World) (hl : t.length ≤ 140737489351232) (h8 : low c ≤ 8) (h1 : 1 ≤ low c) (h9 : low c ≤ t.length + 1) (hf : c1'.toNat = 0 ∨ (low c = 8 ∧ 127 < c1'.toNat)) (h : Rdr 27 b (c :: c1' :: t) false w) : RSpoil b w := by
  have c0 := h.c0
  have c1 := h.c1
  have H := Lib.hid h
  have i0 := idx0 c (c1' :: t)
  have i1 := idx1 c c1' t
  have hm := low_mod c
  have hz : (((t.length : Int) + 1 + 1) == 0) = false := by simp; omega
  have hcb : (c.toNat : Int) < 256 := by have := c.toNat_lt; omega
  have hcb1 : (c1'.toNat : Int) < 256 := by have := c1'.toNat_lt; omega
  have e8 : decide ((8 : Int) < (low c : Int)) = false := by simp; omega
  have e9 : decide ((t.length : Int) + 1 + 1 < 1 + (low c : Int)) = false := by simp; omega
  have e1 : decide ((0 : Int) < (low c : Int)) = true := by simp; omega
  clear h
  unfold RSpoil
  by_cases hz1 : c1'.toNat = 0
  · have ez : ((c1'.toNat : Int) == 0) = true := by simp; omega
    clear hf
    go_enter Tryz.func39, Tryz.ntmps39
    go_wp2_with (go_at_call 80; refine (rspoil_any b _ _ _ H.out).mono ?_; rintro e w1 ⟨rfl, h1, g1⟩)
    go_ret
    exact ⟨rfl, h1, g1⟩
  · have ez : ((c1'.toNat : Int) == 0) = false := by rw [beq_eq_false_iff_ne]; omega
    have ek : ((low c : Int) == 8) = true := by rw [beq_iff_eq]; omega
    have e127 : decide ((127 : Int) < (c1'.toNat : Int)) = true := by simp; omega
    clear hf
    go_enter Tryz.func39, Tryz.ntmps39
    go_wp2_with (go_at_call 80; refine (rspoil_any b _ _ _ H.out).mono ?_; rintro e w1 ⟨rfl, h1, g1⟩)
    go_ret
    exact ⟨rfl, h1, g1⟩

end Go.Proofs.YtdhlebmgeiiejaaGreat
namespace Go.Proofs.YtdhlebmgeiiejaaGreat
open Go.RowKit
set_option linter.unusedVariables false

theorem take_take_le (t : List UInt8) (i k : Nat) (h : i ≤ k) : (t.take k).take i = t.take i := by rw [List.take_take, Nat.min_eq_left h]

set_option maxHeartbeats 4000000 in
set_option maxRecDepth 100000 in
theorem rint_ok (b : Nat) (c : UInt8) (t : List UInt8) (w : World) (hl : t.length ≤ 140737489351232) (h8 : low c ≤ 8) (h9 : low c ≤ t.length) (hf : fewB (t.take (low c)) = true) (h : Rdr 27 b (c :: t) false w) :
    ROk b (if 128 ≤ c.toNat then -(Oct.val (t.take (low c)) : Int) - 1 else (Oct.val (t.take (low c)) : Int)) (t.drop (low c)) w := by
  have c0 := h.c0
  have c1 := h.c1
  have f0 := h.f 0
  have H := Lib.hid h
  have i0 := idx0 c t
  have hm := low_mod c
  have hz : (((t.length : Int) + 1) == 0) = false := by simp; omega
  have hcb : (c.toNat : Int) < 256 := by have := c.toNat_lt; omega
  have e8 : decide ((8 : Int) < (low c : Int)) = false := by simp; omega
  have e9 : decide ((t.length : Int) + 1 < 1 + (low c : Int)) = false := by simp; omega
  have hdl : (t.take (low c)).length = low c := by rw [List.length_take]; omega
  have hv := val_few (t.take (low c)) (by omega) hf
  have hcut : (ByteArray.mk (c :: t).toArray).extract (1 + low c) (t.length + 1) = ⟨(t.drop (low c)).toArray⟩ := by
    rw [cutb, Nat.add_comm 1 (low c), List.drop_succ_cons, List.take_of_length_le (by rw [List.length_drop]; omega)]
  have HS : Hid (∀ j, 1 ≤ j → j ≤ low c → ∃ x, (∀ h, (ByteArray.mk (c :: t).toArray)[j]'h = x) ∧ Oct.val (t.take (j - 1)) * 256 + x.toNat = Oct.val (t.take j) ∧ Oct.val (t.take (j - 1)) * 256 + 255 < 9223372036854775808) := Lib.hid (fun j hj1 hj2 => by
    obtain ⟨i, rfl⟩ : ∃ i, j = i + 1 := ⟨j - 1, by omega⟩
    have hi : i < t.length := by omega
    refine ⟨t[i], fun h => rfl, ?_, ?_⟩
    · rw [Nat.add_sub_cancel, take_snoc t i hi, Oct.val_snoc]
    · have := val_take (t.take (low c)) i (by omega) hv
      rwa [take_take_le t i _ (by omega)] at this)
  have hcase : (low c = 0) ∨ (1 ≤ low c ∧ ∃ x : UInt8, (∀ h, (ByteArray.mk (c :: t).toArray)[1]'h = x) ∧ x.toNat ≠ 0 ∧ (low c = 8 → x.toNat ≤ 127)) := by
    by_cases h0 : low c = 0
    · exact .inl h0
    · right
      match t, h9 with
      | [], h9 => simp at h9; omega
      | x :: t', h9 =>
        obtain ⟨k, hk⟩ : ∃ k, low c = k + 1 := ⟨low c - 1, by omega⟩
        rw [hk, List.take_succ_cons] at hf
        have hff : ((x.toNat != 0) && ((t'.take k).length != 7 || decide (x.toNat ≤ 127))) = true := hf
        simp only [List.length_cons] at h9
        have hlk : (t'.take k).length = k := by rw [List.length_take]; omega
        rw [hlk] at hff
        simp only [Bool.and_eq_true, bne_iff_ne, Bool.or_eq_true, decide_eq_true_eq] at hff
        refine ⟨by omega, x, fun h => rfl, hff.1, fun h => ?_⟩
        rcases hff.2 with h7 | h7
        · omega
        · exact h7
  have HV := Lib.hid hv
  clear h hf hdl hv
  generalize low c = k at *
  unfold ROk
  have hcase2 : ∃ x1 : UInt8, (decide (0 < k) = false ∧ ((k : Int) == 8) = false) ∨ (decide (0 < k) = true ∧ 1 ≤ t.length ∧ (∀ h, (ByteArray.mk (c :: t).toArray)[1]'h = x1) ∧ ((x1.toNat : Int) == 0) = false ∧ ((((k : Int) == 8) = false) ∨ (((k : Int) == 8) = true ∧ decide ((127 : Int) < (x1.toNat : Int)) = false))) := by
    rcases hcase with h0 | ⟨h1, x1, i1, hx0, hx8⟩
    · exact ⟨0, .inl ⟨by simp; omega, by rw [beq_eq_false_iff_ne]; omega⟩⟩
    · refine ⟨x1, .inr ⟨by simp; omega, by omega, i1, by rw [beq_eq_false_iff_ne]; omega, ?_⟩⟩
      by_cases hk8 : k = 8
      · exact .inr ⟨by rw [beq_iff_eq]; omega, by have := hx8 hk8; simp; omega⟩
      · exact .inl (by rw [beq_eq_false_iff_ne]; omega)
  clear hcase
  obtain ⟨x1, hcase⟩ := hcase2
  have hb1 : (x1.toNat : Int) < 256 := by have := x1.toNat_lt; omega
  rcases hcase with ⟨e1, ek⟩ | ⟨e1, ht1, i1, ez, ek | ⟨ek, e127⟩⟩
  all_goals
    go_enter Tryz.func39, Tryz.ntmps39
    go_wp2
    go_loop [4, 5] (fun n i => ∃ j m : Nat, 1 ≤ j ∧ j ≤ k + 1 ∧ i = .int .i64 j ∧ n = .int .i64 m ∧ Hid (m = Oct.val (t.take (j - 1)))) (fun _ i => k + 1 - (intOf i).toNat)
    case atStart => exact ⟨1, 0, Nat.le_refl _, by omega, rfl, rfl, rfl⟩
    case round =>
      obtain ⟨j, m, hj1, hj2, rfl, rfl, hmm⟩ := hrel
      by_cases hlt : j ≤ k
      · obtain ⟨x, hx, hval, hbd⟩ := HS.out j hj1 hlt
        rw [← hmm.out] at hval hbd
        have HN : Hid (256 * m + x.toNat = Oct.val (t.take (j + 1 - 1))) := Lib.hid (by rw [Nat.add_sub_cancel, ← hval]; omega)
        have hxb : (x.toNat : Int) < 256 := by have := x.toNat_lt; omega
        have hjl : (j : Int) < (t.length : Int) + 1 := by omega
        clear hval
        go_wp2
        go_round
        case rel => exact ⟨j + 1, 256 * m + x.toNat, by omega, by omega, by go_num, by go_num, HN⟩
        case measure => simp [intOf]; omega
      · have HM : Hid (m = Oct.val (t.take k)) := Lib.hid (by rw [hmm.out, show j - 1 = k by omega])
        have hmv : m < 9223372036854775808 := by rw [HM.out]; exact HV.out
        clear hmm
        by_cases hs : 128 ≤ c.toNat
        · have hs' : decide ((127 : Int) < (c.toNat : Int)) = true := by simp; omega
          go_wp2
          go_ret
          exact ⟨ret_int (by rw [HM.out]), Rdr.set0 H.out (t.drop k), only_set (p := ⟨b, 0, none⟩) (World.grownBy.refl w _) (.inl rfl) _⟩
        · have hs' : decide ((127 : Int) < (c.toNat : Int)) = false := by simp; omega
          go_wp2
          go_ret
          exact ⟨ret_int (by rw [HM.out]), Rdr.set0 H.out (t.drop k), only_set (p := ⟨b, 0, none⟩) (World.grownBy.refl w _) (.inl rfl) _⟩

end Go.Proofs.YtdhlebmgeiiejaaGreat
namespace Go.Proofs.YtdhlebmgeiiejaaGreat
open Go.RowKit
set_option linter.unusedVariables false

/-- a bad reader has nothing left -/
def Inv (s : List UInt8) (bad : Bool) : Prop := bad = true → s = []
theorem Inv.oInt {s : List UInt8} {bad : Bool} (h : Inv s bad) : Inv (oInt s bad).s (oInt s bad).bad := by
  unfold Inv _root_.Go.Proofs.YtdhlebmgeiiejaaGreat.oInt
  split
  · intro _; rfl
  · intro hb
    have := h hb
    subst this
    simp
theorem Inv.oCount {s : List UInt8} {bad : Bool} (h : Inv s bad) (most : Int) : Inv (oCount s bad most).s (oCount s bad most).bad := by
  unfold _root_.Go.Proofs.YtdhlebmgeiiejaaGreat.oCount
  split
  · intro _; rfl
  · exact h.oInt
theorem Inv.oText {s : List UInt8} {bad : Bool} (h : Inv s bad) : Inv (oText s bad).s (oText s bad).bad := by
  unfold _root_.Go.Proofs.YtdhlebmgeiiejaaGreat.oText
  split
  · intro _; rfl
  · intro hb
    have := h.oCount 65536 hb
    simp only
    rw [this]; simp

theorem rrInt_any (b : Nat) (s : List UInt8) (bad : Bool) (w : World) (hl : s.length ≤ 140737489351232) (hi : Inv s bad) (h : Rdr 27 b s bad w) :
    Calls Tryz.prog 39 #[.pointer (some ⟨b, 0, none⟩)] w fun e w' => e = .returned (.int .i64 (oInt s bad).n) ∧ Rdr 27 b (oInt s bad).s (oInt s bad).bad w' ∧ w.grownBy w' (some b) := by
  cases bad with
  | true =>
    have hs := hi rfl
    subst hs
    exact rint_bad b [] w h
  | false =>
    match s, hl, h with
    | [], _, h => exact rint_nil b w h
    | c :: t, hl, h =>
      have hl' : t.length ≤ 140737489351232 := by simp at hl; omega
      by_cases hh : low c > 8 ∨ low c > t.length
      · have e : rd (c :: t) = none := by simp only [rd]; rw [if_pos hh]
        have e2 : oInt (c :: t) false = ⟨0, [], true⟩ := oInt_bad _ _ (by simp [rdS, e])
        rw [e2]
        exact rint_head b c t w hl' hh h
      · by_cases hf : fewB (t.take (low c)) = true
        · have e : rd (c :: t) = some (if 128 ≤ c.toNat then -(Oct.val (t.take (low c)) : Int) - 1 else (Oct.val (t.take (low c)) : Int), 1 + low c) := by
            simp only [rd]; rw [if_neg hh, if_neg (by rw [hf]; simp)]
          have e2 : oInt (c :: t) false = ⟨if 128 ≤ c.toNat then -(Oct.val (t.take (low c)) : Int) - 1 else (Oct.val (t.take (low c)) : Int), t.drop (low c), false⟩ := by
            rw [oInt_ok _ _ (by simp [rdS, e])]
            simp only [rdN, rdS, e, Option.elim_some]
            rw [Nat.add_comm 1 (low c), List.drop_succ_cons]
          rw [e2]
          exact rint_ok b c t w hl' (by omega) (by omega) hf h
        · have hf' : fewB (t.take (low c)) = false := by simpa using hf
          have e : rd (c :: t) = none := by simp only [rd]; rw [if_neg hh, if_pos hf']
          have e2 : oInt (c :: t) false = ⟨0, [], true⟩ := oInt_bad _ _ (by simp [rdS, e])
          rw [e2]
          match t, hl', hh, hf', h with
          | [], hl', hh, hf', h => rw [List.take_nil] at hf'; exact absurd hf' (by decide)
          | x :: t', hl', hh, hf', h =>
            by_cases h0 : low c = 0
            · rw [h0, List.take_zero] at hf'; exact absurd hf' (by decide)
            · obtain ⟨k, hk⟩ : ∃ k, low c = k + 1 := ⟨low c - 1, by omega⟩
              simp only [List.length_cons] at hl' hh
              refine rint_digits b c x t' w (by omega) (by omega) (by omega) (by omega) ?_ h
              rw [hk, List.take_succ_cons] at hf'
              have hff : ((x.toNat != 0) && ((t'.take k).length != 7 || decide (x.toNat ≤ 127))) = false := hf'
              have hlk : (t'.take k).length = k := by rw [List.length_take]; omega
              rw [hlk] at hff
              by_cases hx : x.toNat = 0
              · exact .inl hx
              · right
                have h1 : (x.toNat != 0) = true := by rw [bne_iff_ne]; exact hx
                rw [h1, Bool.true_and, Bool.or_eq_false_iff, bne_eq_false_iff_eq, decide_eq_false_iff_not] at hff
                omega

end Go.Proofs.YtdhlebmgeiiejaaGreat
