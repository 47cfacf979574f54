/- The document's own reader answers as octet's. -/
import Derived.Test.YtjkjomnnpfbiiaaOctRd3
namespace Go.Proofs.Ytjkjomnnpfbiiaa
open Go.RowKit
set_option linter.unusedVariables false

/-- a bad reader has nothing left -/
def Inv (s : List UInt8) (bad : Bool) : Prop := bad = true → s = []
theorem Inv.oInt {s : List UInt8} {bad : Bool} (h : Inv s bad) : Inv (oInt s bad).s (oInt s bad).bad := by
  unfold Inv _root_.Go.Proofs.Ytjkjomnnpfbiiaa.oInt
  split
  · intro _; rfl
  · intro hb
    have := h hb
    subst this
    simp
theorem Inv.oCount {s : List UInt8} {bad : Bool} (h : Inv s bad) (most : Int) : Inv (oCount s bad most).s (oCount s bad most).bad := by
  unfold _root_.Go.Proofs.Ytjkjomnnpfbiiaa.oCount
  split
  · intro _; rfl
  · exact h.oInt
theorem Inv.oText {s : List UInt8} {bad : Bool} (h : Inv s bad) : Inv (oText s bad).s (oText s bad).bad := by
  unfold _root_.Go.Proofs.Ytjkjomnnpfbiiaa.oText
  split
  · intro _; rfl
  · intro hb
    have := h.oCount 65536 hb
    simp only
    rw [this]; simp

theorem rrInt_any (b : Nat) (s : List UInt8) (bad : Bool) (w : World) (hl : s.length ≤ 1000000000) (hi : Inv s bad) (h : Rdr 36 b s bad w) :
    Calls Try.prog 17 #[.pointer (some ⟨b, 0, none⟩)] w fun e w' => e = .returned (.int .i64 (oInt s bad).n) ∧ Rdr 36 b (oInt s bad).s (oInt s bad).bad w' ∧ w.grownBy w' (some b) := by
  cases bad with
  | true =>
    have hs := hi rfl
    subst hs
    exact rint_bad b [] w h
  | false =>
    match s, hl, h with
    | [], _, h => exact rint_nil b w h
    | c :: t, hl, h =>
      have hl' : t.length ≤ 1000000000 := by simp at hl; omega
      by_cases hh : low c > 8 ∨ low c > t.length
      · have e : rd (c :: t) = none := by simp only [rd]; rw [if_pos hh]
        have e2 : oInt (c :: t) false = ⟨0, [], true⟩ := oInt_bad _ _ (by simp [rdS, e])
        rw [e2]
        exact rint_head b c t w hl' hh h
      · by_cases hf : fewB (t.take (low c)) = true
        · have e : rd (c :: t) = some (if 128 ≤ c.toNat then -(Oct.val (t.take (low c)) : Int) - 1 else (Oct.val (t.take (low c)) : Int), 1 + low c) := by
            simp only [rd]; rw [if_neg hh, if_neg (by rw [hf]; simp)]
          have e2 : oInt (c :: t) false = ⟨if 128 ≤ c.toNat then -(Oct.val (t.take (low c)) : Int) - 1 else (Oct.val (t.take (low c)) : Int), t.drop (low c), false⟩ := by
            rw [oInt_ok _ _ (by simp [rdS, e])]
            simp only [rdN, rdS, e, Option.elim_some]
            rw [Nat.add_comm 1 (low c), List.drop_succ_cons]
          rw [e2]
          exact rint_ok b c t w hl' (by omega) (by omega) hf h
        · have hf' : fewB (t.take (low c)) = false := by simpa using hf
          have e : rd (c :: t) = none := by simp only [rd]; rw [if_neg hh, if_pos hf']
          have e2 : oInt (c :: t) false = ⟨0, [], true⟩ := oInt_bad _ _ (by simp [rdS, e])
          rw [e2]
          match t, hl', hh, hf', h with
          | [], hl', hh, hf', h => rw [List.take_nil] at hf'; exact absurd hf' (by decide)
          | x :: t', hl', hh, hf', h =>
            by_cases h0 : low c = 0
            · rw [h0, List.take_zero] at hf'; exact absurd hf' (by decide)
            · obtain ⟨k, hk⟩ : ∃ k, low c = k + 1 := ⟨low c - 1, by omega⟩
              simp only [List.length_cons] at hl' hh
              refine rint_digits b c x t' w (by omega) (by omega) (by omega) (by omega) ?_ h
              rw [hk, List.take_succ_cons] at hf'
              have hff : ((x.toNat != 0) && ((t'.take k).length != 7 || decide (x.toNat ≤ 127))) = false := hf'
              have hlk : (t'.take k).length = k := by rw [List.length_take]; omega
              rw [hlk] at hff
              by_cases hx : x.toNat = 0
              · exact .inl hx
              · right
                have h1 : (x.toNat != 0) = true := by rw [bne_iff_ne]; exact hx
                rw [h1, Bool.true_and, Bool.or_eq_false_iff, bne_eq_false_iff_eq, decide_eq_false_iff_not] at hff
                omega

end Go.Proofs.Ytjkjomnnpfbiiaa
