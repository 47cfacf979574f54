/- The document's own reader: Count, Text, Done. -/
import Derived.Test.YtjkjomnnpfbiiaaOctRd4
namespace Go.Proofs.Ytjkjomnnpfbiiaa
open Go.RowKit
set_option linter.unusedVariables false

set_option maxHeartbeats 1000000 in
theorem rrCount_any (b : Nat) (s : List UInt8) (bad : Bool) (most : Int) (w : World) (hl : s.length ≤ 1000000000) (hi : Inv s bad) (h : Rdr 36 b s bad w) :
    Calls Try.prog 21 #[.pointer (some ⟨b, 0, none⟩), .int .i64 most] w fun e w' => e = .returned (.int .i64 (oCount s bad most).n) ∧ Rdr 36 b (oCount s bad most).s (oCount s bad most).bad w' ∧ w.grownBy w' (some b) := by
  have c := rrInt_any b s bad w hl hi h
  obtain ⟨r, hr⟩ : ∃ r, r = oInt s bad := ⟨_, rfl⟩
  rw [← hr] at c
  by_cases hb : r.n < 0 ∨ most < r.n
  · rw [oCount_bad (by rw [← hr]; exact hb)]
    have C := Lib.hid c
    have hd : (decide (r.n < 0) = true) ∨ (decide (r.n < 0) = false ∧ decide (most < r.n) = true) := by
      by_cases hn : r.n < 0
      · exact .inl (by simpa using hn)
      · exact .inr ⟨by simpa using hn, by simp; omega⟩
    clear h c hr hb hi
    rcases hd with hd | ⟨hd, he⟩
    all_goals
      go_enter Try.func21, Try.ntmps21
      go_wp2_with fail
      refine C.out.mono ?_
      rintro e w1 ⟨rfl, h1, hg1⟩
      have H1 := Lib.hid h1
      clear h1
      go_wp2_with fail
      refine (rspoil_any b _ _ _ H1.out).mono ?_
      rintro e w2 ⟨rfl, h2, hg2⟩
      have H2 := Lib.hid h2
      clear h2
      go_wp2
      go_ret
      exact ⟨rfl, H2.out, only_trans hg1 hg2⟩
  · rw [oCount_ok (by rw [← hr]; exact hb), ← hr]
    have h1 : decide (r.n < 0) = false := by simp; omega
    have h2 : decide (most < r.n) = false := by simp; omega
    have C := Lib.hid c
    clear h c hr hb hi
    go_enter Try.func21, Try.ntmps21
    go_wp2_with fail
    refine C.out.mono ?_
    rintro e w1 ⟨rfl, h1, hg1⟩
    have H1 := Lib.hid h1
    clear h1
    go_wp2
    go_ret
    exact ⟨rfl, H1.out, hg1⟩

set_option maxHeartbeats 1000000 in
theorem rrDone_any (b : Nat) (s : List UInt8) (bad : Bool) (w : World) (h : Rdr 36 b s bad w) :
    Calls Try.prog 24 #[.pointer (some ⟨b, 0, none⟩)] w fun e w' => e = .returned (.int .i64 (oDone s bad)) ∧ w = w' := by
  have c0 := h.c0
  have c1 := h.c1
  clear h
  cases bad
  · by_cases hs : s = []
    · subst hs
      go_enter Try.func24, Try.ntmps24
      go_wp2
      go_ret
      exact ⟨rfl, rfl⟩
    · have HE := Lib.hid (show oDone s false = 2 by simp [oDone, hs])
      obtain ⟨c, t, rfl⟩ := List.exists_cons_of_ne_nil hs
      clear hs
      go_enter Try.func24, Try.ntmps24
      go_wp2
      go_ret
      exact ⟨by rw [HE.out]; rfl, rfl⟩
  · go_enter Try.func24, Try.ntmps24
    go_wp2
    go_ret
    exact ⟨rfl, rfl⟩

def TextBad (r : Rd) : Prop := r.bad = true ∨ r.n < 0 ∨ 65536 < r.n ∨ (r.s.length : Int) < r.n
theorem oText_bad {s : List UInt8} {bad : Bool} (hi : Inv s bad) (h : TextBad (oInt s bad)) : oText s bad = ⟨[], [], true⟩ := by
  have hinv := hi.oInt
  unfold oText
  by_cases hc : (oInt s bad).n < 0 ∨ 65536 < (oInt s bad).n
  · rw [oCount_bad hc]; simp
  · rw [oCount_ok hc]
    rcases h with h | h | h | h
    · have hs := hinv h
      rw [hs, h]
      split <;> simp
    · exact absurd (.inl h) hc
    · exact absurd (.inr h) hc
    · rw [if_pos h]
theorem oText_good {s : List UInt8} {bad : Bool} (h : ¬ TextBad (oInt s bad)) : oText s bad = ⟨(oInt s bad).s.take (oInt s bad).n.toNat, (oInt s bad).s.drop (oInt s bad).n.toNat, (oInt s bad).bad⟩ := by
  unfold TextBad at h
  unfold oText
  rw [oCount_ok (by omega), if_neg (by omega)]

set_option maxHeartbeats 2000000 in
set_option maxRecDepth 100000 in
theorem rrText_any (b : Nat) (s : List UInt8) (bad : Bool) (w : World) (hl : s.length ≤ 1000000000) (hi : Inv s bad) (h : Rdr 36 b s bad w) :
    Calls Try.prog 19 #[.pointer (some ⟨b, 0, none⟩)] w fun e w' => e = .returned (.string ⟨(oText s bad).t.toArray⟩) ∧ Rdr 36 b (oText s bad).s (oText s bad).bad w' ∧ w.grownBy w' (some b) := by
  have c := rrInt_any b s bad w hl hi h
  have hrl := oInt_len s bad
  have htb := oText_bad hi
  have htg := @oText_good s bad
  obtain ⟨r, hr⟩ : ∃ r, r = oInt s bad := ⟨_, rfl⟩
  rw [← hr] at c hrl htb htg
  obtain ⟨n, l, bd⟩ := r
  simp only at c hrl
  have C := Lib.hid c
  clear c h hr hi
  by_cases hbad : TextBad ⟨n, l, bd⟩
  · rw [htb hbad]
    clear htb htg
    have hd : bd = true ∨ (bd = false ∧ (decide (n < 0) = true ∨ (decide (n < 0) = false ∧ (decide (65536 < n) = true ∨ (decide (65536 < n) = false ∧ decide ((l.length : Int) < n) = true))))) := by
      unfold TextBad at hbad
      simp only at hbad
      cases bd
      · right
        refine ⟨rfl, ?_⟩
        simp only [decide_eq_true_eq, decide_eq_false_iff_not]
        simp at hbad
        omega
      · exact .inl rfl
    clear hbad
    rcases hd with rfl | ⟨rfl, d1 | ⟨d1, d2 | ⟨d2, d3⟩⟩⟩
    all_goals
      go_enter Try.func19, Try.ntmps19
      go_wp2_with fail
      refine C.out.mono ?_
      rintro e w1 ⟨rfl, h1, hg1⟩
      have c0 := h1.c0
      have c1 := h1.c1
      have H1 := Lib.hid h1
      clear h1
      go_wp2_with fail
      refine (rspoil_any b _ _ _ H1.out).mono ?_
      rintro e w2 ⟨rfl, h2, hg2⟩
      have H2 := Lib.hid h2
      clear h2 c0 c1
      go_wp2
      go_ret
      exact ⟨rfl, H2.out, only_trans hg1 hg2⟩
  · rw [htg hbad]
    simp only
    unfold TextBad at hbad
    simp only at hbad
    have hbf : bd = false := by cases bd <;> simp_all
    subst hbf
    obtain ⟨n, rfl⟩ := Int.eq_ofNat_of_zero_le (show 0 ≤ n by omega)
    have d1 : decide ((n : Int) < 0) = false := by simp
    have d2 : decide ((65536 : Int) < (n : Int)) = false := by simp; omega
    have d3 : decide (l.length < n) = false := by simp; omega
    have hnl : n ≤ l.length := by omega
    simp only [Int.toNat_natCast]
    have hx0 : (ByteArray.mk l.toArray).extract 0 n = ⟨(l.take n).toArray⟩ := by rw [cutb]; simp
    have hx1 : (ByteArray.mk l.toArray).extract n l.length = ⟨(l.drop n).toArray⟩ := by rw [cutb, List.take_of_length_le (by simp)]
    clear htb htg hbad
    go_enter Try.func19, Try.ntmps19
    go_wp2_with fail
    refine C.out.mono ?_
    rintro e w1 ⟨rfl, h1, hg1⟩
    have c0 := h1.c0
    have c1 := h1.c1
    have f0 := h1.f 0
    have H1 := Lib.hid h1
    clear h1
    go_wp2
    go_ret
    refine ⟨rfl, ?_, ?_⟩
    · exact Rdr.set0 H1.out (l.drop n)
    · exact only_set (p := ⟨b, 0, none⟩) hg1 (.inl rfl) _

end Go.Proofs.Ytjkjomnnpfbiiaa
