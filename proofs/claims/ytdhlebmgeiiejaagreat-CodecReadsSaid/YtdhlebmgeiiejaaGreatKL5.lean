/- CdRDec, CdLaw5, in one text. -/
import Derived.Test.YtdhlebmgeiiejaaGreatKCdRDa
import Derived.Test.YtdhlebmgeiiejaaGreatKCdRDb
import Derived.Test.YtdhlebmgeiiejaaGreatKCdRDc
import Derived.Test.YtdhlebmgeiiejaaGreatKDec
import Derived.Test.YtdhlebmgeiiejaaGreatKSame
namespace Go.Proofs.YtdhlebmgeiiejaaGreat
open Go.RowKit Pz Cd
set_option linter.unusedVariables false
set_option linter.unusedSimpArgs false

theorem rdecode_any (s : List UInt8) (hl : s.length ≤ 140737488351232) (w : World) : Calls Tryz.prog 33 #[.string ⟨s.toArray⟩] w fun e w' => DecR s w.heap.size e w' ∧ Below w.heap.size w w' := by
  by_cases h1 : (tInt (Rr.of s)).1 = 1
  · exact rdecode_1 s hl w h1
  · by_cases h4 : (tInt (Rr.of s)).1 = 4
    · exact rdecode_3 s hl w h4
    · by_cases h7 : (tInt (Rr.of s)).1 = 7
      · exact rdecode_4 s hl w h7
      · by_cases h12 : (tInt (Rr.of s)).1 = 12
        · exact rdecode_6 s hl w h12
        · cases e1 : hasT (tInt (Rr.of s)).1 with
          | true =>
            refine rdecode_2 s hl w h1 h4 h7 h12 e1 ?_
            unfold hasT at e1
            unfold hasN
            simp at e1 ⊢
            omega
          | false =>
            cases e2 : hasN (tInt (Rr.of s)).1 with
            | true => exact rdecode_5 s hl w h1 h4 h7 h12 e1 e2
            | false => exact rdecode_7 s hl w h1 h4 h7 h12 e1 e2
end Go.Proofs.YtdhlebmgeiiejaaGreat
namespace Go.Proofs.YtdhlebmgeiiejaaGreat
open Go.RowKit Pz Cd
set_option linter.unusedVariables false
set_option linter.unusedSimpArgs false

set_option maxHeartbeats 16000000 in
set_option maxRecDepth 100000 in
theorem law_reads (w : World) (s : List UInt8) (hl : s.length ≤ 140737488351232) : Calls Tryz.prog 6 #[.string ⟨s.toArray⟩] w fun e w' => e = .returned (.bool true) ∧ Below w.heap.size w w' := by
  have AW : Hid (∀ W, Calls Tryz.prog 7 #[] W fun e w' => e = .returned (.bool true) ∧ Below W.heap.size W w') := Lib.hid fun W => awake_any W
  have D1 : Hid (∀ W, Calls Tryz.prog 32 #[.string ⟨s.toArray⟩] W fun e w' => DecR s W.heap.size e w' ∧ Below W.heap.size W w') := Lib.hid fun W => cdecode_any s (by omega) W
  have D2 : Hid (∀ W, Calls Tryz.prog 33 #[.string ⟨s.toArray⟩] W fun e w' => DecR s W.heap.size e w' ∧ Below W.heap.size W w') := Lib.hid fun W => rdecode_any s hl W
  have SZ : Hid (∀ W, Calls Tryz.prog 34 #[.agg #[.int .i64 0, .int .i64 0, .int .i64 0, .slice none 0 0, .slice none 0 0, .slice none 0 0], .agg #[.int .i64 0, .int .i64 0, .int .i64 0, .slice none 0 0, .slice none 0 0, .slice none 0 0]] W fun e w' => e = .returned (.bool true) ∧ Below W.heap.size W w') := Lib.hid fun W => rsame_msg (m := ⟨0, 0, 0, [], [], []⟩) (msgAt_none 0 0 0 W) (msgAt_none 0 0 0 W)
  obtain ⟨z, hz⟩ : ∃ z, decide (5000 < s.length) = z := ⟨_, rfl⟩
  have hz2 : decide ((s.length : Int) > 5000) = z := by rw [← hz]; exact decide_eq_decide.2 (by omega)
  unfold DecR at D1 D2
  have HDM : ∀ m, decC s = some m → mayM m = true := fun m h => by rw [decC_is] at h; exact (dec_only h).1
  cases z with
  | true =>
    clear D1 D2 SZ HDM
    go_enter Tryz.func6, Tryz.ntmps6
    go_wp2_with fail
    refine (AW.out w).mono ?_
    rintro e w1 ⟨rfl, hb⟩
    go_wp2
    go_ret
    exact ⟨rfl, hb⟩
  | false =>
    cases hdc : decC s with
    | none =>
      simp only [hdc, zeroV] at D1 D2
      clear hdc HDM
      go_enter Tryz.func6, Tryz.ntmps6
      go_wp2_with fail
      refine (D1.out w).mono ?_
      rintro e w1 ⟨rfl, hb⟩
      have HB := Lib.hid hb
      clear hb D1
      have T1 := Lib.hid (at1 w1 (.cells #[.int .i64 0, .int .i64 0, .int .i64 0, .slice none 0 0, .slice none 0 0, .slice none 0 0] MT))
      have hb := bel1 w1 (.cells #[.int .i64 0, .int .i64 0, .int .i64 0, .slice none 0 0, .slice none 0 0, .slice none 0 0] MT)
      go_upto_region 4 with fail
      replace HB := Lib.hid (HB.out.trans (hb.mono HB.out.size))
      clear hb
      generalize w1.alloc (.cells #[.int .i64 0, .int .i64 0, .int .i64 0, .slice none 0 0, .slice none 0 0, .slice none 0 0] MT) = w2 at *
      generalize w1.heap.size = o1 at *
      go_wp2_with fail
      refine (D2.out w2).mono ?_
      rintro e w3 ⟨rfl, hb⟩
      replace T1 := Lib.hid ((hb.block _ (lt_of_row T1.out)).trans T1.out)
      replace HB := Lib.hid (HB.out.trans (hb.mono HB.out.size))
      clear hb D2
      have T2 := Lib.hid (at1 w3 (.cells #[.int .i64 0, .int .i64 0, .int .i64 0, .slice none 0 0, .slice none 0 0, .slice none 0 0] MT))
      have hb := bel1 w3 (.cells #[.int .i64 0, .int .i64 0, .int .i64 0, .slice none 0 0, .slice none 0 0, .slice none 0 0] MT)
      go_upto_region 5 with fail
      replace T1 := Lib.hid ((hb.block _ (lt_of_row T1.out)).trans T1.out)
      replace HB := Lib.hid (HB.out.trans (hb.mono HB.out.size))
      clear hb
      generalize w3.alloc (.cells #[.int .i64 0, .int .i64 0, .int .i64 0, .slice none 0 0, .slice none 0 0, .slice none 0 0] MT) = w4 at *
      generalize w3.heap.size = o2 at *
      obtain ⟨⟨k0, k1, k2, k3, k4, k5⟩, _⟩ := Bx.b6 T1.out
      obtain ⟨⟨m0, m1, m2, m3, m4, m5⟩, _⟩ := Bx.b6 T2.out
      go_wp2_with fail
      refine (SZ.out w4).mono ?_
      rintro e w5 ⟨rfl, hb⟩
      replace HB := Lib.hid (HB.out.trans (hb.mono HB.out.size))
      clear hb SZ k0 k1 k2 k3 k4 k5 m0 m1 m2 m3 m4 m5 T1 T2
      go_wp2_with fail
      refine (AW.out w5).mono ?_
      rintro e w6 ⟨rfl, hb⟩
      replace HB := Lib.hid (HB.out.trans (hb.mono HB.out.size))
      clear hb AW
      go_wp2
      go_ret
      exact ⟨rfl, HB.out⟩
    | some m =>
      simp only [hdc] at D1 D2
      have mm := (mayM_is m).1 (HDM m hdc)
      have z1 := okL_len mm.oc
      have z2 := okL_len mm.ob
      have z3 := okL_len mm.oi
      clear hdc HDM mm SZ
      have SM : Hid (∀ W Ba Bb A1 A2 A3 d1 d2 d3 B1 B2 B3 f1 f2 f3, (OwnC W Ba (.slice A1 m.c.length d1) m.c ∧ OwnB W Ba (.slice A2 m.b.length d2) m.b ∧ OwnN W Ba (.slice A3 m.i.length d3) m.i) → (OwnC W Bb (.slice B1 m.c.length f1) m.c ∧ OwnB W Bb (.slice B2 m.b.length f2) m.b ∧ OwnN W Bb (.slice B3 m.i.length f3) m.i) → Calls Tryz.prog 34 #[msgV m A1 d1 A2 d2 A3 d3, msgV m B1 f1 B2 f2 B3 f3] W fun e w' => e = .returned (.bool true) ∧ Below W.heap.size W w') := Lib.hid fun W Ba Bb A1 A2 A3 d1 d2 d3 B1 B2 B3 f1 f2 f3 h1 h2 =>
        rsame_msg (m := m) ⟨RdC.of_own h1.1, RdB.of_own h1.2.1, RdI3.of_own h1.2.2, by omega, by omega, by omega⟩ ⟨RdC.of_own h2.1, RdB.of_own h2.2.1, RdI3.of_own h2.2.2, by omega, by omega, by omega⟩
      have E1 : Hid (∀ W, Calls Tryz.prog 32 #[.string ⟨s.toArray⟩] W fun e w' => (∃ A1 A2 A3 d1 d2 d3, e = .returned (.tuple #[msgV m A1 d1 A2 d2 A3 d3, .int .i64 0]) ∧ (OwnC w' W.heap.size (.slice A1 m.c.length d1) m.c ∧ OwnB w' W.heap.size (.slice A2 m.b.length d2) m.b ∧ OwnN w' W.heap.size (.slice A3 m.i.length d3) m.i)) ∧ Below W.heap.size W w') := Lib.hid fun W => (D1.out W).mono fun e w' ⟨⟨v, he, vc, vb, vi, hv, hc, hb, hi⟩, hB⟩ => by
        obtain ⟨A1, d1, rfl⟩ := hc.form
        obtain ⟨A2, d2, rfl⟩ := hb.form
        obtain ⟨A3, d3, rfl⟩ := hi.form
        subst hv
        exact ⟨⟨A1, A2, A3, d1, d2, d3, he, hc, hb, hi⟩, hB⟩
      have E2 : Hid (∀ W, Calls Tryz.prog 33 #[.string ⟨s.toArray⟩] W fun e w' => (∃ A1 A2 A3 d1 d2 d3, e = .returned (.tuple #[msgV m A1 d1 A2 d2 A3 d3, .int .i64 0]) ∧ (OwnC w' W.heap.size (.slice A1 m.c.length d1) m.c ∧ OwnB w' W.heap.size (.slice A2 m.b.length d2) m.b ∧ OwnN w' W.heap.size (.slice A3 m.i.length d3) m.i)) ∧ Below W.heap.size W w') := Lib.hid fun W => (D2.out W).mono fun e w' ⟨⟨v, he, vc, vb, vi, hv, hc, hb, hi⟩, hB⟩ => by
        obtain ⟨A1, d1, rfl⟩ := hc.form
        obtain ⟨A2, d2, rfl⟩ := hb.form
        obtain ⟨A3, d3, rfl⟩ := hi.form
        subst hv
        exact ⟨⟨A1, A2, A3, d1, d2, d3, he, hc, hb, hi⟩, hB⟩
      clear D1 D2 z1 z2 z3
      have OB : ∀ (W W' : World) (B : Nat) (A1 A2 A3 : Option Addr) (d1 d2 d3 : Nat), (OwnC W B (.slice A1 m.c.length d1) m.c ∧ OwnB W B (.slice A2 m.b.length d2) m.b ∧ OwnN W B (.slice A3 m.i.length d3) m.i) → Below W.heap.size W W' → (OwnC W' B (.slice A1 m.c.length d1) m.c ∧ OwnB W' B (.slice A2 m.b.length d2) m.b ∧ OwnN W' B (.slice A3 m.i.length d3) m.i) := fun W W' B A1 A2 A3 d1 d2 d3 h hb => ⟨h.1.below hb, h.2.1.below hb, h.2.2.below hb⟩
      obtain ⟨PO, hPO⟩ : ∃ PO : World → Nat → Option Addr → Option Addr → Option Addr → Nat → Nat → Nat → Prop, PO = fun W B A1 A2 A3 d1 d2 d3 => (OwnC W B (.slice A1 m.c.length d1) m.c ∧ OwnB W B (.slice A2 m.b.length d2) m.b ∧ OwnN W B (.slice A3 m.i.length d3) m.i) := ⟨_, rfl⟩
      replace SM : Hid (∀ W Ba Bb A1 A2 A3 d1 d2 d3 B1 B2 B3 f1 f2 f3, PO W Ba A1 A2 A3 d1 d2 d3 → PO W Bb B1 B2 B3 f1 f2 f3 → Calls Tryz.prog 34 #[msgV m A1 d1 A2 d2 A3 d3, msgV m B1 f1 B2 f2 B3 f3] W fun e w' => e = .returned (.bool true) ∧ Below W.heap.size W w') := by rw [hPO]; exact SM
      replace E1 : Hid (∀ W, Calls Tryz.prog 32 #[.string ⟨s.toArray⟩] W fun e w' => (∃ A1 A2 A3 d1 d2 d3, e = .returned (.tuple #[msgV m A1 d1 A2 d2 A3 d3, .int .i64 0]) ∧ PO w' W.heap.size A1 A2 A3 d1 d2 d3) ∧ Below W.heap.size W w') := by rw [hPO]; exact E1
      replace E2 : Hid (∀ W, Calls Tryz.prog 33 #[.string ⟨s.toArray⟩] W fun e w' => (∃ A1 A2 A3 d1 d2 d3, e = .returned (.tuple #[msgV m A1 d1 A2 d2 A3 d3, .int .i64 0]) ∧ PO w' W.heap.size A1 A2 A3 d1 d2 d3) ∧ Below W.heap.size W w') := by rw [hPO]; exact E2
      replace OB : Hid (∀ (W W' : World) (B : Nat) (A1 A2 A3 : Option Addr) (d1 d2 d3 : Nat), PO W B A1 A2 A3 d1 d2 d3 → Below W.heap.size W W' → PO W' B A1 A2 A3 d1 d2 d3) := by rw [hPO]; exact Lib.hid OB
      clear hPO
      obtain ⟨k, t, n, lc, lb, li⟩ := m
      simp only [msgV] at *
      generalize lc.length = l1 at *
      generalize lb.length = l2 at *
      generalize li.length = l3 at *
      go_enter Tryz.func6, Tryz.ntmps6
      go_wp2_with fail
      refine (E1.out w).mono ?_
      rintro e w1 ⟨⟨A1, A2, A3, d1, d2, d3, rfl, ao⟩, hb⟩
      have HB := Lib.hid hb
      clear hb E1
      have T1 := Lib.hid (at1 w1 (.cells #[.int .i64 k, .int .i64 t, .int .i64 n, .slice A1 l1 d1, .slice A2 l2 d2, .slice A3 l3 d3] MT))
      have hb := bel1 w1 (.cells #[.int .i64 k, .int .i64 t, .int .i64 n, .slice A1 l1 d1, .slice A2 l2 d2, .slice A3 l3 d3] MT)
      go_upto_region 4 with fail
      replace HB := Lib.hid (HB.out.trans (hb.mono HB.out.size))
      replace ao := Lib.hid (OB.out _ _ _ _ _ _ _ _ _ ao hb)
      clear hb
      generalize w1.alloc (.cells #[.int .i64 k, .int .i64 t, .int .i64 n, .slice A1 l1 d1, .slice A2 l2 d2, .slice A3 l3 d3] MT) = w2 at *
      generalize w1.heap.size = o1 at *
      go_wp2_with fail
      refine (E2.out w2).mono ?_
      rintro e w3 ⟨⟨B1, B2, B3, f1, f2, f3, rfl, bo⟩, hb⟩
      replace T1 := Lib.hid ((hb.block _ (lt_of_row T1.out)).trans T1.out)
      replace HB := Lib.hid (HB.out.trans (hb.mono HB.out.size))
      replace ao := Lib.hid (OB.out _ _ _ _ _ _ _ _ _ ao.out hb)
      clear hb E2
      have T2 := Lib.hid (at1 w3 (.cells #[.int .i64 k, .int .i64 t, .int .i64 n, .slice B1 l1 f1, .slice B2 l2 f2, .slice B3 l3 f3] MT))
      have hb := bel1 w3 (.cells #[.int .i64 k, .int .i64 t, .int .i64 n, .slice B1 l1 f1, .slice B2 l2 f2, .slice B3 l3 f3] MT)
      go_upto_region 5 with fail
      replace T1 := Lib.hid ((hb.block _ (lt_of_row T1.out)).trans T1.out)
      replace HB := Lib.hid (HB.out.trans (hb.mono HB.out.size))
      replace ao := Lib.hid (OB.out _ _ _ _ _ _ _ _ _ ao.out hb)
      replace bo := Lib.hid (OB.out _ _ _ _ _ _ _ _ _ bo hb)
      clear hb
      generalize w3.alloc (.cells #[.int .i64 k, .int .i64 t, .int .i64 n, .slice B1 l1 f1, .slice B2 l2 f2, .slice B3 l3 f3] MT) = w4 at *
      generalize w3.heap.size = o2 at *
      obtain ⟨⟨k0, k1, k2, k3, k4, k5⟩, _⟩ := Bx.b6 T1.out
      obtain ⟨⟨m0, m1, m2, m3, m4, m5⟩, _⟩ := Bx.b6 T2.out
      go_wp2_with fail
      refine (SM.out w4 _ _ _ _ _ _ _ _ _ _ _ _ _ _ ao.out bo.out).mono ?_
      rintro e w5 ⟨rfl, hb⟩
      replace HB := Lib.hid (HB.out.trans (hb.mono HB.out.size))
      clear hb SM ao bo OB k0 k1 k2 k3 k4 k5 m0 m1 m2 m3 m4 m5 T1 T2
      go_wp2_with fail
      refine (AW.out w5).mono ?_
      rintro e w6 ⟨rfl, hb⟩
      replace HB := Lib.hid (HB.out.trans (hb.mono HB.out.size))
      clear hb AW
      go_wp2
      go_ret
      exact ⟨rfl, HB.out⟩
end Go.Proofs.YtdhlebmgeiiejaaGreat
