/- Any message may be or not, and has the document's bytes, as the document says. Written by wip/tools/gencdlaw4.py. -/
import Derived.Test.YtdhlebmgeiiejaaGreatKDec
import Derived.Test.YtdhlebmgeiiejaaGreatKCdREnc
namespace Go.Proofs.YtdhlebmgeiiejaaGreat
open Go.RowKit Pz Cd
set_option linter.unusedVariables false
set_option linter.unusedSimpArgs false

set_option maxHeartbeats 16000000 in
set_option maxRecDepth 100000 in
theorem law_msgs (w : World) (m : Mn) (A1 A2 A3 : Option Addr) (c1 c2 c3 : Nat) (MA : MsgAt m A1 A2 A3 w) (MF : MFit m) : Calls Tryz.prog 5 #[msgV m A1 c1 A2 c2 A3 c3] w fun e w' => e = .returned (.bool true) ∧ Below w.heap.size w w' := by
  have AW : Hid (∀ W, Calls Tryz.prog 7 #[] W fun e w' => e = .returned (.bool true) ∧ Below W.heap.size W w') := Lib.hid fun W => awake_any W
  have LG : Hid (∀ W, Calls Tryz.prog 28 #[msgV m A1 c1 A2 c2 A3 c3] W fun e w' => e = .returned (.bool (longB m)) ∧ Below W.heap.size W w') := Lib.hid fun W => long_any m A1 A2 A3 c1 c2 c3 W
  have EN : Hid (∀ W, Below w.heap.size w W → Calls Tryz.prog 29 #[msgV m A1 c1 A2 c2 A3 c3] W fun e w' => e = .returned (encR m) ∧ Below W.heap.size W w') := Lib.hid fun W hW => encode_any (MA.below hW)
  have RE : Hid (∀ W, Below w.heap.size w W → Calls Tryz.prog 30 #[msgV m A1 c1 A2 c2 A3 c3] W fun e w' => e = .returned (encR m) ∧ Below W.heap.size W w') := Lib.hid fun W hW => rencode_any (MA.below hW) MF
  have CM : Hid (∀ W, Below w.heap.size w W → Calls Tryz.prog 31 #[msgV m A1 c1 A2 c2 A3 c3] W fun e w' => e = .returned (.int .i64 (errB (mayM m))) ∧ Below W.heap.size W w') := Lib.hid fun W hW => checkmsg_any (MA.below hW)
  have HL : longB m = true → mayM m = false := long_may
  unfold encR at EN RE
  clear MA MF
  generalize encM m = em at *
  obtain ⟨lg, hlg⟩ : ∃ x, longB m = x := ⟨_, rfl⟩
  rw [hlg] at LG HL
  clear hlg
  obtain ⟨my, hmy⟩ : ∃ x, mayM m = x := ⟨_, rfl⟩
  rw [hmy] at EN RE CM HL
  clear hmy
  obtain ⟨k, t, n, lc, lb, li⟩ := m
  simp only [msgV] at *
  generalize lc.length = l1 at *
  generalize lb.length = l2 at *
  generalize li.length = l3 at *
  have T1 := Lib.hid (at1 w (.cells #[.int .i64 k, .int .i64 t, .int .i64 n, .slice A1 l1 c1, .slice A2 l2 c2, .slice A3 l3 c3] MT))
  have HB := Lib.hid (bel1 w (.cells #[.int .i64 k, .int .i64 t, .int .i64 n, .slice A1 l1 c1, .slice A2 l2 c2, .slice A3 l3 c3] MT))
  go_enter Tryz.func5, Tryz.ntmps5
  go_upto_region 1 with fail
  generalize w.alloc (.cells #[.int .i64 k, .int .i64 t, .int .i64 n, .slice A1 l1 c1, .slice A2 l2 c2, .slice A3 l3 c3] MT) = w1 at *
  obtain ⟨⟨m0, m1, m2, m3, m4, m5⟩, _⟩ := Bx.b6 T1.out
  go_wp2_with fail
  refine (LG.out w1).mono ?_
  rintro e w2 ⟨rfl, hb⟩
  replace T1 := Lib.hid ((hb.block _ (lt_of_row T1.out)).trans T1.out)
  replace HB := Lib.hid (HB.out.trans (hb.mono HB.out.size))
  clear hb m0 m1 m2 m3 m4 m5 LG
  cases lg with
  | true =>
    obtain rfl := HL rfl
    rw [if_neg (by decide)] at EN
    clear RE CM HL
    obtain ⟨⟨m0, m1, m2, m3, m4, m5⟩, _⟩ := Bx.b6 T1.out
    go_wp2_with fail
    refine (EN.out w2 HB.out).mono ?_
    rintro e w3 ⟨rfl, hb⟩
    replace T1 := Lib.hid ((hb.block _ (lt_of_row T1.out)).trans T1.out)
    replace HB := Lib.hid (HB.out.trans (hb.mono HB.out.size))
    clear hb m0 m1 m2 m3 m4 m5 EN
    go_wp2_with fail
    refine (AW.out w3).mono ?_
    rintro e w4 ⟨rfl, hb⟩
    replace HB := Lib.hid (HB.out.trans (hb.mono HB.out.size))
    clear hb AW
    go_wp2
    go_ret
    exact ⟨rfl, HB.out⟩
  | false =>
    clear HL
    cases my with
    | false =>
      rw [if_neg (by decide)] at EN RE
      rw [show errB false = 1 from rfl] at CM
      obtain ⟨⟨m0, m1, m2, m3, m4, m5⟩, _⟩ := Bx.b6 T1.out
      go_wp2_with fail
      refine (EN.out w2 HB.out).mono ?_
      rintro e w3 ⟨rfl, hb⟩
      replace T1 := Lib.hid ((hb.block _ (lt_of_row T1.out)).trans T1.out)
      replace HB := Lib.hid (HB.out.trans (hb.mono HB.out.size))
      clear hb m0 m1 m2 m3 m4 m5 EN
      obtain ⟨⟨m0, m1, m2, m3, m4, m5⟩, _⟩ := Bx.b6 T1.out
      go_wp2_with fail
      refine (RE.out w3 HB.out).mono ?_
      rintro e w4 ⟨rfl, hb⟩
      replace T1 := Lib.hid ((hb.block _ (lt_of_row T1.out)).trans T1.out)
      replace HB := Lib.hid (HB.out.trans (hb.mono HB.out.size))
      clear hb m0 m1 m2 m3 m4 m5 RE
      obtain ⟨⟨m0, m1, m2, m3, m4, m5⟩, _⟩ := Bx.b6 T1.out
      go_wp2_with fail
      refine (CM.out w4 HB.out).mono ?_
      rintro e w5 ⟨rfl, hb⟩
      replace T1 := Lib.hid ((hb.block _ (lt_of_row T1.out)).trans T1.out)
      replace HB := Lib.hid (HB.out.trans (hb.mono HB.out.size))
      clear hb m0 m1 m2 m3 m4 m5 CM
      go_wp2_with fail
      refine (AW.out w5).mono ?_
      rintro e w6 ⟨rfl, hb⟩
      replace HB := Lib.hid (HB.out.trans (hb.mono HB.out.size))
      clear hb AW
      go_wp2
      go_ret
      exact ⟨rfl, HB.out⟩
    | true =>
      rw [if_pos rfl] at EN RE
      rw [show errB true = 0 from rfl] at CM
      obtain ⟨⟨m0, m1, m2, m3, m4, m5⟩, _⟩ := Bx.b6 T1.out
      go_wp2_with fail
      refine (EN.out w2 HB.out).mono ?_
      rintro e w3 ⟨rfl, hb⟩
      replace T1 := Lib.hid ((hb.block _ (lt_of_row T1.out)).trans T1.out)
      replace HB := Lib.hid (HB.out.trans (hb.mono HB.out.size))
      clear hb m0 m1 m2 m3 m4 m5 EN
      obtain ⟨⟨m0, m1, m2, m3, m4, m5⟩, _⟩ := Bx.b6 T1.out
      go_wp2_with fail
      refine (RE.out w3 HB.out).mono ?_
      rintro e w4 ⟨rfl, hb⟩
      replace T1 := Lib.hid ((hb.block _ (lt_of_row T1.out)).trans T1.out)
      replace HB := Lib.hid (HB.out.trans (hb.mono HB.out.size))
      clear hb m0 m1 m2 m3 m4 m5 RE
      obtain ⟨⟨m0, m1, m2, m3, m4, m5⟩, _⟩ := Bx.b6 T1.out
      go_wp2_with fail
      refine (CM.out w4 HB.out).mono ?_
      rintro e w5 ⟨rfl, hb⟩
      replace T1 := Lib.hid ((hb.block _ (lt_of_row T1.out)).trans T1.out)
      replace HB := Lib.hid (HB.out.trans (hb.mono HB.out.size))
      clear hb m0 m1 m2 m3 m4 m5 CM
      go_wp2_with fail
      refine (AW.out w5).mono ?_
      rintro e w6 ⟨rfl, hb⟩
      replace HB := Lib.hid (HB.out.trans (hb.mono HB.out.size))
      clear hb AW
      go_wp2
      go_ret
      exact ⟨rfl, HB.out⟩
end Go.Proofs.YtdhlebmgeiiejaaGreat
