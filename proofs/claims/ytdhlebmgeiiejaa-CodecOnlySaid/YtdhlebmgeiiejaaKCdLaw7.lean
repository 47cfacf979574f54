/- What is decoded is encoded as it was read. Written by wip/tools/gencdlaw.py. -/
import Derived.Test.YtdhlebmgeiiejaaKDec
import Derived.Test.YtdhlebmgeiiejaaKSame
namespace Go.Proofs.Ytdhlebmgeiiejaa
open Go.RowKit Pz Cd
set_option linter.unusedVariables false
set_option linter.unusedSimpArgs false

set_option maxHeartbeats 16000000 in
set_option maxRecDepth 100000 in
theorem law_only (w : World) (s : List UInt8) (hl : s.length ≤ 140737488351232) : Calls Try.prog 5 #[.string ⟨s.toArray⟩] w fun e w' => e = .returned (.bool true) ∧ Below w.heap.size w w' := by
  have D : Hid (∀ W, Calls Try.prog 16 #[.string ⟨s.toArray⟩] W fun e w' => DecR s W.heap.size e w' ∧ Below W.heap.size W w') := Lib.hid fun W => cdecode_any s (by omega) W
  have AW : Hid (∀ W, Calls Try.prog 13 #[] W fun e w' => e = .returned (.bool true) ∧ Below W.heap.size W w') := Lib.hid fun W => awake_any W
  have SM : Hid (∀ W, Calls Try.prog 17 #[.agg #[.int .i64 0, .int .i64 0, .int .i64 0, .slice none 0 0, .slice none 0 0, .slice none 0 0], .agg #[.int .i64 0, .int .i64 0, .int .i64 0, .slice none 0 0, .slice none 0 0, .slice none 0 0]] W fun e w' => e = .returned (.bool true) ∧ Below W.heap.size W w') := Lib.hid fun W => rsame_msg (m := ⟨0, 0, 0, [], [], []⟩) (msgAt_none 0 0 0 W) (msgAt_none 0 0 0 W)
  go_enter Try.func5, Try.ntmps5
  go_wp2_with fail
  refine (D.out w).mono ?_
  rintro e w1 ⟨hd, hb⟩
  have HB := Lib.hid hb
  clear hb D
  unfold DecR at hd
  cases hdc : decC s with
  | none =>
    rw [hdc] at hd
    simp only [zeroV] at hd
    subst hd
    clear hdc
    have T1 := Lib.hid (at1 w1 (.cells #[.int .i64 0, .int .i64 0, .int .i64 0, .slice none 0 0, .slice none 0 0, .slice none 0 0] MT))
    have hb := bel1 w1 (.cells #[.int .i64 0, .int .i64 0, .int .i64 0, .slice none 0 0, .slice none 0 0, .slice none 0 0] MT)
    go_upto_region 2 with fail
    replace HB := Lib.hid (HB.out.trans (hb.mono HB.out.size))
    generalize w1.alloc (.cells #[.int .i64 0, .int .i64 0, .int .i64 0, .slice none 0 0, .slice none 0 0, .slice none 0 0] MT) = w2 at *
    obtain ⟨⟨k0, k1, k2, k3, k4, k5⟩, _⟩ := Bx.b6 T1.out
    clear hb
    go_wp2_with fail
    refine (SM.out w2).mono ?_
    rintro e w3 ⟨rfl, hb⟩
    replace HB := Lib.hid (HB.out.trans (hb.mono HB.out.size))
    clear hb SM k0 k1 k2 k3 k4 k5 T1
    go_wp2_with fail
    refine (AW.out w3).mono ?_
    rintro e w4 ⟨rfl, hb⟩
    replace HB := Lib.hid (HB.out.trans (hb.mono HB.out.size))
    clear hb AW
    go_wp2
    go_ret
    exact ⟨rfl, HB.out⟩
  | some m =>
    rw [hdc] at hd
    obtain ⟨v, rfl, vc, vb, vi, rfl, hc, hb2, hi⟩ := hd
    obtain ⟨A1, c1, rfl⟩ := hc.form
    obtain ⟨A2, c2, rfl⟩ := hb2.form
    obtain ⟨A3, c3, rfl⟩ := hi.form
    rw [decC_is] at hdc
    obtain ⟨hm, hs⟩ := dec_only hdc
    have mm := (mayM_is m).1 hm
    have MA : MsgAt m A1 A2 A3 w1 := ⟨RdC.of_own hc, RdB.of_own hb2, RdI3.of_own hi, by have := okL_len mm.oc; omega, by have := okL_len mm.ob; omega, by have := okL_len mm.oi; omega⟩
    have EN : Hid (∀ W, Below w1.heap.size w1 W → Calls Try.prog 15 #[msgV m A1 c1 A2 c2 A3 c3] W fun e w' => e = .returned (.tuple #[.string ⟨s.toArray⟩, .int .i64 0]) ∧ Below W.heap.size W w') := Lib.hid fun W hW => by
      have := encode_any (c1 := c1) (c2 := c2) (c3 := c3) (MA.below hW)
      unfold encR at this
      rw [if_pos hm, ← hs] at this
      exact this
    clear hc hb2 hi MA mm hm hs hdc
    obtain ⟨k, t, n, lc, lb, li⟩ := m
    simp only [msgV] at *
    generalize lc.length = l1 at *
    generalize lb.length = l2 at *
    generalize li.length = l3 at *
    generalize s.toArray = sa at *
    have T1 := Lib.hid (at1 w1 (.cells #[.int .i64 k, .int .i64 t, .int .i64 n, .slice A1 l1 c1, .slice A2 l2 c2, .slice A3 l3 c3] MT))
    have HC := Lib.hid (bel1 w1 (.cells #[.int .i64 k, .int .i64 t, .int .i64 n, .slice A1 l1 c1, .slice A2 l2 c2, .slice A3 l3 c3] MT))
    go_upto_region 2 with fail
    replace HB := Lib.hid (HB.out.trans (HC.out.mono HB.out.size))
    generalize w1.alloc (.cells #[.int .i64 k, .int .i64 t, .int .i64 n, .slice A1 l1 c1, .slice A2 l2 c2, .slice A3 l3 c3] MT) = w2 at *
    obtain ⟨⟨k0, k1, k2, k3, k4, k5⟩, _⟩ := Bx.b6 T1.out
    go_wp2_with fail
    refine (EN.out w2 HC.out).mono ?_
    rintro e w3 ⟨rfl, hb⟩
    replace HB := Lib.hid (HB.out.trans (hb.mono HB.out.size))
    clear hb EN HC k0 k1 k2 k3 k4 k5 T1 SM
    go_wp2_with fail
    refine (AW.out w3).mono ?_
    rintro e w4 ⟨rfl, hb⟩
    replace HB := Lib.hid (HB.out.trans (hb.mono HB.out.size))
    clear hb AW
    go_wp2
    go_ret
    exact ⟨rfl, HB.out⟩
end Go.Proofs.Ytdhlebmgeiiejaa
