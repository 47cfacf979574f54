/- The code's codec: may a message be? Written by wip/tools/gencdfit.py. -/
import Derived.Test.YtdhlebmgeiiejaaGreatKCdShape
import Derived.Test.YtdhlebmgeiiejaaGreatKCdMayI
import Derived.Test.YtdhlebmgeiiejaaGreatKCdMayB
import Derived.Test.YtdhlebmgeiiejaaGreatKCdMayC
namespace Go.Proofs.YtdhlebmgeiiejaaGreat
open Go.RowKit Pz Cd
set_option linter.unusedVariables false
set_option linter.unusedSimpArgs false

abbrev MT : TypeId := 59
namespace Cd
def fitsB (m : Mn) : Bool := !(decide (m.k = 7) && decide (m.b.length = 0)) && (timeB (hasT m.k) m.t && (timeB (hasN m.k) m.n && (kC.okL (nC m.k) m.c && (kB.okL (nB m.k) m.b && kID.okL (nI m.k) m.i))))
theorem okL_nil {α : Type} {K : Kind α} {l : List α} (h : K.okL 0 l = true) : l = [] := by
  unfold Kind.okL at h
  rw [Bool.and_eq_true, decide_eq_true_eq] at h
  exact List.length_eq_zero_iff.1 (by omega)
theorem okL_of {α : Type} {K : Kind α} {l : List α} {a b : Int} (hab : a ≤ b) (h : K.okL a l = true) : K.okL b l = true := by
  unfold Kind.okL at h ⊢
  rw [Bool.and_eq_true, decide_eq_true_eq] at h ⊢
  exact ⟨by omega, h.2⟩
theorem okL_none {α : Type} {K : Kind α} {a : Int} (ha : 0 ≤ a) : K.okL a [] = true := by
  unfold Kind.okL
  rw [Bool.and_eq_true, decide_eq_true_eq]
  exact ⟨by simpa using ha, rfl⟩
theorem okL_len {α : Type} {K : Kind α} {l : List α} {a : Int} (h : K.okL a l = true) : (l.length : Int) ≤ a := by
  unfold Kind.okL at h
  rw [Bool.and_eq_true, decide_eq_true_eq] at h
  exact h.1
theorem okL_all {α : Type} {K : Kind α} {l : List α} {a : Int} (h : K.okL a l = true) {b : Int} (hb : (l.length : Int) ≤ b) : K.okL b l = true := by
  unfold Kind.okL at h ⊢
  rw [Bool.and_eq_true] at h ⊢
  exact ⟨by rw [decide_eq_true_eq]; exact hb, h.2⟩
theorem may_fits (m : Mn) : mayM m = (isK m.k && fitsB m) := by
  rw [Bool.eq_iff_iff, mayM_is]
  unfold isK fitsB
  simp only [Bool.and_eq_true, decide_eq_true_eq, Bool.not_eq_true', Bool.and_eq_false_iff, decide_eq_false_iff_not]
  constructor
  · intro h
    refine ⟨⟨h.k1, h.k2⟩, ?_, h.t, h.n, ?_, ?_, ?_⟩
    · by_cases h7 : m.k = 7
      · exact .inr (by rw [h.one h7]; decide)
      · exact .inl h7
    · rcases h.c with e | e
      · rw [e]; unfold nC; split <;> exact okL_none (by decide)
      · unfold nC; rw [if_pos e]; exact h.oc
    · rcases h.b with e | e | e
      · rw [e]; unfold nB; split
        · exact okL_none (by decide)
        · split <;> exact okL_none (by decide)
      · unfold nB; rw [if_pos e]; exact okL_all h.ob (by rw [h.one e]; decide)
      · unfold nB; rw [if_neg (by omega), if_pos e]; exact h.ob
    · rcases h.i with e | e
      · rw [e]; unfold nI; split <;> exact okL_none (by decide)
      · unfold nI; rw [if_pos e]; exact h.oi
  · rintro ⟨⟨h1, h2⟩, h3, h4, h5, h6, h7, h8⟩
    refine ⟨h1, h2, h4, h5, ?_, ?_, ?_, ?_, ?_, ?_, ?_⟩
    · by_cases e : m.k = 1
      · exact .inr e
      · unfold nC at h6; rw [if_neg e] at h6; exact .inl (okL_nil h6)
    · by_cases e : m.k = 7
      · exact .inr (.inl e)
      · by_cases e2 : m.k = 12
        · exact .inr (.inr e2)
        · unfold nB at h7; rw [if_neg e, if_neg e2] at h7; exact .inl (okL_nil h7)
    · by_cases e : m.k = 4
      · exact .inr e
      · unfold nI at h8; rw [if_neg e] at h8; exact .inl (okL_nil h8)
    · exact okL_of (by unfold nC; split <;> decide) h6
    · exact okL_of (by unfold nB; split; decide; split <;> decide) h7
    · exact okL_of (by unfold nI; split <;> decide) h8
    · intro e
      unfold nB at h7
      rw [if_pos e] at h7
      have hl := okL_len h7
      rcases h3 with h3 | h3
      · exact absurd e h3
      · omega
end Cd
/-- a message's value -/
abbrev msgV (m : Mn) (A1 : Option Addr) (c1 : Nat) (A2 : Option Addr) (c2 : Nat) (A3 : Option Addr) (c3 : Nat) : Value := .agg #[.int .i64 m.k, .int .i64 m.t, .int .i64 m.n, .slice A1 m.c.length c1, .slice A2 m.b.length c2, .slice A3 m.i.length c3]
/-- what it reads -/
structure MsgAt (m : Mn) (A1 A2 A3 : Option Addr) (W : World) : Prop where
  c : RdC W W.heap.size A1 m.c
  b : RdB W W.heap.size A2 m.b
  i : RdI3 W W.heap.size A3 m.i
  lc : m.c.length ≤ 140737488351232
  lb : m.b.length ≤ 140737488351232
  li : m.i.length ≤ 140737488351232
theorem MsgAt.below {m : Mn} {A1 A2 A3 : Option Addr} {W W' : World} (h : MsgAt m A1 A2 A3 W) (hb : Below W.heap.size W W') : MsgAt m A1 A2 A3 W' :=
  ⟨(h.c.below hb).more hb.size, (h.b.below hb).more hb.size, (h.i.below hb).more hb.size, h.lc, h.lb, h.li⟩
set_option maxHeartbeats 16000000 in
set_option maxRecDepth 100000 in
theorem fits_any {m : Mn} {A1 A2 A3 : Option Addr} {c1 c2 c3 : Nat} {w : World} (h : MsgAt m A1 A2 A3 w) : Calls Tryz.prog 74 #[shV m.k, msgV m A1 c1 A2 c2 A3 c3] w fun e w' => e = .returned (.bool (fitsB m)) ∧ Below w.heap.size w w' := by
  have N1 := Lib.hid fun W => number_may m.t (hasT m.k) W
  have N2 := Lib.hid fun W => number_may m.n (hasN m.k) W
  have L1 := Lib.hid fun W (hW : MsgAt m A1 A2 A3 W) => clistmay_c (cap := c1) hW.c hW.lc (nC m.k)
  have L2 := Lib.hid fun W (hW : MsgAt m A1 A2 A3 W) => clistmay_b (cap := c2) hW.b hW.lb (nB m.k)
  have L3 := Lib.hid fun W (hW : MsgAt m A1 A2 A3 W) => clistmay_id (cap := c3) hW.i hW.li (nI m.k)
  have HF : Hid (fitsB m = (!(decide (m.k = 7) && decide (m.b.length = 0)) && (timeB (hasT m.k) m.t && (timeB (hasN m.k) m.n && (kC.okL (nC m.k) m.c && (kB.okL (nB m.k) m.b && kID.okL (nI m.k) m.i)))))) := Lib.hid rfl
  generalize kC.okL (nC m.k) m.c = r3 at *
  generalize kB.okL (nB m.k) m.b = r4 at *
  generalize kID.okL (nI m.k) m.i = r5 at *
  generalize timeB (hasT m.k) m.t = r1 at *
  generalize timeB (hasN m.k) m.n = r2 at *
  generalize fitsB m = res at *
  obtain ⟨z7, hz7⟩ : ∃ z, decide (m.k = 7) = z := ⟨_, rfl⟩
  obtain ⟨zb, hzb⟩ : ∃ z, decide (m.b.length = 0) = z := ⟨_, rfl⟩
  have e7 : (m.k == 7) = z7 := by rw [← hz7]; rfl
  have eb : ((m.b.length : Int) == 0) = zb := by rw [← hzb]; exact decide_eq_decide.2 (by omega)
  rw [hz7, hzb] at HF
  clear hz7 hzb
  have MA : Hid (∀ W, Below w.heap.size w W → MsgAt m A1 A2 A3 W) := Lib.hid fun W hW => h.below hW
  clear h
  obtain ⟨k, t, n, lc, lb, li⟩ := m
  simp only [shV, msgV] at *
  generalize hasT k = ht at *
  generalize hasN k = hn at *
  generalize nC k = nc at *
  generalize nB k = nb at *
  generalize nI k = ni at *
  generalize hl1 : lc.length = l1 at *
  generalize hl2 : lb.length = l2 at *
  generalize hl3 : li.length = l3 at *
  clear hl1 hl2 hl3
  have T0 := Lib.hid (at2a w (.cells #[.bool ht, .bool hn, .int .i64 nc, .int .i64 nb, .int .i64 ni] SHT) (.cells #[.int .i64 k, .int .i64 t, .int .i64 n, .slice A1 l1 c1, .slice A2 l2 c2, .slice A3 l3 c3] 59))
  have T1 := Lib.hid (at2b w (.cells #[.bool ht, .bool hn, .int .i64 nc, .int .i64 nb, .int .i64 ni] SHT) (.cells #[.int .i64 k, .int .i64 t, .int .i64 n, .slice A1 l1 c1, .slice A2 l2 c2, .slice A3 l3 c3] 59))
  have BE := Lib.hid (bel2 w (.cells #[.bool ht, .bool hn, .int .i64 nc, .int .i64 nb, .int .i64 ni] SHT) (.cells #[.int .i64 k, .int .i64 t, .int .i64 n, .slice A1 l1 c1, .slice A2 l2 c2, .slice A3 l3 c3] 59))
  cases z7 with
  | true =>
    cases zb with
    | true =>
      go_enter Tryz.func74, Tryz.ntmps74
      go_upto_region 1 with fail
      generalize (w.alloc (.cells #[.bool ht, .bool hn, .int .i64 nc, .int .i64 nb, .int .i64 ni] SHT)).alloc (.cells #[.int .i64 k, .int .i64 t, .int .i64 n, .slice A1 l1 c1, .slice A2 l2 c2, .slice A3 l3 c3] 59) = w1 at *
      obtain ⟨⟨h0, h1, h2, h3, h4⟩, _⟩ := Bx.b5 T0.out
      obtain ⟨⟨m0, m1, m2, m3, m4, m5⟩, _⟩ := Bx.b6 T1.out
      go_wp2
      go_ret
      rw [HF.out]
      exact ⟨rfl, BE.out⟩
    | false =>
      cases r1 with
      | false =>
        go_enter Tryz.func74, Tryz.ntmps74
        go_upto_region 1 with fail
        generalize (w.alloc (.cells #[.bool ht, .bool hn, .int .i64 nc, .int .i64 nb, .int .i64 ni] SHT)).alloc (.cells #[.int .i64 k, .int .i64 t, .int .i64 n, .slice A1 l1 c1, .slice A2 l2 c2, .slice A3 l3 c3] 59) = w1 at *
        obtain ⟨⟨h0, h1, h2, h3, h4⟩, _⟩ := Bx.b5 T0.out
        obtain ⟨⟨m0, m1, m2, m3, m4, m5⟩, _⟩ := Bx.b6 T1.out
        go_wp2_with (go_at_call 101; with_reducible refine (N1.out _).mono ?_; rintro e w' ⟨rfl, rfl⟩; clear N1)
        go_ret
        rw [HF.out]
        exact ⟨rfl, BE.out⟩
      | true =>
        cases r2 with
        | false =>
          go_enter Tryz.func74, Tryz.ntmps74
          go_upto_region 1 with fail
          generalize (w.alloc (.cells #[.bool ht, .bool hn, .int .i64 nc, .int .i64 nb, .int .i64 ni] SHT)).alloc (.cells #[.int .i64 k, .int .i64 t, .int .i64 n, .slice A1 l1 c1, .slice A2 l2 c2, .slice A3 l3 c3] 59) = w1 at *
          obtain ⟨⟨h0, h1, h2, h3, h4⟩, _⟩ := Bx.b5 T0.out
          obtain ⟨⟨m0, m1, m2, m3, m4, m5⟩, _⟩ := Bx.b6 T1.out
          go_wp2_with (first | (go_at_call 101; with_reducible refine (N1.out _).mono ?_; rintro e w' ⟨rfl, rfl⟩; clear N1) | (go_at_call 101; with_reducible refine (N2.out _).mono ?_; rintro e w' ⟨rfl, rfl⟩; clear N2))
          go_ret
          rw [HF.out]
          exact ⟨rfl, BE.out⟩
        | true =>
          cases r3 with
          | false =>
            go_enter Tryz.func74, Tryz.ntmps74
            go_upto_region 1 with fail
            generalize (w.alloc (.cells #[.bool ht, .bool hn, .int .i64 nc, .int .i64 nb, .int .i64 ni] SHT)).alloc (.cells #[.int .i64 k, .int .i64 t, .int .i64 n, .slice A1 l1 c1, .slice A2 l2 c2, .slice A3 l3 c3] 59) = w1 at *
            obtain ⟨⟨h0, h1, h2, h3, h4⟩, _⟩ := Bx.b5 T0.out
            obtain ⟨⟨m0, m1, m2, m3, m4, m5⟩, _⟩ := Bx.b6 T1.out
            go_wp2_with (first | (go_at_call 101; with_reducible refine (N1.out _).mono ?_; rintro e w' ⟨rfl, rfl⟩; clear N1) | (go_at_call 101; with_reducible refine (N2.out _).mono ?_; rintro e w' ⟨rfl, rfl⟩; clear N2) | (go_at_call 102; refine (L1.out _ (MA.out _ BE.out)).mono ?_; rintro e w3 ⟨rfl, hb⟩; replace BE := Lib.hid (BE.out.trans (hb.mono BE.out.size)); replace T0 := Lib.hid ((hb.block _ (lt_of_row T0.out)).trans T0.out); replace T1 := Lib.hid ((hb.block _ (lt_of_row T1.out)).trans T1.out); clear h0 h1 h2 h3 h4 m0 m1 m2 m3 m4 m5; obtain ⟨⟨h0, h1, h2, h3, h4⟩, _⟩ := Bx.b5 T0.out; obtain ⟨⟨m0, m1, m2, m3, m4, m5⟩, _⟩ := Bx.b6 T1.out; clear hb; clear L1))
            go_ret
            rw [HF.out]
            exact ⟨rfl, BE.out⟩
          | true =>
            cases r4 with
            | false =>
              go_enter Tryz.func74, Tryz.ntmps74
              go_upto_region 1 with fail
              generalize (w.alloc (.cells #[.bool ht, .bool hn, .int .i64 nc, .int .i64 nb, .int .i64 ni] SHT)).alloc (.cells #[.int .i64 k, .int .i64 t, .int .i64 n, .slice A1 l1 c1, .slice A2 l2 c2, .slice A3 l3 c3] 59) = w1 at *
              obtain ⟨⟨h0, h1, h2, h3, h4⟩, _⟩ := Bx.b5 T0.out
              obtain ⟨⟨m0, m1, m2, m3, m4, m5⟩, _⟩ := Bx.b6 T1.out
              go_wp2_with (first | (go_at_call 101; with_reducible refine (N1.out _).mono ?_; rintro e w' ⟨rfl, rfl⟩; clear N1) | (go_at_call 101; with_reducible refine (N2.out _).mono ?_; rintro e w' ⟨rfl, rfl⟩; clear N2) | (go_at_call 102; refine (L1.out _ (MA.out _ BE.out)).mono ?_; rintro e w3 ⟨rfl, hb⟩; replace BE := Lib.hid (BE.out.trans (hb.mono BE.out.size)); replace T0 := Lib.hid ((hb.block _ (lt_of_row T0.out)).trans T0.out); replace T1 := Lib.hid ((hb.block _ (lt_of_row T1.out)).trans T1.out); clear h0 h1 h2 h3 h4 m0 m1 m2 m3 m4 m5; obtain ⟨⟨h0, h1, h2, h3, h4⟩, _⟩ := Bx.b5 T0.out; obtain ⟨⟨m0, m1, m2, m3, m4, m5⟩, _⟩ := Bx.b6 T1.out; clear hb; clear L1) | (go_at_call 103; refine (L2.out _ (MA.out _ BE.out)).mono ?_; rintro e w4 ⟨rfl, hb⟩; replace BE := Lib.hid (BE.out.trans (hb.mono BE.out.size)); replace T0 := Lib.hid ((hb.block _ (lt_of_row T0.out)).trans T0.out); replace T1 := Lib.hid ((hb.block _ (lt_of_row T1.out)).trans T1.out); clear h0 h1 h2 h3 h4 m0 m1 m2 m3 m4 m5; obtain ⟨⟨h0, h1, h2, h3, h4⟩, _⟩ := Bx.b5 T0.out; obtain ⟨⟨m0, m1, m2, m3, m4, m5⟩, _⟩ := Bx.b6 T1.out; clear hb; clear L2))
              go_ret
              rw [HF.out]
              exact ⟨rfl, BE.out⟩
            | true =>
              go_enter Tryz.func74, Tryz.ntmps74
              go_upto_region 1 with fail
              generalize (w.alloc (.cells #[.bool ht, .bool hn, .int .i64 nc, .int .i64 nb, .int .i64 ni] SHT)).alloc (.cells #[.int .i64 k, .int .i64 t, .int .i64 n, .slice A1 l1 c1, .slice A2 l2 c2, .slice A3 l3 c3] 59) = w1 at *
              obtain ⟨⟨h0, h1, h2, h3, h4⟩, _⟩ := Bx.b5 T0.out
              obtain ⟨⟨m0, m1, m2, m3, m4, m5⟩, _⟩ := Bx.b6 T1.out
              go_wp2_with (first | (go_at_call 101; with_reducible refine (N1.out _).mono ?_; rintro e w' ⟨rfl, rfl⟩; clear N1) | (go_at_call 101; with_reducible refine (N2.out _).mono ?_; rintro e w' ⟨rfl, rfl⟩; clear N2) | (go_at_call 102; refine (L1.out _ (MA.out _ BE.out)).mono ?_; rintro e w3 ⟨rfl, hb⟩; replace BE := Lib.hid (BE.out.trans (hb.mono BE.out.size)); replace T0 := Lib.hid ((hb.block _ (lt_of_row T0.out)).trans T0.out); replace T1 := Lib.hid ((hb.block _ (lt_of_row T1.out)).trans T1.out); clear h0 h1 h2 h3 h4 m0 m1 m2 m3 m4 m5; obtain ⟨⟨h0, h1, h2, h3, h4⟩, _⟩ := Bx.b5 T0.out; obtain ⟨⟨m0, m1, m2, m3, m4, m5⟩, _⟩ := Bx.b6 T1.out; clear hb; clear L1) | (go_at_call 103; refine (L2.out _ (MA.out _ BE.out)).mono ?_; rintro e w4 ⟨rfl, hb⟩; replace BE := Lib.hid (BE.out.trans (hb.mono BE.out.size)); replace T0 := Lib.hid ((hb.block _ (lt_of_row T0.out)).trans T0.out); replace T1 := Lib.hid ((hb.block _ (lt_of_row T1.out)).trans T1.out); clear h0 h1 h2 h3 h4 m0 m1 m2 m3 m4 m5; obtain ⟨⟨h0, h1, h2, h3, h4⟩, _⟩ := Bx.b5 T0.out; obtain ⟨⟨m0, m1, m2, m3, m4, m5⟩, _⟩ := Bx.b6 T1.out; clear hb; clear L2) | (go_at_call 104; refine (L3.out _ (MA.out _ BE.out)).mono ?_; rintro e w5 ⟨rfl, hb⟩; replace BE := Lib.hid (BE.out.trans (hb.mono BE.out.size)); replace T0 := Lib.hid ((hb.block _ (lt_of_row T0.out)).trans T0.out); replace T1 := Lib.hid ((hb.block _ (lt_of_row T1.out)).trans T1.out); clear h0 h1 h2 h3 h4 m0 m1 m2 m3 m4 m5; obtain ⟨⟨h0, h1, h2, h3, h4⟩, _⟩ := Bx.b5 T0.out; obtain ⟨⟨m0, m1, m2, m3, m4, m5⟩, _⟩ := Bx.b6 T1.out; clear hb; clear L3))
              go_ret
              rw [HF.out]
              exact ⟨rfl, BE.out⟩
  | false =>
    cases r1 with
    | false =>
      go_enter Tryz.func74, Tryz.ntmps74
      go_upto_region 1 with fail
      generalize (w.alloc (.cells #[.bool ht, .bool hn, .int .i64 nc, .int .i64 nb, .int .i64 ni] SHT)).alloc (.cells #[.int .i64 k, .int .i64 t, .int .i64 n, .slice A1 l1 c1, .slice A2 l2 c2, .slice A3 l3 c3] 59) = w1 at *
      obtain ⟨⟨h0, h1, h2, h3, h4⟩, _⟩ := Bx.b5 T0.out
      obtain ⟨⟨m0, m1, m2, m3, m4, m5⟩, _⟩ := Bx.b6 T1.out
      go_wp2_with (go_at_call 101; with_reducible refine (N1.out _).mono ?_; rintro e w' ⟨rfl, rfl⟩; clear N1)
      go_ret
      rw [HF.out]
      exact ⟨rfl, BE.out⟩
    | true =>
      cases r2 with
      | false =>
        go_enter Tryz.func74, Tryz.ntmps74
        go_upto_region 1 with fail
        generalize (w.alloc (.cells #[.bool ht, .bool hn, .int .i64 nc, .int .i64 nb, .int .i64 ni] SHT)).alloc (.cells #[.int .i64 k, .int .i64 t, .int .i64 n, .slice A1 l1 c1, .slice A2 l2 c2, .slice A3 l3 c3] 59) = w1 at *
        obtain ⟨⟨h0, h1, h2, h3, h4⟩, _⟩ := Bx.b5 T0.out
        obtain ⟨⟨m0, m1, m2, m3, m4, m5⟩, _⟩ := Bx.b6 T1.out
        go_wp2_with (first | (go_at_call 101; with_reducible refine (N1.out _).mono ?_; rintro e w' ⟨rfl, rfl⟩; clear N1) | (go_at_call 101; with_reducible refine (N2.out _).mono ?_; rintro e w' ⟨rfl, rfl⟩; clear N2))
        go_ret
        rw [HF.out]
        exact ⟨rfl, BE.out⟩
      | true =>
        cases r3 with
        | false =>
          go_enter Tryz.func74, Tryz.ntmps74
          go_upto_region 1 with fail
          generalize (w.alloc (.cells #[.bool ht, .bool hn, .int .i64 nc, .int .i64 nb, .int .i64 ni] SHT)).alloc (.cells #[.int .i64 k, .int .i64 t, .int .i64 n, .slice A1 l1 c1, .slice A2 l2 c2, .slice A3 l3 c3] 59) = w1 at *
          obtain ⟨⟨h0, h1, h2, h3, h4⟩, _⟩ := Bx.b5 T0.out
          obtain ⟨⟨m0, m1, m2, m3, m4, m5⟩, _⟩ := Bx.b6 T1.out
          go_wp2_with (first | (go_at_call 101; with_reducible refine (N1.out _).mono ?_; rintro e w' ⟨rfl, rfl⟩; clear N1) | (go_at_call 101; with_reducible refine (N2.out _).mono ?_; rintro e w' ⟨rfl, rfl⟩; clear N2) | (go_at_call 102; refine (L1.out _ (MA.out _ BE.out)).mono ?_; rintro e w3 ⟨rfl, hb⟩; replace BE := Lib.hid (BE.out.trans (hb.mono BE.out.size)); replace T0 := Lib.hid ((hb.block _ (lt_of_row T0.out)).trans T0.out); replace T1 := Lib.hid ((hb.block _ (lt_of_row T1.out)).trans T1.out); clear h0 h1 h2 h3 h4 m0 m1 m2 m3 m4 m5; obtain ⟨⟨h0, h1, h2, h3, h4⟩, _⟩ := Bx.b5 T0.out; obtain ⟨⟨m0, m1, m2, m3, m4, m5⟩, _⟩ := Bx.b6 T1.out; clear hb; clear L1))
          go_ret
          rw [HF.out]
          exact ⟨rfl, BE.out⟩
        | true =>
          cases r4 with
          | false =>
            go_enter Tryz.func74, Tryz.ntmps74
            go_upto_region 1 with fail
            generalize (w.alloc (.cells #[.bool ht, .bool hn, .int .i64 nc, .int .i64 nb, .int .i64 ni] SHT)).alloc (.cells #[.int .i64 k, .int .i64 t, .int .i64 n, .slice A1 l1 c1, .slice A2 l2 c2, .slice A3 l3 c3] 59) = w1 at *
            obtain ⟨⟨h0, h1, h2, h3, h4⟩, _⟩ := Bx.b5 T0.out
            obtain ⟨⟨m0, m1, m2, m3, m4, m5⟩, _⟩ := Bx.b6 T1.out
            go_wp2_with (first | (go_at_call 101; with_reducible refine (N1.out _).mono ?_; rintro e w' ⟨rfl, rfl⟩; clear N1) | (go_at_call 101; with_reducible refine (N2.out _).mono ?_; rintro e w' ⟨rfl, rfl⟩; clear N2) | (go_at_call 102; refine (L1.out _ (MA.out _ BE.out)).mono ?_; rintro e w3 ⟨rfl, hb⟩; replace BE := Lib.hid (BE.out.trans (hb.mono BE.out.size)); replace T0 := Lib.hid ((hb.block _ (lt_of_row T0.out)).trans T0.out); replace T1 := Lib.hid ((hb.block _ (lt_of_row T1.out)).trans T1.out); clear h0 h1 h2 h3 h4 m0 m1 m2 m3 m4 m5; obtain ⟨⟨h0, h1, h2, h3, h4⟩, _⟩ := Bx.b5 T0.out; obtain ⟨⟨m0, m1, m2, m3, m4, m5⟩, _⟩ := Bx.b6 T1.out; clear hb; clear L1) | (go_at_call 103; refine (L2.out _ (MA.out _ BE.out)).mono ?_; rintro e w4 ⟨rfl, hb⟩; replace BE := Lib.hid (BE.out.trans (hb.mono BE.out.size)); replace T0 := Lib.hid ((hb.block _ (lt_of_row T0.out)).trans T0.out); replace T1 := Lib.hid ((hb.block _ (lt_of_row T1.out)).trans T1.out); clear h0 h1 h2 h3 h4 m0 m1 m2 m3 m4 m5; obtain ⟨⟨h0, h1, h2, h3, h4⟩, _⟩ := Bx.b5 T0.out; obtain ⟨⟨m0, m1, m2, m3, m4, m5⟩, _⟩ := Bx.b6 T1.out; clear hb; clear L2))
            go_ret
            rw [HF.out]
            exact ⟨rfl, BE.out⟩
          | true =>
            go_enter Tryz.func74, Tryz.ntmps74
            go_upto_region 1 with fail
            generalize (w.alloc (.cells #[.bool ht, .bool hn, .int .i64 nc, .int .i64 nb, .int .i64 ni] SHT)).alloc (.cells #[.int .i64 k, .int .i64 t, .int .i64 n, .slice A1 l1 c1, .slice A2 l2 c2, .slice A3 l3 c3] 59) = w1 at *
            obtain ⟨⟨h0, h1, h2, h3, h4⟩, _⟩ := Bx.b5 T0.out
            obtain ⟨⟨m0, m1, m2, m3, m4, m5⟩, _⟩ := Bx.b6 T1.out
            go_wp2_with (first | (go_at_call 101; with_reducible refine (N1.out _).mono ?_; rintro e w' ⟨rfl, rfl⟩; clear N1) | (go_at_call 101; with_reducible refine (N2.out _).mono ?_; rintro e w' ⟨rfl, rfl⟩; clear N2) | (go_at_call 102; refine (L1.out _ (MA.out _ BE.out)).mono ?_; rintro e w3 ⟨rfl, hb⟩; replace BE := Lib.hid (BE.out.trans (hb.mono BE.out.size)); replace T0 := Lib.hid ((hb.block _ (lt_of_row T0.out)).trans T0.out); replace T1 := Lib.hid ((hb.block _ (lt_of_row T1.out)).trans T1.out); clear h0 h1 h2 h3 h4 m0 m1 m2 m3 m4 m5; obtain ⟨⟨h0, h1, h2, h3, h4⟩, _⟩ := Bx.b5 T0.out; obtain ⟨⟨m0, m1, m2, m3, m4, m5⟩, _⟩ := Bx.b6 T1.out; clear hb; clear L1) | (go_at_call 103; refine (L2.out _ (MA.out _ BE.out)).mono ?_; rintro e w4 ⟨rfl, hb⟩; replace BE := Lib.hid (BE.out.trans (hb.mono BE.out.size)); replace T0 := Lib.hid ((hb.block _ (lt_of_row T0.out)).trans T0.out); replace T1 := Lib.hid ((hb.block _ (lt_of_row T1.out)).trans T1.out); clear h0 h1 h2 h3 h4 m0 m1 m2 m3 m4 m5; obtain ⟨⟨h0, h1, h2, h3, h4⟩, _⟩ := Bx.b5 T0.out; obtain ⟨⟨m0, m1, m2, m3, m4, m5⟩, _⟩ := Bx.b6 T1.out; clear hb; clear L2) | (go_at_call 104; refine (L3.out _ (MA.out _ BE.out)).mono ?_; rintro e w5 ⟨rfl, hb⟩; replace BE := Lib.hid (BE.out.trans (hb.mono BE.out.size)); replace T0 := Lib.hid ((hb.block _ (lt_of_row T0.out)).trans T0.out); replace T1 := Lib.hid ((hb.block _ (lt_of_row T1.out)).trans T1.out); clear h0 h1 h2 h3 h4 m0 m1 m2 m3 m4 m5; obtain ⟨⟨h0, h1, h2, h3, h4⟩, _⟩ := Bx.b5 T0.out; obtain ⟨⟨m0, m1, m2, m3, m4, m5⟩, _⟩ := Bx.b6 T1.out; clear hb; clear L3))
            go_ret
            rw [HF.out]
            exact ⟨rfl, BE.out⟩
end Go.Proofs.YtdhlebmgeiiejaaGreat
