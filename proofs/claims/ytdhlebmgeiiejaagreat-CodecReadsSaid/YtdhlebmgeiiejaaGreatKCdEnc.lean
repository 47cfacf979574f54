/- The code's codec: messages are checked and laid. Written by wip/tools/gencdenc.py. -/
import Derived.Test.YtdhlebmgeiiejaaGreatKCdFits
import Derived.Test.YtdhlebmgeiiejaaGreatKCdListI
import Derived.Test.YtdhlebmgeiiejaaGreatKCdListB
import Derived.Test.YtdhlebmgeiiejaaGreatKCdListC
namespace Go.Proofs.YtdhlebmgeiiejaaGreat
open Go.RowKit Pz Cd
set_option linter.unusedVariables false
set_option linter.unusedSimpArgs false

set_option maxHeartbeats 16000000 in
set_option maxRecDepth 100000 in
theorem checkmsg_any {m : Mn} {A1 A2 A3 : Option Addr} {c1 c2 c3 : Nat} {w : World} (h : MsgAt m A1 A2 A3 w) : Calls Tryz.prog 31 #[msgV m A1 c1 A2 c2 A3 c3] w fun e w' => e = .returned (.int .i64 (errB (mayM m))) ∧ Below w.heap.size w w' := by
  have SH := Lib.hid fun W => shape_any m.k W
  have FT := Lib.hid fun W (hW : MsgAt m A1 A2 A3 W) => fits_any (c1 := c1) (c2 := c2) (c3 := c3) hW
  have HM := Lib.hid (may_fits m)
  have MA : Hid (∀ W, Below w.heap.size w W → MsgAt m A1 A2 A3 W) := Lib.hid fun W hW => h.below hW
  clear h
  generalize fitsB m = rf at *
  generalize mayM m = rm at *
  obtain ⟨k, t, n, lc, lb, li⟩ := m
  simp only [shV, msgV] at *
  generalize isK k = rk at *
  generalize hasT k = ht at *
  generalize hasN k = hn at *
  generalize nC k = nc at *
  generalize nB k = nb at *
  generalize nI k = ni at *
  generalize hl1 : lc.length = l1 at *
  generalize hl2 : lb.length = l2 at *
  generalize hl3 : li.length = l3 at *
  clear hl1 hl2 hl3
  have T1 := Lib.hid (at1 w (.cells #[.int .i64 k, .int .i64 t, .int .i64 n, .slice A1 l1 c1, .slice A2 l2 c2, .slice A3 l3 c3] MT))
  have BE := Lib.hid (bel1 w (.cells #[.int .i64 k, .int .i64 t, .int .i64 n, .slice A1 l1 c1, .slice A2 l2 c2, .slice A3 l3 c3] MT))
  cases rk with
  | false =>
    go_enter Tryz.func31, Tryz.ntmps31
    go_upto_region 1 with fail
    generalize w.alloc (.cells #[.int .i64 k, .int .i64 t, .int .i64 n, .slice A1 l1 c1, .slice A2 l2 c2, .slice A3 l3 c3] MT) = w1 at *
    obtain ⟨⟨m0, m1, m2, m3, m4, m5⟩, _⟩ := Bx.b6 T1.out
    go_wp2_with fail
    refine (SH.out _).mono ?_
    rintro e w2 ⟨rfl, hb⟩
    replace BE := Lib.hid (BE.out.trans (hb.mono BE.out.size))
    replace T1 := Lib.hid ((hb.block _ (lt_of_row T1.out)).trans T1.out)
    clear hb m0 m1 m2 m3 m4 m5 SH
    go_upto_region 2 with fail
    have T0 := Lib.hid (at1 w2 (.cells #[.bool ht, .bool hn, .int .i64 nc, .int .i64 nb, .int .i64 ni] SHT))
    have hb := bel1 w2 (.cells #[.bool ht, .bool hn, .int .i64 nc, .int .i64 nb, .int .i64 ni] SHT)
    replace BE := Lib.hid (BE.out.trans (hb.mono BE.out.size))
    replace T1 := Lib.hid ((hb.block _ (lt_of_row T1.out)).trans T1.out)
    clear hb
    generalize w2.alloc (.cells #[.bool ht, .bool hn, .int .i64 nc, .int .i64 nb, .int .i64 ni] SHT) = w3 at *
    generalize w2.heap.size = o1 at *
    have HM2 : Hid (errB rm = 1) := Lib.hid (by rw [HM.out]; rfl)
    go_wp2
    go_ret
    rw [HM2.out]
    exact ⟨rfl, BE.out⟩
  | true =>
    go_enter Tryz.func31, Tryz.ntmps31
    go_upto_region 1 with fail
    generalize w.alloc (.cells #[.int .i64 k, .int .i64 t, .int .i64 n, .slice A1 l1 c1, .slice A2 l2 c2, .slice A3 l3 c3] MT) = w1 at *
    obtain ⟨⟨m0, m1, m2, m3, m4, m5⟩, _⟩ := Bx.b6 T1.out
    go_wp2_with fail
    refine (SH.out _).mono ?_
    rintro e w2 ⟨rfl, hb⟩
    replace BE := Lib.hid (BE.out.trans (hb.mono BE.out.size))
    replace T1 := Lib.hid ((hb.block _ (lt_of_row T1.out)).trans T1.out)
    clear hb m0 m1 m2 m3 m4 m5 SH
    go_upto_region 2 with fail
    have T0 := Lib.hid (at1 w2 (.cells #[.bool ht, .bool hn, .int .i64 nc, .int .i64 nb, .int .i64 ni] SHT))
    have hb := bel1 w2 (.cells #[.bool ht, .bool hn, .int .i64 nc, .int .i64 nb, .int .i64 ni] SHT)
    replace BE := Lib.hid (BE.out.trans (hb.mono BE.out.size))
    replace T1 := Lib.hid ((hb.block _ (lt_of_row T1.out)).trans T1.out)
    clear hb
    generalize w2.alloc (.cells #[.bool ht, .bool hn, .int .i64 nc, .int .i64 nb, .int .i64 ni] SHT) = w3 at *
    generalize w2.heap.size = o1 at *
    obtain ⟨⟨h0, h1, h2, h3, h4⟩, _⟩ := Bx.b5 T0.out
    obtain ⟨⟨m0, m1, m2, m3, m4, m5⟩, _⟩ := Bx.b6 T1.out
    go_wp2_with fail
    refine (FT.out _ (MA.out _ BE.out)).mono ?_
    rintro e w4 ⟨rfl, hb⟩
    replace BE := Lib.hid (BE.out.trans (hb.mono BE.out.size))
    clear hb h0 h1 h2 h3 h4 m0 m1 m2 m3 m4 m5 FT T0 T1 MA
    cases rf with
    | false =>
      have HM2 : Hid (errB rm = 1) := Lib.hid (by rw [HM.out]; rfl)
      go_wp2
      go_ret
      rw [HM2.out]
      exact ⟨rfl, BE.out⟩
    | true =>
      have HM2 : Hid (errB rm = 0) := Lib.hid (by rw [HM.out]; rfl)
      go_wp2
      go_ret
      rw [HM2.out]
      exact ⟨rfl, BE.out⟩
set_option maxHeartbeats 16000000 in
set_option maxRecDepth 100000 in
theorem encode_no {m : Mn} {A1 A2 A3 : Option Addr} {c1 c2 c3 : Nat} {w : World} (h : MsgAt m A1 A2 A3 w) (hm : mayM m = false) : Calls Tryz.prog 29 #[msgV m A1 c1 A2 c2 A3 c3] w fun e w' => e = .returned (.tuple #[.string ⟨#[]⟩, .int .i64 1]) ∧ Below w.heap.size w w' := by
  have CM : Hid (∀ W, MsgAt m A1 A2 A3 W → Calls Tryz.prog 31 #[msgV m A1 c1 A2 c2 A3 c3] W fun e w' => e = .returned (.int .i64 (errB (mayM m))) ∧ Below W.heap.size W w') := Lib.hid fun W hW => checkmsg_any hW
  rw [hm] at CM
  have MA : Hid (∀ W, Below w.heap.size w W → MsgAt m A1 A2 A3 W) := Lib.hid fun W hW => h.below hW
  clear h hm
  rw [show errB false = 1 from rfl] at CM
  obtain ⟨k, t, n, lc, lb, li⟩ := m
  simp only [msgV] at *
  generalize hl1 : lc.length = l1 at *
  generalize hl2 : lb.length = l2 at *
  generalize hl3 : li.length = l3 at *
  clear hl1 hl2 hl3
  have T1 := Lib.hid (at1 w (.cells #[.int .i64 k, .int .i64 t, .int .i64 n, .slice A1 l1 c1, .slice A2 l2 c2, .slice A3 l3 c3] MT))
  have BE := Lib.hid (bel1 w (.cells #[.int .i64 k, .int .i64 t, .int .i64 n, .slice A1 l1 c1, .slice A2 l2 c2, .slice A3 l3 c3] MT))
  go_enter Tryz.func29, Tryz.ntmps29
  go_upto_region 1 with fail
  generalize w.alloc (.cells #[.int .i64 k, .int .i64 t, .int .i64 n, .slice A1 l1 c1, .slice A2 l2 c2, .slice A3 l3 c3] MT) = w1 at *
  obtain ⟨⟨m0, m1, m2, m3, m4, m5⟩, _⟩ := Bx.b6 T1.out
  go_wp2_with fail
  refine (CM.out _ (MA.out _ BE.out)).mono ?_
  rintro e w2 ⟨rfl, hb⟩
  replace BE := Lib.hid (BE.out.trans (hb.mono BE.out.size))
  clear hb m0 m1 m2 m3 m4 m5 CM T1 MA
  go_wp2
  go_ret2
  exact ⟨rfl, BE.out⟩
namespace Cd
def optL (b : Bool) (l : List UInt8) : List UInt8 := if b then l else []
end Cd
theorem enc_bd (x : Int) : (Oct.enc x).length ≤ 9 := Oct.enc_length_le x
set_option maxHeartbeats 16000000 in
set_option maxRecDepth 100000 in
theorem encode_1 {m : Mn} {A1 A2 A3 : Option Addr} {c1 c2 c3 : Nat} {w : World} (h : MsgAt m A1 A2 A3 w) (hm : mayM m = true) (hk : m.k = 1) : Calls Tryz.prog 29 #[msgV m A1 c1 A2 c2 A3 c3] w fun e w' => e = .returned (.tuple #[.string ⟨(encM m).toArray⟩, .int .i64 0]) ∧ Below w.heap.size w w' := by
  have CM : Hid (∀ W, MsgAt m A1 A2 A3 W → Calls Tryz.prog 31 #[msgV m A1 c1 A2 c2 A3 c3] W fun e w' => e = .returned (.int .i64 (errB (mayM m))) ∧ Below W.heap.size W w') := Lib.hid fun W hW => checkmsg_any hW
  rw [hm] at CM
  have MA : Hid (∀ W, Below w.heap.size w W → MsgAt m A1 A2 A3 W) := Lib.hid fun W hW => h.below hW
  rw [show errB true = 0 from rfl] at CM
  have MM := (mayM_is m).1 hm
  have e1 : hasT m.k = true := by rw [hk]; rfl
  have e2 : hasN m.k = false := by rw [hk]; rfl
  have e3 : nC m.k = 64 := by rw [hk]; rfl
  have e4 : nB m.k = 0 := by rw [hk]; rfl
  have e5 : nI m.k = 0 := by rw [hk]; rfl
  have fk : FitN m.k := ⟨by have := MM.k1; omega, by have := MM.k2; omega⟩
  have fn : FitN m.t := (time_fit MM.t).1 e1
  have hlen : m.c.length ≤ 1024 := by have := okL_len MM.oc; omega
  have HE : Hid (encM m = Oct.enc m.k ++ (Oct.enc m.t ++ kC.putL m.c)) := Lib.hid (by unfold encM lists optP; rw [e1, e2]; simp [hk, List.append_assoc])
  have CL : Hid (∀ W, MsgAt m A1 A2 A3 W → Calls Tryz.prog 65 #[.func (.func 66) #[] #[], .slice A1 m.c.length c1] W fun e w' => e = .returned (.string ⟨(kC.putL m.c).toArray⟩) ∧ Below W.heap.size W w') := Lib.hid fun W hW => clist_c (cap := c1) hW.c (by omega)
  have hpl : (kC.putL m.c).length ≤ 1000000 := by unfold Kind.putL; rw [List.length_append]; have := puts_len_c m.c; have := enc_bd (m.c.length : Int); omega
  have S2 := cd_sum (Oct.enc m.k ++ Oct.enc m.t) (kC.putL m.c) (by rw [List.length_append]; have := enc_bd m.k; have := enc_bd m.t; omega)
  have S1 := cd_sum (Oct.enc m.k) (Oct.enc m.t) (by have := enc_bd m.k; have := enc_bd m.t; omega)
  have C0 := Lib.hid fun W => clay1 m.k fk W
  have C1 := Lib.hid fun W => clay1 m.t fn W
  have SH := Lib.hid fun W => shape_any m.k W
  simp only [shV] at SH
  rw [e1, e2, e3, e4, e5] at SH
  clear h hm MM fk fn e1 e2 e3 e4 e5 hk hpl hlen
  generalize encM m = em at *
  generalize kC.putL m.c = pl at *
  generalize isK m.k = rk at *
  generalize Oct.enc m.k = ek at *
  generalize Oct.enc m.t = et at *
  obtain ⟨k, t, n, lc, lb, li⟩ := m
  simp only [msgV] at *
  generalize hl1 : lc.length = l1 at *
  generalize hl2 : lb.length = l2 at *
  generalize hl3 : li.length = l3 at *
  clear hl1 hl2 hl3
  have T1 := Lib.hid (at1 w (.cells #[.int .i64 k, .int .i64 t, .int .i64 n, .slice A1 l1 c1, .slice A2 l2 c2, .slice A3 l3 c3] MT))
  have BE := Lib.hid (bel1 w (.cells #[.int .i64 k, .int .i64 t, .int .i64 n, .slice A1 l1 c1, .slice A2 l2 c2, .slice A3 l3 c3] MT))
  go_enter Tryz.func29, Tryz.ntmps29
  go_upto_region 1 with fail
  generalize w.alloc (.cells #[.int .i64 k, .int .i64 t, .int .i64 n, .slice A1 l1 c1, .slice A2 l2 c2, .slice A3 l3 c3] MT) = w1 at *
  obtain ⟨⟨m0, m1, m2, m3, m4, m5⟩, _⟩ := Bx.b6 T1.out
  go_wp2_with fail
  refine (CM.out _ (MA.out _ BE.out)).mono ?_
  rintro e w2 ⟨rfl, hb⟩
  replace BE := Lib.hid (BE.out.trans (hb.mono BE.out.size))
  replace T1 := Lib.hid ((hb.block _ (lt_of_row T1.out)).trans T1.out)
  clear hb m0 m1 m2 m3 m4 m5 CM
  obtain ⟨⟨m0, m1, m2, m3, m4, m5⟩, _⟩ := Bx.b6 T1.out
  go_wp2_with fail
  refine (SH.out _).mono ?_
  rintro e w3 ⟨rfl, hb⟩
  replace BE := Lib.hid (BE.out.trans (hb.mono BE.out.size))
  replace T1 := Lib.hid ((hb.block _ (lt_of_row T1.out)).trans T1.out)
  clear hb m0 m1 m2 m3 m4 m5 SH
  go_upto_region 5 with fail
  have T0 := Lib.hid (at1 w3 (.cells #[.bool true, .bool false, .int .i64 64, .int .i64 0, .int .i64 0] SHT))
  have hb := bel1 w3 (.cells #[.bool true, .bool false, .int .i64 64, .int .i64 0, .int .i64 0] SHT)
  replace BE := Lib.hid (BE.out.trans (hb.mono BE.out.size))
  replace T1 := Lib.hid ((hb.block _ (lt_of_row T1.out)).trans T1.out)
  clear hb
  generalize w3.alloc (.cells #[.bool true, .bool false, .int .i64 64, .int .i64 0, .int .i64 0] SHT) = w4 at *
  generalize w3.heap.size = o1 at *
  obtain ⟨⟨h0, h1, h2, h3, h4⟩, _⟩ := Bx.b5 T0.out
  obtain ⟨⟨m0, m1, m2, m3, m4, m5⟩, _⟩ := Bx.b6 T1.out
  go_wp2_with fail
  with_reducible refine (C0.out _).mono ?_
  rintro e w5 ⟨rfl, hb⟩
  replace BE := Lib.hid (BE.out.trans (hb.mono BE.out.size))
  replace T1 := Lib.hid ((hb.block _ (lt_of_row T1.out)).trans T1.out)
  replace T0 := Lib.hid ((hb.block _ (lt_of_row T0.out)).trans T0.out)
  clear hb h0 h1 h2 h3 h4 m0 m1 m2 m3 m4 m5 C0
  obtain ⟨⟨h0, h1, h2, h3, h4⟩, _⟩ := Bx.b5 T0.out
  obtain ⟨⟨m0, m1, m2, m3, m4, m5⟩, _⟩ := Bx.b6 T1.out
  go_wp2_with fail
  with_reducible refine (C1.out _).mono ?_
  rintro e w6 ⟨rfl, hb⟩
  replace BE := Lib.hid (BE.out.trans (hb.mono BE.out.size))
  replace T1 := Lib.hid ((hb.block _ (lt_of_row T1.out)).trans T1.out)
  replace T0 := Lib.hid ((hb.block _ (lt_of_row T0.out)).trans T0.out)
  clear hb h0 h1 h2 h3 h4 m0 m1 m2 m3 m4 m5 C1
  obtain ⟨⟨h0, h1, h2, h3, h4⟩, _⟩ := Bx.b5 T0.out
  obtain ⟨⟨m0, m1, m2, m3, m4, m5⟩, _⟩ := Bx.b6 T1.out
  go_wp2_with fail
  refine (CL.out _ (MA.out _ BE.out)).mono ?_
  rintro e w7 ⟨rfl, hb⟩
  replace BE := Lib.hid (BE.out.trans (hb.mono BE.out.size))
  replace T1 := Lib.hid ((hb.block _ (lt_of_row T1.out)).trans T1.out)
  replace T0 := Lib.hid ((hb.block _ (lt_of_row T0.out)).trans T0.out)
  clear hb h0 h1 h2 h3 h4 m0 m1 m2 m3 m4 m5 CL
  obtain ⟨⟨h0, h1, h2, h3, h4⟩, _⟩ := Bx.b5 T0.out
  obtain ⟨⟨m0, m1, m2, m3, m4, m5⟩, _⟩ := Bx.b6 T1.out
  go_wp2
  go_ret2
  rw [HE.out]
  exact ⟨rfl, BE.out⟩
set_option maxHeartbeats 16000000 in
set_option maxRecDepth 100000 in
theorem encode_2 {m : Mn} {A1 A2 A3 : Option Addr} {c1 c2 c3 : Nat} {w : World} (h : MsgAt m A1 A2 A3 w) (hm : mayM m = true) (hk : m.k = 2 ∨ m.k = 3 ∨ m.k = 5 ∨ m.k = 6 ∨ m.k = 11) : Calls Tryz.prog 29 #[msgV m A1 c1 A2 c2 A3 c3] w fun e w' => e = .returned (.tuple #[.string ⟨(encM m).toArray⟩, .int .i64 0]) ∧ Below w.heap.size w w' := by
  have CM : Hid (∀ W, MsgAt m A1 A2 A3 W → Calls Tryz.prog 31 #[msgV m A1 c1 A2 c2 A3 c3] W fun e w' => e = .returned (.int .i64 (errB (mayM m))) ∧ Below W.heap.size W w') := Lib.hid fun W hW => checkmsg_any hW
  rw [hm] at CM
  have MA : Hid (∀ W, Below w.heap.size w W → MsgAt m A1 A2 A3 W) := Lib.hid fun W hW => h.below hW
  rw [show errB true = 0 from rfl] at CM
  have MM := (mayM_is m).1 hm
  have e1 : hasT m.k = true := by rcases hk with hk | hk | hk | hk | hk <;> (rw [hk]; rfl)
  have e2 : hasN m.k = false := by rcases hk with hk | hk | hk | hk | hk <;> (rw [hk]; rfl)
  have e3 : nC m.k = 0 := by rcases hk with hk | hk | hk | hk | hk <;> (rw [hk]; rfl)
  have e4 : nB m.k = 0 := by rcases hk with hk | hk | hk | hk | hk <;> (rw [hk]; rfl)
  have e5 : nI m.k = 0 := by rcases hk with hk | hk | hk | hk | hk <;> (rw [hk]; rfl)
  have fk : FitN m.k := ⟨by have := MM.k1; omega, by have := MM.k2; omega⟩
  have fn : FitN m.t := (time_fit MM.t).1 e1
  have HE : Hid (encM m = Oct.enc m.k ++ Oct.enc m.t) := Lib.hid (by have hl : lists m.k m.c m.b m.i = [] := (by unfold lists; rw [if_neg (by omega), if_neg (by omega), if_neg (by omega)]); unfold encM optP; rw [e1, e2, hl]; simp)
  have S1 := cd_sum (Oct.enc m.k) (Oct.enc m.t) (by have := enc_bd m.k; have := enc_bd m.t; omega)
  have C0 := Lib.hid fun W => clay1 m.k fk W
  have C1 := Lib.hid fun W => clay1 m.t fn W
  have SH := Lib.hid fun W => shape_any m.k W
  simp only [shV] at SH
  rw [e1, e2, e3, e4, e5] at SH
  clear h hm MM fk fn e1 e2 e3 e4 e5 hk
  generalize encM m = em at *
  generalize isK m.k = rk at *
  generalize Oct.enc m.k = ek at *
  generalize Oct.enc m.t = et at *
  obtain ⟨k, t, n, lc, lb, li⟩ := m
  simp only [msgV] at *
  generalize hl1 : lc.length = l1 at *
  generalize hl2 : lb.length = l2 at *
  generalize hl3 : li.length = l3 at *
  clear hl1 hl2 hl3
  have T1 := Lib.hid (at1 w (.cells #[.int .i64 k, .int .i64 t, .int .i64 n, .slice A1 l1 c1, .slice A2 l2 c2, .slice A3 l3 c3] MT))
  have BE := Lib.hid (bel1 w (.cells #[.int .i64 k, .int .i64 t, .int .i64 n, .slice A1 l1 c1, .slice A2 l2 c2, .slice A3 l3 c3] MT))
  go_enter Tryz.func29, Tryz.ntmps29
  go_upto_region 1 with fail
  generalize w.alloc (.cells #[.int .i64 k, .int .i64 t, .int .i64 n, .slice A1 l1 c1, .slice A2 l2 c2, .slice A3 l3 c3] MT) = w1 at *
  obtain ⟨⟨m0, m1, m2, m3, m4, m5⟩, _⟩ := Bx.b6 T1.out
  go_wp2_with fail
  refine (CM.out _ (MA.out _ BE.out)).mono ?_
  rintro e w2 ⟨rfl, hb⟩
  replace BE := Lib.hid (BE.out.trans (hb.mono BE.out.size))
  replace T1 := Lib.hid ((hb.block _ (lt_of_row T1.out)).trans T1.out)
  clear hb m0 m1 m2 m3 m4 m5 CM
  obtain ⟨⟨m0, m1, m2, m3, m4, m5⟩, _⟩ := Bx.b6 T1.out
  go_wp2_with fail
  refine (SH.out _).mono ?_
  rintro e w3 ⟨rfl, hb⟩
  replace BE := Lib.hid (BE.out.trans (hb.mono BE.out.size))
  replace T1 := Lib.hid ((hb.block _ (lt_of_row T1.out)).trans T1.out)
  clear hb m0 m1 m2 m3 m4 m5 SH
  go_upto_region 5 with fail
  have T0 := Lib.hid (at1 w3 (.cells #[.bool true, .bool false, .int .i64 0, .int .i64 0, .int .i64 0] SHT))
  have hb := bel1 w3 (.cells #[.bool true, .bool false, .int .i64 0, .int .i64 0, .int .i64 0] SHT)
  replace BE := Lib.hid (BE.out.trans (hb.mono BE.out.size))
  replace T1 := Lib.hid ((hb.block _ (lt_of_row T1.out)).trans T1.out)
  clear hb
  generalize w3.alloc (.cells #[.bool true, .bool false, .int .i64 0, .int .i64 0, .int .i64 0] SHT) = w4 at *
  generalize w3.heap.size = o1 at *
  obtain ⟨⟨h0, h1, h2, h3, h4⟩, _⟩ := Bx.b5 T0.out
  obtain ⟨⟨m0, m1, m2, m3, m4, m5⟩, _⟩ := Bx.b6 T1.out
  go_wp2_with fail
  with_reducible refine (C0.out _).mono ?_
  rintro e w5 ⟨rfl, hb⟩
  replace BE := Lib.hid (BE.out.trans (hb.mono BE.out.size))
  replace T1 := Lib.hid ((hb.block _ (lt_of_row T1.out)).trans T1.out)
  replace T0 := Lib.hid ((hb.block _ (lt_of_row T0.out)).trans T0.out)
  clear hb h0 h1 h2 h3 h4 m0 m1 m2 m3 m4 m5 C0
  obtain ⟨⟨h0, h1, h2, h3, h4⟩, _⟩ := Bx.b5 T0.out
  obtain ⟨⟨m0, m1, m2, m3, m4, m5⟩, _⟩ := Bx.b6 T1.out
  go_wp2_with fail
  with_reducible refine (C1.out _).mono ?_
  rintro e w6 ⟨rfl, hb⟩
  replace BE := Lib.hid (BE.out.trans (hb.mono BE.out.size))
  replace T1 := Lib.hid ((hb.block _ (lt_of_row T1.out)).trans T1.out)
  replace T0 := Lib.hid ((hb.block _ (lt_of_row T0.out)).trans T0.out)
  clear hb h0 h1 h2 h3 h4 m0 m1 m2 m3 m4 m5 C1
  obtain ⟨⟨h0, h1, h2, h3, h4⟩, _⟩ := Bx.b5 T0.out
  obtain ⟨⟨m0, m1, m2, m3, m4, m5⟩, _⟩ := Bx.b6 T1.out
  go_wp2
  go_ret2
  rw [HE.out]
  exact ⟨rfl, BE.out⟩
set_option maxHeartbeats 16000000 in
set_option maxRecDepth 100000 in
theorem encode_3 {m : Mn} {A1 A2 A3 : Option Addr} {c1 c2 c3 : Nat} {w : World} (h : MsgAt m A1 A2 A3 w) (hm : mayM m = true) (hk : m.k = 4) : Calls Tryz.prog 29 #[msgV m A1 c1 A2 c2 A3 c3] w fun e w' => e = .returned (.tuple #[.string ⟨(encM m).toArray⟩, .int .i64 0]) ∧ Below w.heap.size w w' := by
  have CM : Hid (∀ W, MsgAt m A1 A2 A3 W → Calls Tryz.prog 31 #[msgV m A1 c1 A2 c2 A3 c3] W fun e w' => e = .returned (.int .i64 (errB (mayM m))) ∧ Below W.heap.size W w') := Lib.hid fun W hW => checkmsg_any hW
  rw [hm] at CM
  have MA : Hid (∀ W, Below w.heap.size w W → MsgAt m A1 A2 A3 W) := Lib.hid fun W hW => h.below hW
  rw [show errB true = 0 from rfl] at CM
  have MM := (mayM_is m).1 hm
  have e1 : hasT m.k = true := by rw [hk]; rfl
  have e2 : hasN m.k = false := by rw [hk]; rfl
  have e3 : nC m.k = 0 := by rw [hk]; rfl
  have e4 : nB m.k = 0 := by rw [hk]; rfl
  have e5 : nI m.k = 1024 := by rw [hk]; rfl
  have fk : FitN m.k := ⟨by have := MM.k1; omega, by have := MM.k2; omega⟩
  have fn : FitN m.t := (time_fit MM.t).1 e1
  have hlen : m.i.length ≤ 1024 := by have := okL_len MM.oi; omega
  have HE : Hid (encM m = Oct.enc m.k ++ (Oct.enc m.t ++ kID.putL m.i)) := Lib.hid (by unfold encM lists optP; rw [e1, e2]; simp [hk, List.append_assoc])
  have CL : Hid (∀ W, MsgAt m A1 A2 A3 W → Calls Tryz.prog 67 #[.func (.func 68) #[] #[], .slice A3 m.i.length c3] W fun e w' => e = .returned (.string ⟨(kID.putL m.i).toArray⟩) ∧ Below W.heap.size W w') := Lib.hid fun W hW => clist_id (cap := c3) hW.i (by omega)
  have hpl : (kID.putL m.i).length ≤ 1000000 := by unfold Kind.putL; rw [List.length_append]; have := puts_len_id m.i; have := enc_bd (m.i.length : Int); omega
  have S2 := cd_sum (Oct.enc m.k ++ Oct.enc m.t) (kID.putL m.i) (by rw [List.length_append]; have := enc_bd m.k; have := enc_bd m.t; omega)
  have S1 := cd_sum (Oct.enc m.k) (Oct.enc m.t) (by have := enc_bd m.k; have := enc_bd m.t; omega)
  have C0 := Lib.hid fun W => clay1 m.k fk W
  have C1 := Lib.hid fun W => clay1 m.t fn W
  have SH := Lib.hid fun W => shape_any m.k W
  simp only [shV] at SH
  rw [e1, e2, e3, e4, e5] at SH
  clear h hm MM fk fn e1 e2 e3 e4 e5 hk hpl hlen
  generalize encM m = em at *
  generalize kID.putL m.i = pl at *
  generalize isK m.k = rk at *
  generalize Oct.enc m.k = ek at *
  generalize Oct.enc m.t = et at *
  obtain ⟨k, t, n, lc, lb, li⟩ := m
  simp only [msgV] at *
  generalize hl1 : lc.length = l1 at *
  generalize hl2 : lb.length = l2 at *
  generalize hl3 : li.length = l3 at *
  clear hl1 hl2 hl3
  have T1 := Lib.hid (at1 w (.cells #[.int .i64 k, .int .i64 t, .int .i64 n, .slice A1 l1 c1, .slice A2 l2 c2, .slice A3 l3 c3] MT))
  have BE := Lib.hid (bel1 w (.cells #[.int .i64 k, .int .i64 t, .int .i64 n, .slice A1 l1 c1, .slice A2 l2 c2, .slice A3 l3 c3] MT))
  go_enter Tryz.func29, Tryz.ntmps29
  go_upto_region 1 with fail
  generalize w.alloc (.cells #[.int .i64 k, .int .i64 t, .int .i64 n, .slice A1 l1 c1, .slice A2 l2 c2, .slice A3 l3 c3] MT) = w1 at *
  obtain ⟨⟨m0, m1, m2, m3, m4, m5⟩, _⟩ := Bx.b6 T1.out
  go_wp2_with fail
  refine (CM.out _ (MA.out _ BE.out)).mono ?_
  rintro e w2 ⟨rfl, hb⟩
  replace BE := Lib.hid (BE.out.trans (hb.mono BE.out.size))
  replace T1 := Lib.hid ((hb.block _ (lt_of_row T1.out)).trans T1.out)
  clear hb m0 m1 m2 m3 m4 m5 CM
  obtain ⟨⟨m0, m1, m2, m3, m4, m5⟩, _⟩ := Bx.b6 T1.out
  go_wp2_with fail
  refine (SH.out _).mono ?_
  rintro e w3 ⟨rfl, hb⟩
  replace BE := Lib.hid (BE.out.trans (hb.mono BE.out.size))
  replace T1 := Lib.hid ((hb.block _ (lt_of_row T1.out)).trans T1.out)
  clear hb m0 m1 m2 m3 m4 m5 SH
  go_upto_region 5 with fail
  have T0 := Lib.hid (at1 w3 (.cells #[.bool true, .bool false, .int .i64 0, .int .i64 0, .int .i64 1024] SHT))
  have hb := bel1 w3 (.cells #[.bool true, .bool false, .int .i64 0, .int .i64 0, .int .i64 1024] SHT)
  replace BE := Lib.hid (BE.out.trans (hb.mono BE.out.size))
  replace T1 := Lib.hid ((hb.block _ (lt_of_row T1.out)).trans T1.out)
  clear hb
  generalize w3.alloc (.cells #[.bool true, .bool false, .int .i64 0, .int .i64 0, .int .i64 1024] SHT) = w4 at *
  generalize w3.heap.size = o1 at *
  obtain ⟨⟨h0, h1, h2, h3, h4⟩, _⟩ := Bx.b5 T0.out
  obtain ⟨⟨m0, m1, m2, m3, m4, m5⟩, _⟩ := Bx.b6 T1.out
  go_wp2_with fail
  with_reducible refine (C0.out _).mono ?_
  rintro e w5 ⟨rfl, hb⟩
  replace BE := Lib.hid (BE.out.trans (hb.mono BE.out.size))
  replace T1 := Lib.hid ((hb.block _ (lt_of_row T1.out)).trans T1.out)
  replace T0 := Lib.hid ((hb.block _ (lt_of_row T0.out)).trans T0.out)
  clear hb h0 h1 h2 h3 h4 m0 m1 m2 m3 m4 m5 C0
  obtain ⟨⟨h0, h1, h2, h3, h4⟩, _⟩ := Bx.b5 T0.out
  obtain ⟨⟨m0, m1, m2, m3, m4, m5⟩, _⟩ := Bx.b6 T1.out
  go_wp2_with fail
  with_reducible refine (C1.out _).mono ?_
  rintro e w6 ⟨rfl, hb⟩
  replace BE := Lib.hid (BE.out.trans (hb.mono BE.out.size))
  replace T1 := Lib.hid ((hb.block _ (lt_of_row T1.out)).trans T1.out)
  replace T0 := Lib.hid ((hb.block _ (lt_of_row T0.out)).trans T0.out)
  clear hb h0 h1 h2 h3 h4 m0 m1 m2 m3 m4 m5 C1
  obtain ⟨⟨h0, h1, h2, h3, h4⟩, _⟩ := Bx.b5 T0.out
  obtain ⟨⟨m0, m1, m2, m3, m4, m5⟩, _⟩ := Bx.b6 T1.out
  go_wp2_with fail
  refine (CL.out _ (MA.out _ BE.out)).mono ?_
  rintro e w7 ⟨rfl, hb⟩
  replace BE := Lib.hid (BE.out.trans (hb.mono BE.out.size))
  replace T1 := Lib.hid ((hb.block _ (lt_of_row T1.out)).trans T1.out)
  replace T0 := Lib.hid ((hb.block _ (lt_of_row T0.out)).trans T0.out)
  clear hb h0 h1 h2 h3 h4 m0 m1 m2 m3 m4 m5 CL
  obtain ⟨⟨h0, h1, h2, h3, h4⟩, _⟩ := Bx.b5 T0.out
  obtain ⟨⟨m0, m1, m2, m3, m4, m5⟩, _⟩ := Bx.b6 T1.out
  go_wp2
  go_ret2
  rw [HE.out]
  exact ⟨rfl, BE.out⟩
set_option maxHeartbeats 16000000 in
set_option maxRecDepth 100000 in
theorem encode_4 {m : Mn} {A1 A2 A3 : Option Addr} {c1 c2 c3 : Nat} {w : World} (h : MsgAt m A1 A2 A3 w) (hm : mayM m = true) (hk : m.k = 7) : Calls Tryz.prog 29 #[msgV m A1 c1 A2 c2 A3 c3] w fun e w' => e = .returned (.tuple #[.string ⟨(encM m).toArray⟩, .int .i64 0]) ∧ Below w.heap.size w w' := by
  have CM : Hid (∀ W, MsgAt m A1 A2 A3 W → Calls Tryz.prog 31 #[msgV m A1 c1 A2 c2 A3 c3] W fun e w' => e = .returned (.int .i64 (errB (mayM m))) ∧ Below W.heap.size W w') := Lib.hid fun W hW => checkmsg_any hW
  rw [hm] at CM
  have MA : Hid (∀ W, Below w.heap.size w W → MsgAt m A1 A2 A3 W) := Lib.hid fun W hW => h.below hW
  rw [show errB true = 0 from rfl] at CM
  have MM := (mayM_is m).1 hm
  have e1 : hasT m.k = false := by rw [hk]; rfl
  have e2 : hasN m.k = true := by rw [hk]; rfl
  have e3 : nC m.k = 0 := by rw [hk]; rfl
  have e4 : nB m.k = 1 := by rw [hk]; rfl
  have e5 : nI m.k = 0 := by rw [hk]; rfl
  have fk : FitN m.k := ⟨by have := MM.k1; omega, by have := MM.k2; omega⟩
  have fn : FitN m.n := (time_fit MM.n).1 e2
  have hlen : m.b.length ≤ 1024 := by have := okL_len MM.ob; omega
  have HE : Hid (encM m = Oct.enc m.k ++ (Oct.enc m.n ++ kB.putL m.b)) := Lib.hid (by unfold encM lists optP; rw [e1, e2]; simp [hk, List.append_assoc])
  have CL : Hid (∀ W, MsgAt m A1 A2 A3 W → Calls Tryz.prog 16 #[.func (.func 17) #[] #[], .slice A2 m.b.length c2] W fun e w' => e = .returned (.string ⟨(kB.putL m.b).toArray⟩) ∧ Below W.heap.size W w') := Lib.hid fun W hW => clist_b (cap := c2) hW.b (by omega)
  have hpl : (kB.putL m.b).length ≤ 1000000 := by unfold Kind.putL; rw [List.length_append]; have := puts_len_b m.b; have := enc_bd (m.b.length : Int); omega
  have S2 := cd_sum (Oct.enc m.k ++ Oct.enc m.n) (kB.putL m.b) (by rw [List.length_append]; have := enc_bd m.k; have := enc_bd m.n; omega)
  have S1 := cd_sum (Oct.enc m.k) (Oct.enc m.n) (by have := enc_bd m.k; have := enc_bd m.n; omega)
  have C0 := Lib.hid fun W => clay1 m.k fk W
  have C1 := Lib.hid fun W => clay1 m.n fn W
  have SH := Lib.hid fun W => shape_any m.k W
  simp only [shV] at SH
  rw [e1, e2, e3, e4, e5] at SH
  clear h hm MM fk fn e1 e2 e3 e4 e5 hk hpl hlen
  generalize encM m = em at *
  generalize kB.putL m.b = pl at *
  generalize isK m.k = rk at *
  generalize Oct.enc m.k = ek at *
  generalize Oct.enc m.n = et at *
  obtain ⟨k, t, n, lc, lb, li⟩ := m
  simp only [msgV] at *
  generalize hl1 : lc.length = l1 at *
  generalize hl2 : lb.length = l2 at *
  generalize hl3 : li.length = l3 at *
  clear hl1 hl2 hl3
  have T1 := Lib.hid (at1 w (.cells #[.int .i64 k, .int .i64 t, .int .i64 n, .slice A1 l1 c1, .slice A2 l2 c2, .slice A3 l3 c3] MT))
  have BE := Lib.hid (bel1 w (.cells #[.int .i64 k, .int .i64 t, .int .i64 n, .slice A1 l1 c1, .slice A2 l2 c2, .slice A3 l3 c3] MT))
  go_enter Tryz.func29, Tryz.ntmps29
  go_upto_region 1 with fail
  generalize w.alloc (.cells #[.int .i64 k, .int .i64 t, .int .i64 n, .slice A1 l1 c1, .slice A2 l2 c2, .slice A3 l3 c3] MT) = w1 at *
  obtain ⟨⟨m0, m1, m2, m3, m4, m5⟩, _⟩ := Bx.b6 T1.out
  go_wp2_with fail
  refine (CM.out _ (MA.out _ BE.out)).mono ?_
  rintro e w2 ⟨rfl, hb⟩
  replace BE := Lib.hid (BE.out.trans (hb.mono BE.out.size))
  replace T1 := Lib.hid ((hb.block _ (lt_of_row T1.out)).trans T1.out)
  clear hb m0 m1 m2 m3 m4 m5 CM
  obtain ⟨⟨m0, m1, m2, m3, m4, m5⟩, _⟩ := Bx.b6 T1.out
  go_wp2_with fail
  refine (SH.out _).mono ?_
  rintro e w3 ⟨rfl, hb⟩
  replace BE := Lib.hid (BE.out.trans (hb.mono BE.out.size))
  replace T1 := Lib.hid ((hb.block _ (lt_of_row T1.out)).trans T1.out)
  clear hb m0 m1 m2 m3 m4 m5 SH
  go_upto_region 5 with fail
  have T0 := Lib.hid (at1 w3 (.cells #[.bool false, .bool true, .int .i64 0, .int .i64 1, .int .i64 0] SHT))
  have hb := bel1 w3 (.cells #[.bool false, .bool true, .int .i64 0, .int .i64 1, .int .i64 0] SHT)
  replace BE := Lib.hid (BE.out.trans (hb.mono BE.out.size))
  replace T1 := Lib.hid ((hb.block _ (lt_of_row T1.out)).trans T1.out)
  clear hb
  generalize w3.alloc (.cells #[.bool false, .bool true, .int .i64 0, .int .i64 1, .int .i64 0] SHT) = w4 at *
  generalize w3.heap.size = o1 at *
  obtain ⟨⟨h0, h1, h2, h3, h4⟩, _⟩ := Bx.b5 T0.out
  obtain ⟨⟨m0, m1, m2, m3, m4, m5⟩, _⟩ := Bx.b6 T1.out
  go_wp2_with fail
  with_reducible refine (C0.out _).mono ?_
  rintro e w5 ⟨rfl, hb⟩
  replace BE := Lib.hid (BE.out.trans (hb.mono BE.out.size))
  replace T1 := Lib.hid ((hb.block _ (lt_of_row T1.out)).trans T1.out)
  replace T0 := Lib.hid ((hb.block _ (lt_of_row T0.out)).trans T0.out)
  clear hb h0 h1 h2 h3 h4 m0 m1 m2 m3 m4 m5 C0
  obtain ⟨⟨h0, h1, h2, h3, h4⟩, _⟩ := Bx.b5 T0.out
  obtain ⟨⟨m0, m1, m2, m3, m4, m5⟩, _⟩ := Bx.b6 T1.out
  go_wp2_with fail
  with_reducible refine (C1.out _).mono ?_
  rintro e w6 ⟨rfl, hb⟩
  replace BE := Lib.hid (BE.out.trans (hb.mono BE.out.size))
  replace T1 := Lib.hid ((hb.block _ (lt_of_row T1.out)).trans T1.out)
  replace T0 := Lib.hid ((hb.block _ (lt_of_row T0.out)).trans T0.out)
  clear hb h0 h1 h2 h3 h4 m0 m1 m2 m3 m4 m5 C1
  obtain ⟨⟨h0, h1, h2, h3, h4⟩, _⟩ := Bx.b5 T0.out
  obtain ⟨⟨m0, m1, m2, m3, m4, m5⟩, _⟩ := Bx.b6 T1.out
  go_wp2_with fail
  refine (CL.out _ (MA.out _ BE.out)).mono ?_
  rintro e w7 ⟨rfl, hb⟩
  replace BE := Lib.hid (BE.out.trans (hb.mono BE.out.size))
  replace T1 := Lib.hid ((hb.block _ (lt_of_row T1.out)).trans T1.out)
  replace T0 := Lib.hid ((hb.block _ (lt_of_row T0.out)).trans T0.out)
  clear hb h0 h1 h2 h3 h4 m0 m1 m2 m3 m4 m5 CL
  obtain ⟨⟨h0, h1, h2, h3, h4⟩, _⟩ := Bx.b5 T0.out
  obtain ⟨⟨m0, m1, m2, m3, m4, m5⟩, _⟩ := Bx.b6 T1.out
  go_wp2
  go_ret2
  rw [HE.out]
  exact ⟨rfl, BE.out⟩
set_option maxHeartbeats 16000000 in
set_option maxRecDepth 100000 in
theorem encode_5 {m : Mn} {A1 A2 A3 : Option Addr} {c1 c2 c3 : Nat} {w : World} (h : MsgAt m A1 A2 A3 w) (hm : mayM m = true) (hk : m.k = 8 ∨ m.k = 9 ∨ m.k = 10) : Calls Tryz.prog 29 #[msgV m A1 c1 A2 c2 A3 c3] w fun e w' => e = .returned (.tuple #[.string ⟨(encM m).toArray⟩, .int .i64 0]) ∧ Below w.heap.size w w' := by
  have CM : Hid (∀ W, MsgAt m A1 A2 A3 W → Calls Tryz.prog 31 #[msgV m A1 c1 A2 c2 A3 c3] W fun e w' => e = .returned (.int .i64 (errB (mayM m))) ∧ Below W.heap.size W w') := Lib.hid fun W hW => checkmsg_any hW
  rw [hm] at CM
  have MA : Hid (∀ W, Below w.heap.size w W → MsgAt m A1 A2 A3 W) := Lib.hid fun W hW => h.below hW
  rw [show errB true = 0 from rfl] at CM
  have MM := (mayM_is m).1 hm
  have e1 : hasT m.k = false := by rcases hk with hk | hk | hk <;> (rw [hk]; rfl)
  have e2 : hasN m.k = true := by rcases hk with hk | hk | hk <;> (rw [hk]; rfl)
  have e3 : nC m.k = 0 := by rcases hk with hk | hk | hk <;> (rw [hk]; rfl)
  have e4 : nB m.k = 0 := by rcases hk with hk | hk | hk <;> (rw [hk]; rfl)
  have e5 : nI m.k = 0 := by rcases hk with hk | hk | hk <;> (rw [hk]; rfl)
  have fk : FitN m.k := ⟨by have := MM.k1; omega, by have := MM.k2; omega⟩
  have fn : FitN m.n := (time_fit MM.n).1 e2
  have HE : Hid (encM m = Oct.enc m.k ++ Oct.enc m.n) := Lib.hid (by have hl : lists m.k m.c m.b m.i = [] := (by unfold lists; rw [if_neg (by omega), if_neg (by omega), if_neg (by omega)]); unfold encM optP; rw [e1, e2, hl]; simp)
  have S1 := cd_sum (Oct.enc m.k) (Oct.enc m.n) (by have := enc_bd m.k; have := enc_bd m.n; omega)
  have C0 := Lib.hid fun W => clay1 m.k fk W
  have C1 := Lib.hid fun W => clay1 m.n fn W
  have SH := Lib.hid fun W => shape_any m.k W
  simp only [shV] at SH
  rw [e1, e2, e3, e4, e5] at SH
  clear h hm MM fk fn e1 e2 e3 e4 e5 hk
  generalize encM m = em at *
  generalize isK m.k = rk at *
  generalize Oct.enc m.k = ek at *
  generalize Oct.enc m.n = et at *
  obtain ⟨k, t, n, lc, lb, li⟩ := m
  simp only [msgV] at *
  generalize hl1 : lc.length = l1 at *
  generalize hl2 : lb.length = l2 at *
  generalize hl3 : li.length = l3 at *
  clear hl1 hl2 hl3
  have T1 := Lib.hid (at1 w (.cells #[.int .i64 k, .int .i64 t, .int .i64 n, .slice A1 l1 c1, .slice A2 l2 c2, .slice A3 l3 c3] MT))
  have BE := Lib.hid (bel1 w (.cells #[.int .i64 k, .int .i64 t, .int .i64 n, .slice A1 l1 c1, .slice A2 l2 c2, .slice A3 l3 c3] MT))
  go_enter Tryz.func29, Tryz.ntmps29
  go_upto_region 1 with fail
  generalize w.alloc (.cells #[.int .i64 k, .int .i64 t, .int .i64 n, .slice A1 l1 c1, .slice A2 l2 c2, .slice A3 l3 c3] MT) = w1 at *
  obtain ⟨⟨m0, m1, m2, m3, m4, m5⟩, _⟩ := Bx.b6 T1.out
  go_wp2_with fail
  refine (CM.out _ (MA.out _ BE.out)).mono ?_
  rintro e w2 ⟨rfl, hb⟩
  replace BE := Lib.hid (BE.out.trans (hb.mono BE.out.size))
  replace T1 := Lib.hid ((hb.block _ (lt_of_row T1.out)).trans T1.out)
  clear hb m0 m1 m2 m3 m4 m5 CM
  obtain ⟨⟨m0, m1, m2, m3, m4, m5⟩, _⟩ := Bx.b6 T1.out
  go_wp2_with fail
  refine (SH.out _).mono ?_
  rintro e w3 ⟨rfl, hb⟩
  replace BE := Lib.hid (BE.out.trans (hb.mono BE.out.size))
  replace T1 := Lib.hid ((hb.block _ (lt_of_row T1.out)).trans T1.out)
  clear hb m0 m1 m2 m3 m4 m5 SH
  go_upto_region 5 with fail
  have T0 := Lib.hid (at1 w3 (.cells #[.bool false, .bool true, .int .i64 0, .int .i64 0, .int .i64 0] SHT))
  have hb := bel1 w3 (.cells #[.bool false, .bool true, .int .i64 0, .int .i64 0, .int .i64 0] SHT)
  replace BE := Lib.hid (BE.out.trans (hb.mono BE.out.size))
  replace T1 := Lib.hid ((hb.block _ (lt_of_row T1.out)).trans T1.out)
  clear hb
  generalize w3.alloc (.cells #[.bool false, .bool true, .int .i64 0, .int .i64 0, .int .i64 0] SHT) = w4 at *
  generalize w3.heap.size = o1 at *
  obtain ⟨⟨h0, h1, h2, h3, h4⟩, _⟩ := Bx.b5 T0.out
  obtain ⟨⟨m0, m1, m2, m3, m4, m5⟩, _⟩ := Bx.b6 T1.out
  go_wp2_with fail
  with_reducible refine (C0.out _).mono ?_
  rintro e w5 ⟨rfl, hb⟩
  replace BE := Lib.hid (BE.out.trans (hb.mono BE.out.size))
  replace T1 := Lib.hid ((hb.block _ (lt_of_row T1.out)).trans T1.out)
  replace T0 := Lib.hid ((hb.block _ (lt_of_row T0.out)).trans T0.out)
  clear hb h0 h1 h2 h3 h4 m0 m1 m2 m3 m4 m5 C0
  obtain ⟨⟨h0, h1, h2, h3, h4⟩, _⟩ := Bx.b5 T0.out
  obtain ⟨⟨m0, m1, m2, m3, m4, m5⟩, _⟩ := Bx.b6 T1.out
  go_wp2_with fail
  with_reducible refine (C1.out _).mono ?_
  rintro e w6 ⟨rfl, hb⟩
  replace BE := Lib.hid (BE.out.trans (hb.mono BE.out.size))
  replace T1 := Lib.hid ((hb.block _ (lt_of_row T1.out)).trans T1.out)
  replace T0 := Lib.hid ((hb.block _ (lt_of_row T0.out)).trans T0.out)
  clear hb h0 h1 h2 h3 h4 m0 m1 m2 m3 m4 m5 C1
  obtain ⟨⟨h0, h1, h2, h3, h4⟩, _⟩ := Bx.b5 T0.out
  obtain ⟨⟨m0, m1, m2, m3, m4, m5⟩, _⟩ := Bx.b6 T1.out
  go_wp2
  go_ret2
  rw [HE.out]
  exact ⟨rfl, BE.out⟩
set_option maxHeartbeats 16000000 in
set_option maxRecDepth 100000 in
theorem encode_6 {m : Mn} {A1 A2 A3 : Option Addr} {c1 c2 c3 : Nat} {w : World} (h : MsgAt m A1 A2 A3 w) (hm : mayM m = true) (hk : m.k = 12) : Calls Tryz.prog 29 #[msgV m A1 c1 A2 c2 A3 c3] w fun e w' => e = .returned (.tuple #[.string ⟨(encM m).toArray⟩, .int .i64 0]) ∧ Below w.heap.size w w' := by
  have CM : Hid (∀ W, MsgAt m A1 A2 A3 W → Calls Tryz.prog 31 #[msgV m A1 c1 A2 c2 A3 c3] W fun e w' => e = .returned (.int .i64 (errB (mayM m))) ∧ Below W.heap.size W w') := Lib.hid fun W hW => checkmsg_any hW
  rw [hm] at CM
  have MA : Hid (∀ W, Below w.heap.size w W → MsgAt m A1 A2 A3 W) := Lib.hid fun W hW => h.below hW
  rw [show errB true = 0 from rfl] at CM
  have MM := (mayM_is m).1 hm
  have e1 : hasT m.k = true := by rw [hk]; rfl
  have e2 : hasN m.k = false := by rw [hk]; rfl
  have e3 : nC m.k = 0 := by rw [hk]; rfl
  have e4 : nB m.k = 1024 := by rw [hk]; rfl
  have e5 : nI m.k = 0 := by rw [hk]; rfl
  have fk : FitN m.k := ⟨by have := MM.k1; omega, by have := MM.k2; omega⟩
  have fn : FitN m.t := (time_fit MM.t).1 e1
  have hlen : m.b.length ≤ 1024 := by have := okL_len MM.ob; omega
  have HE : Hid (encM m = Oct.enc m.k ++ (Oct.enc m.t ++ kB.putL m.b)) := Lib.hid (by unfold encM lists optP; rw [e1, e2]; simp [hk, List.append_assoc])
  have CL : Hid (∀ W, MsgAt m A1 A2 A3 W → Calls Tryz.prog 16 #[.func (.func 17) #[] #[], .slice A2 m.b.length c2] W fun e w' => e = .returned (.string ⟨(kB.putL m.b).toArray⟩) ∧ Below W.heap.size W w') := Lib.hid fun W hW => clist_b (cap := c2) hW.b (by omega)
  have hpl : (kB.putL m.b).length ≤ 1000000 := by unfold Kind.putL; rw [List.length_append]; have := puts_len_b m.b; have := enc_bd (m.b.length : Int); omega
  have S2 := cd_sum (Oct.enc m.k ++ Oct.enc m.t) (kB.putL m.b) (by rw [List.length_append]; have := enc_bd m.k; have := enc_bd m.t; omega)
  have S1 := cd_sum (Oct.enc m.k) (Oct.enc m.t) (by have := enc_bd m.k; have := enc_bd m.t; omega)
  have C0 := Lib.hid fun W => clay1 m.k fk W
  have C1 := Lib.hid fun W => clay1 m.t fn W
  have SH := Lib.hid fun W => shape_any m.k W
  simp only [shV] at SH
  rw [e1, e2, e3, e4, e5] at SH
  clear h hm MM fk fn e1 e2 e3 e4 e5 hk hpl hlen
  generalize encM m = em at *
  generalize kB.putL m.b = pl at *
  generalize isK m.k = rk at *
  generalize Oct.enc m.k = ek at *
  generalize Oct.enc m.t = et at *
  obtain ⟨k, t, n, lc, lb, li⟩ := m
  simp only [msgV] at *
  generalize hl1 : lc.length = l1 at *
  generalize hl2 : lb.length = l2 at *
  generalize hl3 : li.length = l3 at *
  clear hl1 hl2 hl3
  have T1 := Lib.hid (at1 w (.cells #[.int .i64 k, .int .i64 t, .int .i64 n, .slice A1 l1 c1, .slice A2 l2 c2, .slice A3 l3 c3] MT))
  have BE := Lib.hid (bel1 w (.cells #[.int .i64 k, .int .i64 t, .int .i64 n, .slice A1 l1 c1, .slice A2 l2 c2, .slice A3 l3 c3] MT))
  go_enter Tryz.func29, Tryz.ntmps29
  go_upto_region 1 with fail
  generalize w.alloc (.cells #[.int .i64 k, .int .i64 t, .int .i64 n, .slice A1 l1 c1, .slice A2 l2 c2, .slice A3 l3 c3] MT) = w1 at *
  obtain ⟨⟨m0, m1, m2, m3, m4, m5⟩, _⟩ := Bx.b6 T1.out
  go_wp2_with fail
  refine (CM.out _ (MA.out _ BE.out)).mono ?_
  rintro e w2 ⟨rfl, hb⟩
  replace BE := Lib.hid (BE.out.trans (hb.mono BE.out.size))
  replace T1 := Lib.hid ((hb.block _ (lt_of_row T1.out)).trans T1.out)
  clear hb m0 m1 m2 m3 m4 m5 CM
  obtain ⟨⟨m0, m1, m2, m3, m4, m5⟩, _⟩ := Bx.b6 T1.out
  go_wp2_with fail
  refine (SH.out _).mono ?_
  rintro e w3 ⟨rfl, hb⟩
  replace BE := Lib.hid (BE.out.trans (hb.mono BE.out.size))
  replace T1 := Lib.hid ((hb.block _ (lt_of_row T1.out)).trans T1.out)
  clear hb m0 m1 m2 m3 m4 m5 SH
  go_upto_region 5 with fail
  have T0 := Lib.hid (at1 w3 (.cells #[.bool true, .bool false, .int .i64 0, .int .i64 1024, .int .i64 0] SHT))
  have hb := bel1 w3 (.cells #[.bool true, .bool false, .int .i64 0, .int .i64 1024, .int .i64 0] SHT)
  replace BE := Lib.hid (BE.out.trans (hb.mono BE.out.size))
  replace T1 := Lib.hid ((hb.block _ (lt_of_row T1.out)).trans T1.out)
  clear hb
  generalize w3.alloc (.cells #[.bool true, .bool false, .int .i64 0, .int .i64 1024, .int .i64 0] SHT) = w4 at *
  generalize w3.heap.size = o1 at *
  obtain ⟨⟨h0, h1, h2, h3, h4⟩, _⟩ := Bx.b5 T0.out
  obtain ⟨⟨m0, m1, m2, m3, m4, m5⟩, _⟩ := Bx.b6 T1.out
  go_wp2_with fail
  with_reducible refine (C0.out _).mono ?_
  rintro e w5 ⟨rfl, hb⟩
  replace BE := Lib.hid (BE.out.trans (hb.mono BE.out.size))
  replace T1 := Lib.hid ((hb.block _ (lt_of_row T1.out)).trans T1.out)
  replace T0 := Lib.hid ((hb.block _ (lt_of_row T0.out)).trans T0.out)
  clear hb h0 h1 h2 h3 h4 m0 m1 m2 m3 m4 m5 C0
  obtain ⟨⟨h0, h1, h2, h3, h4⟩, _⟩ := Bx.b5 T0.out
  obtain ⟨⟨m0, m1, m2, m3, m4, m5⟩, _⟩ := Bx.b6 T1.out
  go_wp2_with fail
  with_reducible refine (C1.out _).mono ?_
  rintro e w6 ⟨rfl, hb⟩
  replace BE := Lib.hid (BE.out.trans (hb.mono BE.out.size))
  replace T1 := Lib.hid ((hb.block _ (lt_of_row T1.out)).trans T1.out)
  replace T0 := Lib.hid ((hb.block _ (lt_of_row T0.out)).trans T0.out)
  clear hb h0 h1 h2 h3 h4 m0 m1 m2 m3 m4 m5 C1
  obtain ⟨⟨h0, h1, h2, h3, h4⟩, _⟩ := Bx.b5 T0.out
  obtain ⟨⟨m0, m1, m2, m3, m4, m5⟩, _⟩ := Bx.b6 T1.out
  go_wp2_with fail
  refine (CL.out _ (MA.out _ BE.out)).mono ?_
  rintro e w7 ⟨rfl, hb⟩
  replace BE := Lib.hid (BE.out.trans (hb.mono BE.out.size))
  replace T1 := Lib.hid ((hb.block _ (lt_of_row T1.out)).trans T1.out)
  replace T0 := Lib.hid ((hb.block _ (lt_of_row T0.out)).trans T0.out)
  clear hb h0 h1 h2 h3 h4 m0 m1 m2 m3 m4 m5 CL
  obtain ⟨⟨h0, h1, h2, h3, h4⟩, _⟩ := Bx.b5 T0.out
  obtain ⟨⟨m0, m1, m2, m3, m4, m5⟩, _⟩ := Bx.b6 T1.out
  go_wp2
  go_ret2
  rw [HE.out]
  exact ⟨rfl, BE.out⟩
/-- Encode: a message's bytes, or the error -/
def encR (m : Mn) : Value := if mayM m then .tuple #[.string ⟨(encM m).toArray⟩, .int .i64 0] else .tuple #[.string ⟨#[]⟩, .int .i64 1]
theorem encode_any {m : Mn} {A1 A2 A3 : Option Addr} {c1 c2 c3 : Nat} {w : World} (h : MsgAt m A1 A2 A3 w) : Calls Tryz.prog 29 #[msgV m A1 c1 A2 c2 A3 c3] w fun e w' => e = .returned (encR m) ∧ Below w.heap.size w w' := by
  unfold encR
  cases hm : mayM m with
  | false => rw [if_neg (by decide)]; exact encode_no h hm
  | true =>
    rw [if_pos rfl]
    have MM := (mayM_is m).1 hm
    have h1 := MM.k1
    have h2 := MM.k2
    by_cases k1 : m.k = 1
    · exact encode_1 h hm k1
    · by_cases k4 : m.k = 4
      · exact encode_3 h hm k4
      · by_cases k7 : m.k = 7
        · exact encode_4 h hm k7
        · by_cases k12 : m.k = 12
          · exact encode_6 h hm k12
          · by_cases k5 : m.k = 8 ∨ m.k = 9 ∨ m.k = 10
            · exact encode_5 h hm k5
            · exact encode_2 h hm (by omega)
end Go.Proofs.YtdhlebmgeiiejaaGreat
