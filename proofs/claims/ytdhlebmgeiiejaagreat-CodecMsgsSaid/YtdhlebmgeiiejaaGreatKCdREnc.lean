/- The document's codec: a message's bytes. Written by wip/tools/gencdrenc.py. -/
import Derived.Test.YtdhlebmgeiiejaaGreatKCdRMay
import Derived.Test.YtdhlebmgeiiejaaGreatKCdEnc
import Derived.Test.YtdhlebmgeiiejaaGreatKOpn
import Derived.Test.YtdhlebmgeiiejaaGreatKRB
namespace Go.Proofs.YtdhlebmgeiiejaaGreat
open Go.RowKit Pz Cd
set_option linter.unusedVariables false
set_option linter.unusedSimpArgs false

theorem MFit.mb {m : Mn} (h : MFit m) : ∀ x ∈ m.b, Fit x.m := fun x hx => (h.b x hx).m
theorem MFit.mc {m : Mn} (h : MFit m) : ∀ x ∈ m.c, Fit x.b.m := fun x hx => (h.c x hx).2.2.m
set_option maxHeartbeats 16000000 in
set_option maxRecDepth 100000 in
theorem rencode_no {m : Mn} {A1 A2 A3 : Option Addr} {c1 c2 c3 : Nat} {w : World} (h : MsgAt m A1 A2 A3 w) (HF : MFit m) (hm : mayM m = false) : Calls Tryz.prog 30 #[msgV m A1 c1 A2 c2 A3 c3] w fun e w' => e = .returned (.tuple #[.string ⟨#[]⟩, .int .i64 1]) ∧ Below w.heap.size w w' := by
  have MY : Hid (∀ W, Below w.heap.size w W → Calls Tryz.prog 69 #[msgV m A1 c1 A2 c2 A3 c3] W fun e w' => e = .returned (.bool (mayM m)) ∧ Below W.heap.size W w') := Lib.hid fun W hW => rmay_msg (h.below hW) HF.mc HF.mb
  rw [hm] at MY
  clear h hm HF
  obtain ⟨k, t, n, lc, lb, li⟩ := m
  simp only [msgV] at *
  generalize lc.length = l1 at *
  generalize lb.length = l2 at *
  generalize li.length = l3 at *
  have T1 := Lib.hid (at1 w (.cells #[.int .i64 k, .int .i64 t, .int .i64 n, .slice A1 l1 c1, .slice A2 l2 c2, .slice A3 l3 c3] MT))
  have BE := Lib.hid (bel1 w (.cells #[.int .i64 k, .int .i64 t, .int .i64 n, .slice A1 l1 c1, .slice A2 l2 c2, .slice A3 l3 c3] MT))
  go_enter Tryz.func30, Tryz.ntmps30
  go_upto_region 1 with fail
  generalize w.alloc (.cells #[.int .i64 k, .int .i64 t, .int .i64 n, .slice A1 l1 c1, .slice A2 l2 c2, .slice A3 l3 c3] MT) = w1 at *
  obtain ⟨⟨m0, m1, m2, m3, m4, m5⟩, _⟩ := Bx.b6 T1.out
  go_wp2_with fail
  refine (MY.out w1 BE.out).mono ?_
  rintro e w2 ⟨rfl, hb⟩
  replace BE := Lib.hid (BE.out.trans (hb.mono BE.out.size))
  replace T1 := Lib.hid ((hb.block _ (lt_of_row T1.out)).trans T1.out)
  clear hb m0 m1 m2 m3 m4 m5 MY
  go_wp2
  go_ret2
  exact ⟨rfl, BE.out⟩
set_option maxHeartbeats 16000000 in
set_option maxRecDepth 100000 in
theorem rencode_1 {m : Mn} {A1 A2 A3 : Option Addr} {c1 c2 c3 : Nat} {w : World} (h : MsgAt m A1 A2 A3 w) (HF : MFit m) (hm : mayM m = true) (hk : m.k = 1) : Calls Tryz.prog 30 #[msgV m A1 c1 A2 c2 A3 c3] w fun e w' => e = .returned (.tuple #[.string ⟨(encM m).toArray⟩, .int .i64 0]) ∧ Below w.heap.size w w' := by
  have MY : Hid (∀ W, Below w.heap.size w W → Calls Tryz.prog 69 #[msgV m A1 c1 A2 c2 A3 c3] W fun e w' => e = .returned (.bool (mayM m)) ∧ Below W.heap.size W w') := Lib.hid fun W hW => rmay_msg (h.below hW) HF.mc HF.mb
  rw [hm] at MY
  have mm := (mayM_is m).1 hm
  have MA : Hid (∀ W, Below w.heap.size w W → MsgAt m A1 A2 A3 W) := Lib.hid fun W hW => h.below hW
  have e1 : hasT m.k = true := by rw [hk]; rfl
  have e2 : hasN m.k = false := by rw [hk]; rfl
  have fk : FitN m.k := ⟨by have := mm.k1; omega, by have := mm.k2; omega⟩
  have fn : FitN m.t := (time_fit mm.t).1 e1
  have hlen : m.c.length ≤ 1024 := by have := okL_len mm.oc; omega
  have CL : Hid (∀ W, MsgAt m A1 A2 A3 W → Calls Tryz.prog 72 #[.slice A1 m.c.length c1] W fun e w' => e = .returned (.string ⟨(kC.putL m.c).toArray⟩) ∧ Below W.heap.size W w') := Lib.hid fun W hW => rlist_c hW.c (by omega) HF.c
  have hpl : (kC.putL m.c).length ≤ 1000000 := by unfold Kind.putL; rw [List.length_append]; have := puts_len_c m.c; have := enc_bd (m.c.length : Int); omega
  have S2 := cd_sum (Oct.enc m.k ++ Oct.enc m.t) (kC.putL m.c) (by rw [List.length_append]; have := enc_bd m.k; have := enc_bd m.t; omega)
  have HE : Hid (encM m = Oct.enc m.k ++ (Oct.enc m.t ++ kC.putL m.c)) := Lib.hid (by unfold encM lists optP; rw [e1, e2]; simp [hk, List.append_assoc])
  have S1 := cd_sum (Oct.enc m.k) (Oct.enc m.t) (by have := enc_bd m.k; have := enc_bd m.t; omega)
  have C0 := Lib.hid (rlay m.k fk)
  have C1 := Lib.hid (rlay m.t fn)
  have HT := Lib.hid fun W => rhast_any W m.k
  have HN := Lib.hid fun W => rhasn_any W m.k
  rw [e1] at HT
  rw [e2] at HN
  have b1 : (m.k == 1) = true := by rw [hk]; rfl
  clear h hm mm fk fn e1 e2 HF hk hpl hlen
  generalize encM m = em at *
  generalize kC.putL m.c = pl at *
  generalize Oct.enc m.k = ek at *
  generalize Oct.enc m.t = et at *
  obtain ⟨k, t, n, lc, lb, li⟩ := m
  simp only [msgV] at *
  generalize hl1 : lc.length = l1 at *
  generalize hl2 : lb.length = l2 at *
  generalize hl3 : li.length = l3 at *
  clear hl1 hl2 hl3
  have T1 := Lib.hid (at1 w (.cells #[.int .i64 k, .int .i64 t, .int .i64 n, .slice A1 l1 c1, .slice A2 l2 c2, .slice A3 l3 c3] MT))
  have BE := Lib.hid (bel1 w (.cells #[.int .i64 k, .int .i64 t, .int .i64 n, .slice A1 l1 c1, .slice A2 l2 c2, .slice A3 l3 c3] MT))
  go_enter Tryz.func30, Tryz.ntmps30
  go_upto_region 1 with fail
  generalize w.alloc (.cells #[.int .i64 k, .int .i64 t, .int .i64 n, .slice A1 l1 c1, .slice A2 l2 c2, .slice A3 l3 c3] MT) = w1 at *
  obtain ⟨⟨m0, m1, m2, m3, m4, m5⟩, _⟩ := Bx.b6 T1.out
  go_wp2_with fail
  refine (MY.out w1 BE.out).mono ?_
  rintro e w2 ⟨rfl, hb⟩
  replace BE := Lib.hid (BE.out.trans (hb.mono BE.out.size))
  replace T1 := Lib.hid ((hb.block _ (lt_of_row T1.out)).trans T1.out)
  clear hb m0 m1 m2 m3 m4 m5 MY
  obtain ⟨⟨m0, m1, m2, m3, m4, m5⟩, _⟩ := Bx.b6 T1.out
  go_wp2_with fail
  refine (C0.out _).mono ?_
  rintro e w3 ⟨rfl, hb⟩
  replace BE := Lib.hid (BE.out.trans (hb.mono BE.out.size))
  replace T1 := Lib.hid ((hb.block _ (lt_of_row T1.out)).trans T1.out)
  clear hb m0 m1 m2 m3 m4 m5 C0
  obtain ⟨⟨m0, m1, m2, m3, m4, m5⟩, _⟩ := Bx.b6 T1.out
  go_wp2_with fail
  refine (HT.out _).mono ?_
  rintro e w' ⟨rfl, rfl⟩
  clear m0 m1 m2 m3 m4 m5 HT
  obtain ⟨⟨m0, m1, m2, m3, m4, m5⟩, _⟩ := Bx.b6 T1.out
  go_wp2_with fail
  refine (C1.out _).mono ?_
  rintro e w4 ⟨rfl, hb⟩
  replace BE := Lib.hid (BE.out.trans (hb.mono BE.out.size))
  replace T1 := Lib.hid ((hb.block _ (lt_of_row T1.out)).trans T1.out)
  clear hb m0 m1 m2 m3 m4 m5 C1
  obtain ⟨⟨m0, m1, m2, m3, m4, m5⟩, _⟩ := Bx.b6 T1.out
  go_wp2_with fail
  refine (HN.out _).mono ?_
  rintro e w' ⟨rfl, rfl⟩
  clear m0 m1 m2 m3 m4 m5 HN
  obtain ⟨⟨m0, m1, m2, m3, m4, m5⟩, _⟩ := Bx.b6 T1.out
  go_wp2_with fail
  refine (CL.out _ (MA.out _ BE.out)).mono ?_
  rintro e w5 ⟨rfl, hb⟩
  replace BE := Lib.hid (BE.out.trans (hb.mono BE.out.size))
  replace T1 := Lib.hid ((hb.block _ (lt_of_row T1.out)).trans T1.out)
  clear hb m0 m1 m2 m3 m4 m5 CL
  obtain ⟨⟨m0, m1, m2, m3, m4, m5⟩, _⟩ := Bx.b6 T1.out
  go_wp2
  go_ret2
  rw [HE.out]
  exact ⟨rfl, BE.out⟩
set_option maxHeartbeats 16000000 in
set_option maxRecDepth 100000 in
theorem rencode_2 {m : Mn} {A1 A2 A3 : Option Addr} {c1 c2 c3 : Nat} {w : World} (h : MsgAt m A1 A2 A3 w) (HF : MFit m) (hm : mayM m = true) (h1 : m.k ≠ 1) (h4 : m.k ≠ 4) (h7 : m.k ≠ 7) (h12 : m.k ≠ 12) (ht : hasT m.k = true) : Calls Tryz.prog 30 #[msgV m A1 c1 A2 c2 A3 c3] w fun e w' => e = .returned (.tuple #[.string ⟨(encM m).toArray⟩, .int .i64 0]) ∧ Below w.heap.size w w' := by
  have MY : Hid (∀ W, Below w.heap.size w W → Calls Tryz.prog 69 #[msgV m A1 c1 A2 c2 A3 c3] W fun e w' => e = .returned (.bool (mayM m)) ∧ Below W.heap.size W w') := Lib.hid fun W hW => rmay_msg (h.below hW) HF.mc HF.mb
  rw [hm] at MY
  have mm := (mayM_is m).1 hm
  have MA : Hid (∀ W, Below w.heap.size w W → MsgAt m A1 A2 A3 W) := Lib.hid fun W hW => h.below hW
  have e1 : hasT m.k = true := ht
  have e2 : hasN m.k = false := by
    have q1 := mm.k1
    have q2 := mm.k2
    have e1' := e1
    unfold hasT at e1'
    unfold hasN
    simp at e1' ⊢
    omega
  have fk : FitN m.k := ⟨by have := mm.k1; omega, by have := mm.k2; omega⟩
  have fn : FitN m.t := (time_fit mm.t).1 e1
  have HE : Hid (encM m = Oct.enc m.k ++ Oct.enc m.t) := Lib.hid (by unfold encM lists optP; rw [e1, e2]; simp [h1, h4, h7, h12])
  have S1 := cd_sum (Oct.enc m.k) (Oct.enc m.t) (by have := enc_bd m.k; have := enc_bd m.t; omega)
  have C0 := Lib.hid (rlay m.k fk)
  have C1 := Lib.hid (rlay m.t fn)
  have HT := Lib.hid fun W => rhast_any W m.k
  have HN := Lib.hid fun W => rhasn_any W m.k
  rw [e1] at HT
  rw [e2] at HN
  have b1 : (m.k == 1) = false := by simpa using h1
  have b4 : (m.k == 4) = false := by simpa using h4
  have b7 : (m.k == 7) = false := by simpa using h7
  have b12 : (m.k == 12) = false := by simpa using h12
  clear h hm mm fk fn e1 e2 HF h1 h4 h7 h12 ht 
  generalize encM m = em at *
  generalize Oct.enc m.k = ek at *
  generalize Oct.enc m.t = et at *
  obtain ⟨k, t, n, lc, lb, li⟩ := m
  simp only [msgV] at *
  generalize hl1 : lc.length = l1 at *
  generalize hl2 : lb.length = l2 at *
  generalize hl3 : li.length = l3 at *
  clear hl1 hl2 hl3
  have T1 := Lib.hid (at1 w (.cells #[.int .i64 k, .int .i64 t, .int .i64 n, .slice A1 l1 c1, .slice A2 l2 c2, .slice A3 l3 c3] MT))
  have BE := Lib.hid (bel1 w (.cells #[.int .i64 k, .int .i64 t, .int .i64 n, .slice A1 l1 c1, .slice A2 l2 c2, .slice A3 l3 c3] MT))
  go_enter Tryz.func30, Tryz.ntmps30
  go_upto_region 1 with fail
  generalize w.alloc (.cells #[.int .i64 k, .int .i64 t, .int .i64 n, .slice A1 l1 c1, .slice A2 l2 c2, .slice A3 l3 c3] MT) = w1 at *
  obtain ⟨⟨m0, m1, m2, m3, m4, m5⟩, _⟩ := Bx.b6 T1.out
  go_wp2_with fail
  refine (MY.out w1 BE.out).mono ?_
  rintro e w2 ⟨rfl, hb⟩
  replace BE := Lib.hid (BE.out.trans (hb.mono BE.out.size))
  replace T1 := Lib.hid ((hb.block _ (lt_of_row T1.out)).trans T1.out)
  clear hb m0 m1 m2 m3 m4 m5 MY
  obtain ⟨⟨m0, m1, m2, m3, m4, m5⟩, _⟩ := Bx.b6 T1.out
  go_wp2_with fail
  refine (C0.out _).mono ?_
  rintro e w3 ⟨rfl, hb⟩
  replace BE := Lib.hid (BE.out.trans (hb.mono BE.out.size))
  replace T1 := Lib.hid ((hb.block _ (lt_of_row T1.out)).trans T1.out)
  clear hb m0 m1 m2 m3 m4 m5 C0
  obtain ⟨⟨m0, m1, m2, m3, m4, m5⟩, _⟩ := Bx.b6 T1.out
  go_wp2_with fail
  refine (HT.out _).mono ?_
  rintro e w' ⟨rfl, rfl⟩
  clear m0 m1 m2 m3 m4 m5 HT
  obtain ⟨⟨m0, m1, m2, m3, m4, m5⟩, _⟩ := Bx.b6 T1.out
  go_wp2_with fail
  refine (C1.out _).mono ?_
  rintro e w4 ⟨rfl, hb⟩
  replace BE := Lib.hid (BE.out.trans (hb.mono BE.out.size))
  replace T1 := Lib.hid ((hb.block _ (lt_of_row T1.out)).trans T1.out)
  clear hb m0 m1 m2 m3 m4 m5 C1
  obtain ⟨⟨m0, m1, m2, m3, m4, m5⟩, _⟩ := Bx.b6 T1.out
  go_wp2_with fail
  refine (HN.out _).mono ?_
  rintro e w' ⟨rfl, rfl⟩
  clear m0 m1 m2 m3 m4 m5 HN
  obtain ⟨⟨m0, m1, m2, m3, m4, m5⟩, _⟩ := Bx.b6 T1.out
  go_wp2
  go_ret2
  rw [HE.out]
  exact ⟨rfl, BE.out⟩
set_option maxHeartbeats 16000000 in
set_option maxRecDepth 100000 in
theorem rencode_3 {m : Mn} {A1 A2 A3 : Option Addr} {c1 c2 c3 : Nat} {w : World} (h : MsgAt m A1 A2 A3 w) (HF : MFit m) (hm : mayM m = true) (hk : m.k = 4) : Calls Tryz.prog 30 #[msgV m A1 c1 A2 c2 A3 c3] w fun e w' => e = .returned (.tuple #[.string ⟨(encM m).toArray⟩, .int .i64 0]) ∧ Below w.heap.size w w' := by
  have MY : Hid (∀ W, Below w.heap.size w W → Calls Tryz.prog 69 #[msgV m A1 c1 A2 c2 A3 c3] W fun e w' => e = .returned (.bool (mayM m)) ∧ Below W.heap.size W w') := Lib.hid fun W hW => rmay_msg (h.below hW) HF.mc HF.mb
  rw [hm] at MY
  have mm := (mayM_is m).1 hm
  have MA : Hid (∀ W, Below w.heap.size w W → MsgAt m A1 A2 A3 W) := Lib.hid fun W hW => h.below hW
  have e1 : hasT m.k = true := by rw [hk]; rfl
  have e2 : hasN m.k = false := by rw [hk]; rfl
  have fk : FitN m.k := ⟨by have := mm.k1; omega, by have := mm.k2; omega⟩
  have fn : FitN m.t := (time_fit mm.t).1 e1
  have hlen : m.i.length ≤ 1024 := by have := okL_len mm.oi; omega
  have CL : Hid (∀ W, MsgAt m A1 A2 A3 W → Calls Tryz.prog 73 #[.slice A3 m.i.length c3] W fun e w' => e = .returned (.string ⟨(kID.putL m.i).toArray⟩) ∧ Below W.heap.size W w') := Lib.hid fun W hW => rlist_id hW.i (by omega)
  have hpl : (kID.putL m.i).length ≤ 1000000 := by unfold Kind.putL; rw [List.length_append]; have := puts_len_id m.i; have := enc_bd (m.i.length : Int); omega
  have S2 := cd_sum (Oct.enc m.k ++ Oct.enc m.t) (kID.putL m.i) (by rw [List.length_append]; have := enc_bd m.k; have := enc_bd m.t; omega)
  have HE : Hid (encM m = Oct.enc m.k ++ (Oct.enc m.t ++ kID.putL m.i)) := Lib.hid (by unfold encM lists optP; rw [e1, e2]; simp [hk, List.append_assoc])
  have S1 := cd_sum (Oct.enc m.k) (Oct.enc m.t) (by have := enc_bd m.k; have := enc_bd m.t; omega)
  have C0 := Lib.hid (rlay m.k fk)
  have C1 := Lib.hid (rlay m.t fn)
  have HT := Lib.hid fun W => rhast_any W m.k
  have HN := Lib.hid fun W => rhasn_any W m.k
  rw [e1] at HT
  rw [e2] at HN
  have b1 : (m.k == 1) = false := by rw [hk]; rfl
  have b4 : (m.k == 4) = true := by rw [hk]; rfl
  clear h hm mm fk fn e1 e2 HF hk hpl hlen
  generalize encM m = em at *
  generalize kID.putL m.i = pl at *
  generalize Oct.enc m.k = ek at *
  generalize Oct.enc m.t = et at *
  obtain ⟨k, t, n, lc, lb, li⟩ := m
  simp only [msgV] at *
  generalize hl1 : lc.length = l1 at *
  generalize hl2 : lb.length = l2 at *
  generalize hl3 : li.length = l3 at *
  clear hl1 hl2 hl3
  have T1 := Lib.hid (at1 w (.cells #[.int .i64 k, .int .i64 t, .int .i64 n, .slice A1 l1 c1, .slice A2 l2 c2, .slice A3 l3 c3] MT))
  have BE := Lib.hid (bel1 w (.cells #[.int .i64 k, .int .i64 t, .int .i64 n, .slice A1 l1 c1, .slice A2 l2 c2, .slice A3 l3 c3] MT))
  go_enter Tryz.func30, Tryz.ntmps30
  go_upto_region 1 with fail
  generalize w.alloc (.cells #[.int .i64 k, .int .i64 t, .int .i64 n, .slice A1 l1 c1, .slice A2 l2 c2, .slice A3 l3 c3] MT) = w1 at *
  obtain ⟨⟨m0, m1, m2, m3, m4, m5⟩, _⟩ := Bx.b6 T1.out
  go_wp2_with fail
  refine (MY.out w1 BE.out).mono ?_
  rintro e w2 ⟨rfl, hb⟩
  replace BE := Lib.hid (BE.out.trans (hb.mono BE.out.size))
  replace T1 := Lib.hid ((hb.block _ (lt_of_row T1.out)).trans T1.out)
  clear hb m0 m1 m2 m3 m4 m5 MY
  obtain ⟨⟨m0, m1, m2, m3, m4, m5⟩, _⟩ := Bx.b6 T1.out
  go_wp2_with fail
  refine (C0.out _).mono ?_
  rintro e w3 ⟨rfl, hb⟩
  replace BE := Lib.hid (BE.out.trans (hb.mono BE.out.size))
  replace T1 := Lib.hid ((hb.block _ (lt_of_row T1.out)).trans T1.out)
  clear hb m0 m1 m2 m3 m4 m5 C0
  obtain ⟨⟨m0, m1, m2, m3, m4, m5⟩, _⟩ := Bx.b6 T1.out
  go_wp2_with fail
  refine (HT.out _).mono ?_
  rintro e w' ⟨rfl, rfl⟩
  clear m0 m1 m2 m3 m4 m5 HT
  obtain ⟨⟨m0, m1, m2, m3, m4, m5⟩, _⟩ := Bx.b6 T1.out
  go_wp2_with fail
  refine (C1.out _).mono ?_
  rintro e w4 ⟨rfl, hb⟩
  replace BE := Lib.hid (BE.out.trans (hb.mono BE.out.size))
  replace T1 := Lib.hid ((hb.block _ (lt_of_row T1.out)).trans T1.out)
  clear hb m0 m1 m2 m3 m4 m5 C1
  obtain ⟨⟨m0, m1, m2, m3, m4, m5⟩, _⟩ := Bx.b6 T1.out
  go_wp2_with fail
  refine (HN.out _).mono ?_
  rintro e w' ⟨rfl, rfl⟩
  clear m0 m1 m2 m3 m4 m5 HN
  obtain ⟨⟨m0, m1, m2, m3, m4, m5⟩, _⟩ := Bx.b6 T1.out
  go_wp2_with fail
  refine (CL.out _ (MA.out _ BE.out)).mono ?_
  rintro e w5 ⟨rfl, hb⟩
  replace BE := Lib.hid (BE.out.trans (hb.mono BE.out.size))
  replace T1 := Lib.hid ((hb.block _ (lt_of_row T1.out)).trans T1.out)
  clear hb m0 m1 m2 m3 m4 m5 CL
  obtain ⟨⟨m0, m1, m2, m3, m4, m5⟩, _⟩ := Bx.b6 T1.out
  go_wp2
  go_ret2
  rw [HE.out]
  exact ⟨rfl, BE.out⟩
set_option maxHeartbeats 16000000 in
set_option maxRecDepth 100000 in
theorem rencode_4 {m : Mn} {A1 A2 A3 : Option Addr} {c1 c2 c3 : Nat} {w : World} (h : MsgAt m A1 A2 A3 w) (HF : MFit m) (hm : mayM m = true) (hk : m.k = 7) : Calls Tryz.prog 30 #[msgV m A1 c1 A2 c2 A3 c3] w fun e w' => e = .returned (.tuple #[.string ⟨(encM m).toArray⟩, .int .i64 0]) ∧ Below w.heap.size w w' := by
  have MY : Hid (∀ W, Below w.heap.size w W → Calls Tryz.prog 69 #[msgV m A1 c1 A2 c2 A3 c3] W fun e w' => e = .returned (.bool (mayM m)) ∧ Below W.heap.size W w') := Lib.hid fun W hW => rmay_msg (h.below hW) HF.mc HF.mb
  rw [hm] at MY
  have mm := (mayM_is m).1 hm
  have MA : Hid (∀ W, Below w.heap.size w W → MsgAt m A1 A2 A3 W) := Lib.hid fun W hW => h.below hW
  have e1 : hasT m.k = false := by rw [hk]; rfl
  have e2 : hasN m.k = true := by rw [hk]; rfl
  have fk : FitN m.k := ⟨by have := mm.k1; omega, by have := mm.k2; omega⟩
  have fn : FitN m.n := (time_fit mm.n).1 e2
  have hlen : m.b.length ≤ 1024 := by have := okL_len mm.ob; omega
  have CL : Hid (∀ W, MsgAt m A1 A2 A3 W → Calls Tryz.prog 18 #[.slice A2 m.b.length c2] W fun e w' => e = .returned (.string ⟨(kB.putL m.b).toArray⟩) ∧ Below W.heap.size W w') := Lib.hid fun W hW => rlist_b hW.b (by omega) HF.b
  have hpl : (kB.putL m.b).length ≤ 1000000 := by unfold Kind.putL; rw [List.length_append]; have := puts_len_b m.b; have := enc_bd (m.b.length : Int); omega
  have S2 := cd_sum (Oct.enc m.k ++ Oct.enc m.n) (kB.putL m.b) (by rw [List.length_append]; have := enc_bd m.k; have := enc_bd m.n; omega)
  have HE : Hid (encM m = Oct.enc m.k ++ (Oct.enc m.n ++ kB.putL m.b)) := Lib.hid (by unfold encM lists optP; rw [e1, e2]; simp [hk, List.append_assoc])
  have S1 := cd_sum (Oct.enc m.k) (Oct.enc m.n) (by have := enc_bd m.k; have := enc_bd m.n; omega)
  have C0 := Lib.hid (rlay m.k fk)
  have C1 := Lib.hid (rlay m.n fn)
  have HT := Lib.hid fun W => rhast_any W m.k
  have HN := Lib.hid fun W => rhasn_any W m.k
  rw [e1] at HT
  rw [e2] at HN
  have b1 : (m.k == 1) = false := by rw [hk]; rfl
  have b4 : (m.k == 4) = false := by rw [hk]; rfl
  have b7 : (m.k == 7) = true := by rw [hk]; rfl
  clear h hm mm fk fn e1 e2 HF hk hpl hlen
  generalize encM m = em at *
  generalize kB.putL m.b = pl at *
  generalize Oct.enc m.k = ek at *
  generalize Oct.enc m.n = et at *
  obtain ⟨k, t, n, lc, lb, li⟩ := m
  simp only [msgV] at *
  generalize hl1 : lc.length = l1 at *
  generalize hl2 : lb.length = l2 at *
  generalize hl3 : li.length = l3 at *
  clear hl1 hl2 hl3
  have T1 := Lib.hid (at1 w (.cells #[.int .i64 k, .int .i64 t, .int .i64 n, .slice A1 l1 c1, .slice A2 l2 c2, .slice A3 l3 c3] MT))
  have BE := Lib.hid (bel1 w (.cells #[.int .i64 k, .int .i64 t, .int .i64 n, .slice A1 l1 c1, .slice A2 l2 c2, .slice A3 l3 c3] MT))
  go_enter Tryz.func30, Tryz.ntmps30
  go_upto_region 1 with fail
  generalize w.alloc (.cells #[.int .i64 k, .int .i64 t, .int .i64 n, .slice A1 l1 c1, .slice A2 l2 c2, .slice A3 l3 c3] MT) = w1 at *
  obtain ⟨⟨m0, m1, m2, m3, m4, m5⟩, _⟩ := Bx.b6 T1.out
  go_wp2_with fail
  refine (MY.out w1 BE.out).mono ?_
  rintro e w2 ⟨rfl, hb⟩
  replace BE := Lib.hid (BE.out.trans (hb.mono BE.out.size))
  replace T1 := Lib.hid ((hb.block _ (lt_of_row T1.out)).trans T1.out)
  clear hb m0 m1 m2 m3 m4 m5 MY
  obtain ⟨⟨m0, m1, m2, m3, m4, m5⟩, _⟩ := Bx.b6 T1.out
  go_wp2_with fail
  refine (C0.out _).mono ?_
  rintro e w3 ⟨rfl, hb⟩
  replace BE := Lib.hid (BE.out.trans (hb.mono BE.out.size))
  replace T1 := Lib.hid ((hb.block _ (lt_of_row T1.out)).trans T1.out)
  clear hb m0 m1 m2 m3 m4 m5 C0
  obtain ⟨⟨m0, m1, m2, m3, m4, m5⟩, _⟩ := Bx.b6 T1.out
  go_wp2_with fail
  refine (HT.out _).mono ?_
  rintro e w' ⟨rfl, rfl⟩
  clear m0 m1 m2 m3 m4 m5 HT
  obtain ⟨⟨m0, m1, m2, m3, m4, m5⟩, _⟩ := Bx.b6 T1.out
  go_wp2_with fail
  refine (HN.out _).mono ?_
  rintro e w' ⟨rfl, rfl⟩
  clear m0 m1 m2 m3 m4 m5 HN
  obtain ⟨⟨m0, m1, m2, m3, m4, m5⟩, _⟩ := Bx.b6 T1.out
  go_wp2_with fail
  refine (C1.out _).mono ?_
  rintro e w4 ⟨rfl, hb⟩
  replace BE := Lib.hid (BE.out.trans (hb.mono BE.out.size))
  replace T1 := Lib.hid ((hb.block _ (lt_of_row T1.out)).trans T1.out)
  clear hb m0 m1 m2 m3 m4 m5 C1
  obtain ⟨⟨m0, m1, m2, m3, m4, m5⟩, _⟩ := Bx.b6 T1.out
  go_wp2_with fail
  refine (CL.out _ (MA.out _ BE.out)).mono ?_
  rintro e w5 ⟨rfl, hb⟩
  replace BE := Lib.hid (BE.out.trans (hb.mono BE.out.size))
  replace T1 := Lib.hid ((hb.block _ (lt_of_row T1.out)).trans T1.out)
  clear hb m0 m1 m2 m3 m4 m5 CL
  obtain ⟨⟨m0, m1, m2, m3, m4, m5⟩, _⟩ := Bx.b6 T1.out
  go_wp2
  go_ret2
  rw [HE.out]
  exact ⟨rfl, BE.out⟩
set_option maxHeartbeats 16000000 in
set_option maxRecDepth 100000 in
theorem rencode_5 {m : Mn} {A1 A2 A3 : Option Addr} {c1 c2 c3 : Nat} {w : World} (h : MsgAt m A1 A2 A3 w) (HF : MFit m) (hm : mayM m = true) (h1 : m.k ≠ 1) (h4 : m.k ≠ 4) (h7 : m.k ≠ 7) (h12 : m.k ≠ 12) (ht : hasT m.k = false) : Calls Tryz.prog 30 #[msgV m A1 c1 A2 c2 A3 c3] w fun e w' => e = .returned (.tuple #[.string ⟨(encM m).toArray⟩, .int .i64 0]) ∧ Below w.heap.size w w' := by
  have MY : Hid (∀ W, Below w.heap.size w W → Calls Tryz.prog 69 #[msgV m A1 c1 A2 c2 A3 c3] W fun e w' => e = .returned (.bool (mayM m)) ∧ Below W.heap.size W w') := Lib.hid fun W hW => rmay_msg (h.below hW) HF.mc HF.mb
  rw [hm] at MY
  have mm := (mayM_is m).1 hm
  have MA : Hid (∀ W, Below w.heap.size w W → MsgAt m A1 A2 A3 W) := Lib.hid fun W hW => h.below hW
  have e1 : hasT m.k = false := ht
  have e2 : hasN m.k = true := by
    have q1 := mm.k1
    have q2 := mm.k2
    have e1' := e1
    unfold hasT at e1'
    unfold hasN
    simp at e1' ⊢
    omega
  have fk : FitN m.k := ⟨by have := mm.k1; omega, by have := mm.k2; omega⟩
  have fn : FitN m.n := (time_fit mm.n).1 e2
  have HE : Hid (encM m = Oct.enc m.k ++ Oct.enc m.n) := Lib.hid (by unfold encM lists optP; rw [e1, e2]; simp [h1, h4, h7, h12])
  have S1 := cd_sum (Oct.enc m.k) (Oct.enc m.n) (by have := enc_bd m.k; have := enc_bd m.n; omega)
  have C0 := Lib.hid (rlay m.k fk)
  have C1 := Lib.hid (rlay m.n fn)
  have HT := Lib.hid fun W => rhast_any W m.k
  have HN := Lib.hid fun W => rhasn_any W m.k
  rw [e1] at HT
  rw [e2] at HN
  have b1 : (m.k == 1) = false := by simpa using h1
  have b4 : (m.k == 4) = false := by simpa using h4
  have b7 : (m.k == 7) = false := by simpa using h7
  have b12 : (m.k == 12) = false := by simpa using h12
  clear h hm mm fk fn e1 e2 HF h1 h4 h7 h12 ht 
  generalize encM m = em at *
  generalize Oct.enc m.k = ek at *
  generalize Oct.enc m.n = et at *
  obtain ⟨k, t, n, lc, lb, li⟩ := m
  simp only [msgV] at *
  generalize hl1 : lc.length = l1 at *
  generalize hl2 : lb.length = l2 at *
  generalize hl3 : li.length = l3 at *
  clear hl1 hl2 hl3
  have T1 := Lib.hid (at1 w (.cells #[.int .i64 k, .int .i64 t, .int .i64 n, .slice A1 l1 c1, .slice A2 l2 c2, .slice A3 l3 c3] MT))
  have BE := Lib.hid (bel1 w (.cells #[.int .i64 k, .int .i64 t, .int .i64 n, .slice A1 l1 c1, .slice A2 l2 c2, .slice A3 l3 c3] MT))
  go_enter Tryz.func30, Tryz.ntmps30
  go_upto_region 1 with fail
  generalize w.alloc (.cells #[.int .i64 k, .int .i64 t, .int .i64 n, .slice A1 l1 c1, .slice A2 l2 c2, .slice A3 l3 c3] MT) = w1 at *
  obtain ⟨⟨m0, m1, m2, m3, m4, m5⟩, _⟩ := Bx.b6 T1.out
  go_wp2_with fail
  refine (MY.out w1 BE.out).mono ?_
  rintro e w2 ⟨rfl, hb⟩
  replace BE := Lib.hid (BE.out.trans (hb.mono BE.out.size))
  replace T1 := Lib.hid ((hb.block _ (lt_of_row T1.out)).trans T1.out)
  clear hb m0 m1 m2 m3 m4 m5 MY
  obtain ⟨⟨m0, m1, m2, m3, m4, m5⟩, _⟩ := Bx.b6 T1.out
  go_wp2_with fail
  refine (C0.out _).mono ?_
  rintro e w3 ⟨rfl, hb⟩
  replace BE := Lib.hid (BE.out.trans (hb.mono BE.out.size))
  replace T1 := Lib.hid ((hb.block _ (lt_of_row T1.out)).trans T1.out)
  clear hb m0 m1 m2 m3 m4 m5 C0
  obtain ⟨⟨m0, m1, m2, m3, m4, m5⟩, _⟩ := Bx.b6 T1.out
  go_wp2_with fail
  refine (HT.out _).mono ?_
  rintro e w' ⟨rfl, rfl⟩
  clear m0 m1 m2 m3 m4 m5 HT
  obtain ⟨⟨m0, m1, m2, m3, m4, m5⟩, _⟩ := Bx.b6 T1.out
  go_wp2_with fail
  refine (HN.out _).mono ?_
  rintro e w' ⟨rfl, rfl⟩
  clear m0 m1 m2 m3 m4 m5 HN
  obtain ⟨⟨m0, m1, m2, m3, m4, m5⟩, _⟩ := Bx.b6 T1.out
  go_wp2_with fail
  refine (C1.out _).mono ?_
  rintro e w4 ⟨rfl, hb⟩
  replace BE := Lib.hid (BE.out.trans (hb.mono BE.out.size))
  replace T1 := Lib.hid ((hb.block _ (lt_of_row T1.out)).trans T1.out)
  clear hb m0 m1 m2 m3 m4 m5 C1
  obtain ⟨⟨m0, m1, m2, m3, m4, m5⟩, _⟩ := Bx.b6 T1.out
  go_wp2
  go_ret2
  rw [HE.out]
  exact ⟨rfl, BE.out⟩
set_option maxHeartbeats 16000000 in
set_option maxRecDepth 100000 in
theorem rencode_6 {m : Mn} {A1 A2 A3 : Option Addr} {c1 c2 c3 : Nat} {w : World} (h : MsgAt m A1 A2 A3 w) (HF : MFit m) (hm : mayM m = true) (hk : m.k = 12) : Calls Tryz.prog 30 #[msgV m A1 c1 A2 c2 A3 c3] w fun e w' => e = .returned (.tuple #[.string ⟨(encM m).toArray⟩, .int .i64 0]) ∧ Below w.heap.size w w' := by
  have MY : Hid (∀ W, Below w.heap.size w W → Calls Tryz.prog 69 #[msgV m A1 c1 A2 c2 A3 c3] W fun e w' => e = .returned (.bool (mayM m)) ∧ Below W.heap.size W w') := Lib.hid fun W hW => rmay_msg (h.below hW) HF.mc HF.mb
  rw [hm] at MY
  have mm := (mayM_is m).1 hm
  have MA : Hid (∀ W, Below w.heap.size w W → MsgAt m A1 A2 A3 W) := Lib.hid fun W hW => h.below hW
  have e1 : hasT m.k = true := by rw [hk]; rfl
  have e2 : hasN m.k = false := by rw [hk]; rfl
  have fk : FitN m.k := ⟨by have := mm.k1; omega, by have := mm.k2; omega⟩
  have fn : FitN m.t := (time_fit mm.t).1 e1
  have hlen : m.b.length ≤ 1024 := by have := okL_len mm.ob; omega
  have CL : Hid (∀ W, MsgAt m A1 A2 A3 W → Calls Tryz.prog 18 #[.slice A2 m.b.length c2] W fun e w' => e = .returned (.string ⟨(kB.putL m.b).toArray⟩) ∧ Below W.heap.size W w') := Lib.hid fun W hW => rlist_b hW.b (by omega) HF.b
  have hpl : (kB.putL m.b).length ≤ 1000000 := by unfold Kind.putL; rw [List.length_append]; have := puts_len_b m.b; have := enc_bd (m.b.length : Int); omega
  have S2 := cd_sum (Oct.enc m.k ++ Oct.enc m.t) (kB.putL m.b) (by rw [List.length_append]; have := enc_bd m.k; have := enc_bd m.t; omega)
  have HE : Hid (encM m = Oct.enc m.k ++ (Oct.enc m.t ++ kB.putL m.b)) := Lib.hid (by unfold encM lists optP; rw [e1, e2]; simp [hk, List.append_assoc])
  have S1 := cd_sum (Oct.enc m.k) (Oct.enc m.t) (by have := enc_bd m.k; have := enc_bd m.t; omega)
  have C0 := Lib.hid (rlay m.k fk)
  have C1 := Lib.hid (rlay m.t fn)
  have HT := Lib.hid fun W => rhast_any W m.k
  have HN := Lib.hid fun W => rhasn_any W m.k
  rw [e1] at HT
  rw [e2] at HN
  have b1 : (m.k == 1) = false := by rw [hk]; rfl
  have b4 : (m.k == 4) = false := by rw [hk]; rfl
  have b7 : (m.k == 7) = false := by rw [hk]; rfl
  have b12 : (m.k == 12) = true := by rw [hk]; rfl
  clear h hm mm fk fn e1 e2 HF hk hpl hlen
  generalize encM m = em at *
  generalize kB.putL m.b = pl at *
  generalize Oct.enc m.k = ek at *
  generalize Oct.enc m.t = et at *
  obtain ⟨k, t, n, lc, lb, li⟩ := m
  simp only [msgV] at *
  generalize hl1 : lc.length = l1 at *
  generalize hl2 : lb.length = l2 at *
  generalize hl3 : li.length = l3 at *
  clear hl1 hl2 hl3
  have T1 := Lib.hid (at1 w (.cells #[.int .i64 k, .int .i64 t, .int .i64 n, .slice A1 l1 c1, .slice A2 l2 c2, .slice A3 l3 c3] MT))
  have BE := Lib.hid (bel1 w (.cells #[.int .i64 k, .int .i64 t, .int .i64 n, .slice A1 l1 c1, .slice A2 l2 c2, .slice A3 l3 c3] MT))
  go_enter Tryz.func30, Tryz.ntmps30
  go_upto_region 1 with fail
  generalize w.alloc (.cells #[.int .i64 k, .int .i64 t, .int .i64 n, .slice A1 l1 c1, .slice A2 l2 c2, .slice A3 l3 c3] MT) = w1 at *
  obtain ⟨⟨m0, m1, m2, m3, m4, m5⟩, _⟩ := Bx.b6 T1.out
  go_wp2_with fail
  refine (MY.out w1 BE.out).mono ?_
  rintro e w2 ⟨rfl, hb⟩
  replace BE := Lib.hid (BE.out.trans (hb.mono BE.out.size))
  replace T1 := Lib.hid ((hb.block _ (lt_of_row T1.out)).trans T1.out)
  clear hb m0 m1 m2 m3 m4 m5 MY
  obtain ⟨⟨m0, m1, m2, m3, m4, m5⟩, _⟩ := Bx.b6 T1.out
  go_wp2_with fail
  refine (C0.out _).mono ?_
  rintro e w3 ⟨rfl, hb⟩
  replace BE := Lib.hid (BE.out.trans (hb.mono BE.out.size))
  replace T1 := Lib.hid ((hb.block _ (lt_of_row T1.out)).trans T1.out)
  clear hb m0 m1 m2 m3 m4 m5 C0
  obtain ⟨⟨m0, m1, m2, m3, m4, m5⟩, _⟩ := Bx.b6 T1.out
  go_wp2_with fail
  refine (HT.out _).mono ?_
  rintro e w' ⟨rfl, rfl⟩
  clear m0 m1 m2 m3 m4 m5 HT
  obtain ⟨⟨m0, m1, m2, m3, m4, m5⟩, _⟩ := Bx.b6 T1.out
  go_wp2_with fail
  refine (C1.out _).mono ?_
  rintro e w4 ⟨rfl, hb⟩
  replace BE := Lib.hid (BE.out.trans (hb.mono BE.out.size))
  replace T1 := Lib.hid ((hb.block _ (lt_of_row T1.out)).trans T1.out)
  clear hb m0 m1 m2 m3 m4 m5 C1
  obtain ⟨⟨m0, m1, m2, m3, m4, m5⟩, _⟩ := Bx.b6 T1.out
  go_wp2_with fail
  refine (HN.out _).mono ?_
  rintro e w' ⟨rfl, rfl⟩
  clear m0 m1 m2 m3 m4 m5 HN
  obtain ⟨⟨m0, m1, m2, m3, m4, m5⟩, _⟩ := Bx.b6 T1.out
  go_wp2_with fail
  refine (CL.out _ (MA.out _ BE.out)).mono ?_
  rintro e w5 ⟨rfl, hb⟩
  replace BE := Lib.hid (BE.out.trans (hb.mono BE.out.size))
  replace T1 := Lib.hid ((hb.block _ (lt_of_row T1.out)).trans T1.out)
  clear hb m0 m1 m2 m3 m4 m5 CL
  obtain ⟨⟨m0, m1, m2, m3, m4, m5⟩, _⟩ := Bx.b6 T1.out
  go_wp2
  go_ret2
  rw [HE.out]
  exact ⟨rfl, BE.out⟩
theorem rencode_any {m : Mn} {A1 A2 A3 : Option Addr} {c1 c2 c3 : Nat} {w : World} (h : MsgAt m A1 A2 A3 w) (HF : MFit m) : Calls Tryz.prog 30 #[msgV m A1 c1 A2 c2 A3 c3] w fun e w' => e = .returned (encR m) ∧ Below w.heap.size w w' := by
  unfold encR
  cases hm : mayM m with
  | false => rw [if_neg (by decide)]; exact rencode_no h HF hm
  | true =>
    rw [if_pos rfl]
    by_cases h1 : m.k = 1
    · exact rencode_1 h HF hm h1
    · by_cases h4 : m.k = 4
      · exact rencode_3 h HF hm h4
      · by_cases h7 : m.k = 7
        · exact rencode_4 h HF hm h7
        · by_cases h12 : m.k = 12
          · exact rencode_6 h HF hm h12
          · cases ht : hasT m.k with
            | true => exact rencode_2 h HF hm h1 h4 h7 h12 ht
            | false => exact rencode_5 h HF hm h1 h4 h7 h12 ht
end Go.Proofs.YtdhlebmgeiiejaaGreat
