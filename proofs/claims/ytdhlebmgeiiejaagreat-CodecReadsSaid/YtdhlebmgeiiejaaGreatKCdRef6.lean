/- The document's codec: an entity is taken. Written by wip/tools/gencdtb.py. -/
import Derived.Test.YtdhlebmgeiiejaaGreatKCdRef5
import Derived.Test.YtdhlebmgeiiejaaGreatKPz
namespace Go.Proofs.YtdhlebmgeiiejaaGreat
open Go.RowKit Pz Cd
set_option linter.unusedVariables false
set_option linter.unusedSimpArgs false

theorem Cd.takeRest_fit (q : Rr) : Fit (takeRest q).1.m := by
  unfold takeRest
  simp only
  split
  · exact ⟨by decide, by decide⟩
  · exact tInt_fit q
theorem Cd.takeB_fit (q : Rr) : Fit (takeB q).1.m := by
  unfold takeB
  simp only
  split
  · exact ⟨by decide, by decide⟩
  · exact takeRest_fit _
set_option maxHeartbeats 16000000 in
set_option maxRecDepth 100000 in
theorem rtakebundle_any {b : Nat} {w : World} {q : Rr} (h : RQ b w q w) : Calls Tryz.prog 13 #[.pointer (some ⟨b, 0, none⟩)] w fun e W' => e = .returned (takeB q).1.val ∧ RQ b w (takeB q).2 W' := by
  have TI : Hid (∀ W, RQ b w q W → Calls Tryz.prog 10 #[.pointer (some ⟨b, 0, none⟩)] W fun e W' => e = .returned (.agg #[.int .i64 (takeID q).1.1, .int .i64 (takeID q).1.2.1, .int .i64 (takeID q).1.2.2]) ∧ RQ b w (takeID q).2 W' ∧ W.grownBy W' (some b)) := Lib.hid fun W hW => (rtakeid_any hW.rebase).mono fun e W' ⟨h1, h2⟩ => ⟨h1, hW.trans h2, h2.grow⟩
  have TR : Hid (∀ W, RQ b w (takeID q).2 W → Calls Tryz.prog 47 #[.pointer (some ⟨b, 0, none⟩)] W fun e W' => e = .returned (takeRest (takeID q).2).1.val ∧ RQ b w (takeRest (takeID q).2).2 W' ∧ W.grownBy W' (some b)) := Lib.hid fun W hW => (rtakerest_any hW.rebase).mono fun e W' ⟨h1, h2⟩ => ⟨h1, hW.trans h2, h2.grow⟩
  have HT : takeB q = if (takeRest (takeID q).2).2.bad || !may { (takeRest (takeID q).2).1 with s := (takeID q).1.1, i := (takeID q).1.2.1, g := (takeID q).1.2.2 } then (zeroB, Rr.no) else ({ (takeRest (takeID q).2).1 with s := (takeID q).1.1, i := (takeID q).1.2.1, g := (takeID q).1.2.2 }, (takeRest (takeID q).2).2) := rfl
  have FT := takeRest_fit (takeID q).2
  rw [HT]
  clear HT
  generalize takeRest (takeID q).2 = r at *
  generalize takeID q = p at *
  obtain ⟨⟨k1, k2, k3⟩, q1⟩ := p
  obtain ⟨x, s3, b3⟩ := r
  obtain ⟨xs, xi, xg, xm, xx, xy, xvx, xvy, xh, xp, xl⟩ := x
  simp only [Bn.val] at TI TR FT ⊢
  have MY := Lib.hid fun W => may_any ⟨k1, k2, k3, xm, xx, xy, xvx, xvy, xh, xp, xl⟩ FT W
  simp only [Bn.val] at MY
  generalize may ⟨k1, k2, k3, xm, xx, xy, xvx, xvy, xh, xp, xl⟩ = ry at *
  clear FT
  have BAD := Lib.hid fun W (hW : RQ b w ⟨s3, b3⟩ W) => rbad_any hW
  have hb := h.lt
  have B0 := Lib.hid (at1 w (.cells #[.int .i64 0, .int .i64 0, .int .i64 0, .int .i64 0, .int .i64 0, .int .i64 0, .int .i64 0, .int .i64 0, .int .i64 0, .int .i64 0, .int .i64 0] BT))
  have HR := Lib.hid (h.below (bel1 w (.cells #[.int .i64 0, .int .i64 0, .int .i64 0, .int .i64 0, .int .i64 0, .int .i64 0, .int .i64 0, .int .i64 0, .int .i64 0, .int .i64 0, .int .i64 0] BT)))
  have HS : w.heap.size < (w.alloc (.cells #[.int .i64 0, .int .i64 0, .int .i64 0, .int .i64 0, .int .i64 0, .int .i64 0, .int .i64 0, .int .i64 0, .int .i64 0, .int .i64 0, .int .i64 0] BT)).heap.size := lt_of_row (at1 w (.cells #[.int .i64 0, .int .i64 0, .int .i64 0, .int .i64 0, .int .i64 0, .int .i64 0, .int .i64 0, .int .i64 0, .int .i64 0, .int .i64 0, .int .i64 0] BT))
  clear h
  go_enter Tryz.func13, Tryz.ntmps13
  go_wp2_with fail
  generalize w.alloc (.cells #[.int .i64 0, .int .i64 0, .int .i64 0, .int .i64 0, .int .i64 0, .int .i64 0, .int .i64 0, .int .i64 0, .int .i64 0, .int .i64 0, .int .i64 0] BT) = wa at *
  refine (TI.out _ HR.out).mono ?_
  rintro e w1 ⟨rfl, r1, g1⟩
  replace B0 := Lib.hid ((g1.block _ (lt_of_row B0.out) (by simp; omega)).trans B0.out)
  replace HS := Nat.lt_of_lt_of_le HS g1.size
  clear HR g1 TI
  have T1 := Lib.hid (at1 w1 (.cells #[.int .i64 k1, .int .i64 k2, .int .i64 k3] IT))
  have hb1 := bel1 w1 (.cells #[.int .i64 k1, .int .i64 k2, .int .i64 k3] IT)
  have HR := Lib.hid (r1.below hb1)
  replace B0 := Lib.hid ((hb1.block _ (lt_of_row B0.out)).trans B0.out)
  have ho1 : w1.heap.size ≠ b := by have := lt_of_row r1.rd; omega
  have hs1 := hb1.size
  clear r1 hb1
  go_wp2_with fail
  generalize w1.alloc (.cells #[.int .i64 k1, .int .i64 k2, .int .i64 k3] IT) = w2 at *
  refine (TR.out _ HR.out).mono ?_
  rintro e w3 ⟨rfl, r3, g3⟩
  replace B0 := Lib.hid ((g3.block _ (lt_of_row B0.out) (by simp; omega)).trans B0.out)
  replace T1 := Lib.hid ((g3.block _ (lt_of_row T1.out) (by simp; omega)).trans T1.out)
  have hs3 := g3.size
  clear HR g3 TR
  have T2 := Lib.hid (at1 w3 (.cells #[.int .i64 xs, .int .i64 xi, .int .i64 xg, .int .i64 xm, .int .i64 xx, .int .i64 xy, .int .i64 xvx, .int .i64 xvy, .int .i64 xh, .int .i64 xp, .int .i64 xl] BT))
  have hb3 := bel1 w3 (.cells #[.int .i64 xs, .int .i64 xi, .int .i64 xg, .int .i64 xm, .int .i64 xx, .int .i64 xy, .int .i64 xvx, .int .i64 xvy, .int .i64 xh, .int .i64 xp, .int .i64 xl] BT)
  have HR := Lib.hid (r3.below hb3)
  replace B0 := Lib.hid ((hb3.block _ (lt_of_row B0.out)).trans B0.out)
  replace T1 := Lib.hid ((hb3.block _ (lt_of_row T1.out)).trans T1.out)
  have ho2 : w.heap.size < w3.heap.size := by omega
  clear r3 hb3
  go_upto_region 3 with fail
  generalize w3.alloc (.cells #[.int .i64 xs, .int .i64 xi, .int .i64 xg, .int .i64 xm, .int .i64 xx, .int .i64 xy, .int .i64 xvx, .int .i64 xvy, .int .i64 xh, .int .i64 xp, .int .i64 xl] BT) = w4 at *
  generalize w3.heap.size = o2 at *
  generalize w1.heap.size = o1 at *
  obtain ⟨⟨i0, i1, i2⟩, _⟩ := Bx.b3 T1.out
  obtain ⟨⟨a0, a1, a2, a3, a4, a5, a6, a7, a8, a9, a10⟩, ⟨f0, f1, f2, f3, f4, f5, f6, f7, f8, f9, f10⟩⟩ := Bx.b11 T2.out
  go_upto_region 4 with fail
  clear i0 i1 i2 a0 a1 a2 a3 a4 a5 a6 a7 a8 a9 a10 f0 f1 f2 f3 f4 f5 f6 f7 f8 f9 f10 T1
  have T3 : (((w4.setCell ⟨o2, 0, none⟩ (.int .i64 k1)).setCell ⟨o2, 1, none⟩ (.int .i64 k2)).setCell ⟨o2, 2, none⟩ (.int .i64 k3)).heap[o2]? = some (.cells #[.int .i64 k1, .int .i64 k2, .int .i64 k3, .int .i64 xm, .int .i64 xx, .int .i64 xy, .int .i64 xvx, .int .i64 xvy, .int .i64 xh, .int .i64 xp, .int .i64 xl] BT (0, 0)) := Bx.set (Bx.set (Bx.set T2.out _) _) _
  replace T2 := Lib.hid T3
  clear T3
  have hle : w.heap.size ≤ o2 := Nat.le_of_lt ho2
  replace HR := Lib.hid (((HR.out.set hle 0 (.int .i64 k1)).set hle 1 (.int .i64 k2)).set hle 2 (.int .i64 k3))
  have T4 : (((w4.setCell ⟨o2, 0, none⟩ (.int .i64 k1)).setCell ⟨o2, 1, none⟩ (.int .i64 k2)).setCell ⟨o2, 2, none⟩ (.int .i64 k3)).heap[w.heap.size]? = some (.cells #[.int .i64 0, .int .i64 0, .int .i64 0, .int .i64 0, .int .i64 0, .int .i64 0, .int .i64 0, .int .i64 0, .int .i64 0, .int .i64 0, .int .i64 0] BT (0, 0)) := (Bx.ne (by omega) _).trans ((Bx.ne (by omega) _).trans ((Bx.ne (by omega) _).trans B0.out))
  replace B0 := Lib.hid T4
  clear T4 hle
  generalize ((w4.setCell ⟨o2, 0, none⟩ (.int .i64 k1)).setCell ⟨o2, 1, none⟩ (.int .i64 k2)).setCell ⟨o2, 2, none⟩ (.int .i64 k3) = w5 at *
  have QB := HR.out.rd.c1
  obtain ⟨⟨a0, a1, a2, a3, a4, a5, a6, a7, a8, a9, a10⟩, _⟩ := Bx.b11 T2.out
  cases b3 with
  | true =>
    clear MY
    go_wp2_with fail
    refine (BAD.out _ HR.out).mono ?_
    rintro e w7 ⟨rfl, r7, g7⟩
    replace B0 := Lib.hid ((g7.block _ (lt_of_row B0.out) (by simp; omega)).trans B0.out)
    clear HR g7 BAD QB T2 a0 a1 a2 a3 a4 a5 a6 a7 a8 a9 a10
    have HR := Lib.hid r7
    clear r7
    obtain ⟨⟨l0, l1, l2, l3, l4, l5, l6, l7, l8, l9, l10⟩, ⟨f0, f1, f2, f3, f4, f5, f6, f7, f8, f9, f10⟩⟩ := Bx.b11 B0.out
    have HP := Lib.hid (Bx.b11 (Bx.set11 B0.out (.int .i64 0) (.int .i64 0) (.int .i64 0) (.int .i64 0) (.int .i64 0) (.int .i64 0) (.int .i64 0) (.int .i64 0) (.int .i64 0) (.int .i64 0) (.int .i64 0))).1
    have HQ := Lib.hid (RX.set (RX.set (RX.set (RX.set (RX.set (RX.set (RX.set (RX.set (RX.set (RX.set (RX.set HR.out (Nat.le_refl _) 0 (.int .i64 0)) (Nat.le_refl _) 1 (.int .i64 0)) (Nat.le_refl _) 2 (.int .i64 0)) (Nat.le_refl _) 3 (.int .i64 0)) (Nat.le_refl _) 4 (.int .i64 0)) (Nat.le_refl _) 5 (.int .i64 0)) (Nat.le_refl _) 6 (.int .i64 0)) (Nat.le_refl _) 7 (.int .i64 0)) (Nat.le_refl _) 8 (.int .i64 0)) (Nat.le_refl _) 9 (.int .i64 0)) (Nat.le_refl _) 10 (.int .i64 0))
    clear HR B0
    go_wp2
    obtain ⟨p0, p1, p2, p3, p4, p5, p6, p7, p8, p9, p10⟩ := HP.out
    exact bodyPost_ret (v := .agg #[.int .i64 0, .int .i64 0, .int .i64 0, .int .i64 0, .int .i64 0, .int .i64 0, .int .i64 0, .int .i64 0, .int .i64 0, .int .i64 0, .int .i64 0]) (by simp [results, Tryz.results13, go_sem, p0, p1, p2, p3, p4, p5, p6, p7, p8, p9, p10]) rfl ⟨rfl, HQ.out⟩
  | false =>
    cases ry with
    | false =>
      go_wp2_with fail
      refine (MY.out _).mono ?_
      rintro e w6 ⟨rfl, hb6⟩
      replace B0 := Lib.hid ((hb6.block _ (lt_of_row B0.out)).trans B0.out)
      replace HR := Lib.hid (HR.out.below hb6)
      clear hb6 MY
      go_wp2_with fail
      refine (BAD.out _ HR.out).mono ?_
      rintro e w7 ⟨rfl, r7, g7⟩
      replace B0 := Lib.hid ((g7.block _ (lt_of_row B0.out) (by simp; omega)).trans B0.out)
      clear HR g7 BAD QB T2 a0 a1 a2 a3 a4 a5 a6 a7 a8 a9 a10
      have HR := Lib.hid r7
      clear r7
      obtain ⟨⟨l0, l1, l2, l3, l4, l5, l6, l7, l8, l9, l10⟩, ⟨f0, f1, f2, f3, f4, f5, f6, f7, f8, f9, f10⟩⟩ := Bx.b11 B0.out
      have HP := Lib.hid (Bx.b11 (Bx.set11 B0.out (.int .i64 0) (.int .i64 0) (.int .i64 0) (.int .i64 0) (.int .i64 0) (.int .i64 0) (.int .i64 0) (.int .i64 0) (.int .i64 0) (.int .i64 0) (.int .i64 0))).1
      have HQ := Lib.hid (RX.set (RX.set (RX.set (RX.set (RX.set (RX.set (RX.set (RX.set (RX.set (RX.set (RX.set HR.out (Nat.le_refl _) 0 (.int .i64 0)) (Nat.le_refl _) 1 (.int .i64 0)) (Nat.le_refl _) 2 (.int .i64 0)) (Nat.le_refl _) 3 (.int .i64 0)) (Nat.le_refl _) 4 (.int .i64 0)) (Nat.le_refl _) 5 (.int .i64 0)) (Nat.le_refl _) 6 (.int .i64 0)) (Nat.le_refl _) 7 (.int .i64 0)) (Nat.le_refl _) 8 (.int .i64 0)) (Nat.le_refl _) 9 (.int .i64 0)) (Nat.le_refl _) 10 (.int .i64 0))
      clear HR B0
      go_wp2
      obtain ⟨p0, p1, p2, p3, p4, p5, p6, p7, p8, p9, p10⟩ := HP.out
      exact bodyPost_ret (v := .agg #[.int .i64 0, .int .i64 0, .int .i64 0, .int .i64 0, .int .i64 0, .int .i64 0, .int .i64 0, .int .i64 0, .int .i64 0, .int .i64 0, .int .i64 0]) (by simp [results, Tryz.results13, go_sem, p0, p1, p2, p3, p4, p5, p6, p7, p8, p9, p10]) rfl ⟨rfl, HQ.out⟩
    | true =>
      go_wp2_with fail
      refine (MY.out _).mono ?_
      rintro e w6 ⟨rfl, hb6⟩
      replace B0 := Lib.hid ((hb6.block _ (lt_of_row B0.out)).trans B0.out)
      replace T2 := Lib.hid ((hb6.block _ (lt_of_row T2.out)).trans T2.out)
      replace HR := Lib.hid (HR.out.below hb6)
      clear hb6 MY QB BAD a0 a1 a2 a3 a4 a5 a6 a7 a8 a9 a10
      obtain ⟨⟨a0, a1, a2, a3, a4, a5, a6, a7, a8, a9, a10⟩, _⟩ := Bx.b11 T2.out
      obtain ⟨⟨l0, l1, l2, l3, l4, l5, l6, l7, l8, l9, l10⟩, ⟨f0, f1, f2, f3, f4, f5, f6, f7, f8, f9, f10⟩⟩ := Bx.b11 B0.out
      have HP := Lib.hid (Bx.b11 (Bx.set11 B0.out (.int .i64 k1) (.int .i64 k2) (.int .i64 k3) (.int .i64 xm) (.int .i64 xx) (.int .i64 xy) (.int .i64 xvx) (.int .i64 xvy) (.int .i64 xh) (.int .i64 xp) (.int .i64 xl))).1
      have HQ := Lib.hid (RX.set (RX.set (RX.set (RX.set (RX.set (RX.set (RX.set (RX.set (RX.set (RX.set (RX.set HR.out (Nat.le_refl _) 0 (.int .i64 k1)) (Nat.le_refl _) 1 (.int .i64 k2)) (Nat.le_refl _) 2 (.int .i64 k3)) (Nat.le_refl _) 3 (.int .i64 xm)) (Nat.le_refl _) 4 (.int .i64 xx)) (Nat.le_refl _) 5 (.int .i64 xy)) (Nat.le_refl _) 6 (.int .i64 xvx)) (Nat.le_refl _) 7 (.int .i64 xvy)) (Nat.le_refl _) 8 (.int .i64 xh)) (Nat.le_refl _) 9 (.int .i64 xp)) (Nat.le_refl _) 10 (.int .i64 xl))
      clear HR B0
      go_wp2
      obtain ⟨p0, p1, p2, p3, p4, p5, p6, p7, p8, p9, p10⟩ := HP.out
      exact bodyPost_ret (v := .agg #[.int .i64 k1, .int .i64 k2, .int .i64 k3, .int .i64 xm, .int .i64 xx, .int .i64 xy, .int .i64 xvx, .int .i64 xvy, .int .i64 xh, .int .i64 xp, .int .i64 xl]) (by simp [results, Tryz.results13, go_sem, p0, p1, p2, p3, p4, p5, p6, p7, p8, p9, p10]) rfl ⟨rfl, HQ.out⟩
end Go.Proofs.YtdhlebmgeiiejaaGreat
