/- The code's codec: a thing of this kind is taken, if it may be. Written by wip/tools/gencdt.py. -/
import Derived.Test.YtdhlebmgeiiejaaGreatKCdReadB
import Derived.Test.YtdhlebmgeiiejaaGreatKPc
import Derived.Shelf.Abstract
namespace Go.Proofs.YtdhlebmgeiiejaaGreat
open Go.RowKit Pz Cd Go.Shelf
set_option linter.unusedVariables false
set_option linter.unusedSimpArgs false

theorem en_chk_b : ∀ args w, (callFunc 45 args).run Tryz.prog w = .ok (.enter 45 args) w := enters_of Tryz.func45 (by kernel_rfl) rfl
theorem en_read_b : ∀ args w, (callFunc 46 args).run Tryz.prog w = .ok (.enter 46 args) w := enters_of Tryz.func46 (by kernel_rfl) rfl
set_option maxHeartbeats 16000000 in
set_option maxRecDepth 100000 in
theorem ctakeif_b {b : Nat} {w : World} {q : Rr} (h : CQ b w q w) : Calls Tryz.prog 44 #[.pointer (some ⟨b, 0, none⟩), .func (.func 45) #[] #[], .func (.func 46) #[] #[]] w fun e W' => e = .returned (takeB q).1.val ∧ CQ b w (takeB q).2 W' := by
  have RD : Hid (∀ W, CQ b w q W → Calls Tryz.prog 46 #[.pointer (some ⟨b, 0, none⟩)] W fun e W' => e = .returned (rawTB q).1.val ∧ CQ b w (rawTB q).2 W' ∧ W.grownBy W' (some b)) := Lib.hid fun W hW => (creadbundle_any hW.rebase).mono fun e W' ⟨h1, h2⟩ => ⟨h1, hW.trans h2, h2.grow⟩
  have CK : Hid (∀ W, Calls Tryz.prog 45 #[(rawTB q).1.val] W fun e w' => e = .returned (.int .i64 (errB (may (rawTB q).1))) ∧ Below W.heap.size W w') := Lib.hid (fun W => check_any _ W)
  rw [takeB_is q h.ok]
  generalize rawTB q = p at *
  obtain ⟨x, s3, b3⟩ := p
  simp only at RD CK ⊢
  obtain ⟨r, er⟩ : ∃ r, may x = r := ⟨_, rfl⟩
  rw [er] at CK ⊢
  clear er
  have BD := Lib.hid fun W (hW : CQ b w ⟨s3, b3⟩ W) => cbad_any hW
  have SP := Lib.hid fun W (hW : CQ b w ⟨s3, b3⟩ W) => cspoil_any hW
  simp only at BD
  obtain ⟨xs, xi, xg, xm, xx, xy, xvx, xvy, xh, xp, xl⟩ := x
  simp only [Bn.val] at RD CK ⊢
  have EN1 := en_chk_b
  have EN2 := en_read_b
  have hb := h.lt
  have B0 := Lib.hid (at1 w (.cells #[.int .i64 0, .int .i64 0, .int .i64 0, .int .i64 0, .int .i64 0, .int .i64 0, .int .i64 0, .int .i64 0, .int .i64 0, .int .i64 0, .int .i64 0] 34))
  have HR := Lib.hid (h.below (bel1 w (.cells #[.int .i64 0, .int .i64 0, .int .i64 0, .int .i64 0, .int .i64 0, .int .i64 0, .int .i64 0, .int .i64 0, .int .i64 0, .int .i64 0, .int .i64 0] 34)))
  have HS : w.heap.size ≤ (w.alloc (.cells #[.int .i64 0, .int .i64 0, .int .i64 0, .int .i64 0, .int .i64 0, .int .i64 0, .int .i64 0, .int .i64 0, .int .i64 0, .int .i64 0, .int .i64 0] 34)).heap.size := (bel1 w (.cells #[.int .i64 0, .int .i64 0, .int .i64 0, .int .i64 0, .int .i64 0, .int .i64 0, .int .i64 0, .int .i64 0, .int .i64 0, .int .i64 0, .int .i64 0] 34)).size
  clear h
  go_enter Tryz.func44, Tryz.ntmps44
  go_wp2_with fail
  generalize w.alloc (.cells #[.int .i64 0, .int .i64 0, .int .i64 0, .int .i64 0, .int .i64 0, .int .i64 0, .int .i64 0, .int .i64 0, .int .i64 0, .int .i64 0, .int .i64 0] 34) = wa at *
  refine (RD.out _ HR.out).mono ?_
  rintro e w1 ⟨rfl, r1, g1⟩
  replace B0 := Lib.hid ((g1.block _ (lt_of_row B0.out) (by simp; omega)).trans B0.out)
  replace HS := Nat.le_trans HS g1.size
  clear HR g1 RD
  have HR := Lib.hid r1
  clear r1
  go_wp2_with fail
  have HA := Lib.hid (bel1 w1 (.cells #[.int .i64 xs, .int .i64 xi, .int .i64 xg, .int .i64 xm, .int .i64 xx, .int .i64 xy, .int .i64 xvx, .int .i64 xvy, .int .i64 xh, .int .i64 xp, .int .i64 xl] 34))
  have B1 := Lib.hid (at1 w1 (.cells #[.int .i64 xs, .int .i64 xi, .int .i64 xg, .int .i64 xm, .int .i64 xx, .int .i64 xy, .int .i64 xvx, .int .i64 xvy, .int .i64 xh, .int .i64 xp, .int .i64 xl] 34))
  replace B0 := Lib.hid ((HA.out.block _ (lt_of_row B0.out)).trans B0.out)
  replace HR := Lib.hid (HR.out.below HA.out)
  have hlo : w.heap.size ≤ w1.heap.size := HS
  clear HS HA
  generalize w1.alloc (.cells #[.int .i64 xs, .int .i64 xi, .int .i64 xg, .int .i64 xm, .int .i64 xx, .int .i64 xy, .int .i64 xvx, .int .i64 xvy, .int .i64 xh, .int .i64 xp, .int .i64 xl] 34) = w2 at *
  generalize w1.heap.size = o1 at *
  refine (BD.out _ HR.out).mono ?_
  rintro e w3 ⟨rfl, rfl⟩
  clear BD
  cases b3 with
  | true =>
    clear CK
    go_wp2_with fail
    refine (SP.out _ HR.out).mono ?_
    rintro e w5 ⟨rfl, r1, g1⟩
    replace B0 := Lib.hid ((g1.block _ (lt_of_row B0.out) (by simp; omega)).trans B0.out)
    clear HR g1 SP B1
    have HR := Lib.hid r1
    clear r1
    go_upto_region 5 with fail
    have HA := Lib.hid (bel1 w5 (.cells #[.int .i64 0, .int .i64 0, .int .i64 0, .int .i64 0, .int .i64 0, .int .i64 0, .int .i64 0, .int .i64 0, .int .i64 0, .int .i64 0, .int .i64 0] 34))
    have B2 := Lib.hid (at1 w5 (.cells #[.int .i64 0, .int .i64 0, .int .i64 0, .int .i64 0, .int .i64 0, .int .i64 0, .int .i64 0, .int .i64 0, .int .i64 0, .int .i64 0, .int .i64 0] 34))
    replace B0 := Lib.hid ((HA.out.block _ (lt_of_row B0.out)).trans B0.out)
    replace HR := Lib.hid (HR.out.below HA.out)
    clear HA
    generalize w5.alloc (.cells #[.int .i64 0, .int .i64 0, .int .i64 0, .int .i64 0, .int .i64 0, .int .i64 0, .int .i64 0, .int .i64 0, .int .i64 0, .int .i64 0, .int .i64 0] 34) = w6 at *
    generalize w5.heap.size = o2 at *
    obtain ⟨⟨k0, k1, k2, k3, k4, k5, k6, k7, k8, k9, k10⟩, _⟩ := Bx.b11 B2.out
    obtain ⟨⟨l0, l1, l2, l3, l4, l5, l6, l7, l8, l9, l10⟩, ⟨f0, f1, f2, f3, f4, f5, f6, f7, f8, f9, f10⟩⟩ := Bx.b11 B0.out
    have HP := Lib.hid (Bx.b11 (Bx.set11 B0.out (.int .i64 0) (.int .i64 0) (.int .i64 0) (.int .i64 0) (.int .i64 0) (.int .i64 0) (.int .i64 0) (.int .i64 0) (.int .i64 0) (.int .i64 0) (.int .i64 0))).1
    have HQ := Lib.hid (RX.set (RX.set (RX.set (RX.set (RX.set (RX.set (RX.set (RX.set (RX.set (RX.set (RX.set HR.out (Nat.le_refl _) 0 (.int .i64 0)) (Nat.le_refl _) 1 (.int .i64 0)) (Nat.le_refl _) 2 (.int .i64 0)) (Nat.le_refl _) 3 (.int .i64 0)) (Nat.le_refl _) 4 (.int .i64 0)) (Nat.le_refl _) 5 (.int .i64 0)) (Nat.le_refl _) 6 (.int .i64 0)) (Nat.le_refl _) 7 (.int .i64 0)) (Nat.le_refl _) 8 (.int .i64 0)) (Nat.le_refl _) 9 (.int .i64 0)) (Nat.le_refl _) 10 (.int .i64 0))
    clear HR B0
    go_wp2
    obtain ⟨p0, p1, p2, p3, p4, p5, p6, p7, p8, p9, p10⟩ := HP.out
    exact bodyPost_ret (v := .agg #[.int .i64 0, .int .i64 0, .int .i64 0, .int .i64 0, .int .i64 0, .int .i64 0, .int .i64 0, .int .i64 0, .int .i64 0, .int .i64 0, .int .i64 0]) (by simp [results, Tryz.results44, go_sem, p0, p1, p2, p3, p4, p5, p6, p7, p8, p9, p10]) rfl ⟨rfl, HQ.out⟩
  | false =>
    obtain ⟨⟨k0, k1, k2, k3, k4, k5, k6, k7, k8, k9, k10⟩, _⟩ := Bx.b11 B1.out
    cases r with
    | false =>
      rw [show errB false = 1 from rfl] at CK
      go_wp2_with fail
      refine (CK.out _).mono ?_
      rintro e w4 ⟨rfl, hb4⟩
      replace B0 := Lib.hid ((hb4.block _ (lt_of_row B0.out)).trans B0.out)
      replace B1 := Lib.hid ((hb4.block _ (lt_of_row B1.out)).trans B1.out)
      replace HR := Lib.hid (HR.out.below hb4)
      clear hb4 CK k0 k1 k2 k3 k4 k5 k6 k7 k8 k9 k10
      go_wp2_with fail
      refine (SP.out _ HR.out).mono ?_
      rintro e w5 ⟨rfl, r1, g1⟩
      replace B0 := Lib.hid ((g1.block _ (lt_of_row B0.out) (by simp; omega)).trans B0.out)
      clear HR g1 SP B1
      have HR := Lib.hid r1
      clear r1
      go_upto_region 5 with fail
      have HA := Lib.hid (bel1 w5 (.cells #[.int .i64 0, .int .i64 0, .int .i64 0, .int .i64 0, .int .i64 0, .int .i64 0, .int .i64 0, .int .i64 0, .int .i64 0, .int .i64 0, .int .i64 0] 34))
      have B2 := Lib.hid (at1 w5 (.cells #[.int .i64 0, .int .i64 0, .int .i64 0, .int .i64 0, .int .i64 0, .int .i64 0, .int .i64 0, .int .i64 0, .int .i64 0, .int .i64 0, .int .i64 0] 34))
      replace B0 := Lib.hid ((HA.out.block _ (lt_of_row B0.out)).trans B0.out)
      replace HR := Lib.hid (HR.out.below HA.out)
      clear HA
      generalize w5.alloc (.cells #[.int .i64 0, .int .i64 0, .int .i64 0, .int .i64 0, .int .i64 0, .int .i64 0, .int .i64 0, .int .i64 0, .int .i64 0, .int .i64 0, .int .i64 0] 34) = w6 at *
      generalize w5.heap.size = o2 at *
      obtain ⟨⟨k0, k1, k2, k3, k4, k5, k6, k7, k8, k9, k10⟩, _⟩ := Bx.b11 B2.out
      obtain ⟨⟨l0, l1, l2, l3, l4, l5, l6, l7, l8, l9, l10⟩, ⟨f0, f1, f2, f3, f4, f5, f6, f7, f8, f9, f10⟩⟩ := Bx.b11 B0.out
      have HP := Lib.hid (Bx.b11 (Bx.set11 B0.out (.int .i64 0) (.int .i64 0) (.int .i64 0) (.int .i64 0) (.int .i64 0) (.int .i64 0) (.int .i64 0) (.int .i64 0) (.int .i64 0) (.int .i64 0) (.int .i64 0))).1
      have HQ := Lib.hid (RX.set (RX.set (RX.set (RX.set (RX.set (RX.set (RX.set (RX.set (RX.set (RX.set (RX.set HR.out (Nat.le_refl _) 0 (.int .i64 0)) (Nat.le_refl _) 1 (.int .i64 0)) (Nat.le_refl _) 2 (.int .i64 0)) (Nat.le_refl _) 3 (.int .i64 0)) (Nat.le_refl _) 4 (.int .i64 0)) (Nat.le_refl _) 5 (.int .i64 0)) (Nat.le_refl _) 6 (.int .i64 0)) (Nat.le_refl _) 7 (.int .i64 0)) (Nat.le_refl _) 8 (.int .i64 0)) (Nat.le_refl _) 9 (.int .i64 0)) (Nat.le_refl _) 10 (.int .i64 0))
      clear HR B0
      go_wp2
      obtain ⟨p0, p1, p2, p3, p4, p5, p6, p7, p8, p9, p10⟩ := HP.out
      exact bodyPost_ret (v := .agg #[.int .i64 0, .int .i64 0, .int .i64 0, .int .i64 0, .int .i64 0, .int .i64 0, .int .i64 0, .int .i64 0, .int .i64 0, .int .i64 0, .int .i64 0]) (by simp [results, Tryz.results44, go_sem, p0, p1, p2, p3, p4, p5, p6, p7, p8, p9, p10]) rfl ⟨rfl, HQ.out⟩
    | true =>
      rw [show errB true = 0 from rfl] at CK
      go_wp2_with fail
      refine (CK.out _).mono ?_
      rintro e w4 ⟨rfl, hb4⟩
      replace B0 := Lib.hid ((hb4.block _ (lt_of_row B0.out)).trans B0.out)
      replace B1 := Lib.hid ((hb4.block _ (lt_of_row B1.out)).trans B1.out)
      replace HR := Lib.hid (HR.out.below hb4)
      clear hb4 CK k0 k1 k2 k3 k4 k5 k6 k7 k8 k9 k10
      obtain ⟨⟨k0, k1, k2, k3, k4, k5, k6, k7, k8, k9, k10⟩, _⟩ := Bx.b11 B1.out
      obtain ⟨⟨l0, l1, l2, l3, l4, l5, l6, l7, l8, l9, l10⟩, ⟨f0, f1, f2, f3, f4, f5, f6, f7, f8, f9, f10⟩⟩ := Bx.b11 B0.out
      have HP := Lib.hid (Bx.b11 (Bx.set11 B0.out (.int .i64 xs) (.int .i64 xi) (.int .i64 xg) (.int .i64 xm) (.int .i64 xx) (.int .i64 xy) (.int .i64 xvx) (.int .i64 xvy) (.int .i64 xh) (.int .i64 xp) (.int .i64 xl))).1
      have HQ := Lib.hid (RX.set (RX.set (RX.set (RX.set (RX.set (RX.set (RX.set (RX.set (RX.set (RX.set (RX.set HR.out (Nat.le_refl _) 0 (.int .i64 xs)) (Nat.le_refl _) 1 (.int .i64 xi)) (Nat.le_refl _) 2 (.int .i64 xg)) (Nat.le_refl _) 3 (.int .i64 xm)) (Nat.le_refl _) 4 (.int .i64 xx)) (Nat.le_refl _) 5 (.int .i64 xy)) (Nat.le_refl _) 6 (.int .i64 xvx)) (Nat.le_refl _) 7 (.int .i64 xvy)) (Nat.le_refl _) 8 (.int .i64 xh)) (Nat.le_refl _) 9 (.int .i64 xp)) (Nat.le_refl _) 10 (.int .i64 xl))
      clear HR B0
      go_wp2
      obtain ⟨p0, p1, p2, p3, p4, p5, p6, p7, p8, p9, p10⟩ := HP.out
      exact bodyPost_ret (v := .agg #[.int .i64 xs, .int .i64 xi, .int .i64 xg, .int .i64 xm, .int .i64 xx, .int .i64 xy, .int .i64 xvx, .int .i64 xvy, .int .i64 xh, .int .i64 xp, .int .i64 xl]) (by simp [results, Tryz.results44, go_sem, p0, p1, p2, p3, p4, p5, p6, p7, p8, p9, p10]) rfl ⟨rfl, HQ.out⟩
set_option maxHeartbeats 8000000 in
set_option maxRecDepth 100000 in
theorem ctake_b {b : Nat} {w : World} {q : Rr} (h : CQ b w q w) : Calls Tryz.prog 12 #[.pointer (some ⟨b, 0, none⟩)] w fun e W' => e = .returned (takeB q).1.val ∧ CQ b w (takeB q).2 W' := by
  have C : Hid (∀ W, CQ b w q W → Calls Tryz.prog 44 #[.pointer (some ⟨b, 0, none⟩), .func (.func 45) #[] #[], .func (.func 46) #[] #[]] W fun e W' => e = .returned (takeB q).1.val ∧ CQ b w (takeB q).2 W' ∧ W.grownBy W' (some b)) := Lib.hid fun W hW => (ctakeif_b hW.rebase).mono fun e W' ⟨h1, h2⟩ => ⟨h1, hW.trans h2, h2.grow⟩
  generalize takeB q = p at *
  obtain ⟨x, q3⟩ := p
  simp only at C ⊢
  obtain ⟨xs, xi, xg, xm, xx, xy, xvx, xvy, xh, xp, xl⟩ := x
  simp only [Bn.val] at C ⊢
  have hb := h.lt
  have B0 := Lib.hid (at1 w (.cells #[.int .i64 0, .int .i64 0, .int .i64 0, .int .i64 0, .int .i64 0, .int .i64 0, .int .i64 0, .int .i64 0, .int .i64 0, .int .i64 0, .int .i64 0] 34))
  have HR := Lib.hid (h.below (bel1 w (.cells #[.int .i64 0, .int .i64 0, .int .i64 0, .int .i64 0, .int .i64 0, .int .i64 0, .int .i64 0, .int .i64 0, .int .i64 0, .int .i64 0, .int .i64 0] 34)))
  clear h
  go_enter Tryz.func12, Tryz.ntmps12
  go_wp2_with fail
  generalize w.alloc (.cells #[.int .i64 0, .int .i64 0, .int .i64 0, .int .i64 0, .int .i64 0, .int .i64 0, .int .i64 0, .int .i64 0, .int .i64 0, .int .i64 0, .int .i64 0] 34) = wa at *
  refine (C.out _ HR.out).mono ?_
  rintro e w1 ⟨rfl, r1, g1⟩
  replace B0 := Lib.hid ((g1.block _ (lt_of_row B0.out) (by simp; omega)).trans B0.out)
  clear HR g1 C
  have HR := Lib.hid r1
  clear r1
  obtain ⟨⟨l0, l1, l2, l3, l4, l5, l6, l7, l8, l9, l10⟩, ⟨f0, f1, f2, f3, f4, f5, f6, f7, f8, f9, f10⟩⟩ := Bx.b11 B0.out
  have HP := Lib.hid (Bx.b11 (Bx.set11 B0.out (.int .i64 xs) (.int .i64 xi) (.int .i64 xg) (.int .i64 xm) (.int .i64 xx) (.int .i64 xy) (.int .i64 xvx) (.int .i64 xvy) (.int .i64 xh) (.int .i64 xp) (.int .i64 xl))).1
  have HQ := Lib.hid (RX.set (RX.set (RX.set (RX.set (RX.set (RX.set (RX.set (RX.set (RX.set (RX.set (RX.set HR.out (Nat.le_refl _) 0 (.int .i64 xs)) (Nat.le_refl _) 1 (.int .i64 xi)) (Nat.le_refl _) 2 (.int .i64 xg)) (Nat.le_refl _) 3 (.int .i64 xm)) (Nat.le_refl _) 4 (.int .i64 xx)) (Nat.le_refl _) 5 (.int .i64 xy)) (Nat.le_refl _) 6 (.int .i64 xvx)) (Nat.le_refl _) 7 (.int .i64 xvy)) (Nat.le_refl _) 8 (.int .i64 xh)) (Nat.le_refl _) 9 (.int .i64 xp)) (Nat.le_refl _) 10 (.int .i64 xl))
  clear HR B0
  go_wp2
  obtain ⟨p0, p1, p2, p3, p4, p5, p6, p7, p8, p9, p10⟩ := HP.out
  exact bodyPost_ret (v := .agg #[.int .i64 xs, .int .i64 xi, .int .i64 xg, .int .i64 xm, .int .i64 xx, .int .i64 xy, .int .i64 xvx, .int .i64 xvy, .int .i64 xh, .int .i64 xp, .int .i64 xl]) (by simp [results, Tryz.results12, go_sem, p0, p1, p2, p3, p4, p5, p6, p7, p8, p9, p10]) rfl ⟨rfl, HQ.out⟩
end Go.Proofs.YtdhlebmgeiiejaaGreat
