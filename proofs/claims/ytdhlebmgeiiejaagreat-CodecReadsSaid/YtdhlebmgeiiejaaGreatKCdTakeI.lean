/- The code's codec: a thing of this kind is taken, if it may be. Written by wip/tools/gencdt.py. -/
import Derived.Test.YtdhlebmgeiiejaaGreatKCdCode1
import Derived.Test.YtdhlebmgeiiejaaGreatKPc
import Derived.Shelf.Abstract
namespace Go.Proofs.YtdhlebmgeiiejaaGreat
open Go.RowKit Pz Cd Go.Shelf
set_option linter.unusedVariables false
set_option linter.unusedSimpArgs false

theorem en_chk_id : ∀ args w, (callFunc 37 args).run Tryz.prog w = .ok (.enter 37 args) w := enters_of Tryz.func37 (by kernel_rfl) rfl
theorem en_read_id : ∀ args w, (callFunc 38 args).run Tryz.prog w = .ok (.enter 38 args) w := enters_of Tryz.func38 (by kernel_rfl) rfl
set_option maxHeartbeats 16000000 in
set_option maxRecDepth 100000 in
theorem ctakeif_id {b : Nat} {w : World} {q : Rr} (h : CQ b w q w) : Calls Tryz.prog 36 #[.pointer (some ⟨b, 0, none⟩), .func (.func 37) #[] #[], .func (.func 38) #[] #[]] w fun e W' => e = .returned (.agg #[.int .i64 (takeID q).1.1, .int .i64 (takeID q).1.2.1, .int .i64 (takeID q).1.2.2]) ∧ CQ b w (takeID q).2 W' := by
  have RD : Hid (∀ W, CQ b w q W → Calls Tryz.prog 38 #[.pointer (some ⟨b, 0, none⟩)] W fun e W' => e = .returned (.agg #[.int .i64 (rawTID q).1.1, .int .i64 (rawTID q).1.2.1, .int .i64 (rawTID q).1.2.2]) ∧ CQ b w (rawTID q).2 W' ∧ W.grownBy W' (some b)) := Lib.hid fun W hW => (creadid_any hW.rebase).mono fun e W' ⟨h1, h2⟩ => ⟨h1, hW.trans h2, h2.grow⟩
  have CK : Hid (∀ W, Calls Tryz.prog 37 #[(.agg #[.int .i64 (rawTID q).1.1, .int .i64 (rawTID q).1.2.1, .int .i64 (rawTID q).1.2.2])] W fun e w' => e = .returned (.int .i64 (errB (okID (rawTID q).1))) ∧ Below W.heap.size W w') := Lib.hid (fun W => checkid_any _ _ _ W)
  rw [takeID_is]
  generalize rawTID q = p at *
  obtain ⟨x, s3, b3⟩ := p
  simp only at RD CK ⊢
  obtain ⟨r, er⟩ : ∃ r, okID x = r := ⟨_, rfl⟩
  rw [er] at CK ⊢
  clear er
  have BD := Lib.hid fun W (hW : CQ b w ⟨s3, b3⟩ W) => cbad_any hW
  have SP := Lib.hid fun W (hW : CQ b w ⟨s3, b3⟩ W) => cspoil_any hW
  simp only at BD
  obtain ⟨x0, x1, x2⟩ := x
  have EN1 := en_chk_id
  have EN2 := en_read_id
  have hb := h.lt
  have B0 := Lib.hid (at1 w (.cells #[.int .i64 0, .int .i64 0, .int .i64 0] 29))
  have HR := Lib.hid (h.below (bel1 w (.cells #[.int .i64 0, .int .i64 0, .int .i64 0] 29)))
  have HS : w.heap.size ≤ (w.alloc (.cells #[.int .i64 0, .int .i64 0, .int .i64 0] 29)).heap.size := (bel1 w (.cells #[.int .i64 0, .int .i64 0, .int .i64 0] 29)).size
  clear h
  go_enter Tryz.func36, Tryz.ntmps36
  go_wp2_with fail
  generalize w.alloc (.cells #[.int .i64 0, .int .i64 0, .int .i64 0] 29) = wa at *
  refine (RD.out _ HR.out).mono ?_
  rintro e w1 ⟨rfl, r1, g1⟩
  replace B0 := Lib.hid ((g1.block _ (lt_of_row B0.out) (by simp; omega)).trans B0.out)
  replace HS := Nat.le_trans HS g1.size
  clear HR g1 RD
  have HR := Lib.hid r1
  clear r1
  go_wp2_with fail
  have HA := Lib.hid (bel1 w1 (.cells #[.int .i64 x0, .int .i64 x1, .int .i64 x2] 29))
  have B1 := Lib.hid (at1 w1 (.cells #[.int .i64 x0, .int .i64 x1, .int .i64 x2] 29))
  replace B0 := Lib.hid ((HA.out.block _ (lt_of_row B0.out)).trans B0.out)
  replace HR := Lib.hid (HR.out.below HA.out)
  have hlo : w.heap.size ≤ w1.heap.size := HS
  clear HS HA
  generalize w1.alloc (.cells #[.int .i64 x0, .int .i64 x1, .int .i64 x2] 29) = w2 at *
  generalize w1.heap.size = o1 at *
  refine (BD.out _ HR.out).mono ?_
  rintro e w3 ⟨rfl, rfl⟩
  clear BD
  cases b3 with
  | true =>
    clear CK
    go_wp2_with fail
    refine (SP.out _ HR.out).mono ?_
    rintro e w5 ⟨rfl, r1, g1⟩
    replace B0 := Lib.hid ((g1.block _ (lt_of_row B0.out) (by simp; omega)).trans B0.out)
    clear HR g1 SP B1
    have HR := Lib.hid r1
    clear r1
    go_upto_region 5 with fail
    have HA := Lib.hid (bel1 w5 (.cells #[.int .i64 0, .int .i64 0, .int .i64 0] 29))
    have B2 := Lib.hid (at1 w5 (.cells #[.int .i64 0, .int .i64 0, .int .i64 0] 29))
    replace B0 := Lib.hid ((HA.out.block _ (lt_of_row B0.out)).trans B0.out)
    replace HR := Lib.hid (HR.out.below HA.out)
    clear HA
    generalize w5.alloc (.cells #[.int .i64 0, .int .i64 0, .int .i64 0] 29) = w6 at *
    generalize w5.heap.size = o2 at *
    obtain ⟨⟨k0, k1, k2⟩, _⟩ := Bx.b3 B2.out
    obtain ⟨⟨l0, l1, l2⟩, ⟨f0, f1, f2⟩⟩ := Bx.b3 B0.out
    have HP := Lib.hid (Bx.b3 (Bx.set3 B0.out (.int .i64 0) (.int .i64 0) (.int .i64 0))).1
    have HQ := Lib.hid (RX.set (RX.set (RX.set HR.out (Nat.le_refl _) 0 (.int .i64 0)) (Nat.le_refl _) 1 (.int .i64 0)) (Nat.le_refl _) 2 (.int .i64 0))
    clear HR B0
    go_wp2
    obtain ⟨p0, p1, p2⟩ := HP.out
    exact bodyPost_ret (v := .agg #[.int .i64 0, .int .i64 0, .int .i64 0]) (by simp [results, Tryz.results36, go_sem, p0, p1, p2]) rfl ⟨rfl, HQ.out⟩
  | false =>
    obtain ⟨⟨k0, k1, k2⟩, _⟩ := Bx.b3 B1.out
    cases r with
    | false =>
      rw [show errB false = 1 from rfl] at CK
      go_wp2_with fail
      refine (CK.out _).mono ?_
      rintro e w4 ⟨rfl, hb4⟩
      replace B0 := Lib.hid ((hb4.block _ (lt_of_row B0.out)).trans B0.out)
      replace B1 := Lib.hid ((hb4.block _ (lt_of_row B1.out)).trans B1.out)
      replace HR := Lib.hid (HR.out.below hb4)
      clear hb4 CK k0 k1 k2
      go_wp2_with fail
      refine (SP.out _ HR.out).mono ?_
      rintro e w5 ⟨rfl, r1, g1⟩
      replace B0 := Lib.hid ((g1.block _ (lt_of_row B0.out) (by simp; omega)).trans B0.out)
      clear HR g1 SP B1
      have HR := Lib.hid r1
      clear r1
      go_upto_region 5 with fail
      have HA := Lib.hid (bel1 w5 (.cells #[.int .i64 0, .int .i64 0, .int .i64 0] 29))
      have B2 := Lib.hid (at1 w5 (.cells #[.int .i64 0, .int .i64 0, .int .i64 0] 29))
      replace B0 := Lib.hid ((HA.out.block _ (lt_of_row B0.out)).trans B0.out)
      replace HR := Lib.hid (HR.out.below HA.out)
      clear HA
      generalize w5.alloc (.cells #[.int .i64 0, .int .i64 0, .int .i64 0] 29) = w6 at *
      generalize w5.heap.size = o2 at *
      obtain ⟨⟨k0, k1, k2⟩, _⟩ := Bx.b3 B2.out
      obtain ⟨⟨l0, l1, l2⟩, ⟨f0, f1, f2⟩⟩ := Bx.b3 B0.out
      have HP := Lib.hid (Bx.b3 (Bx.set3 B0.out (.int .i64 0) (.int .i64 0) (.int .i64 0))).1
      have HQ := Lib.hid (RX.set (RX.set (RX.set HR.out (Nat.le_refl _) 0 (.int .i64 0)) (Nat.le_refl _) 1 (.int .i64 0)) (Nat.le_refl _) 2 (.int .i64 0))
      clear HR B0
      go_wp2
      obtain ⟨p0, p1, p2⟩ := HP.out
      exact bodyPost_ret (v := .agg #[.int .i64 0, .int .i64 0, .int .i64 0]) (by simp [results, Tryz.results36, go_sem, p0, p1, p2]) rfl ⟨rfl, HQ.out⟩
    | true =>
      rw [show errB true = 0 from rfl] at CK
      go_wp2_with fail
      refine (CK.out _).mono ?_
      rintro e w4 ⟨rfl, hb4⟩
      replace B0 := Lib.hid ((hb4.block _ (lt_of_row B0.out)).trans B0.out)
      replace B1 := Lib.hid ((hb4.block _ (lt_of_row B1.out)).trans B1.out)
      replace HR := Lib.hid (HR.out.below hb4)
      clear hb4 CK k0 k1 k2
      obtain ⟨⟨k0, k1, k2⟩, _⟩ := Bx.b3 B1.out
      obtain ⟨⟨l0, l1, l2⟩, ⟨f0, f1, f2⟩⟩ := Bx.b3 B0.out
      have HP := Lib.hid (Bx.b3 (Bx.set3 B0.out (.int .i64 x0) (.int .i64 x1) (.int .i64 x2))).1
      have HQ := Lib.hid (RX.set (RX.set (RX.set HR.out (Nat.le_refl _) 0 (.int .i64 x0)) (Nat.le_refl _) 1 (.int .i64 x1)) (Nat.le_refl _) 2 (.int .i64 x2))
      clear HR B0
      go_wp2
      obtain ⟨p0, p1, p2⟩ := HP.out
      exact bodyPost_ret (v := .agg #[.int .i64 x0, .int .i64 x1, .int .i64 x2]) (by simp [results, Tryz.results36, go_sem, p0, p1, p2]) rfl ⟨rfl, HQ.out⟩
set_option maxHeartbeats 8000000 in
set_option maxRecDepth 100000 in
theorem ctake_id {b : Nat} {w : World} {q : Rr} (h : CQ b w q w) : Calls Tryz.prog 9 #[.pointer (some ⟨b, 0, none⟩)] w fun e W' => e = .returned (.agg #[.int .i64 (takeID q).1.1, .int .i64 (takeID q).1.2.1, .int .i64 (takeID q).1.2.2]) ∧ CQ b w (takeID q).2 W' := by
  have C : Hid (∀ W, CQ b w q W → Calls Tryz.prog 36 #[.pointer (some ⟨b, 0, none⟩), .func (.func 37) #[] #[], .func (.func 38) #[] #[]] W fun e W' => e = .returned (.agg #[.int .i64 (takeID q).1.1, .int .i64 (takeID q).1.2.1, .int .i64 (takeID q).1.2.2]) ∧ CQ b w (takeID q).2 W' ∧ W.grownBy W' (some b)) := Lib.hid fun W hW => (ctakeif_id hW.rebase).mono fun e W' ⟨h1, h2⟩ => ⟨h1, hW.trans h2, h2.grow⟩
  generalize takeID q = p at *
  obtain ⟨x, q3⟩ := p
  simp only at C ⊢
  obtain ⟨x0, x1, x2⟩ := x
  have hb := h.lt
  have B0 := Lib.hid (at1 w (.cells #[.int .i64 0, .int .i64 0, .int .i64 0] 29))
  have HR := Lib.hid (h.below (bel1 w (.cells #[.int .i64 0, .int .i64 0, .int .i64 0] 29)))
  clear h
  go_enter Tryz.func9, Tryz.ntmps9
  go_wp2_with fail
  generalize w.alloc (.cells #[.int .i64 0, .int .i64 0, .int .i64 0] 29) = wa at *
  refine (C.out _ HR.out).mono ?_
  rintro e w1 ⟨rfl, r1, g1⟩
  replace B0 := Lib.hid ((g1.block _ (lt_of_row B0.out) (by simp; omega)).trans B0.out)
  clear HR g1 C
  have HR := Lib.hid r1
  clear r1
  obtain ⟨⟨l0, l1, l2⟩, ⟨f0, f1, f2⟩⟩ := Bx.b3 B0.out
  have HP := Lib.hid (Bx.b3 (Bx.set3 B0.out (.int .i64 x0) (.int .i64 x1) (.int .i64 x2))).1
  have HQ := Lib.hid (RX.set (RX.set (RX.set HR.out (Nat.le_refl _) 0 (.int .i64 x0)) (Nat.le_refl _) 1 (.int .i64 x1)) (Nat.le_refl _) 2 (.int .i64 x2))
  clear HR B0
  go_wp2
  obtain ⟨p0, p1, p2⟩ := HP.out
  exact bodyPost_ret (v := .agg #[.int .i64 x0, .int .i64 x1, .int .i64 x2]) (by simp [results, Tryz.results9, go_sem, p0, p1, p2]) rfl ⟨rfl, HQ.out⟩
end Go.Proofs.YtdhlebmgeiiejaaGreat
