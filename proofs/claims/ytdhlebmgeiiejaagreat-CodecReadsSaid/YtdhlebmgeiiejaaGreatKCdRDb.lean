/- The document's codec: a message is decoded, some of its ways. Written by wip/tools/gencdrdec.py. -/
import Derived.Test.YtdhlebmgeiiejaaGreatKCdRD0
namespace Go.Proofs.YtdhlebmgeiiejaaGreat
open Go.RowKit Pz Cd
set_option linter.unusedVariables false
set_option linter.unusedSimpArgs false

set_option maxHeartbeats 32000000 in
set_option maxRecDepth 100000 in
theorem rdecode_3 (s : List UInt8) (hl : s.length ≤ 140737488351232) (w : World) (hk : (tInt (Rr.of s)).1 = 4) : Calls Tryz.prog 33 #[.string ⟨s.toArray⟩] w fun e w' => DecR s w.heap.size e w' ∧ Below w.heap.size w w' := by
  have e1 : hasT (tInt (Rr.of s)).1 = true := by rw [hk]; rfl
  have e2 : hasN (tInt (Rr.of s)).1 = false := by rw [hk]; rfl
  have QK : (Rr.of s).Ok := fun h => by cases h
  have C0 : Hid (∀ b w0 W, RQ b w0 (Rr.of s) W → Calls Tryz.prog 39 #[.pointer (some ⟨b, 0, none⟩)] W fun e W' => e = .returned (.int .i64 (tInt (Rr.of s)).1) ∧ RQ b w0 (tInt (Rr.of s)).2 W' ∧ W.grownBy W' (some b)) := Lib.hid fun b w0 W hW => rtake_int hW
  have C1 : Hid (∀ b w0 W, RQ b w0 (tInt (Rr.of s)).2 W → Calls Tryz.prog 39 #[.pointer (some ⟨b, 0, none⟩)] W fun e W' => e = .returned (.int .i64 (tInt (tInt (Rr.of s)).2).1) ∧ RQ b w0 (tInt (tInt (Rr.of s)).2).2 W' ∧ W.grownBy W' (some b)) := Lib.hid fun b w0 W hW => rtake_int hW
  have CLs : Hid (∀ b w0 W, RQ b w0 (tInt (tInt (Rr.of s)).2).2 W → Calls Tryz.prog 27 #[.pointer (some ⟨b, 0, none⟩), .int .i64 1024] W fun e W' => (∃ v, e = .returned v ∧ OwnN W' W.heap.size v (kID.takeL 1024 (tInt (tInt (Rr.of s)).2).2).1) ∧ RQ b w0 (kID.takeL 1024 (tInt (tInt (Rr.of s)).2).2).2 W' ∧ W.grownBy W' (some b)) := Lib.hid fun b w0 W hW => (rtakelist_id 1024 hW.rebase (.inr (by decide))).mono fun e W' ⟨h1, h2⟩ => ⟨h1, hW.trans h2, h2.grow⟩
  have HM : takeM0 (Rr.of s) = (⟨(tInt (Rr.of s)).1, (tInt (tInt (Rr.of s)).2).1, 0, [], [], (kID.takeL 1024 (tInt (tInt (Rr.of s)).2).2).1⟩, (kID.takeL 1024 (tInt (tInt (Rr.of s)).2).2).2) := by
    unfold takeM0 takeLs
    simp only [e1, e2]
    rw [hk]
    rfl
  have LEN : (kID.takeL 1024 (tInt (tInt (Rr.of s)).2).2).1.length ≤ 1024 := takeL_le _ _ (by decide)
  have HD : Hid (decC s = if (takeM0 (Rr.of s)).2.bad || (!(takeM0 (Rr.of s)).2.s.isEmpty || !mayM (takeM0 (Rr.of s)).1) then none else some (takeM0 (Rr.of s)).1) := Lib.hid (by rw [decC_is]; rfl)
  rw [HM] at HD
  clear HM
  generalize kID.takeL 1024 (tInt (tInt (Rr.of s)).2).2 = pl at *
  obtain ⟨ll, q9⟩ := pl
  generalize tInt (tInt (Rr.of s)).2 = p2 at *
  obtain ⟨x2, q2⟩ := p2
  generalize tInt (Rr.of s) = p1 at *
  obtain ⟨k, q1⟩ := p1
  simp only at *
  subst hk
  have MY : Hid (∀ (W : World) (B : Nat) (A : Option Addr) (d : Nat), OwnN W B (.slice A ll.length d) ll → Calls Tryz.prog 69 #[.agg #[.int .i64 4, .int .i64 x2, .int .i64 0, .slice none 0 0, .slice none 0 0, .slice A ll.length d]] W fun e w' => e = .returned (.bool (mayM (⟨4, x2, 0, [], [], ll⟩ : Mn))) ∧ Below W.heap.size W w') := Lib.hid fun W B A d ho => rmay_msg (m := (⟨4, x2, 0, [], [], ll⟩ : Mn)) (A1 := none) (A2 := none) (A3 := A) (c1 := 0) (c2 := 0) (c3 := d) ⟨RdC.nil _ _ _, RdB.nil _ _ _, RdI3.of_own ho, by simp, by simp, by show ll.length ≤ _; omega⟩ (fun x hx => by cases hx) (fun x hx => by cases hx)
  have DRN : Hid (decC s = none → ∀ W, DecR s w.heap.size (.returned (.tuple #[zeroV, .int .i64 2])) W) := Lib.hid fun h W => by unfold DecR; rw [h]
  have DRS : Hid (decC s = some (⟨4, x2, 0, [], [], ll⟩ : Mn) → ∀ (W : World) (A : Option Addr) (d : Nat), OwnN W w.heap.size (.slice A ll.length d) ll → DecR s w.heap.size (.returned (.tuple #[.agg #[.int .i64 4, .int .i64 x2, .int .i64 0, .slice none 0 0, .slice none 0 0, .slice A ll.length d], .int .i64 0])) W) := Lib.hid fun h W A d ho => by unfold DecR; rw [h]; exact ⟨_, rfl, _, _, _, rfl, rw_nil _ _, rw_nil _ _, ho⟩
  unfold zeroV at DRN
  generalize hDR : DecR s w.heap.size = DR at *
  clear hDR
  generalize decC s = dd at *
  obtain ⟨rmay, hrm⟩ : ∃ r, mayM (⟨4, x2, 0, [], [], ll⟩ : Mn) = r := ⟨_, rfl⟩
  rw [hrm] at HD MY
  clear hrm
  generalize (⟨4, x2, 0, [], [], ll⟩ : Mn) = mm at *
  have OW : Hid (∀ (W W' : World) (B : Nat) (A : Option Addr) (d : Nat), OwnN W B (.slice A ll.length d) ll → w.heap.size ≤ B → (∀ (k : Nat) (cur : Array Value), W.heap[k]? = some (.cells cur 29 (0, 0)) → W'.heap[k]? = W.heap[k]?) → OwnN W' w.heap.size (.slice A ll.length d) ll) := Lib.hid fun W W' B A d ho hB hk => (ho.kept (fun k e => by obtain ⟨_, cur, h⟩ := ho.blk e; exact hk k cur h)).base hB
  have FO : Hid (∀ (W : World) (B : Nat) (v : Value), OwnN W B v ll → ∃ A d, v = .slice A ll.length d) := Lib.hid fun W B v h => h.form
  have HT := Lib.hid fun W => rhast_any W 4
  have HN := Lib.hid fun W => rhasn_any W 4
  rw [show hasT 4 = true from rfl] at HT
  rw [show hasN 4 = false from rfl] at HN
  clear e1 e2
  have B0 := Lib.hid (at2a w (.cells #[.int .i64 0, .int .i64 0, .int .i64 0, .slice none 0 0, .slice none 0 0, .slice none 0 0] MT) (.cells #[.string ⟨s.toArray⟩, .bool false] RT))
  have BR := at2b w (.cells #[.int .i64 0, .int .i64 0, .int .i64 0, .slice none 0 0, .slice none 0 0, .slice none 0 0] MT) (.cells #[.string ⟨s.toArray⟩, .bool false] RT)
  have HB := Lib.hid (bel2 w (.cells #[.int .i64 0, .int .i64 0, .int .i64 0, .slice none 0 0, .slice none 0 0, .slice none 0 0] MT) (.cells #[.string ⟨s.toArray⟩, .bool false] RT))
  have CR := Lib.hid (RX.start (T := RT) (q := Rr.of s) BR QK (by show s.length ≤ _; omega))
  clear BR QK
  go_enter Tryz.func33, Tryz.ntmps33
  go_upto_region 2 with fail
  generalize (w.alloc (.cells #[.int .i64 0, .int .i64 0, .int .i64 0, .slice none 0 0, .slice none 0 0, .slice none 0 0] MT)).alloc (.cells #[.string ⟨s.toArray⟩, .bool false] RT) = wb at *
  obtain ⟨b, hbb⟩ : ∃ b, b = w.heap.size + 1 := ⟨_, rfl⟩
  rw [← hbb] at CR ⊢
  have hwb : Hid (w.heap.size < b) := Lib.hid (by omega)
  clear hbb
  go_wp2_with fail
  refine (C0.out b wb wb CR.out).mono ?_
  rintro e w1 ⟨rfl, r1, g1⟩
  have HO := Lib.hid (TM.start B0.out HB.out r1 g1 hwb.out 4)
  have ho : wb.heap.size ≤ w1.heap.size := g1.size
  clear r1 g1 B0 HB CR C0 hwb
  go_upto_region 3 with fail
  generalize w1.alloc (.cells #[.int .i64 4, .int .i64 0, .int .i64 0, .slice none 0 0, .slice none 0 0, .slice none 0 0] MT) = w2 at *
  generalize w1.heap.size = o at *
  have H := HO
  clear HO
  obtain ⟨⟨m0, m1, m2, m3, m4, m5⟩, ⟨g0, g1, g2, g3, g4, g5⟩⟩ := Bx.b6 H.out.own
  go_wp2_with fail
  refine (HT.out _).mono ?_
  rintro e w' ⟨rfl, rfl⟩
  clear m0 m1 m2 m3 m4 m5 g0 g1 g2 g3 g4 g5 HT
  obtain ⟨⟨m0, m1, m2, m3, m4, m5⟩, ⟨g0, g1, g2, g3, g4, g5⟩⟩ := Bx.b6 H.out.own
  go_wp2_with fail
  refine (C1.out b wb _ H.out.rq).mono ?_
  rintro e v3 ⟨rfl, r1, gg⟩
  replace H := Lib.hid (H.out.call r1 gg)
  clear r1 gg m0 m1 m2 m3 m4 m5 g0 g1 g2 g3 g4 g5 C1
  obtain ⟨⟨m0, m1, m2, m3, m4, m5⟩, ⟨g0, g1, g2, g3, g4, g5⟩⟩ := Bx.b6 H.out.own
  go_upto_region 5 with fail
  replace H := Lib.hid (TM.set (u0 := (.int .i64 4)) (u1 := (.int .i64 x2)) (u2 := (.int .i64 0)) (u3 := (.slice none 0 0)) (u4 := (.slice none 0 0)) (u5 := (.slice none 0 0)) H.out ho 1 (.int .i64 x2) rfl)
  generalize v3.setCell ⟨o, 1, none⟩ (.int .i64 x2) = y3 at *
  clear m0 m1 m2 m3 m4 m5 g0 g1 g2 g3 g4 g5
  obtain ⟨⟨m0, m1, m2, m3, m4, m5⟩, ⟨g0, g1, g2, g3, g4, g5⟩⟩ := Bx.b6 H.out.own
  go_wp2_with fail
  refine (HN.out _).mono ?_
  rintro e w' ⟨rfl, rfl⟩
  clear m0 m1 m2 m3 m4 m5 g0 g1 g2 g3 g4 g5 HN
  obtain ⟨⟨m0, m1, m2, m3, m4, m5⟩, ⟨g0, g1, g2, g3, g4, g5⟩⟩ := Bx.b6 H.out.own
  go_wp2_with fail
  refine (CLs.out b wb _ H.out.rq).mono ?_
  rintro e v5 ⟨⟨vv, rfl, oo⟩, r1, gg⟩
  have hB : w.heap.size ≤ y3.heap.size := H.out.bel.size
  replace H := Lib.hid (H.out.call r1 gg)
  obtain ⟨A, d, rfl⟩ := FO.out _ _ _ oo
  clear r1 gg m0 m1 m2 m3 m4 m5 g0 g1 g2 g3 g4 g5 CLs FO
  obtain ⟨⟨m0, m1, m2, m3, m4, m5⟩, ⟨g0, g1, g2, g3, g4, g5⟩⟩ := Bx.b6 H.out.own
  go_upto_region 15 with fail
  have oo2 := OW.out v5 (v5.setCell ⟨o, 5, none⟩ (.slice A ll.length d)) _ A d oo hB (fun k cur h => Bx.ne (Bx.ne_type h H.out.own (by decide)) _)
  replace H := Lib.hid (TM.set (u0 := (.int .i64 4)) (u1 := (.int .i64 x2)) (u2 := (.int .i64 0)) (u3 := (.slice none 0 0)) (u4 := (.slice none 0 0)) (u5 := (.slice A ll.length d)) H.out ho 5 (.slice A ll.length d) rfl)
  generalize v5.setCell ⟨o, 5, none⟩ (.slice A ll.length d) = V at *
  clear m0 m1 m2 m3 m4 m5 g0 g1 g2 g3 g4 g5 oo hB
  have MY1 := Lib.hid (MY.out V _ A d oo2)
  clear MY
  obtain ⟨s9, b9⟩ := q9
  have QB : V.cell? ⟨b, 1, none⟩ = some (.bool b9) := H.out.rq.rd.c1
  have QS : V.cell? ⟨b, 0, none⟩ = some (.string ⟨s9.toArray⟩) := H.out.rq.rd.c0
  simp only at HD
  cases b9 with
  | true =>
    have DX := DRN.out (by rw [HD.out]; rfl)
    clear DRN DRS HD MY1 OW oo2
    have DX := DX ((((((V.setCell ⟨w.heap.size, 0, none⟩ (.int .i64 0)).setCell ⟨w.heap.size, 1, none⟩ (.int .i64 0)).setCell ⟨w.heap.size, 2, none⟩ (.int .i64 0)).setCell ⟨w.heap.size, 3, none⟩ (.slice none 0 0)).setCell ⟨w.heap.size, 4, none⟩ (.slice none 0 0)).setCell ⟨w.heap.size, 5, none⟩ (.slice none 0 0))
    obtain ⟨⟨z0, z1, z2, z3, z4, z5⟩, ⟨f0, f1, f2, f3, f4, f5⟩⟩ := Bx.b6 H.out.res
    have HP := Lib.hid (Bx.b6 (Bx.set6 H.out.res (.int .i64 0) (.int .i64 0) (.int .i64 0) (.slice none 0 0) (.slice none 0 0) (.slice none 0 0))).1
    have HQ := Lib.hid ((((((H.out.bel.setCell (p := ⟨w.heap.size, 0, none⟩) (Nat.le_refl _) (.int .i64 0)).setCell (p := ⟨w.heap.size, 1, none⟩) (Nat.le_refl _) (.int .i64 0)).setCell (p := ⟨w.heap.size, 2, none⟩) (Nat.le_refl _) (.int .i64 0)).setCell (p := ⟨w.heap.size, 3, none⟩) (Nat.le_refl _) (.slice none 0 0)).setCell (p := ⟨w.heap.size, 4, none⟩) (Nat.le_refl _) (.slice none 0 0)).setCell (p := ⟨w.heap.size, 5, none⟩) (Nat.le_refl _) (.slice none 0 0))
    clear H
    go_wp2
    obtain ⟨p0, p1, p2, p3, p4, p5⟩ := HP.out
    exact bodyPost_ret (v := .tuple #[.agg #[.int .i64 0, .int .i64 0, .int .i64 0, .slice none 0 0, .slice none 0 0, .slice none 0 0], .int .i64 2]) (by simp [results, Tryz.results33, go_sem, p0, p1, p2, p3, p4, p5]) rfl ⟨DX, HQ.out⟩
  | false =>
    cases s9 with
    | cons c0 t0 =>
      have e9 : decide (((c0 :: t0).length : Int) > 0) = true := by simp
      have DX := DRN.out (by rw [HD.out]; rfl)
      clear DRN DRS HD MY1 OW oo2
      have DX := DX ((((((V.setCell ⟨w.heap.size, 0, none⟩ (.int .i64 0)).setCell ⟨w.heap.size, 1, none⟩ (.int .i64 0)).setCell ⟨w.heap.size, 2, none⟩ (.int .i64 0)).setCell ⟨w.heap.size, 3, none⟩ (.slice none 0 0)).setCell ⟨w.heap.size, 4, none⟩ (.slice none 0 0)).setCell ⟨w.heap.size, 5, none⟩ (.slice none 0 0))
      obtain ⟨⟨z0, z1, z2, z3, z4, z5⟩, ⟨f0, f1, f2, f3, f4, f5⟩⟩ := Bx.b6 H.out.res
      have HP := Lib.hid (Bx.b6 (Bx.set6 H.out.res (.int .i64 0) (.int .i64 0) (.int .i64 0) (.slice none 0 0) (.slice none 0 0) (.slice none 0 0))).1
      have HQ := Lib.hid ((((((H.out.bel.setCell (p := ⟨w.heap.size, 0, none⟩) (Nat.le_refl _) (.int .i64 0)).setCell (p := ⟨w.heap.size, 1, none⟩) (Nat.le_refl _) (.int .i64 0)).setCell (p := ⟨w.heap.size, 2, none⟩) (Nat.le_refl _) (.int .i64 0)).setCell (p := ⟨w.heap.size, 3, none⟩) (Nat.le_refl _) (.slice none 0 0)).setCell (p := ⟨w.heap.size, 4, none⟩) (Nat.le_refl _) (.slice none 0 0)).setCell (p := ⟨w.heap.size, 5, none⟩) (Nat.le_refl _) (.slice none 0 0))
      clear H
      go_wp2
      obtain ⟨p0, p1, p2, p3, p4, p5⟩ := HP.out
      exact bodyPost_ret (v := .tuple #[.agg #[.int .i64 0, .int .i64 0, .int .i64 0, .slice none 0 0, .slice none 0 0, .slice none 0 0], .int .i64 2]) (by simp [results, Tryz.results33, go_sem, p0, p1, p2, p3, p4, p5]) rfl ⟨DX, HQ.out⟩
    | nil =>
      obtain ⟨⟨m0, m1, m2, m3, m4, m5⟩, ⟨g0, g1, g2, g3, g4, g5⟩⟩ := Bx.b6 H.out.own
      cases rmay with
      | false =>
        have DX := DRN.out (by rw [HD.out]; rfl)
        clear DRN DRS HD OW oo2
        go_wp2_with fail
        refine MY1.out.mono ?_
        rintro e w6 ⟨rfl, hb6⟩
        replace H := Lib.hid (H.out.below hb6)
        clear hb6 MY1 m0 m1 m2 m3 m4 m5 g0 g1 g2 g3 g4 g5 QB QS
        have DX := DX ((((((w6.setCell ⟨w.heap.size, 0, none⟩ (.int .i64 0)).setCell ⟨w.heap.size, 1, none⟩ (.int .i64 0)).setCell ⟨w.heap.size, 2, none⟩ (.int .i64 0)).setCell ⟨w.heap.size, 3, none⟩ (.slice none 0 0)).setCell ⟨w.heap.size, 4, none⟩ (.slice none 0 0)).setCell ⟨w.heap.size, 5, none⟩ (.slice none 0 0))
        obtain ⟨⟨z0, z1, z2, z3, z4, z5⟩, ⟨f0, f1, f2, f3, f4, f5⟩⟩ := Bx.b6 H.out.res
        have HP := Lib.hid (Bx.b6 (Bx.set6 H.out.res (.int .i64 0) (.int .i64 0) (.int .i64 0) (.slice none 0 0) (.slice none 0 0) (.slice none 0 0))).1
        have HQ := Lib.hid ((((((H.out.bel.setCell (p := ⟨w.heap.size, 0, none⟩) (Nat.le_refl _) (.int .i64 0)).setCell (p := ⟨w.heap.size, 1, none⟩) (Nat.le_refl _) (.int .i64 0)).setCell (p := ⟨w.heap.size, 2, none⟩) (Nat.le_refl _) (.int .i64 0)).setCell (p := ⟨w.heap.size, 3, none⟩) (Nat.le_refl _) (.slice none 0 0)).setCell (p := ⟨w.heap.size, 4, none⟩) (Nat.le_refl _) (.slice none 0 0)).setCell (p := ⟨w.heap.size, 5, none⟩) (Nat.le_refl _) (.slice none 0 0))
        clear H
        go_wp2
        obtain ⟨p0, p1, p2, p3, p4, p5⟩ := HP.out
        exact bodyPost_ret (v := .tuple #[.agg #[.int .i64 0, .int .i64 0, .int .i64 0, .slice none 0 0, .slice none 0 0, .slice none 0 0], .int .i64 2]) (by simp [results, Tryz.results33, go_sem, p0, p1, p2, p3, p4, p5]) rfl ⟨DX, HQ.out⟩
      | true =>
        have DX := DRS.out (by rw [HD.out]; rfl)
        clear DRN DRS HD
        go_wp2_with fail
        refine MY1.out.mono ?_
        rintro e w6 ⟨rfl, hb6⟩
        replace H := Lib.hid (H.out.below hb6)
        have oo3 := oo2.below hb6
        have DX := fun (W9 : World) (h9 : ∀ k : Nat, k ≠ w.heap.size → W9.heap[k]? = w6.heap[k]?) => DX W9 A d (OW.out w6 W9 _ A d oo3 (Nat.le_refl _) (fun k cur h => h9 k (Bx.ne_type h H.out.res (by decide))))
        clear OW oo2 oo3
        obtain ⟨W9, hw9⟩ : ∃ W9, W9 = ((((((w6.setCell ⟨w.heap.size, 0, none⟩ (.int .i64 4)).setCell ⟨w.heap.size, 1, none⟩ (.int .i64 x2)).setCell ⟨w.heap.size, 2, none⟩ (.int .i64 0)).setCell ⟨w.heap.size, 3, none⟩ (.slice none 0 0)).setCell ⟨w.heap.size, 4, none⟩ (.slice none 0 0)).setCell ⟨w.heap.size, 5, none⟩ (.slice A ll.length d)) := ⟨_, rfl⟩
        have hN9 : ∀ k : Nat, k ≠ w.heap.size → W9.heap[k]? = w6.heap[k]? := by
          intro k hk
          rw [hw9]
          repeat rw [Bx.ne hk]
        have DX := DX W9 hN9
        clear hN9
        subst hw9
        clear hb6 MY1 m0 m1 m2 m3 m4 m5 g0 g1 g2 g3 g4 g5 QB QS
        obtain ⟨⟨m0, m1, m2, m3, m4, m5⟩, _⟩ := Bx.b6 H.out.own
        obtain ⟨⟨z0, z1, z2, z3, z4, z5⟩, ⟨f0, f1, f2, f3, f4, f5⟩⟩ := Bx.b6 H.out.res
        have HP := Lib.hid (Bx.b6 (Bx.set6 H.out.res (.int .i64 4) (.int .i64 x2) (.int .i64 0) (.slice none 0 0) (.slice none 0 0) (.slice A ll.length d))).1
        have HQ := Lib.hid ((((((H.out.bel.setCell (p := ⟨w.heap.size, 0, none⟩) (Nat.le_refl _) (.int .i64 4)).setCell (p := ⟨w.heap.size, 1, none⟩) (Nat.le_refl _) (.int .i64 x2)).setCell (p := ⟨w.heap.size, 2, none⟩) (Nat.le_refl _) (.int .i64 0)).setCell (p := ⟨w.heap.size, 3, none⟩) (Nat.le_refl _) (.slice none 0 0)).setCell (p := ⟨w.heap.size, 4, none⟩) (Nat.le_refl _) (.slice none 0 0)).setCell (p := ⟨w.heap.size, 5, none⟩) (Nat.le_refl _) (.slice A ll.length d))
        clear H
        go_wp2
        obtain ⟨p0, p1, p2, p3, p4, p5⟩ := HP.out
        exact bodyPost_ret (v := .tuple #[.agg #[.int .i64 4, .int .i64 x2, .int .i64 0, .slice none 0 0, .slice none 0 0, .slice A ll.length d], .int .i64 0]) (by simp [results, Tryz.results33, go_sem, p0, p1, p2, p3, p4, p5]) rfl ⟨DX, HQ.out⟩
set_option maxHeartbeats 32000000 in
set_option maxRecDepth 100000 in
theorem rdecode_5 (s : List UInt8) (hl : s.length ≤ 140737488351232) (w : World) (h1 : (tInt (Rr.of s)).1 ≠ 1) (h4 : (tInt (Rr.of s)).1 ≠ 4) (h7 : (tInt (Rr.of s)).1 ≠ 7) (h12 : (tInt (Rr.of s)).1 ≠ 12) (e1 : hasT (tInt (Rr.of s)).1 = false) (e2 : hasN (tInt (Rr.of s)).1 = true) : Calls Tryz.prog 33 #[.string ⟨s.toArray⟩] w fun e w' => DecR s w.heap.size e w' ∧ Below w.heap.size w w' := by
  have QK : (Rr.of s).Ok := fun h => by cases h
  have C0 : Hid (∀ b w0 W, RQ b w0 (Rr.of s) W → Calls Tryz.prog 39 #[.pointer (some ⟨b, 0, none⟩)] W fun e W' => e = .returned (.int .i64 (tInt (Rr.of s)).1) ∧ RQ b w0 (tInt (Rr.of s)).2 W' ∧ W.grownBy W' (some b)) := Lib.hid fun b w0 W hW => rtake_int hW
  have C1 : Hid (∀ b w0 W, RQ b w0 (tInt (Rr.of s)).2 W → Calls Tryz.prog 39 #[.pointer (some ⟨b, 0, none⟩)] W fun e W' => e = .returned (.int .i64 (tInt (tInt (Rr.of s)).2).1) ∧ RQ b w0 (tInt (tInt (Rr.of s)).2).2 W' ∧ W.grownBy W' (some b)) := Lib.hid fun b w0 W hW => rtake_int hW
  have HM : takeM0 (Rr.of s) = (⟨(tInt (Rr.of s)).1, 0, (tInt (tInt (Rr.of s)).2).1, [], [], []⟩, (tInt (tInt (Rr.of s)).2).2) := by
    unfold takeM0 takeLs
    simp only [e1, e2]
    simp only [if_neg h1, if_neg h4]
    rw [if_neg (by omega)]
    rfl
  have HD : Hid (decC s = if (takeM0 (Rr.of s)).2.bad || (!(takeM0 (Rr.of s)).2.s.isEmpty || !mayM (takeM0 (Rr.of s)).1) then none else some (takeM0 (Rr.of s)).1) := Lib.hid (by rw [decC_is]; rfl)
  rw [HM] at HD
  clear HM
  generalize tInt (tInt (Rr.of s)).2 = p2 at *
  obtain ⟨x2, q2⟩ := p2
  generalize tInt (Rr.of s) = p1 at *
  obtain ⟨k, q1⟩ := p1
  simp only at *
  have MY : Hid (∀ (W : World) (B : Nat) , True → Calls Tryz.prog 69 #[.agg #[.int .i64 k, .int .i64 0, .int .i64 x2, .slice none 0 0, .slice none 0 0, .slice none 0 0]] W fun e w' => e = .returned (.bool (mayM (⟨k, 0, x2, [], [], []⟩ : Mn))) ∧ Below W.heap.size W w') := Lib.hid fun W B  ho => rmay_msg (m := (⟨k, 0, x2, [], [], []⟩ : Mn)) (A1 := none) (A2 := none) (A3 := none) (c1 := 0) (c2 := 0) (c3 := 0) ⟨RdC.nil _ _ _, RdB.nil _ _ _, RdI3.nil _ _ _, by simp, by simp, by simp⟩ (fun x hx => by cases hx) (fun x hx => by cases hx)
  have DRN : Hid (decC s = none → ∀ W, DecR s w.heap.size (.returned (.tuple #[zeroV, .int .i64 2])) W) := Lib.hid fun h W => by unfold DecR; rw [h]
  have DRS : Hid (decC s = some (⟨k, 0, x2, [], [], []⟩ : Mn) → ∀ (W : World) , True → DecR s w.heap.size (.returned (.tuple #[.agg #[.int .i64 k, .int .i64 0, .int .i64 x2, .slice none 0 0, .slice none 0 0, .slice none 0 0], .int .i64 0])) W) := Lib.hid fun h W  ho => by unfold DecR; rw [h]; exact ⟨_, rfl, _, _, _, rfl, rw_nil _ _, rw_nil _ _, rw_nil _ _⟩
  unfold zeroV at DRN
  generalize hDR : DecR s w.heap.size = DR at *
  clear hDR
  generalize decC s = dd at *
  obtain ⟨rmay, hrm⟩ : ∃ r, mayM (⟨k, 0, x2, [], [], []⟩ : Mn) = r := ⟨_, rfl⟩
  rw [hrm] at HD MY
  clear hrm
  generalize (⟨k, 0, x2, [], [], []⟩ : Mn) = mm at *
  have HT := Lib.hid fun W => rhast_any W k
  have HN := Lib.hid fun W => rhasn_any W k
  rw [show hasT k = false from e1] at HT
  rw [show hasN k = true from e2] at HN
  have b1 : (k == 1) = false := by simpa using h1
  have b4 : (k == 4) = false := by simpa using h4
  have b7 : (k == 7) = false := by simpa using h7
  have b12 : (k == 12) = false := by simpa using h12
  clear h1 h4 h7 h12
  clear e1 e2
  have B0 := Lib.hid (at2a w (.cells #[.int .i64 0, .int .i64 0, .int .i64 0, .slice none 0 0, .slice none 0 0, .slice none 0 0] MT) (.cells #[.string ⟨s.toArray⟩, .bool false] RT))
  have BR := at2b w (.cells #[.int .i64 0, .int .i64 0, .int .i64 0, .slice none 0 0, .slice none 0 0, .slice none 0 0] MT) (.cells #[.string ⟨s.toArray⟩, .bool false] RT)
  have HB := Lib.hid (bel2 w (.cells #[.int .i64 0, .int .i64 0, .int .i64 0, .slice none 0 0, .slice none 0 0, .slice none 0 0] MT) (.cells #[.string ⟨s.toArray⟩, .bool false] RT))
  have CR := Lib.hid (RX.start (T := RT) (q := Rr.of s) BR QK (by show s.length ≤ _; omega))
  clear BR QK
  go_enter Tryz.func33, Tryz.ntmps33
  go_upto_region 2 with fail
  generalize (w.alloc (.cells #[.int .i64 0, .int .i64 0, .int .i64 0, .slice none 0 0, .slice none 0 0, .slice none 0 0] MT)).alloc (.cells #[.string ⟨s.toArray⟩, .bool false] RT) = wb at *
  obtain ⟨b, hbb⟩ : ∃ b, b = w.heap.size + 1 := ⟨_, rfl⟩
  rw [← hbb] at CR ⊢
  have hwb : Hid (w.heap.size < b) := Lib.hid (by omega)
  clear hbb
  go_wp2_with fail
  refine (C0.out b wb wb CR.out).mono ?_
  rintro e w1 ⟨rfl, r1, g1⟩
  have HO := Lib.hid (TM.start B0.out HB.out r1 g1 hwb.out k)
  have ho : wb.heap.size ≤ w1.heap.size := g1.size
  clear r1 g1 B0 HB CR C0 hwb
  go_upto_region 3 with fail
  generalize w1.alloc (.cells #[.int .i64 k, .int .i64 0, .int .i64 0, .slice none 0 0, .slice none 0 0, .slice none 0 0] MT) = w2 at *
  generalize w1.heap.size = o at *
  have H := HO
  clear HO
  obtain ⟨⟨m0, m1, m2, m3, m4, m5⟩, ⟨g0, g1, g2, g3, g4, g5⟩⟩ := Bx.b6 H.out.own
  go_wp2_with fail
  refine (HT.out _).mono ?_
  rintro e w' ⟨rfl, rfl⟩
  clear m0 m1 m2 m3 m4 m5 g0 g1 g2 g3 g4 g5 HT
  obtain ⟨⟨m0, m1, m2, m3, m4, m5⟩, ⟨g0, g1, g2, g3, g4, g5⟩⟩ := Bx.b6 H.out.own
  go_wp2_with fail
  refine (HN.out _).mono ?_
  rintro e w' ⟨rfl, rfl⟩
  clear m0 m1 m2 m3 m4 m5 g0 g1 g2 g3 g4 g5 HN
  obtain ⟨⟨m0, m1, m2, m3, m4, m5⟩, ⟨g0, g1, g2, g3, g4, g5⟩⟩ := Bx.b6 H.out.own
  go_wp2_with fail
  refine (C1.out b wb _ H.out.rq).mono ?_
  rintro e v4 ⟨rfl, r1, gg⟩
  replace H := Lib.hid (H.out.call r1 gg)
  clear r1 gg m0 m1 m2 m3 m4 m5 g0 g1 g2 g3 g4 g5 C1
  obtain ⟨⟨m0, m1, m2, m3, m4, m5⟩, ⟨g0, g1, g2, g3, g4, g5⟩⟩ := Bx.b6 H.out.own
  go_upto_region 7 with fail
  replace H := Lib.hid (TM.set (u0 := (.int .i64 k)) (u1 := (.int .i64 0)) (u2 := (.int .i64 x2)) (u3 := (.slice none 0 0)) (u4 := (.slice none 0 0)) (u5 := (.slice none 0 0)) H.out ho 2 (.int .i64 x2) rfl)
  generalize v4.setCell ⟨o, 2, none⟩ (.int .i64 x2) = y4 at *
  clear m0 m1 m2 m3 m4 m5 g0 g1 g2 g3 g4 g5
  obtain ⟨⟨m0, m1, m2, m3, m4, m5⟩, ⟨g0, g1, g2, g3, g4, g5⟩⟩ := Bx.b6 H.out.own
  go_upto_region 15 with fail
  generalize y4 = V at *
  clear m0 m1 m2 m3 m4 m5 g0 g1 g2 g3 g4 g5
  have MY1 := Lib.hid (MY.out V 0 trivial)
  clear MY
  obtain ⟨s9, b9⟩ := q2
  have QB : V.cell? ⟨b, 1, none⟩ = some (.bool b9) := H.out.rq.rd.c1
  have QS : V.cell? ⟨b, 0, none⟩ = some (.string ⟨s9.toArray⟩) := H.out.rq.rd.c0
  simp only at HD
  cases b9 with
  | true =>
    have DX := DRN.out (by rw [HD.out]; rfl)
    clear DRN DRS HD MY1 
    have DX := DX ((((((V.setCell ⟨w.heap.size, 0, none⟩ (.int .i64 0)).setCell ⟨w.heap.size, 1, none⟩ (.int .i64 0)).setCell ⟨w.heap.size, 2, none⟩ (.int .i64 0)).setCell ⟨w.heap.size, 3, none⟩ (.slice none 0 0)).setCell ⟨w.heap.size, 4, none⟩ (.slice none 0 0)).setCell ⟨w.heap.size, 5, none⟩ (.slice none 0 0))
    obtain ⟨⟨z0, z1, z2, z3, z4, z5⟩, ⟨f0, f1, f2, f3, f4, f5⟩⟩ := Bx.b6 H.out.res
    have HP := Lib.hid (Bx.b6 (Bx.set6 H.out.res (.int .i64 0) (.int .i64 0) (.int .i64 0) (.slice none 0 0) (.slice none 0 0) (.slice none 0 0))).1
    have HQ := Lib.hid ((((((H.out.bel.setCell (p := ⟨w.heap.size, 0, none⟩) (Nat.le_refl _) (.int .i64 0)).setCell (p := ⟨w.heap.size, 1, none⟩) (Nat.le_refl _) (.int .i64 0)).setCell (p := ⟨w.heap.size, 2, none⟩) (Nat.le_refl _) (.int .i64 0)).setCell (p := ⟨w.heap.size, 3, none⟩) (Nat.le_refl _) (.slice none 0 0)).setCell (p := ⟨w.heap.size, 4, none⟩) (Nat.le_refl _) (.slice none 0 0)).setCell (p := ⟨w.heap.size, 5, none⟩) (Nat.le_refl _) (.slice none 0 0))
    clear H
    go_wp2
    obtain ⟨p0, p1, p2, p3, p4, p5⟩ := HP.out
    exact bodyPost_ret (v := .tuple #[.agg #[.int .i64 0, .int .i64 0, .int .i64 0, .slice none 0 0, .slice none 0 0, .slice none 0 0], .int .i64 2]) (by simp [results, Tryz.results33, go_sem, p0, p1, p2, p3, p4, p5]) rfl ⟨DX, HQ.out⟩
  | false =>
    cases s9 with
    | cons c0 t0 =>
      have e9 : decide (((c0 :: t0).length : Int) > 0) = true := by simp
      have DX := DRN.out (by rw [HD.out]; rfl)
      clear DRN DRS HD MY1 
      have DX := DX ((((((V.setCell ⟨w.heap.size, 0, none⟩ (.int .i64 0)).setCell ⟨w.heap.size, 1, none⟩ (.int .i64 0)).setCell ⟨w.heap.size, 2, none⟩ (.int .i64 0)).setCell ⟨w.heap.size, 3, none⟩ (.slice none 0 0)).setCell ⟨w.heap.size, 4, none⟩ (.slice none 0 0)).setCell ⟨w.heap.size, 5, none⟩ (.slice none 0 0))
      obtain ⟨⟨z0, z1, z2, z3, z4, z5⟩, ⟨f0, f1, f2, f3, f4, f5⟩⟩ := Bx.b6 H.out.res
      have HP := Lib.hid (Bx.b6 (Bx.set6 H.out.res (.int .i64 0) (.int .i64 0) (.int .i64 0) (.slice none 0 0) (.slice none 0 0) (.slice none 0 0))).1
      have HQ := Lib.hid ((((((H.out.bel.setCell (p := ⟨w.heap.size, 0, none⟩) (Nat.le_refl _) (.int .i64 0)).setCell (p := ⟨w.heap.size, 1, none⟩) (Nat.le_refl _) (.int .i64 0)).setCell (p := ⟨w.heap.size, 2, none⟩) (Nat.le_refl _) (.int .i64 0)).setCell (p := ⟨w.heap.size, 3, none⟩) (Nat.le_refl _) (.slice none 0 0)).setCell (p := ⟨w.heap.size, 4, none⟩) (Nat.le_refl _) (.slice none 0 0)).setCell (p := ⟨w.heap.size, 5, none⟩) (Nat.le_refl _) (.slice none 0 0))
      clear H
      go_wp2
      obtain ⟨p0, p1, p2, p3, p4, p5⟩ := HP.out
      exact bodyPost_ret (v := .tuple #[.agg #[.int .i64 0, .int .i64 0, .int .i64 0, .slice none 0 0, .slice none 0 0, .slice none 0 0], .int .i64 2]) (by simp [results, Tryz.results33, go_sem, p0, p1, p2, p3, p4, p5]) rfl ⟨DX, HQ.out⟩
    | nil =>
      obtain ⟨⟨m0, m1, m2, m3, m4, m5⟩, ⟨g0, g1, g2, g3, g4, g5⟩⟩ := Bx.b6 H.out.own
      cases rmay with
      | false =>
        have DX := DRN.out (by rw [HD.out]; rfl)
        clear DRN DRS HD 
        go_wp2_with fail
        refine MY1.out.mono ?_
        rintro e w6 ⟨rfl, hb6⟩
        replace H := Lib.hid (H.out.below hb6)
        clear hb6 MY1 m0 m1 m2 m3 m4 m5 g0 g1 g2 g3 g4 g5 QB QS
        have DX := DX ((((((w6.setCell ⟨w.heap.size, 0, none⟩ (.int .i64 0)).setCell ⟨w.heap.size, 1, none⟩ (.int .i64 0)).setCell ⟨w.heap.size, 2, none⟩ (.int .i64 0)).setCell ⟨w.heap.size, 3, none⟩ (.slice none 0 0)).setCell ⟨w.heap.size, 4, none⟩ (.slice none 0 0)).setCell ⟨w.heap.size, 5, none⟩ (.slice none 0 0))
        obtain ⟨⟨z0, z1, z2, z3, z4, z5⟩, ⟨f0, f1, f2, f3, f4, f5⟩⟩ := Bx.b6 H.out.res
        have HP := Lib.hid (Bx.b6 (Bx.set6 H.out.res (.int .i64 0) (.int .i64 0) (.int .i64 0) (.slice none 0 0) (.slice none 0 0) (.slice none 0 0))).1
        have HQ := Lib.hid ((((((H.out.bel.setCell (p := ⟨w.heap.size, 0, none⟩) (Nat.le_refl _) (.int .i64 0)).setCell (p := ⟨w.heap.size, 1, none⟩) (Nat.le_refl _) (.int .i64 0)).setCell (p := ⟨w.heap.size, 2, none⟩) (Nat.le_refl _) (.int .i64 0)).setCell (p := ⟨w.heap.size, 3, none⟩) (Nat.le_refl _) (.slice none 0 0)).setCell (p := ⟨w.heap.size, 4, none⟩) (Nat.le_refl _) (.slice none 0 0)).setCell (p := ⟨w.heap.size, 5, none⟩) (Nat.le_refl _) (.slice none 0 0))
        clear H
        go_wp2
        obtain ⟨p0, p1, p2, p3, p4, p5⟩ := HP.out
        exact bodyPost_ret (v := .tuple #[.agg #[.int .i64 0, .int .i64 0, .int .i64 0, .slice none 0 0, .slice none 0 0, .slice none 0 0], .int .i64 2]) (by simp [results, Tryz.results33, go_sem, p0, p1, p2, p3, p4, p5]) rfl ⟨DX, HQ.out⟩
      | true =>
        have DX := DRS.out (by rw [HD.out]; rfl)
        clear DRN DRS HD
        go_wp2_with fail
        refine MY1.out.mono ?_
        rintro e w6 ⟨rfl, hb6⟩
        replace H := Lib.hid (H.out.below hb6)
        have DX := fun (W9 : World) (h9 : ∀ k : Nat, k ≠ w.heap.size → W9.heap[k]? = w6.heap[k]?) => DX W9 trivial
        obtain ⟨W9, hw9⟩ : ∃ W9, W9 = ((((((w6.setCell ⟨w.heap.size, 0, none⟩ (.int .i64 k)).setCell ⟨w.heap.size, 1, none⟩ (.int .i64 0)).setCell ⟨w.heap.size, 2, none⟩ (.int .i64 x2)).setCell ⟨w.heap.size, 3, none⟩ (.slice none 0 0)).setCell ⟨w.heap.size, 4, none⟩ (.slice none 0 0)).setCell ⟨w.heap.size, 5, none⟩ (.slice none 0 0)) := ⟨_, rfl⟩
        have hN9 : ∀ k : Nat, k ≠ w.heap.size → W9.heap[k]? = w6.heap[k]? := by
          intro k hk
          rw [hw9]
          repeat rw [Bx.ne hk]
        have DX := DX W9 hN9
        clear hN9
        subst hw9
        clear hb6 MY1 m0 m1 m2 m3 m4 m5 g0 g1 g2 g3 g4 g5 QB QS
        obtain ⟨⟨m0, m1, m2, m3, m4, m5⟩, _⟩ := Bx.b6 H.out.own
        obtain ⟨⟨z0, z1, z2, z3, z4, z5⟩, ⟨f0, f1, f2, f3, f4, f5⟩⟩ := Bx.b6 H.out.res
        have HP := Lib.hid (Bx.b6 (Bx.set6 H.out.res (.int .i64 k) (.int .i64 0) (.int .i64 x2) (.slice none 0 0) (.slice none 0 0) (.slice none 0 0))).1
        have HQ := Lib.hid ((((((H.out.bel.setCell (p := ⟨w.heap.size, 0, none⟩) (Nat.le_refl _) (.int .i64 k)).setCell (p := ⟨w.heap.size, 1, none⟩) (Nat.le_refl _) (.int .i64 0)).setCell (p := ⟨w.heap.size, 2, none⟩) (Nat.le_refl _) (.int .i64 x2)).setCell (p := ⟨w.heap.size, 3, none⟩) (Nat.le_refl _) (.slice none 0 0)).setCell (p := ⟨w.heap.size, 4, none⟩) (Nat.le_refl _) (.slice none 0 0)).setCell (p := ⟨w.heap.size, 5, none⟩) (Nat.le_refl _) (.slice none 0 0))
        clear H
        go_wp2
        obtain ⟨p0, p1, p2, p3, p4, p5⟩ := HP.out
        exact bodyPost_ret (v := .tuple #[.agg #[.int .i64 k, .int .i64 0, .int .i64 x2, .slice none 0 0, .slice none 0 0, .slice none 0 0], .int .i64 0]) (by simp [results, Tryz.results33, go_sem, p0, p1, p2, p3, p4, p5]) rfl ⟨DX, HQ.out⟩
end Go.Proofs.YtdhlebmgeiiejaaGreat
