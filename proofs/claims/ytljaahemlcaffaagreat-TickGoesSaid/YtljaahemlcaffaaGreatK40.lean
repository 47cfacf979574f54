/- The world falls apart: the walk. Written by wip/tools/gentk.py. -/
import Derived.Test.YtljaahemlcaffaaGreatK39
namespace Go.Proofs.YtljaahemlcaffaaGreat
open Go.RowKit Pz Sp
set_option linter.unusedVariables false
set_option linter.unusedSimpArgs false

namespace Tk
section
variable {C R S D V : Int} {l : List Bn} {cs : List Cn}
theorem some_len {z : Int} {own near : List Bn} (h : Told own cs) (hl : own.length ≤ 60) (hc : cs.length ≤ 40) : (runS C R S D V z own near cs).1.length ≤ 100 ∧ (runS C R S D V z own near cs).2.length ≤ 100 := by
  have := total (C := C) (R := R) (S := S) (D := D) (V := V) (z := z) (near := near) h
  have := List.length_filter_le (fun c : Cn => decide (c.k = 1) && inZone C R S z c.b) cs
  unfold born at *
  omega
theorem runZ_len (h : Told l cs) (hl : l.length ≤ 60) (hc : cs.length ≤ 40) {n : Nat} (hn : (n : Int) < C * R) : (runZ C R S D V l cs n).1.length ≤ 100 ∧ (runZ C R S D V l cs n).2.1.length ≤ 100 ∧ (runZ C R S D V l cs n).2.2.length ≤ 100 := by
  have h1 : (ownZ C R S (n : Int) l).length ≤ l.length := List.length_filter_le _ _
  have h2 := some_len (C := C) (R := R) (S := S) (D := D) (V := V) (z := n) (near := nearZ C R S D n l) (told_part (C := C) (R := R) (S := S) h (n : Int)) (by omega) hc
  rw [runZ_is hn]
  unfold zoneS
  have h3 := List.length_filter_le (here C R S n) (runS C R S D V n (ownZ C R S n l) (nearZ C R S D n l) cs).1
  have h4 := List.length_filter_le (fun b => !here C R S n b) (runS C R S D V n (ownZ C R S n l) (nearZ C R S D n l) cs).1
  dsimp only
  omega
theorem allN_len (h : Told l cs) (hl : l.length ≤ 60) (hc : cs.length ≤ 40) : ∀ {n : Nat}, (n : Int) ≤ C * R → (allN C R S D V l cs n).length ≤ 200 * n ∧ (deadN C R S D V l cs n).length ≤ 100 * n
  | 0, _ => by simp [allN, deadN]
  | n + 1, hn => by
    have ih := allN_len h hl hc (n := n) (by omega)
    have h1 := runZ_len (C := C) (R := R) (S := S) (D := D) (V := V) h hl hc (n := n) (by omega)
    rw [allN, deadN, List.length_append, List.length_append, List.length_append, List.length_map]
    omega
end
end Tk
/-- a row behind a row of one's own -/
theorem sep_app {w W : World} {L : List Piece} {v : Value} {xs y : List Bn} (h : Sep w (rowB v xs :: L) W) {A : Option Addr} {cap : Nat} (R : RdB W W.heap.size A y) (hl : xs.length + y.length ≤ 1000000) :
    ∃ v' V, (Builtin.append_ #[24, 24] 24 #[v, .slice A y.length cap]).run Tryz.prog W = .ok v' V ∧ Sep w (rowB v' (xs ++ y) :: L) V := by
  cases hyy : y with
  | nil =>
    rw [List.append_nil]
    have hf := h.rows 0 rfl
    obtain ⟨i, hi, hz, h2, h3⟩ := info_parts bundle_info
    refine ⟨v, W, ?_, h⟩
    rcases hf with ⟨rfl, rfl⟩ | ⟨g, off, cp, cur, rfl, h1, h4, h5, _⟩
    · cases A <;> simp [Builtin.append_, run_underlying Tryz.underlying24, sizeOf, typeInfo, hi, Builtin.lenOf, Builtin.firstCells, storeCells, loadCells, loadCellsFrom]
    · cases A <;> simp [Builtin.append_, run_underlying Tryz.underlying24, sizeOf, typeInfo, hi, Builtin.lenOf, Builtin.firstCells, storeCells, loadCells, loadCellsFrom, h5]
  | cons x0 r0 =>
    rw [← hyy]
    obtain ⟨g, o, rfl, _⟩ := R 0 x0 (by rw [hyy]; rfl)
    have hpos : 0 < y.length := by rw [hyy]; simp
    obtain ⟨G, ⟨h1, h2⟩, _, next⟩ := h.one
    obtain ⟨v', w', hr, ho, hg, hb⟩ := h1.app (P := Tryz.prog) (t := 24) (ty := 24) Tryz.underlying24 bundle_info rfl (by decide) bnE_len bnE_one (Nat.zero_le _) y ⟨g, o, none⟩ cap (fun j x hj => by
      obtain ⟨g', o', e, hg, KS⟩ := R j x hj
      cases e
      intro c u hu
      have hc : c < 11 := (List.getElem?_eq_some_iff.1 hu).1
      rw [Addr.add_mid, ← Nat.add_assoc]
      obtain ⟨k0, k1, k2, k3, k4, k5, k6, k7, k8, k9, k10⟩ := KS
      have : c = 0 ∨ c = 1 ∨ c = 2 ∨ c = 3 ∨ c = 4 ∨ c = 5 ∨ c = 6 ∨ c = 7 ∨ c = 8 ∨ c = 9 ∨ c = 10 := by omega
      rcases this with rfl | rfl | rfl | rfl | rfl | rfl | rfl | rfl | rfl | rfl | rfl
      · have e1 : u = .int .i64 x.s := by simpa [bnE] using hu.symm
        rw [e1]
        exact k0
      · have e1 : u = .int .i64 x.i := by simpa [bnE] using hu.symm
        rw [e1]
        exact k1
      · have e1 : u = .int .i64 x.g := by simpa [bnE] using hu.symm
        rw [e1]
        exact k2
      · have e1 : u = .int .i64 x.m := by simpa [bnE] using hu.symm
        rw [e1]
        exact k3
      · have e1 : u = .int .i64 x.x := by simpa [bnE] using hu.symm
        rw [e1]
        exact k4
      · have e1 : u = .int .i64 x.y := by simpa [bnE] using hu.symm
        rw [e1]
        exact k5
      · have e1 : u = .int .i64 x.vx := by simpa [bnE] using hu.symm
        rw [e1]
        exact k6
      · have e1 : u = .int .i64 x.vy := by simpa [bnE] using hu.symm
        rw [e1]
        exact k7
      · have e1 : u = .int .i64 x.h := by simpa [bnE] using hu.symm
        rw [e1]
        exact k8
      · have e1 : u = .int .i64 x.p := by simpa [bnE] using hu.symm
        rw [e1]
        exact k9
      · have e1 : u = .int .i64 x.l := by simpa [bnE] using hu.symm
        rw [e1]
        exact k10
      ) hl (by decide) (.inl hpos)
    exact ⟨v', w', hr, next w' (rowB v' (xs ++ y)) (fun k => v'.ownBlock = some k) ⟨hg.os, hg.tape, hg.output, hg.size, fun k hk hn => hg.block k hk fun e => hn ((h2 k).2 e.symm)⟩ ⟨ho, fun k => Iff.rfl⟩ fun k hk => (hb k hk).imp (fun e => (h2 k).2 e) id⟩
set_option maxHeartbeats 8000000 in
set_option maxRecDepth 100000 in
theorem law_splits (K : TkCt) (w : World) (c0C c0R c0S c0D c0V c0N c0Q : Int) (A Ac : Option Addr) (qa qc : Nat) (l : List Bn) (cs : List Cn) (R : RdB w w.heap.size A l) (R2 : RdC w w.heap.size Ac cs) (hl : l.length ≤ qa ∧ qa ≤ 140737488351232) (hl2 : cs.length ≤ qc ∧ qc ≤ 140737488351232) (hF : ∀ b ∈ l, b.Fits) (hF2 : ∀ c ∈ cs, CFit c) :
    Calls Tryz.prog 3 #[.agg #[.int .i64 c0C, .int .i64 c0R, .int .i64 c0S, .int .i64 c0D, .int .i64 c0V, .int .i64 c0N, .int .i64 c0Q], .slice A l.length qa, .slice Ac cs.length qc] w fun e w' => e = .returned (.bool true) ∧ Below w.heap.size w w' := by
  have MY := Lib.hid fun W => zmay_any c0C c0R c0S c0D c0V c0N c0Q W
  have ok := Zn.may_ok c0C c0R c0S c0D c0V
  have okb := Zn.may_okB c0C c0R c0S c0D c0V c0N c0Q
  have AW := Lib.hid K.awake
  generalize (Zn.mC c0C) = mC at *
  generalize (Zn.mC c0R) = mR at *
  generalize (Zn.mD c0S c0D) = mD at *
  generalize (Zn.mD c0S c0V) = mV at *
  generalize (Zn.mS c0S) = mS at *
  generalize (Zn.mN c0N) = mN at *
  generalize (Zn.mQ c0Q) = mQ at *
  have NW : Hid (∀ L W, Sep w L W → Calls Tryz.prog 10 #[.agg #[.int .i64 mC, .int .i64 mR, .int .i64 mS, .int .i64 mD, .int .i64 mV, .int .i64 mN, .int .i64 mQ]] W fun e W' => ∃ q, e = .returned (.tuple #[.pointer (some ⟨q, 0, none⟩), .int .i64 0]) ∧ Sep w (box q (.cells #[.int .i64 mC, .int .i64 mR, .int .i64 mS, .int .i64 mD, .int .i64 mV, .int .i64 mN, .int .i64 mQ] 68) :: L) W') := Lib.hid fun L W hW => (new_yes mC mR mS mD mV mN mQ W okb).mono fun e W' ⟨q, a, b, c, d⟩ => ⟨q, a, sep_map' hW d c b⟩
  have LVC := Lib.hid fun V (hV : Below w.heap.size w V) => living_any (c := qa) mC mR mS mD mV mN mQ ok ((R.below hV).more hV.size) (by omega) hF
  have ORC : Hid (∀ (V : World) (Au : Option Addr) (cu : Nat) (U : List Bn), Below w.heap.size w V → U.length ≤ 60 → RdB V V.heap.size Au U → Calls Tryz.prog 12 #[.slice Au U.length cu, .slice Ac cs.length qc] V fun e w' => ∃ (O : List Cn) (A' : Option Addr) (c' : Nat), e = .returned (.slice A' O.length c') ∧ OwnC w' V.heap.size (.slice A' O.length c') O ∧ Od U O ∧ O.length ≤ 40 ∧ Below V.heap.size V w') := Lib.hid fun V Au cu U hV hU hR => orders_any hR ((R2.below hV).more hV.size) (by omega) (by omega) hF2
  have H0 : Hid (Sep w [box w.heap.size (.cells #[.int .i64 c0C, .int .i64 c0R, .int .i64 c0S, .int .i64 c0D, .int .i64 c0V, .int .i64 c0N, .int .i64 c0Q] 23)] (w.alloc (.cells #[.int .i64 c0C, .int .i64 c0R, .int .i64 c0S, .int .i64 c0D, .int .i64 c0V, .int .i64 c0N, .int .i64 c0Q] 23))) := Lib.hid (sep_box (sep_new w) _)
  have hcr := Zn.mul_bd ok
  obtain ⟨NN, hNN⟩ : ∃ NN : Nat, (NN : Int) = mC * mR := ⟨(mC * mR).toNat, Int.toNat_of_nonneg (by omega)⟩
  have hN16 : NN ≤ 16 := by omega
  clear okb R hF hl R2 hF2 hl2
  generalize l.length = nl at *
  generalize cs.length = nc at *
  go_enter Tryz.func3, Tryz.ntmps3
  go_upto_region 1 with fail
  generalize w.alloc (.cells #[.int .i64 c0C, .int .i64 c0R, .int .i64 c0S, .int .i64 c0D, .int .i64 c0V, .int .i64 c0N, .int .i64 c0Q] 23) = w0 at *
  obtain ⟨⟨g0, g1, g2, g3, g4, g5, g6⟩, ⟨f0, f1, f2, f3, f4, f5, f6⟩⟩ := box7 (H0.out.held 0 rfl)
  go_upto_region 2 with (go_at_call 9; with_reducible refine (MY.out _).mono ?_; rintro e w1 ⟨rfl, b1⟩; clear MY g0 g1 g2 g3 g4 g5 g6 f0 f1 f2 f3 f4 f5 f6; have H1 := Lib.hid (H0.out.below b1); clear H0 b1; obtain ⟨⟨g0, g1, g2, g3, g4, g5, g6⟩, ⟨f0, f1, f2, f3, f4, f5, f6⟩⟩ := box7 (H1.out.held 0 rfl))
  have HS := ((((((H1.out.cell (o := 0) (.int .i64 mC)).cell (o := 1) (.int .i64 mR)).cell (o := 2) (.int .i64 mS)).cell (o := 3) (.int .i64 mD)).cell (o := 4) (.int .i64 mV)).cell (o := 5) (.int .i64 mN)).cell (o := 6) (.int .i64 mQ)
  simp only [List.setIfInBounds_toArray, List.set_cons_succ, List.set_cons_zero] at HS
  replace HS := Lib.hid HS
  clear g0 g1 g2 g3 g4 g5 g6 f0 f1 f2 f3 f4 f5 f6 H1
  generalize (((((((w1.setCell ⟨w.heap.size, 0, none⟩ (.int .i64 mC)).setCell ⟨w.heap.size, 1, none⟩ (.int .i64 mR)).setCell ⟨w.heap.size, 2, none⟩ (.int .i64 mS)).setCell ⟨w.heap.size, 3, none⟩ (.int .i64 mD)).setCell ⟨w.heap.size, 4, none⟩ (.int .i64 mV)).setCell ⟨w.heap.size, 5, none⟩ (.int .i64 mN)).setCell ⟨w.heap.size, 6, none⟩ (.int .i64 mQ)) = w2 at *
  obtain ⟨⟨g0, g1, g2, g3, g4, g5, g6⟩, _⟩ := box7 (HS.out.held 0 rfl)
  go_upto_region 3 with (go_at_call 10; with_reducible refine (NW.out _ _ HS.out).mono ?_; rintro e w3 ⟨q, rfl, h3⟩; clear NW HS g0 g1 g2 g3 g4 g5 g6; have H3 := Lib.hid h3; clear h3; obtain ⟨⟨g0, g1, g2, g3, g4, g5, g6⟩, _⟩ := box7 (H3.out.held 1 rfl))
  go_upto_region 4 with (go_at_call 11; with_reducible refine (LVC.out _ H3.out.bel).mono ?_; rintro e w4 ⟨U, Au, cu, rfl, ho, hlv, hU, b4⟩; clear LVC g0 g1 g2 g3 g4 g5 g6; have H4 := Lib.hid (sep_row H3.out b4 ho); have HL := Lib.hid hlv; clear H3 ho b4 hlv)
  have OX := Lib.hid (ORC.out w4 Au cu U H4.out.bel hU (RdB.of_own (H4.out.rows 0 rfl)))
  clear ORC
  go_upto_region 5 with (go_at_call 12; with_reducible refine OX.out.mono ?_; rintro e w5 ⟨O, Ao, co, rfl, ho, hod, hO, b5⟩; clear OX; have H5 : Hid (Sep w [row cnE 55 16 (.slice Ao O.length co) O, rowB (.slice Au U.length cu) U, box q (.cells #[.int .i64 mC, .int .i64 mR, .int .i64 mS, .int .i64 mD, .int .i64 mV, .int .i64 mN, .int .i64 mQ] 68), box w.heap.size (.cells #[.int .i64 mC, .int .i64 mR, .int .i64 mS, .int .i64 mD, .int .i64 mV, .int .i64 mN, .int .i64 mQ] 23)] w5) := Lib.hid (sep_row H4.out b5 ho); have HD := Lib.hid hod; clear H4 ho b5 hod)
  have told := HD.out.told HL.out.un
  have HT := Lib.hid told
  have FA := Lib.hid (Tk.falls_apart (V := mV) ok told HL.out.may HL.out.there hU hNN)
  have LA := Lib.hid fun (n : Nat) (h : (n : Int) ≤ mC * mR) => Tk.allN_len (C := mC) (R := mR) (S := mS) (D := mD) (V := mV) told hU hO (n := n) h
  have LR := Lib.hid fun (n : Nat) (h : (n : Int) < mC * mR) => Tk.runZ_len (C := mC) (R := mR) (S := mS) (D := mD) (V := mV) told hU hO (n := n) h
  obtain ⟨W1, hW1⟩ : ∃ W1, W1 = (Tk.run mC mR mS mD mV (-1) U [] O).1 := ⟨_, rfl⟩
  obtain ⟨D1, hD1⟩ : ∃ D1, D1 = (Tk.run mC mR mS mD mV (-1) U [] O).2.2 := ⟨_, rfl⟩
  have lW : W1.length ≤ 100 ∧ D1.length ≤ 100 := by
    rw [hW1, hD1, Tk.run_whole ok]
    exact Tk.some_len told hU hO
  have FA2 : Hid (sortL Bn.id (Tk.allN mC mR mS mD mV U O NN) = W1 ∧ sortL Bn.id (Tk.deadN mC mR mS mD mV U O NN) = D1.map Tk.mk) := Lib.hid (by
    rw [hW1, hD1]
    exact ⟨FA.out.1, FA.out.2.2⟩)
  have KW : Hid (∀ W, Sep w [row cnE 55 16 (.slice Ao O.length co) O, rowB (.slice Au U.length cu) U, box q (.cells #[.int .i64 mC, .int .i64 mR, .int .i64 mS, .int .i64 mD, .int .i64 mV, .int .i64 mN, .int .i64 mQ] 68), box w.heap.size (.cells #[.int .i64 mC, .int .i64 mR, .int .i64 mS, .int .i64 mD, .int .i64 mV, .int .i64 mN, .int .i64 mQ] 23)] W → Calls Tryz.prog 13 #[.pointer (some ⟨q, 0, none⟩), .int .i64 (-1), .slice Au U.length cu, .slice none 0 0, .slice Ao O.length co] W fun e W' => ∃ (B1 B2 B3 : Option Addr) (d1 d2 d3 : Nat), e = .returned (.agg #[.slice B1 W1.length d1, .slice B2 0 d2, .slice B3 D1.length d3]) ∧ (OwnB W' W.heap.size (.slice B1 W1.length d1) W1 ∧ OwnN W' W.heap.size (.slice B3 D1.length d3) D1) ∧ Below W.heap.size W W') := Lib.hid fun W hW => by
    have := K.run mC mR mS mD mV mN mQ (-1) W q Au none Ao cu 0 co U [] O (hW.held 2 rfl) ok (by unfold Fit; omega) ⟨RdB.of_own (hW.rows 1 rfl), RdB.nil _ _ _, RdC.of_own (hW.rows 0 rfl), by omega, by simp, by omega, HL.out.fits, by simp, HD.out.fits⟩ (.inl HL.out.un)
    have e2 := FA.out.2.1
    refine this.mono fun e W' ⟨B1, B2, B3, d1, d2, d3, h1, ⟨h2, _, h4⟩, h5⟩ => ⟨B1, B2, B3, d1, d2, d3, ?_, ⟨?_, ?_⟩, h5⟩
    · rw [h1, hW1, hD1, e2]; rfl
    · rw [hW1]; exact h2
    · rw [hD1]; exact h4
  have PTC := Lib.hid fun (n : Nat) (hn : (n : Int) < mC * mR) V (hR : RdB V V.heap.size Au U) => part_any (c := cu) mC mR mS mD mV mN mQ ok (n : Int) ⟨by omega, hn⟩ hR (by omega) HL.out.fits
  have KZ : Hid (∀ (n : Nat) (hn : (n : Int) < mC * mR) (V : World) (A1 A2 : Option Addr) (c1 c2 : Nat), MapAt V q mC mR mS mD mV mN mQ → RdB V V.heap.size A1 (Tk.ownZ mC mR mS n U) → RdB V V.heap.size A2 (Tk.nearZ mC mR mS mD n U) → RdC V V.heap.size Ao O → Calls Tryz.prog 13 #[.pointer (some ⟨q, 0, none⟩), .int .i64 n, .slice A1 (Tk.ownZ mC mR mS n U).length c1, .slice A2 (Tk.nearZ mC mR mS mD n U).length c2, .slice Ao O.length co] V (Left V (Tk.runZ mC mR mS mD mV U O n))) := Lib.hid fun n hn V A1 A2 c1 c2 hq r1 r2 r3 => by
    have l1 : (Tk.ownZ mC mR mS n U).length ≤ U.length := List.length_filter_le _ _
    have l2 : (Tk.nearZ mC mR mS mD n U).length ≤ U.length := List.length_filter_le _ _
    exact K.run mC mR mS mD mV mN mQ n V q A1 A2 Ao c1 c2 co _ _ O hq ok (by unfold Fit; omega) ⟨r1, r2, r3, by omega, by omega, by omega, fun b hb => HL.out.fits b (List.mem_filter.1 hb).1, fun b hb => HL.out.fits b (List.mem_filter.1 hb).1, HD.out.fits⟩ (.inl (Tk.told_part HT.out n).un)
  clear K hW1 hD1 FA told HT HL HD ok
  go_upto_region 8 with (go_at_call 13; with_reducible refine (KW.out _ H5.out).mono ?_; rintro e V0 ⟨B1, B2, B3, d1, d2, d3, rfl, hoo, b7⟩; clear KW; have H7 := Lib.hid (sep_keep H5.out b7); have HOO := Lib.hid hoo; clear H5 hoo b7)
  have H8 := Lib.hid (sep_box H7.out (.cells #[.slice B1 W1.length d1, .slice B2 0 d2, .slice B3 D1.length d3] 35))
  clear H7
  obtain ⟨V1, hV1⟩ : ∃ V1, V1 = V0.alloc (.cells #[.slice B1 W1.length d1, .slice B2 0 d2, .slice B3 D1.length d3] 35) := ⟨_, rfl⟩
  rw [← hV1] at H8 ⊢
  clear hV1
  generalize V0.heap.size = b9 at H8 ⊢
  generalize w5.heap.size = lo at *
  have H9 : Hid (Sep w [rowB (.slice none (0 : Nat) 0) (Tk.allN mC mR mS mD mV U O 0), rowB (.slice none (0 : Nat) 0) (Tk.deadN mC mR mS mD mV U O 0), box b9 (.cells #[.slice B1 W1.length d1, .slice B2 0 d2, .slice B3 D1.length d3] 35), keepP lo V0, row cnE 55 16 (.slice Ao O.length co) O, rowB (.slice Au U.length cu) U, box q (.cells #[.int .i64 mC, .int .i64 mR, .int .i64 mS, .int .i64 mD, .int .i64 mV, .int .i64 mN, .int .i64 mQ] 68), box w.heap.size (.cells #[.int .i64 mC, .int .i64 mR, .int .i64 mS, .int .i64 mD, .int .i64 mV, .int .i64 mN, .int .i64 mQ] 23)] V1) := Lib.hid (row_none bnE 42 11 (row_none bnE 42 11 H8.out))
  clear H8
  have wcr : IntKind.i64.wrap (mC * mR) = mC * mR := IntWalk.i64_in _ ⟨by omega, by omega⟩
  have b42 : ∀ (x y z : Int) (V : World), (Instr.build 42 #[(0, .agg #[.int .i64 x, .int .i64 y, .int .i64 z])]).run Tryz.prog V = .ok (.agg #[.int .i64 x, .int .i64 y, .int .i64 z, .int .i64 0, .int .i64 0, .int .i64 0, .int .i64 0, .int .i64 0, .int .i64 0, .int .i64 0, .int .i64 0]) V := fun x y z V => by kernel_rfl
  go_wp2
  go_loopw [10, 11, 12] (fun a d s wr => ∃ n : Nat, n ≤ NN ∧ s = .int .i64 n ∧ Hid (Sep w [rowB a (Tk.allN mC mR mS mD mV U O n), rowB d (Tk.deadN mC mR mS mD mV U O n), box b9 (.cells #[.slice B1 W1.length d1, .slice B2 0 d2, .slice B3 D1.length d3] 35), keepP lo V0, row cnE 55 16 (.slice Ao O.length co) O, rowB (.slice Au U.length cu) U, box q (.cells #[.int .i64 mC, .int .i64 mR, .int .i64 mS, .int .i64 mD, .int .i64 mV, .int .i64 mN, .int .i64 mQ] 68), box w.heap.size (.cells #[.int .i64 mC, .int .i64 mR, .int .i64 mS, .int .i64 mD, .int .i64 mV, .int .i64 mN, .int .i64 mQ] 23)] wr)) (fun _ _ s _ => NN - (intOf s).toNat)
  case atStart => exact ⟨0, Nat.zero_le _, rfl, H9⟩
  case round =>
    clear H9
    obtain ⟨n, hn, rfl, HP⟩ := hrel
    obtain ⟨Aa, ca, hva⟩ := (HP.out.rows 0 rfl).form
    obtain ⟨Ad, cd, hvd⟩ := (HP.out.rows 1 rfl).form
    obtain ⟨la, hla⟩ : ∃ la, la = (Tk.allN mC mR mS mD mV U O n).length := ⟨_, rfl⟩
    obtain ⟨ld, hld⟩ : ∃ ld, ld = (Tk.deadN mC mR mS mD mV U O n).length := ⟨_, rfl⟩
    rw [← hla] at hva
    rw [← hld] at hvd
    subst hva hvd
    have HLA := Lib.hid hla
    have HLD := Lib.hid hld
    clear hla hld
    obtain ⟨g0, g1, g2, g3, g4, g5, g6⟩ := (box7 (HP.out.held 7 rfl)).1
    have lA := LA.out n (by omega)
    by_cases hnN : n < NN
    · have t1 : (n : Int) < mC * mR := by omega
      have lR := LR.out n t1
      have PX := Lib.hid (PTC.out n t1 wr (RdB.of_own (HP.out.rows 5 rfl)))
      have KY := Lib.hid (KZ.out n t1)
      clear PTC KZ LA LR FA2 AW
      go_upto_region 14 with (go_at_call 14; with_reducible refine PX.out.mono ?_; rintro e w6 ⟨P1, P2, p1, p2, rfl, ho1, ho2, b6⟩; clear PX g0 g1 g2 g3 g4 g5 g6; have H6 := Lib.hid (HP.out.below b6); have R1 := Lib.hid (RdB.of_own ho1); have R2 := Lib.hid (RdB.of_own ho2); clear HP ho1 ho2 b6)
      have KX := Lib.hid (KY.out w6 P1 P2 p1 p2 (H6.out.held 6 rfl) R1.out R2.out (RdC.of_own (H6.out.rows 4 rfl)))
      clear KY R1 R2
      obtain ⟨rr, hrr⟩ : ∃ rr, rr = (Tk.runZ mC mR mS mD mV U O n) := ⟨_, rfl⟩
      have eA : (Tk.allN mC mR mS mD mV U O (n + 1)) = ((Tk.allN mC mR mS mD mV U O n) ++ rr.1) ++ rr.2.1 := by rw [hrr]; rfl
      have eD : (Tk.deadN mC mR mS mD mV U O (n + 1)) = (Tk.deadN mC mR mS mD mV U O n) ++ rr.2.2.map Tk.mk := by rw [hrr]; rfl
      rw [← hrr] at KX lR
      clear hrr
      obtain ⟨ro, rg, rd⟩ := rr
      dsimp only at eA eD lR
      unfold Left at KX
      dsimp only at KX
      have eA := Lib.hid eA
      have eD := Lib.hid eD
      go_upto_region 15 with (go_at_call 13; with_reducible refine KX.out.mono ?_; rintro e w7 ⟨E1, E2, E3, e1, e2, e3, rfl, hoz, b7⟩; clear KX; have H7 := Lib.hid (sep_keep H6.out b7); have HOZ := Lib.hid hoz; clear H6 hoz b7)
      have H8 := Lib.hid (sep_box H7.out (.cells #[.slice E1 ro.length e1, .slice E2 rg.length e2, .slice E3 rd.length e3] 35))
      clear H7
      obtain ⟨V8, hV8⟩ : ∃ V8, V8 = w7.alloc (.cells #[.slice E1 ro.length e1, .slice E2 rg.length e2, .slice E3 rd.length e3] 35) := ⟨_, rfl⟩
      rw [← hV8] at H8 ⊢
      clear hV8
      generalize w7.heap.size = b15 at H8 ⊢
      generalize w6.heap.size = lz at *
      have HA := Lib.hid (show Sep w [rowB (.slice Aa la ca) (Tk.allN mC mR mS mD mV U O n), box b15 (.cells #[.slice E1 ro.length e1, .slice E2 rg.length e2, .slice E3 rd.length e3] 35), keepP lz w7, rowB (.slice Ad ld cd) (Tk.deadN mC mR mS mD mV U O n), box b9 (.cells #[.slice B1 W1.length d1, .slice B2 0 d2, .slice B3 D1.length d3] 35), keepP lo V0, row cnE 55 16 (.slice Ao O.length co) O, rowB (.slice Au U.length cu) U, box q (.cells #[.int .i64 mC, .int .i64 mR, .int .i64 mS, .int .i64 mD, .int .i64 mV, .int .i64 mN, .int .i64 mQ] 68), box w.heap.size (.cells #[.int .i64 mC, .int .i64 mR, .int .i64 mS, .int .i64 mD, .int .i64 mV, .int .i64 mN, .int .i64 mQ] 23)] V8 from H8.out.pull 2 rfl)
      clear H8
      obtain ⟨va, V9, hr, hB⟩ := sep_app HA.out (cap := e1) (HA.out.readB 2 rfl HOZ.out.1) (by omega)
      have HR1 := Lib.hid hr
      have HB := Lib.hid hB
      obtain ⟨⟨k0, k1, k2⟩, _⟩ := Bx.b3 (HA.out.held 1 rfl)
      clear hr hB HA
      obtain ⟨va2, V10, hr, hC⟩ := sep_app HB.out (cap := e2) (HB.out.readB 2 rfl HOZ.out.2.1) (by rw [List.length_append]; omega)
      have HR2 := Lib.hid hr
      have HC := Lib.hid hC
      obtain ⟨⟨m0, m1, m2⟩, _⟩ := Bx.b3 (HB.out.held 1 rfl)
      clear hr hC HB
      rw [← eA.out] at HC
      have HD0 : Hid (Sep w [rowB (.slice Ad ld cd) ((Tk.deadN mC mR mS mD mV U O n) ++ (rd.take 0).map Tk.mk), rowB va2 (Tk.allN mC mR mS mD mV U O (n + 1)), box b15 (.cells #[.slice E1 ro.length e1, .slice E2 rg.length e2, .slice E3 rd.length e3] 35), keepP lz w7, box b9 (.cells #[.slice B1 W1.length d1, .slice B2 0 d2, .slice B3 D1.length d3] 35), keepP lo V0, row cnE 55 16 (.slice Ao O.length co) O, rowB (.slice Au U.length cu) U, box q (.cells #[.int .i64 mC, .int .i64 mR, .int .i64 mS, .int .i64 mD, .int .i64 mV, .int .i64 mN, .int .i64 mQ] 68), box w.heap.size (.cells #[.int .i64 mC, .int .i64 mR, .int .i64 mS, .int .i64 mD, .int .i64 mV, .int .i64 mN, .int .i64 mQ] 23)] V10) := Lib.hid (by
        rw [List.take_zero, List.map_nil, List.append_nil]
        exact HC.out.pull 3 rfl)
      clear HC eA
      have HON := Lib.hid HOZ.out.2.2
      have lrd : rd.length ≤ 100 := lR.2.2
      have trd : (rd.length : Int) ≤ 100 := by omega
      have ldn : (Tk.deadN mC mR mS mD mV U O n).length ≤ 1600 := by omega
      clear HOZ lR lA HLA HLD
      go_wp2_with (first
        | (at_builtin; refine wpList_append _ rfl (.tmp 59) (.tmp 61) _ _ rfl _ _ rfl rfl _ _ HR1.out ?_; clear HR1 k0 k1 k2)
        | (at_builtin; refine wpList_append _ rfl (.tmp 63) (.tmp 65) _ _ rfl _ _ rfl rfl _ _ HR2.out ?_; clear HR2 m0 m1 m2))
      go_loopw [11, 16] (fun x s ws => ∃ i : Nat, i ≤ rd.length ∧ s = .int .i64 i ∧ Hid (Sep w [rowB x ((Tk.deadN mC mR mS mD mV U O n) ++ (rd.take i).map Tk.mk), rowB va2 (Tk.allN mC mR mS mD mV U O (n + 1)), box b15 (.cells #[.slice E1 ro.length e1, .slice E2 rg.length e2, .slice E3 rd.length e3] 35), keepP lz w7, box b9 (.cells #[.slice B1 W1.length d1, .slice B2 0 d2, .slice B3 D1.length d3] 35), keepP lo V0, row cnE 55 16 (.slice Ao O.length co) O, rowB (.slice Au U.length cu) U, box q (.cells #[.int .i64 mC, .int .i64 mR, .int .i64 mS, .int .i64 mD, .int .i64 mV, .int .i64 mN, .int .i64 mQ] 68), box w.heap.size (.cells #[.int .i64 mC, .int .i64 mR, .int .i64 mS, .int .i64 mD, .int .i64 mV, .int .i64 mN, .int .i64 mQ] 23)] ws)) (fun _ s _ => rd.length - (intOf s).toNat)
      case atStart => exact ⟨0, Nat.zero_le _, rfl, HD0⟩
      case round =>
        clear HD0
        obtain ⟨i, hi, rfl, HQ⟩ := hrel
        obtain ⟨Ax, cx, hvx⟩ := (HQ.out.rows 0 rfl).form
        obtain ⟨lx, hlx⟩ : ∃ lx, lx = ((Tk.deadN mC mR mS mD mV U O n) ++ (rd.take i).map Tk.mk).length := ⟨_, rfl⟩
        rw [← hlx] at hvx
        subst hvx
        clear hlx
        obtain ⟨⟨k0, k1, k2⟩, _⟩ := Bx.b3 (HQ.out.held 2 rfl)
        by_cases hid : i < rd.length
        · have t2 : (i : Int) < (rd.length : Int) := by omega
          obtain ⟨g2, o2, e2', _, z0, z1, z2⟩ := (HQ.out.readN 3 rfl HON.out) i _ (List.getElem?_eq_getElem hid)
          have TK : ((Tk.deadN mC mR mS mD mV U O n) ++ (rd.take i).map Tk.mk) ++ [Tk.mk rd[i]] = (Tk.deadN mC mR mS mD mV U O n) ++ (rd.take (i + 1)).map Tk.mk := by rw [List.take_succ_eq_append_getElem hid, List.map_append, List.append_assoc]; rfl
          obtain ⟨v', V', hr, ho⟩ := ent_push HQ.out (Tk.mk rd[i]) (by rw [List.length_append, List.length_map, List.length_take]; omega)
          rw [TK] at ho
          have HR := Lib.hid hr
          have HN := Lib.hid ho
          clear hr ho HQ TK HON eD
          cases e2'
          dsimp only [Tk.mk] at HR
          generalize rd[i] = kk at *
          obtain ⟨y0, y1, y2⟩ := kk
          dsimp only at z0 z1 z2 HR
          go_wp2_with (at_builtin; refine wpList_append _ rfl (.tmp 74) (.tmp 81) _ _ rfl _ _ rfl rfl _ _ HR.out ?_)
          go_roundw
          case rel => exact ⟨i + 1, by omega, by go_num, HN⟩
          case measure => simp [intOf]; omega
        · obtain rfl : i = rd.length := by omega
          have t2 : ¬ (rd.length : Int) < (rd.length : Int) := by omega
          rw [List.take_length, ← eD.out] at HQ
          have HE := Lib.hid ((show Sep w [keepP lz w7, rowB (.slice Ax lx cx) (Tk.deadN mC mR mS mD mV U O (n + 1)), rowB va2 (Tk.allN mC mR mS mD mV U O (n + 1)), box b9 (.cells #[.slice B1 W1.length d1, .slice B2 0 d2, .slice B3 D1.length d3] 35), keepP lo V0, row cnE 55 16 (.slice Ao O.length co) O, rowB (.slice Au U.length cu) U, box q (.cells #[.int .i64 mC, .int .i64 mR, .int .i64 mS, .int .i64 mD, .int .i64 mV, .int .i64 mN, .int .i64 mQ] 68), box w.heap.size (.cells #[.int .i64 mC, .int .i64 mR, .int .i64 mS, .int .i64 mD, .int .i64 mV, .int .i64 mN, .int .i64 mQ] 23)] wr from (show Sep w [box b15 (.cells #[.slice E1 ro.length e1, .slice E2 rg.length e2, .slice E3 rd.length e3] 35), rowB (.slice Ax lx cx) (Tk.deadN mC mR mS mD mV U O (n + 1)), rowB va2 (Tk.allN mC mR mS mD mV U O (n + 1)), keepP lz w7, box b9 (.cells #[.slice B1 W1.length d1, .slice B2 0 d2, .slice B3 D1.length d3] 35), keepP lo V0, row cnE 55 16 (.slice Ao O.length co) O, rowB (.slice Au U.length cu) U, box q (.cells #[.int .i64 mC, .int .i64 mR, .int .i64 mS, .int .i64 mD, .int .i64 mV, .int .i64 mN, .int .i64 mQ] 68), box w.heap.size (.cells #[.int .i64 mC, .int .i64 mR, .int .i64 mS, .int .i64 mD, .int .i64 mV, .int .i64 mN, .int .i64 mQ] 23)] wr from HQ.out.pull 2 rfl).drop.pull 2 rfl).drop.swap)
          clear HQ HON eD
          go_wp2
          go_roundw
          case rel => exact ⟨n + 1, by omega, by go_num, HE⟩
          case measure => simp [intOf]; omega
    · obtain rfl : n = NN := by omega
      have t1 : ¬ (n : Int) < mC * mR := by omega
      have ela := HLA.out
      have eld := HLD.out
      have FS := FA2.out
      clear HLA HLD FA2 PTC KZ LA LR hNN
      obtain ⟨AL, hAL⟩ : ∃ AL, AL = (Tk.allN mC mR mS mD mV U O n) := ⟨_, rfl⟩
      obtain ⟨DL, hDL⟩ : ∃ DL, DL = (Tk.deadN mC mR mS mD mV U O n) := ⟨_, rfl⟩
      rw [← hAL] at ela FS lA HP
      rw [← hDL] at eld FS lA HP
      clear hAL hDL
      subst ela eld
      have dl : DL.length = D1.length := by
        have := (Sy.sort_perm DL).length_eq
        rw [FS.2, List.length_map] at this
        exact this.symm
      have al : W1.length = AL.length := by
        have := (Sy.sort_perm AL).length_eq
        rw [FS.1] at this
        exact this
      have SD0 := rsorted_any (cap := cd) (RdB.of_own (HP.out.rows 1 rfl)) (by omega)
      have SA0 := fun W (hR : RdB W W.heap.size Aa AL) => rsorted_any (cap := ca) hR (by omega)
      rw [FS.2] at SD0
      rw [FS.1] at SA0
      clear FS
      have SD : Hid (Calls Tryz.prog 15 #[.slice Ad DL.length cd] wr fun e V => ∃ A' c', e = .returned (.slice A' D1.length c') ∧ OwnB V wr.heap.size (.slice A' D1.length c') (D1.map Tk.mk) ∧ Below wr.heap.size wr V) := Lib.hid (SD0.mono fun e V ⟨⟨A', c', e1, e2⟩, e3⟩ => ⟨A', c', by rw [← dl]; exact e1, by rw [← dl]; exact e2, e3⟩)
      have SA : Hid (∀ W, RdB W W.heap.size Aa AL → Calls Tryz.prog 15 #[.slice Aa AL.length ca] W fun e W' => ∃ v, e = .returned v ∧ grows.r W W' ∧ OwnBP 0 W1 v W') := Lib.hid fun W hR => (SA0 W hR).mono fun e W' ⟨⟨A', c', e1, e2⟩, e3⟩ => ⟨_, e1, e3, A', c', by rw [al], by rw [al]; exact e2.base (Nat.zero_le _)⟩
      have tW : W1.length ≤ 140737488351232 := by omega
      have tD : (D1.length : Int) ≤ 100 := by omega
      clear SD0 SA0 al dl lA lW
      go_upto_region 22 with (go_at_call 15; with_reducible refine SD.out.mono ?_; rintro e w10 ⟨As, c10, rfl, ho, b10⟩; clear SD g0 g1 g2 g3 g4 g5 g6; have H10 := Lib.hid (sep_row HP.out b10 ho); clear HP ho b10)
      have RQ : Hid (∀ W, Sep w [rowB (.slice As D1.length c10) (D1.map Tk.mk), rowB (.slice Aa AL.length ca) AL, rowB (.slice Ad DL.length cd) DL, box b9 (.cells #[.slice B1 W1.length d1, .slice B2 0 d2, .slice B3 D1.length d3] 35), keepP lo V0, row cnE 55 16 (.slice Ao O.length co) O, rowB (.slice Au U.length cu) U, box q (.cells #[.int .i64 mC, .int .i64 mR, .int .i64 mS, .int .i64 mD, .int .i64 mV, .int .i64 mN, .int .i64 mQ] 68), box w.heap.size (.cells #[.int .i64 mC, .int .i64 mR, .int .i64 mS, .int .i64 mD, .int .i64 mV, .int .i64 mN, .int .i64 mQ] 23)] W → RdB W W.heap.size As (D1.map Tk.mk)) := Lib.hid fun W hW => by
        have := hW.rows 0 rfl
        have e : (D1.map Tk.mk).length = D1.length := by simp
        rw [← e] at this
        exact RdB.of_own this
      obtain ⟨⟨k0, k1, k2⟩, _⟩ := Bx.b3 (H10.out.held 3 rfl)
      have nn : ((D1.length : Int) != (D1.length : Int)) = false := by simp
      go_wp2
      go_loopw [17] (fun s ws => ∃ i : Nat, i ≤ D1.length ∧ s = .int .i64 i ∧ Hid (Sep w [rowB (.slice As D1.length c10) (D1.map Tk.mk), rowB (.slice Aa AL.length ca) AL, rowB (.slice Ad DL.length cd) DL, box b9 (.cells #[.slice B1 W1.length d1, .slice B2 0 d2, .slice B3 D1.length d3] 35), keepP lo V0, row cnE 55 16 (.slice Ao O.length co) O, rowB (.slice Au U.length cu) U, box q (.cells #[.int .i64 mC, .int .i64 mR, .int .i64 mS, .int .i64 mD, .int .i64 mV, .int .i64 mN, .int .i64 mQ] 68), box w.heap.size (.cells #[.int .i64 mC, .int .i64 mR, .int .i64 mS, .int .i64 mD, .int .i64 mV, .int .i64 mN, .int .i64 mQ] 23)] ws)) (fun s _ => D1.length - (intOf s).toNat)
      case atStart => exact ⟨0, Nat.zero_le _, rfl, H10⟩
      case round =>
        clear H10 k0 k1 k2
        obtain ⟨i, hi, rfl, HQ⟩ := hrel
        obtain ⟨⟨k0, k1, k2⟩, _⟩ := Bx.b3 (HQ.out.held 3 rfl)
        by_cases hid : i < D1.length
        · have t2 : (i : Int) < (D1.length : Int) := by omega
          have hk := List.getElem?_eq_getElem hid
          obtain ⟨ga, oa, ea, _, z0, z1, z2, _⟩ := RQ.out wr HQ.out i (Tk.mk D1[i]) (by rw [List.getElem?_map, hk]; rfl)
          obtain ⟨gb, ob, eb, _, y0, y1, y2⟩ := (HQ.out.readN 4 rfl HOO.out.2) i _ hk
          have NX : Hid (∀ m, Sep w [rowB (.slice As D1.length c10) (D1.map Tk.mk), rowB (.slice Aa AL.length ca) AL, rowB (.slice Ad DL.length cd) DL, box b9 (.cells #[.slice B1 W1.length d1, .slice B2 0 d2, .slice B3 D1.length d3] 35), keepP lo V0, row cnE 55 16 (.slice Ao O.length co) O, rowB (.slice Au U.length cu) U, box q (.cells #[.int .i64 mC, .int .i64 mR, .int .i64 mS, .int .i64 mD, .int .i64 mV, .int .i64 mN, .int .i64 mQ] 68), box w.heap.size (.cells #[.int .i64 mC, .int .i64 mR, .int .i64 mS, .int .i64 mD, .int .i64 mV, .int .i64 mN, .int .i64 mQ] 23)] (wr.drewN m)) := Lib.hid fun m => HQ.out.below (Below.dn' (Below.refl _ wr) m)
          subst ea eb
          clear HQ RQ HOO SA AW hk
          dsimp only [Tk.mk] at z0 z1 z2
          generalize D1[i] = kk at *
          obtain ⟨x0, x1, x2⟩ := kk
          dsimp only at z0 z1 z2 y0 y1 y2
          have EQ := fun V => eq_id 9998 x0 x1 x2 x0 x1 x2 V
          simp at EQ
          generalize D1.length = nd at *
          go_wp2
          go_quiet (fail)
          go_wp2
          go_roundw
          case rel => exact ⟨i + 1, by omega, by go_num, Lib.hid (NX.out _)⟩
          case measure => simp [intOf]; omega
        · obtain rfl : i = D1.length := by omega
          have t2 : ¬ (D1.length : Int) < (D1.length : Int) := by omega
          have RA : RdB wr wr.heap.size Aa AL := RdB.of_own (HQ.out.rows 1 rfl)
          have RW : RdB wr wr.heap.size B1 W1 := HQ.out.readB 4 rfl HOO.out.1
          have tb : b9 < wr.heap.size := Bx.lt (HQ.out.held 3 rfl)
          have HB := Lib.hid HQ.out.bel
          have SAME : Hid (∀ (p : Lat grows wr) (v : Value), OwnBP 0 W1 v p.W → Calls Tryz.prog 16 #[v, .slice B1 W1.length d1] p.W fun e W' => e = .returned (.bool true) ∧ grows.r p.W W') := Lib.hid fun p v ⟨A', c', hv, ho⟩ => by
            subst hv
            exact rsame_yes (RdB.of_own ho) ((RW.below (zlat_below p)).more (zlat_below p).size) tW
          have SRT := Lib.hid fun p : Lat grows wr => SA.out p.W ((RA.below (zlat_below p)).more (zlat_below p).size)
          clear HQ RQ HOO SA RA RW
          go_upto_region 29 with fail
          refine Og.grow 8 (by kernel_rfl) (by kernel_rfl) fun hc hf => ?_
          simp only [List.take_succ_cons, List.take_zero, List.drop_succ_cons, List.drop_zero]
          iterate 1 (refine Og.det [] rfl (fun J hJ => ?_); go_simp; refine hJ _ _ ?_; clear hJ J)
          refine Og.such 115 (OwnBP 0 W1) [] rfl (ownB_lasts _ _) (ownB_noBool _ _) (fun J hJ => ?_)
          go_simp
          refine ⟨fun p => SRT.out p, hJ _ _ ?_⟩
          clear hJ J
          iterate 2 (refine Og.det [] rfl (fun J hJ => ?_); go_simp; refine hJ _ _ ?_; clear hJ J)
          refine Og.det [(115, OwnBP 0 W1)] rfl (fun J hJ => ?_)
          go_simp
          refine ⟨_, fun p v hv => SAME.out p v hv, hJ _ _ ?_⟩
          clear hJ J
          iterate 1 (refine Og.det [] rfl (fun J hJ => ?_); go_simp; refine hJ _ _ ?_; clear hJ J)
          refine Og.det [] rfl (fun J hJ => ?_)
          go_simp
          with_reducible refine ⟨_, fun p => Og.lays (AW.out p.W), hJ _ _ ?_⟩
          clear hJ J
          iterate 1 (refine Og.det [] rfl (fun J hJ => ?_); go_simp; refine hJ _ _ ?_; clear hJ J)
          clear hc hf
          refine Og.fin fun W hW => ?_
          simp only [Og.opened_cons, Og.opened_nil]
          intro v115 hv115
          have HB2 := Lib.hid (HB.out.trans (hW.mono HB.out.size))
          clear hv115 hW SRT SAME AW HB
          go_wp2
          go_ret
          exact ⟨rfl, HB2.out⟩
end Go.Proofs.YtljaahemlcaffaaGreat
