/- Everyone who was there, or began in the zone, comes just once behind a tick. -/
import Derived.Test.YtljaahemlcaffaaGreatTkCn
import Derived.Test.YtljaahemlcaffaaGreatTkCs
import Derived.Test.YtljaahemlcaffaaGreatK42
import Derived.Test.YtljaahemlcaffaaGreatK32
import Derived.Test.YtljaahemlcaffaaGreatK30
import Derived.Deep.RegionLaw
import Derived.Deep.CutRange
namespace Go.Proofs.YtljaahemlcaffaaGreat
open Go.RowKit Pz Sp
set_option linter.unusedVariables false
set_option linter.unusedSimpArgs false

set_option maxHeartbeats 8000000 in
set_option maxRecDepth 100000 in
theorem law_counts (K : TkCt) (w : World) (c0C c0R c0S c0D c0V c0N c0Q z : Int) (A1 A2 A3 : Option Addr) (q1 q2 q3 : Nat) (own near : List Bn) (cs : List Cn) (hG : Given w A1 A2 A3 q1 q2 q3 own near cs) (hz : Fit z) :
    Calls Tryz.prog 6 #[.agg #[.int .i64 c0C, .int .i64 c0R, .int .i64 c0S, .int .i64 c0D, .int .i64 c0V, .int .i64 c0N, .int .i64 c0Q, .int .i64 z, .slice A1 own.length q1, .slice A2 near.length q2, .slice A3 cs.length q3]] w fun e w' => e = .returned (.bool true) ∧ Below w.heap.size w w' := by
  have HD := Lib.hid fun V (hV : Below w.heap.size w V) => hG.hand.below hV
  have FW : Hid (∀ V, Calls Tryz.prog 18 #[.agg #[.int .i64 c0C, .int .i64 c0R, .int .i64 c0S, .int .i64 c0D, .int .i64 c0V, .int .i64 c0N, .int .i64 c0Q, .int .i64 z, .slice A1 own.length q1, .slice A2 near.length q2, .slice A3 cs.length q3]] V fun e V' => e = .returned (.agg #[.int .i64 (Zn.mC c0C), .int .i64 (Zn.mC c0R), .int .i64 (Zn.mS c0S), .int .i64 (Zn.mD c0S c0D), .int .i64 (Zn.mD c0S c0V), .int .i64 (Zn.mN c0N), .int .i64 (Zn.mQ c0Q), .int .i64 z, .slice A1 (own.take 40).length q1, .slice A2 (near.take 40).length q2, .slice A3 (cs.take 40).length q3]) ∧ Below V.heap.size V V') := Lib.hid fun V => by
    have := few15_any c0C c0R c0S c0D c0V c0N c0Q z (A1 := A1) (A2 := A2) (A3 := A3) hG.c1 hG.c2 hG.c3 V
    rw [List.length_take, List.length_take, List.length_take, Nat.min_comm 40, Nat.min_comm 40, Nat.min_comm 40]
    exact this
  have ok := Zn.may_ok c0C c0R c0S c0D c0V
  have okb := Zn.may_okB c0C c0R c0S c0D c0V c0N c0Q
  have AW := Lib.hid K.awake
  generalize (Zn.mC c0C) = mC at *
  generalize (Zn.mC c0R) = mR at *
  generalize (Zn.mD c0S c0D) = mD at *
  generalize (Zn.mD c0S c0V) = mV at *
  generalize (Zn.mS c0S) = mS at *
  generalize (Zn.mN c0N) = mN at *
  generalize (Zn.mQ c0Q) = mQ at *
  have NW : Hid (∀ L W, Sep w L W → Calls Tryz.prog 10 #[.agg #[.int .i64 mC, .int .i64 mR, .int .i64 mS, .int .i64 mD, .int .i64 mV, .int .i64 mN, .int .i64 mQ]] W fun e W' => ∃ q, e = .returned (.tuple #[.pointer (some ⟨q, 0, none⟩), .int .i64 0]) ∧ Sep w (box q (.cells #[.int .i64 mC, .int .i64 mR, .int .i64 mS, .int .i64 mD, .int .i64 mV, .int .i64 mN, .int .i64 mQ] 68) :: L) W') := Lib.hid fun L W hW => (new_yes mC mR mS mD mV mN mQ W okb).mono fun e W' ⟨q, a, b, c, d⟩ => ⟨q, a, sep_map' hW d c b⟩
  clear hG okb
  generalize own.length = n1 at *
  generalize near.length = n2 at *
  generalize cs.length = n3 at *
  generalize own.take 40 = x1 at *
  generalize near.take 40 = x2 at *
  generalize cs.take 40 = x3 at *
  have LVC := Lib.hid fun V (hV : Below w.heap.size w V) => living_any (c := q1) mC mR mS mD mV mN mQ ok (HD.out V hV).r1 (by have := (HD.out V hV).l1; omega) (HD.out V hV).f1
  have lx2 : x2.length ≤ 1000 := (HD.out w (Below.refl _ _)).l2
  have H0 : Hid (Sep w [box w.heap.size (.cells #[.int .i64 c0C, .int .i64 c0R, .int .i64 c0S, .int .i64 c0D, .int .i64 c0V, .int .i64 c0N, .int .i64 c0Q, .int .i64 z, .slice A1 n1 q1, .slice A2 n2 q2, .slice A3 n3 q3] 48)] (w.alloc (.cells #[.int .i64 c0C, .int .i64 c0R, .int .i64 c0S, .int .i64 c0D, .int .i64 c0V, .int .i64 c0N, .int .i64 c0Q, .int .i64 z, .slice A1 n1 q1, .slice A2 n2 q2, .slice A3 n3 q3] 48))) := Lib.hid (sep_box (sep_new w) _)
  go_enter Tryz.func6, Tryz.ntmps6
  go_upto_region 1 with fail
  generalize w.alloc (.cells #[.int .i64 c0C, .int .i64 c0R, .int .i64 c0S, .int .i64 c0D, .int .i64 c0V, .int .i64 c0N, .int .i64 c0Q, .int .i64 z, .slice A1 n1 q1, .slice A2 n2 q2, .slice A3 n3 q3] 48) = w0 at *
  obtain ⟨⟨k0, k1, k2, k3, k4, k5, k6, k7, k8, k9, k10⟩, ⟨f0, f1, f2, f3, f4, f5, f6, f7, f8, f9, f10⟩⟩ := Bx.b11 (H0.out.held 0 rfl)
  go_upto_region 2 with (go_at_call 18; with_reducible refine (FW.out _).mono ?_; rintro e w1 ⟨rfl, b1⟩; clear FW k0 k1 k2 k3 k4 k5 k6 k7 k8 k9 k10 f0 f1 f2 f3 f4 f5 f6 f7 f8 f9 f10; have H1 := Lib.hid (H0.out.below b1); clear H0 b1; obtain ⟨⟨k0, k1, k2, k3, k4, k5, k6, k7, k8, k9, k10⟩, ⟨f0, f1, f2, f3, f4, f5, f6, f7, f8, f9, f10⟩⟩ := Bx.b11 (H1.out.held 0 rfl))
  have HS := Lib.hid (H1.out.set11 (.int .i64 mC) (.int .i64 mR) (.int .i64 mS) (.int .i64 mD) (.int .i64 mV) (.int .i64 mN) (.int .i64 mQ) (.int .i64 z) (.slice A1 x1.length q1) (.slice A2 x2.length q2) (.slice A3 x3.length q3))
  clear k0 k1 k2 k3 k4 k5 k6 k7 k8 k9 k10 f0 f1 f2 f3 f4 f5 f6 f7 f8 f9 f10 H1
  generalize (((((((((((w1.setCell ⟨w.heap.size, 0, none⟩ (.int .i64 mC)).setCell ⟨w.heap.size, 1, none⟩ (.int .i64 mR)).setCell ⟨w.heap.size, 2, none⟩ (.int .i64 mS)).setCell ⟨w.heap.size, 3, none⟩ (.int .i64 mD)).setCell ⟨w.heap.size, 4, none⟩ (.int .i64 mV)).setCell ⟨w.heap.size, 5, none⟩ (.int .i64 mN)).setCell ⟨w.heap.size, 6, none⟩ (.int .i64 mQ)).setCell ⟨w.heap.size, 7, none⟩ (.int .i64 z)).setCell ⟨w.heap.size, 8, none⟩ (.slice A1 x1.length q1)).setCell ⟨w.heap.size, 9, none⟩ (.slice A2 x2.length q2)).setCell ⟨w.heap.size, 10, none⟩ (.slice A3 x3.length q3)) = w2 at *
  obtain ⟨⟨k0, k1, k2, k3, k4, k5, k6, k7, k8, k9, k10⟩, _⟩ := Bx.b11 (HS.out.held 0 rfl)
  go_upto_region 3 with (go_at_call 10; with_reducible refine (NW.out _ _ HS.out).mono ?_; rintro e w3 ⟨q, rfl, h3⟩; clear NW HS k0 k1 k2 k3 k4 k5 k6 k7 k8 k9 k10; have H3 := Lib.hid h3; clear h3; obtain ⟨⟨k0, k1, k2, k3, k4, k5, k6, k7, k8, k9, k10⟩, _⟩ := Bx.b11 (H3.out.held 1 rfl))
  go_upto_region 4 with (go_at_call 11; with_reducible refine (LVC.out _ H3.out.bel).mono ?_; rintro e w4 ⟨U, Au, cu, rfl, ho, hlv, hU, b4⟩; clear LVC k0 k1 k2 k3 k4 k5 k6 k7 k8 k9 k10; have H4 := Lib.hid (sep_row H3.out b4 ho); have HL := Lib.hid hlv; clear H3 ho b4 hlv)
  obtain ⟨⟨k0, k1, k2, k3, k4, k5, k6, k7, k8, k9, k10⟩, _⟩ := Bx.b11 (H4.out.held 2 rfl)
  have OXC := Lib.hid (orders_any (c := cu) (c2 := q3) (RdB.of_own (H4.out.rows 0 rfl)) (HD.out w4 H4.out.bel).r3 (by omega) (by have := (HD.out w4 H4.out.bel).l3; omega) (HD.out w4 H4.out.bel).f3)
  go_upto_region 5 with (go_at_call 12; with_reducible refine OXC.out.mono ?_; rintro e w5 ⟨O, Ao, co, rfl, ho, hod, hO, b5⟩; clear OXC k0 k1 k2 k3 k4 k5 k6 k7 k8 k9 k10; have H5 := Lib.hid (sep_row H4.out b5 ho); have HO := Lib.hid hod; clear H4 ho b5 hod)
  obtain ⟨⟨k0, k1, k2, k3, k4, k5, k6, k7, k8, k9, k10⟩, _⟩ := Bx.b11 (H5.out.held 3 rfl)
  have CN := Lib.hid (count_any q mC mR mS mD mV mN mQ w5 (H5.out.held 2 rfl) ok)
  by_cases hbad : z < -1 ∨ mC * mR ≤ z
  · have HB := Lib.hid H5.out.bel
    clear H5 HD K HL HO
    by_cases hz0 : z < -1
    · clear hbad
      go_wp2_with (go_at_call 17; with_reducible refine (AW.out _).mono ?_; rintro e w10 ⟨rfl, b10⟩; clear AW; have HF := Lib.hid (HB.out.trans (b10.mono HB.out.size)); clear HB b10)
      go_ret
      exact ⟨rfl, HF.out⟩
    · have hz1 : mC * mR ≤ z := by omega
      clear hbad
      go_wp2_with (first
        | (go_at_call 21; with_reducible refine CN.out.mono ?_; rintro e w6 ⟨rfl, b6⟩; clear CN; have HE := Lib.hid (HB.out.trans (b6.mono HB.out.size)); clear HB b6)
        | (go_at_call 17; with_reducible refine (AW.out _).mono ?_; rintro e w10 ⟨rfl, b10⟩; clear AW; have HF := Lib.hid (HE.out.trans (b10.mono HE.out.size)); clear HE b10))
      go_ret
      exact ⟨rfl, HF.out⟩
  have hz0 : ¬ z < -1 := by omega
  have hz1 : ¬ mC * mR ≤ z := by omega
  have hzz : -1 ≤ z ∧ z < mC * mR := ⟨by omega, by omega⟩
  clear hbad
  have HG0 := Tk.run_countsP (S := mS) (D := mD) (V := mV) (near := x2) hzz (HO.out.told HL.out.un) hU hO
  have RC0 : ∀ V, Below w5.heap.size w5 V → Calls Tryz.prog 13 #[.pointer (some ⟨q, 0, none⟩), .int .i64 z, .slice Au U.length cu, .slice A2 x2.length q2, .slice Ao O.length co] V (Left V (Tk.run mC mR mS mD mV z U x2 O)) := fun V hV => by
    have HP := H5.out.below hV
    have hd := HD.out V HP.bel
    exact K.run mC mR mS mD mV mN mQ z V q Au A2 Ao cu q2 co U x2 O (HP.held 2 rfl) ok hz ⟨RdB.of_own (HP.rows 1 rfl), hd.r2, RdC.of_own (HP.rows 0 rfl), by omega, lx2, by omega, HL.out.fits, hd.f2, HO.out.fits⟩ (.inl HL.out.un)
  obtain ⟨rr, hrr⟩ : ∃ rr, rr = Tk.run mC mR mS mD mV z U x2 O := ⟨_, rfl⟩
  rw [← hrr] at HG0 RC0
  clear hrr
  obtain ⟨ro, rg, rd⟩ := rr
  have RC : Hid (∀ V, Below w5.heap.size w5 V → Calls Tryz.prog 13 #[.pointer (some ⟨q, 0, none⟩), .int .i64 z, .slice Au U.length cu, .slice A2 x2.length q2, .slice Ao O.length co] V fun e V' => ∃ (B1 B2 B3 : Option Addr) (d1 d2 d3 : Nat), e = .returned (.agg #[.slice B1 ro.length d1, .slice B2 rg.length d2, .slice B3 rd.length d3]) ∧ (OwnB V' V.heap.size (.slice B1 ro.length d1) ro ∧ OwnB V' V.heap.size (.slice B2 rg.length d2) rg ∧ OwnN V' V.heap.size (.slice B3 rd.length d3) rd) ∧ Below V.heap.size V V') := Lib.hid RC0
  have ONE : Hid (∀ b ∈ U, Tk.cnt (ro ++ rg) rd b.id = 1) := Lib.hid HG0.one
  have NEW : Hid (∀ c ∈ O, c.k = 1 → Tk.cnt (ro ++ rg) rd c.b.id = if Tk.inZone mC mR mS z c.b = true then 1 else 0) := Lib.hid HG0.new
  have TOT : Hid (ro.length + rg.length + rd.length = U.length + (Tk.born mC mR mS z O).length) := Lib.hid HG0.tot
  have l1 : ro.length ≤ 1000 := HG0.l1
  have l2 : rg.length ≤ 1000 := HG0.l2
  have l3 : rd.length ≤ 1000 := HG0.l3
  have SPOT : Hid (∀ c ∈ O, c.k = 1 → I c.b.x ∧ I c.b.y) := Lib.hid fun c hc hk => Tk.may_spot (HO.out.may c hc) hk
  have OK := Lib.hid ok
  clear HG0 RC0 HD K HL HO hz hzz ok
  go_upto_region 9 with (first
    | (go_at_call 21; with_reducible refine CN.out.mono ?_; rintro e w6 ⟨rfl, b6⟩; clear CN k0 k1 k2 k3 k4 k5 k6 k7 k8 k9 k10; have H6 := Lib.hid (H5.out.below b6); have B6 := Lib.hid b6; clear H5 b6; obtain ⟨⟨k0, k1, k2, k3, k4, k5, k6, k7, k8, k9, k10⟩, _⟩ := Bx.b11 (H6.out.held 3 rfl))
    | (go_at_call 13; with_reducible refine (RC.out _ B6.out).mono ?_; rintro e w7 ⟨B1, B2, B3, d1, d2, d3, rfl, hcc, b7⟩; clear RC k0 k1 k2 k3 k4 k5 k6 k7 k8 k9 k10; have H7 := Lib.hid (sep_keep H6.out b7); have HC := Lib.hid hcc; clear H6 B6 hcc b7))
  have H8 := Lib.hid (sep_box H7.out (.cells #[.slice B1 ro.length d1, .slice B2 rg.length d2, .slice B3 rd.length d3] 35))
  clear H7
  generalize w7.alloc (.cells #[.slice B1 ro.length d1, .slice B2 rg.length d2, .slice B3 rd.length d3] 35) = w8 at *
  generalize w7.heap.size = b8 at *
  have HB9 : Sep w [box b8 (.cells #[.slice B1 ro.length d1, .slice B2 rg.length d2, .slice B3 rd.length d3] 35), keepP w6.heap.size w7, row cnE 55 16 (.slice Ao O.length co) O, rowB (.slice Au U.length cu) U, box q (.cells #[.int .i64 mC, .int .i64 mR, .int .i64 mS, .int .i64 mD, .int .i64 mV, .int .i64 mN, .int .i64 mQ] 68), box w.heap.size (.cells #[.int .i64 mC, .int .i64 mR, .int .i64 mS, .int .i64 mD, .int .i64 mV, .int .i64 mN, .int .i64 mQ, .int .i64 z, .slice A1 x1.length q1, .slice A2 x2.length q2, .slice A3 x3.length q3] 48)] w8.drew := H8.out.drew
  obtain ⟨A9, c9, w9, hr1, ho1, hb1⟩ := app_bn w8.drew (cap := d1) (HB9.readB 1 rfl HC.out.1) (by omega) 24
  have HB10 : Sep w [box b8 (.cells #[.slice B1 ro.length d1, .slice B2 rg.length d2, .slice B3 rd.length d3] 35), keepP w6.heap.size w7, row cnE 55 16 (.slice Ao O.length co) O, rowB (.slice Au U.length cu) U, box q (.cells #[.int .i64 mC, .int .i64 mR, .int .i64 mS, .int .i64 mD, .int .i64 mV, .int .i64 mN, .int .i64 mQ] 68), box w.heap.size (.cells #[.int .i64 mC, .int .i64 mR, .int .i64 mS, .int .i64 mD, .int .i64 mV, .int .i64 mN, .int .i64 mQ, .int .i64 z, .slice A1 x1.length q1, .slice A2 x2.length q2, .slice A3 x3.length q3] 48)] w9 := HB9.below hb1
  obtain ⟨A10, c10, w10, hr2, ho2, hb2⟩ := app_row (cap := d2) ho1 hb1.size (HB10.readB 1 rfl HC.out.2.1) (by omega) 24
  have h10 := sep_row HB9 (hb1.trans hb2) ho2
  have HB11 := H8.out.below (bel1 w8 (.cells #[] 42))
  obtain ⟨nn, hnn⟩ : ∃ nn, nn = ro.length + rg.length := ⟨_, rfl⟩
  rw [← hnn] at h10 hr2
  have HN := Lib.hid hnn
  have H10 : Hid (Sep w [rowB (.slice A10 nn c10) (ro ++ rg), box b8 (.cells #[.slice B1 ro.length d1, .slice B2 rg.length d2, .slice B3 rd.length d3] 35), keepP w6.heap.size w7, row cnE 55 16 (.slice Ao O.length co) O, rowB (.slice Au U.length cu) U, box q (.cells #[.int .i64 mC, .int .i64 mR, .int .i64 mS, .int .i64 mD, .int .i64 mV, .int .i64 mN, .int .i64 mQ] 68), box w.heap.size (.cells #[.int .i64 mC, .int .i64 mR, .int .i64 mS, .int .i64 mD, .int .i64 mV, .int .i64 mN, .int .i64 mQ, .int .i64 z, .slice A1 x1.length q1, .slice A2 x2.length q2, .slice A3 x3.length q3] 48)] w10) := Lib.hid h10
  have HR1 : Hid ((Builtin.append_ #[24, 24] 24 #[.slice (some ⟨w8.heap.size, 0, none⟩) 0 0, .slice B1 ro.length d1]).run Tryz.prog (w8.drew.alloc (.cells #[] 42)) = .ok (.slice A9 ro.length c9) w9) := Lib.hid hr1
  have HR2 : Hid ((Builtin.append_ #[24, 24] 24 #[.slice A9 ro.length c9, .slice B2 rg.length d2]).run Tryz.prog w9 = .ok (.slice A10 nn c10) w10) := Lib.hid hr2
  obtain ⟨⟨y0, y1, y2⟩, _⟩ := Bx.b3 (H8.out.held 0 rfl)
  obtain ⟨⟨p0, p1, p2⟩, _⟩ := Bx.b3 (HB11.held 0 rfl)
  obtain ⟨⟨m0, m1, m2⟩, _⟩ := Bx.b3 (HB10.held 0 rfl)
  clear HB9 HB10 HB11 hr1 hr2 ho1 ho2 hb1 hb2 h10 hnn H8
  go_cut [9] (fun v wx => v = .slice A10 nn c10 ∧ Hid (Sep w [rowB (.slice A10 nn c10) (ro ++ rg), box b8 (.cells #[.slice B1 ro.length d1, .slice B2 rg.length d2, .slice B3 rd.length d3] 35), keepP w6.heap.size w7, row cnE 55 16 (.slice Ao O.length co) O, rowB (.slice Au U.length cu) U, box q (.cells #[.int .i64 mC, .int .i64 mR, .int .i64 mS, .int .i64 mD, .int .i64 mV, .int .i64 mN, .int .i64 mQ] 68), box w.heap.size (.cells #[.int .i64 mC, .int .i64 mR, .int .i64 mS, .int .i64 mD, .int .i64 mV, .int .i64 mN, .int .i64 mQ, .int .i64 z, .slice A1 x1.length q1, .slice A2 x2.length q2, .slice A3 x3.length q3] 48)] wx))
  case first =>
    clear ONE NEW TOT SPOT OK HC AW
    go_region_law (first
      | (refine step_append rfl (.tmp 58) (.tmp 60) 24 24 rfl (.slice (some ⟨w8.heap.size, 0, none⟩) 0 0) (.slice B1 ro.length d1) (by simp [Act.eval, Act.put]) (by simp [Act.eval, Act.put]) (.slice A9 ro.length c9) w9 HR1.out ?_)
      | (refine step_append rfl (.tmp 61) (.tmp 63) 24 24 rfl (.slice A9 ro.length c9) (.slice B2 rg.length d2) (by simp [Act.eval, Act.put]) (by simp [Act.eval, Act.put]) (.slice A10 nn c10) w10 HR2.out ?_))
    all_goals
      go_wp2
      go_meet
      case rel => exact ⟨rfl, H10⟩
  case rest =>
    clear H10 HR1 HR2 y0 y1 y2 p0 p1 p2 m0 m1 m2
    obtain ⟨rfl, H10⟩ := hcut
    generalize wc = w11 at *
    have ln : nn ≤ 2000 := by have := HN.out; omega
    have TX : Hid (∀ V, Below w11.heap.size w11 V → ∀ k0 k1 k2 : Int, Calls Tryz.prog 22 #[.slice A10 nn c10, .slice B3 rd.length d3, .agg #[.int .i64 k0, .int .i64 k1, .int .i64 k2]] V fun e V' => e = .returned (.int .i64 ((Tk.cnt (ro ++ rg) rd (k0, k1, k2) : Nat) : Int)) ∧ Below V.heap.size V V') := Lib.hid fun V hV k0 k1 k2 => by
      have HV := H10.out.below hV
      have hl : (ro ++ rg).length = nn := by rw [List.length_append, HN.out]
      have := tally_any (c := c10) (c2 := d3) (l := ro ++ rg) (RdB.of_own (show OwnB V 0 (.slice A10 (ro ++ rg).length c10) (ro ++ rg) by rw [hl]; exact HV.rows 0 rfl)) (HV.readN 2 rfl HC.out.2.2) (by omega) (by omega) k0 k1 k2
      rw [hl] at this
      exact this
    have FX : Hid (∀ V, Below w11.heap.size w11 V → (V.cell? ⟨b8, 2, none⟩ = some (.slice B3 rd.length d3) ∧ b8 < V.heap.size ∧ w.heap.size < V.heap.size) ∧ (V.cell? ⟨w.heap.size, 0, none⟩ = some (.int .i64 mC) ∧ V.cell? ⟨w.heap.size, 1, none⟩ = some (.int .i64 mR) ∧ V.cell? ⟨w.heap.size, 2, none⟩ = some (.int .i64 mS) ∧ V.cell? ⟨w.heap.size, 3, none⟩ = some (.int .i64 mD) ∧ V.cell? ⟨w.heap.size, 4, none⟩ = some (.int .i64 mV) ∧ V.cell? ⟨w.heap.size, 5, none⟩ = some (.int .i64 mN) ∧ V.cell? ⟨w.heap.size, 6, none⟩ = some (.int .i64 mQ)) ∧ Below w.heap.size w V) := Lib.hid fun V hV => by
      have HV := H10.out.below hV
      obtain ⟨⟨_, _, y2⟩, _⟩ := Bx.b3 (HV.held 1 rfl)
      obtain ⟨⟨k0, k1, k2, k3, k4, k5, k6, k7, k8, k9, k10⟩, _⟩ := Bx.b11 (HV.held 6 rfl)
      exact ⟨⟨y2, Bx.lt (HV.held 1 rfl), Bx.lt (HV.held 6 rfl)⟩, ⟨k0, k1, k2, k3, k4, k5, k6⟩, HV.bel⟩
    have RU := Lib.hid fun V (hV : Below w11.heap.size w11 V) => RdB.of_own ((H10.out.below hV).rows 4 rfl)
    have RO := Lib.hid fun V (hV : Below w11.heap.size w11 V) => RdC.of_own ((H10.out.below hV).rows 3 rfl)
    clear H10 HC
    go_wp2
    go_loopw [11] (fun s wr => ∃ j : Nat, j ≤ U.length ∧ s = .int .i64 j ∧ Hid (Below w11.heap.size w11 wr)) (fun s _ => U.length - (intOf s).toNat)
    case atStart => exact ⟨0, Nat.zero_le _, rfl, Lib.hid (Below.refl _ _)⟩
    case round =>
      obtain ⟨j, hj, rfl, HP⟩ := hrel
      by_cases hju : j < U.length
      · have t3 : (j : Int) < (U.length : Int) := by omega
        obtain ⟨⟨y2, tb, tw⟩, kk, bb⟩ := FX.out wr HP.out
        clear kk bb
        obtain ⟨ga, oa, rfl, tg, z0, z1, z2, zz⟩ := RU.out wr HP.out j _ (List.getElem?_eq_getElem hju)
        clear zz
        have CX : Hid (∀ p : Lat grows wr, Calls Tryz.prog 22 #[.slice A10 nn c10, .slice B3 rd.length d3, .agg #[.int .i64 U[j].s, .int .i64 U[j].i, .int .i64 U[j].g]] p.W fun e W' => e = .returned (.int .i64 1) ∧ Below p.W.heap.size p.W W') := Lib.hid fun p => by
          have h1 := TX.out p.W (HP.out.trans ((zlat_below p).mono HP.out.size)) U[j].s U[j].i U[j].g
          have h2 : Tk.cnt (ro ++ rg) rd (U[j].s, U[j].i, U[j].g) = 1 := ONE.out _ (List.getElem_mem hju)
          rw [h2] at h1
          exact h1
        clear ONE NEW TOT SPOT OK TX FX RU RO AW
        generalize U[j] = y at *
        obtain ⟨ys, yi, yg, ym, yx, yy, yvx, yvy, yh, yp, yl⟩ := y
        dsimp only at CX z0 z1 z2
        go_upto_region 14 with fail
        refine Og.grow 10 (by kernel_rfl) (by kernel_rfl) fun hc hf => ?_
        simp only [List.take_succ_cons, List.take_zero, List.drop_succ_cons, List.drop_zero]
        repeat (refine Og.det [] rfl (fun J hJ => ?_); go_simp; first | (refine hJ _ _ ?_; clear hJ J) | (with_reducible refine ⟨_, fun p => Og.lays (CX.out p), hJ _ _ ?_⟩; clear hJ J))
        refine Og.fin fun W hW => ?_
        simp only [Og.opened_nil]
        have HQ := Lib.hid (HP.out.trans (hW.mono HP.out.size))
        clear hc hf hW HP CX z0 z1 z2 y2
        go_wp2
        go_roundw
        case rel => exact ⟨j + 1, by omega, by go_num, HQ⟩
        case measure => simp [intOf]; omega
      · obtain rfl : j = U.length := by omega
        have t3 : ¬ (U.length : Int) < (U.length : Int) := by omega
        clear ONE hj hju RU
        have H9 := Lib.hid HP.out
        clear HP
        go_wp2
        clear t3
        go_loopw [10, 12] (fun n s wr => ∃ j m : Nat, j ≤ O.length ∧ s = .int .i64 j ∧ n = .int .i64 m ∧ Hid (m = U.length + (Tk.born mC mR mS z (O.take j)).length) ∧ Hid (Below w11.heap.size w11 wr)) (fun _ s _ => O.length - (intOf s).toNat)
        case atStart => exact ⟨0, U.length, Nat.zero_le _, rfl, rfl, Lib.hid rfl, H9⟩
        case round =>
          clear H9
          obtain ⟨j, m, hj, rfl, rfl, HM, HP⟩ := hrel
          by_cases hju : j < O.length
          · have t4 : (j : Int) < (O.length : Int) := by omega
            have hm : m ≤ 100 := by have h1 := HM.out; have h2 := Tk.born_le (C := mC) (R := mR) (S := mS) (z := z) (l := O.take j); rw [List.length_take] at h2; omega
            have wm : IntKind.i64.wrap ((m : Int) + 1) = (m : Int) + 1 := IntWalk.i64_in _ ⟨by omega, by omega⟩
            have hx := List.getElem?_eq_getElem hju
            have hmem := List.getElem_mem hju
            obtain ⟨ga, oa, eA, zz⟩ := RO.out wr HP.out j _ hx
            clear zz
            subst eA
            have QX : Hid (∀ V, Below w11.heap.size w11 V → ga < V.heap.size ∧ V.cell? ⟨ga, oa + j * 16, none⟩ = some (.int .i64 O[j].k) ∧ (V.cell? ⟨ga, oa + j * 16 + 4, none⟩ = some (.int .i64 O[j].b.s) ∧ V.cell? ⟨ga, oa + j * 16 + 5, none⟩ = some (.int .i64 O[j].b.i) ∧ V.cell? ⟨ga, oa + j * 16 + 6, none⟩ = some (.int .i64 O[j].b.g)) ∧ V.cell? ⟨ga, oa + j * 16 + 8, none⟩ = some (.int .i64 O[j].b.x) ∧ V.cell? ⟨ga, oa + j * 16 + 9, none⟩ = some (.int .i64 O[j].b.y)) := Lib.hid fun V hV => by
              obtain ⟨g', o', e, tg, h0, h1, h2, h3, h4, h5, h6, h7, h8, h9, _⟩ := RO.out V hV j _ hx
              cases e
              exact ⟨tg, h0, ⟨h4, h5, h6⟩, h8, h9⟩
            have BS := Lib.hid (Tk.born_step (C := mC) (R := mR) (S := mS) (z := z) hju)
            have CT := Lib.hid (NEW.out _ hmem)
            have SP := Lib.hid (SPOT.out _ hmem)
            clear RO hx hmem NEW SPOT TOT
            generalize O[j] = y at *
            obtain ⟨ck, cs_, ci_, cg_, ⟨bs, bi, bg, bm, bx, yb, bvx, bvy, bh, bp, bl⟩, cm_⟩ := y
            simp only [Bn.id] at CT
            dsimp only at QX BS CT SP
            obtain ⟨tg, z0, zz⟩ := QX.out wr HP.out
            clear zz
            by_cases hk : ck = 1
            · subst hk
              obtain ⟨ib, hib⟩ : ∃ ib, Tk.inZone mC mR mS z ⟨bs, bi, bg, bm, bx, yb, bvx, bvy, bh, bp, bl⟩ = ib := ⟨_, rfl⟩
              have CT := Lib.hid (CT.out rfl)
              have SP := Lib.hid (SP.out rfl)
              rw [hib] at CT BS
              have HI : Hid ((decide (0 ≤ Zn.of mC mR mS bx yb) && (decide (z < 0) || decide (Zn.of mC mR mS bx yb = z))) = ib) := Lib.hid hib
              clear hib
              have OX := Lib.hid fun p : Lat grows wr => rof_any mC mR mS mD mV mN mQ bx yb p.W OK.out SP.out.1 SP.out.2
              clear SP OK
              generalize Zn.of mC mR mS bx yb = a at *
              obtain ⟨tg, zz, yy, z8, z9⟩ := QX.out wr HP.out
              clear zz yy
              obtain ⟨⟨y2, tb, tw⟩, ⟨k0, k1, k2, k3, k4, k5, k6⟩, bb⟩ := FX.out wr HP.out
              clear bb
              go_upto_region 20 with fail
              refine Og.grow 16 (by kernel_rfl) (by kernel_rfl) fun hc hf => ?_
              simp only [List.take_succ_cons, List.take_zero, List.drop_succ_cons, List.drop_zero]
              repeat (refine Og.det [] rfl (fun J hJ => ?_); go_simp; first | (refine hJ _ _ ?_; clear hJ J) | (with_reducible refine ⟨_, fun p => Og.lays (OX.out p), hJ _ _ ?_⟩; clear hJ J))
              refine Og.fin fun W hW => ?_
              simp only [Og.opened_nil]
              have HQ := Lib.hid (HP.out.trans (hW.mono HP.out.size))
              clear hc hf hW HP OX z0 z8 z9 y2 tb tw tg k0 k1 k2 k3 k4 k5 k6
              go_upto_region 21 with fail
              go_cut [14] from 83 to 136 (fun v wx => v = .bool ib ∧ Hid (Below w11.heap.size w11 wx))
              case first =>
                clear CT BS TX FX QX AW
                by_cases g0 : 0 ≤ a
                · by_cases g1 : z < 0
                  · have hi : ib = true := by rw [← HI.out]; simp [g0, g1]
                    clear HI
                    subst hi
                    go_wp2
                    go_meet
                    case rel => exact ⟨rfl, HQ⟩
                  · by_cases g2 : a = z
                    · subst g2
                      have hi : ib = true := by rw [← HI.out]; simp [g0]
                      clear HI
                      subst hi
                      go_wp2
                      go_meet
                      case rel => exact ⟨rfl, HQ⟩
                    · have hi : ib = false := by rw [← HI.out]; simp [g1, g2]
                      have e2 : (a == z) = false := beq_false_of_ne g2
                      clear HI
                      subst hi
                      go_wp2
                      go_meet
                      case rel => exact ⟨rfl, HQ⟩
                · have hi : ib = false := by rw [← HI.out]; simp [g0]
                  clear HI
                  subst hi
                  go_wp2
                  go_meet
                  case rel => exact ⟨rfl, HQ⟩
              case rest =>
                clear HQ HI
                obtain ⟨rfl, HP⟩ := hcut
                obtain ⟨tg, zz, ⟨z4, z5, z6⟩, yy⟩ := QX.out wc HP.out
                clear zz yy
                obtain ⟨⟨y2, tb, tw⟩, kk, bb⟩ := FX.out wc HP.out
                clear kk bb
                cases ib with
                | true =>
                  have H := Lib.hid (show m + 1 = U.length + (Tk.born mC mR mS z (O.take (j + 1))).length by rw [BS.out, if_pos ⟨rfl, rfl⟩, HM.out]; omega)
                  have CX : Hid (∀ p : Lat grows wc, Calls Tryz.prog 22 #[.slice A10 nn c10, .slice B3 rd.length d3, .agg #[.int .i64 bs, .int .i64 bi, .int .i64 bg]] p.W fun e W' => e = .returned (.int .i64 1) ∧ Below p.W.heap.size p.W W') := Lib.hid fun p => by
                    have h1 := TX.out p.W (HP.out.trans ((zlat_below p).mono HP.out.size)) bs bi bg
                    rw [CT.out, if_pos rfl] at h1
                    exact h1
                  clear BS HM CT TX FX QX
                  go_upto_region 24 with fail
                  refine Og.grow 13 (by kernel_rfl) (by kernel_rfl) fun hc hf => ?_
                  simp only [List.take_succ_cons, List.take_zero, List.drop_succ_cons, List.drop_zero]
                  repeat (refine Og.det [] rfl (fun J hJ => ?_); go_simp; first | (refine hJ _ _ ?_; clear hJ J) | (with_reducible refine ⟨_, fun p => Og.lays (CX.out p), hJ _ _ ?_⟩; clear hJ J))
                  refine Og.fin fun W hW => ?_
                  simp only [Og.opened_nil]
                  have HQ := Lib.hid (HP.out.trans (hW.mono HP.out.size))
                  clear hc hf hW HP CX z4 z5 z6 y2
                  go_wp2
                  go_roundw
                  case rel => exact ⟨j + 1, m + 1, by omega, by go_num, by go_num, H, HQ⟩
                  case measure => simp [intOf]; omega
                | false =>
                  have H := Lib.hid (show m = U.length + (Tk.born mC mR mS z (O.take (j + 1))).length by rw [BS.out, if_neg (by simp), HM.out]; rfl)
                  have CX : Hid (∀ p : Lat grows wc, Calls Tryz.prog 22 #[.slice A10 nn c10, .slice B3 rd.length d3, .agg #[.int .i64 bs, .int .i64 bi, .int .i64 bg]] p.W fun e W' => e = .returned (.int .i64 0) ∧ Below p.W.heap.size p.W W') := Lib.hid fun p => by
                    have h1 := TX.out p.W (HP.out.trans ((zlat_below p).mono HP.out.size)) bs bi bg
                    rw [CT.out, if_neg (by simp)] at h1
                    exact h1
                  clear BS HM CT TX FX QX
                  go_upto_region 24 with fail
                  refine Og.grow 13 (by kernel_rfl) (by kernel_rfl) fun hc hf => ?_
                  simp only [List.take_succ_cons, List.take_zero, List.drop_succ_cons, List.drop_zero]
                  repeat (refine Og.det [] rfl (fun J hJ => ?_); go_simp; first | (refine hJ _ _ ?_; clear hJ J) | (with_reducible refine ⟨_, fun p => Og.lays (CX.out p), hJ _ _ ?_⟩; clear hJ J))
                  refine Og.fin fun W hW => ?_
                  simp only [Og.opened_nil]
                  have HQ := Lib.hid (HP.out.trans (hW.mono HP.out.size))
                  clear hc hf hW HP CX z4 z5 z6 y2
                  go_wp2
                  go_roundw
                  case rel => exact ⟨j + 1, m, by omega, by go_num, rfl, H, HQ⟩
                  case measure => simp [intOf]; omega
            · have e1 : (ck != 1) = true := by simp [hk]
              have H := Lib.hid (show m = U.length + (Tk.born mC mR mS z (O.take (j + 1))).length by rw [BS.out, if_neg (fun h => hk h.1), HM.out]; rfl)
              clear BS HM CT SP TX FX QX hk OK AW
              go_wp2
              go_roundw
              case rel => exact ⟨j + 1, m, by omega, by go_num, rfl, H, HP⟩
              case measure => simp [intOf]; omega
          · obtain rfl : j = O.length := by omega
            have t4 : ¬ (O.length : Int) < (O.length : Int) := by omega
            rw [List.take_length] at HM
            have ws : IntKind.i64.wrap ((nn : Int) + (rd.length : Int)) = (m : Int) := by
              have h1 := HM.out
              have h2 := TOT.out
              have h3 := HN.out
              rw [IntWalk.i64_in _ ⟨by omega, by omega⟩]
              omega
            obtain ⟨⟨y2, tb, tw⟩, kk, bb⟩ := FX.out wr HP.out
            have HB := Lib.hid bb
            clear kk bb FX TX HM TOT HN NEW SPOT OK RO HP
            go_wp2_with (go_at_call 17; with_reducible refine (AW.out _).mono ?_; rintro e w12 ⟨rfl, b12⟩; clear AW; have HF := Lib.hid (HB.out.trans (b12.mono HB.out.size)); clear HB b12)
            go_ret
            exact ⟨rfl, HF.out⟩
end Go.Proofs.YtljaahemlcaffaaGreat
