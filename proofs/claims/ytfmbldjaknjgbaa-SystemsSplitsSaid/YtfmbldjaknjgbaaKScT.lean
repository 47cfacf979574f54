/- The code's taken. Written by wip/tools/gensy.py. -/
import Derived.Test.YtfmbldjaknjgbaaKSyB
import Derived.Test.YtfmbldjaknjgbaaKScA
import Derived.Test.YtfmbldjaknjgbaaKScW
namespace Go.Proofs.Ytfmbldjaknjgbaa
open Go.RowKit Pz Sp
set_option linter.unusedVariables false
set_option linter.unusedSimpArgs false

theorem b_ints (a b : Int) (V : World) : (Instr.buildSlice 57 2 #[(0, .int .i64 a), (1, .int .i64 b)]).run Try.prog V = .ok (.slice (some ⟨V.heap.size, 0, none⟩) 2 2) (V.alloc (.cells #[.int .i64 a, .int .i64 b] 3)) := by kernel_rfl
set_option maxHeartbeats 4000000 in
set_option maxRecDepth 100000 in
theorem ctaken_any {w : World} {A : Option Addr} {c : Nat} {l : List Bn} (R : RdB w w.heap.size A l) (hl : l.length ≤ 2000) (hP : ∀ x ∈ l, bitB x.m 3 = true) (qs qi qg qm qx qy qvx qvy qh qp ql r : Int) :
    Calls Try.prog 36 #[.int .i64 r, .agg #[.int .i64 qs, .int .i64 qi, .int .i64 qg, .int .i64 qm, .int .i64 qx, .int .i64 qy, .int .i64 qvx, .int .i64 qvy, .int .i64 qh, .int .i64 qp, .int .i64 ql], .slice A l.length c] w fun e w' => e = .returned (.int .i64 (Sy.takes ⟨qs, qi, qg, qm, qx, qy, qvx, qvy, qh, qp, ql⟩ r 0 l)) ∧ Below w.heap.size w w' := by
  have H0 : Hid (Sep w [box w.heap.size (.cells #[.int .i64 qs, .int .i64 qi, .int .i64 qg, .int .i64 qm, .int .i64 qx, .int .i64 qy, .int .i64 qvx, .int .i64 qvy, .int .i64 qh, .int .i64 qp, .int .i64 ql] 34)] (w.alloc (.cells #[.int .i64 qs, .int .i64 qi, .int .i64 qg, .int .i64 qm, .int .i64 qx, .int .i64 qy, .int .i64 qvx, .int .i64 qvy, .int .i64 qh, .int .i64 qp, .int .i64 ql] 34))) := Lib.hid (sep_box (sep_new w) _)
  have RD := Lib.hid fun V (hV : Below w.heap.size w V) => R.below hV
  have TB := Lib.hid fun j => Sy.takes_bd ⟨qs, qi, qg, qm, qx, qy, qvx, qvy, qh, qp, ql⟩ r (l.take j) 0 (by decide)
  have TS : Hid (∀ (j : Nat) (hj : j < l.length), Sy.takes ⟨qs, qi, qg, qm, qx, qy, qvx, qvy, qh, qp, ql⟩ r 0 (l.take (j + 1)) = if Sy.meets ⟨qs, qi, qg, qm, qx, qy, qvx, qvy, qh, qp, ql⟩ r l[j] then Rc.clamp (Sy.takes ⟨qs, qi, qg, qm, qx, qy, qvx, qvy, qh, qp, ql⟩ r 0 (l.take j) + Rc.clamp l[j].p) else Sy.takes ⟨qs, qi, qg, qm, qx, qy, qvx, qvy, qh, qp, ql⟩ r 0 (l.take j)) := Lib.hid fun j hj => Sy.takes_take 0 (List.getElem?_eq_getElem hj)
  have TE : Hid (Sy.takes ⟨qs, qi, qg, qm, qx, qy, qvx, qvy, qh, qp, ql⟩ r 0 (l.take l.length) = Sy.takes ⟨qs, qi, qg, qm, qx, qy, qvx, qvy, qh, qp, ql⟩ r 0 l) := Lib.hid (by rw [List.take_length])
  have TZ : Hid ((0 : Int) = Sy.takes ⟨qs, qi, qg, qm, qx, qy, qvx, qvy, qh, qp, ql⟩ r 0 (l.take 0)) := Lib.hid rfl
  have HPW := Lib.hid hP
  have hl6 : (l.length : Int) ≤ 2000 := by omega
  clear R hl hP
  go_enter Try.func36, Try.ntmps36
  go_upto_region 1 with fail
  generalize w.alloc (.cells #[.int .i64 qs, .int .i64 qi, .int .i64 qg, .int .i64 qm, .int .i64 qx, .int .i64 qy, .int .i64 qvx, .int .i64 qvy, .int .i64 qh, .int .i64 qp, .int .i64 ql] 34) = w0 at *
  go_wp2
  go_loopw [7, 12] (fun v i wr => ∃ j : Nat, j ≤ l.length ∧ v = .int .i64 (Sy.takes ⟨qs, qi, qg, qm, qx, qy, qvx, qvy, qh, qp, ql⟩ r 0 (l.take j)) ∧ i = .int .i64 j ∧ Hid (Sep w [box w.heap.size (.cells #[.int .i64 qs, .int .i64 qi, .int .i64 qg, .int .i64 qm, .int .i64 qx, .int .i64 qy, .int .i64 qvx, .int .i64 qvy, .int .i64 qh, .int .i64 qp, .int .i64 ql] 34)] wr)) (fun v i _ => l.length - (intOf i).toNat)
  case atStart => exact ⟨0, Nat.zero_le _, by rw [← TZ.out], rfl, H0⟩
  case round =>
    obtain ⟨j, hj, rfl, rfl, HP⟩ := hrel
    clear H0 TZ
    by_cases hjn : j < l.length
    · have q1 : (j : Int) < (l.length : Int) := by omega
      obtain ⟨g, o, rfl, _, KC⟩ := RD.out wr HP.out.bel j _ (List.getElem?_eq_getElem hjn)
      have HN : Hid (Sep w [box w.heap.size (.cells #[.int .i64 qs, .int .i64 qi, .int .i64 qg, .int .i64 qm, .int .i64 qx, .int .i64 qy, .int .i64 qvx, .int .i64 qvy, .int .i64 qh, .int .i64 qp, .int .i64 ql] 34)] (wr.alloc (.cells #[.int .i64 l[j].s, .int .i64 l[j].i, .int .i64 l[j].g, .int .i64 l[j].m, .int .i64 l[j].x, .int .i64 l[j].y, .int .i64 l[j].vx, .int .i64 l[j].vy, .int .i64 l[j].h, .int .i64 l[j].p, .int .i64 l[j].l] 34))) := Lib.hid (HP.out.below (bel1 wr _))
      have T1 := (Bx.b11 (at1 wr (.cells #[.int .i64 l[j].s, .int .i64 l[j].i, .int .i64 l[j].g, .int .i64 l[j].m, .int .i64 l[j].x, .int .i64 l[j].y, .int .i64 l[j].vx, .int .i64 l[j].vy, .int .i64 l[j].h, .int .i64 l[j].p, .int .i64 l[j].l] 34))).1
      have B1 := (Bx.b11 (HN.out.held 0 rfl)).1
      have FX := Lib.hid fun W => far_all qx qy l[j].x l[j].y W
      have hS1 := Lib.hid (TS.out j hjn)
      have bd := TB.out j
      have bc := Sy.clamp_bd l[j].p
      have hbit := HPW.out _ (List.getElem_mem hjn)
      have EQ := fun V => eq_id 9998 l[j].s l[j].i l[j].g qs qi qg V
      have hme : Sy.meets ⟨qs, qi, qg, qm, qx, qy, qvx, qvy, qh, qp, ql⟩ r l[j] = ((!((l[j].s == qs) && ((l[j].i == qi) && (l[j].g == qg))) && bitB l[j].m 3) && decide (Rc.far qx qy l[j].x l[j].y ≤ r)) := by
        unfold Sy.meets
        congr 2
        simp only [Bn.id, ne_eq, Prod.mk.injEq]
        rw [Bool.eq_iff_iff]
        simp
      rw [hme, hbit] at hS1
      clear hme hbit HPW RD TB TS TE HP
      obtain ⟨k0, k1, k2, k3, k4, k5, k6, k7, k8, k9, k10⟩ := KC
      obtain ⟨m0, m1, m2, m3, m4, m5, m6, m7, m8, m9, m10⟩ := T1
      obtain ⟨n0, n1, n2, n3, n4, n5, n6, n7, n8, n9, n10⟩ := B1
      generalize hSj : Sy.takes ⟨qs, qi, qg, qm, qx, qy, qvx, qvy, qh, qp, ql⟩ r 0 (l.take (j + 1)) = S1 at *
      generalize Sy.takes ⟨qs, qi, qg, qm, qx, qy, qvx, qvy, qh, qp, ql⟩ r 0 (l.take j) = S0 at *
      have AX : Hid (∀ W : World, Calls Try.prog 46 #[.slice (some ⟨W.heap.size, 0, none⟩) 2 2] (W.alloc (.cells #[.int .i64 S0, .int .i64 l[j].p] 3)) fun e w' => e = .returned (.int .i64 (Rc.clamp (S0 + Rc.clamp l[j].p))) ∧ W.alloc (.cells #[.int .i64 S0, .int .i64 l[j].p] 3) = w') := Lib.hid fun W => by
        have := add2_any S0 l[j].p W.heap.size 2 _ (at1 W (.cells #[.int .i64 S0, .int .i64 l[j].p] 3))
        rw [Rc.clamp_in bd.1 bd.2] at this
        exact this
      have bi := fun V => b_ints S0 l[j].p V
      generalize ((l[j].s == qs) && ((l[j].i == qi) && (l[j].g == qg))) = same at *
      generalize Rc.far qx qy l[j].x l[j].y = d at *
      generalize Rc.clamp l[j].p = cp at *
      generalize l[j].s = y0 at *
      generalize l[j].i = y1 at *
      generalize l[j].g = y2 at *
      generalize l[j].m = y3 at *
      generalize l[j].x = y4 at *
      generalize l[j].y = y5 at *
      generalize l[j].vx = y6 at *
      generalize l[j].vy = y7 at *
      generalize l[j].h = y8 at *
      generalize l[j].p = y9 at *
      generalize l[j].l = y10 at *
      simp at EQ
      go_upto_region 5 with fail
      clear k0 k1 k2 k3 k4 k5 k6 k7 k8 k9 k10
      generalize hw2 : wr.alloc (.cells #[.int .i64 y0, .int .i64 y1, .int .i64 y2, .int .i64 y3, .int .i64 y4, .int .i64 y5, .int .i64 y6, .int .i64 y7, .int .i64 y8, .int .i64 y9, .int .i64 y10] 34) = w2 at *
      clear hw2
      cases same with
      | true =>
        have hv : S1 = S0 := by have := hS1.out; simpa using this
        replace hSj := Lib.hid hSj
        clear hS1 FX AX
        have hS1 := Lib.hid (hSj.out.trans hv)
        go_wp2
        go_roundw
        case rel => exact ⟨j + 1, by omega, by rw [hS1.out], by go_num, HN⟩
        case measure => simp [intOf]; omega
      | false =>
        by_cases hd : d ≤ r
        · have hv : S1 = Rc.clamp (S0 + cp) := by have := hS1.out; simpa [hd] using this
          replace hSj := Lib.hid hSj
          clear hS1
          have hS1 := Lib.hid (hSj.out.trans hv)
          go_wp2_with (first
            | (go_at_call 56; refine (FX.out _).mono ?_; rintro e w5 ⟨rfl, rfl⟩; clear FX)
            | (go_at_call 46; refine (AX.out _).mono ?_; rintro e w6 ⟨rfl, rfl⟩; clear AX))
          go_roundw
          case rel => exact ⟨j + 1, by omega, by rw [hS1.out], by go_num, Lib.hid (HN.out.below (bel1 _ _))⟩
          case measure => simp [intOf]; omega
        · have hv : S1 = S0 := by have := hS1.out; simpa [hd] using this
          replace hSj := Lib.hid hSj
          clear hS1 AX
          have hS1 := Lib.hid (hSj.out.trans hv)
          go_wp2_with (first
            | (go_at_call 56; refine (FX.out _).mono ?_; rintro e w5 ⟨rfl, rfl⟩; clear FX))
          go_roundw
          case rel => exact ⟨j + 1, by omega, by rw [hS1.out], by go_num, HN⟩
          case measure => simp [intOf]; omega
    · obtain rfl : j = l.length := by omega
      have q1 : ¬ (l.length : Int) < (l.length : Int) := by omega
      have hb := Lib.hid HP.out.bel
      clear RD TB TS HP
      rw [TE.out]
      go_wp2
      go_ret
      exact ⟨rfl, hb.out⟩
end Go.Proofs.Ytfmbldjaknjgbaa
