/- The law SystemsStays, walked. Written by wip/tools/gensy.py. -/
import Derived.Test.YtfmbldjaknjgbaaKSyD
namespace Go.Proofs.Ytfmbldjaknjgbaa
open Go.RowKit Pz Sp
set_option linter.unusedVariables false
set_option linter.unusedSimpArgs false

set_option maxHeartbeats 4000000 in
set_option maxRecDepth 100000 in
theorem law_stays (K : SyCt) (w : World) (C0 R0 S0 D0 V0 N0 Q0 : Int) (b : Bn) (hb : b.Fits) : Calls Try.prog 8 #[.agg #[.int .i64 C0, .int .i64 R0, .int .i64 S0, .int .i64 D0, .int .i64 V0, .int .i64 N0, .int .i64 Q0], b.val] w fun e w' => e = .returned (.bool true) ∧ Below w.heap.size w w' := by
  obtain ⟨qs, qi, qg, qm, qx, qy, qvx, qvy, qh, qp, ql⟩ := b
  have MY0 := fun W => zmay_any C0 R0 S0 D0 V0 N0 Q0 W
  have ok := Zn.may_ok C0 R0 S0 D0 V0
  have okb := Zn.may_okB C0 R0 S0 D0 V0 N0 Q0
  generalize Zn.mC C0 = C at *
  generalize Zn.mC R0 = R at *
  generalize Zn.mD S0 D0 = D at *
  generalize Zn.mD S0 V0 = V at *
  generalize Zn.mS S0 = S at *
  generalize Zn.mN N0 = N at *
  generalize Zn.mQ Q0 = Q at *
  have MY : Hid (∀ L W, Sep w (L) W → Calls Try.prog 23 #[.agg #[.int .i64 C0, .int .i64 R0, .int .i64 S0, .int .i64 D0, .int .i64 V0, .int .i64 N0, .int .i64 Q0]] W fun e W' => e = .returned (.agg #[.int .i64 C, .int .i64 R, .int .i64 S, .int .i64 D, .int .i64 V, .int .i64 N, .int .i64 Q]) ∧ Sep w (L) W') := Lib.hid fun L W hW => (MY0 W).mono fun e W' ⟨a, b⟩ => ⟨a, hW.below b⟩
  clear MY0
  have NW : Hid (∀ L W, Sep w L W → Calls Try.prog 24 #[.agg #[.int .i64 C, .int .i64 R, .int .i64 S, .int .i64 D, .int .i64 V, .int .i64 N, .int .i64 Q]] W fun e W' => ∃ q, e = .returned (.tuple #[.pointer (some ⟨q, 0, none⟩), .int .i64 0]) ∧ Sep w (box q (.cells #[.int .i64 C, .int .i64 R, .int .i64 S, .int .i64 D, .int .i64 V, .int .i64 N, .int .i64 Q] 73) :: L) W') := Lib.hid fun L W hW => (new_yes C R S D V N Q W okb).mono fun e W' ⟨q, a, b, c, d⟩ => ⟨q, a, sep_map hW d c b⟩
  obtain ⟨X, hX⟩ : ∃ X, X = (Sy.move C R S V ⟨qs, qi, qg, qm, qx, qy, qvx, qvy, qh, qp, ql⟩).x := ⟨_, rfl⟩
  obtain ⟨Y, hY⟩ : ∃ Y, Y = (Sy.move C R S V ⟨qs, qi, qg, qm, qx, qy, qvx, qvy, qh, qp, ql⟩).y := ⟨_, rfl⟩
  have EV : Sy.move C R S V ⟨qs, qi, qg, qm, qx, qy, qvx, qvy, qh, qp, ql⟩ = ⟨qs, qi, qg, qm, X, Y, qvx, qvy, qh, qp, ql⟩ := by
    rw [hX, hY]
    unfold Sy.move Sy.push
    split <;> rfl
  obtain ⟨st1, st2⟩ := Sy.stays ok ⟨qs, qi, qg, qm, qx, qy, qvx, qvy, qh, qp, ql⟩
  rw [← hX, ← hY] at st1 st2
  have k1 := fun q W (h : MapAt W q C R S D V N Q) => K.move q C R S D V N Q ⟨qs, qi, qg, qm, qx, qy, qvx, qvy, qh, qp, ql⟩ W h ok hb
  rw [EV] at k1
  have IX : I X ∧ I Y := by
    have hc := Zn.side_bd (q := C) ok.s0 ok.s1 (by have := ok.c0; omega) ok.c1
    have hr := Zn.side_bd (q := R) ok.s0 ok.s1 (by have := ok.r0; omega) ok.r1
    have i1 := Zn.into_in (x := (Sy.push V ⟨qs, qi, qg, qm, qx, qy, qvx, qvy, qh, qp, ql⟩).x) (e := C * S) (Int.mul_pos (by have := ok.c0; omega) (by have := ok.s0; omega))
    have i2 := Zn.into_in (x := (Sy.push V ⟨qs, qi, qg, qm, qx, qy, qvx, qvy, qh, qp, ql⟩).y) (e := R * S) (Int.mul_pos (by have := ok.r0; omega) (by have := ok.s0; omega))
    rw [hX, hY]
    exact ⟨⟨Int.le_trans (by decide) i1.1, Int.le_trans (Int.le_of_lt i1.2) (Int.le_trans hc.2 (by decide))⟩, ⟨Int.le_trans (by decide) i2.1, Int.le_trans (Int.le_of_lt i2.2) (Int.le_trans hr.2 (by decide))⟩⟩
  have o1 := fun q W (h : MapAt W q C R S D V N Q) => of_any q C R S D V N Q qx qy W h ok hb.x hb.y
  have o2 := fun q W (h : MapAt W q C R S D V N Q) => of_any q C R S D V N Q X Y W h ok IX.1 IX.2
  clear hX hY EV IX
  generalize Zn.of C R S qx qy = zw at *
  generalize Zn.of C R S X Y = zi at *
  have hn : decide (0 ≤ zi) = true := decide_eq_true st1.1
  have b1 := fun q W (h : MapAt W q C R S D V N Q) => beside_any q C R S D V N Q zw W h ok
  have ln := Zn.beside_bd ok zw
  generalize Zn.beside C R zw = L at *
  simp only [Bn.val] at k1 ⊢
  have O1 : Hid (∀ q L W, Sep w (box q (.cells #[.int .i64 C, .int .i64 R, .int .i64 S, .int .i64 D, .int .i64 V, .int .i64 N, .int .i64 Q] 73) :: L) W → Calls Try.prog 29 #[.pointer (some ⟨q, 0, none⟩), .int .i64 qx, .int .i64 qy] W fun e W' => e = .returned (.int .i64 zw) ∧ Sep w (box q (.cells #[.int .i64 C, .int .i64 R, .int .i64 S, .int .i64 D, .int .i64 V, .int .i64 N, .int .i64 Q] 73) :: L) W') := Lib.hid fun q L W hW => (o1 q W (hW.held 0 rfl)).mono fun e W' ⟨a, b⟩ => ⟨a, hW.below b⟩
  have O2 : Hid (∀ q L W, Sep w (box q (.cells #[.int .i64 C, .int .i64 R, .int .i64 S, .int .i64 D, .int .i64 V, .int .i64 N, .int .i64 Q] 73) :: L) W → Calls Try.prog 29 #[.pointer (some ⟨q, 0, none⟩), .int .i64 X, .int .i64 Y] W fun e W' => e = .returned (.int .i64 zi) ∧ Sep w (box q (.cells #[.int .i64 C, .int .i64 R, .int .i64 S, .int .i64 D, .int .i64 V, .int .i64 N, .int .i64 Q] 73) :: L) W') := Lib.hid fun q L W hW => (o2 q W (hW.held 0 rfl)).mono fun e W' ⟨a, b⟩ => ⟨a, hW.below b⟩
  have MV : Hid (∀ q L W, Sep w (box q (.cells #[.int .i64 C, .int .i64 R, .int .i64 S, .int .i64 D, .int .i64 V, .int .i64 N, .int .i64 Q] 73) :: L) W → Calls Try.prog 25 #[.pointer (some ⟨q, 0, none⟩), .agg #[.int .i64 qs, .int .i64 qi, .int .i64 qg, .int .i64 qm, .int .i64 qx, .int .i64 qy, .int .i64 qvx, .int .i64 qvy, .int .i64 qh, .int .i64 qp, .int .i64 ql]] W fun e W' => e = .returned (.agg #[.int .i64 qs, .int .i64 qi, .int .i64 qg, .int .i64 qm, .int .i64 X, .int .i64 Y, .int .i64 qvx, .int .i64 qvy, .int .i64 qh, .int .i64 qp, .int .i64 ql]) ∧ Sep w (box q (.cells #[.int .i64 C, .int .i64 R, .int .i64 S, .int .i64 D, .int .i64 V, .int .i64 N, .int .i64 Q] 73) :: box W'.heap.size (.cells #[.int .i64 qs, .int .i64 qi, .int .i64 qg, .int .i64 qm, .int .i64 X, .int .i64 Y, .int .i64 qvx, .int .i64 qvy, .int .i64 qh, .int .i64 qp, .int .i64 ql] 34) :: L) (W'.alloc (.cells #[.int .i64 qs, .int .i64 qi, .int .i64 qg, .int .i64 qm, .int .i64 X, .int .i64 Y, .int .i64 qvx, .int .i64 qvy, .int .i64 qh, .int .i64 qp, .int .i64 ql] 34))) := Lib.hid fun q L W hW => (k1 q W (hW.held 0 rfl)).mono fun e W' ⟨a, b⟩ => ⟨a, (sep_box (hW.below b) _).pull 1 rfl⟩
  have BE : Hid (∀ q L' W, Sep w (box q (.cells #[.int .i64 C, .int .i64 R, .int .i64 S, .int .i64 D, .int .i64 V, .int .i64 N, .int .i64 Q] 73) :: L') W → Calls Try.prog 30 #[.pointer (some ⟨q, 0, none⟩), .int .i64 zw] W fun e W' => ∃ A c, e = .returned (.slice A L.length c) ∧ Reads W' W'.heap.size A (ints L) ∧ Sep w (box q (.cells #[.int .i64 C, .int .i64 R, .int .i64 S, .int .i64 D, .int .i64 V, .int .i64 N, .int .i64 Q] 73) :: L') W') := Lib.hid fun q L' W hW => (b1 q W (hW.held 0 rfl)).mono fun e W' ⟨v, a, b, c⟩ => by
    obtain ⟨A', ca, rfl, rA⟩ := zown_at b
    exact ⟨A', ca, a, rA, hW.below c⟩
  have H0 : Hid (Sep w [box w.heap.size (.cells #[.int .i64 C0, .int .i64 R0, .int .i64 S0, .int .i64 D0, .int .i64 V0, .int .i64 N0, .int .i64 Q0] 44), box (w.heap.size + 1) (.cells #[.int .i64 qs, .int .i64 qi, .int .i64 qg, .int .i64 qm, .int .i64 qx, .int .i64 qy, .int .i64 qvx, .int .i64 qvy, .int .i64 qh, .int .i64 qp, .int .i64 ql] 34)] ((w.alloc (.cells #[.int .i64 C0, .int .i64 R0, .int .i64 S0, .int .i64 D0, .int .i64 V0, .int .i64 N0, .int .i64 Q0] 44)).alloc (.cells #[.int .i64 qs, .int .i64 qi, .int .i64 qg, .int .i64 qm, .int .i64 qx, .int .i64 qy, .int .i64 qvx, .int .i64 qvy, .int .i64 qh, .int .i64 qp, .int .i64 ql] 34))) := Lib.hid (by
    have := (sep_box (sep_box (sep_new w) (.cells #[.int .i64 C0, .int .i64 R0, .int .i64 S0, .int .i64 D0, .int .i64 V0, .int .i64 N0, .int .i64 Q0] 44)) (.cells #[.int .i64 qs, .int .i64 qi, .int .i64 qg, .int .i64 qm, .int .i64 qx, .int .i64 qy, .int .i64 qvx, .int .i64 qvy, .int .i64 qh, .int .i64 qp, .int .i64 ql] 34)).pull 1 rfl
    rw [size1] at this
    exact this)
  have AW := Lib.hid K.awake
  have EQ := fun V => eq_id 9998 qs qi qg qs qi qg V
  simp only [Nat.reduceAdd] at EQ
  simp at EQ
  clear k1 o1 o2 b1 hb K ok okb st1
  go_enter Try.func8, Try.ntmps8
  go_upto_region 1 with fail
  generalize (w.alloc (.cells #[.int .i64 C0, .int .i64 R0, .int .i64 S0, .int .i64 D0, .int .i64 V0, .int .i64 N0, .int .i64 Q0] 44)).alloc (.cells #[.int .i64 qs, .int .i64 qi, .int .i64 qg, .int .i64 qm, .int .i64 qx, .int .i64 qy, .int .i64 qvx, .int .i64 qvy, .int .i64 qh, .int .i64 qp, .int .i64 ql] 34) = w0 at *
  obtain ⟨g0, g1, g2, g3, g4, g5, g6⟩ := (box7 (H0.out.held 0 rfl)).1
  go_upto_region 2 with (first
    | (go_at_call 23; refine (MY.out _ _ H0.out).mono ?_; rintro e w1 ⟨rfl, h1⟩; clear MY H0 g0 g1 g2 g3 g4 g5 g6)
    | (go_at_call 24; refine (NW.out _ _ h1).mono ?_; rintro e w3 ⟨q, rfl, h3⟩; clear NW h1))
  obtain ⟨k0, k1, k2, k3, k4, k5, k6, k7, k8, k9, k10⟩ := (Bx.b11 (h3.held 2 rfl)).1
  go_upto_region 5 with (go_at_call 29; refine (O1.out _ _ _ h3).mono ?_; rintro e w4 ⟨rfl, h4⟩; clear O1 h3 k0 k1 k2 k3 k4 k5 k6 k7 k8 k9 k10; obtain ⟨k0, k1, k2, k3, k4, k5, k6, k7, k8, k9, k10⟩ := (Bx.b11 (h4.held 2 rfl)).1)
  go_upto_region 6 with (go_at_call 25; refine (MV.out _ _ _ h4).mono ?_; rintro e w5 ⟨rfl, h5⟩; clear MV h4 k0 k1 k2 k3 k4 k5 k6 k7 k8 k9 k10)
  generalize w5.alloc (.cells #[.int .i64 qs, .int .i64 qi, .int .i64 qg, .int .i64 qm, .int .i64 X, .int .i64 Y, .int .i64 qvx, .int .i64 qvy, .int .i64 qh, .int .i64 qp, .int .i64 ql] 34) = w6 at *
  obtain ⟨k0, k1, k2, k3, k4, k5, k6, k7, k8, k9, k10⟩ := (Bx.b11 (h5.held 1 rfl)).1
  go_upto_region 7 with (go_at_call 29; refine (O2.out _ _ _ h5).mono ?_; rintro e w7 ⟨rfl, h7⟩; clear O2 h5 k0 k1 k2 k3 k4 k5 k6 k7 k8 k9 k10)
  go_upto_region 8 with (go_at_call 30; refine (BE.out _ _ _ h7).mono ?_; rintro e w8 ⟨A8, c8, rfl, r8, h8⟩; clear BE h7)
  have R8 := Lib.hid r8
  have H8 := Lib.hid h8.bel
  have T2 := Lib.hid (h8.held 3 rfl)
  have T3 := Lib.hid (h8.held 1 rfl)
  clear r8 h8
  by_cases hz : zw = zi
  · have e1 : (zw == zi) = true := by simpa using hz
    have FIN : Hid ((true || decide (zi ∈ L)) = true) := Lib.hid (by simp)
    clear st2 hz
    go_wp2
    go_loopw [11, 12] (fun t s wr => ∃ j : Nat, j ≤ L.length ∧ s = .int .i64 j ∧ t = .bool (true || decide (zi ∈ L.take j)) ∧ Hid (w8 = wr)) (fun _ s _ => L.length - (intOf s).toNat)
    case atStart => exact ⟨0, by omega, rfl, by first | (simp; done) | simp [hm0], Lib.hid rfl⟩
    case round =>
      obtain ⟨j, hj, rfl, rfl, hw⟩ := hrel
      have hw' := hw.out
      subst hw'
      clear hw
      by_cases hlt : j < L.length
      · obtain ⟨g, off, eA, hg, hcell⟩ := reads_int R8.out (k := j) hlt
        subst eA
        have ST := Lib.hid (show (true || decide (zi ∈ L.take (j + 1))) = ((true || decide (zi ∈ L.take j)) || decide (L[j] = zi)) by
          rw [Bool.or_assoc, show decide (zi ∈ L.take (j + 1)) = (decide (zi ∈ L.take j) || decide (L[j] = zi)) by
            rw [← List.take_append_getElem hlt, Bool.eq_iff_iff]
            simp only [List.mem_append, List.mem_singleton, Bool.or_eq_true, decide_eq_true_eq]
            exact or_congr Iff.rfl eq_comm])
        generalize L[j] = a at *
        generalize (true || decide (zi ∈ L.take j)) = p at *
        cases p
        · by_cases ha : a = zi
          · have H := Lib.hid (show (true || decide (zi ∈ L.take (j + 1))) = true by rw [ST.out]; simp [ha])
            clear ST
            go_wp2
            go_roundw
            case rel => exact ⟨j + 1, by omega, by go_num, by rw [H.out], Lib.hid trivial⟩
            case measure => simp [intOf]; omega
          · have H := Lib.hid (show (true || decide (zi ∈ L.take (j + 1))) = false by rw [ST.out]; simp [ha])
            clear ST
            go_wp2
            go_roundw
            case rel => exact ⟨j + 1, by omega, by go_num, by rw [H.out, beq_false_of_ne ha], Lib.hid trivial⟩
            case measure => simp [intOf]; omega
        · have H := Lib.hid (show (true || decide (zi ∈ L.take (j + 1))) = true by rw [ST.out]; simp)
          clear ST hcell
          go_wp2
          go_roundw
          case rel => exact ⟨j + 1, by omega, by go_num, by rw [H.out], Lib.hid trivial⟩
          case measure => simp [intOf]; omega
      · obtain rfl : j = L.length := by omega
        rw [List.take_length, FIN.out]
        obtain ⟨k0, k1, k2, k3, k4, k5, k6, k7, k8, k9, k10⟩ := (Bx.b11 T3.out).1
        obtain ⟨a0, a1, a2, a3, a4, a5, a6, a7, a8, a9, a10⟩ := (Bx.b11 T2.out).1
        go_wp2_with (go_at_call 16; refine (AW.out _).mono ?_; rintro e w9 ⟨rfl, b9⟩; clear AW)
        go_ret
        exact ⟨rfl, H8.out.trans (b9.mono H8.out.size)⟩
  · have e1 : (zw == zi) = false := by simpa using hz
    have FIN : Hid ((decide (zw < 0) || decide (zi ∈ L)) = true) := Lib.hid (by
      rcases st2 with h | h | h
      · simp [h]
      · exact absurd h hz
      · simp [h])
    obtain ⟨m0, hm0⟩ : ∃ m0, decide (zw < 0) = m0 := ⟨_, rfl⟩
    rw [hm0] at FIN
    clear st2 hz
    go_wp2
    go_loopw [11, 12] (fun t s wr => ∃ j : Nat, j ≤ L.length ∧ s = .int .i64 j ∧ t = .bool (m0 || decide (zi ∈ L.take j)) ∧ Hid (w8 = wr)) (fun _ s _ => L.length - (intOf s).toNat)
    case atStart => exact ⟨0, by omega, rfl, by first | (simp; done) | simp [hm0], Lib.hid rfl⟩
    case round =>
      obtain ⟨j, hj, rfl, rfl, hw⟩ := hrel
      have hw' := hw.out
      subst hw'
      clear hw
      by_cases hlt : j < L.length
      · obtain ⟨g, off, eA, hg, hcell⟩ := reads_int R8.out (k := j) hlt
        subst eA
        have ST := Lib.hid (show (m0 || decide (zi ∈ L.take (j + 1))) = ((m0 || decide (zi ∈ L.take j)) || decide (L[j] = zi)) by
          rw [Bool.or_assoc, show decide (zi ∈ L.take (j + 1)) = (decide (zi ∈ L.take j) || decide (L[j] = zi)) by
            rw [← List.take_append_getElem hlt, Bool.eq_iff_iff]
            simp only [List.mem_append, List.mem_singleton, Bool.or_eq_true, decide_eq_true_eq]
            exact or_congr Iff.rfl eq_comm])
        generalize L[j] = a at *
        generalize (m0 || decide (zi ∈ L.take j)) = p at *
        cases p
        · by_cases ha : a = zi
          · have H := Lib.hid (show (m0 || decide (zi ∈ L.take (j + 1))) = true by rw [ST.out]; simp [ha])
            clear ST
            go_wp2
            go_roundw
            case rel => exact ⟨j + 1, by omega, by go_num, by rw [H.out], Lib.hid trivial⟩
            case measure => simp [intOf]; omega
          · have H := Lib.hid (show (m0 || decide (zi ∈ L.take (j + 1))) = false by rw [ST.out]; simp [ha])
            clear ST
            go_wp2
            go_roundw
            case rel => exact ⟨j + 1, by omega, by go_num, by rw [H.out, beq_false_of_ne ha], Lib.hid trivial⟩
            case measure => simp [intOf]; omega
        · have H := Lib.hid (show (m0 || decide (zi ∈ L.take (j + 1))) = true by rw [ST.out]; simp)
          clear ST hcell
          go_wp2
          go_roundw
          case rel => exact ⟨j + 1, by omega, by go_num, by rw [H.out], Lib.hid trivial⟩
          case measure => simp [intOf]; omega
      · obtain rfl : j = L.length := by omega
        rw [List.take_length, FIN.out]
        obtain ⟨k0, k1, k2, k3, k4, k5, k6, k7, k8, k9, k10⟩ := (Bx.b11 T3.out).1
        obtain ⟨a0, a1, a2, a3, a4, a5, a6, a7, a8, a9, a10⟩ := (Bx.b11 T2.out).1
        go_wp2_with (go_at_call 16; refine (AW.out _).mono ?_; rintro e w9 ⟨rfl, b9⟩; clear AW)
        go_ret
        exact ⟨rfl, H8.out.trans (b9.mono H8.out.size)⟩
end Go.Proofs.Ytfmbldjaknjgbaa
