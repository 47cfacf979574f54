/- The law ArchOrder, walked. Written by wip/tools/genorder.py. -/
import Derived.Test.YteohkbepefjjlaaKArOrdP
import Derived.Test.YteohkbepefjjlaaKArAwake
namespace Go.Proofs.Yteohkbepefjjlaa
open Go.RowKit Pz Ar
set_option linter.unusedVariables false
set_option linter.unusedSimpArgs false

set_option maxHeartbeats 32000000 in
set_option maxRecDepth 100000 in
theorem law_order (w : World) (A : Option Addr) (c : Nat) (l0 : List Bn) (hc : l0.length ≤ c) (hcap : c ≤ 140737488351232) (R : RdB w w.heap.size A l0) :
    Calls Try.prog 9 #[.slice A l0.length c] w fun e w' => e = .returned (.bool true) ∧ Below w.heap.size w w' := by
  have N := Lib.hid (p1_new w)
  obtain ⟨s, hs⟩ : ∃ s, s = w.heap.size := ⟨_, rfl⟩
  obtain ⟨l, hl⟩ : ∃ l, l = l0.take 60 := ⟨_, rfl⟩
  have hl6 : l.length ≤ 60 := by rw [hl, List.length_take]; omega
  have RX : Hid (∀ W, Below w.heap.size w W → RdB W w.heap.size A l) := Lib.hid fun W hW j x hx => (R.below hW) j x (by
    rw [hl] at hx
    by_cases hj : j < 60
    · rwa [List.getElem?_take_of_lt hj] at hx
    · have := (List.getElem?_eq_some_iff.1 hx).1
      rw [List.length_take] at this
      omega)
  have hA : 60 < l0.length → ∃ g o, A = some ⟨g, o, none⟩ := fun h => by
    obtain ⟨g, o, e, _⟩ := R 0 l0[0] (List.getElem?_eq_getElem (by omega))
    exact ⟨g, o, e⟩
  have hln : l.length = min 60 l0.length := by rw [hl, List.length_take]
  rw [← hs] at N
  clear hl hs R
  have hn : (l.length : Int) ≤ 60 := by omega
  have AW := Lib.hid awake_any
  by_cases h60 : 60 < l0.length
  case' pos =>
    obtain ⟨g, o, rfl⟩ := hA h60
    have t0 : (60 : Int) < (l0.length : Int) := by omega
    have e60 : (60 : Int) = (l.length : Int) := by omega
    have e60' : 60 = l.length := by omega
    have hc2 : 60 ≤ c := by omega
    clear hA hln
    generalize l0.length = n0 at *
    go_enter Try.func9, Try.ntmps9
    go_upto_region 3 with fail
    clear e60 e60' hc2 t0 h60 hc
    generalize (some ⟨g, o, none⟩ : Option Addr) = A at *
  case' neg =>
    have t0 : ¬ (60 : Int) < (l0.length : Int) := by omega
    have e60' : l0.length = l.length := by omega
    clear hA hln
    rw [e60'] at *
    clear e60' h60 hc
    go_enter Try.func9, Try.ntmps9
    go_upto_region 3 with fail
    clear t0
  all_goals
    go_wp2_with (go_at_call 11; refine N.out.mono ?_; rintro e w1 ⟨rfl, h1⟩; have H0 : Hid (P1R w s (addAll []) (.slice none 0 0) [] w1) := Lib.hid h1.row0; clear N h1)
    go_loopw [4, 5] (fun u i wr => ∃ (j : Nat) (P : List Bn), j ≤ l.length ∧ i = .int .i64 j ∧ P.length ≤ j ∧ Hid (P1R w s (addAll P) u P wr) ∧ Hid (∀ b ∈ P, may b = true)) (fun u i _ => l.length - (intOf i).toNat)
    case atStart => exact ⟨0, [], Nat.zero_le _, rfl, Nat.le_refl _, H0, Lib.hid fun b hb => by cases hb⟩
    case round =>
      obtain ⟨j, P, hj, rfl, hPj, HP, HM⟩ := hrel
      clear H0
      by_cases hjn : j < l.length
      · have t1 : (j : Int) < (l.length : Int) := by omega
        obtain ⟨g, o, rfl, _⟩ := RX.out wr HP.out.1 j _ (List.getElem?_eq_getElem hjn)
        have RC : Hid (∀ W, Below w.heap.size w W → W.cell? ⟨g, o + j * 11, none⟩ = some (.int .i64 l[j].s) ∧ W.cell? ⟨g, o + j * 11 + 1, none⟩ = some (.int .i64 l[j].i) ∧ W.cell? ⟨g, o + j * 11 + 2, none⟩ = some (.int .i64 l[j].g) ∧ W.cell? ⟨g, o + j * 11 + 3, none⟩ = some (.int .i64 l[j].m) ∧ W.cell? ⟨g, o + j * 11 + 4, none⟩ = some (.int .i64 l[j].x) ∧ W.cell? ⟨g, o + j * 11 + 5, none⟩ = some (.int .i64 l[j].y) ∧ W.cell? ⟨g, o + j * 11 + 6, none⟩ = some (.int .i64 l[j].vx) ∧ W.cell? ⟨g, o + j * 11 + 7, none⟩ = some (.int .i64 l[j].vy) ∧ W.cell? ⟨g, o + j * 11 + 8, none⟩ = some (.int .i64 l[j].h) ∧ W.cell? ⟨g, o + j * 11 + 9, none⟩ = some (.int .i64 l[j].p) ∧ W.cell? ⟨g, o + j * 11 + 10, none⟩ = some (.int .i64 l[j].l)) := Lib.hid fun W hW => by
          obtain ⟨g', o', e, _, hc⟩ := RX.out W hW j _ (List.getElem?_eq_getElem hjn)
          cases e
          exact hc
        have hLe : Le (addAll P) 60 := fun m => Nat.le_trans (addAll_len P m) (by omega)
        have hsn := addAll_snoc P l[j]
        have hM2 : Hid (may l[j] = true → ∀ b ∈ P ++ [l[j]], may b = true) := Lib.hid fun h b hb => by
          rcases List.mem_append.1 hb with hb | hb
          · exact HM.out b hb
          · rw [List.mem_singleton.1 hb]; exact h
        have hb0 := HP.out.1
        rcases put_cases (addAll P) l[j] with ⟨e, hmay⟩ | ⟨n, hne, e⟩
        · rw [← hsn] at e
          have SX := Lib.hid (HP.out.put l[j] hLe (by decide) e)
          have AP : Hid (∀ W v, P1R w s (addAll (P ++ [l[j]])) v P W → ∃ A1 n1 c1, v = .slice A1 n1 c1 ∧ ∃ A' n' c' V, (Builtin.append_ #[26, 26] 26 #[v, .slice (some ⟨W.heap.size, 0, none⟩) 1 1]).run Try.prog (W.alloc (.cells #[.int .i64 l[j].s, .int .i64 l[j].i, .int .i64 l[j].g, .int .i64 l[j].m, .int .i64 l[j].x, .int .i64 l[j].y, .int .i64 l[j].vx, .int .i64 l[j].vy, .int .i64 l[j].h, .int .i64 l[j].p, .int .i64 l[j].l] 35)) = .ok (.slice A' n' c') V ∧ Hid (P1R w s (addAll (P ++ [l[j]])) (.slice A' n' c') (P ++ [l[j]]) V)) := Lib.hid fun W v h => by
            obtain ⟨A', c', V, hr, h2⟩ := h.app l[j] (by omega) 26
            obtain ⟨A1, c1, e1⟩ := h.own.form
            exact ⟨A1, _, c1, e1, A', _, c', V, hr, Lib.hid h2⟩
          have HM2 := Lib.hid (hM2.out hmay)
          have hPl : (P ++ [l[j]]).length ≤ j + 1 := by rw [List.length_append]; simp; omega
          clear hsn hM2 e hmay hLe RX HP HM AW
          simp only [Bn.val] at SX
          generalize P ++ [l[j]] = P2 at *
          generalize l[j].s = y0 at *
          generalize l[j].i = y1 at *
          generalize l[j].g = y2 at *
          generalize l[j].m = y3 at *
          generalize l[j].x = y4 at *
          generalize l[j].y = y5 at *
          generalize l[j].vx = y6 at *
          generalize l[j].vy = y7 at *
          generalize l[j].h = y8 at *
          generalize l[j].p = y9 at *
          generalize l[j].l = y10 at *
          obtain ⟨k0, k1, k2, k3, k4, k5, k6, k7, k8, k9, k10⟩ := RC.out _ hb0
          go_wp2_with (first
            | (go_at_call 30; refine SX.out.mono ?_; rintro e w5 ⟨rfl, h5⟩; clear SX k0 k1 k2 k3 k4 k5 k6 k7 k8 k9 k10; obtain ⟨k0, k1, k2, k3, k4, k5, k6, k7, k8, k9, k10⟩ := RC.out _ h5.1; obtain ⟨A1, n1, c1, rfl, A', n', c', V, hr, FIN⟩ := AP.out _ _ h5; have HR := Lib.hid hr; clear hr AP h5)
            | (at_builtin; refine wpList_append _ rfl (.tmp 30) (.tmp 35) _ _ rfl _ _ rfl rfl _ _ HR.out ?_))
          go_roundw
          case rel => exact ⟨j + 1, P2, by omega, by go_num, hPl, FIN, HM2⟩
          case measure => simp [intOf]; omega
        · have SX := Lib.hid (HP.out.put l[j] hLe (by decide) e)
          have d1 : decide (n = 0) = false := decide_eq_false hne
          have d2 : (n == 0) = false := by rw [beq_eq_false_iff_ne]; exact hne
          clear hsn hM2 e hne hLe RX HP AW
          simp only [Bn.val] at SX
          generalize l[j].s = y0 at *
          generalize l[j].i = y1 at *
          generalize l[j].g = y2 at *
          generalize l[j].m = y3 at *
          generalize l[j].x = y4 at *
          generalize l[j].y = y5 at *
          generalize l[j].vx = y6 at *
          generalize l[j].vy = y7 at *
          generalize l[j].h = y8 at *
          generalize l[j].p = y9 at *
          generalize l[j].l = y10 at *
          obtain ⟨k0, k1, k2, k3, k4, k5, k6, k7, k8, k9, k10⟩ := RC.out _ hb0
          go_wp2_with (go_at_call 30; refine SX.out.mono ?_; rintro e w5 ⟨rfl, h5⟩; clear SX k0 k1 k2 k3 k4 k5 k6 k7 k8 k9 k10)
          go_roundw
          case rel => exact ⟨j + 1, P, by omega, by go_num, by omega, Lib.hid h5, HM⟩
          case measure => simp [intOf]; omega
      · obtain rfl : j = l.length := by omega
        have t1 : ¬ (l.length : Int) < (l.length : Int) := by omega
        obtain ⟨Ap, cp, rfl⟩ := HP.out.own.form
        have RP := Lib.hid fun W (hW : Below wr.heap.size wr W) => (RdB.of_own HP.out.own).below hW
        have HT := Lib.hid HP.out.one.tables
        have LX := Lib.hid fun W (hW : Below wr.heap.size wr W) => (HP.out.one.below hW).len
        have htp := total_addAll HM.out
        have hpl : P.length ≤ 60 := by omega
        have hTl : (tabs (addAll P)).length ≤ 32 := by rw [tabs_to]; exact tabsTo_le _ 32
        have HB0 := Lib.hid HP.out.1
        rw [htp] at LX
        have RA := Lib.hid (rowsTo_all (addAll P))
        have RS' := Lib.hid fun j m ks => rowsTo_succ (t := addAll P) (j := j) (m := m) (ks := ks)
        have RLe := Lib.hid (rowsTo_le (addAll P))
        have TA := Lib.hid fun j m ks => tabs_at (t := addAll P) (j := j) (m := m) (ks := ks)
        rw [htp] at RA RLe
        have R0 : rowsTo (addAll P) 0 = 0 := rfl
        have MK : Hid (∀ j (hj : j < P.length), 0 ≤ P[j].m ∧ P[j].m ≤ 31) := Lib.hid fun j hj => may_mask (HM.out _ (List.getElem_mem hj))
        have FY := Lib.hid fun m j hj h => filt_yes (P := P) (m := m) (j := j) hj h
        have FN := Lib.hid fun m j hj h => filt_no (P := P) (m := m) (j := j) hj h
        have FL : Hid (∀ j m, (addAll (P.take j) m).length ≤ P.length) := Lib.hid fun j m => Nat.le_trans (addAll_len _ _) (by rw [List.length_take]; omega)
        have FA : Hid (∀ m, addAll (P.take P.length) m = addAll P m) := Lib.hid fun m => by rw [List.take_length]
        have F0 : Hid (∀ m, (addAll (P.take 0) m).length = 0) := Lib.hid fun m => rfl
        clear HP HM RX htp
        generalize addAll P = TT at HT RA RS' RLe TA R0 FY FA hTl
        go_wp2_with (go_at_call 19; refine HT.out.mono ?_; rintro e w6 ⟨A6, c6, rfl, T6, b6⟩; have TB := Lib.hid fun W (hW : Below w6.heap.size w6 W) => T6.below hW; have B6 := Lib.hid b6; clear HT T6 b6)
        clear hjn hPj hj
        go_loopw [7, 8] (fun n i wv => ∃ q : Nat, q ≤ (tabs TT).length ∧ i = .int .i64 q ∧ n = .int .i64 (rowsTo TT q : Nat) ∧ Hid (Below w6.heap.size w6 wv)) (fun n i _ => (tabs TT).length - (intOf i).toNat)
        case atStart => exact ⟨0, Nat.zero_le _, rfl, by rw [R0]; rfl, Lib.hid (Below.refl _ _)⟩
        case round =>
          obtain ⟨i, hi, rfl, rfl, HB⟩ := hrel
          clear R0
          have hT2 : ((tabs TT).length : Int) ≤ 32 := by omega
          by_cases hil : i < (tabs TT).length
          · have t2 : (i : Int) < ((tabs TT).length : Int) := by omega
            obtain ⟨⟨m, ks⟩, hik⟩ : ∃ y, (tabs TT)[i]? = some y := ⟨_, List.getElem?_eq_getElem hil⟩
            obtain ⟨hm32, hks, hpos⟩ := TA.out _ _ _ hik
            have hrs := RS'.out _ _ _ hik
            go_wp2
            go_loopw [7, 9, 10] (fun n k j wv => ∃ q : Nat, q ≤ P.length ∧ j = .int .i64 q ∧ k = .int .i64 ((addAll (P.take q) m).length : Nat) ∧ n = .int .i64 ((rowsTo TT i + (addAll (P.take q) m).length : Nat)) ∧ Hid (Below w6.heap.size w6 wv)) (fun n k j _ => P.length - (intOf j).toNat)
            case atStart => exact ⟨0, Nat.zero_le _, rfl, by rw [F0.out]; rfl, by rw [F0.out, Nat.add_zero], HB⟩
            case round =>
              obtain ⟨j, hj, rfl, rfl, rfl, HB⟩ := hrel
              have hri := RLe.out i
              have hkl := FL.out j m
              by_cases hjl : j < P.length
              · have t3 : (j : Int) < (P.length : Int) := by omega
                have hpl2 : (P.length : Int) ≤ 60 := by omega
                obtain ⟨g2, o2, rfl, _, tm, A', c', ts, OI⟩ := (TB.out wr HB.out).at_ hik
                obtain ⟨g, o, rfl, _, k0, k1, k2, k3, k4, k5, k6, k7, k8, k9, k10⟩ := RP.out wr (B6.out.trans (HB.out.mono B6.out.size)) j _ (List.getElem?_eq_getElem hjl)
                have hmk := MK.out j hjl
                have NX : Hid (∀ q, Below w6.heap.size w6 (wr.drewN q)) := Lib.hid fun q => Below.dn' HB.out q
                by_cases hmm : P[j].m = (m : Int)
                · have hmt : P[j].m.toNat = m := by omega
                  obtain ⟨f1, f2⟩ := FY.out m j hjl hmt
                  have fl : (addAll (P.take (j + 1)) m).length = (addAll (P.take j) m).length + 1 := by rw [f1, List.length_append]; rfl
                  have hkk : ks[(addAll (P.take j) m).length]? = some P[j].id := by rw [hks, List.getElem?_map, f2]; rfl
                  obtain ⟨d, e, rfl, _, ⟨y0, y1, y2⟩, _⟩ := owni_at OI hkk
                  have hlt := (List.getElem?_eq_some_iff.1 hkk).1
                  have d1 : (P[j].m != (m : Int)) = false := by simp [hmm]
                  have d2 : decide ((ks.length : Int) ≤ ((addAll (P.take j) m).length : Int)) = false := decide_eq_false (by omega)
                  have t4 : ((addAll (P.take j) m).length : Int) < (ks.length : Int) := by omega
                  have EQ : ∀ V : World, (Op.equalIn 10000 33 (.agg #[.int .i64 P[j].id.1, .int .i64 P[j].id.2.1, .int .i64 P[j].id.2.2]) (.agg #[.int .i64 P[j].s, .int .i64 P[j].i, .int .i64 P[j].g])).run Try.prog V = .ok true V := fun V => by
                    have := eq_id 9998 P[j].s P[j].i P[j].g P[j].s P[j].i P[j].g V
                    simpa using this
                  simp only [Bn.id] at EQ y0 y1 y2
                  clear HB OI TB RP hkk f1 f2 FY FN FL FA F0 MK TA RS' RA RLe LX HB0 AW hik hks hpos hrs hmt hmk
                  generalize hkq : (addAll (P.take j) m).length = kk at *
                  generalize hkr : (addAll (P.take (j + 1)) m).length = kn at *
                  clear hkq
                  generalize hrr : rowsTo TT i = ri at *
                  clear hrr
                  generalize P[j].s = x0 at *
                  generalize P[j].i = x1 at *
                  generalize P[j].g = x2 at *
                  generalize P[j].m = x3 at *
                  generalize P[j].x = x4 at *
                  generalize P[j].y = x5 at *
                  generalize P[j].vx = x6 at *
                  generalize P[j].vy = x7 at *
                  generalize P[j].h = x8 at *
                  generalize P[j].p = x9 at *
                  generalize P[j].l = x10 at *
                  go_wp2
                  go_quiet (fail)
                  go_wp2
                  go_quiet (fail)
                  go_wp2
                  go_roundw
                  case rel => exact ⟨j + 1, by omega, by go_num, by rw [hkr, fl]; go_num, by rw [hkr, fl]; go_num, Lib.hid (NX.out _)⟩
                  case measure => simp [intOf]; omega
                · have hmt : P[j].m.toNat ≠ m := by omega
                  have f1 := FN.out m j hjl hmt
                  have d1 : (P[j].m != (m : Int)) = true := by simp [hmm]
                  clear HB OI TB RP FY FN FL FA F0 MK TA RS' RA RLe LX HB0 AW hik hks hpos hrs hmt hmk
                  generalize hkq : (addAll (P.take j) m).length = kk at *
                  generalize hrr : rowsTo TT i = ri at *
                  clear hrr
                  generalize P[j].s = x0 at *
                  generalize P[j].i = x1 at *
                  generalize P[j].g = x2 at *
                  generalize P[j].m = x3 at *
                  generalize P[j].x = x4 at *
                  generalize P[j].y = x5 at *
                  generalize P[j].vx = x6 at *
                  generalize P[j].vy = x7 at *
                  generalize P[j].h = x8 at *
                  generalize P[j].p = x9 at *
                  generalize P[j].l = x10 at *
                  go_wp2
                  go_quiet (fail)
                  go_wp2
                  go_roundw
                  case rel => exact ⟨j + 1, by omega, by go_num, by rw [f1, hkq], by rw [f1, hkq], Lib.hid (NX.out _)⟩
                  case measure => simp [intOf]; omega
              · obtain rfl : j = P.length := by omega
                have t3 : ¬ (P.length : Int) < (P.length : Int) := by omega
                have hFA := FA.out m
                have hn2 : rowsTo TT (i + 1) = rowsTo TT i + (addAll (P.take P.length) m).length := by rw [hFA, hrs]
                generalize hkq : (addAll (P.take P.length) m).length = kk at *
                clear TB RP FY FN FL FA F0 MK TA RS' RA RLe LX AW hik hks hpos hrs
                go_wp2
                go_roundw
                case rel => exact ⟨i + 1, by omega, by go_num, by rw [hn2], HB⟩
                case measure => simp [intOf]; omega
          · obtain rfl : i = (tabs TT).length := by omega
            have t2 : ¬ ((tabs TT).length : Int) < ((tabs TT).length : Int) := by omega
            have hb6 := B6.out.trans (HB.out.mono B6.out.size)
            rw [RA.out]
            clear TB RP FY FN FL FA F0 MK TA RS' RA RLe
            generalize (tabs TT).length = nT at *
            have nm : ((P.length : Int) == (P.length : Int)) = true := by simp
            generalize P.length = nP at *
            go_wp2_with (first
              | (go_at_call 22; refine (LX.out _ hb6).mono ?_; rintro e w7 ⟨rfl, rfl⟩; clear LX)
              | (go_at_call 17; refine (AW.out _).mono ?_; rintro e w8 ⟨rfl, b8⟩; clear AW))
            go_ret
            exact ⟨rfl, HB0.out.trans ((hb6.trans (b8.mono hb6.size)).mono HB0.out.size)⟩
end Go.Proofs.Yteohkbepefjjlaa
