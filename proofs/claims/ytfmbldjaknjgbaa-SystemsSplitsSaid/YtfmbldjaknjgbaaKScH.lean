/- The code's Hits. Written by wip/tools/gensy.py. -/
import Derived.Test.YtfmbldjaknjgbaaKScT
import Derived.Test.YtfmbldjaknjgbaaKSyB
import Derived.Test.YtfmbldjaknjgbaaKSoC
namespace Go.Proofs.Ytfmbldjaknjgbaa
open Go.RowKit Pz Sp
set_option linter.unusedVariables false
set_option linter.unusedSimpArgs false

theorem Sy.takes_pw (b : Bn) (r : Int) : ∀ (l : List Bn) (s : Int), Sy.takes b r s (l.filter pw) = Sy.takes b r s l
  | [], s => rfl
  | c :: l, s => by
    cases h : pw c with
    | true =>
      rw [List.filter_cons_of_pos h]
      exact Sy.takes_pw b r l _
    | false =>
      rw [List.filter_cons_of_neg (by rw [h]; decide)]
      have e : Sy.meets b r c = false := by
        unfold Sy.meets
        rw [show bitB c.m 3 = false from h]
        simp
      have e2 : Sy.takes b r s (c :: l) = Sy.takes b r (if Sy.meets b r c then Rc.clamp (s + Rc.clamp c.p) else s) l := rfl
      rw [e2, e]
      exact Sy.takes_pw b r l s
theorem Sy.takes_all (b : Bn) (r : Int) (own others : List Bn) : Sy.takes b r 0 ((own ++ others).filter pw) = Sy.takes b r (Sy.takes b r 0 own) others := by
  rw [Sy.takes_pw]
  simp only [Sy.takes, List.foldl_append]
set_option maxHeartbeats 4000000 in
set_option maxRecDepth 100000 in
theorem chits_any {w : World} {A A2 : Option Addr} {c c2 : Nat} {own others : List Bn} (R : RdB w w.heap.size A own) (R2 : RdB w w.heap.size A2 others) (hl : own.length ≤ 1000) (hl2 : others.length ≤ 1000) (r : Int) :
    Calls Try.prog 13 #[.int .i64 r, .slice A own.length c, .slice A2 others.length c2] w fun e w' => ∃ A' c', e = .returned (.slice A' (Sy.hits r own others).length c') ∧ OwnH w' w.heap.size (.slice A' (Sy.hits r own others).length c') (Sy.hits r own others) ∧ Below w.heap.size w w' := by
  obtain ⟨SL, hSL⟩ : ∃ SL, SL = sortL Bn.id own := ⟨_, rfl⟩
  obtain ⟨M, hM⟩ : ∃ M, M = (own ++ others).filter pw := ⟨_, rfl⟩
  have hn : SL.length = own.length := by rw [hSL, sort_len]
  have hMl : M.length ≤ 2000 := by
    have := List.length_filter_le pw (own ++ others)
    rw [List.length_append] at this
    rw [hM]
    omega
  have hMp : ∀ x ∈ M, bitB x.m 3 = true := fun x hx => by
    rw [hM] at hx
    exact (List.mem_filter.1 hx).2
  have TV : Hid (∀ x : Bn, Sy.takes x r 0 M = Sy.takes x r (Sy.takes x r 0 own) others) := Lib.hid fun x => by rw [hM]; exact Sy.takes_all x r own others
  have WP : Hid (Calls Try.prog 33 #[.slice A own.length c, .slice A2 others.length c2] w fun e V => ∃ Am cm, e = .returned (.slice Am M.length cm) ∧ OwnB V w.heap.size (.slice Am M.length cm) M ∧ Below w.heap.size w V) := Lib.hid ((power_any R R2 hl hl2).mono fun e V ⟨Am, m, cm, e1, e2, e3, e4⟩ => by
    subst e2
    rw [← hM] at e1 e3
    exact ⟨Am, cm, e1, e3, e4⟩)
  have SO : Hid (∀ V, Below w.heap.size w V → Calls Try.prog 34 #[.slice A own.length c] V fun e V' => ∃ As cs, e = .returned (.slice As SL.length cs) ∧ OwnB V' V.heap.size (.slice As SL.length cs) SL ∧ Below V.heap.size V V') := Lib.hid fun V hV => ((sorted_any ((R.below hV).more hV.size) (by omega)).mono fun e V' ⟨⟨As, cs, e1, e2⟩, e3⟩ => ⟨As, cs, by rw [hn]; exact e1, by rw [hn, hSL]; exact e2, e3⟩)
  have EH : Hid (Sy.hits r own others = (SL.take SL.length).filterMap (Sy.hitOf r own others)) := Lib.hid (by rw [List.take_length, hSL]; rfl)
  have hl6 : (SL.length : Int) ≤ 1000 := by omega
  have hl7 : SL.length ≤ 1000 := by omega
  have HMl := Lib.hid hMl
  have HMp := Lib.hid hMp
  clear R R2 hSL hM hn hl hl2 hMl hMp
  go_enter Try.func13, Try.ntmps13
  go_wp2_with (first
    | (go_at_call 33; with_reducible refine WP.out.mono ?_; rintro e w0 ⟨Am, cm, rfl, o0, b0⟩; have S0 := Lib.hid (sep_row (sep_new w) b0 o0); clear WP o0 b0)
    | (go_at_call 34; with_reducible refine (SO.out _ S0.out.bel).mono ?_; rintro e w1 ⟨As, cs, rfl, o1, b1⟩; have S1 := Lib.hid (sep_row S0.out b1 o1); clear SO o1 b1 S0))
  have H0 : Hid (Sep w [row htE 63 4 (.slice none (0 : Nat) 0) ((SL.take 0).filterMap (Sy.hitOf r own others)), rowB (.slice As SL.length cs) SL, rowB (.slice Am M.length cm) M] w1) := Lib.hid (row_none htE 63 4 S1.out)
  clear S1
  go_loopw [8, 18] (fun v i wr => ∃ j A' m c', j ≤ SL.length ∧ m = ((SL.take j).filterMap (Sy.hitOf r own others)).length ∧ v = .slice A' m c' ∧ i = .int .i64 j ∧ Hid (Sep w [row htE 63 4 (.slice A' m c') ((SL.take j).filterMap (Sy.hitOf r own others)), rowB (.slice As SL.length cs) SL, rowB (.slice Am M.length cm) M] wr)) (fun v i _ => SL.length - (intOf i).toNat)
  case atStart => exact ⟨0, none, 0, 0, Nat.zero_le _, rfl, rfl, rfl, H0⟩
  case round =>
    obtain ⟨j, A', m, c', hj, hm, rfl, rfl, HP⟩ := hrel
    clear H0
    by_cases hjn : j < SL.length
    · have q1 : (j : Int) < (SL.length : Int) := by omega
      have hx := List.getElem?_eq_getElem hjn
      obtain ⟨g, o, hA, _, ⟨k0, k1, k2, k3, k4, k5, k6, k7, k8, k9, k10⟩, hjunk⟩ := own_at (HP.out.rows 1 rfl) hx
      clear hjunk
      subst hA
      have hmN : m ≤ 1000 := by
        rw [hm]
        have := List.length_filterMap_le (Sy.hitOf r own others) (SL.take j)
        rw [List.length_take] at this
        omega
      have BX : Hid (∀ W, Calls Try.prog 35 #[SL[j].val, .int .i64 4] W fun e w' => e = .returned (.bool (bitB SL[j].m 2)) ∧ Below W.heap.size W w') := Lib.hid fun W => has_one SL[j] (j := 2) (by decide) W
      obtain ⟨P, hP⟩ : ∃ P, P = row htE 63 4 (.slice A' m c') ((SL.take j).filterMap (Sy.hitOf r own others)) := ⟨_, rfl⟩
      rw [← hP] at HP
      have TA : Hid (∀ V, Sep w [box wr.heap.size (.cells #[.int .i64 SL[j].s, .int .i64 SL[j].i, .int .i64 SL[j].g, .int .i64 SL[j].m, .int .i64 SL[j].x, .int .i64 SL[j].y, .int .i64 SL[j].vx, .int .i64 SL[j].vy, .int .i64 SL[j].h, .int .i64 SL[j].p, .int .i64 SL[j].l] 34), P, rowB (.slice (some ⟨g, o, none⟩) SL.length cs) SL, rowB (.slice Am M.length cm) M] V → Calls Try.prog 36 #[.int .i64 r, SL[j].val, .slice Am M.length cm] V fun e V' => e = .returned (.int .i64 (Sy.takes SL[j] r (Sy.takes SL[j] r 0 own) others)) ∧ Sep w [box wr.heap.size (.cells #[.int .i64 SL[j].s, .int .i64 SL[j].i, .int .i64 SL[j].g, .int .i64 SL[j].m, .int .i64 SL[j].x, .int .i64 SL[j].y, .int .i64 SL[j].vx, .int .i64 SL[j].vy, .int .i64 SL[j].h, .int .i64 SL[j].p, .int .i64 SL[j].l] 34), P, rowB (.slice (some ⟨g, o, none⟩) SL.length cs) SL, rowB (.slice Am M.length cm) M] V') := Lib.hid fun V hV => by
        rw [← TV.out]
        exact (ctaken_any (RdB.of_own (hV.rows 3 rfl)) HMl.out HMp.out SL[j].s SL[j].i SL[j].g SL[j].m SL[j].x SL[j].y SL[j].vx SL[j].vy SL[j].h SL[j].p SL[j].l r).mono fun e V' ⟨a, b⟩ => ⟨a, hV.below b⟩
      have FM := fm_take (Sy.hitOf r own others) hjn
      have PU : Hid (∀ V, Sep w [P, rowB (.slice (some ⟨g, o, none⟩) SL.length cs) SL, rowB (.slice Am M.length cm) M] V → Sy.hitOf r own others SL[j] = some (SL[j].id, (Sy.takes SL[j] r (Sy.takes SL[j] r 0 own) others)) → ∃ A2' c2' V', (Builtin.append_ #[25, 25] 25 #[.slice A' m c', .slice (some ⟨V.heap.size, 0, none⟩) 1 1]).run Try.prog (V.alloc (.cells #[.int .i64 SL[j].s, .int .i64 SL[j].i, .int .i64 SL[j].g, .int .i64 (Sy.takes SL[j] r (Sy.takes SL[j] r 0 own) others)] 63)) = .ok (.slice A2' (m + 1) c2') V' ∧ m + 1 = ((SL.take (j + 1)).filterMap (Sy.hitOf r own others)).length ∧ Hid (Sep w [row htE 63 4 (.slice A2' (m + 1) c2') ((SL.take (j + 1)).filterMap (Sy.hitOf r own others)), rowB (.slice (some ⟨g, o, none⟩) SL.length cs) SL, rowB (.slice Am M.length cm) M] V')) := Lib.hid fun V hV hh => by
        rw [hP] at hV
        rw [hh] at FM
        obtain ⟨a, b, V', h1, h2⟩ := hit_push hV (SL[j].id, (Sy.takes SL[j] r (Sy.takes SL[j] r 0 own) others)) (by rw [← hm]; omega)
        rw [← hm] at h1 h2
        rw [FM]
        exact ⟨a, b, V', h1, by simp [hm], Lib.hid h2⟩
      have NO : Hid (∀ V, Sep w [P, rowB (.slice (some ⟨g, o, none⟩) SL.length cs) SL, rowB (.slice Am M.length cm) M] V → Sy.hitOf r own others SL[j] = none → m = ((SL.take (j + 1)).filterMap (Sy.hitOf r own others)).length ∧ Hid (Sep w [row htE 63 4 (.slice A' m c') ((SL.take (j + 1)).filterMap (Sy.hitOf r own others)), rowB (.slice (some ⟨g, o, none⟩) SL.length cs) SL, rowB (.slice Am M.length cm) M] V)) := Lib.hid fun V hV hh => by
        rw [hP] at hV
        rw [hh] at FM
        simp only [Option.toList_none, List.append_nil] at FM
        rw [FM]
        exact ⟨hm, Lib.hid hV⟩
      have HO : Sy.hitOf r own others SL[j] = if bitB SL[j].m 2 = true ∧ 0 < (Sy.takes SL[j] r (Sy.takes SL[j] r 0 own) others) then some (SL[j].id, (Sy.takes SL[j] r (Sy.takes SL[j] r 0 own) others)) else none := rfl
      have HN : Hid (Sep w [box wr.heap.size (.cells #[.int .i64 SL[j].s, .int .i64 SL[j].i, .int .i64 SL[j].g, .int .i64 SL[j].m, .int .i64 SL[j].x, .int .i64 SL[j].y, .int .i64 SL[j].vx, .int .i64 SL[j].vy, .int .i64 SL[j].h, .int .i64 SL[j].p, .int .i64 SL[j].l] 34), P, rowB (.slice (some ⟨g, o, none⟩) SL.length cs) SL, rowB (.slice Am M.length cm) M] (wr.alloc (.cells #[.int .i64 SL[j].s, .int .i64 SL[j].i, .int .i64 SL[j].g, .int .i64 SL[j].m, .int .i64 SL[j].x, .int .i64 SL[j].y, .int .i64 SL[j].vx, .int .i64 SL[j].vy, .int .i64 SL[j].h, .int .i64 SL[j].p, .int .i64 SL[j].l] 34))) := Lib.hid (sep_box HP.out _)
      clear FM hm hP EH hx TV HMl HMp HP
      simp only [Bn.val] at TA BX
      generalize (Sy.takes SL[j] r (Sy.takes SL[j] r 0 own) others) = s2 at *
      generalize bitB SL[j].m 2 = bit at *
      replace HO := Lib.hid HO
      have bh := fun V => b_hit SL[j].s SL[j].i SL[j].g s2 V
      have bhs := fun V => b_hits SL[j].s SL[j].i SL[j].g s2 V
      have YES : Hid (bit = true → 0 < s2 → Sy.hitOf r own others SL[j] = some (SL[j].id, s2)) := Lib.hid fun a b => by rw [HO.out, if_pos ⟨a, b⟩]
      have NOT : Hid (¬ (bit = true ∧ 0 < s2) → Sy.hitOf r own others SL[j] = none) := Lib.hid fun a => by rw [HO.out, if_neg a]
      have PV : Hid (bit = true → 0 < s2 → ∀ V, Sep w [box wr.heap.size (.cells #[.int .i64 SL[j].s, .int .i64 SL[j].i, .int .i64 SL[j].g, .int .i64 SL[j].m, .int .i64 SL[j].x, .int .i64 SL[j].y, .int .i64 SL[j].vx, .int .i64 SL[j].vy, .int .i64 SL[j].h, .int .i64 SL[j].p, .int .i64 SL[j].l] 34), P, rowB (.slice (some ⟨g, o, none⟩) SL.length cs) SL, rowB (.slice Am M.length cm) M] V → ∃ A2' c2' V', (Builtin.append_ #[25, 25] 25 #[.slice A' m c', .slice (some ⟨V.heap.size, 0, none⟩) 1 1]).run Try.prog (V.alloc (.cells #[.int .i64 SL[j].s, .int .i64 SL[j].i, .int .i64 SL[j].g, .int .i64 s2] 63)) = .ok (.slice A2' (m + 1) c2') V' ∧ m + 1 = ((SL.take (j + 1)).filterMap (Sy.hitOf r own others)).length ∧ Hid (Sep w [row htE 63 4 (.slice A2' (m + 1) c2') ((SL.take (j + 1)).filterMap (Sy.hitOf r own others)), rowB (.slice (some ⟨g, o, none⟩) SL.length cs) SL, rowB (.slice Am M.length cm) M] V')) := Lib.hid fun a b V hV => PU.out V hV.drop (YES.out a b)
      have NV : Hid (¬ (bit = true ∧ 0 < s2) → ∀ V, Sep w [box wr.heap.size (.cells #[.int .i64 SL[j].s, .int .i64 SL[j].i, .int .i64 SL[j].g, .int .i64 SL[j].m, .int .i64 SL[j].x, .int .i64 SL[j].y, .int .i64 SL[j].vx, .int .i64 SL[j].vy, .int .i64 SL[j].h, .int .i64 SL[j].p, .int .i64 SL[j].l] 34), P, rowB (.slice (some ⟨g, o, none⟩) SL.length cs) SL, rowB (.slice Am M.length cm) M] V → m = ((SL.take (j + 1)).filterMap (Sy.hitOf r own others)).length ∧ Hid (Sep w [row htE 63 4 (.slice A' m c') ((SL.take (j + 1)).filterMap (Sy.hitOf r own others)), rowB (.slice (some ⟨g, o, none⟩) SL.length cs) SL, rowB (.slice Am M.length cm) M] V)) := Lib.hid fun a V hV => NO.out V hV.drop (NOT.out a)
      clear NO PU HO YES NOT
      generalize SL[j].s = y0 at *
      generalize SL[j].i = y1 at *
      generalize SL[j].g = y2 at *
      generalize SL[j].m = y3 at *
      generalize SL[j].x = y4 at *
      generalize SL[j].y = y5 at *
      generalize SL[j].vx = y6 at *
      generalize SL[j].vy = y7 at *
      generalize SL[j].h = y8 at *
      generalize SL[j].p = y9 at *
      generalize SL[j].l = y10 at *
      go_upto_region 6 with fail
      clear k0 k1 k2 k3 k4 k5 k6 k7 k8 k9 k10
      generalize hw2 : wr.alloc (.cells #[.int .i64 y0, .int .i64 y1, .int .i64 y2, .int .i64 y3, .int .i64 y4, .int .i64 y5, .int .i64 y6, .int .i64 y7, .int .i64 y8, .int .i64 y9, .int .i64 y10] 34) = w2 at *
      clear hw2
      obtain ⟨n0, n1, n2, n3, n4, n5, n6, n7, n8, n9, n10⟩ := (Bx.b11 (HN.out.held 0 rfl)).1
      cases bit with
      | false =>
        replace NV := Lib.hid (NV.out (by simp))
        clear PV TA
        go_wp2_with (go_at_call 35; with_reducible refine (BX.out _).mono ?_; rintro e w3 ⟨rfl, b3⟩; clear BX n0 n1 n2 n3 n4 n5 n6 n7 n8 n9 n10; have H3 := Lib.hid (HN.out.below b3); clear HN b3; obtain ⟨n0, n1, n2, n3, n4, n5, n6, n7, n8, n9, n10⟩ := (Bx.b11 (H3.out.held 0 rfl)).1)
        obtain ⟨hm2, HE⟩ := NV.out _ H3.out
        go_roundw
        case rel => exact ⟨j + 1, _, _, _, by omega, hm2, rfl, by go_num, HE⟩
        case measure => simp [intOf]; omega
      | true =>
        by_cases h0 : 0 < s2
        · have t1 : s2 > 0 := h0
          replace PV := Lib.hid (PV.out rfl h0)
          clear NV
          go_wp2_with (first
            | (go_at_call 35; with_reducible refine (BX.out _).mono ?_; rintro e w3 ⟨rfl, b3⟩; clear BX n0 n1 n2 n3 n4 n5 n6 n7 n8 n9 n10; have H3 := Lib.hid (HN.out.below b3); clear HN b3; obtain ⟨n0, n1, n2, n3, n4, n5, n6, n7, n8, n9, n10⟩ := (Bx.b11 (H3.out.held 0 rfl)).1)
            | (go_at_call 36; with_reducible refine (TA.out _ H3.out).mono ?_; rintro e w4 ⟨rfl, h4⟩; clear TA H3 n0 n1 n2 n3 n4 n5 n6 n7 n8 n9 n10; have H4 := Lib.hid h4; clear h4; obtain ⟨n0, n1, n2, n3, n4, n5, n6, n7, n8, n9, n10⟩ := (Bx.b11 (H4.out.held 0 rfl)).1; obtain ⟨A2', c2', V', hr, hm2, HE⟩ := PV.out _ H4.out; have HR := Lib.hid hr; have hm3 := Lib.hid hm2; clear PV hr hm2)
            | (at_builtin; refine wpList_append _ rfl (.tmp 31) (.tmp 36) _ _ rfl _ _ rfl rfl _ _ HR.out ?_))
          go_roundw
          case rel => exact ⟨j + 1, _, _, _, by omega, hm3.out, rfl, by go_num, HE⟩
          case measure => simp [intOf]; omega
        · have t1 : ¬ s2 > 0 := h0
          replace NV := Lib.hid (NV.out (fun h => h0 h.2))
          clear PV
          go_wp2_with (first
            | (go_at_call 35; with_reducible refine (BX.out _).mono ?_; rintro e w3 ⟨rfl, b3⟩; clear BX n0 n1 n2 n3 n4 n5 n6 n7 n8 n9 n10; have H3 := Lib.hid (HN.out.below b3); clear HN b3; obtain ⟨n0, n1, n2, n3, n4, n5, n6, n7, n8, n9, n10⟩ := (Bx.b11 (H3.out.held 0 rfl)).1)
            | (go_at_call 36; with_reducible refine (TA.out _ H3.out).mono ?_; rintro e w4 ⟨rfl, h4⟩; clear TA H3 n0 n1 n2 n3 n4 n5 n6 n7 n8 n9 n10; have H4 := Lib.hid h4; clear h4; obtain ⟨n0, n1, n2, n3, n4, n5, n6, n7, n8, n9, n10⟩ := (Bx.b11 (H4.out.held 0 rfl)).1))
          obtain ⟨hm2, HE⟩ := NV.out _ H4.out
          go_roundw
          case rel => exact ⟨j + 1, _, _, _, by omega, hm2, rfl, by go_num, HE⟩
          case measure => simp [intOf]; omega
    · obtain rfl : j = SL.length := by omega
      have q1 : ¬ (SL.length : Int) < (SL.length : Int) := by omega
      have FIN : Hid (OwnH wr w.heap.size (.slice A' m c') (Sy.hits r own others) ∧ m = (Sy.hits r own others).length ∧ Below w.heap.size w wr) := Lib.hid (by
        rw [EH.out]
        obtain ⟨G, ⟨g1, g2⟩, g3, _⟩ := HP.out.one
        refine ⟨?_, hm, HP.out.bel⟩
        rcases g1 with h | ⟨g, off, cap, cur, e, h1, h2⟩
        · exact .inl h
        · refine .inr ⟨g, off, cap, cur, e, g3 g ((g2 g).2 (by rw [e]; rfl)), h2⟩)
      have hm3 := Lib.hid hm
      clear EH HP hm TV HMl HMp
      go_wp2
      go_ret
      obtain ⟨f1, f2, f3⟩ := FIN.out
      rw [← f2]
      exact ⟨_, _, rfl, f1, f3⟩
end Go.Proofs.Ytfmbldjaknjgbaa
