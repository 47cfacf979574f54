/- The code's Hits. Written by wip/tools/gensy.py. What is left of an entity that may be, may be. Nothing of the program. Written by wip/tools/gensy8.py. Who moves stays in the world, and goes no farther than a zone beside. Nothing of the program. Written by wip/tools/gensy10.py. A tick over lists of entities: nobody is lost, nobody comes twice; who stays, who goes. Nothing of the program. -/
import Derived.Test.YtljaahemlcaffaaGreatK27
import Derived.Test.YtljaahemlcaffaaGreatK26
import Derived.Test.YtljaahemlcaffaaGreatK07
import Derived.Test.YtljaahemlcaffaaGreatK08
namespace Go.Proofs.YtljaahemlcaffaaGreat
open Go.RowKit Pz Sp
set_option linter.unusedVariables false
set_option linter.unusedSimpArgs false

theorem Sy.takes_pw (b : Bn) (r : Int) : ∀ (l : List Bn) (s : Int), Sy.takes b r s (l.filter pw) = Sy.takes b r s l
  | [], s => rfl
  | c :: l, s => by
    cases h : pw c with
    | true =>
      rw [List.filter_cons_of_pos h]
      exact Sy.takes_pw b r l _
    | false =>
      rw [List.filter_cons_of_neg (by rw [h]; decide)]
      have e : Sy.meets b r c = false := by
        unfold Sy.meets
        rw [show bitB c.m 3 = false from h]
        simp
      have e2 : Sy.takes b r s (c :: l) = Sy.takes b r (if Sy.meets b r c then Rc.clamp (s + Rc.clamp c.p) else s) l := rfl
      rw [e2, e]
      exact Sy.takes_pw b r l s
theorem Sy.takes_all (b : Bn) (r : Int) (own others : List Bn) : Sy.takes b r 0 ((own ++ others).filter pw) = Sy.takes b r (Sy.takes b r 0 own) others := by
  rw [Sy.takes_pw]
  simp only [Sy.takes, List.foldl_append]
set_option maxHeartbeats 4000000 in
set_option maxRecDepth 100000 in
theorem chits_any {w : World} {A A2 : Option Addr} {c c2 : Nat} {own others : List Bn} (R : RdB w w.heap.size A own) (R2 : RdB w w.heap.size A2 others) (hl : own.length ≤ 1000) (hl2 : others.length ≤ 1000) (r : Int) :
    Calls Tryz.prog 34 #[.int .i64 r, .slice A own.length c, .slice A2 others.length c2] w fun e w' => ∃ A' c', e = .returned (.slice A' (Sy.hits r own others).length c') ∧ OwnH w' w.heap.size (.slice A' (Sy.hits r own others).length c') (Sy.hits r own others) ∧ Below w.heap.size w w' := by
  obtain ⟨SL, hSL⟩ : ∃ SL, SL = sortL Bn.id own := ⟨_, rfl⟩
  obtain ⟨M, hM⟩ : ∃ M, M = (own ++ others).filter pw := ⟨_, rfl⟩
  have hn : SL.length = own.length := by rw [hSL, sort_len]
  have hMl : M.length ≤ 2000 := by
    have := List.length_filter_le pw (own ++ others)
    rw [List.length_append] at this
    rw [hM]
    omega
  have hMp : ∀ x ∈ M, bitB x.m 3 = true := fun x hx => by
    rw [hM] at hx
    exact (List.mem_filter.1 hx).2
  have TV : Hid (∀ x : Bn, Sy.takes x r 0 M = Sy.takes x r (Sy.takes x r 0 own) others) := Lib.hid fun x => by rw [hM]; exact Sy.takes_all x r own others
  have WP : Hid (Calls Tryz.prog 67 #[.slice A own.length c, .slice A2 others.length c2] w fun e V => ∃ Am cm, e = .returned (.slice Am M.length cm) ∧ OwnB V w.heap.size (.slice Am M.length cm) M ∧ Below w.heap.size w V) := Lib.hid ((power_any R R2 hl hl2).mono fun e V ⟨Am, m, cm, e1, e2, e3, e4⟩ => by
    subst e2
    rw [← hM] at e1 e3
    exact ⟨Am, cm, e1, e3, e4⟩)
  have SO : Hid (∀ V, Below w.heap.size w V → Calls Tryz.prog 32 #[.slice A own.length c] V fun e V' => ∃ As cs, e = .returned (.slice As SL.length cs) ∧ OwnB V' V.heap.size (.slice As SL.length cs) SL ∧ Below V.heap.size V V') := Lib.hid fun V hV => ((sorted_any ((R.below hV).more hV.size) (by omega)).mono fun e V' ⟨⟨As, cs, e1, e2⟩, e3⟩ => ⟨As, cs, by rw [hn]; exact e1, by rw [hn, hSL]; exact e2, e3⟩)
  have EH : Hid (Sy.hits r own others = (SL.take SL.length).filterMap (Sy.hitOf r own others)) := Lib.hid (by rw [List.take_length, hSL]; rfl)
  have hl6 : (SL.length : Int) ≤ 1000 := by omega
  have hl7 : SL.length ≤ 1000 := by omega
  have HMl := Lib.hid hMl
  have HMp := Lib.hid hMp
  clear R R2 hSL hM hn hl hl2 hMl hMp
  go_enter Tryz.func34, Tryz.ntmps34
  go_wp2_with (first
    | (go_at_call 67; with_reducible refine WP.out.mono ?_; rintro e w0 ⟨Am, cm, rfl, o0, b0⟩; have S0 := Lib.hid (sep_row (sep_new w) b0 o0); clear WP o0 b0)
    | (go_at_call 32; with_reducible refine (SO.out _ S0.out.bel).mono ?_; rintro e w1 ⟨As, cs, rfl, o1, b1⟩; have S1 := Lib.hid (sep_row S0.out b1 o1); clear SO o1 b1 S0))
  have H0 : Hid (Sep w [row htE 104 4 (.slice none (0 : Nat) 0) ((SL.take 0).filterMap (Sy.hitOf r own others)), rowB (.slice As SL.length cs) SL, rowB (.slice Am M.length cm) M] w1) := Lib.hid (row_none htE 104 4 S1.out)
  clear S1
  go_loopw [8, 18] (fun v i wr => ∃ j A' m c', j ≤ SL.length ∧ m = ((SL.take j).filterMap (Sy.hitOf r own others)).length ∧ v = .slice A' m c' ∧ i = .int .i64 j ∧ Hid (Sep w [row htE 104 4 (.slice A' m c') ((SL.take j).filterMap (Sy.hitOf r own others)), rowB (.slice As SL.length cs) SL, rowB (.slice Am M.length cm) M] wr)) (fun v i _ => SL.length - (intOf i).toNat)
  case atStart => exact ⟨0, none, 0, 0, Nat.zero_le _, rfl, rfl, rfl, H0⟩
  case round =>
    obtain ⟨j, A', m, c', hj, hm, rfl, rfl, HP⟩ := hrel
    clear H0
    by_cases hjn : j < SL.length
    · have q1 : (j : Int) < (SL.length : Int) := by omega
      have hx := List.getElem?_eq_getElem hjn
      obtain ⟨g, o, hA, _, ⟨k0, k1, k2, k3, k4, k5, k6, k7, k8, k9, k10⟩, hjunk⟩ := own_at (HP.out.rows 1 rfl) hx
      clear hjunk
      subst hA
      have hmN : m ≤ 1000 := by
        rw [hm]
        have := List.length_filterMap_le (Sy.hitOf r own others) (SL.take j)
        rw [List.length_take] at this
        omega
      have BX : Hid (∀ W, Calls Tryz.prog 68 #[SL[j].val, .int .i64 4] W fun e w' => e = .returned (.bool (bitB SL[j].m 2)) ∧ Below W.heap.size W w') := Lib.hid fun W => has_one SL[j] (j := 2) (by decide) W
      obtain ⟨P, hP⟩ : ∃ P, P = row htE 104 4 (.slice A' m c') ((SL.take j).filterMap (Sy.hitOf r own others)) := ⟨_, rfl⟩
      rw [← hP] at HP
      have TA : Hid (∀ V, Sep w [box wr.heap.size (.cells #[.int .i64 SL[j].s, .int .i64 SL[j].i, .int .i64 SL[j].g, .int .i64 SL[j].m, .int .i64 SL[j].x, .int .i64 SL[j].y, .int .i64 SL[j].vx, .int .i64 SL[j].vy, .int .i64 SL[j].h, .int .i64 SL[j].p, .int .i64 SL[j].l] 42), P, rowB (.slice (some ⟨g, o, none⟩) SL.length cs) SL, rowB (.slice Am M.length cm) M] V → Calls Tryz.prog 69 #[.int .i64 r, SL[j].val, .slice Am M.length cm] V fun e V' => e = .returned (.int .i64 (Sy.takes SL[j] r (Sy.takes SL[j] r 0 own) others)) ∧ Sep w [box wr.heap.size (.cells #[.int .i64 SL[j].s, .int .i64 SL[j].i, .int .i64 SL[j].g, .int .i64 SL[j].m, .int .i64 SL[j].x, .int .i64 SL[j].y, .int .i64 SL[j].vx, .int .i64 SL[j].vy, .int .i64 SL[j].h, .int .i64 SL[j].p, .int .i64 SL[j].l] 42), P, rowB (.slice (some ⟨g, o, none⟩) SL.length cs) SL, rowB (.slice Am M.length cm) M] V') := Lib.hid fun V hV => by
        rw [← TV.out]
        exact (ctaken_any (RdB.of_own (hV.rows 3 rfl)) HMl.out HMp.out SL[j].s SL[j].i SL[j].g SL[j].m SL[j].x SL[j].y SL[j].vx SL[j].vy SL[j].h SL[j].p SL[j].l r).mono fun e V' ⟨a, b⟩ => ⟨a, hV.below b⟩
      have FM := fm_take (Sy.hitOf r own others) hjn
      have PU : Hid (∀ V, Sep w [P, rowB (.slice (some ⟨g, o, none⟩) SL.length cs) SL, rowB (.slice Am M.length cm) M] V → Sy.hitOf r own others SL[j] = some (SL[j].id, (Sy.takes SL[j] r (Sy.takes SL[j] r 0 own) others)) → ∃ A2' c2' V', (Builtin.append_ #[76, 76] 76 #[.slice A' m c', .slice (some ⟨V.heap.size, 0, none⟩) 1 1]).run Tryz.prog (V.alloc (.cells #[.int .i64 SL[j].s, .int .i64 SL[j].i, .int .i64 SL[j].g, .int .i64 (Sy.takes SL[j] r (Sy.takes SL[j] r 0 own) others)] 104)) = .ok (.slice A2' (m + 1) c2') V' ∧ m + 1 = ((SL.take (j + 1)).filterMap (Sy.hitOf r own others)).length ∧ Hid (Sep w [row htE 104 4 (.slice A2' (m + 1) c2') ((SL.take (j + 1)).filterMap (Sy.hitOf r own others)), rowB (.slice (some ⟨g, o, none⟩) SL.length cs) SL, rowB (.slice Am M.length cm) M] V')) := Lib.hid fun V hV hh => by
        rw [hP] at hV
        rw [hh] at FM
        obtain ⟨a, b, V', h1, h2⟩ := hit_push hV (SL[j].id, (Sy.takes SL[j] r (Sy.takes SL[j] r 0 own) others)) (by rw [← hm]; omega)
        rw [← hm] at h1 h2
        rw [FM]
        exact ⟨a, b, V', h1, by simp [hm], Lib.hid h2⟩
      have NO : Hid (∀ V, Sep w [P, rowB (.slice (some ⟨g, o, none⟩) SL.length cs) SL, rowB (.slice Am M.length cm) M] V → Sy.hitOf r own others SL[j] = none → m = ((SL.take (j + 1)).filterMap (Sy.hitOf r own others)).length ∧ Hid (Sep w [row htE 104 4 (.slice A' m c') ((SL.take (j + 1)).filterMap (Sy.hitOf r own others)), rowB (.slice (some ⟨g, o, none⟩) SL.length cs) SL, rowB (.slice Am M.length cm) M] V)) := Lib.hid fun V hV hh => by
        rw [hP] at hV
        rw [hh] at FM
        simp only [Option.toList_none, List.append_nil] at FM
        rw [FM]
        exact ⟨hm, Lib.hid hV⟩
      have HO : Sy.hitOf r own others SL[j] = if bitB SL[j].m 2 = true ∧ 0 < (Sy.takes SL[j] r (Sy.takes SL[j] r 0 own) others) then some (SL[j].id, (Sy.takes SL[j] r (Sy.takes SL[j] r 0 own) others)) else none := rfl
      have HN : Hid (Sep w [box wr.heap.size (.cells #[.int .i64 SL[j].s, .int .i64 SL[j].i, .int .i64 SL[j].g, .int .i64 SL[j].m, .int .i64 SL[j].x, .int .i64 SL[j].y, .int .i64 SL[j].vx, .int .i64 SL[j].vy, .int .i64 SL[j].h, .int .i64 SL[j].p, .int .i64 SL[j].l] 42), P, rowB (.slice (some ⟨g, o, none⟩) SL.length cs) SL, rowB (.slice Am M.length cm) M] (wr.alloc (.cells #[.int .i64 SL[j].s, .int .i64 SL[j].i, .int .i64 SL[j].g, .int .i64 SL[j].m, .int .i64 SL[j].x, .int .i64 SL[j].y, .int .i64 SL[j].vx, .int .i64 SL[j].vy, .int .i64 SL[j].h, .int .i64 SL[j].p, .int .i64 SL[j].l] 42))) := Lib.hid (sep_box HP.out _)
      clear FM hm hP EH hx TV HMl HMp HP
      simp only [Bn.val] at TA BX
      generalize (Sy.takes SL[j] r (Sy.takes SL[j] r 0 own) others) = s2 at *
      generalize bitB SL[j].m 2 = bit at *
      replace HO := Lib.hid HO
      have bh := fun V => b_hit SL[j].s SL[j].i SL[j].g s2 V
      have bhs := fun V => b_hits SL[j].s SL[j].i SL[j].g s2 V
      have YES : Hid (bit = true → 0 < s2 → Sy.hitOf r own others SL[j] = some (SL[j].id, s2)) := Lib.hid fun a b => by rw [HO.out, if_pos ⟨a, b⟩]
      have NOT : Hid (¬ (bit = true ∧ 0 < s2) → Sy.hitOf r own others SL[j] = none) := Lib.hid fun a => by rw [HO.out, if_neg a]
      have PV : Hid (bit = true → 0 < s2 → ∀ V, Sep w [box wr.heap.size (.cells #[.int .i64 SL[j].s, .int .i64 SL[j].i, .int .i64 SL[j].g, .int .i64 SL[j].m, .int .i64 SL[j].x, .int .i64 SL[j].y, .int .i64 SL[j].vx, .int .i64 SL[j].vy, .int .i64 SL[j].h, .int .i64 SL[j].p, .int .i64 SL[j].l] 42), P, rowB (.slice (some ⟨g, o, none⟩) SL.length cs) SL, rowB (.slice Am M.length cm) M] V → ∃ A2' c2' V', (Builtin.append_ #[76, 76] 76 #[.slice A' m c', .slice (some ⟨V.heap.size, 0, none⟩) 1 1]).run Tryz.prog (V.alloc (.cells #[.int .i64 SL[j].s, .int .i64 SL[j].i, .int .i64 SL[j].g, .int .i64 s2] 104)) = .ok (.slice A2' (m + 1) c2') V' ∧ m + 1 = ((SL.take (j + 1)).filterMap (Sy.hitOf r own others)).length ∧ Hid (Sep w [row htE 104 4 (.slice A2' (m + 1) c2') ((SL.take (j + 1)).filterMap (Sy.hitOf r own others)), rowB (.slice (some ⟨g, o, none⟩) SL.length cs) SL, rowB (.slice Am M.length cm) M] V')) := Lib.hid fun a b V hV => PU.out V hV.drop (YES.out a b)
      have NV : Hid (¬ (bit = true ∧ 0 < s2) → ∀ V, Sep w [box wr.heap.size (.cells #[.int .i64 SL[j].s, .int .i64 SL[j].i, .int .i64 SL[j].g, .int .i64 SL[j].m, .int .i64 SL[j].x, .int .i64 SL[j].y, .int .i64 SL[j].vx, .int .i64 SL[j].vy, .int .i64 SL[j].h, .int .i64 SL[j].p, .int .i64 SL[j].l] 42), P, rowB (.slice (some ⟨g, o, none⟩) SL.length cs) SL, rowB (.slice Am M.length cm) M] V → m = ((SL.take (j + 1)).filterMap (Sy.hitOf r own others)).length ∧ Hid (Sep w [row htE 104 4 (.slice A' m c') ((SL.take (j + 1)).filterMap (Sy.hitOf r own others)), rowB (.slice (some ⟨g, o, none⟩) SL.length cs) SL, rowB (.slice Am M.length cm) M] V)) := Lib.hid fun a V hV => NO.out V hV.drop (NOT.out a)
      clear NO PU HO YES NOT
      generalize SL[j].s = y0 at *
      generalize SL[j].i = y1 at *
      generalize SL[j].g = y2 at *
      generalize SL[j].m = y3 at *
      generalize SL[j].x = y4 at *
      generalize SL[j].y = y5 at *
      generalize SL[j].vx = y6 at *
      generalize SL[j].vy = y7 at *
      generalize SL[j].h = y8 at *
      generalize SL[j].p = y9 at *
      generalize SL[j].l = y10 at *
      go_upto_region 6 with fail
      clear k0 k1 k2 k3 k4 k5 k6 k7 k8 k9 k10
      generalize hw2 : wr.alloc (.cells #[.int .i64 y0, .int .i64 y1, .int .i64 y2, .int .i64 y3, .int .i64 y4, .int .i64 y5, .int .i64 y6, .int .i64 y7, .int .i64 y8, .int .i64 y9, .int .i64 y10] 42) = w2 at *
      clear hw2
      obtain ⟨n0, n1, n2, n3, n4, n5, n6, n7, n8, n9, n10⟩ := (Bx.b11 (HN.out.held 0 rfl)).1
      cases bit with
      | false =>
        replace NV := Lib.hid (NV.out (by simp))
        clear PV TA
        go_wp2_with (go_at_call 68; with_reducible refine (BX.out _).mono ?_; rintro e w3 ⟨rfl, b3⟩; clear BX n0 n1 n2 n3 n4 n5 n6 n7 n8 n9 n10; have H3 := Lib.hid (HN.out.below b3); clear HN b3; obtain ⟨n0, n1, n2, n3, n4, n5, n6, n7, n8, n9, n10⟩ := (Bx.b11 (H3.out.held 0 rfl)).1)
        obtain ⟨hm2, HE⟩ := NV.out _ H3.out
        go_roundw
        case rel => exact ⟨j + 1, _, _, _, by omega, hm2, rfl, by go_num, HE⟩
        case measure => simp [intOf]; omega
      | true =>
        by_cases h0 : 0 < s2
        · have t1 : s2 > 0 := h0
          replace PV := Lib.hid (PV.out rfl h0)
          clear NV
          go_wp2_with (first
            | (go_at_call 68; with_reducible refine (BX.out _).mono ?_; rintro e w3 ⟨rfl, b3⟩; clear BX n0 n1 n2 n3 n4 n5 n6 n7 n8 n9 n10; have H3 := Lib.hid (HN.out.below b3); clear HN b3; obtain ⟨n0, n1, n2, n3, n4, n5, n6, n7, n8, n9, n10⟩ := (Bx.b11 (H3.out.held 0 rfl)).1)
            | (go_at_call 69; with_reducible refine (TA.out _ H3.out).mono ?_; rintro e w4 ⟨rfl, h4⟩; clear TA H3 n0 n1 n2 n3 n4 n5 n6 n7 n8 n9 n10; have H4 := Lib.hid h4; clear h4; obtain ⟨n0, n1, n2, n3, n4, n5, n6, n7, n8, n9, n10⟩ := (Bx.b11 (H4.out.held 0 rfl)).1; obtain ⟨A2', c2', V', hr, hm2, HE⟩ := PV.out _ H4.out; have HR := Lib.hid hr; have hm3 := Lib.hid hm2; clear PV hr hm2)
            | (at_builtin; refine wpList_append _ rfl (.tmp 31) (.tmp 36) _ _ rfl _ _ rfl rfl _ _ HR.out ?_))
          go_roundw
          case rel => exact ⟨j + 1, _, _, _, by omega, hm3.out, rfl, by go_num, HE⟩
          case measure => simp [intOf]; omega
        · have t1 : ¬ s2 > 0 := h0
          replace NV := Lib.hid (NV.out (fun h => h0 h.2))
          clear PV
          go_wp2_with (first
            | (go_at_call 68; with_reducible refine (BX.out _).mono ?_; rintro e w3 ⟨rfl, b3⟩; clear BX n0 n1 n2 n3 n4 n5 n6 n7 n8 n9 n10; have H3 := Lib.hid (HN.out.below b3); clear HN b3; obtain ⟨n0, n1, n2, n3, n4, n5, n6, n7, n8, n9, n10⟩ := (Bx.b11 (H3.out.held 0 rfl)).1)
            | (go_at_call 69; with_reducible refine (TA.out _ H3.out).mono ?_; rintro e w4 ⟨rfl, h4⟩; clear TA H3 n0 n1 n2 n3 n4 n5 n6 n7 n8 n9 n10; have H4 := Lib.hid h4; clear h4; obtain ⟨n0, n1, n2, n3, n4, n5, n6, n7, n8, n9, n10⟩ := (Bx.b11 (H4.out.held 0 rfl)).1))
          obtain ⟨hm2, HE⟩ := NV.out _ H4.out
          go_roundw
          case rel => exact ⟨j + 1, _, _, _, by omega, hm2, rfl, by go_num, HE⟩
          case measure => simp [intOf]; omega
    · obtain rfl : j = SL.length := by omega
      have q1 : ¬ (SL.length : Int) < (SL.length : Int) := by omega
      have FIN : Hid (OwnH wr w.heap.size (.slice A' m c') (Sy.hits r own others) ∧ m = (Sy.hits r own others).length ∧ Below w.heap.size w wr) := Lib.hid (by
        rw [EH.out]
        obtain ⟨G, ⟨g1, g2⟩, g3, _⟩ := HP.out.one
        refine ⟨?_, hm, HP.out.bel⟩
        rcases g1 with h | ⟨g, off, cap, cur, e, h1, h2⟩
        · exact .inl h
        · refine .inr ⟨g, off, cap, cur, e, g3 g ((g2 g).2 (by rw [e]; rfl)), h2⟩)
      have hm3 := Lib.hid hm
      clear EH HP hm TV HMl HMp
      go_wp2
      go_ret
      obtain ⟨f1, f2, f3⟩ := FIN.out
      rw [← f2]
      exact ⟨_, _, rfl, f1, f3⟩
end Go.Proofs.YtljaahemlcaffaaGreat
namespace Go.Proofs.YtljaahemlcaffaaGreat
open Go Pz
set_option linter.unusedVariables false
set_option linter.unusedSimpArgs false

namespace Sy
theorem may_none : may bn0 = false := by decide
theorem inB_some {n lo hi : Int} (h : inB n lo hi true = true) : lo ≤ n ∧ n ≤ hi := by simpa [inB] using h
theorem hurt_may {b : Bn} (h : may b = true) (n : Int) : may (hurt b n).1 = (hurt b n).2 ∧ ((hurt b n).2 = true → (hurt b n).1.h ≤ b.h) := by
  unfold hurt
  by_cases c : bitB b.m 2 = true ∧ 0 < n
  · rw [if_pos c]
    by_cases d : b.h ≤ n
    · rw [if_pos d]
      exact ⟨may_none, fun e => by cases e⟩
    · rw [if_neg d]
      refine ⟨?_, fun _ => by show b.h - n ≤ b.h; omega⟩
      simp only [may, Bool.and_eq_true] at h ⊢
      obtain ⟨⟨h1, h2⟩, h3⟩ := h
      refine ⟨⟨h1, ?_⟩, h3⟩
      obtain ⟨p0, p1, p2, p3, p4, p5, p6, p7⟩ := right_parts h2
      refine right_of (a := { b with h := b.h - n }) p0 p1 p2 p3 p4 ?_ p6 p7
      rw [c.1] at p5
      have q := inB_some p5
      show inB (b.h - n) 1 1048576 (bitB b.m 2) = true
      rw [c.1]
      simp only [inB, if_true, Bool.and_eq_true, decide_eq_true_eq]
      omega
  · rw [if_neg c]
    exact ⟨h, fun _ => Int.le_refl _⟩
theorem age_may {b : Bn} (h : may b = true) : may (age b).1 = (age b).2 ∧ ((age b).2 = true → (age b).1.l ≤ b.l) := by
  unfold age
  by_cases c : bitB b.m 4 = true
  · rw [if_pos c]
    by_cases d : b.l < 2
    · rw [if_pos d]
      exact ⟨may_none, fun e => by cases e⟩
    · rw [if_neg d]
      refine ⟨?_, fun _ => by show b.l - 1 ≤ b.l; omega⟩
      simp only [may, Bool.and_eq_true] at h ⊢
      obtain ⟨⟨h1, h2⟩, h3⟩ := h
      refine ⟨⟨h1, ?_⟩, h3⟩
      obtain ⟨p0, p1, p2, p3, p4, p5, p6, p7⟩ := right_parts h2
      refine right_of (a := { b with l := b.l - 1 }) p0 p1 p2 p3 p4 p5 p6 ?_
      rw [c] at p7
      have q := inB_some p7
      show inB (b.l - 1) 1 1048576 (bitB b.m 4) = true
      rw [c]
      simp only [inB, if_true, Bool.and_eq_true, decide_eq_true_eq]
      omega
  · rw [if_neg c]
    exact ⟨h, fun _ => Int.le_refl _⟩
theorem obey_may {b : Bn} {c : Cn} (h : may b = true) (hc : mayCmd c = true) : may (obey b c.k b.id c.b c.m).1 = (obey b c.k b.id c.b c.m).2 := by
  unfold obey
  rw [if_pos rfl]
  by_cases k2 : c.k = 2
  · rw [if_pos k2]; exact may_none
  · rw [if_neg k2]
    by_cases k3 : c.k = 3
    · rw [if_pos k3]
      unfold mayCmd at hc
      rw [if_neg (by omega), if_neg k2, if_pos k3] at hc
      simp only [Bool.and_eq_true] at hc
      exact may_with h hc.2
    · rw [if_neg k3]
      by_cases k4 : c.k = 4
      · rw [if_pos k4]
        unfold mayCmd at hc
        rw [if_neg (by omega), if_neg k2, if_neg k3, if_pos k4] at hc
        simp only [Bool.and_eq_true, takesB] at hc
        show may (withoutB b c.m) = true
        rw [may_without h]
        exact hc.2.2
      · rw [if_neg k4]; exact h
theorem hurt_fit {b : Bn} (h : Fit b.m) (n : Int) : Fit (hurt b n).1.m := by
  unfold hurt
  split
  · split
    · exact (by unfold Fit; decide : Fit 0)
    · exact h
  · exact h
theorem age_fit {b : Bn} (h : Fit b.m) : Fit (age b).1.m := by
  unfold age
  split
  · split
    · exact (by unfold Fit; decide : Fit 0)
    · exact h
  · exact h
theorem obey_fit {b : Bn} (h : Fit b.m) (k : Int) (id : Int × Int × Int) (c : Bn) (m : Int) : Fit (obey b k id c m).1.m := by
  unfold obey
  split
  · split
    · exact (by unfold Fit; decide : Fit 0)
    · split
      · exact fit_or _ _
      · split
        · exact fit_andNot _ _
        · exact h
  · exact h
end Sy
end Go.Proofs.YtljaahemlcaffaaGreat
namespace Go.Proofs.YtljaahemlcaffaaGreat
open Go Pz Zn
set_option linter.unusedVariables false

namespace Sy
theorem near_bd {v n : Int} (h : 0 ≤ n) : -n ≤ near v n ∧ near v n ≤ n := by
  unfold near
  split
  · omega
  · split <;> omega
theorem into_self {x e : Int} (h0 : 0 ≤ x) (h1 : x < e) : Zn.into x e = x := by unfold Zn.into; omega
theorem clamp_id {x : Int} (h0 : -1073741824 ≤ x) (h1 : x ≤ 1073741824) : Rc.clamp x = x := by unfold Rc.clamp; omega
theorem stays {C R S D V : Int} (h : Zn.Ok C R S D V) (b : Bn) : (Zn.There C R (Zn.of C R S (move C R S V b).x (move C R S V b).y)) ∧ (Zn.of C R S b.x b.y < 0 ∨ Zn.of C R S b.x b.y = Zn.of C R S (move C R S V b).x (move C R S V b).y ∨ Zn.of C R S (move C R S V b).x (move C R S V b).y ∈ Zn.beside C R (Zn.of C R S b.x b.y)) := by
  have s0 := h.s0
  have s1 := h.s1
  have v0 := h.v0
  have v1 := h.v1
  have hc := side_bd (q := C) h.s0 h.s1 (by have := h.c0; omega) h.c1
  have hr := side_bd (q := R) h.s0 h.s1 (by have := h.r0; omega) h.r1
  have pc : 0 < C * S := Int.mul_pos (by have := h.c0; omega) (by omega)
  have pr : 0 < R * S := Int.mul_pos (by have := h.r0; omega) (by omega)
  have ix := fun x => Zn.into_in (x := x) pc
  have iy := fun x => Zn.into_in (x := x) pr
  refine ⟨Zn.of_in h (ix _).1 (ix _).2 (iy _).1 (iy _).2, ?_⟩
  rcases Zn.of_bd h b.x b.y with e | e
  · left; omega
  · right
    obtain ⟨_, _, x0, x1, y0, y1⟩ := Zn.of_yes h e
    unfold move push
    split
    · have n1 := near_bd (v := b.vx) v0
      have n2 := near_bd (v := b.vy) v0
      dsimp only
      rw [clamp_id (x := b.x) (by omega) (by omega), clamp_id (x := b.y) (by omega) (by omega), clamp_id (by omega) (by omega), clamp_id (by omega) (by omega)]
      rcases Zn.reach h x0 x1 y0 y1 n1.1 n1.2 n2.1 n2.2 with r | r
      · exact .inl r.symm
      · exact .inr r
    · dsimp only
      rw [into_self x0 x1, into_self y0 y1]
      exact .inl rfl
end Sy
end Go.Proofs.YtljaahemlcaffaaGreat
namespace Go.Proofs.YtljaahemlcaffaaGreat
open Go Pz
set_option linter.unusedVariables false

namespace Tk
/-- there, or no more: just one of these -/
def Settled (v : Vw) : Prop := (∃ b, v.1 = some b) ∧ v.2 = false ∨ v.1 = none ∧ v.2 = true
def Blank (v : Vw) : Prop := v.1 = none ∧ v.2 = false
theorem settled_each {f : Bn → Bn × Bool} {v : Vw} (h : Settled v) : Settled (eachK f v) := by
  obtain ⟨o, q⟩ := v
  rcases h with ⟨⟨b, h1⟩, h2⟩ | ⟨h1, h2⟩
  · dsimp only at h1 h2
    subst h1 h2
    unfold eachK
    dsimp only
    split
    · exact .inl ⟨⟨_, rfl⟩, rfl⟩
    · exact .inr ⟨rfl, rfl⟩
  · dsimp only at h1 h2
    subst h1 h2
    exact .inr ⟨rfl, rfl⟩
theorem blank_each {f : Bn → Bn × Bool} {v : Vw} (h : Blank v) : eachK f v = v := by
  obtain ⟨o, q⟩ := v
  obtain ⟨h1, h2⟩ := h
  dsimp only at h1 h2
  subst h1 h2
  rfl
/-- does it begin an entity of that name? -/
def begins (k : K3) (c : Cn) : Bool := decide (c.k = 1) && decide (c.b.id = k)
theorem begins_no {k : K3} {c : Cn} (h : begins k c = false) (hk : c.k = 1) : c.b.id ≠ k := fun e => by
  unfold begins at h
  rw [decide_eq_true hk, decide_eq_true e] at h
  cases h
theorem settled_step {C R S z : Int} {k : K3} {c : Cn} {v : Vw} (hc : begins k c = false) (h : Settled v) : Settled (if owner c = k then cmdK C R S z c v else v) := by
  split
  · rename_i ho
    unfold cmdK
    by_cases hk : c.k = 1
    · exact absurd (by rw [owner, if_pos hk] at ho; exact ho) (begins_no hc hk)
    · rw [if_neg hk]
      exact settled_each h
  · exact h
theorem settled_cmds {C R S z : Int} {k : K3} : ∀ {cs : List Cn} {v : Vw}, (∀ c ∈ cs, begins k c = false) → Settled v → Settled (cmdsK C R S z k v cs)
  | [], _, _, h => h
  | c :: cs, v, hc, h => settled_cmds (cs := cs) (fun x hx => hc x (List.mem_cons_of_mem _ hx)) (settled_step (hc c List.mem_cons_self) h)
theorem blank_step {C R S z : Int} {k : K3} {c : Cn} {v : Vw} (hc : (begins k c && inZone C R S z c.b) = false) (h : Blank v) : (if owner c = k then cmdK C R S z c v else v) = v := by
  split
  · rename_i ho
    unfold cmdK
    by_cases hk : c.k = 1
    · rw [if_pos hk, if_neg]
      rintro ⟨_, h2⟩
      rw [owner, if_pos hk] at ho
      rw [begins, decide_eq_true hk, decide_eq_true ho, h2] at hc
      cases hc
    · rw [if_neg hk]
      exact blank_each h
  · rfl
theorem blank_cmds {C R S z : Int} {k : K3} : ∀ {cs : List Cn} {v : Vw}, (∀ c ∈ cs, (begins k c && inZone C R S z c.b) = false) → Blank v → cmdsK C R S z k v cs = v
  | [], _, _, _ => rfl
  | c :: cs, v, hc, h => by
    show cmdsK C R S z k (if owner c = k then cmdK C R S z c v else v) cs = v
    rw [blank_step (hc c List.mem_cons_self) h]
    exact blank_cmds (cs := cs) (fun x hx => hc x (List.mem_cons_of_mem _ hx)) h
/-- those that begin have unlike names -/
def Fresh (cs : List Cn) : Prop := cs.Pairwise fun a b => a.k = 1 → b.k = 1 → a.b.id ≠ b.b.id
theorem born_cmds {C R S z : Int} {k : K3} : ∀ {cs : List Cn} {v : Vw}, Fresh cs → Blank v → (∃ c ∈ cs, (begins k c && inZone C R S z c.b) = true) → Settled (cmdsK C R S z k v cs)
  | [], _, _, _, h => by obtain ⟨c, hc, _⟩ := h; cases hc
  | c :: cs, v, hf, hv, h => by
    unfold Fresh at hf
    rw [List.pairwise_cons] at hf
    show Settled (cmdsK C R S z k (if owner c = k then cmdK C R S z c v else v) cs)
    cases hc : begins k c && inZone C R S z c.b with
    | false =>
      rw [blank_step hc hv]
      refine born_cmds (cs := cs) hf.2 hv ?_
      obtain ⟨d, hd, hd2⟩ := h
      rcases List.mem_cons.1 hd with rfl | hd
      · rw [hc] at hd2; cases hd2
      · exact ⟨d, hd, hd2⟩
    | true =>
      rw [Bool.and_eq_true, begins, Bool.and_eq_true] at hc
      obtain ⟨⟨c1, c2⟩, c3⟩ := hc
      have c1 : c.k = 1 := by simpa using c1
      have c2 : c.b.id = k := by simpa using c2
      refine settled_cmds (fun d hd => ?_) ?_
      · cases hb : begins k d with
        | false => rfl
        | true =>
          rw [begins, Bool.and_eq_true] at hb
          obtain ⟨d1, d2⟩ := hb
          exact absurd (c2.trans (by simpa using d2 : d.b.id = k).symm) (hf.1 d hd c1 (by simpa using d1))
      · rw [if_pos (by rw [owner, if_pos c1]; exact c2), cmdK, if_pos c1, if_pos ⟨hv.1, c3⟩]
        exact .inl ⟨⟨_, rfl⟩, hv.2⟩
/-- the commands are told so that nobody comes twice -/
structure Told (own : List Bn) (cs : List Cn) : Prop where
  un : Un own
  new : ∀ c ∈ cs, c.k = 1 → at_ own c.b.id = none
  fresh : Fresh cs
/-- it was there, or began -/
def Was (C R S z : Int) (own : List Bn) (cs : List Cn) (k : K3) : Prop := (∃ b ∈ own, b.id = k) ∨ ∃ c ∈ cs, c.k = 1 ∧ c.b.id = k ∧ inZone C R S z c.b = true
theorem first_view {hs : List Ht} {own : List Bn} {k : K3} : ((∃ b, at_ own k = some b) → Settled (eachK (hurts hs) (at_ own k, false))) ∧ (at_ own k = none → Blank (eachK (hurts hs) (at_ own k, false))) := by
  constructor
  · rintro ⟨b, h⟩
    rw [h]
    exact settled_each (.inl ⟨⟨b, rfl⟩, rfl⟩)
  · intro h
    rw [h]
    exact ⟨rfl, rfl⟩
theorem run_settled {C R S D V z : Int} {own near : List Bn} {cs : List Cn} (h : Told own cs) {k : K3} (hw : Was C R S z own cs k) : Settled (view (runS C R S D V z own near cs) k) := by
  rw [run_view C R S D V z h.un]
  refine settled_each ?_
  cases ha : at_ own k with
  | some b =>
    refine settled_cmds (fun c hc => ?_) (by rw [← ha]; exact first_view.1 ⟨b, ha⟩)
    cases hb : begins k c with
    | false => rfl
    | true =>
      rw [begins, Bool.and_eq_true] at hb
      obtain ⟨d1, d2⟩ := hb
      have := h.new c hc (by simpa using d1)
      rw [show c.b.id = k by simpa using d2, ha] at this
      cases this
  | none =>
    refine born_cmds h.fresh (by rw [← ha]; exact first_view.2 ha) ?_
    rcases hw with ⟨b, hb, e⟩ | ⟨c, hc, h1, h2, h3⟩
    · exact absurd e (at_none.1 ha b hb)
    · exact ⟨c, hc, by rw [begins, decide_eq_true h1, decide_eq_true h2, h3]; rfl⟩
theorem run_blank {C R S D V z : Int} {own near : List Bn} {cs : List Cn} (h : Told own cs) {k : K3} (hw : ¬ Was C R S z own cs k) : Blank (view (runS C R S D V z own near cs) k) := by
  rw [run_view C R S D V z h.un]
  have ha : at_ own k = none := at_none.2 fun b hb e => hw (.inl ⟨b, hb, e⟩)
  have hb := first_view (hs := Sy.hits D own near).2 ha
  rw [blank_cmds (fun c hc => ?_) hb, blank_each hb]
  · exact hb
  · cases e : begins k c && inZone C R S z c.b with
    | false => rfl
    | true =>
      rw [Bool.and_eq_true, begins, Bool.and_eq_true] at e
      obtain ⟨⟨c1, c2⟩, c3⟩ := e
      exact absurd (.inr ⟨c, hc, by simpa using c1, by simpa using c2, c3⟩) hw
/-! ### counts -/
def cnt (all : List Bn) (dead : List K3) (k : K3) : Nat := (all.filter fun b => decide (b.id = k)).length + (dead.filter fun d => decide (d = k)).length
theorem cnt_ents {l : List Bn} (h : Un l) (k : K3) : (l.filter fun b => decide (b.id = k)).length = if (at_ l k).isSome then 1 else 0 := by
  cases e : at_ l k with
  | none =>
    have := at_none.1 e
    rw [List.filter_eq_nil_iff.2 fun b hb => by simpa using this b hb]
    rfl
  | some b =>
    obtain ⟨hb, hk⟩ := (at_iff h).1 e
    have := flt_one h hb hk
    unfold flt at this
    rw [this]
    rfl
theorem cnt_names {d : List K3} (h : Rise d) (k : K3) : (d.filter fun x => decide (x = k)).length = if k ∈ d then 1 else 0 := by
  have hn : d.Nodup := h.imp fun h => ne_of_lt h
  by_cases hk : k ∈ d
  · rw [if_pos hk]
    have e : d.filter (fun x => decide (x = k)) = [k] := by
      refine (List.perm_singleton).1 ((List.perm_ext_iff_of_nodup (hn.sublist List.filter_sublist) (by simp)).2 fun x => ?_)
      rw [List.mem_filter, List.mem_singleton]
      simp only [decide_eq_true_eq]
      constructor
      · exact fun h => h.2
      · rintro rfl; exact ⟨hk, rfl⟩
    rw [e]
    rfl
  · rw [if_neg hk, List.filter_eq_nil_iff.2 fun x hx => by simp only [decide_eq_true_eq]; rintro rfl; exact hk hx]
    rfl
theorem cnt_settled {s : St} (h : Ok s) {k : K3} (hv : Settled (view s k)) : cnt s.1 s.2 k = 1 := by
  unfold cnt
  rw [cnt_ents h.up.un, cnt_names h.rise]
  rcases hv with ⟨⟨b, h1⟩, h2⟩ | ⟨h1, h2⟩
  · have h1 : at_ s.1 k = some b := h1
    have h2 : k ∉ s.2 := by simpa [view] using h2
    rw [h1, if_neg h2]
    rfl
  · have h1 : at_ s.1 k = none := h1
    have h2 : k ∈ s.2 := by simpa [view] using h2
    rw [h1, if_pos h2]
    rfl
theorem cnt_blank {s : St} (h : Ok s) {k : K3} (hv : Blank (view s k)) : cnt s.1 s.2 k = 0 := by
  unfold cnt
  rw [cnt_ents h.up.un, cnt_names h.rise]
  have h1 : at_ s.1 k = none := hv.1
  have h2 : k ∉ s.2 := by have := hv.2; simpa [view] using this
  rw [h1, if_neg h2]
  rfl
/-- the entities that begin in the zone -/
def born (C R S z : Int) (cs : List Cn) : List Cn := cs.filter fun c => decide (c.k = 1) && inZone C R S z c.b
theorem total {C R S D V z : Int} {own near : List Bn} {cs : List Cn} (h : Told own cs) : (runS C R S D V z own near cs).1.length + (runS C R S D V z own near cs).2.length = own.length + (born C R S z cs).length := by
  have ok := run_ok C R S D V z h.un near cs
  obtain ⟨s, hs⟩ : ∃ s, s = runS C R S D V z own near cs := ⟨_, rfl⟩
  rw [← hs] at ok ⊢
  have hb1 : ((born C R S z cs).map fun c => c.b.id).Nodup := by
    unfold List.Nodup
    rw [List.pairwise_map]
    unfold born
    have h1 := h.fresh.sublist (List.filter_sublist (l := cs) (p := fun c => decide (c.k = 1) && inZone C R S z c.b))
    refine h1.imp_of_mem fun {a b} ha hb hab => hab ?_ ?_
    · have := (List.mem_filter.1 ha).2
      simp only [Bool.and_eq_true, decide_eq_true_eq] at this
      exact this.1
    · have := (List.mem_filter.1 hb).2
      simp only [Bool.and_eq_true, decide_eq_true_eq] at this
      exact this.1
  have key : ∀ k, k ∈ s.1.map Bn.id ++ s.2 ↔ k ∈ own.map Bn.id ++ (born C R S z cs).map fun c => c.b.id := fun k => by
    have e1 : Was C R S z own cs k ↔ k ∈ own.map Bn.id ++ (born C R S z cs).map fun c => c.b.id := by
      rw [List.mem_append, List.mem_map, List.mem_map]
      unfold Was born
      constructor
      · rintro (⟨b, hb, e⟩ | ⟨c, hc, c1, c2, c3⟩)
        · exact .inl ⟨b, hb, e⟩
        · exact .inr ⟨c, List.mem_filter.2 ⟨hc, by simp [c1, c3]⟩, c2⟩
      · rintro (⟨b, hb, e⟩ | ⟨c, hc, e⟩)
        · exact .inl ⟨b, hb, e⟩
        · obtain ⟨h1, h2⟩ := List.mem_filter.1 hc
          simp only [Bool.and_eq_true, decide_eq_true_eq] at h2
          exact .inr ⟨c, h1, h2.1, e, h2.2⟩
    rw [← e1, List.mem_append, List.mem_map]
    by_cases hw : Was C R S z own cs k
    · have hv := run_settled (D := D) (V := V) (near := near) h hw
      rw [← hs] at hv
      constructor
      · exact fun _ => hw
      · intro _
        rcases hv with ⟨⟨b, h1⟩, _⟩ | ⟨_, h2⟩
        · obtain ⟨hb, hk⟩ := (at_iff ok.up.un).1 h1
          exact .inl ⟨b, hb, hk⟩
        · exact .inr (by simpa [view] using h2)
    · have hv := run_blank (D := D) (V := V) (near := near) h hw
      rw [← hs] at hv
      constructor
      · rintro (⟨b, hb, hk⟩ | hd)
        · exact absurd hk (at_none.1 hv.1 b hb)
        · have := hv.2
          simp only [view, decide_eq_false_iff_not] at this
          exact absurd hd this
      · exact fun h => absurd h hw
  have n1 : (s.1.map Bn.id ++ s.2).Nodup := by
    rw [List.nodup_append]
    refine ⟨ok.up.un, ok.rise.imp fun h => ne_of_lt h, fun a ha b hb e => ?_⟩
    subst e
    obtain ⟨x, hx, ex⟩ := List.mem_map.1 ha
    by_cases hw : Was C R S z own cs a
    · have hv := run_settled (D := D) (V := V) (near := near) h hw
      rw [← hs] at hv
      rcases hv with ⟨_, h2⟩ | ⟨h1, _⟩
      · simp only [view, decide_eq_false_iff_not] at h2
        exact h2 hb
      · exact at_none.1 h1 x hx ex
    · have hv := run_blank (D := D) (V := V) (near := near) h hw
      rw [← hs] at hv
      exact at_none.1 hv.1 x hx ex
  have n2 : (own.map Bn.id ++ (born C R S z cs).map fun c => c.b.id).Nodup := by
    rw [List.nodup_append]
    refine ⟨h.un, hb1, fun a ha b hb e => ?_⟩
    subst e
    obtain ⟨x, hx, ex⟩ := List.mem_map.1 ha
    obtain ⟨c, hc, ec⟩ := List.mem_map.1 hb
    obtain ⟨h1, h2⟩ := List.mem_filter.1 hc
    simp only [Bool.and_eq_true, decide_eq_true_eq] at h2
    have := h.new c h1 h2.1
    rw [ec] at this
    exact at_none.1 this x hx ex
  have := ((List.perm_ext_iff_of_nodup n1 n2).2 key).length_eq
  simpa using this
end Tk
end Go.Proofs.YtljaahemlcaffaaGreat
