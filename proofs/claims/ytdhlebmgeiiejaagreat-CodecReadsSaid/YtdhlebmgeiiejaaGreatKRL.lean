/- CdRLI, CdRLB, in one text. -/
import Derived.Test.YtdhlebmgeiiejaaGreatKCdTListI
import Derived.Test.YtdhlebmgeiiejaaGreatKCdRef4
import Derived.Test.YtdhlebmgeiiejaaGreatKCdTListB
import Derived.Test.YtdhlebmgeiiejaaGreatKCdRef6
namespace Go.Proofs.YtdhlebmgeiiejaaGreat
open Go.RowKit Pz Cd
set_option linter.unusedVariables false
set_option linter.unusedSimpArgs false

theorem Cd.takeN_isbad {α : Type} {K : Kind α} {q : Rr} (hq : q.bad = true) : ∀ n, K.takeN n q = ([], q)
  | 0 => rfl
  | n + 1 => by
    unfold Kind.takeN
    rw [if_pos hq]
set_option maxHeartbeats 8000000 in
theorem rcount_any {b : Nat} {w W : World} {q : Rr} (most : Int) (h : RQ b w q W) : Calls Tryz.prog 63 #[.pointer (some ⟨b, 0, none⟩), .int .i64 most] W fun e W' => e = .returned (.int .i64 (tCount q most).1) ∧ RQ b w (tCount q most).2 W' ∧ W.grownBy W' (some b) := by
  have CI := Lib.hid (rtake_int h)
  have HT : tCount q most = if (tInt q).1 < 0 ∨ most < (tInt q).1 then (0, Rr.no) else tInt q := rfl
  rw [HT]
  clear HT
  generalize tInt q = p at *
  obtain ⟨n, q1⟩ := p
  simp only at CI ⊢
  have BAD := Lib.hid fun W' (hW : RQ b w q1 W') => rbad_any hW
  by_cases h1 : n < 0
  · have z1 : decide (n < 0) = true := by simpa using h1
    rw [if_pos (.inl h1)]
    clear h1
    go_enter Tryz.func63, Tryz.ntmps63
    go_wp2_with fail
    refine CI.out.mono ?_
    rintro e w1 ⟨rfl, r1, g1⟩
    go_wp2_with fail
    refine (BAD.out _ r1).mono ?_
    rintro e w2 ⟨rfl, r2, g2⟩
    go_wp2
    go_ret
    exact ⟨rfl, r2, gtrans g1 g2⟩
  · have z1 : decide (n < 0) = false := by simpa using h1
    by_cases h2 : most < n
    · have z2 : decide (n > most) = true := by simpa using h2
      rw [if_pos (.inr h2)]
      clear h1 h2
      go_enter Tryz.func63, Tryz.ntmps63
      go_wp2_with fail
      refine CI.out.mono ?_
      rintro e w1 ⟨rfl, r1, g1⟩
      go_wp2_with fail
      refine (BAD.out _ r1).mono ?_
      rintro e w2 ⟨rfl, r2, g2⟩
      go_wp2
      go_ret
      exact ⟨rfl, r2, gtrans g1 g2⟩
    · have z2 : decide (n > most) = false := by simpa using h2
      rw [if_neg (by omega)]
      clear h1 h2
      go_enter Tryz.func63, Tryz.ntmps63
      go_wp2_with fail
      refine CI.out.mono ?_
      rintro e w1 ⟨rfl, r1, g1⟩
      go_wp2
      go_ret
      exact ⟨rfl, r1, g1⟩
set_option maxHeartbeats 16000000 in
set_option maxRecDepth 100000 in
theorem rtakelist_id {b : Nat} {w : World} {q : Rr} (most : Int) (h : RQ b w q w) (hq : q.s.length ≤ 900000 ∨ most ≤ 900000) : Calls Tryz.prog 27 #[.pointer (some ⟨b, 0, none⟩), .int .i64 most] w fun e W' => (∃ v, e = .returned v ∧ OwnN W' w.heap.size v (kID.takeL most q).1) ∧ RQ b w (kID.takeL most q).2 W' := by
  have CC := Lib.hid (rcount_any most h)
  have TK : Hid (∀ q' W, RQ b w q' W → Calls Tryz.prog 10 #[.pointer (some ⟨b, 0, none⟩)] W fun e W' => e = .returned (.agg #[.int .i64 (takeID q').1.1, .int .i64 (takeID q').1.2.1, .int .i64 (takeID q').1.2.2]) ∧ RQ b w (takeID q').2 W' ∧ W.grownBy W' (some b)) := Lib.hid fun q' W hW => (rtakeid_any hW.rebase).mono fun e W' ⟨h1, h2⟩ => ⟨h1, hW.trans h2, h2.grow⟩
  have hb := h.lt
  have FN2 := Lib.hid (takeL_is (K := kID) most q)
  have hge := count_ge q most
  have hft := count_fit q most
  have hlen := tCount_len q most
  have hcm := count_le q most
  generalize tCount q most = c at *
  obtain ⟨n, q0⟩ := c
  simp only at CC FN2 hge hft hlen hcm
  obtain ⟨N, rfl⟩ := Int.eq_ofNat_of_zero_le hge
  rw [Int.toNat_natCast] at FN2
  have hN : N ≤ 9223372036854775807 := by omega
  clear hft
  replace hq : q0.s.length ≤ 900000 ∨ N ≤ 900000 := by omega
  clear h hlen hge hcm
  generalize kID.takeL most q = RES at *
  go_enter Tryz.func27, Tryz.ntmps27
  go_wp2_with fail
  refine CC.out.mono ?_
  rintro e w1 ⟨rfl, r1, g1⟩
  have HR0 := Lib.hid r1
  clear r1 CC
  have hs1 := g1.size
  clear g1
  go_wp2
  go_loopw [5, 7] (fun v ix wr => ∃ (k : Nat) (acc : List NKy) (qk : Rr), k ≤ N ∧ ix = .int .i64 k ∧ Hid (OwnN wr w.heap.size v acc) ∧ Hid (RQ b w qk wr) ∧ Hid ((qk.bad = false → (acc.length + qk.s.length ≤ 900000 ∨ (acc.length ≤ k ∧ N ≤ 900000))) ∧ kID.takeN N q0 = (acc ++ (kID.takeN (N - k) qk).1, (kID.takeN (N - k) qk).2))) (fun _ ix _ => N - (intOf ix).toNat)
  case atStart => exact ⟨0, [], q0, Nat.zero_le _, rfl, Lib.hid (rw_nil _ _), HR0, Lib.hid ⟨fun _ => by simpa using hq, by rw [Nat.sub_zero, List.nil_append]⟩⟩
  case round =>
    obtain ⟨k, acc, qk, hk, rfl, HO, HR, HI⟩ := hrel
    clear HR0 hq
    obtain ⟨hln, hT⟩ := HI.out
    obtain ⟨bb, hbb⟩ : ∃ x, qk.bad = x := ⟨_, rfl⟩
    have QB : wr.cell? ⟨b, 1, none⟩ = some (.bool bb) := by rw [← hbb]; exact HR.out.rd.c1
    by_cases hkN : k < N
    · have t1 : (k : Int) < (N : Int) := by omega
      cases bb with
      | true =>
        have FIN : Hid (RES = ([], Rr.no)) := Lib.hid (by rw [FN2.out, hT, takeN_isbad hbb]; simp only; rw [if_pos hbb])
        have e2 := rr_no HR.out.ok hbb
        rw [e2] at HR
        clear hT hln HI TK FN2 hbb
        go_wp2
        go_ret
        rw [FIN.out]
        exact ⟨⟨_, rfl, rw_nil _ _⟩, HR.out⟩
      | false =>
        have hok := HR.out.ok
        have hNk : N - k = (N - (k + 1)) + 1 := by omega
        rw [hNk, takeN_go (K := kID) hbb] at hT
        have hcl := taken_len goodID put_ne_id hok
        have hln2 := hln hbb
        have TK1 := Lib.hid (TK.out qk wr HR.out)
        change (takeID qk).2.bad = true ∨ (takeID qk).2.s.length + 1 ≤ qk.s.length at hcl
        change kID.takeN N q0 = (acc ++ ((takeID qk).1 :: (kID.takeN (N - (k + 1)) (takeID qk).2).1), (kID.takeN (N - (k + 1)) (takeID qk).2).2) at hT
        generalize takeID qk = tk at *
        obtain ⟨x, q2⟩ := tk
        simp only at TK1 hcl hT
        clear TK HI hbb hok hln hNk
        have HI2 : Hid ((q2.bad = false → ((acc ++ [x]).length + q2.s.length ≤ 900000 ∨ ((acc ++ [x]).length ≤ k + 1 ∧ N ≤ 900000))) ∧ kID.takeN N q0 = ((acc ++ [x]) ++ (kID.takeN (N - (k + 1)) q2).1, (kID.takeN (N - (k + 1)) q2).2)) := Lib.hid ⟨fun hb2 => by rw [hb2] at hcl; have := hcl.resolve_left (by decide); rw [List.length_append, List.length_singleton]; omega, by rw [hT, List.append_assoc]; rfl⟩
        have AP : Hid (∀ (W : World) (v : Value), OwnN W w.heap.size v acc → w.heap.size ≤ W.heap.size → ∃ v' w', (Builtin.append_ #[54, 54] 54 #[v, .slice (some ⟨W.heap.size, 0, none⟩) 1 1]).run Tryz.prog (W.alloc (.cells #[.int .i64 x.1, .int .i64 x.2.1, .int .i64 x.2.2] 29)) = .ok v' w' ∧ OwnN w' w.heap.size v' (acc ++ [x]) ∧ (W.alloc (.cells #[.int .i64 x.1, .int .i64 x.2.1, .int .i64 x.2.2] 29)).grownBy w' v.ownBlock ∧ (∀ b, v.ownBlock = some b → w.heap.size ≤ b)) := Lib.hid fun W v hO hW => app_id hO hW x (by omega) _
        clear hT hcl hln2 FN2
        go_wp2_with fail
        refine TK1.out.mono ?_
        rintro e w3 ⟨rfl, r3, g3⟩
        have HO3 := HO.out.kept (W' := w3) (fun g hg => g3.block g (by obtain ⟨_, cur, h2⟩ := HO.out.blk hg; exact lt_of_row h2) (by have := (HO.out.blk hg).1; simp; omega))
        obtain ⟨v', w4, hr, ho, hg, hrow⟩ := AP.out w3 _ HO3 r3.grow.size
        have RX4 := Lib.hid (rx_grown (r3.below (bel1 w3 (.cells #[.int .i64 x.1, .int .i64 x.2.1, .int .i64 x.2.2] 29))) hg hrow)
        have HRUN := Lib.hid hr
        have HO4 := Lib.hid ho
        clear hr ho hg hrow HO3 r3 g3 AP TK1 HO HR QB
        obtain ⟨x0, x1, x2⟩ := x
        go_wp2_with (at_builtin; refine wpList_append _ rfl (.tmp 23) (.tmp 26) _ _ rfl _ _ rfl rfl _ _ HRUN.out ?_; clear HRUN)
        go_roundw
        case rel => exact ⟨k + 1, _, q2, by omega, by go_num, HO4, RX4, HI2⟩
        case measure => simp [intOf]; omega
    · obtain rfl : k = N := by omega
      have t1 : ¬ (k : Int) < (k : Int) := by omega
      rw [Nat.sub_self] at hT
      cases bb with
      | true =>
        have FIN : Hid (RES = ([], Rr.no)) := Lib.hid (by rw [FN2.out, hT, takeN_isbad hbb]; simp only; rw [if_pos hbb])
        have e2 := rr_no HR.out.ok hbb
        rw [e2] at HR
        clear hT hln HI TK FN2 hbb
        go_wp2
        go_ret
        rw [FIN.out]
        exact ⟨⟨_, rfl, rw_nil _ _⟩, HR.out⟩
      | false =>
        have FIN : Hid (RES = (acc, qk)) := Lib.hid (by rw [FN2.out, hT]; show (if qk.bad = true then _ else _) = _; rw [hbb, if_neg (by decide)]; show (acc ++ [], qk) = _; rw [List.append_nil])
        clear hT hln HI TK FN2 hbb
        go_wp2
        go_ret
        rw [FIN.out]
        exact ⟨⟨_, rfl, HO.out⟩, HR.out⟩
end Go.Proofs.YtdhlebmgeiiejaaGreat
namespace Go.Proofs.YtdhlebmgeiiejaaGreat
open Go.RowKit Pz Cd
set_option linter.unusedVariables false
set_option linter.unusedSimpArgs false

set_option maxHeartbeats 16000000 in
set_option maxRecDepth 100000 in
theorem rtakelist_b {b : Nat} {w : World} {q : Rr} (most : Int) (h : RQ b w q w) (hq : q.s.length ≤ 900000 ∨ most ≤ 900000) : Calls Tryz.prog 21 #[.pointer (some ⟨b, 0, none⟩), .int .i64 most] w fun e W' => (∃ v, e = .returned v ∧ OwnB W' w.heap.size v (kB.takeL most q).1) ∧ RQ b w (kB.takeL most q).2 W' := by
  have CC := Lib.hid (rcount_any most h)
  have TK : Hid (∀ q' W, RQ b w q' W → Calls Tryz.prog 13 #[.pointer (some ⟨b, 0, none⟩)] W fun e W' => e = .returned (takeB q').1.val ∧ RQ b w (takeB q').2 W' ∧ W.grownBy W' (some b)) := Lib.hid fun q' W hW => (rtakebundle_any hW.rebase).mono fun e W' ⟨h1, h2⟩ => ⟨h1, hW.trans h2, h2.grow⟩
  have hb := h.lt
  have FN2 := Lib.hid (takeL_is (K := kB) most q)
  have hge := count_ge q most
  have hft := count_fit q most
  have hlen := tCount_len q most
  have hcm := count_le q most
  generalize tCount q most = c at *
  obtain ⟨n, q0⟩ := c
  simp only at CC FN2 hge hft hlen hcm
  obtain ⟨N, rfl⟩ := Int.eq_ofNat_of_zero_le hge
  rw [Int.toNat_natCast] at FN2
  have hN : N ≤ 9223372036854775807 := by omega
  clear hft
  replace hq : q0.s.length ≤ 900000 ∨ N ≤ 900000 := by omega
  clear h hlen hge hcm
  generalize kB.takeL most q = RES at *
  go_enter Tryz.func21, Tryz.ntmps21
  go_wp2_with fail
  refine CC.out.mono ?_
  rintro e w1 ⟨rfl, r1, g1⟩
  have HR0 := Lib.hid r1
  clear r1 CC
  have hs1 := g1.size
  clear g1
  go_wp2
  go_loopw [5, 7] (fun v ix wr => ∃ (k : Nat) (acc : List Bn) (qk : Rr), k ≤ N ∧ ix = .int .i64 k ∧ Hid (OwnB wr w.heap.size v acc) ∧ Hid (RQ b w qk wr) ∧ Hid ((qk.bad = false → (acc.length + qk.s.length ≤ 900000 ∨ (acc.length ≤ k ∧ N ≤ 900000))) ∧ kB.takeN N q0 = (acc ++ (kB.takeN (N - k) qk).1, (kB.takeN (N - k) qk).2))) (fun _ ix _ => N - (intOf ix).toNat)
  case atStart => exact ⟨0, [], q0, Nat.zero_le _, rfl, Lib.hid (rw_nil _ _), HR0, Lib.hid ⟨fun _ => by simpa using hq, by rw [Nat.sub_zero, List.nil_append]⟩⟩
  case round =>
    obtain ⟨k, acc, qk, hk, rfl, HO, HR, HI⟩ := hrel
    clear HR0 hq
    obtain ⟨hln, hT⟩ := HI.out
    obtain ⟨bb, hbb⟩ : ∃ x, qk.bad = x := ⟨_, rfl⟩
    have QB : wr.cell? ⟨b, 1, none⟩ = some (.bool bb) := by rw [← hbb]; exact HR.out.rd.c1
    by_cases hkN : k < N
    · have t1 : (k : Int) < (N : Int) := by omega
      cases bb with
      | true =>
        have FIN : Hid (RES = ([], Rr.no)) := Lib.hid (by rw [FN2.out, hT, takeN_isbad hbb]; simp only; rw [if_pos hbb])
        have e2 := rr_no HR.out.ok hbb
        rw [e2] at HR
        clear hT hln HI TK FN2 hbb
        go_wp2
        go_ret
        rw [FIN.out]
        exact ⟨⟨_, rfl, rw_nil _ _⟩, HR.out⟩
      | false =>
        have hok := HR.out.ok
        have hNk : N - k = (N - (k + 1)) + 1 := by omega
        rw [hNk, takeN_go (K := kB) hbb] at hT
        have hcl := taken_len goodB put_ne_b hok
        have hln2 := hln hbb
        have TK1 := Lib.hid (TK.out qk wr HR.out)
        change (takeB qk).2.bad = true ∨ (takeB qk).2.s.length + 1 ≤ qk.s.length at hcl
        change kB.takeN N q0 = (acc ++ ((takeB qk).1 :: (kB.takeN (N - (k + 1)) (takeB qk).2).1), (kB.takeN (N - (k + 1)) (takeB qk).2).2) at hT
        generalize takeB qk = tk at *
        obtain ⟨x, q2⟩ := tk
        simp only at TK1 hcl hT
        clear TK HI hbb hok hln hNk
        have HI2 : Hid ((q2.bad = false → ((acc ++ [x]).length + q2.s.length ≤ 900000 ∨ ((acc ++ [x]).length ≤ k + 1 ∧ N ≤ 900000))) ∧ kB.takeN N q0 = ((acc ++ [x]) ++ (kB.takeN (N - (k + 1)) q2).1, (kB.takeN (N - (k + 1)) q2).2)) := Lib.hid ⟨fun hb2 => by rw [hb2] at hcl; have := hcl.resolve_left (by decide); rw [List.length_append, List.length_singleton]; omega, by rw [hT, List.append_assoc]; rfl⟩
        have AP : Hid (∀ (W : World) (v : Value), OwnB W w.heap.size v acc → w.heap.size ≤ W.heap.size → ∃ v' w', (Builtin.append_ #[42, 42] 42 #[v, .slice (some ⟨W.heap.size, 0, none⟩) 1 1]).run Tryz.prog (W.alloc (.cells #[.int .i64 x.s, .int .i64 x.i, .int .i64 x.g, .int .i64 x.m, .int .i64 x.x, .int .i64 x.y, .int .i64 x.vx, .int .i64 x.vy, .int .i64 x.h, .int .i64 x.p, .int .i64 x.l] 34)) = .ok v' w' ∧ OwnB w' w.heap.size v' (acc ++ [x]) ∧ (W.alloc (.cells #[.int .i64 x.s, .int .i64 x.i, .int .i64 x.g, .int .i64 x.m, .int .i64 x.x, .int .i64 x.y, .int .i64 x.vx, .int .i64 x.vy, .int .i64 x.h, .int .i64 x.p, .int .i64 x.l] 34)).grownBy w' v.ownBlock ∧ (∀ b, v.ownBlock = some b → w.heap.size ≤ b)) := Lib.hid fun W v hO hW => app_b hO hW x (by omega) _
        clear hT hcl hln2 FN2
        go_wp2_with fail
        refine TK1.out.mono ?_
        rintro e w3 ⟨rfl, r3, g3⟩
        have HO3 := HO.out.kept (W' := w3) (fun g hg => g3.block g (by obtain ⟨_, cur, h2⟩ := HO.out.blk hg; exact lt_of_row h2) (by have := (HO.out.blk hg).1; simp; omega))
        obtain ⟨v', w4, hr, ho, hg, hrow⟩ := AP.out w3 _ HO3 r3.grow.size
        have RX4 := Lib.hid (rx_grown (r3.below (bel1 w3 (.cells #[.int .i64 x.s, .int .i64 x.i, .int .i64 x.g, .int .i64 x.m, .int .i64 x.x, .int .i64 x.y, .int .i64 x.vx, .int .i64 x.vy, .int .i64 x.h, .int .i64 x.p, .int .i64 x.l] 34))) hg hrow)
        have HRUN := Lib.hid hr
        have HO4 := Lib.hid ho
        clear hr ho hg hrow HO3 r3 g3 AP TK1 HO HR QB
        obtain ⟨xs, xi, xg, xm, xx, xy, xvx, xvy, xh, xp, xl⟩ := x
        simp only [Bn.val] at *
        go_wp2_with (at_builtin; refine wpList_append _ rfl (.tmp 23) (.tmp 26) _ _ rfl _ _ rfl rfl _ _ HRUN.out ?_; clear HRUN)
        go_roundw
        case rel => exact ⟨k + 1, _, q2, by omega, by go_num, HO4, RX4, HI2⟩
        case measure => simp [intOf]; omega
    · obtain rfl : k = N := by omega
      have t1 : ¬ (k : Int) < (k : Int) := by omega
      rw [Nat.sub_self] at hT
      cases bb with
      | true =>
        have FIN : Hid (RES = ([], Rr.no)) := Lib.hid (by rw [FN2.out, hT, takeN_isbad hbb]; simp only; rw [if_pos hbb])
        have e2 := rr_no HR.out.ok hbb
        rw [e2] at HR
        clear hT hln HI TK FN2 hbb
        go_wp2
        go_ret
        rw [FIN.out]
        exact ⟨⟨_, rfl, rw_nil _ _⟩, HR.out⟩
      | false =>
        have FIN : Hid (RES = (acc, qk)) := Lib.hid (by rw [FN2.out, hT]; show (if qk.bad = true then _ else _) = _; rw [hbb, if_neg (by decide)]; show (acc ++ [], qk) = _; rw [List.append_nil])
        clear hT hln HI TK FN2 hbb
        go_wp2
        go_ret
        rw [FIN.out]
        exact ⟨⟨_, rfl, HO.out⟩, HR.out⟩
end Go.Proofs.YtdhlebmgeiiejaaGreat
