/- The document's codec: a list of this kind is taken. Written by wip/tools/gencdrl.py. -/
import Derived.Test.YtdhlebmgeiiejaaGreatKCdTListC
import Derived.Test.YtdhlebmgeiiejaaGreatKCdRef7
import Derived.Test.YtdhlebmgeiiejaaGreatKRL
namespace Go.Proofs.YtdhlebmgeiiejaaGreat
open Go.RowKit Pz Cd
set_option linter.unusedVariables false
set_option linter.unusedSimpArgs false

set_option maxHeartbeats 16000000 in
set_option maxRecDepth 100000 in
theorem rtakelist_c {b : Nat} {w : World} {q : Rr} (most : Int) (h : RQ b w q w) (hq : q.s.length ≤ 900000 ∨ most ≤ 900000) : Calls Tryz.prog 24 #[.pointer (some ⟨b, 0, none⟩), .int .i64 most] w fun e W' => (∃ v, e = .returned v ∧ OwnC W' w.heap.size v (kC.takeL most q).1) ∧ RQ b w (kC.takeL most q).2 W' := by
  have CC := Lib.hid (rcount_any most h)
  have TK : Hid (∀ q' W, RQ b w q' W → Calls Tryz.prog 15 #[.pointer (some ⟨b, 0, none⟩)] W fun e W' => e = .returned (takeC q').1.val ∧ RQ b w (takeC q').2 W' ∧ W.grownBy W' (some b)) := Lib.hid fun q' W hW => (rtakecmd_any hW.rebase).mono fun e W' ⟨h1, h2⟩ => ⟨h1, hW.trans h2, h2.grow⟩
  have hb := h.lt
  have FN2 := Lib.hid (takeL_is (K := kC) most q)
  have hge := count_ge q most
  have hft := count_fit q most
  have hlen := tCount_len q most
  have hcm := count_le q most
  generalize tCount q most = c at *
  obtain ⟨n, q0⟩ := c
  simp only at CC FN2 hge hft hlen hcm
  obtain ⟨N, rfl⟩ := Int.eq_ofNat_of_zero_le hge
  rw [Int.toNat_natCast] at FN2
  have hN : N ≤ 9223372036854775807 := by omega
  clear hft
  replace hq : q0.s.length ≤ 900000 ∨ N ≤ 900000 := by omega
  clear h hlen hge hcm
  generalize kC.takeL most q = RES at *
  go_enter Tryz.func24, Tryz.ntmps24
  go_wp2_with fail
  refine CC.out.mono ?_
  rintro e w1 ⟨rfl, r1, g1⟩
  have HR0 := Lib.hid r1
  clear r1 CC
  have hs1 := g1.size
  clear g1
  go_wp2
  go_loopw [5, 7] (fun v ix wr => ∃ (k : Nat) (acc : List Cn) (qk : Rr), k ≤ N ∧ ix = .int .i64 k ∧ Hid (OwnC wr w.heap.size v acc) ∧ Hid (RQ b w qk wr) ∧ Hid ((qk.bad = false → (acc.length + qk.s.length ≤ 900000 ∨ (acc.length ≤ k ∧ N ≤ 900000))) ∧ kC.takeN N q0 = (acc ++ (kC.takeN (N - k) qk).1, (kC.takeN (N - k) qk).2))) (fun _ ix _ => N - (intOf ix).toNat)
  case atStart => exact ⟨0, [], q0, Nat.zero_le _, rfl, Lib.hid (rw_nil _ _), HR0, Lib.hid ⟨fun _ => by simpa using hq, by rw [Nat.sub_zero, List.nil_append]⟩⟩
  case round =>
    obtain ⟨k, acc, qk, hk, rfl, HO, HR, HI⟩ := hrel
    clear HR0 hq
    obtain ⟨hln, hT⟩ := HI.out
    obtain ⟨bb, hbb⟩ : ∃ x, qk.bad = x := ⟨_, rfl⟩
    have QB : wr.cell? ⟨b, 1, none⟩ = some (.bool bb) := by rw [← hbb]; exact HR.out.rd.c1
    by_cases hkN : k < N
    · have t1 : (k : Int) < (N : Int) := by omega
      cases bb with
      | true =>
        have FIN : Hid (RES = ([], Rr.no)) := Lib.hid (by rw [FN2.out, hT, takeN_isbad hbb]; simp only; rw [if_pos hbb])
        have e2 := rr_no HR.out.ok hbb
        rw [e2] at HR
        clear hT hln HI TK FN2 hbb
        go_wp2
        go_ret
        rw [FIN.out]
        exact ⟨⟨_, rfl, rw_nil _ _⟩, HR.out⟩
      | false =>
        have hok := HR.out.ok
        have hNk : N - k = (N - (k + 1)) + 1 := by omega
        rw [hNk, takeN_go (K := kC) hbb] at hT
        have hcl := taken_len goodC put_ne_c hok
        have hln2 := hln hbb
        have TK1 := Lib.hid (TK.out qk wr HR.out)
        change (takeC qk).2.bad = true ∨ (takeC qk).2.s.length + 1 ≤ qk.s.length at hcl
        change kC.takeN N q0 = (acc ++ ((takeC qk).1 :: (kC.takeN (N - (k + 1)) (takeC qk).2).1), (kC.takeN (N - (k + 1)) (takeC qk).2).2) at hT
        generalize takeC qk = tk at *
        obtain ⟨x, q2⟩ := tk
        simp only at TK1 hcl hT
        clear TK HI hbb hok hln hNk
        have HI2 : Hid ((q2.bad = false → ((acc ++ [x]).length + q2.s.length ≤ 900000 ∨ ((acc ++ [x]).length ≤ k + 1 ∧ N ≤ 900000))) ∧ kC.takeN N q0 = ((acc ++ [x]) ++ (kC.takeN (N - (k + 1)) q2).1, (kC.takeN (N - (k + 1)) q2).2)) := Lib.hid ⟨fun hb2 => by rw [hb2] at hcl; have := hcl.resolve_left (by decide); rw [List.length_append, List.length_singleton]; omega, by rw [hT, List.append_assoc]; rfl⟩
        have AP : Hid (∀ (W : World) (v : Value), OwnC W w.heap.size v acc → w.heap.size ≤ W.heap.size → ∃ v' w', (Builtin.append_ #[50, 50] 50 #[v, .slice (some ⟨W.heap.size, 0, none⟩) 1 1]).run Tryz.prog (W.alloc (.cells #[.int .i64 x.k, .int .i64 x.s, .int .i64 x.i, .int .i64 x.g, .int .i64 x.b.s, .int .i64 x.b.i, .int .i64 x.b.g, .int .i64 x.b.m, .int .i64 x.b.x, .int .i64 x.b.y, .int .i64 x.b.vx, .int .i64 x.b.vy, .int .i64 x.b.h, .int .i64 x.b.p, .int .i64 x.b.l, .int .i64 x.m] 38)) = .ok v' w' ∧ OwnC w' w.heap.size v' (acc ++ [x]) ∧ (W.alloc (.cells #[.int .i64 x.k, .int .i64 x.s, .int .i64 x.i, .int .i64 x.g, .int .i64 x.b.s, .int .i64 x.b.i, .int .i64 x.b.g, .int .i64 x.b.m, .int .i64 x.b.x, .int .i64 x.b.y, .int .i64 x.b.vx, .int .i64 x.b.vy, .int .i64 x.b.h, .int .i64 x.b.p, .int .i64 x.b.l, .int .i64 x.m] 38)).grownBy w' v.ownBlock ∧ (∀ b, v.ownBlock = some b → w.heap.size ≤ b)) := Lib.hid fun W v hO hW => app_c hO hW x (by omega) _
        clear hT hcl hln2 FN2
        go_wp2_with fail
        refine TK1.out.mono ?_
        rintro e w3 ⟨rfl, r3, g3⟩
        have HO3 := HO.out.kept (W' := w3) (fun g hg => g3.block g (by obtain ⟨_, cur, h2⟩ := HO.out.blk hg; exact lt_of_row h2) (by have := (HO.out.blk hg).1; simp; omega))
        obtain ⟨v', w4, hr, ho, hg, hrow⟩ := AP.out w3 _ HO3 r3.grow.size
        have RX4 := Lib.hid (rx_grown (r3.below (bel1 w3 (.cells #[.int .i64 x.k, .int .i64 x.s, .int .i64 x.i, .int .i64 x.g, .int .i64 x.b.s, .int .i64 x.b.i, .int .i64 x.b.g, .int .i64 x.b.m, .int .i64 x.b.x, .int .i64 x.b.y, .int .i64 x.b.vx, .int .i64 x.b.vy, .int .i64 x.b.h, .int .i64 x.b.p, .int .i64 x.b.l, .int .i64 x.m] 38))) hg hrow)
        have HRUN := Lib.hid hr
        have HO4 := Lib.hid ho
        clear hr ho hg hrow HO3 r3 g3 AP TK1 HO HR QB
        obtain ⟨xk, xs, xi, xg, ⟨xbs, xbi, xbg, xbm, xbx, xby, xbvx, xbvy, xbh, xbp, xbl⟩, xm⟩ := x
        simp only [Cn.val] at *
        go_wp2_with (at_builtin; refine wpList_append _ rfl (.tmp 23) (.tmp 26) _ _ rfl _ _ rfl rfl _ _ HRUN.out ?_; clear HRUN)
        go_roundw
        case rel => exact ⟨k + 1, _, q2, by omega, by go_num, HO4, RX4, HI2⟩
        case measure => simp [intOf]; omega
    · obtain rfl : k = N := by omega
      have t1 : ¬ (k : Int) < (k : Int) := by omega
      rw [Nat.sub_self] at hT
      cases bb with
      | true =>
        have FIN : Hid (RES = ([], Rr.no)) := Lib.hid (by rw [FN2.out, hT, takeN_isbad hbb]; simp only; rw [if_pos hbb])
        have e2 := rr_no HR.out.ok hbb
        rw [e2] at HR
        clear hT hln HI TK FN2 hbb
        go_wp2
        go_ret
        rw [FIN.out]
        exact ⟨⟨_, rfl, rw_nil _ _⟩, HR.out⟩
      | false =>
        have FIN : Hid (RES = (acc, qk)) := Lib.hid (by rw [FN2.out, hT]; show (if qk.bad = true then _ else _) = _; rw [hbb, if_neg (by decide)]; show (acc ++ [], qk) = _; rw [List.append_nil])
        clear hT hln HI TK FN2 hbb
        go_wp2
        go_ret
        rw [FIN.out]
        exact ⟨⟨_, rfl, HO.out⟩, HR.out⟩
end Go.Proofs.YtdhlebmgeiiejaaGreat
