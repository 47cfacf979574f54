/- The code's codec: a list of this kind is taken. Written by wip/tools/gencdtl.py. -/
import Derived.Test.YtdhlebmgeiiejaaGreatKCdRow
import Derived.Test.YtdhlebmgeiiejaaGreatKCdTakeB
import Derived.Test.YtdhlebmgeiiejaaGreatKCdFn
import Derived.Test.YtdhlebmgeiiejaaGreatKBase
import Derived.Test.YtdhlebmgeiiejaaGreatKCdTListI
namespace Go.Proofs.YtdhlebmgeiiejaaGreat
open Go.RowKit Go.Shelf Pz Cd
set_option linter.unusedVariables false
set_option linter.unusedSimpArgs false

theorem et_take_b : ∀ args w, (callFunc 12 args).run Tryz.prog w = .ok (.enter 12 args) w := enters_of Tryz.func12 (by kernel_rfl) rfl
theorem put_ne_b (x : Bn) (h : kB.ok x = true) : kB.put x ≠ [] := by
  show putB x ≠ []
  unfold putB
  rw [if_pos (show may x = true from h)]
  intro e
  exact put_ne_id x.id (may_split (show may x = true from h)).1 (List.append_eq_nil_iff.1 e).1
/-- an element more at the end of one's own row -/
theorem app_b {W : World} {B0 : Nat} {v : Value} {l : List Bn} (h : OwnB W B0 v l) (hB : B0 ≤ W.heap.size) (x : Bn) (hn : l.length + 1 ≤ 1000000) (ty : TypeId) :
    ∃ v' w', (Builtin.append_ #[42, 42] ty #[v, .slice (some ⟨W.heap.size, 0, none⟩) 1 1]).run Tryz.prog (W.alloc (.cells #[.int .i64 x.s, .int .i64 x.i, .int .i64 x.g, .int .i64 x.m, .int .i64 x.x, .int .i64 x.y, .int .i64 x.vx, .int .i64 x.vy, .int .i64 x.h, .int .i64 x.p, .int .i64 x.l] 34)) = .ok v' w' ∧ OwnB w' B0 v' (l ++ [x]) ∧ (W.alloc (.cells #[.int .i64 x.s, .int .i64 x.i, .int .i64 x.g, .int .i64 x.m, .int .i64 x.x, .int .i64 x.y, .int .i64 x.vx, .int .i64 x.vy, .int .i64 x.h, .int .i64 x.p, .int .i64 x.l] 34)).grownBy w' v.ownBlock ∧ (∀ b, v.ownBlock = some b → B0 ≤ b) := by
  have hb := bel1 W (.cells #[.int .i64 x.s, .int .i64 x.i, .int .i64 x.g, .int .i64 x.m, .int .i64 x.x, .int .i64 x.y, .int .i64 x.vx, .int .i64 x.vy, .int .i64 x.h, .int .i64 x.p, .int .i64 x.l] 34)
  have ha := at1 W (.cells #[.int .i64 x.s, .int .i64 x.i, .int .i64 x.g, .int .i64 x.m, .int .i64 x.x, .int .i64 x.y, .int .i64 x.vx, .int .i64 x.vy, .int .i64 x.h, .int .i64 x.p, .int .i64 x.l] 34)
  have h2 := h.below hb
  obtain ⟨v', w', hr, ho, hg, _⟩ := h2.app (P := Tryz.prog) (t := 42) (ty := ty) Tryz.underlying42 bundle_info rfl (by decide) bnE_len bnE_one (Nat.le_trans hB hb.size) [x] ⟨W.heap.size, 0, none⟩ 1 (fun j y hj c u hu => by
    have hj0 : j = 0 := by
      have := (List.getElem?_eq_some_iff.1 hj).1
      simp at this
      exact this
    subst hj0
    have hy := Option.some.inj hj
    subst hy
    rw [Addr.add_mid, Nat.zero_mul, Nat.zero_add, Nat.zero_add]
    exact (Bx.cell ha (by simpa [bnE, Bn.row] using hu)).1) (by simpa using hn) (by decide) (.inl (by simp))
  exact ⟨v', w', hr, ho, hg, fun b hb' => (h.blk hb').1⟩
set_option maxHeartbeats 16000000 in
set_option maxRecDepth 100000 in
theorem ctakelist_b {b : Nat} {w : World} {q : Rr} (most : Int) (h : CQ b w q w) (hq : q.s.length ≤ 900000 ∨ most ≤ 900000) : Calls Tryz.prog 20 #[.pointer (some ⟨b, 0, none⟩), .int .i64 most, .func (.func 12) #[] #[]] w fun e W' => (∃ v, e = .returned v ∧ OwnB W' w.heap.size v (kB.takeL most q).1) ∧ CQ b w (kB.takeL most q).2 W' := by
  have EN := et_take_b
  have FN := fun W => fn_take_b 12 W
  have CC := Lib.hid (ctake_count most h)
  have TK : Hid (∀ q' W, CQ b w q' W → Calls Tryz.prog 12 #[.pointer (some ⟨b, 0, none⟩)] W fun e W' => e = .returned (takeB q').1.val ∧ CQ b w (takeB q').2 W' ∧ W.grownBy W' (some b)) := Lib.hid fun q' W hW => (ctake_b hW.rebase).mono fun e W' ⟨h1, h2⟩ => ⟨h1, hW.trans h2, h2.grow⟩
  have LF : Hid (∀ q' W, CQ b w q' W → Calls Tryz.prog 42 #[.pointer (some ⟨b, 0, none⟩)] W fun e W' => e = .returned (.int .i64 (q'.s.length : Int)) ∧ W = W') := Lib.hid fun q' W hW => left_any b q'.s q'.bad W hW.rd
  have BD := Lib.hid fun q' W (hW : CQ b w q' W) => cbad_any hW
  have SP := Lib.hid fun q' W (hW : CQ b w q' W) => cspoil_any hW
  have hb := h.lt
  have FN2 := Lib.hid (takeL_is (K := kB) most q)
  have hge := count_ge q most
  have hft := count_fit q most
  have hpos := count_pos q most h.ok
  have hlen := tCount_len q most
  have hcm := count_le q most
  generalize tCount q most = c at *
  obtain ⟨n, q0⟩ := c
  simp only at CC FN2 hge hft hpos hlen hcm
  obtain ⟨N, rfl⟩ := Int.eq_ofNat_of_zero_le hge
  rw [Int.toNat_natCast] at FN2
  have hN : N ≤ 9223372036854775807 := by omega
  clear hft
  replace hq : q0.s.length ≤ 900000 ∨ N ≤ 900000 := by omega
  replace hpos := Lib.hid hpos
  clear h hlen hge hcm
  generalize kB.takeL most q = RES at *
  go_enter Tryz.func20, Tryz.ntmps20
  go_wp2_with fail
  refine CC.out.mono ?_
  rintro e w1 ⟨rfl, r1, g1⟩
  have HR0 := Lib.hid r1
  clear r1 CC
  have hs1 := g1.size
  clear g1
  go_wp2
  go_loopw [7, 11] (fun v ix wr => ∃ (k : Nat) (acc : List Bn) (qk : Rr), k ≤ N ∧ ix = .int .i64 k ∧ Hid (OwnB wr w.heap.size v acc) ∧ Hid (CQ b w qk wr) ∧ Hid ((k < N → qk.bad = false) ∧ (0 < k → qk.bad = false) ∧ (acc.length + qk.s.length ≤ 900000 ∨ (acc.length ≤ k ∧ N ≤ 900000)) ∧ (k = 0 → acc = []) ∧ kB.takeN N q0 = (acc ++ (kB.takeN (N - k) qk).1, (kB.takeN (N - k) qk).2))) (fun _ ix _ => N - (intOf ix).toNat)
  case atStart => exact ⟨0, [], q0, Nat.zero_le _, rfl, Lib.hid (rw_nil _ _), HR0, Lib.hid ⟨fun hk => hpos.out (by omega), fun hk => absurd hk (by decide), by simpa using hq, fun _ => rfl, by rw [Nat.sub_zero, List.nil_append]⟩⟩
  case round =>
    obtain ⟨k, acc, qk, hk, rfl, HO, HR, HI⟩ := hrel
    clear HR0 hpos hq
    by_cases hkN : k < N
    · have t1 : (k : Int) < (N : Int) := by omega
      obtain ⟨hb1, hb2, hln, hz, hT⟩ := HI.out
      have hqb := hb1 hkN
      have hok := HR.out.ok
      have hNk : N - k = (N - (k + 1)) + 1 := by omega
      rw [hNk] at hT
      have LF1 := Lib.hid (LF.out qk wr HR.out)
      clear LF hNk hb1 hb2
      cases hs : qk.s with
      | nil =>
        have hno := takeN_bad (K := kB) (n := N - (k + 1)) hqb (take_nil goodB put_ne_b hok hs)
        have FIN : Hid (RES = ([], Rr.no)) := Lib.hid (by rw [FN2.out, hT]; simp only; rw [hno]; rfl)
        rw [hs] at LF1
        have SP1 := Lib.hid (SP.out qk wr HR.out)
        clear hno hT hs HI TK BD SP FN2 HO hz hln hok hqb
        go_wp2_with (first
          | (go_at_call 42; refine LF1.out.mono ?_; rintro e w2 ⟨rfl, rfl⟩)
          | (go_at_call 61; refine SP1.out.mono ?_; rintro e w3 ⟨rfl, r3, g3⟩))
        go_ret
        rw [FIN.out]
        exact ⟨⟨_, rfl, rw_nil _ _⟩, r3⟩
      | cons c0 t0 =>
        obtain ⟨m, hm⟩ : ∃ m : Int, m = (qk.s.length : Int) := ⟨_, rfl⟩
        have t2 : ((m : Int) == 0) = false := by rw [hm, hs]; simp; omega
        rw [← hm] at LF1
        have hq2 : qk.s.length ≥ 1 := by rw [hs]; simp
        clear hm hs
        rw [takeN_go (K := kB) hqb] at hT
        have hcl := taken_len goodB put_ne_b hok
        have hok2 := goodB.ok' qk hok
        have TK1 := Lib.hid (TK.out qk wr HR.out)
        change (takeB qk).2.bad = true ∨ (takeB qk).2.s.length + 1 ≤ qk.s.length at hcl
        change (takeB qk).2.Ok at hok2
        change kB.takeN N q0 = (acc ++ ((takeB qk).1 :: (kB.takeN (N - (k + 1)) (takeB qk).2).1), (kB.takeN (N - (k + 1)) (takeB qk).2).2) at hT
        generalize takeB qk = tk at *
        obtain ⟨x, q2⟩ := tk
        simp only at TK1 hcl hok2 hT
        have BD1 := Lib.hid fun W (hW : CQ b w q2 W) => BD.out q2 W hW
        clear TK BD SP HI hqb hok
        replace hT := Lib.hid hT
        obtain ⟨bb, hbb⟩ : ∃ x, q2.bad = x := ⟨_, rfl⟩
        rw [hbb] at BD1 hcl
        replace hbb := Lib.hid hbb
        have AP : Hid (∀ (W : World) (v : Value), OwnB W w.heap.size v acc → w.heap.size ≤ W.heap.size → ∃ v' w', (Builtin.append_ #[42, 42] 42 #[v, .slice (some ⟨W.heap.size, 0, none⟩) 1 1]).run Tryz.prog (W.alloc (.cells #[.int .i64 x.s, .int .i64 x.i, .int .i64 x.g, .int .i64 x.m, .int .i64 x.x, .int .i64 x.y, .int .i64 x.vx, .int .i64 x.vy, .int .i64 x.h, .int .i64 x.p, .int .i64 x.l] 34)) = .ok v' w' ∧ OwnB w' w.heap.size v' (acc ++ [x]) ∧ (W.alloc (.cells #[.int .i64 x.s, .int .i64 x.i, .int .i64 x.g, .int .i64 x.m, .int .i64 x.x, .int .i64 x.y, .int .i64 x.vx, .int .i64 x.vy, .int .i64 x.h, .int .i64 x.p, .int .i64 x.l] 34)).grownBy w' v.ownBlock ∧ (∀ b, v.ownBlock = some b → w.heap.size ≤ b)) := Lib.hid fun W v hO hW => app_b hO hW x (by omega) _
        go_upto_region 7 with (go_at_call 42; refine LF1.out.mono ?_; rintro e w2 ⟨rfl, rfl⟩)
        clear LF1 t2
        go_wp2_with fail
        refine TK1.out.mono ?_
        rintro e w3 ⟨rfl, r3, g3⟩
        have HO3 := HO.out.kept (W' := w3) (fun g hg => g3.block g (by obtain ⟨_, cur, h2⟩ := HO.out.blk hg; exact lt_of_row h2) (by have := (HO.out.blk hg).1; simp; omega))
        obtain ⟨v', w4, hr, ho, hg, hrow⟩ := AP.out w3 _ HO3 r3.grow.size
        have RX4 := Lib.hid (rx_grown (r3.below (bel1 w3 (.cells #[.int .i64 x.s, .int .i64 x.i, .int .i64 x.g, .int .i64 x.m, .int .i64 x.x, .int .i64 x.y, .int .i64 x.vx, .int .i64 x.vy, .int .i64 x.h, .int .i64 x.p, .int .i64 x.l] 34))) hg hrow)
        have HRUN := Lib.hid hr
        have HO4 := Lib.hid ho
        clear hr ho hg hrow HO3 r3 g3 AP TK1 HO HR
        obtain ⟨xs, xi, xg, xm, xx, xy, xvx, xvy, xh, xp, xl⟩ := x
        simp only [Bn.val] at *
        go_upto_region 8 with (at_builtin; refine wpList_append _ rfl (.tmp 22) (.tmp 26) _ _ rfl _ _ rfl rfl _ _ HRUN.out ?_; clear HRUN)
        have BD2 := Lib.hid (BD1.out _ RX4.out)
        clear BD1
        cases bb with
        | true =>
          have e2 := rr_no hok2 hbb.out
          have FIN : Hid (RES = ([], Rr.no)) := Lib.hid (by rw [FN2.out, hT.out]; simp only; rw [e2, takeN_no]; rfl)
          rw [e2] at RX4
          clear e2 hT FN2
          go_wp2_with (go_at_call 62; refine BD2.out.mono ?_; rintro e w5 ⟨rfl, rfl⟩)
          go_ret
          rw [FIN.out]
          exact ⟨⟨_, rfl, rw_nil _ _⟩, RX4.out⟩
        | false =>
          have hcl2 := hcl.resolve_left (by decide)
          have HI2 : Hid ((k + 1 < N → q2.bad = false) ∧ (0 < k + 1 → q2.bad = false) ∧ ((acc ++ [(⟨xs, xi, xg, xm, xx, xy, xvx, xvy, xh, xp, xl⟩ : Bn)]).length + q2.s.length ≤ 900000 ∨ ((acc ++ [(⟨xs, xi, xg, xm, xx, xy, xvx, xvy, xh, xp, xl⟩ : Bn)]).length ≤ k + 1 ∧ N ≤ 900000)) ∧ (k + 1 = 0 → acc ++ [(⟨xs, xi, xg, xm, xx, xy, xvx, xvy, xh, xp, xl⟩ : Bn)] = []) ∧ kB.takeN N q0 = ((acc ++ [(⟨xs, xi, xg, xm, xx, xy, xvx, xvy, xh, xp, xl⟩ : Bn)]) ++ (kB.takeN (N - (k + 1)) q2).1, (kB.takeN (N - (k + 1)) q2).2)) := Lib.hid ⟨fun _ => hbb.out, fun _ => hbb.out, by rw [List.length_append, List.length_singleton]; omega, fun e => by omega, by rw [hT.out, List.append_assoc]; rfl⟩
          clear hT FN2 hcl hcl2 hln hz
          go_wp2_with (go_at_call 62; refine BD2.out.mono ?_; rintro e w5 ⟨rfl, rfl⟩)
          go_roundw
          case rel => exact ⟨k + 1, _, q2, by omega, by go_num, HO4, RX4, HI2⟩
          case measure => simp [intOf]; omega
    · obtain rfl : k = N := by omega
      have t1 : ¬ (k : Int) < (k : Int) := by omega
      obtain ⟨_, hb2, hln, hz, hT⟩ := HI.out
      have FIN : Hid (RES = (acc, qk)) := Lib.hid (by
        rw [FN2.out, hT, Nat.sub_self]
        show (if qk.bad = true then _ else _) = _
        cases hqb : qk.bad with
        | false =>
          rw [if_neg (by decide)]
          show (acc ++ [], qk) = _
          rw [List.append_nil]
        | true =>
          rw [if_pos rfl]
          have h0 : k = 0 := by
            rcases Nat.eq_zero_or_pos k with e | e
            · exact e
            · rw [hb2 e] at hqb; cases hqb
          rw [hz h0, rr_no HR.out.ok hqb])
      clear hT hb2 hln hz HI FN2 TK LF BD SP
      go_wp2
      go_ret
      rw [FIN.out]
      exact ⟨⟨_, rfl, HO.out⟩, HR.out⟩
end Go.Proofs.YtdhlebmgeiiejaaGreat
