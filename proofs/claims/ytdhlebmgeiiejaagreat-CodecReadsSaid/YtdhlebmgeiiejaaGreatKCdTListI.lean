/- The code's codec: a list of this kind is taken. Written by wip/tools/gencdtl.py. -/
import Derived.Test.YtdhlebmgeiiejaaGreatKCdRow
import Derived.Test.YtdhlebmgeiiejaaGreatKCdTakeI
import Derived.Test.YtdhlebmgeiiejaaGreatKCdFn
import Derived.Test.YtdhlebmgeiiejaaGreatKBase
namespace Go.Proofs.YtdhlebmgeiiejaaGreat
open Go.RowKit Go.Shelf Pz Cd
set_option linter.unusedVariables false
set_option linter.unusedSimpArgs false

namespace Cd
variable {α : Type} {K : Kind α}
theorem takeL_is (most : Int) (q : Rr) : K.takeL most q = if (K.takeN (tCount q most).1.toNat (tCount q most).2).2.bad then ([], Rr.no) else K.takeN (tCount q most).1.toNat (tCount q most).2 := by
  unfold Kind.takeL tCount
  simp only
  by_cases h : (tInt q).1 < 0 ∨ most < (tInt q).1
  · rw [if_pos h, if_pos h]
    rfl
  · rw [if_neg h, if_neg h]
theorem takeN_no : ∀ n, K.takeN n Rr.no = ([], Rr.no)
  | 0 => rfl
  | n + 1 => rfl
theorem takeN_bad {n : Nat} {q : Rr} (hq : q.bad = false) (hb : (K.take q).2 = Rr.no) : (K.takeN (n + 1) q).2 = Rr.no := by
  unfold Kind.takeN
  rw [if_neg (by rw [hq]; decide), hb, takeN_no]
theorem takeN_go {n : Nat} {q : Rr} (hq : q.bad = false) : K.takeN (n + 1) q = ((K.take q).1 :: (K.takeN n (K.take q).2).1, (K.takeN n (K.take q).2).2) := by
  conv => lhs; unfold Kind.takeN
  rw [if_neg (by rw [hq]; decide)]
theorem take_nil (h : K.Good) (hne : ∀ x, K.ok x = true → K.put x ≠ []) {q : Rr} (hq : q.Ok) (hs : q.s = []) : (K.take q).2 = Rr.no := by
  rcases h.only q hq with e | ⟨_, _, ho, e⟩
  · rw [e]
  · rw [hs] at e
    exact absurd (List.append_eq_nil_iff.1 e.symm).1 (hne _ ho)
theorem taken_len (h : K.Good) (hne : ∀ x, K.ok x = true → K.put x ≠ []) {q : Rr} (hq : q.Ok) : (K.take q).2.bad = true ∨ (K.take q).2.s.length + 1 ≤ q.s.length := by
  rcases h.only q hq with e | ⟨_, _, ho, e⟩
  · exact .inl (by rw [e])
  · refine .inr ?_
    have := List.length_pos_iff.2 (hne _ ho)
    rw [e, List.length_append]
    omega
theorem count_pos (q : Rr) (most : Int) (h : q.Ok) (hn : 0 < (tCount q most).1) : (tCount q most).2.bad = false := by
  unfold tCount at hn ⊢
  split at hn
  · rename_i hc
    exact absurd hn (by decide)
  · rename_i hc
    rw [if_neg hc]
    rcases tInt_only q h with e | ⟨_, e, _⟩
    · rw [e] at hn; exact absurd hn (by decide)
    · exact e
theorem count_fit (q : Rr) (most : Int) : (tCount q most).1 ≤ 9223372036854775807 := by
  unfold tCount
  split
  · show (0 : Int) ≤ _; decide
  · exact (tInt_fit q).2
theorem count_le (q : Rr) (most : Int) : (tCount q most).1 ≤ most ∨ (tCount q most).1 = 0 := by
  unfold tCount
  split
  · exact .inr rfl
  · exact .inl (by omega)
theorem count_ge (q : Rr) (most : Int) : 0 ≤ (tCount q most).1 := by
  unfold tCount
  split
  · exact Int.le_refl _
  · omega
end Cd
theorem rx_grown {T : TypeId} {b : Nat} {w W W' : World} {q : Rr} (h : RX T b w q W) {row : Option Nat} (hg : W.grownBy W' row) (hr : ∀ r, row = some r → w.heap.size ≤ r) : RX T b w q W' := by
  have hb := h.lt
  have hs := h.grow.size
  refine ⟨(hg.block b (lt_of_row h.rd) (fun e => by have := hr b e.symm; omega)).trans h.rd, h.ok, h.len, hb, ⟨hg.os.trans h.grow.os, hg.tape.trans h.grow.tape, hg.output.trans h.grow.output, Nat.le_trans hs hg.size, fun i hi hne => ?_⟩⟩
  exact (hg.block i (by omega) (fun e => by have := hr i e.symm; omega)).trans (h.grow.block i hi hne)
theorem enc_ne (x : Int) : Oct.enc x ≠ [] := fun e => by
  have := Oct.enc_length x
  rw [e, List.length_nil] at this
  omega
theorem et_take_id : ∀ args w, (callFunc 9 args).run Tryz.prog w = .ok (.enter 9 args) w := enters_of Tryz.func9 (by kernel_rfl) rfl
theorem put_ne_id (x : NKy) (h : kID.ok x = true) : kID.put x ≠ [] := by
  show putID x ≠ []
  unfold putID
  rw [if_pos (show okID x = true from h)]
  unfold rawID
  intro e
  exact enc_ne _ (List.append_eq_nil_iff.1 e).1
/-- an element more at the end of one's own row -/
theorem app_id {W : World} {B0 : Nat} {v : Value} {l : List NKy} (h : OwnN W B0 v l) (hB : B0 ≤ W.heap.size) (x : NKy) (hn : l.length + 1 ≤ 1000000) (ty : TypeId) :
    ∃ v' w', (Builtin.append_ #[54, 54] ty #[v, .slice (some ⟨W.heap.size, 0, none⟩) 1 1]).run Tryz.prog (W.alloc (.cells #[.int .i64 x.1, .int .i64 x.2.1, .int .i64 x.2.2] 29)) = .ok v' w' ∧ OwnN w' B0 v' (l ++ [x]) ∧ (W.alloc (.cells #[.int .i64 x.1, .int .i64 x.2.1, .int .i64 x.2.2] 29)).grownBy w' v.ownBlock ∧ (∀ b, v.ownBlock = some b → B0 ≤ b) := by
  have hb := bel1 W (.cells #[.int .i64 x.1, .int .i64 x.2.1, .int .i64 x.2.2] 29)
  have ha := at1 W (.cells #[.int .i64 x.1, .int .i64 x.2.1, .int .i64 x.2.2] 29)
  have h2 := h.below hb
  obtain ⟨v', w', hr, ho, hg, _⟩ := h2.app (P := Tryz.prog) (t := 54) (ty := ty) Tryz.underlying54 id_info rfl (by decide) nkE_len nkE_one (Nat.le_trans hB hb.size) [x] ⟨W.heap.size, 0, none⟩ 1 (fun j y hj c u hu => by
    have hj0 : j = 0 := by
      have := (List.getElem?_eq_some_iff.1 hj).1
      simp at this
      exact this
    subst hj0
    have hy := Option.some.inj hj
    subst hy
    rw [Addr.add_mid, Nat.zero_mul, Nat.zero_add, Nat.zero_add]
    exact (Bx.cell ha (by simpa [nkE] using hu)).1) (by simpa using hn) (by decide) (.inl (by simp))
  exact ⟨v', w', hr, ho, hg, fun b hb' => (h.blk hb').1⟩
set_option maxHeartbeats 16000000 in
set_option maxRecDepth 100000 in
theorem ctakelist_id {b : Nat} {w : World} {q : Rr} (most : Int) (h : CQ b w q w) (hq : q.s.length ≤ 900000 ∨ most ≤ 900000) : Calls Tryz.prog 26 #[.pointer (some ⟨b, 0, none⟩), .int .i64 most, .func (.func 9) #[] #[]] w fun e W' => (∃ v, e = .returned v ∧ OwnN W' w.heap.size v (kID.takeL most q).1) ∧ CQ b w (kID.takeL most q).2 W' := by
  have EN := et_take_id
  have FN := fun W => fn_take_id 9 W
  have CC := Lib.hid (ctake_count most h)
  have TK : Hid (∀ q' W, CQ b w q' W → Calls Tryz.prog 9 #[.pointer (some ⟨b, 0, none⟩)] W fun e W' => e = .returned (.agg #[.int .i64 (takeID q').1.1, .int .i64 (takeID q').1.2.1, .int .i64 (takeID q').1.2.2]) ∧ CQ b w (takeID q').2 W' ∧ W.grownBy W' (some b)) := Lib.hid fun q' W hW => (ctake_id hW.rebase).mono fun e W' ⟨h1, h2⟩ => ⟨h1, hW.trans h2, h2.grow⟩
  have LF : Hid (∀ q' W, CQ b w q' W → Calls Tryz.prog 42 #[.pointer (some ⟨b, 0, none⟩)] W fun e W' => e = .returned (.int .i64 (q'.s.length : Int)) ∧ W = W') := Lib.hid fun q' W hW => left_any b q'.s q'.bad W hW.rd
  have BD := Lib.hid fun q' W (hW : CQ b w q' W) => cbad_any hW
  have SP := Lib.hid fun q' W (hW : CQ b w q' W) => cspoil_any hW
  have hb := h.lt
  have FN2 := Lib.hid (takeL_is (K := kID) most q)
  have hge := count_ge q most
  have hft := count_fit q most
  have hpos := count_pos q most h.ok
  have hlen := tCount_len q most
  have hcm := count_le q most
  generalize tCount q most = c at *
  obtain ⟨n, q0⟩ := c
  simp only at CC FN2 hge hft hpos hlen hcm
  obtain ⟨N, rfl⟩ := Int.eq_ofNat_of_zero_le hge
  rw [Int.toNat_natCast] at FN2
  have hN : N ≤ 9223372036854775807 := by omega
  clear hft
  replace hq : q0.s.length ≤ 900000 ∨ N ≤ 900000 := by omega
  replace hpos := Lib.hid hpos
  clear h hlen hge hcm
  generalize kID.takeL most q = RES at *
  go_enter Tryz.func26, Tryz.ntmps26
  go_wp2_with fail
  refine CC.out.mono ?_
  rintro e w1 ⟨rfl, r1, g1⟩
  have HR0 := Lib.hid r1
  clear r1 CC
  have hs1 := g1.size
  clear g1
  go_wp2
  go_loopw [7, 11] (fun v ix wr => ∃ (k : Nat) (acc : List NKy) (qk : Rr), k ≤ N ∧ ix = .int .i64 k ∧ Hid (OwnN wr w.heap.size v acc) ∧ Hid (CQ b w qk wr) ∧ Hid ((k < N → qk.bad = false) ∧ (0 < k → qk.bad = false) ∧ (acc.length + qk.s.length ≤ 900000 ∨ (acc.length ≤ k ∧ N ≤ 900000)) ∧ (k = 0 → acc = []) ∧ kID.takeN N q0 = (acc ++ (kID.takeN (N - k) qk).1, (kID.takeN (N - k) qk).2))) (fun _ ix _ => N - (intOf ix).toNat)
  case atStart => exact ⟨0, [], q0, Nat.zero_le _, rfl, Lib.hid (rw_nil _ _), HR0, Lib.hid ⟨fun hk => hpos.out (by omega), fun hk => absurd hk (by decide), by simpa using hq, fun _ => rfl, by rw [Nat.sub_zero, List.nil_append]⟩⟩
  case round =>
    obtain ⟨k, acc, qk, hk, rfl, HO, HR, HI⟩ := hrel
    clear HR0 hpos hq
    by_cases hkN : k < N
    · have t1 : (k : Int) < (N : Int) := by omega
      obtain ⟨hb1, hb2, hln, hz, hT⟩ := HI.out
      have hqb := hb1 hkN
      have hok := HR.out.ok
      have hNk : N - k = (N - (k + 1)) + 1 := by omega
      rw [hNk] at hT
      have LF1 := Lib.hid (LF.out qk wr HR.out)
      clear LF hNk hb1 hb2
      cases hs : qk.s with
      | nil =>
        have hno := takeN_bad (K := kID) (n := N - (k + 1)) hqb (take_nil goodID put_ne_id hok hs)
        have FIN : Hid (RES = ([], Rr.no)) := Lib.hid (by rw [FN2.out, hT]; simp only; rw [hno]; rfl)
        rw [hs] at LF1
        have SP1 := Lib.hid (SP.out qk wr HR.out)
        clear hno hT hs HI TK BD SP FN2 HO hz hln hok hqb
        go_wp2_with (first
          | (go_at_call 42; refine LF1.out.mono ?_; rintro e w2 ⟨rfl, rfl⟩)
          | (go_at_call 61; refine SP1.out.mono ?_; rintro e w3 ⟨rfl, r3, g3⟩))
        go_ret
        rw [FIN.out]
        exact ⟨⟨_, rfl, rw_nil _ _⟩, r3⟩
      | cons c0 t0 =>
        obtain ⟨m, hm⟩ : ∃ m : Int, m = (qk.s.length : Int) := ⟨_, rfl⟩
        have t2 : ((m : Int) == 0) = false := by rw [hm, hs]; simp; omega
        rw [← hm] at LF1
        have hq2 : qk.s.length ≥ 1 := by rw [hs]; simp
        clear hm hs
        rw [takeN_go (K := kID) hqb] at hT
        have hcl := taken_len goodID put_ne_id hok
        have hok2 := goodID.ok' qk hok
        have TK1 := Lib.hid (TK.out qk wr HR.out)
        change (takeID qk).2.bad = true ∨ (takeID qk).2.s.length + 1 ≤ qk.s.length at hcl
        change (takeID qk).2.Ok at hok2
        change kID.takeN N q0 = (acc ++ ((takeID qk).1 :: (kID.takeN (N - (k + 1)) (takeID qk).2).1), (kID.takeN (N - (k + 1)) (takeID qk).2).2) at hT
        generalize takeID qk = tk at *
        obtain ⟨x, q2⟩ := tk
        simp only at TK1 hcl hok2 hT
        have BD1 := Lib.hid fun W (hW : CQ b w q2 W) => BD.out q2 W hW
        clear TK BD SP HI hqb hok
        replace hT := Lib.hid hT
        obtain ⟨bb, hbb⟩ : ∃ x, q2.bad = x := ⟨_, rfl⟩
        rw [hbb] at BD1 hcl
        replace hbb := Lib.hid hbb
        have AP : Hid (∀ (W : World) (v : Value), OwnN W w.heap.size v acc → w.heap.size ≤ W.heap.size → ∃ v' w', (Builtin.append_ #[54, 54] 54 #[v, .slice (some ⟨W.heap.size, 0, none⟩) 1 1]).run Tryz.prog (W.alloc (.cells #[.int .i64 x.1, .int .i64 x.2.1, .int .i64 x.2.2] 29)) = .ok v' w' ∧ OwnN w' w.heap.size v' (acc ++ [x]) ∧ (W.alloc (.cells #[.int .i64 x.1, .int .i64 x.2.1, .int .i64 x.2.2] 29)).grownBy w' v.ownBlock ∧ (∀ b, v.ownBlock = some b → w.heap.size ≤ b)) := Lib.hid fun W v hO hW => app_id hO hW x (by omega) _
        go_upto_region 7 with (go_at_call 42; refine LF1.out.mono ?_; rintro e w2 ⟨rfl, rfl⟩)
        clear LF1 t2
        go_wp2_with fail
        refine TK1.out.mono ?_
        rintro e w3 ⟨rfl, r3, g3⟩
        have HO3 := HO.out.kept (W' := w3) (fun g hg => g3.block g (by obtain ⟨_, cur, h2⟩ := HO.out.blk hg; exact lt_of_row h2) (by have := (HO.out.blk hg).1; simp; omega))
        obtain ⟨v', w4, hr, ho, hg, hrow⟩ := AP.out w3 _ HO3 r3.grow.size
        have RX4 := Lib.hid (rx_grown (r3.below (bel1 w3 (.cells #[.int .i64 x.1, .int .i64 x.2.1, .int .i64 x.2.2] 29))) hg hrow)
        have HRUN := Lib.hid hr
        have HO4 := Lib.hid ho
        clear hr ho hg hrow HO3 r3 g3 AP TK1 HO HR
        obtain ⟨x0, x1, x2⟩ := x
        go_upto_region 8 with (at_builtin; refine wpList_append _ rfl (.tmp 22) (.tmp 26) _ _ rfl _ _ rfl rfl _ _ HRUN.out ?_; clear HRUN)
        have BD2 := Lib.hid (BD1.out _ RX4.out)
        clear BD1
        cases bb with
        | true =>
          have e2 := rr_no hok2 hbb.out
          have FIN : Hid (RES = ([], Rr.no)) := Lib.hid (by rw [FN2.out, hT.out]; simp only; rw [e2, takeN_no]; rfl)
          rw [e2] at RX4
          clear e2 hT FN2
          go_wp2_with (go_at_call 62; refine BD2.out.mono ?_; rintro e w5 ⟨rfl, rfl⟩)
          go_ret
          rw [FIN.out]
          exact ⟨⟨_, rfl, rw_nil _ _⟩, RX4.out⟩
        | false =>
          have hcl2 := hcl.resolve_left (by decide)
          have HI2 : Hid ((k + 1 < N → q2.bad = false) ∧ (0 < k + 1 → q2.bad = false) ∧ ((acc ++ [(⟨x0, x1, x2⟩ : NKy)]).length + q2.s.length ≤ 900000 ∨ ((acc ++ [(⟨x0, x1, x2⟩ : NKy)]).length ≤ k + 1 ∧ N ≤ 900000)) ∧ (k + 1 = 0 → acc ++ [(⟨x0, x1, x2⟩ : NKy)] = []) ∧ kID.takeN N q0 = ((acc ++ [(⟨x0, x1, x2⟩ : NKy)]) ++ (kID.takeN (N - (k + 1)) q2).1, (kID.takeN (N - (k + 1)) q2).2)) := Lib.hid ⟨fun _ => hbb.out, fun _ => hbb.out, by rw [List.length_append, List.length_singleton]; omega, fun e => by omega, by rw [hT.out, List.append_assoc]; rfl⟩
          clear hT FN2 hcl hcl2 hln hz
          go_wp2_with (go_at_call 62; refine BD2.out.mono ?_; rintro e w5 ⟨rfl, rfl⟩)
          go_roundw
          case rel => exact ⟨k + 1, _, q2, by omega, by go_num, HO4, RX4, HI2⟩
          case measure => simp [intOf]; omega
    · obtain rfl : k = N := by omega
      have t1 : ¬ (k : Int) < (k : Int) := by omega
      obtain ⟨_, hb2, hln, hz, hT⟩ := HI.out
      have FIN : Hid (RES = (acc, qk)) := Lib.hid (by
        rw [FN2.out, hT, Nat.sub_self]
        show (if qk.bad = true then _ else _) = _
        cases hqb : qk.bad with
        | false =>
          rw [if_neg (by decide)]
          show (acc ++ [], qk) = _
          rw [List.append_nil]
        | true =>
          rw [if_pos rfl]
          have h0 : k = 0 := by
            rcases Nat.eq_zero_or_pos k with e | e
            · exact e
            · rw [hb2 e] at hqb; cases hqb
          rw [hz h0, rr_no HR.out.ok hqb])
      clear hT hb2 hln hz HI FN2 TK LF BD SP
      go_wp2
      go_ret
      rw [FIN.out]
      exact ⟨⟨_, rfl, HO.out⟩, HR.out⟩
end Go.Proofs.YtdhlebmgeiiejaaGreat
