/- CdNumA, CdNum, in one text. -/
import Derived.Test.YtdhlebmgeiiejaaGreatKPure
import Derived.Test.YtdhlebmgeiiejaaGreatKRdr
import Derived.Test.YtdhlebmgeiiejaaGreatKBase
import Derived.Test.YtdhlebmgeiiejaaGreatKPc
import Derived.RangeFuncNested
import Derived.RangeFuncBound
import Derived.RangeFuncCalls
import Derived.RangeFuncLeaves
import Derived.RangeFuncWrites
import Derived.RangeFuncBox
import Derived.Shelf.Abstract
import Derived.Shelf.RegionOpen
import Derived.WalkKit
import Derived.OwnWalkIn
import Derived.TacticsInMore
import Derived.LoopNIn
import Derived.LoopIn
namespace Go.Proofs.YtdhlebmgeiiejaaGreat
open Go.RowKit Go.Shelf Pz Cd
set_option linter.unusedVariables false
set_option linter.unusedSimpArgs false
attribute [local go_sem] Oper.semAt_some

/-- an entity's cells -/
abbrev bnA (b : Bn) : Array Value := #[.int .i64 b.s, .int .i64 b.i, .int .i64 b.g, .int .i64 b.m, .int .i64 b.x, .int .i64 b.y, .int .i64 b.vx, .int .i64 b.vy, .int .i64 b.h, .int .i64 b.p, .int .i64 b.l]
/-- where its numbers stand, with their components -/
abbrev plcA (o : Nat) : Array Value := #[.pointer (some ⟨o, 4, none⟩), .int .i64 1, .pointer (some ⟨o, 5, none⟩), .int .i64 1, .pointer (some ⟨o, 6, none⟩), .int .i64 2, .pointer (some ⟨o, 7, none⟩), .int .i64 2, .pointer (some ⟨o, 8, none⟩), .int .i64 4, .pointer (some ⟨o, 9, none⟩), .int .i64 8, .pointer (some ⟨o, 10, none⟩), .int .i64 16]
set_option maxHeartbeats 4000000 in
set_option maxRecDepth 100000 in
theorem build_pl (a0 a1 a2 a3 a4 a5 a6 : Addr) (w : World) : (Instr.build 152 #[(0, .agg #[.pointer (some a0), .int .i64 1]), (1, .agg #[.pointer (some a1), .int .i64 1]), (2, .agg #[.pointer (some a2), .int .i64 2]), (3, .agg #[.pointer (some a3), .int .i64 2]), (4, .agg #[.pointer (some a4), .int .i64 4]), (5, .agg #[.pointer (some a5), .int .i64 8]), (6, .agg #[.pointer (some a6), .int .i64 16])]).run Tryz.prog w = .ok (.agg #[.pointer (some a0), .int .i64 1, .pointer (some a1), .int .i64 1, .pointer (some a2), .int .i64 2, .pointer (some a3), .int .i64 2, .pointer (some a4), .int .i64 4, .pointer (some a5), .int .i64 8, .pointer (some a6), .int .i64 16]) w := by
  unfold Instr.build
  go_simp
set_option maxRecDepth 100000 in
theorem idx_pl0 (o : Nat) (w : World) : (Instr.index 152 (.agg #[.pointer (some ⟨o, 4, none⟩), .int .i64 1, .pointer (some ⟨o, 5, none⟩), .int .i64 1, .pointer (some ⟨o, 6, none⟩), .int .i64 2, .pointer (some ⟨o, 7, none⟩), .int .i64 2, .pointer (some ⟨o, 8, none⟩), .int .i64 4, .pointer (some ⟨o, 9, none⟩), .int .i64 8, .pointer (some ⟨o, 10, none⟩), .int .i64 16]) (.int .i64 0)).run Tryz.prog w = .ok (.agg #[.pointer (some ⟨o, 4, none⟩), .int .i64 1]) w := by
  unfold Instr.index
  go_simp
set_option maxRecDepth 100000 in
theorem idx_pl1 (o : Nat) (w : World) : (Instr.index 152 (.agg #[.pointer (some ⟨o, 4, none⟩), .int .i64 1, .pointer (some ⟨o, 5, none⟩), .int .i64 1, .pointer (some ⟨o, 6, none⟩), .int .i64 2, .pointer (some ⟨o, 7, none⟩), .int .i64 2, .pointer (some ⟨o, 8, none⟩), .int .i64 4, .pointer (some ⟨o, 9, none⟩), .int .i64 8, .pointer (some ⟨o, 10, none⟩), .int .i64 16]) (.int .i64 1)).run Tryz.prog w = .ok (.agg #[.pointer (some ⟨o, 5, none⟩), .int .i64 1]) w := by
  unfold Instr.index
  go_simp
set_option maxRecDepth 100000 in
theorem idx_pl2 (o : Nat) (w : World) : (Instr.index 152 (.agg #[.pointer (some ⟨o, 4, none⟩), .int .i64 1, .pointer (some ⟨o, 5, none⟩), .int .i64 1, .pointer (some ⟨o, 6, none⟩), .int .i64 2, .pointer (some ⟨o, 7, none⟩), .int .i64 2, .pointer (some ⟨o, 8, none⟩), .int .i64 4, .pointer (some ⟨o, 9, none⟩), .int .i64 8, .pointer (some ⟨o, 10, none⟩), .int .i64 16]) (.int .i64 2)).run Tryz.prog w = .ok (.agg #[.pointer (some ⟨o, 6, none⟩), .int .i64 2]) w := by
  unfold Instr.index
  go_simp
set_option maxRecDepth 100000 in
theorem idx_pl3 (o : Nat) (w : World) : (Instr.index 152 (.agg #[.pointer (some ⟨o, 4, none⟩), .int .i64 1, .pointer (some ⟨o, 5, none⟩), .int .i64 1, .pointer (some ⟨o, 6, none⟩), .int .i64 2, .pointer (some ⟨o, 7, none⟩), .int .i64 2, .pointer (some ⟨o, 8, none⟩), .int .i64 4, .pointer (some ⟨o, 9, none⟩), .int .i64 8, .pointer (some ⟨o, 10, none⟩), .int .i64 16]) (.int .i64 3)).run Tryz.prog w = .ok (.agg #[.pointer (some ⟨o, 7, none⟩), .int .i64 2]) w := by
  unfold Instr.index
  go_simp
set_option maxRecDepth 100000 in
theorem idx_pl4 (o : Nat) (w : World) : (Instr.index 152 (.agg #[.pointer (some ⟨o, 4, none⟩), .int .i64 1, .pointer (some ⟨o, 5, none⟩), .int .i64 1, .pointer (some ⟨o, 6, none⟩), .int .i64 2, .pointer (some ⟨o, 7, none⟩), .int .i64 2, .pointer (some ⟨o, 8, none⟩), .int .i64 4, .pointer (some ⟨o, 9, none⟩), .int .i64 8, .pointer (some ⟨o, 10, none⟩), .int .i64 16]) (.int .i64 4)).run Tryz.prog w = .ok (.agg #[.pointer (some ⟨o, 8, none⟩), .int .i64 4]) w := by
  unfold Instr.index
  go_simp
set_option maxRecDepth 100000 in
theorem idx_pl5 (o : Nat) (w : World) : (Instr.index 152 (.agg #[.pointer (some ⟨o, 4, none⟩), .int .i64 1, .pointer (some ⟨o, 5, none⟩), .int .i64 1, .pointer (some ⟨o, 6, none⟩), .int .i64 2, .pointer (some ⟨o, 7, none⟩), .int .i64 2, .pointer (some ⟨o, 8, none⟩), .int .i64 4, .pointer (some ⟨o, 9, none⟩), .int .i64 8, .pointer (some ⟨o, 10, none⟩), .int .i64 16]) (.int .i64 5)).run Tryz.prog w = .ok (.agg #[.pointer (some ⟨o, 9, none⟩), .int .i64 8]) w := by
  unfold Instr.index
  go_simp
set_option maxRecDepth 100000 in
theorem idx_pl6 (o : Nat) (w : World) : (Instr.index 152 (.agg #[.pointer (some ⟨o, 4, none⟩), .int .i64 1, .pointer (some ⟨o, 5, none⟩), .int .i64 1, .pointer (some ⟨o, 6, none⟩), .int .i64 2, .pointer (some ⟨o, 7, none⟩), .int .i64 2, .pointer (some ⟨o, 8, none⟩), .int .i64 4, .pointer (some ⟨o, 9, none⟩), .int .i64 8, .pointer (some ⟨o, 10, none⟩), .int .i64 16]) (.int .i64 6)).run Tryz.prog w = .ok (.agg #[.pointer (some ⟨o, 10, none⟩), .int .i64 16]) w := by
  unfold Instr.index
  go_simp
set_option maxHeartbeats 16000000 in
set_option maxRecDepth 100000 in
theorem cnumbers_any (o : Nat) (w : World) : Calls Tryz.prog 109 #[.pointer (some ⟨o, 0, none⟩)] w fun e w' => ∃ P Q, e = .returned (.func (.func 125) #[] #[.pointer (some ⟨P, 0, none⟩), .pointer (some ⟨Q, 0, none⟩)]) ∧ w.heap.size ≤ P ∧ w.heap.size ≤ Q ∧ w'.heap[P]? = some (.cells (plcA o) 152 (0, 0)) ∧ w'.heap[Q]? = some (.cells #[.pointer (some ⟨o, 0, none⟩)] 135 (0, 0)) ∧ Below w.heap.size w w' := by
  have BP := fun W => build_pl ⟨o, 4, none⟩ ⟨o, 5, none⟩ ⟨o, 6, none⟩ ⟨o, 7, none⟩ ⟨o, 8, none⟩ ⟨o, 9, none⟩ ⟨o, 10, none⟩ W
  have T0 := at1 w (.cells #[.pointer (some ⟨o, 0, none⟩)] 135)
  have BE := bel1 w (.cells #[.pointer (some ⟨o, 0, none⟩)] 135)
  go_enter Tryz.func109, Tryz.ntmps109
  go_upto_region 1 with fail
  generalize w.alloc (.cells #[.pointer (some ⟨o, 0, none⟩)] 135) = w1 at *
  have g0 : ∀ p : Lat grows w1, p.W.cell? ⟨w.heap.size, 0, none⟩ = some (.pointer (some ⟨o, 0, none⟩)) := fun p => (Bx.b1 ((p.h.block _ (lt_of_row T0)).trans T0)).1
  refine Og.grow 30 (by kernel_rfl) (by kernel_rfl) fun hc hf => ?_
  clear hc hf
  simp only [List.take_succ_cons, List.take_zero, List.drop_succ_cons, List.drop_zero]
  iterate 29 (refine Og.det [] rfl (fun J hJ => ?_); go_simp; refine hJ _ _ ?_; clear hJ J)
  refine Og.such 3 (Og.Box w1.heap.size #[.pointer none, .int .i64 0, .pointer none, .int .i64 0, .pointer none, .int .i64 0, .pointer none, .int .i64 0, .pointer none, .int .i64 0, .pointer none, .int .i64 0, .pointer none, .int .i64 0] 152) [] rfl (Og.Box.lasts _ _ _) (Og.Box.noBool _ _ _) (fun J hJ => ?_)
  go_simp
  refine ⟨fun p => Og.Box.new p.W w1.heap.size p.h.size _ _, hJ _ _ ?_⟩
  clear hJ J
  refine Og.fin fun W hW => ?_
  simp only [Og.opened_cons, Og.opened_nil]
  intro v hv
  obtain ⟨P, rfl, hlo, hlt, hbx⟩ := hv
  obtain ⟨⟨k0, k1, k2, k3, k4, k5, k6, k7, k8, k9, k10, k11, k12, k13⟩, ⟨f0, f1, f2, f3, f4, f5, f6, f7, f8, f9, f10, f11, f12, f13⟩⟩ := Bx.b14 hbx
  have hs := BE.size
  have hP : w.heap.size ≤ P := Nat.le_trans hs hlo
  have BW : Below w.heap.size w W := BE.trans (hW.mono hs)
  have TW := (hW.block _ (lt_of_row T0)).trans T0
  have hne : w.heap.size ≠ P := by have := lt_of_row T0; omega
  have FIN := Lib.hid (And.intro (Bx.set14 hbx (.pointer (some ⟨o, 4, none⟩)) (.int .i64 1) (.pointer (some ⟨o, 5, none⟩)) (.int .i64 1) (.pointer (some ⟨o, 6, none⟩)) (.int .i64 2) (.pointer (some ⟨o, 7, none⟩)) (.int .i64 2) (.pointer (some ⟨o, 8, none⟩)) (.int .i64 4) (.pointer (some ⟨o, 9, none⟩)) (.int .i64 8) (.pointer (some ⟨o, 10, none⟩)) (.int .i64 16)) (And.intro ((Bx.ne14 hne (.pointer (some ⟨o, 4, none⟩)) (.int .i64 1) (.pointer (some ⟨o, 5, none⟩)) (.int .i64 1) (.pointer (some ⟨o, 6, none⟩)) (.int .i64 2) (.pointer (some ⟨o, 7, none⟩)) (.int .i64 2) (.pointer (some ⟨o, 8, none⟩)) (.int .i64 4) (.pointer (some ⟨o, 9, none⟩)) (.int .i64 8) (.pointer (some ⟨o, 10, none⟩)) (.int .i64 16)).trans TW) ((((((((((((((BW.setCell (p := ⟨P, 0, none⟩) hP (.pointer (some ⟨o, 4, none⟩))).setCell (p := ⟨P, 1, none⟩) hP (.int .i64 1)).setCell (p := ⟨P, 2, none⟩) hP (.pointer (some ⟨o, 5, none⟩))).setCell (p := ⟨P, 3, none⟩) hP (.int .i64 1)).setCell (p := ⟨P, 4, none⟩) hP (.pointer (some ⟨o, 6, none⟩))).setCell (p := ⟨P, 5, none⟩) hP (.int .i64 2)).setCell (p := ⟨P, 6, none⟩) hP (.pointer (some ⟨o, 7, none⟩))).setCell (p := ⟨P, 7, none⟩) hP (.int .i64 2)).setCell (p := ⟨P, 8, none⟩) hP (.pointer (some ⟨o, 8, none⟩))).setCell (p := ⟨P, 9, none⟩) hP (.int .i64 4)).setCell (p := ⟨P, 10, none⟩) hP (.pointer (some ⟨o, 9, none⟩))).setCell (p := ⟨P, 11, none⟩) hP (.int .i64 8)).setCell (p := ⟨P, 12, none⟩) hP (.pointer (some ⟨o, 10, none⟩))).setCell (p := ⟨P, 13, none⟩) hP (.int .i64 16))))
  clear hbx g0 T0 BE TW BW hW BP
  go_wp2
  go_ret
  exact ⟨P, w.heap.size, rfl, hP, Nat.le_refl _, FIN.out.1, FIN.out.2.1, FIN.out.2.2⟩
/-- what the rounds read -/
def NF (P Q o : Nat) (m : Int) (W : World) : Prop :=
  W.heap[P]? = some (.cells (plcA o) 152 (0, 0)) ∧ W.heap[Q]? = some (.cells #[.pointer (some ⟨o, 0, none⟩)] 135 (0, 0)) ∧ ∃ b : Bn, b.m = m ∧ W.heap[o]? = some (.cells (bnA b) 34 (0, 0))
theorem NF.below {P Q o : Nat} {m : Int} {W W' : World} (h : NF P Q o m W) (hb : Below W.heap.size W W') : NF P Q o m W' := by
  obtain ⟨h1, h2, b, h3, h4⟩ := h
  exact ⟨(hb.block _ (lt_of_row h1)).trans h1, (hb.block _ (lt_of_row h2)).trans h2, b, h3, (hb.block _ (lt_of_row h4)).trans h4⟩
def encF (o : Nat) (f : Fld) : Array Value := #[.pointer (some ⟨o, f.off, none⟩)]
end Go.Proofs.YtdhlebmgeiiejaaGreat
namespace Go.Proofs.YtdhlebmgeiiejaaGreat
open Go.RowKit Go.Shelf Pz Cd
set_option linter.unusedVariables false
set_option linter.unusedSimpArgs false
attribute [local go_sem] Oper.semAt_some

set_option maxHeartbeats 16000000 in
set_option maxRecDepth 100000 in
theorem nums_run (n : Nat) (hn : 1 ≤ n) (l P Q o : Nat) (m : Int) (J Jx : List Fld → World → Prop) (hJB : ∀ pre W W', J pre W → Below W.heap.size W W' → J pre W')
    (hY : ∀ pre fl W, J pre W → pre.length < 7 → YieldAt Fence.wide (n - 1) Tryz.prog l (encF o fl) W fun e W' => (e = .returned (.bool true) ∧ J (pre ++ [fl]) W' ∧ (NF P Q o m W → NF P Q o m W')) ∨ (e = .returned (.bool false) ∧ Jx (pre ++ [fl]) W'))
    (W : World) (hF : NF P Q o m W) (h0 : J [] W) :
    CallsIn Fence.wide n Tryz.prog 125 #[.func (.yield l) #[] #[], .pointer (some ⟨P, 0, none⟩), .pointer (some ⟨Q, 0, none⟩)] W fun e W' => (∃ v, e = .returned v) ∧ (J (pl m 7) W' ∨ ∃ pre, Jx pre W') := by
  have hmx : Tryz.prog.follows .mixedOrders = true := by kernel_rfl
  obtain ⟨⟨c0, c1, c2, c3, c4, c5, c6, c7, c8, c9, c10, c11, c12, c13⟩, _⟩ := Bx.b14 hF.1
  refine callsIn_of_wp Tryz.func125 rfl trivial ?_ rfl
  simp only [Tryz.ntmps125, List.size_toArray, List.length_cons, List.length_nil, Nat.reduceAdd, Nat.reduceSub, Array.replicate_succ, Array.replicate_zero, List.push_toArray, List.append_toArray, List.nil_append, List.cons_append]
  have hP0 := Lib.hid hF
  have hJ0 := Lib.hid h0
  clear hF h0
  gi_wp2
  gi_loopw [7] (fun i wr => ∃ k : Nat, k ≤ 7 ∧ i = .int .i64 k ∧ Hid (J (pl m k) wr) ∧ Hid (NF P Q o m wr)) (fun i _ => 7 - (intOf i).toNat)
  case atStart => exact ⟨0, Nat.zero_le _, rfl, hJ0, hP0⟩
  case round =>
    clear c0 c1 c2 c3 c4 c5 c6 c7 c8 c9 c10 c11 c12 c13 hJ0 hP0
    obtain ⟨k, hk, rfl, HJ, HF⟩ := hrel
    have : k = 0 ∨ k = 1 ∨ k = 2 ∨ k = 3 ∨ k = 4 ∨ k = 5 ∨ k = 6 ∨ k = 7 := by omega
    clear hk
    rcases this with rfl | rfl | rfl | rfl | rfl | rfl | rfl | rfl
    · have IX := fun W => idx_pl0 o W
      obtain ⟨hPb, hQb, b, hbm, hBb⟩ := HF.out
      have HS1 : bitB m 0 = true → pl m 1 = pl m 0 ++ [.x] := fun hb => pl_yes m (k := 0) (f := .x) rfl hb
      have HS0 : bitB m 0 = false → pl m 1 = pl m 0 := fun hb => pl_no m (k := 0) (f := .x) rfl hb
      have A1 : Hid (∀ V, Calls Tryz.prog 108 #[b.val, .int .i64 1] V fun e w' => e = .returned (.bool (bitB m 0)) ∧ Below V.heap.size V w') := Lib.hid fun V => by
        rw [← hbm]
        exact has_one b (j := 0) (by decide) V
      have hl := pl_lt m (k := 0) (by decide)
      have HY : Hid (bitB m 0 = true → ∀ W2, Below wr.heap.size wr W2 → ∃ fn tmps assign body, (Instr.yield l #[.pointer (some ⟨o, 4, none⟩)]).run Tryz.prog W2 = .ok (.round l fn tmps assign body) W2 ∧ RoundIn Fence.wide (n - 1) Tryz.prog l fn tmps assign body W2 fun e W' => ∃ bv, e = .returned (.bool bv) ∧ Hid ((bv = true → J (pl m 1) W' ∧ NF P Q o m W') ∧ (bv = false → ∃ pre, Jx pre W'))) := Lib.hid fun hb W2 h2 => by
          obtain ⟨fn, tmps, assign, body, hy, hR⟩ := hY (pl m 0) .x W2 (hJB _ _ _ HJ.out h2) hl
          refine ⟨fn, tmps, assign, body, hy, hR.mono ?_⟩
          have HS := HS1 hb
          rintro e W' (⟨rfl, hJ3, hk3⟩ | ⟨rfl, hJx3⟩)
          · exact ⟨true, rfl, Lib.hid ⟨fun _ => ⟨by rw [HS]; exact hJ3, hk3 (HF.out.below h2)⟩, fun h => by cases h⟩⟩
          · exact ⟨false, rfl, Lib.hid ⟨(fun h => by cases h), fun _ => ⟨_, hJx3⟩⟩⟩
      have HN : Hid (bitB m 0 = false → ∀ W2, Below wr.heap.size wr W2 → J (pl m 1) W2 ∧ NF P Q o m W2) := Lib.hid fun hb W2 h2 => by
          rw [HS0 hb]
          exact ⟨hJB _ _ _ HJ.out h2, HF.out.below h2⟩
      generalize bitB m 0 = t at *
      have B5 := at1 wr (.cells #[.pointer (some ⟨o, 4, none⟩), .int .i64 1] 151)
      have HB := Lib.hid (bel1 wr (.cells #[.pointer (some ⟨o, 4, none⟩), .int .i64 1] 151))
      replace hQb := (HB.out.block _ (lt_of_row hQb)).trans hQb
      replace hBb := (HB.out.block _ (lt_of_row hBb)).trans hBb
      clear HS1 HS0 hl HJ HF hPb hY
      obtain ⟨s, i, g, m0, x, y, vx, vy, h, p, lf⟩ := b
      simp only [Bn.val] at A1
      simp only [bnA] at hBb
      have k0 := (Bx.b1 hQb).1
      obtain ⟨⟨r0, r1, r2, r3, r4, r5, r6, r7, r8, r9, r10⟩, _⟩ := Bx.b11 hBb
      obtain ⟨⟨n0, n1⟩, _⟩ := Bx.b2 B5
      have h5 := lt_of_row B5
      clear hbm
      cases t with
      | true =>
        replace HY := Lib.hid (HY.out rfl)
        clear HN
        gi_wp2
        generalize wr.alloc (.cells #[.pointer (some ⟨o, 4, none⟩), .int .i64 1] 151) = wq at *
        gi_region_with_o (first
          | (refine ⟨trivial, ?_⟩; gi_at_call 108; refine (callsIn_wide.2 (A1.out _)).mono ?_; rintro e w2 ⟨rfl, b2⟩; replace b2 : Below wq.heap.size wq w2 := (Below.refl _ wq).drew.trans b2; have n0 : w2.cell? ⟨wr.heap.size, 0, none⟩ = some (.pointer (some ⟨o, 4, none⟩)) := (b2.cell (p := ⟨wr.heap.size, 0, none⟩) h5).trans n0; obtain ⟨fn, tmps, assign, body, hy, hR⟩ := HY.out w2 (HB.out.trans (b2.mono HB.out.size)))
          | (refine hR.mono ?_; rintro e w3 ⟨bv, rfl, HX⟩))
        all_goals cases bv
        all_goals gi_wp2
        · refine bodyPost_ret (results_none rfl _ _ _) rfl ?_
          exact ⟨⟨_, rfl⟩, .inr (HX.out.2 trivial)⟩
        · go_roundw
          case rel => exact ⟨1, by omega, rfl, Lib.hid (HX.out.1 rfl).1, Lib.hid (HX.out.1 rfl).2⟩
          case measure => simp [intOf]
        · refine bodyPost_ret (results_none rfl _ _ _) rfl ?_
          exact ⟨⟨_, rfl⟩, .inr (HX.out.2 trivial)⟩
        · go_roundw
          case rel => exact ⟨1, by omega, rfl, Lib.hid (HX.out.1 rfl).1, Lib.hid (HX.out.1 rfl).2⟩
          case measure => simp [intOf]
        · refine bodyPost_ret (results_none rfl _ _ _) rfl ?_
          exact ⟨⟨_, rfl⟩, .inr (HX.out.2 trivial)⟩
        · go_roundw
          case rel => exact ⟨1, by omega, rfl, Lib.hid (HX.out.1 rfl).1, Lib.hid (HX.out.1 rfl).2⟩
          case measure => simp [intOf]
      | false =>
        replace HN := Lib.hid (HN.out rfl)
        clear HY
        gi_wp2
        generalize wr.alloc (.cells #[.pointer (some ⟨o, 4, none⟩), .int .i64 1] 151) = wq at *
        refine wpIn_wide.2 ?_
        have PF := fun p : Lat grows wq => p.h
        clear k0 n0 n1 r0 r1 r2 r3 r4 r5 r6 r7 r8 r9 r10
        have k0 := fun p => (Bx.b1 (((PF p).block _ (lt_of_row hQb)).trans hQb)).1
        have kr := fun p => (Bx.b11 (((PF p).block _ (lt_of_row hBb)).trans hBb)).1
        have r0 := fun p => (kr p).1
        have r1 := fun p => (kr p).2.1
        have r2 := fun p => (kr p).2.2.1
        have r3 := fun p => (kr p).2.2.2.1
        have r4 := fun p => (kr p).2.2.2.2.1
        have r5 := fun p => (kr p).2.2.2.2.2.1
        have r6 := fun p => (kr p).2.2.2.2.2.2.1
        have r7 := fun p => (kr p).2.2.2.2.2.2.2.1
        have r8 := fun p => (kr p).2.2.2.2.2.2.2.2.1
        have r9 := fun p => (kr p).2.2.2.2.2.2.2.2.2.1
        have r10 := fun p => (kr p).2.2.2.2.2.2.2.2.2.2
        have n1 := fun p => (Bx.b2 (((PF p).block _ (lt_of_row B5)).trans B5)).1.2
        clear PF kr hQb hBb B5
        refine Og.grow 13 (by kernel_rfl) (by kernel_rfl) fun hc hf => ?_
        clear hc hf
        simp only [List.take_succ_cons, List.take_zero, List.drop_succ_cons, List.drop_zero]
        repeat (refine Og.det [] rfl (fun J hJ => ?_); (try subst hvf); go_simp; generalize hvf : Value.bool false = vf; first | (refine hJ _ _ ?_; clear hJ J) | (with_reducible refine ⟨_, fun p => Og.lays (A1.out p.W), hJ _ _ ?_⟩; clear hJ J))
        subst hvf
        refine Og.fin fun W5 hW => ?_
        simp only [Og.opened_nil]
        have HX := Lib.hid (HN.out W5 (HB.out.trans (hW.mono HB.out.size)))
        clear k0 n1 r0 r1 r2 r3 r4 r5 r6 r7 r8 r9 r10
        go_wp2
        gi_wp2
        go_roundw
        case rel => exact ⟨1, by omega, rfl, Lib.hid HX.out.1, Lib.hid HX.out.2⟩
        case measure => simp [intOf]
    · have IX := fun W => idx_pl1 o W
      obtain ⟨hPb, hQb, b, hbm, hBb⟩ := HF.out
      have HS1 : bitB m 0 = true → pl m 2 = pl m 1 ++ [.y] := fun hb => pl_yes m (k := 1) (f := .y) rfl hb
      have HS0 : bitB m 0 = false → pl m 2 = pl m 1 := fun hb => pl_no m (k := 1) (f := .y) rfl hb
      have A1 : Hid (∀ V, Calls Tryz.prog 108 #[b.val, .int .i64 1] V fun e w' => e = .returned (.bool (bitB m 0)) ∧ Below V.heap.size V w') := Lib.hid fun V => by
        rw [← hbm]
        exact has_one b (j := 0) (by decide) V
      have hl := pl_lt m (k := 1) (by decide)
      have HY : Hid (bitB m 0 = true → ∀ W2, Below wr.heap.size wr W2 → ∃ fn tmps assign body, (Instr.yield l #[.pointer (some ⟨o, 5, none⟩)]).run Tryz.prog W2 = .ok (.round l fn tmps assign body) W2 ∧ RoundIn Fence.wide (n - 1) Tryz.prog l fn tmps assign body W2 fun e W' => ∃ bv, e = .returned (.bool bv) ∧ Hid ((bv = true → J (pl m 2) W' ∧ NF P Q o m W') ∧ (bv = false → ∃ pre, Jx pre W'))) := Lib.hid fun hb W2 h2 => by
          obtain ⟨fn, tmps, assign, body, hy, hR⟩ := hY (pl m 1) .y W2 (hJB _ _ _ HJ.out h2) hl
          refine ⟨fn, tmps, assign, body, hy, hR.mono ?_⟩
          have HS := HS1 hb
          rintro e W' (⟨rfl, hJ3, hk3⟩ | ⟨rfl, hJx3⟩)
          · exact ⟨true, rfl, Lib.hid ⟨fun _ => ⟨by rw [HS]; exact hJ3, hk3 (HF.out.below h2)⟩, fun h => by cases h⟩⟩
          · exact ⟨false, rfl, Lib.hid ⟨(fun h => by cases h), fun _ => ⟨_, hJx3⟩⟩⟩
      have HN : Hid (bitB m 0 = false → ∀ W2, Below wr.heap.size wr W2 → J (pl m 2) W2 ∧ NF P Q o m W2) := Lib.hid fun hb W2 h2 => by
          rw [HS0 hb]
          exact ⟨hJB _ _ _ HJ.out h2, HF.out.below h2⟩
      generalize bitB m 0 = t at *
      have B5 := at1 wr (.cells #[.pointer (some ⟨o, 5, none⟩), .int .i64 1] 151)
      have HB := Lib.hid (bel1 wr (.cells #[.pointer (some ⟨o, 5, none⟩), .int .i64 1] 151))
      replace hQb := (HB.out.block _ (lt_of_row hQb)).trans hQb
      replace hBb := (HB.out.block _ (lt_of_row hBb)).trans hBb
      clear HS1 HS0 hl HJ HF hPb hY
      obtain ⟨s, i, g, m0, x, y, vx, vy, h, p, lf⟩ := b
      simp only [Bn.val] at A1
      simp only [bnA] at hBb
      have k0 := (Bx.b1 hQb).1
      obtain ⟨⟨r0, r1, r2, r3, r4, r5, r6, r7, r8, r9, r10⟩, _⟩ := Bx.b11 hBb
      obtain ⟨⟨n0, n1⟩, _⟩ := Bx.b2 B5
      have h5 := lt_of_row B5
      clear hbm
      cases t with
      | true =>
        replace HY := Lib.hid (HY.out rfl)
        clear HN
        gi_wp2
        generalize wr.alloc (.cells #[.pointer (some ⟨o, 5, none⟩), .int .i64 1] 151) = wq at *
        gi_region_with_o (first
          | (refine ⟨trivial, ?_⟩; gi_at_call 108; refine (callsIn_wide.2 (A1.out _)).mono ?_; rintro e w2 ⟨rfl, b2⟩; replace b2 : Below wq.heap.size wq w2 := (Below.refl _ wq).drew.trans b2; have n0 : w2.cell? ⟨wr.heap.size, 0, none⟩ = some (.pointer (some ⟨o, 5, none⟩)) := (b2.cell (p := ⟨wr.heap.size, 0, none⟩) h5).trans n0; obtain ⟨fn, tmps, assign, body, hy, hR⟩ := HY.out w2 (HB.out.trans (b2.mono HB.out.size)))
          | (refine hR.mono ?_; rintro e w3 ⟨bv, rfl, HX⟩))
        all_goals cases bv
        all_goals gi_wp2
        · refine bodyPost_ret (results_none rfl _ _ _) rfl ?_
          exact ⟨⟨_, rfl⟩, .inr (HX.out.2 trivial)⟩
        · go_roundw
          case rel => exact ⟨2, by omega, rfl, Lib.hid (HX.out.1 rfl).1, Lib.hid (HX.out.1 rfl).2⟩
          case measure => simp [intOf]
        · refine bodyPost_ret (results_none rfl _ _ _) rfl ?_
          exact ⟨⟨_, rfl⟩, .inr (HX.out.2 trivial)⟩
        · go_roundw
          case rel => exact ⟨2, by omega, rfl, Lib.hid (HX.out.1 rfl).1, Lib.hid (HX.out.1 rfl).2⟩
          case measure => simp [intOf]
        · refine bodyPost_ret (results_none rfl _ _ _) rfl ?_
          exact ⟨⟨_, rfl⟩, .inr (HX.out.2 trivial)⟩
        · go_roundw
          case rel => exact ⟨2, by omega, rfl, Lib.hid (HX.out.1 rfl).1, Lib.hid (HX.out.1 rfl).2⟩
          case measure => simp [intOf]
      | false =>
        replace HN := Lib.hid (HN.out rfl)
        clear HY
        gi_wp2
        generalize wr.alloc (.cells #[.pointer (some ⟨o, 5, none⟩), .int .i64 1] 151) = wq at *
        refine wpIn_wide.2 ?_
        have PF := fun p : Lat grows wq => p.h
        clear k0 n0 n1 r0 r1 r2 r3 r4 r5 r6 r7 r8 r9 r10
        have k0 := fun p => (Bx.b1 (((PF p).block _ (lt_of_row hQb)).trans hQb)).1
        have kr := fun p => (Bx.b11 (((PF p).block _ (lt_of_row hBb)).trans hBb)).1
        have r0 := fun p => (kr p).1
        have r1 := fun p => (kr p).2.1
        have r2 := fun p => (kr p).2.2.1
        have r3 := fun p => (kr p).2.2.2.1
        have r4 := fun p => (kr p).2.2.2.2.1
        have r5 := fun p => (kr p).2.2.2.2.2.1
        have r6 := fun p => (kr p).2.2.2.2.2.2.1
        have r7 := fun p => (kr p).2.2.2.2.2.2.2.1
        have r8 := fun p => (kr p).2.2.2.2.2.2.2.2.1
        have r9 := fun p => (kr p).2.2.2.2.2.2.2.2.2.1
        have r10 := fun p => (kr p).2.2.2.2.2.2.2.2.2.2
        have n1 := fun p => (Bx.b2 (((PF p).block _ (lt_of_row B5)).trans B5)).1.2
        clear PF kr hQb hBb B5
        refine Og.grow 13 (by kernel_rfl) (by kernel_rfl) fun hc hf => ?_
        clear hc hf
        simp only [List.take_succ_cons, List.take_zero, List.drop_succ_cons, List.drop_zero]
        repeat (refine Og.det [] rfl (fun J hJ => ?_); (try subst hvf); go_simp; generalize hvf : Value.bool false = vf; first | (refine hJ _ _ ?_; clear hJ J) | (with_reducible refine ⟨_, fun p => Og.lays (A1.out p.W), hJ _ _ ?_⟩; clear hJ J))
        subst hvf
        refine Og.fin fun W5 hW => ?_
        simp only [Og.opened_nil]
        have HX := Lib.hid (HN.out W5 (HB.out.trans (hW.mono HB.out.size)))
        clear k0 n1 r0 r1 r2 r3 r4 r5 r6 r7 r8 r9 r10
        go_wp2
        gi_wp2
        go_roundw
        case rel => exact ⟨2, by omega, rfl, Lib.hid HX.out.1, Lib.hid HX.out.2⟩
        case measure => simp [intOf]
    · have IX := fun W => idx_pl2 o W
      obtain ⟨hPb, hQb, b, hbm, hBb⟩ := HF.out
      have HS1 : bitB m 1 = true → pl m 3 = pl m 2 ++ [.vx] := fun hb => pl_yes m (k := 2) (f := .vx) rfl hb
      have HS0 : bitB m 1 = false → pl m 3 = pl m 2 := fun hb => pl_no m (k := 2) (f := .vx) rfl hb
      have A1 : Hid (∀ V, Calls Tryz.prog 108 #[b.val, .int .i64 2] V fun e w' => e = .returned (.bool (bitB m 1)) ∧ Below V.heap.size V w') := Lib.hid fun V => by
        rw [← hbm]
        exact has_one b (j := 1) (by decide) V
      have hl := pl_lt m (k := 2) (by decide)
      have HY : Hid (bitB m 1 = true → ∀ W2, Below wr.heap.size wr W2 → ∃ fn tmps assign body, (Instr.yield l #[.pointer (some ⟨o, 6, none⟩)]).run Tryz.prog W2 = .ok (.round l fn tmps assign body) W2 ∧ RoundIn Fence.wide (n - 1) Tryz.prog l fn tmps assign body W2 fun e W' => ∃ bv, e = .returned (.bool bv) ∧ Hid ((bv = true → J (pl m 3) W' ∧ NF P Q o m W') ∧ (bv = false → ∃ pre, Jx pre W'))) := Lib.hid fun hb W2 h2 => by
          obtain ⟨fn, tmps, assign, body, hy, hR⟩ := hY (pl m 2) .vx W2 (hJB _ _ _ HJ.out h2) hl
          refine ⟨fn, tmps, assign, body, hy, hR.mono ?_⟩
          have HS := HS1 hb
          rintro e W' (⟨rfl, hJ3, hk3⟩ | ⟨rfl, hJx3⟩)
          · exact ⟨true, rfl, Lib.hid ⟨fun _ => ⟨by rw [HS]; exact hJ3, hk3 (HF.out.below h2)⟩, fun h => by cases h⟩⟩
          · exact ⟨false, rfl, Lib.hid ⟨(fun h => by cases h), fun _ => ⟨_, hJx3⟩⟩⟩
      have HN : Hid (bitB m 1 = false → ∀ W2, Below wr.heap.size wr W2 → J (pl m 3) W2 ∧ NF P Q o m W2) := Lib.hid fun hb W2 h2 => by
          rw [HS0 hb]
          exact ⟨hJB _ _ _ HJ.out h2, HF.out.below h2⟩
      generalize bitB m 1 = t at *
      have B5 := at1 wr (.cells #[.pointer (some ⟨o, 6, none⟩), .int .i64 2] 151)
      have HB := Lib.hid (bel1 wr (.cells #[.pointer (some ⟨o, 6, none⟩), .int .i64 2] 151))
      replace hQb := (HB.out.block _ (lt_of_row hQb)).trans hQb
      replace hBb := (HB.out.block _ (lt_of_row hBb)).trans hBb
      clear HS1 HS0 hl HJ HF hPb hY
      obtain ⟨s, i, g, m0, x, y, vx, vy, h, p, lf⟩ := b
      simp only [Bn.val] at A1
      simp only [bnA] at hBb
      have k0 := (Bx.b1 hQb).1
      obtain ⟨⟨r0, r1, r2, r3, r4, r5, r6, r7, r8, r9, r10⟩, _⟩ := Bx.b11 hBb
      obtain ⟨⟨n0, n1⟩, _⟩ := Bx.b2 B5
      have h5 := lt_of_row B5
      clear hbm
      cases t with
      | true =>
        replace HY := Lib.hid (HY.out rfl)
        clear HN
        gi_wp2
        generalize wr.alloc (.cells #[.pointer (some ⟨o, 6, none⟩), .int .i64 2] 151) = wq at *
        gi_region_with_o (first
          | (refine ⟨trivial, ?_⟩; gi_at_call 108; refine (callsIn_wide.2 (A1.out _)).mono ?_; rintro e w2 ⟨rfl, b2⟩; replace b2 : Below wq.heap.size wq w2 := (Below.refl _ wq).drew.trans b2; have n0 : w2.cell? ⟨wr.heap.size, 0, none⟩ = some (.pointer (some ⟨o, 6, none⟩)) := (b2.cell (p := ⟨wr.heap.size, 0, none⟩) h5).trans n0; obtain ⟨fn, tmps, assign, body, hy, hR⟩ := HY.out w2 (HB.out.trans (b2.mono HB.out.size)))
          | (refine hR.mono ?_; rintro e w3 ⟨bv, rfl, HX⟩))
        all_goals cases bv
        all_goals gi_wp2
        · refine bodyPost_ret (results_none rfl _ _ _) rfl ?_
          exact ⟨⟨_, rfl⟩, .inr (HX.out.2 trivial)⟩
        · go_roundw
          case rel => exact ⟨3, by omega, rfl, Lib.hid (HX.out.1 rfl).1, Lib.hid (HX.out.1 rfl).2⟩
          case measure => simp [intOf]
        · refine bodyPost_ret (results_none rfl _ _ _) rfl ?_
          exact ⟨⟨_, rfl⟩, .inr (HX.out.2 trivial)⟩
        · go_roundw
          case rel => exact ⟨3, by omega, rfl, Lib.hid (HX.out.1 rfl).1, Lib.hid (HX.out.1 rfl).2⟩
          case measure => simp [intOf]
        · refine bodyPost_ret (results_none rfl _ _ _) rfl ?_
          exact ⟨⟨_, rfl⟩, .inr (HX.out.2 trivial)⟩
        · go_roundw
          case rel => exact ⟨3, by omega, rfl, Lib.hid (HX.out.1 rfl).1, Lib.hid (HX.out.1 rfl).2⟩
          case measure => simp [intOf]
      | false =>
        replace HN := Lib.hid (HN.out rfl)
        clear HY
        gi_wp2
        generalize wr.alloc (.cells #[.pointer (some ⟨o, 6, none⟩), .int .i64 2] 151) = wq at *
        refine wpIn_wide.2 ?_
        have PF := fun p : Lat grows wq => p.h
        clear k0 n0 n1 r0 r1 r2 r3 r4 r5 r6 r7 r8 r9 r10
        have k0 := fun p => (Bx.b1 (((PF p).block _ (lt_of_row hQb)).trans hQb)).1
        have kr := fun p => (Bx.b11 (((PF p).block _ (lt_of_row hBb)).trans hBb)).1
        have r0 := fun p => (kr p).1
        have r1 := fun p => (kr p).2.1
        have r2 := fun p => (kr p).2.2.1
        have r3 := fun p => (kr p).2.2.2.1
        have r4 := fun p => (kr p).2.2.2.2.1
        have r5 := fun p => (kr p).2.2.2.2.2.1
        have r6 := fun p => (kr p).2.2.2.2.2.2.1
        have r7 := fun p => (kr p).2.2.2.2.2.2.2.1
        have r8 := fun p => (kr p).2.2.2.2.2.2.2.2.1
        have r9 := fun p => (kr p).2.2.2.2.2.2.2.2.2.1
        have r10 := fun p => (kr p).2.2.2.2.2.2.2.2.2.2
        have n1 := fun p => (Bx.b2 (((PF p).block _ (lt_of_row B5)).trans B5)).1.2
        clear PF kr hQb hBb B5
        refine Og.grow 13 (by kernel_rfl) (by kernel_rfl) fun hc hf => ?_
        clear hc hf
        simp only [List.take_succ_cons, List.take_zero, List.drop_succ_cons, List.drop_zero]
        repeat (refine Og.det [] rfl (fun J hJ => ?_); (try subst hvf); go_simp; generalize hvf : Value.bool false = vf; first | (refine hJ _ _ ?_; clear hJ J) | (with_reducible refine ⟨_, fun p => Og.lays (A1.out p.W), hJ _ _ ?_⟩; clear hJ J))
        subst hvf
        refine Og.fin fun W5 hW => ?_
        simp only [Og.opened_nil]
        have HX := Lib.hid (HN.out W5 (HB.out.trans (hW.mono HB.out.size)))
        clear k0 n1 r0 r1 r2 r3 r4 r5 r6 r7 r8 r9 r10
        go_wp2
        gi_wp2
        go_roundw
        case rel => exact ⟨3, by omega, rfl, Lib.hid HX.out.1, Lib.hid HX.out.2⟩
        case measure => simp [intOf]
    · have IX := fun W => idx_pl3 o W
      obtain ⟨hPb, hQb, b, hbm, hBb⟩ := HF.out
      have HS1 : bitB m 1 = true → pl m 4 = pl m 3 ++ [.vy] := fun hb => pl_yes m (k := 3) (f := .vy) rfl hb
      have HS0 : bitB m 1 = false → pl m 4 = pl m 3 := fun hb => pl_no m (k := 3) (f := .vy) rfl hb
      have A1 : Hid (∀ V, Calls Tryz.prog 108 #[b.val, .int .i64 2] V fun e w' => e = .returned (.bool (bitB m 1)) ∧ Below V.heap.size V w') := Lib.hid fun V => by
        rw [← hbm]
        exact has_one b (j := 1) (by decide) V
      have hl := pl_lt m (k := 3) (by decide)
      have HY : Hid (bitB m 1 = true → ∀ W2, Below wr.heap.size wr W2 → ∃ fn tmps assign body, (Instr.yield l #[.pointer (some ⟨o, 7, none⟩)]).run Tryz.prog W2 = .ok (.round l fn tmps assign body) W2 ∧ RoundIn Fence.wide (n - 1) Tryz.prog l fn tmps assign body W2 fun e W' => ∃ bv, e = .returned (.bool bv) ∧ Hid ((bv = true → J (pl m 4) W' ∧ NF P Q o m W') ∧ (bv = false → ∃ pre, Jx pre W'))) := Lib.hid fun hb W2 h2 => by
          obtain ⟨fn, tmps, assign, body, hy, hR⟩ := hY (pl m 3) .vy W2 (hJB _ _ _ HJ.out h2) hl
          refine ⟨fn, tmps, assign, body, hy, hR.mono ?_⟩
          have HS := HS1 hb
          rintro e W' (⟨rfl, hJ3, hk3⟩ | ⟨rfl, hJx3⟩)
          · exact ⟨true, rfl, Lib.hid ⟨fun _ => ⟨by rw [HS]; exact hJ3, hk3 (HF.out.below h2)⟩, fun h => by cases h⟩⟩
          · exact ⟨false, rfl, Lib.hid ⟨(fun h => by cases h), fun _ => ⟨_, hJx3⟩⟩⟩
      have HN : Hid (bitB m 1 = false → ∀ W2, Below wr.heap.size wr W2 → J (pl m 4) W2 ∧ NF P Q o m W2) := Lib.hid fun hb W2 h2 => by
          rw [HS0 hb]
          exact ⟨hJB _ _ _ HJ.out h2, HF.out.below h2⟩
      generalize bitB m 1 = t at *
      have B5 := at1 wr (.cells #[.pointer (some ⟨o, 7, none⟩), .int .i64 2] 151)
      have HB := Lib.hid (bel1 wr (.cells #[.pointer (some ⟨o, 7, none⟩), .int .i64 2] 151))
      replace hQb := (HB.out.block _ (lt_of_row hQb)).trans hQb
      replace hBb := (HB.out.block _ (lt_of_row hBb)).trans hBb
      clear HS1 HS0 hl HJ HF hPb hY
      obtain ⟨s, i, g, m0, x, y, vx, vy, h, p, lf⟩ := b
      simp only [Bn.val] at A1
      simp only [bnA] at hBb
      have k0 := (Bx.b1 hQb).1
      obtain ⟨⟨r0, r1, r2, r3, r4, r5, r6, r7, r8, r9, r10⟩, _⟩ := Bx.b11 hBb
      obtain ⟨⟨n0, n1⟩, _⟩ := Bx.b2 B5
      have h5 := lt_of_row B5
      clear hbm
      cases t with
      | true =>
        replace HY := Lib.hid (HY.out rfl)
        clear HN
        gi_wp2
        generalize wr.alloc (.cells #[.pointer (some ⟨o, 7, none⟩), .int .i64 2] 151) = wq at *
        gi_region_with_o (first
          | (refine ⟨trivial, ?_⟩; gi_at_call 108; refine (callsIn_wide.2 (A1.out _)).mono ?_; rintro e w2 ⟨rfl, b2⟩; replace b2 : Below wq.heap.size wq w2 := (Below.refl _ wq).drew.trans b2; have n0 : w2.cell? ⟨wr.heap.size, 0, none⟩ = some (.pointer (some ⟨o, 7, none⟩)) := (b2.cell (p := ⟨wr.heap.size, 0, none⟩) h5).trans n0; obtain ⟨fn, tmps, assign, body, hy, hR⟩ := HY.out w2 (HB.out.trans (b2.mono HB.out.size)))
          | (refine hR.mono ?_; rintro e w3 ⟨bv, rfl, HX⟩))
        all_goals cases bv
        all_goals gi_wp2
        · refine bodyPost_ret (results_none rfl _ _ _) rfl ?_
          exact ⟨⟨_, rfl⟩, .inr (HX.out.2 trivial)⟩
        · go_roundw
          case rel => exact ⟨4, by omega, rfl, Lib.hid (HX.out.1 rfl).1, Lib.hid (HX.out.1 rfl).2⟩
          case measure => simp [intOf]
        · refine bodyPost_ret (results_none rfl _ _ _) rfl ?_
          exact ⟨⟨_, rfl⟩, .inr (HX.out.2 trivial)⟩
        · go_roundw
          case rel => exact ⟨4, by omega, rfl, Lib.hid (HX.out.1 rfl).1, Lib.hid (HX.out.1 rfl).2⟩
          case measure => simp [intOf]
        · refine bodyPost_ret (results_none rfl _ _ _) rfl ?_
          exact ⟨⟨_, rfl⟩, .inr (HX.out.2 trivial)⟩
        · go_roundw
          case rel => exact ⟨4, by omega, rfl, Lib.hid (HX.out.1 rfl).1, Lib.hid (HX.out.1 rfl).2⟩
          case measure => simp [intOf]
      | false =>
        replace HN := Lib.hid (HN.out rfl)
        clear HY
        gi_wp2
        generalize wr.alloc (.cells #[.pointer (some ⟨o, 7, none⟩), .int .i64 2] 151) = wq at *
        refine wpIn_wide.2 ?_
        have PF := fun p : Lat grows wq => p.h
        clear k0 n0 n1 r0 r1 r2 r3 r4 r5 r6 r7 r8 r9 r10
        have k0 := fun p => (Bx.b1 (((PF p).block _ (lt_of_row hQb)).trans hQb)).1
        have kr := fun p => (Bx.b11 (((PF p).block _ (lt_of_row hBb)).trans hBb)).1
        have r0 := fun p => (kr p).1
        have r1 := fun p => (kr p).2.1
        have r2 := fun p => (kr p).2.2.1
        have r3 := fun p => (kr p).2.2.2.1
        have r4 := fun p => (kr p).2.2.2.2.1
        have r5 := fun p => (kr p).2.2.2.2.2.1
        have r6 := fun p => (kr p).2.2.2.2.2.2.1
        have r7 := fun p => (kr p).2.2.2.2.2.2.2.1
        have r8 := fun p => (kr p).2.2.2.2.2.2.2.2.1
        have r9 := fun p => (kr p).2.2.2.2.2.2.2.2.2.1
        have r10 := fun p => (kr p).2.2.2.2.2.2.2.2.2.2
        have n1 := fun p => (Bx.b2 (((PF p).block _ (lt_of_row B5)).trans B5)).1.2
        clear PF kr hQb hBb B5
        refine Og.grow 13 (by kernel_rfl) (by kernel_rfl) fun hc hf => ?_
        clear hc hf
        simp only [List.take_succ_cons, List.take_zero, List.drop_succ_cons, List.drop_zero]
        repeat (refine Og.det [] rfl (fun J hJ => ?_); (try subst hvf); go_simp; generalize hvf : Value.bool false = vf; first | (refine hJ _ _ ?_; clear hJ J) | (with_reducible refine ⟨_, fun p => Og.lays (A1.out p.W), hJ _ _ ?_⟩; clear hJ J))
        subst hvf
        refine Og.fin fun W5 hW => ?_
        simp only [Og.opened_nil]
        have HX := Lib.hid (HN.out W5 (HB.out.trans (hW.mono HB.out.size)))
        clear k0 n1 r0 r1 r2 r3 r4 r5 r6 r7 r8 r9 r10
        go_wp2
        gi_wp2
        go_roundw
        case rel => exact ⟨4, by omega, rfl, Lib.hid HX.out.1, Lib.hid HX.out.2⟩
        case measure => simp [intOf]
    · have IX := fun W => idx_pl4 o W
      obtain ⟨hPb, hQb, b, hbm, hBb⟩ := HF.out
      have HS1 : bitB m 2 = true → pl m 5 = pl m 4 ++ [.h] := fun hb => pl_yes m (k := 4) (f := .h) rfl hb
      have HS0 : bitB m 2 = false → pl m 5 = pl m 4 := fun hb => pl_no m (k := 4) (f := .h) rfl hb
      have A1 : Hid (∀ V, Calls Tryz.prog 108 #[b.val, .int .i64 4] V fun e w' => e = .returned (.bool (bitB m 2)) ∧ Below V.heap.size V w') := Lib.hid fun V => by
        rw [← hbm]
        exact has_one b (j := 2) (by decide) V
      have hl := pl_lt m (k := 4) (by decide)
      have HY : Hid (bitB m 2 = true → ∀ W2, Below wr.heap.size wr W2 → ∃ fn tmps assign body, (Instr.yield l #[.pointer (some ⟨o, 8, none⟩)]).run Tryz.prog W2 = .ok (.round l fn tmps assign body) W2 ∧ RoundIn Fence.wide (n - 1) Tryz.prog l fn tmps assign body W2 fun e W' => ∃ bv, e = .returned (.bool bv) ∧ Hid ((bv = true → J (pl m 5) W' ∧ NF P Q o m W') ∧ (bv = false → ∃ pre, Jx pre W'))) := Lib.hid fun hb W2 h2 => by
          obtain ⟨fn, tmps, assign, body, hy, hR⟩ := hY (pl m 4) .h W2 (hJB _ _ _ HJ.out h2) hl
          refine ⟨fn, tmps, assign, body, hy, hR.mono ?_⟩
          have HS := HS1 hb
          rintro e W' (⟨rfl, hJ3, hk3⟩ | ⟨rfl, hJx3⟩)
          · exact ⟨true, rfl, Lib.hid ⟨fun _ => ⟨by rw [HS]; exact hJ3, hk3 (HF.out.below h2)⟩, fun h => by cases h⟩⟩
          · exact ⟨false, rfl, Lib.hid ⟨(fun h => by cases h), fun _ => ⟨_, hJx3⟩⟩⟩
      have HN : Hid (bitB m 2 = false → ∀ W2, Below wr.heap.size wr W2 → J (pl m 5) W2 ∧ NF P Q o m W2) := Lib.hid fun hb W2 h2 => by
          rw [HS0 hb]
          exact ⟨hJB _ _ _ HJ.out h2, HF.out.below h2⟩
      generalize bitB m 2 = t at *
      have B5 := at1 wr (.cells #[.pointer (some ⟨o, 8, none⟩), .int .i64 4] 151)
      have HB := Lib.hid (bel1 wr (.cells #[.pointer (some ⟨o, 8, none⟩), .int .i64 4] 151))
      replace hQb := (HB.out.block _ (lt_of_row hQb)).trans hQb
      replace hBb := (HB.out.block _ (lt_of_row hBb)).trans hBb
      clear HS1 HS0 hl HJ HF hPb hY
      obtain ⟨s, i, g, m0, x, y, vx, vy, h, p, lf⟩ := b
      simp only [Bn.val] at A1
      simp only [bnA] at hBb
      have k0 := (Bx.b1 hQb).1
      obtain ⟨⟨r0, r1, r2, r3, r4, r5, r6, r7, r8, r9, r10⟩, _⟩ := Bx.b11 hBb
      obtain ⟨⟨n0, n1⟩, _⟩ := Bx.b2 B5
      have h5 := lt_of_row B5
      clear hbm
      cases t with
      | true =>
        replace HY := Lib.hid (HY.out rfl)
        clear HN
        gi_wp2
        generalize wr.alloc (.cells #[.pointer (some ⟨o, 8, none⟩), .int .i64 4] 151) = wq at *
        gi_region_with_o (first
          | (refine ⟨trivial, ?_⟩; gi_at_call 108; refine (callsIn_wide.2 (A1.out _)).mono ?_; rintro e w2 ⟨rfl, b2⟩; replace b2 : Below wq.heap.size wq w2 := (Below.refl _ wq).drew.trans b2; have n0 : w2.cell? ⟨wr.heap.size, 0, none⟩ = some (.pointer (some ⟨o, 8, none⟩)) := (b2.cell (p := ⟨wr.heap.size, 0, none⟩) h5).trans n0; obtain ⟨fn, tmps, assign, body, hy, hR⟩ := HY.out w2 (HB.out.trans (b2.mono HB.out.size)))
          | (refine hR.mono ?_; rintro e w3 ⟨bv, rfl, HX⟩))
        all_goals cases bv
        all_goals gi_wp2
        · refine bodyPost_ret (results_none rfl _ _ _) rfl ?_
          exact ⟨⟨_, rfl⟩, .inr (HX.out.2 trivial)⟩
        · go_roundw
          case rel => exact ⟨5, by omega, rfl, Lib.hid (HX.out.1 rfl).1, Lib.hid (HX.out.1 rfl).2⟩
          case measure => simp [intOf]
        · refine bodyPost_ret (results_none rfl _ _ _) rfl ?_
          exact ⟨⟨_, rfl⟩, .inr (HX.out.2 trivial)⟩
        · go_roundw
          case rel => exact ⟨5, by omega, rfl, Lib.hid (HX.out.1 rfl).1, Lib.hid (HX.out.1 rfl).2⟩
          case measure => simp [intOf]
        · refine bodyPost_ret (results_none rfl _ _ _) rfl ?_
          exact ⟨⟨_, rfl⟩, .inr (HX.out.2 trivial)⟩
        · go_roundw
          case rel => exact ⟨5, by omega, rfl, Lib.hid (HX.out.1 rfl).1, Lib.hid (HX.out.1 rfl).2⟩
          case measure => simp [intOf]
      | false =>
        replace HN := Lib.hid (HN.out rfl)
        clear HY
        gi_wp2
        generalize wr.alloc (.cells #[.pointer (some ⟨o, 8, none⟩), .int .i64 4] 151) = wq at *
        refine wpIn_wide.2 ?_
        have PF := fun p : Lat grows wq => p.h
        clear k0 n0 n1 r0 r1 r2 r3 r4 r5 r6 r7 r8 r9 r10
        have k0 := fun p => (Bx.b1 (((PF p).block _ (lt_of_row hQb)).trans hQb)).1
        have kr := fun p => (Bx.b11 (((PF p).block _ (lt_of_row hBb)).trans hBb)).1
        have r0 := fun p => (kr p).1
        have r1 := fun p => (kr p).2.1
        have r2 := fun p => (kr p).2.2.1
        have r3 := fun p => (kr p).2.2.2.1
        have r4 := fun p => (kr p).2.2.2.2.1
        have r5 := fun p => (kr p).2.2.2.2.2.1
        have r6 := fun p => (kr p).2.2.2.2.2.2.1
        have r7 := fun p => (kr p).2.2.2.2.2.2.2.1
        have r8 := fun p => (kr p).2.2.2.2.2.2.2.2.1
        have r9 := fun p => (kr p).2.2.2.2.2.2.2.2.2.1
        have r10 := fun p => (kr p).2.2.2.2.2.2.2.2.2.2
        have n1 := fun p => (Bx.b2 (((PF p).block _ (lt_of_row B5)).trans B5)).1.2
        clear PF kr hQb hBb B5
        refine Og.grow 13 (by kernel_rfl) (by kernel_rfl) fun hc hf => ?_
        clear hc hf
        simp only [List.take_succ_cons, List.take_zero, List.drop_succ_cons, List.drop_zero]
        repeat (refine Og.det [] rfl (fun J hJ => ?_); (try subst hvf); go_simp; generalize hvf : Value.bool false = vf; first | (refine hJ _ _ ?_; clear hJ J) | (with_reducible refine ⟨_, fun p => Og.lays (A1.out p.W), hJ _ _ ?_⟩; clear hJ J))
        subst hvf
        refine Og.fin fun W5 hW => ?_
        simp only [Og.opened_nil]
        have HX := Lib.hid (HN.out W5 (HB.out.trans (hW.mono HB.out.size)))
        clear k0 n1 r0 r1 r2 r3 r4 r5 r6 r7 r8 r9 r10
        go_wp2
        gi_wp2
        go_roundw
        case rel => exact ⟨5, by omega, rfl, Lib.hid HX.out.1, Lib.hid HX.out.2⟩
        case measure => simp [intOf]
    · have IX := fun W => idx_pl5 o W
      obtain ⟨hPb, hQb, b, hbm, hBb⟩ := HF.out
      have HS1 : bitB m 3 = true → pl m 6 = pl m 5 ++ [.p] := fun hb => pl_yes m (k := 5) (f := .p) rfl hb
      have HS0 : bitB m 3 = false → pl m 6 = pl m 5 := fun hb => pl_no m (k := 5) (f := .p) rfl hb
      have A1 : Hid (∀ V, Calls Tryz.prog 108 #[b.val, .int .i64 8] V fun e w' => e = .returned (.bool (bitB m 3)) ∧ Below V.heap.size V w') := Lib.hid fun V => by
        rw [← hbm]
        exact has_one b (j := 3) (by decide) V
      have hl := pl_lt m (k := 5) (by decide)
      have HY : Hid (bitB m 3 = true → ∀ W2, Below wr.heap.size wr W2 → ∃ fn tmps assign body, (Instr.yield l #[.pointer (some ⟨o, 9, none⟩)]).run Tryz.prog W2 = .ok (.round l fn tmps assign body) W2 ∧ RoundIn Fence.wide (n - 1) Tryz.prog l fn tmps assign body W2 fun e W' => ∃ bv, e = .returned (.bool bv) ∧ Hid ((bv = true → J (pl m 6) W' ∧ NF P Q o m W') ∧ (bv = false → ∃ pre, Jx pre W'))) := Lib.hid fun hb W2 h2 => by
          obtain ⟨fn, tmps, assign, body, hy, hR⟩ := hY (pl m 5) .p W2 (hJB _ _ _ HJ.out h2) hl
          refine ⟨fn, tmps, assign, body, hy, hR.mono ?_⟩
          have HS := HS1 hb
          rintro e W' (⟨rfl, hJ3, hk3⟩ | ⟨rfl, hJx3⟩)
          · exact ⟨true, rfl, Lib.hid ⟨fun _ => ⟨by rw [HS]; exact hJ3, hk3 (HF.out.below h2)⟩, fun h => by cases h⟩⟩
          · exact ⟨false, rfl, Lib.hid ⟨(fun h => by cases h), fun _ => ⟨_, hJx3⟩⟩⟩
      have HN : Hid (bitB m 3 = false → ∀ W2, Below wr.heap.size wr W2 → J (pl m 6) W2 ∧ NF P Q o m W2) := Lib.hid fun hb W2 h2 => by
          rw [HS0 hb]
          exact ⟨hJB _ _ _ HJ.out h2, HF.out.below h2⟩
      generalize bitB m 3 = t at *
      have B5 := at1 wr (.cells #[.pointer (some ⟨o, 9, none⟩), .int .i64 8] 151)
      have HB := Lib.hid (bel1 wr (.cells #[.pointer (some ⟨o, 9, none⟩), .int .i64 8] 151))
      replace hQb := (HB.out.block _ (lt_of_row hQb)).trans hQb
      replace hBb := (HB.out.block _ (lt_of_row hBb)).trans hBb
      clear HS1 HS0 hl HJ HF hPb hY
      obtain ⟨s, i, g, m0, x, y, vx, vy, h, p, lf⟩ := b
      simp only [Bn.val] at A1
      simp only [bnA] at hBb
      have k0 := (Bx.b1 hQb).1
      obtain ⟨⟨r0, r1, r2, r3, r4, r5, r6, r7, r8, r9, r10⟩, _⟩ := Bx.b11 hBb
      obtain ⟨⟨n0, n1⟩, _⟩ := Bx.b2 B5
      have h5 := lt_of_row B5
      clear hbm
      cases t with
      | true =>
        replace HY := Lib.hid (HY.out rfl)
        clear HN
        gi_wp2
        generalize wr.alloc (.cells #[.pointer (some ⟨o, 9, none⟩), .int .i64 8] 151) = wq at *
        gi_region_with_o (first
          | (refine ⟨trivial, ?_⟩; gi_at_call 108; refine (callsIn_wide.2 (A1.out _)).mono ?_; rintro e w2 ⟨rfl, b2⟩; replace b2 : Below wq.heap.size wq w2 := (Below.refl _ wq).drew.trans b2; have n0 : w2.cell? ⟨wr.heap.size, 0, none⟩ = some (.pointer (some ⟨o, 9, none⟩)) := (b2.cell (p := ⟨wr.heap.size, 0, none⟩) h5).trans n0; obtain ⟨fn, tmps, assign, body, hy, hR⟩ := HY.out w2 (HB.out.trans (b2.mono HB.out.size)))
          | (refine hR.mono ?_; rintro e w3 ⟨bv, rfl, HX⟩))
        all_goals cases bv
        all_goals gi_wp2
        · refine bodyPost_ret (results_none rfl _ _ _) rfl ?_
          exact ⟨⟨_, rfl⟩, .inr (HX.out.2 trivial)⟩
        · go_roundw
          case rel => exact ⟨6, by omega, rfl, Lib.hid (HX.out.1 rfl).1, Lib.hid (HX.out.1 rfl).2⟩
          case measure => simp [intOf]
        · refine bodyPost_ret (results_none rfl _ _ _) rfl ?_
          exact ⟨⟨_, rfl⟩, .inr (HX.out.2 trivial)⟩
        · go_roundw
          case rel => exact ⟨6, by omega, rfl, Lib.hid (HX.out.1 rfl).1, Lib.hid (HX.out.1 rfl).2⟩
          case measure => simp [intOf]
        · refine bodyPost_ret (results_none rfl _ _ _) rfl ?_
          exact ⟨⟨_, rfl⟩, .inr (HX.out.2 trivial)⟩
        · go_roundw
          case rel => exact ⟨6, by omega, rfl, Lib.hid (HX.out.1 rfl).1, Lib.hid (HX.out.1 rfl).2⟩
          case measure => simp [intOf]
      | false =>
        replace HN := Lib.hid (HN.out rfl)
        clear HY
        gi_wp2
        generalize wr.alloc (.cells #[.pointer (some ⟨o, 9, none⟩), .int .i64 8] 151) = wq at *
        refine wpIn_wide.2 ?_
        have PF := fun p : Lat grows wq => p.h
        clear k0 n0 n1 r0 r1 r2 r3 r4 r5 r6 r7 r8 r9 r10
        have k0 := fun p => (Bx.b1 (((PF p).block _ (lt_of_row hQb)).trans hQb)).1
        have kr := fun p => (Bx.b11 (((PF p).block _ (lt_of_row hBb)).trans hBb)).1
        have r0 := fun p => (kr p).1
        have r1 := fun p => (kr p).2.1
        have r2 := fun p => (kr p).2.2.1
        have r3 := fun p => (kr p).2.2.2.1
        have r4 := fun p => (kr p).2.2.2.2.1
        have r5 := fun p => (kr p).2.2.2.2.2.1
        have r6 := fun p => (kr p).2.2.2.2.2.2.1
        have r7 := fun p => (kr p).2.2.2.2.2.2.2.1
        have r8 := fun p => (kr p).2.2.2.2.2.2.2.2.1
        have r9 := fun p => (kr p).2.2.2.2.2.2.2.2.2.1
        have r10 := fun p => (kr p).2.2.2.2.2.2.2.2.2.2
        have n1 := fun p => (Bx.b2 (((PF p).block _ (lt_of_row B5)).trans B5)).1.2
        clear PF kr hQb hBb B5
        refine Og.grow 13 (by kernel_rfl) (by kernel_rfl) fun hc hf => ?_
        clear hc hf
        simp only [List.take_succ_cons, List.take_zero, List.drop_succ_cons, List.drop_zero]
        repeat (refine Og.det [] rfl (fun J hJ => ?_); (try subst hvf); go_simp; generalize hvf : Value.bool false = vf; first | (refine hJ _ _ ?_; clear hJ J) | (with_reducible refine ⟨_, fun p => Og.lays (A1.out p.W), hJ _ _ ?_⟩; clear hJ J))
        subst hvf
        refine Og.fin fun W5 hW => ?_
        simp only [Og.opened_nil]
        have HX := Lib.hid (HN.out W5 (HB.out.trans (hW.mono HB.out.size)))
        clear k0 n1 r0 r1 r2 r3 r4 r5 r6 r7 r8 r9 r10
        go_wp2
        gi_wp2
        go_roundw
        case rel => exact ⟨6, by omega, rfl, Lib.hid HX.out.1, Lib.hid HX.out.2⟩
        case measure => simp [intOf]
    · have IX := fun W => idx_pl6 o W
      obtain ⟨hPb, hQb, b, hbm, hBb⟩ := HF.out
      have HS1 : bitB m 4 = true → pl m 7 = pl m 6 ++ [.l] := fun hb => pl_yes m (k := 6) (f := .l) rfl hb
      have HS0 : bitB m 4 = false → pl m 7 = pl m 6 := fun hb => pl_no m (k := 6) (f := .l) rfl hb
      have A1 : Hid (∀ V, Calls Tryz.prog 108 #[b.val, .int .i64 16] V fun e w' => e = .returned (.bool (bitB m 4)) ∧ Below V.heap.size V w') := Lib.hid fun V => by
        rw [← hbm]
        exact has_one b (j := 4) (by decide) V
      have hl := pl_lt m (k := 6) (by decide)
      have HY : Hid (bitB m 4 = true → ∀ W2, Below wr.heap.size wr W2 → ∃ fn tmps assign body, (Instr.yield l #[.pointer (some ⟨o, 10, none⟩)]).run Tryz.prog W2 = .ok (.round l fn tmps assign body) W2 ∧ RoundIn Fence.wide (n - 1) Tryz.prog l fn tmps assign body W2 fun e W' => ∃ bv, e = .returned (.bool bv) ∧ Hid ((bv = true → J (pl m 7) W' ∧ NF P Q o m W') ∧ (bv = false → ∃ pre, Jx pre W'))) := Lib.hid fun hb W2 h2 => by
          obtain ⟨fn, tmps, assign, body, hy, hR⟩ := hY (pl m 6) .l W2 (hJB _ _ _ HJ.out h2) hl
          refine ⟨fn, tmps, assign, body, hy, hR.mono ?_⟩
          have HS := HS1 hb
          rintro e W' (⟨rfl, hJ3, hk3⟩ | ⟨rfl, hJx3⟩)
          · exact ⟨true, rfl, Lib.hid ⟨fun _ => ⟨by rw [HS]; exact hJ3, hk3 (HF.out.below h2)⟩, fun h => by cases h⟩⟩
          · exact ⟨false, rfl, Lib.hid ⟨(fun h => by cases h), fun _ => ⟨_, hJx3⟩⟩⟩
      have HN : Hid (bitB m 4 = false → ∀ W2, Below wr.heap.size wr W2 → J (pl m 7) W2 ∧ NF P Q o m W2) := Lib.hid fun hb W2 h2 => by
          rw [HS0 hb]
          exact ⟨hJB _ _ _ HJ.out h2, HF.out.below h2⟩
      generalize bitB m 4 = t at *
      have B5 := at1 wr (.cells #[.pointer (some ⟨o, 10, none⟩), .int .i64 16] 151)
      have HB := Lib.hid (bel1 wr (.cells #[.pointer (some ⟨o, 10, none⟩), .int .i64 16] 151))
      replace hQb := (HB.out.block _ (lt_of_row hQb)).trans hQb
      replace hBb := (HB.out.block _ (lt_of_row hBb)).trans hBb
      clear HS1 HS0 hl HJ HF hPb hY
      obtain ⟨s, i, g, m0, x, y, vx, vy, h, p, lf⟩ := b
      simp only [Bn.val] at A1
      simp only [bnA] at hBb
      have k0 := (Bx.b1 hQb).1
      obtain ⟨⟨r0, r1, r2, r3, r4, r5, r6, r7, r8, r9, r10⟩, _⟩ := Bx.b11 hBb
      obtain ⟨⟨n0, n1⟩, _⟩ := Bx.b2 B5
      have h5 := lt_of_row B5
      clear hbm
      cases t with
      | true =>
        replace HY := Lib.hid (HY.out rfl)
        clear HN
        gi_wp2
        generalize wr.alloc (.cells #[.pointer (some ⟨o, 10, none⟩), .int .i64 16] 151) = wq at *
        gi_region_with_o (first
          | (refine ⟨trivial, ?_⟩; gi_at_call 108; refine (callsIn_wide.2 (A1.out _)).mono ?_; rintro e w2 ⟨rfl, b2⟩; replace b2 : Below wq.heap.size wq w2 := (Below.refl _ wq).drew.trans b2; have n0 : w2.cell? ⟨wr.heap.size, 0, none⟩ = some (.pointer (some ⟨o, 10, none⟩)) := (b2.cell (p := ⟨wr.heap.size, 0, none⟩) h5).trans n0; obtain ⟨fn, tmps, assign, body, hy, hR⟩ := HY.out w2 (HB.out.trans (b2.mono HB.out.size)))
          | (refine hR.mono ?_; rintro e w3 ⟨bv, rfl, HX⟩))
        all_goals cases bv
        all_goals gi_wp2
        · refine bodyPost_ret (results_none rfl _ _ _) rfl ?_
          exact ⟨⟨_, rfl⟩, .inr (HX.out.2 trivial)⟩
        · go_roundw
          case rel => exact ⟨7, by omega, rfl, Lib.hid (HX.out.1 rfl).1, Lib.hid (HX.out.1 rfl).2⟩
          case measure => simp [intOf]
        · refine bodyPost_ret (results_none rfl _ _ _) rfl ?_
          exact ⟨⟨_, rfl⟩, .inr (HX.out.2 trivial)⟩
        · go_roundw
          case rel => exact ⟨7, by omega, rfl, Lib.hid (HX.out.1 rfl).1, Lib.hid (HX.out.1 rfl).2⟩
          case measure => simp [intOf]
        · refine bodyPost_ret (results_none rfl _ _ _) rfl ?_
          exact ⟨⟨_, rfl⟩, .inr (HX.out.2 trivial)⟩
        · go_roundw
          case rel => exact ⟨7, by omega, rfl, Lib.hid (HX.out.1 rfl).1, Lib.hid (HX.out.1 rfl).2⟩
          case measure => simp [intOf]
      | false =>
        replace HN := Lib.hid (HN.out rfl)
        clear HY
        gi_wp2
        generalize wr.alloc (.cells #[.pointer (some ⟨o, 10, none⟩), .int .i64 16] 151) = wq at *
        refine wpIn_wide.2 ?_
        have PF := fun p : Lat grows wq => p.h
        clear k0 n0 n1 r0 r1 r2 r3 r4 r5 r6 r7 r8 r9 r10
        have k0 := fun p => (Bx.b1 (((PF p).block _ (lt_of_row hQb)).trans hQb)).1
        have kr := fun p => (Bx.b11 (((PF p).block _ (lt_of_row hBb)).trans hBb)).1
        have r0 := fun p => (kr p).1
        have r1 := fun p => (kr p).2.1
        have r2 := fun p => (kr p).2.2.1
        have r3 := fun p => (kr p).2.2.2.1
        have r4 := fun p => (kr p).2.2.2.2.1
        have r5 := fun p => (kr p).2.2.2.2.2.1
        have r6 := fun p => (kr p).2.2.2.2.2.2.1
        have r7 := fun p => (kr p).2.2.2.2.2.2.2.1
        have r8 := fun p => (kr p).2.2.2.2.2.2.2.2.1
        have r9 := fun p => (kr p).2.2.2.2.2.2.2.2.2.1
        have r10 := fun p => (kr p).2.2.2.2.2.2.2.2.2.2
        have n1 := fun p => (Bx.b2 (((PF p).block _ (lt_of_row B5)).trans B5)).1.2
        clear PF kr hQb hBb B5
        refine Og.grow 13 (by kernel_rfl) (by kernel_rfl) fun hc hf => ?_
        clear hc hf
        simp only [List.take_succ_cons, List.take_zero, List.drop_succ_cons, List.drop_zero]
        repeat (refine Og.det [] rfl (fun J hJ => ?_); (try subst hvf); go_simp; generalize hvf : Value.bool false = vf; first | (refine hJ _ _ ?_; clear hJ J) | (with_reducible refine ⟨_, fun p => Og.lays (A1.out p.W), hJ _ _ ?_⟩; clear hJ J))
        subst hvf
        refine Og.fin fun W5 hW => ?_
        simp only [Og.opened_nil]
        have HX := Lib.hid (HN.out W5 (HB.out.trans (hW.mono HB.out.size)))
        clear k0 n1 r0 r1 r2 r3 r4 r5 r6 r7 r8 r9 r10
        go_wp2
        gi_wp2
        go_roundw
        case rel => exact ⟨7, by omega, rfl, Lib.hid HX.out.1, Lib.hid HX.out.2⟩
        case measure => simp [intOf]
    · gi_wp2
      go_end0
      exact ⟨⟨_, rfl⟩, .inl HJ.out⟩
end Go.Proofs.YtdhlebmgeiiejaaGreat
