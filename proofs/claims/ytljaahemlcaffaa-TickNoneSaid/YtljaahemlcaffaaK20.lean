/- The code: a command is done. The document's takes. Written by wip/tools/gensy.py. The document's parts: Sorted. Written by wip/tools/genso.py. Rows of hits; the document's Hits, Same. Written by wip/tools/gensy.py. -/
import Derived.Test.YtljaahemlcaffaaK16
import Derived.Test.YtljaahemlcaffaaK19
import Derived.Test.YtljaahemlcaffaaK07
import Derived.Test.YtljaahemlcaffaaK04
import Derived.Test.YtljaahemlcaffaaK02
import Derived.Test.YtljaahemlcaffaaK18
import Derived.Deep.DeepCutAuto
import Derived.Test.YtljaahemlcaffaaK11
import Derived.Test.YtljaahemlcaffaaK03
import Derived.Test.YtljaahemlcaffaaK05
import Derived.BigQuiet
namespace Go.Proofs.Ytljaahemlcaffaa
open Go.RowKit Pz Sp Go.Shelf
set_option linter.unusedVariables false
set_option linter.unusedSimpArgs false

theorem here_zone {C R S z : Int} (hz : -1 ≤ z) (b : Bn) : (hereC C R S z b && decide (0 ≤ Zn.of C R S b.x b.y)) = Tk.inZone C R S z b := by
  unfold hereC Tk.inZone
  have e : decide (z = -1) = decide (z < 0) := by rw [decide_eq_decide]; omega
  rw [e, Bool.and_comm]
theorem here_is {C R S z : Int} (hz : -1 ≤ z) : hereC C R S z = Tk.here C R S z := by
  funext b
  unfold hereC Tk.here
  have e : decide (z = -1) = decide (z < 0) := by rw [decide_eq_decide]; omega
  rw [e]
/-- a stage with its rows -/
abbrev Stg (p q : Nat) (z : Int) (A : Option Addr) (c : Nat) (v2 v3 : Value) (s : Tk.St) (L : List Piece) : List Piece := box p (stO q z (.slice A s.1.length c) v2 v3) :: rowB (.slice A s.1.length c) s.1 :: row nkE 53 3 v3 s.2 :: L
set_option maxHeartbeats 8000000 in
set_option maxRecDepth 100000 in
theorem cdo_any {w W : World} {L : List Piece} {p q : Nat} (cC cR cS cD cV cN cQ z : Int) (hq : MapAt w q cC cR cS cD cV cN cQ) (ok : Zn.Ok cC cR cS cD cV) (hz : -1 ≤ z) {A : Option Addr} {c0 : Nat} {v2 v3 : Value} {s : Tk.St}
    (H : Sep w (Stg p q z A c0 v2 v3 s L) W) (hl : s.1.length + s.2.length ≤ 700000) (c : Cn) (hc : Tk.Fi c.b) :
    Calls Try.prog 15 #[.pointer (some ⟨p, 0, none⟩), c.val] W fun e V => e = .returned (.tuple #[]) ∧ ∃ A' c' v3', Sep w (Stg p q z A' c' v2 v3' (Tk.cmdC cC cR cS z s c) L) V := by
  obtain ⟨l, d⟩ := s
  have H1 := Lib.hid (show Sep w (Stg p q z A c0 v2 v3 (l, d) (box W.heap.size (.cells #[.int .i64 c.k, .int .i64 c.s, .int .i64 c.i, .int .i64 c.g, .int .i64 c.b.s, .int .i64 c.b.i, .int .i64 c.b.g, .int .i64 c.b.m, .int .i64 c.b.x, .int .i64 c.b.y, .int .i64 c.b.vx, .int .i64 c.b.vy, .int .i64 c.b.h, .int .i64 c.b.p, .int .i64 c.b.l, .int .i64 c.m] 57) :: L)) (W.alloc (.cells #[.int .i64 c.k, .int .i64 c.s, .int .i64 c.i, .int .i64 c.g, .int .i64 c.b.s, .int .i64 c.b.i, .int .i64 c.b.g, .int .i64 c.b.m, .int .i64 c.b.x, .int .i64 c.b.y, .int .i64 c.b.vx, .int .i64 c.b.vy, .int .i64 c.b.h, .int .i64 c.b.p, .int .i64 c.b.l, .int .i64 c.m] 57)) from by
    have h1 := sep_box H (.cells #[.int .i64 c.k, .int .i64 c.s, .int .i64 c.i, .int .i64 c.g, .int .i64 c.b.s, .int .i64 c.b.i, .int .i64 c.b.g, .int .i64 c.b.m, .int .i64 c.b.x, .int .i64 c.b.y, .int .i64 c.b.vx, .int .i64 c.b.vy, .int .i64 c.b.h, .int .i64 c.b.p, .int .i64 c.b.l, .int .i64 c.m] 57)
    have h2 := Sep.pull h1 3 rfl
    have h3 := Sep.pull h2 3 rfl
    exact Sep.pull h3 3 rfl)
  have SPC := Lib.hid fun V (h : Sep w (Stg p q z A c0 v2 v3 (l, d) (box W.heap.size (.cells #[.int .i64 c.k, .int .i64 c.s, .int .i64 c.i, .int .i64 c.g, .int .i64 c.b.s, .int .i64 c.b.i, .int .i64 c.b.g, .int .i64 c.b.m, .int .i64 c.b.x, .int .i64 c.b.y, .int .i64 c.b.vx, .int .i64 c.b.vy, .int .i64 c.b.h, .int .i64 c.b.p, .int .i64 c.b.l, .int .i64 c.m] 57) :: L)) V) => cspawn_any cC cR cS cD cV cN cQ z hq ok h (Nat.le_trans (Nat.le_trans (Nat.le_add_right _ _) hl) (by decide)) c.b hc
  have EAC := Lib.hid fun V (h : Sep w (Stg p q z A c0 v2 v3 (l, d) (box W.heap.size (.cells #[.int .i64 c.k, .int .i64 c.s, .int .i64 c.i, .int .i64 c.g, .int .i64 c.b.s, .int .i64 c.b.i, .int .i64 c.b.g, .int .i64 c.b.m, .int .i64 c.b.x, .int .i64 c.b.y, .int .i64 c.b.vx, .int .i64 c.b.vy, .int .i64 c.b.h, .int .i64 c.b.p, .int .i64 c.b.l, .int .i64 c.m] 57) :: L)) V) => each_any h (fn := 38) (f := Tk.obeys c) (cb := #[.pointer (some ⟨W.heap.size, 0, none⟩)]) ⟨em_do, fun b hb V hV => do1_any b c W.heap.size V (hV.held 0 rfl)⟩ (Nat.le_trans hl (by decide))
  have YES : Hid (c.k = 1 → Tk.cmdC cC cR cS z (l, d) c = (insC cC cR cS z l c.b, d)) := Lib.hid fun h => by
    unfold Tk.cmdC insC
    rw [if_pos h, here_zone hz]
    split <;> rfl
  have NO : Hid (¬ c.k = 1 → Tk.cmdC cC cR cS z (l, d) c = (Tk.kept (Tk.obeys c) l, d ++ Tk.lost (Tk.obeys c) l)) := Lib.hid fun h => by
    unfold Tk.cmdC Tk.eachC
    rw [if_neg h]
  clear H hq ok hc hl hz
  generalize Tk.cmdC cC cR cS z (l, d) c = R at *
  generalize insC cC cR cS z l c.b = I at *
  generalize Tk.kept (Tk.obeys c) l = K at *
  generalize Tk.lost (Tk.obeys c) l = D at *
  obtain ⟨c0_, c5, c6, c7, c8, c9, c10, c11, c12, c13, c14, c15, c16, c17, c18, c19⟩ := (Bx.b16 (H1.out.held 3 rfl)).1
  obtain ⟨ck, cs_, ci_, cg_, ⟨cs, ci, cg, cm, cx, cy, cvx, cvy, ch, cp, cl⟩, cm_⟩ := c
  simp only [Bn.val, Cn.val] at *
  generalize hww : W.alloc (.cells #[.int .i64 ck, .int .i64 cs_, .int .i64 ci_, .int .i64 cg_, .int .i64 cs, .int .i64 ci, .int .i64 cg, .int .i64 cm, .int .i64 cx, .int .i64 cy, .int .i64 cvx, .int .i64 cvy, .int .i64 ch, .int .i64 cp, .int .i64 cl, .int .i64 cm_] 57) = w1 at *
  by_cases hk : ck = 1
  · have HR := Lib.hid (YES.out hk)
    subst hk
    have CI := Lib.hid (SPC.out w1 H1.out)
    clear YES NO SPC EAC
    go_enter Try.func15, Try.ntmps15
    go_wp2_with (go_at_call 37; with_reducible refine CI.out.mono ?_; rintro e w2 ⟨rfl, A', c', h2⟩; have H2 := Lib.hid h2; clear h2 CI)
    refine bodyPost_ret (results_none rfl _ _ _) rfl ⟨rfl, A', c', v3, ?_⟩
    rw [HR.out]
    exact (Sep.pull H2.out 3 rfl).drop
  · have HR := Lib.hid (NO.out hk)
    have t1 : (ck == 1) = false := beq_eq_false_iff_ne.2 hk
    have CI := Lib.hid (EAC.out w1 H1.out)
    clear YES NO SPC EAC
    go_enter Try.func15, Try.ntmps15
    go_wp2_with (go_at_call 16; with_reducible refine CI.out.mono ?_; rintro e w2 ⟨rfl, A', c', v3', h2⟩; have H2 := Lib.hid h2; clear h2 CI)
    go_end0
    refine ⟨rfl, A', c', v3', ?_⟩
    rw [HR.out]
    exact (Sep.pull H2.out 3 rfl).drop
end Go.Proofs.Ytljaahemlcaffaa
namespace Go.Proofs.Ytljaahemlcaffaa
open Go.RowKit Pz Sp
set_option linter.unusedVariables false
set_option linter.unusedSimpArgs false

end Go.Proofs.Ytljaahemlcaffaa
namespace Go.Proofs.Ytljaahemlcaffaa
open Go.RowKit Pz
set_option linter.unusedVariables false

end Go.Proofs.Ytljaahemlcaffaa
namespace Go.Proofs.Ytljaahemlcaffaa
open Go.RowKit Pz Sp
set_option linter.unusedVariables false
set_option linter.unusedSimpArgs false

abbrev HK := (Int × Int × Int) × Int
abbrev htE (x : HK) : List Value := [.int .i64 x.1.1, .int .i64 x.1.2.1, .int .i64 x.1.2.2, .int .i64 x.2]
abbrev OwnH (W : World) (B : Nat) (v : Value) (l : List HK) : Prop := Rw htE 75 4 W B v l
theorem htE_len (x : HK) : (htE x).length = 4 := rfl
theorem htE_one (x : HK) : ∀ u ∈ htE x, u.oneCell' = true := by
  intro u hu
  simp only [htE, List.mem_cons, List.not_mem_nil, or_false] at hu
  rcases hu with rfl | rfl | rfl | rfl <;> rfl
theorem hit_info : (Try.prog.info? 75).map (fun i => (i.zero, i.size, i.bytes)) = some (some (.agg #[.int .i64 0, .int .i64 0, .int .i64 0, .int .i64 0]), 4, 32) := by kernel_rfl
theorem b_hit (a b c d : Int) (V : World) : (Instr.build 75 #[(0, .agg #[.int .i64 a, .int .i64 b, .int .i64 c]), (1, .int .i64 d)]).run Try.prog V = .ok (.agg #[.int .i64 a, .int .i64 b, .int .i64 c, .int .i64 d]) V := by kernel_rfl
theorem b_hits (a b c d : Int) (V : World) : (Instr.buildSlice 50 1 #[(0, .agg #[.int .i64 a, .int .i64 b, .int .i64 c, .int .i64 d])]).run Try.prog V = .ok (.slice (some ⟨V.heap.size, 0, none⟩) 1 1) (V.alloc (.cells #[.int .i64 a, .int .i64 b, .int .i64 c, .int .i64 d] 75)) := by kernel_rfl
theorem hit_at {W : World} {B c n : Nat} {A : Option Addr} {l : List HK} (h : OwnH W B (.slice A n c) l) {j : Nat} {x : HK} (hk : l[j]? = some x) : ∃ g o, A = some ⟨g, o, none⟩ ∧ g < W.heap.size ∧ (W.cell? ⟨g, o + j * 4, none⟩ = some (.int .i64 x.1.1) ∧ W.cell? ⟨g, o + j * 4 + 1, none⟩ = some (.int .i64 x.1.2.1) ∧ W.cell? ⟨g, o + j * 4 + 2, none⟩ = some (.int .i64 x.1.2.2) ∧ W.cell? ⟨g, o + j * 4 + 3, none⟩ = some (.int .i64 x.2)) := by
  obtain ⟨g, o, c', e, hB, hg, hc⟩ := h.at_ hk
  cases e
  exact ⟨g, o, rfl, hg, (hc 0 _ rfl).1, (hc 1 _ rfl).1, (hc 2 _ rfl).1, (hc 3 _ rfl).1⟩
section
variable {w W V : World} {L : List Piece}
/-- a hit more -/
theorem hit_push {v : Value} {xs : List HK} (h : Sep w (row htE 75 4 v xs :: L) W) (x : HK) (hn : xs.length + 1 ≤ 1000000) :
    ∃ A' c' V, (Builtin.append_ #[50, 50] 50 #[v, .slice (some ⟨W.heap.size, 0, none⟩) 1 1]).run Try.prog (W.alloc (.cells #[.int .i64 x.1.1, .int .i64 x.1.2.1, .int .i64 x.1.2.2, .int .i64 x.2] 75)) = .ok (.slice A' (xs.length + 1) c') V ∧ Sep w (row htE 75 4 (.slice A' (xs.length + 1) c') (xs ++ [x]) :: L) V := by
  obtain ⟨G, ⟨h1, h2⟩, _, next⟩ := h.one
  obtain ⟨v', V, hr, ho, hg, hv, _⟩ := app_x (enc := htE) (T := 75) (s := 4) (t := 50) Try.underlying50 hit_info rfl (by decide) htE_len htE_one h1 (Nat.zero_le _) x hn (by decide) 50
  obtain ⟨A', c', rfl⟩ := ho.form
  have el : (xs ++ [x]).length = xs.length + 1 := by simp
  rw [el] at hr ho hv
  exact ⟨A', c', V, hr, next V (row htE 75 4 _ (xs ++ [x])) (fun k => (Value.slice A' (xs.length + 1) c').ownBlock = some k) ⟨hg.os, hg.tape, hg.output, hg.size, fun k hk hn => hg.block k hk fun e => hn ((h2 k).2 e.symm)⟩ ⟨ho, fun k => Iff.rfl⟩ fun k hk => (hv k hk).imp (fun e => (h2 k).2 e) id⟩
end
theorem fm_take {α β : Type} (f : α → Option β) {l : List α} {j : Nat} (hj : j < l.length) : (l.take (j + 1)).filterMap f = (l.take j).filterMap f ++ (f l[j]).toList := by
  rw [List.take_add_one, List.getElem?_eq_getElem hj, List.filterMap_append]
  cases h : f l[j] <;> simp [h]
end Go.Proofs.Ytljaahemlcaffaa
