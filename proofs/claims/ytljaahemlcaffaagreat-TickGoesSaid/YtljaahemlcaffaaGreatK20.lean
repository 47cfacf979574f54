/- The code: a command is done. The document's takes. Written by wip/tools/gensy.py. The document's parts: Sorted. Written by wip/tools/genso.py. Rows of hits; the document's Hits, Same. Written by wip/tools/gensy.py. -/
import Derived.Test.YtljaahemlcaffaaGreatK16
import Derived.Test.YtljaahemlcaffaaGreatK19
import Derived.Test.YtljaahemlcaffaaGreatK07
import Derived.Test.YtljaahemlcaffaaGreatK04
import Derived.Test.YtljaahemlcaffaaGreatK02
import Derived.Test.YtljaahemlcaffaaGreatK18
import Derived.Deep.DeepCutAuto
import Derived.Test.YtljaahemlcaffaaGreatK11
import Derived.Test.YtljaahemlcaffaaGreatK03
import Derived.Test.YtljaahemlcaffaaGreatK05
import Derived.BigQuiet
namespace Go.Proofs.YtljaahemlcaffaaGreat
open Go.RowKit Pz Sp Go.Shelf
set_option linter.unusedVariables false
set_option linter.unusedSimpArgs false

theorem here_zone {C R S z : Int} (hz : -1 ≤ z) (b : Bn) : (hereC C R S z b && decide (0 ≤ Zn.of C R S b.x b.y)) = Tk.inZone C R S z b := by
  unfold hereC Tk.inZone
  have e : decide (z = -1) = decide (z < 0) := by rw [decide_eq_decide]; omega
  rw [e, Bool.and_comm]
theorem here_is {C R S z : Int} (hz : -1 ≤ z) : hereC C R S z = Tk.here C R S z := by
  funext b
  unfold hereC Tk.here
  have e : decide (z = -1) = decide (z < 0) := by rw [decide_eq_decide]; omega
  rw [e]
/-- a stage with its rows -/
abbrev Stg (p q : Nat) (z : Int) (A : Option Addr) (c : Nat) (v2 v3 : Value) (s : Tk.St) (L : List Piece) : List Piece := box p (stO q z (.slice A s.1.length c) v2 v3) :: rowB (.slice A s.1.length c) s.1 :: row nkE 40 3 v3 s.2 :: L
set_option maxHeartbeats 8000000 in
set_option maxRecDepth 100000 in
theorem cdo_any {w W : World} {L : List Piece} {p q : Nat} (cC cR cS cD cV cN cQ z : Int) (hq : MapAt w q cC cR cS cD cV cN cQ) (ok : Zn.Ok cC cR cS cD cV) (hz : -1 ≤ z) {A : Option Addr} {c0 : Nat} {v2 v3 : Value} {s : Tk.St}
    (H : Sep w (Stg p q z A c0 v2 v3 s L) W) (hl : s.1.length + s.2.length ≤ 700000) (c : Cn) (hc : Tk.Fi c.b) :
    Calls Tryz.prog 35 #[.pointer (some ⟨p, 0, none⟩), c.val] W fun e V => e = .returned (.tuple #[]) ∧ ∃ A' c' v3', Sep w (Stg p q z A' c' v2 v3' (Tk.cmdC cC cR cS z s c) L) V := by
  obtain ⟨l, d⟩ := s
  have H1 := Lib.hid (show Sep w (Stg p q z A c0 v2 v3 (l, d) (box W.heap.size (.cells #[.int .i64 c.k, .int .i64 c.s, .int .i64 c.i, .int .i64 c.g, .int .i64 c.b.s, .int .i64 c.b.i, .int .i64 c.b.g, .int .i64 c.b.m, .int .i64 c.b.x, .int .i64 c.b.y, .int .i64 c.b.vx, .int .i64 c.b.vy, .int .i64 c.b.h, .int .i64 c.b.p, .int .i64 c.b.l, .int .i64 c.m] 55) :: L)) (W.alloc (.cells #[.int .i64 c.k, .int .i64 c.s, .int .i64 c.i, .int .i64 c.g, .int .i64 c.b.s, .int .i64 c.b.i, .int .i64 c.b.g, .int .i64 c.b.m, .int .i64 c.b.x, .int .i64 c.b.y, .int .i64 c.b.vx, .int .i64 c.b.vy, .int .i64 c.b.h, .int .i64 c.b.p, .int .i64 c.b.l, .int .i64 c.m] 55)) from by
    have h1 := sep_box H (.cells #[.int .i64 c.k, .int .i64 c.s, .int .i64 c.i, .int .i64 c.g, .int .i64 c.b.s, .int .i64 c.b.i, .int .i64 c.b.g, .int .i64 c.b.m, .int .i64 c.b.x, .int .i64 c.b.y, .int .i64 c.b.vx, .int .i64 c.b.vy, .int .i64 c.b.h, .int .i64 c.b.p, .int .i64 c.b.l, .int .i64 c.m] 55)
    have h2 := Sep.pull h1 3 rfl
    have h3 := Sep.pull h2 3 rfl
    exact Sep.pull h3 3 rfl)
  have SPC := Lib.hid fun V (h : Sep w (Stg p q z A c0 v2 v3 (l, d) (box W.heap.size (.cells #[.int .i64 c.k, .int .i64 c.s, .int .i64 c.i, .int .i64 c.g, .int .i64 c.b.s, .int .i64 c.b.i, .int .i64 c.b.g, .int .i64 c.b.m, .int .i64 c.b.x, .int .i64 c.b.y, .int .i64 c.b.vx, .int .i64 c.b.vy, .int .i64 c.b.h, .int .i64 c.b.p, .int .i64 c.b.l, .int .i64 c.m] 55) :: L)) V) => cspawn_any cC cR cS cD cV cN cQ z hq ok h (Nat.le_trans (Nat.le_trans (Nat.le_add_right _ _) hl) (by decide)) c.b hc
  have EAC := Lib.hid fun V (h : Sep w (Stg p q z A c0 v2 v3 (l, d) (box W.heap.size (.cells #[.int .i64 c.k, .int .i64 c.s, .int .i64 c.i, .int .i64 c.g, .int .i64 c.b.s, .int .i64 c.b.i, .int .i64 c.b.g, .int .i64 c.b.m, .int .i64 c.b.x, .int .i64 c.b.y, .int .i64 c.b.vx, .int .i64 c.b.vy, .int .i64 c.b.h, .int .i64 c.b.p, .int .i64 c.b.l, .int .i64 c.m] 55) :: L)) V) => each_any h (fn := 71) (f := Tk.obeys c) (cb := #[.pointer (some ⟨W.heap.size, 0, none⟩)]) ⟨em_do, fun b hb V hV => do1_any b c W.heap.size V (hV.held 0 rfl)⟩ (Nat.le_trans hl (by decide))
  have YES : Hid (c.k = 1 → Tk.cmdC cC cR cS z (l, d) c = (insC cC cR cS z l c.b, d)) := Lib.hid fun h => by
    unfold Tk.cmdC insC
    rw [if_pos h, here_zone hz]
    split <;> rfl
  have NO : Hid (¬ c.k = 1 → Tk.cmdC cC cR cS z (l, d) c = (Tk.kept (Tk.obeys c) l, d ++ Tk.lost (Tk.obeys c) l)) := Lib.hid fun h => by
    unfold Tk.cmdC Tk.eachC
    rw [if_neg h]
  clear H hq ok hc hl hz
  generalize Tk.cmdC cC cR cS z (l, d) c = R at *
  generalize insC cC cR cS z l c.b = I at *
  generalize Tk.kept (Tk.obeys c) l = K at *
  generalize Tk.lost (Tk.obeys c) l = D at *
  obtain ⟨c0_, c5, c6, c7, c8, c9, c10, c11, c12, c13, c14, c15, c16, c17, c18, c19⟩ := (Bx.b16 (H1.out.held 3 rfl)).1
  obtain ⟨ck, cs_, ci_, cg_, ⟨cs, ci, cg, cm, cx, cy, cvx, cvy, ch, cp, cl⟩, cm_⟩ := c
  simp only [Bn.val, Cn.val] at *
  generalize hww : W.alloc (.cells #[.int .i64 ck, .int .i64 cs_, .int .i64 ci_, .int .i64 cg_, .int .i64 cs, .int .i64 ci, .int .i64 cg, .int .i64 cm, .int .i64 cx, .int .i64 cy, .int .i64 cvx, .int .i64 cvy, .int .i64 ch, .int .i64 cp, .int .i64 cl, .int .i64 cm_] 55) = w1 at *
  by_cases hk : ck = 1
  · have HR := Lib.hid (YES.out hk)
    subst hk
    have CI := Lib.hid (SPC.out w1 H1.out)
    clear YES NO SPC EAC
    go_enter Tryz.func35, Tryz.ntmps35
    go_wp2_with (go_at_call 70; with_reducible refine CI.out.mono ?_; rintro e w2 ⟨rfl, A', c', h2⟩; have H2 := Lib.hid h2; clear h2 CI)
    refine bodyPost_ret (results_none rfl _ _ _) rfl ⟨rfl, A', c', v3, ?_⟩
    rw [HR.out]
    exact (Sep.pull H2.out 3 rfl).drop
  · have HR := Lib.hid (NO.out hk)
    have t1 : (ck == 1) = false := beq_eq_false_iff_ne.2 hk
    have CI := Lib.hid (EAC.out w1 H1.out)
    clear YES NO SPC EAC
    go_enter Tryz.func35, Tryz.ntmps35
    go_wp2_with (go_at_call 36; with_reducible refine CI.out.mono ?_; rintro e w2 ⟨rfl, A', c', v3', h2⟩; have H2 := Lib.hid h2; clear h2 CI)
    go_end0
    refine ⟨rfl, A', c', v3', ?_⟩
    rw [HR.out]
    exact (Sep.pull H2.out 3 rfl).drop
end Go.Proofs.YtljaahemlcaffaaGreat
namespace Go.Proofs.YtljaahemlcaffaaGreat
open Go.RowKit Pz Sp
set_option linter.unusedVariables false
set_option linter.unusedSimpArgs false

end Go.Proofs.YtljaahemlcaffaaGreat
namespace Go.Proofs.YtljaahemlcaffaaGreat
open Go.RowKit Pz
set_option linter.unusedVariables false

set_option maxHeartbeats 16000000 in
set_option maxRecDepth 100000 in
theorem rsorted_any {w : World} {A : Option Addr} {cap : Nat} {l : List Bn} (R : RdB w w.heap.size A l) (hl : l.length ≤ 1000) :
    Calls Tryz.prog 15 #[.slice A l.length cap] w fun e w' => (∃ A' c', e = .returned (.slice A' l.length c') ∧ OwnB w' w.heap.size (.slice A' l.length c') (sortL Bn.id l)) ∧ Below w.heap.size w w' := by
  have AT : Hid (∀ W, Below w.heap.size w W → ∀ j (hj : j < l.length), ∃ ga oa, A = some ⟨ga, oa, none⟩ ∧ (W.cell? ⟨ga, oa + j * 11, none⟩ = some (.int .i64 l[j].s) ∧ W.cell? ⟨ga, oa + j * 11 + 1, none⟩ = some (.int .i64 l[j].i) ∧ W.cell? ⟨ga, oa + j * 11 + 2, none⟩ = some (.int .i64 l[j].g) ∧ W.cell? ⟨ga, oa + j * 11 + 3, none⟩ = some (.int .i64 l[j].m) ∧ W.cell? ⟨ga, oa + j * 11 + 4, none⟩ = some (.int .i64 l[j].x) ∧ W.cell? ⟨ga, oa + j * 11 + 5, none⟩ = some (.int .i64 l[j].y) ∧ W.cell? ⟨ga, oa + j * 11 + 6, none⟩ = some (.int .i64 l[j].vx) ∧ W.cell? ⟨ga, oa + j * 11 + 7, none⟩ = some (.int .i64 l[j].vy) ∧ W.cell? ⟨ga, oa + j * 11 + 8, none⟩ = some (.int .i64 l[j].h) ∧ W.cell? ⟨ga, oa + j * 11 + 9, none⟩ = some (.int .i64 l[j].p) ∧ W.cell? ⟨ga, oa + j * 11 + 10, none⟩ = some (.int .i64 l[j].l))) := Lib.hid fun W hW j hj => by
    obtain ⟨ga, oa, e, _, k1⟩ := (R.below hW) j _ (List.getElem?_eq_getElem hj)
    exact ⟨ga, oa, e, k1⟩
  have SL : Hid (∀ i, i ≤ l.length → (sortP Bn.id l i).length = i) := Lib.hid fun i hi => sortP_len (κ := Bn.id) l i hi
  have SS : Hid (∀ i (hi : i < l.length), sortP Bn.id l (i + 1) = ins Bn.id l[i] (sortP Bn.id l i)) := Lib.hid fun i hi => sortP_succ (κ := Bn.id) hi
  have S0 : Hid (OwnB w w.heap.size (.slice none 0 0) (sortP Bn.id l 0)) := Lib.hid (by rw [sortP_zero]; exact rw_nil _ _)
  have SE : Hid (sortP Bn.id l l.length = sortL Bn.id l) := Lib.hid (sortP_all (κ := Bn.id) l)
  clear R
  go_enter Tryz.func15, Tryz.ntmps15
  go_wp2
  go_loopw [4, 3] (fun ix v wr => ∃ (i : Nat) (A3 : Option Addr) (cq : Nat), i ≤ l.length ∧ ix = .int .i64 i ∧ v = .slice A3 i cq ∧ Hid (OwnB wr w.heap.size (.slice A3 i cq) (sortP Bn.id l i)) ∧ Hid (Below w.heap.size w wr)) (fun ix _ _ => l.length - (intOf ix).toNat)
  case atStart => exact ⟨0, none, 0, Nat.zero_le _, rfl, rfl, S0, Lib.hid (Below.refl _ _)⟩
  case round =>
    obtain ⟨i, A3, cq, hi, rfl, rfl, HO, HB⟩ := hrel
    clear S0
    by_cases hil : i < l.length
    · have t1 : (i : Int) < (l.length : Int) := by omega
      obtain ⟨ga, oa, rfl, c0, c1, c2, c3, c4, c5, c6, c7, c8, c9, c10⟩ := AT.out wr HB.out i hil
      obtain ⟨v', w', HR, HO2, HB2⟩ := push_bn wr HO.out HB.out.size (by rw [SL.out i hi]; omega) l[i] 24
      have hln : (sortP Bn.id l i ++ [l[i]]).length = i + 1 := by rw [List.length_append, SL.out i hi]; rfl
      obtain ⟨A4, cr, hv⟩ := HO2.form
      obtain ⟨n1, hn1⟩ : ∃ n1, n1 = i + 1 := ⟨_, rfl⟩
      rw [hln, ← hn1] at hv
      subst hv
      have HRH := Lib.hid HR
      have HN1 := Lib.hid hn1
      have hn1' : (n1 : Int) ≤ 1001 := by omega
      have HOL : Hid (OwnB w' w.heap.size (.slice A4 n1 cr) (sortP Bn.id l i ++ [l[i]])) := Lib.hid HO2
      have HB3 := Lib.hid (HB.out.trans HB2)
      have hol := Hole.start (κ := Bn.id) l[i] (sortP Bn.id l i)
      have NXT := SS.out i hil
      have SLI := SL.out i hi
      rw [SLI] at hol
      have HH := Lib.hid hol
      have NX : Hid (∀ R k, Hole Bn.id l[i] (sortP Bn.id l i) R k → insK Bn.id l[i] (sortP Bn.id l i) k = k → R.set k l[i] = sortP Bn.id l (i + 1)) := Lib.hid fun R k h1 h2 => by rw [NXT]; exact h1.fin h2
      have HLEN : Hid (∀ R k, Hole Bn.id l[i] (sortP Bn.id l i) R k → R.length = n1) := Lib.hid fun R k h => by rw [h.len, SLI, hn1]
      have AI : Hid (∀ W, Below w.heap.size w W → W.cell? ⟨ga, oa + i * 11, none⟩ = some (.int .i64 l[i].s) ∧ W.cell? ⟨ga, oa + i * 11 + 1, none⟩ = some (.int .i64 l[i].i) ∧ W.cell? ⟨ga, oa + i * 11 + 2, none⟩ = some (.int .i64 l[i].g) ∧ W.cell? ⟨ga, oa + i * 11 + 3, none⟩ = some (.int .i64 l[i].m) ∧ W.cell? ⟨ga, oa + i * 11 + 4, none⟩ = some (.int .i64 l[i].x) ∧ W.cell? ⟨ga, oa + i * 11 + 5, none⟩ = some (.int .i64 l[i].y) ∧ W.cell? ⟨ga, oa + i * 11 + 6, none⟩ = some (.int .i64 l[i].vx) ∧ W.cell? ⟨ga, oa + i * 11 + 7, none⟩ = some (.int .i64 l[i].vy) ∧ W.cell? ⟨ga, oa + i * 11 + 8, none⟩ = some (.int .i64 l[i].h) ∧ W.cell? ⟨ga, oa + i * 11 + 9, none⟩ = some (.int .i64 l[i].p) ∧ W.cell? ⟨ga, oa + i * 11 + 10, none⟩ = some (.int .i64 l[i].l)) := Lib.hid fun W hW => by
        obtain ⟨g', o', e, k1⟩ := AT.out W hW i hil
        cases e
        exact k1
      clear HR HO2 HB2 hln hol NXT SL SS HO AT SLI SE hn1
      generalize sortP Bn.id l i = out at *
      generalize l[i] = x at *
      generalize l.length = n at *
      go_wp2_with (at_builtin; refine wpList_append _ rfl (.tmp 14) (.tmp 19) _ _ rfl _ (.slice (some ⟨_, 0, none⟩) 1 1) rfl rfl _ _ HRH.out ?_; clear HRH c0 c1 c2 c3 c4 c5 c6 c7 c8 c9 c10)
      go_loopw [5] (fun kx wr2 => ∃ (k : Nat) (R : List Bn), k ≤ i ∧ kx = .int .i64 k ∧ Hid (OwnB wr2 w.heap.size (.slice A4 n1 cr) R) ∧ Hid (Below w.heap.size w wr2) ∧ Hid (Hole Bn.id x out R k)) (fun kx _ => (intOf kx).toNat)
      case atStart => exact ⟨i, _, Nat.le_refl _, rfl, HOL, HB3, HH⟩
      case round =>
        obtain ⟨k, R, hk, rfl, HOX, HBX, HL⟩ := hrel
        clear HOL HB3 HH
        have hkn : k < n1 := by have := HN1.out; omega
        by_cases h0 : 0 < k
        · obtain ⟨k', hk'⟩ : ∃ k', k = k' + 1 := ⟨k - 1, by omega⟩
          obtain ⟨y, hy⟩ : ∃ y, R[k']? = some y := ⟨_, List.getElem?_eq_getElem (by have := HLEN.out R k HL.out; omega)⟩
          have t2 : decide ((k : Int) > 0) = true := decide_eq_true (by omega)
          have t2' : decide (0 < k) = true := decide_eq_true h0
          have ws : IntKind.i64.wrap ((k : Int) - 1) = (k' : Int) := by
            have := HN1.out
            rw [IntWalk.i64_in _ (by omega)]
            omega
          have tk : (k' : Int) < (n1 : Int) := by omega
          have tn : (k : Int) < (n1 : Int) := by omega
          have HOY := HOX.out
          rw [← HLEN.out R k HL.out] at HOY
          obtain ⟨gb, ob, rfl, hgb, _, _⟩ := own_at HOY hy
          have RB := RdB.of_own HOY
          have PB : ∀ p : Lat grows wr, Below w.heap.size w p.W := fun p => HBX.out.trans ((lat_below p).mono HBX.out.size)
          have b0' : ∀ p : Lat grows wr, p.W.cell? ⟨gb, ob + k' * 11, none⟩ = some (.int .i64 y.s) := fun p => by
            obtain ⟨g', o', e, _, h0, h1, h2, _⟩ := (RB.below (lat_below p)) k' y hy
            cases e; exact h0
          have b1' : ∀ p : Lat grows wr, p.W.cell? ⟨gb, ob + k' * 11 + 1, none⟩ = some (.int .i64 y.i) := fun p => by
            obtain ⟨g', o', e, _, h0, h1, h2, _⟩ := (RB.below (lat_below p)) k' y hy
            cases e; exact h1
          have b2' : ∀ p : Lat grows wr, p.W.cell? ⟨gb, ob + k' * 11 + 2, none⟩ = some (.int .i64 y.g) := fun p => by
            obtain ⟨g', o', e, _, h0, h1, h2, _⟩ := (RB.below (lat_below p)) k' y hy
            cases e; exact h2
          have a0' : ∀ p : Lat grows wr, p.W.cell? ⟨ga, oa + i * 11, none⟩ = some (.int .i64 x.s) := fun p => (AI.out _ (PB p)).1
          have a1' : ∀ p : Lat grows wr, p.W.cell? ⟨ga, oa + i * 11 + 1, none⟩ = some (.int .i64 x.i) := fun p => (AI.out _ (PB p)).2.1
          have a2' : ∀ p : Lat grows wr, p.W.cell? ⟨ga, oa + i * 11 + 2, none⟩ = some (.int .i64 x.g) := fun p => (AI.out _ (PB p)).2.2.1
          have BF : Hid (∀ p : Lat grows wr, Calls Tryz.prog 44 #[.agg #[.int .i64 x.s, .int .i64 x.i, .int .i64 x.g], .agg #[.int .i64 y.s, .int .i64 y.i, .int .i64 y.g]] p.W fun e w' => e = .returned (.bool (before x.id y.id)) ∧ Below p.W.heap.size p.W w') := Lib.hid fun p => before_any x.s x.i x.g y.s y.i y.g p.W
          have HK9 : Hid (before x.id y.id = false → insK Bn.id x out k = k) := Lib.hid fun hb => by
            have h8 := HL.out
            rw [hk'] at h8 ⊢
            exact h8.stop hy hb
          have HD9 : Hid (before x.id y.id = true → Hole Bn.id x out (R.set k y) k') := Lib.hid fun hb => by
            have h8 := HL.out
            rw [hk'] at h8 ⊢
            exact h8.down hy hb
          replace hk' := Lib.hid hk'
          generalize before x.id y.id = bf at *
          clear RB HOY hgb PB h0
          go_upto_region 7 with fail
          refine Og.grow 16 (by kernel_rfl) (by kernel_rfl) fun hc hf => ?_
          clear hc hf
          simp only [List.take_succ_cons, List.take_zero, List.drop_succ_cons, List.drop_zero]
          iterate 14 (refine Og.det [] rfl (fun J hJ => ?_); go_simp; refine hJ _ _ ?_; clear hJ J)
          refine Og.det [] rfl (fun J hJ => ?_)
          go_simp
          with_reducible refine ⟨_, fun p => Og.lays (BF.out p), hJ _ _ ?_⟩
          clear hJ J
          (refine Og.det [] rfl (fun J hJ => ?_); go_simp; refine hJ _ _ ?_; clear hJ J)
          refine Og.fin fun W hW => ?_
          simp only [Og.opened_nil]
          replace HOX := Lib.hid (HOX.out.below hW)
          replace HBX := Lib.hid (HBX.out.trans (hW.mono HBX.out.size))
          clear hW a0' a1' a2' b0' b1' b2' BF
          cases bf with
          | false =>
            have HK := Lib.hid (HK9.out rfl)
            clear HK9 HD9 HB
            obtain ⟨g, o, e0, ⟨y0, hy0, d0, d1, d2, d3, d4, d5, d6, d7, d8, d9, d10⟩, ⟨f0, f1, f2, f3, f4, f5, f6, f7, f8, f9, f10⟩, HP⟩ := row_put HOX.out (HLEN.out R k HL.out) hkn x
            cases e0
            have EQX := NX.out R k HL.out HK.out
            rw [EQX] at HP
            have HBX2 : Hid (Below w.heap.size w _) := Lib.hid (HBX.out.trans (HP.out.2.mono (Nat.le_refl _)))
            have HPO := Lib.hid HP.out.1
            obtain ⟨c0, c1, c2, c3, c4, c5, c6, c7, c8, c9, c10⟩ := AI.out W HBX.out
            clear EQX HP HOX HBX HL HK HLEN NX hy0
            generalize y0.s = q0 at *
            go_wp2
            go_roundw
            case rel => exact ⟨i + 1, _, _, by omega, by go_num, by rw [HN1.out], by have h9 := HPO.out; rw [HN1.out] at h9; exact Lib.hid h9, HBX2⟩
            case measure => simp [intOf]; omega
          | true =>
            have HD := Lib.hid (HD9.out rfl)
            have HOZ := HOX.out
            rw [← HLEN.out R k HL.out] at HOZ
            obtain ⟨gc, oc, e, _, ⟨d0, d1, d2, d3, d4, d5, d6, d7, d8, d9, d10⟩, _⟩ := own_at HOZ hy
            cases e
            obtain ⟨g, o, e, ⟨y0, hy0, c0, c1, c2, c3, c4, c5, c6, c7, c8, c9, c10⟩, ⟨f0, f1, f2, f3, f4, f5, f6, f7, f8, f9, f10⟩, HP⟩ := row_put HOX.out (HLEN.out R k HL.out) hkn y
            cases e
            have HBX2 : Hid (Below w.heap.size w _) := Lib.hid (HBX.out.trans (HP.out.2.mono (Nat.le_refl _)))
            have HPO := Lib.hid HP.out.1
            have tkk : k' < k := by have := hk'.out; omega
            have tke : k' ≤ i := by omega
            clear HP HOX HBX HL HLEN NX hy0 HK9 HD9 HB HOZ AI
            go_wp2
            go_roundw
            case rel => exact ⟨k', _, tke, by go_num, HPO, HBX2, HD⟩
            case measure => simp [intOf]; omega
        · have t2 : decide ((k : Int) > 0) = false := decide_eq_false (by omega)
          have t2' : decide (0 < k) = false := decide_eq_false h0
          have HK : Hid (insK Bn.id x out k = k) := Lib.hid (by
            have e : k = 0 := by omega
            rw [e]; rfl)
          have tn : (k : Int) < (n1 : Int) := by omega
          clear h0 HB
          go_upto_region 7 with fail
          go_quiet (fail)
          rename_i nq
          replace HOX := Lib.hid (HOX.out.below (below_dn wr nq))
          replace HBX := Lib.hid (HBX.out.trans ((below_dn wr nq).mono HBX.out.size))
          generalize wr.drewN nq = wx at *
          obtain ⟨g, o, rfl, ⟨y0, hy0, d0, d1, d2, d3, d4, d5, d6, d7, d8, d9, d10⟩, ⟨f0, f1, f2, f3, f4, f5, f6, f7, f8, f9, f10⟩, HP⟩ := row_put HOX.out (HLEN.out R k HL.out) hkn x
          have EQX := NX.out R k HL.out HK.out
          rw [EQX] at HP
          have HBX2 : Hid (Below w.heap.size w _) := Lib.hid (HBX.out.trans (HP.out.2.mono (Nat.le_refl _)))
          have HPO := Lib.hid HP.out.1
          obtain ⟨c0, c1, c2, c3, c4, c5, c6, c7, c8, c9, c10⟩ := AI.out wx HBX.out
          clear EQX HP HOX HBX HL HK HLEN NX hy0
          generalize y0.s = q0 at *
          go_wp2
          go_roundw
          case rel => exact ⟨i + 1, _, _, by omega, by go_num, by rw [HN1.out], by have h9 := HPO.out; rw [HN1.out] at h9; exact Lib.hid h9, HBX2⟩
          case measure => simp [intOf]; omega
    · obtain rfl : i = l.length := by omega
      have t1 : ¬ (l.length : Int) < (l.length : Int) := by omega
      have HF : Hid (OwnB wr w.heap.size (.slice A3 l.length cq) (sortL Bn.id l)) := Lib.hid (by rw [← SE.out]; exact HO.out)
      clear HO AT SL SS SE
      go_wp2
      go_ret
      exact ⟨⟨_, _, rfl, HF.out⟩, HB.out⟩
end Go.Proofs.YtljaahemlcaffaaGreat
namespace Go.Proofs.YtljaahemlcaffaaGreat
open Go.RowKit Pz Sp
set_option linter.unusedVariables false
set_option linter.unusedSimpArgs false

abbrev HK := (Int × Int × Int) × Int
abbrev htE (x : HK) : List Value := [.int .i64 x.1.1, .int .i64 x.1.2.1, .int .i64 x.1.2.2, .int .i64 x.2]
abbrev OwnH (W : World) (B : Nat) (v : Value) (l : List HK) : Prop := Rw htE 104 4 W B v l
theorem htE_len (x : HK) : (htE x).length = 4 := rfl
theorem htE_one (x : HK) : ∀ u ∈ htE x, u.oneCell' = true := by
  intro u hu
  simp only [htE, List.mem_cons, List.not_mem_nil, or_false] at hu
  rcases hu with rfl | rfl | rfl | rfl <;> rfl
theorem hit_info : (Tryz.prog.info? 104).map (fun i => (i.zero, i.size, i.bytes)) = some (some (.agg #[.int .i64 0, .int .i64 0, .int .i64 0, .int .i64 0]), 4, 32) := by kernel_rfl
theorem b_hit (a b c d : Int) (V : World) : (Instr.build 104 #[(0, .agg #[.int .i64 a, .int .i64 b, .int .i64 c]), (1, .int .i64 d)]).run Tryz.prog V = .ok (.agg #[.int .i64 a, .int .i64 b, .int .i64 c, .int .i64 d]) V := by kernel_rfl
theorem b_hits (a b c d : Int) (V : World) : (Instr.buildSlice 76 1 #[(0, .agg #[.int .i64 a, .int .i64 b, .int .i64 c, .int .i64 d])]).run Tryz.prog V = .ok (.slice (some ⟨V.heap.size, 0, none⟩) 1 1) (V.alloc (.cells #[.int .i64 a, .int .i64 b, .int .i64 c, .int .i64 d] 104)) := by kernel_rfl
theorem hit_at {W : World} {B c n : Nat} {A : Option Addr} {l : List HK} (h : OwnH W B (.slice A n c) l) {j : Nat} {x : HK} (hk : l[j]? = some x) : ∃ g o, A = some ⟨g, o, none⟩ ∧ g < W.heap.size ∧ (W.cell? ⟨g, o + j * 4, none⟩ = some (.int .i64 x.1.1) ∧ W.cell? ⟨g, o + j * 4 + 1, none⟩ = some (.int .i64 x.1.2.1) ∧ W.cell? ⟨g, o + j * 4 + 2, none⟩ = some (.int .i64 x.1.2.2) ∧ W.cell? ⟨g, o + j * 4 + 3, none⟩ = some (.int .i64 x.2)) := by
  obtain ⟨g, o, c', e, hB, hg, hc⟩ := h.at_ hk
  cases e
  exact ⟨g, o, rfl, hg, (hc 0 _ rfl).1, (hc 1 _ rfl).1, (hc 2 _ rfl).1, (hc 3 _ rfl).1⟩
section
variable {w W V : World} {L : List Piece}
/-- a hit more -/
theorem hit_push {v : Value} {xs : List HK} (h : Sep w (row htE 104 4 v xs :: L) W) (x : HK) (hn : xs.length + 1 ≤ 1000000) :
    ∃ A' c' V, (Builtin.append_ #[76, 76] 76 #[v, .slice (some ⟨W.heap.size, 0, none⟩) 1 1]).run Tryz.prog (W.alloc (.cells #[.int .i64 x.1.1, .int .i64 x.1.2.1, .int .i64 x.1.2.2, .int .i64 x.2] 104)) = .ok (.slice A' (xs.length + 1) c') V ∧ Sep w (row htE 104 4 (.slice A' (xs.length + 1) c') (xs ++ [x]) :: L) V := by
  obtain ⟨G, ⟨h1, h2⟩, _, next⟩ := h.one
  obtain ⟨v', V, hr, ho, hg, hv, _⟩ := app_x (enc := htE) (T := 104) (s := 4) (t := 76) Tryz.underlying76 hit_info rfl (by decide) htE_len htE_one h1 (Nat.zero_le _) x hn (by decide) 76
  obtain ⟨A', c', rfl⟩ := ho.form
  have el : (xs ++ [x]).length = xs.length + 1 := by simp
  rw [el] at hr ho hv
  exact ⟨A', c', V, hr, next V (row htE 104 4 _ (xs ++ [x])) (fun k => (Value.slice A' (xs.length + 1) c').ownBlock = some k) ⟨hg.os, hg.tape, hg.output, hg.size, fun k hk hn => hg.block k hk fun e => hn ((h2 k).2 e.symm)⟩ ⟨ho, fun k => Iff.rfl⟩ fun k hk => (hv k hk).imp (fun e => (h2 k).2 e) id⟩
end
theorem fm_take {α β : Type} (f : α → Option β) {l : List α} {j : Nat} (hj : j < l.length) : (l.take (j + 1)).filterMap f = (l.take j).filterMap f ++ (f l[j]).toList := by
  rw [List.take_add_one, List.getElem?_eq_getElem hj, List.filterMap_append]
  cases h : f l[j] <;> simp [h]
end Go.Proofs.YtljaahemlcaffaaGreat
