/- The code's codec: components are read, number by number. Written by wip/tools/genread1.py. -/
import Derived.Test.YtdhlebmgeiiejaaGreatKLay
import Derived.Test.YtdhlebmgeiiejaaGreatKCdCode1
namespace Go.Proofs.YtdhlebmgeiiejaaGreat
open Go.RowKit Go.Shelf Pz Cd
set_option linter.unusedVariables false
set_option linter.unusedSimpArgs false
attribute [local go_sem] Oper.semAt_some

abbrev NT : TypeId := 152
abbrev BPT : TypeId := 135
abbrev BNT : TypeId := 34
abbrev RPT : TypeId := 23
theorem rx_own {T : TypeId} {b : Nat} {w W W' : World} {q : Rr} {B : Nat} (h : RX T b w q W) (hB : w.heap.size ≤ B) {row : Option Nat} (hg : W.grownBy W' row) (hr : ∀ r, row = some r → B ≤ r ∧ ∃ x : Obj, W.heap[r]? = some x ∧ x.isCells = false) : RX T b w q W' := by
  have hb := h.lt
  have hs := h.grow.size
  refine ⟨(hg.block b (lt_of_row h.rd) (fun e => by have := (hr b e.symm).1; omega)).trans h.rd, h.ok, h.len, hb, ⟨hg.os.trans h.grow.os, hg.tape.trans h.grow.tape, hg.output.trans h.grow.output, Nat.le_trans hs hg.size, fun i hi hne => ?_⟩⟩
  exact (hg.block i (by omega) (fun e => by have := (hr i e.symm).1; omega)).trans (h.grow.block i hi hne)
/-- between two rounds -/
structure RdI (b : Nat) (w : World) (m : Int) (q : Rr) (P Q o : Nat) (pre : List Fld) (W : World) : Prop where
  cp : W.heap[P]? = some (.cells (plcA o) NT (0, 0))
  cq : W.heap[Q]? = some (.cells #[.pointer (some ⟨o, 0, none⟩)] BPT (0, 0))
  co : W.heap[o]? = some (.cells (bnA (rdF (base m) q pre).1) BNT (0, 0))
  cr : W.heap[w.heap.size]? = some (.cells #[.pointer (some ⟨b, 0, none⟩)] RPT (0, 0))
  cz : W.heap[w.heap.size + 1]? = some (.cells #[.int .i64 0, .int .i64 0, .int .i64 0, .int .i64 0, .int .i64 0, .int .i64 0, .int .i64 0, .int .i64 0, .int .i64 0, .int .i64 0, .int .i64 0] BNT (0, 0))
  cx : RX CT b w (rdF (base m) q pre).2 W
theorem RdI.nf {b : Nat} {w W : World} {m : Int} {q : Rr} {P Q o : Nat} {pre : List Fld} (h : RdI b w m q P Q o pre W) : NF P Q o m W := ⟨h.cp, h.cq, _, rdF_m _ _ _, h.co⟩
theorem RdI.own {b : Nat} {w : World} {m : Int} {q : Rr} {P Q o B : Nat} (hB : w.heap.size ≤ B) : OwnFrom B (RdI b w m q P Q o) := by
  intro s W W' row h hg hr
  have K : ∀ {k : Nat} {c : Array Value} {T : TypeId}, W.heap[k]? = some (.cells c T (0, 0)) → W'.heap[k]? = some (.cells c T (0, 0)) := fun {k c T} hk => (hg.block k (lt_of_row hk) (fun e => by
    obtain ⟨_, x, ho, hc⟩ := hr k e.symm
    rw [hk] at ho
    cases ho
    cases hc)).trans hk
  exact ⟨K h.cp, K h.cq, K h.co, K h.cr, K h.cz, rx_own h.cx hB hg hr⟩
/-- a number more -/
theorem RdI.step {b : Nat} {w W W' : World} {m : Int} {q : Rr} {P Q o : Nat} {pre : List Fld} (h : RdI b w m q P Q o pre W) (hP : w.heap.size ≤ P) (hQ : w.heap.size ≤ Q) (ho : w.heap.size + 2 ≤ o) (f : Fld)
    (hr : RX CT b w (tInt (rdF (base m) q pre).2).2 W') (hg : W.grownBy W' (some b)) : RdI b w m q P Q o (pre ++ [f]) (W'.setCell ⟨o, f.off, none⟩ (.int .i64 (tInt (rdF (base m) q pre).2).1)) := by
  have hb := h.cx.lt
  have K : ∀ {k : Nat} {c : Array Value} {T : TypeId}, w.heap.size ≤ k → W.heap[k]? = some (.cells c T (0, 0)) → W'.heap[k]? = some (.cells c T (0, 0)) := fun {k c T} hk hc => (hg.block k (lt_of_row hc) (by simp; omega)).trans hc
  have p1 := K hP h.cp
  have q1 := K hQ h.cq
  have o1 := K (by omega) h.co
  have r1 := K (Nat.le_refl _) h.cr
  have z1 := K (Nat.le_succ _) h.cz
  have e := rdF_snoc f pre (base m) q
  refine ⟨(Bx.ne (Bx.ne_type p1 o1 (by decide)) _).trans p1, (Bx.ne (Bx.ne_type q1 o1 (by decide)) _).trans q1, ?_, (Bx.ne (by omega) _).trans r1, (Bx.ne (by omega) _).trans z1, ?_⟩
  · rw [e]
    exact bn_set o1 f _
  · rw [e]
    exact RX.set hr (by omega) _ _
set_option maxHeartbeats 16000000 in
set_option maxRecDepth 100000 in
theorem creadcomp_any {b : Nat} {w : World} {q : Rr} (h : CQ b w q w) : Calls Tryz.prog 82 #[.pointer (some ⟨b, 0, none⟩)] w fun e W' => e = .returned (rawRest q).1.val ∧ CQ b w (rawRest q).2 W' := by
  have C1 := Lib.hid fun W (hW : CQ b w q W) => ctake_int hW
  have CI := Lib.hid fun q' W (hW : CQ b w q' W) => ctake_int hW
  have CN := Lib.hid fun o W => cnumbers_any o W
  have hmx : Tryz.prog.follows .mixedOrders = true := by kernel_rfl
  have HRR : rawRest q = rdF (base (tInt q).1) (tInt q).2 (pl (tInt q).1 7) := rfl
  rw [HRR]
  clear HRR
  generalize (tInt q).1 = m at *
  generalize (tInt q).2 = q1 at *
  have hb := h.lt
  have b1 := bel2 w (.cells #[.pointer (some ⟨b, 0, none⟩)] RPT) (.cells #[.int .i64 0, .int .i64 0, .int .i64 0, .int .i64 0, .int .i64 0, .int .i64 0, .int .i64 0, .int .i64 0, .int .i64 0, .int .i64 0, .int .i64 0] BNT)
  have t0 := Lib.hid (at2a w (.cells #[.pointer (some ⟨b, 0, none⟩)] RPT) (.cells #[.int .i64 0, .int .i64 0, .int .i64 0, .int .i64 0, .int .i64 0, .int .i64 0, .int .i64 0, .int .i64 0, .int .i64 0, .int .i64 0, .int .i64 0] BNT))
  have t1 := Lib.hid (at2b w (.cells #[.pointer (some ⟨b, 0, none⟩)] RPT) (.cells #[.int .i64 0, .int .i64 0, .int .i64 0, .int .i64 0, .int .i64 0, .int .i64 0, .int .i64 0, .int .i64 0, .int .i64 0, .int .i64 0, .int .i64 0] BNT))
  have HR := Lib.hid (h.below b1)
  have k0 := (Bx.b1 t0.out).1
  clear h b1
  refine (callsIn_wide (n := 9)).1 ?_
  refine callsIn_of_wp_marks Tryz.func82 rfl trivial ?_ rfl
  simp only [Tryz.ntmps82, List.size_toArray, List.length_cons, List.length_nil, Nat.reduceAdd, Nat.reduceSub, Array.replicate_succ, Array.replicate_zero, List.push_toArray, List.append_toArray, List.nil_append, List.cons_append]
  gi_wp2_with (first
    | (refine ⟨trivial, ?_⟩; gi_at_call 79; refine (callsIn_wide.2 (C1.out _ HR.out)).mono ?_; rintro e w2 ⟨rfl, r2, g2⟩)
    | (refine ⟨trivial, ?_⟩; gi_at_call 109; refine (callsIn_wide.2 (CN.out _ _)).mono ?_; rintro e w3 ⟨P, Q, rfl, hP, hQ, bP, bQ, b3⟩))
  have s2 : w.heap.size + 2 ≤ w2.heap.size := by have := g2.size; rw [size2] at this; exact this
  replace t0 := (g2.block _ (lt_of_row t0.out) (by simp; omega)).trans t0.out
  replace t1 := (g2.block _ (lt_of_row t1.out) (by simp; omega)).trans t1.out
  have bs := bel1 w2 (.cells (bnA (base m)) BNT)
  have o2 := at1 w2 (.cells (bnA (base m)) BNT)
  have hP' : w.heap.size ≤ P := by rw [size1] at hP; omega
  have hQ' : w.heap.size ≤ Q := by rw [size1] at hQ; omega
  have hI : RdI b w m q1 P Q w2.heap.size [] w3 :=
    ⟨bP, bQ, (b3.block _ (lt_of_row o2)).trans o2, (b3.block _ (lt_of_row ((bs.block _ (lt_of_row t0)).trans t0))).trans ((bs.block _ (lt_of_row t0)).trans t0), (b3.block _ (lt_of_row ((bs.block _ (lt_of_row t1)).trans t1))).trans ((bs.block _ (lt_of_row t1)).trans t1), (r2.below bs).below b3⟩
  have h3 : w.heap.size ≤ w3.heap.size := hI.cx.grow.size
  have h4 : w.heap.size + 1 < w3.heap.size := lt_of_row hI.cz
  clear r2 g2 t0 t1 bs o2 bP bQ b3 hP hQ CN C1 HR k0
  generalize w2.heap.size = o at *
  refine wpIn_rangeFunc_ownG (w := w3) rfl (by omega) (gf := 125) (lb := #[.pointer (some ⟨P, 0, none⟩), .pointer (some ⟨Q, 0, none⟩)]) rfl trivial (enters_of Tryz.func125 (by kernel_rfl) rfl)
    (nums_stops 8 (by omega) P Q o m w3 hI.nf) (fun h1 h2 h => h2 (h1 h)) (nf_kb hI.nf) (Below.refl _ _) (fun _ => rfl)
    (RdI b w m q1 P Q o) (fun _ _ _ => False) (RdI.own h3) (fun _ _ _ _ _ hs _ _ => hs) hI ?a1 ?assign ?body ?done ?stop
  case assign =>
    intro l fl W K hK
    simp only [encF]
    gi_wp2
    exact hK
  case body =>
    rintro l pre f W1 hI1 hlt
    have k0 := (Bx.b1 hI1.cr).1
    have CJ := Lib.hid ((CI.out _ W1 hI1.cx).mono (R' := fun e W' => e = .returned (.int .i64 (tInt (rdF (base m) q1 pre).2).1) ∧ Hid (RdI b w m q1 P Q o (pre ++ [f]) (W'.setCell ⟨o, f.off, none⟩ (.int .i64 (tInt (rdF (base m) q1 pre).2).1)) ∧ W1.grownBy W' (some b)) ∧ (∃ v, W'.cell? ⟨o, f.off, none⟩ = some v) ∧ W'.frozen? ⟨o, f.off, none⟩ = false) fun e W' ⟨e1, r1, g1⟩ => by
      have o1 := (g1.block _ (lt_of_row hI1.co) (by simp; omega)).trans hI1.co
      exact ⟨e1, Lib.hid ⟨hI1.step hP' hQ' s2 f r1 g1, g1⟩, ⟨_, (bn_cell o1 f).1⟩, (bn_cell o1 f).2⟩)
    clear hI hI1 CI hlt
    generalize f.off = j at *
    generalize (tInt (rdF (base m) q1 pre).2).1 = xv at *
    gi_wp2_with (refine ⟨trivial, ?_⟩; gi_at_call 79; refine (CallsIn.inRound l (callsIn_wide.2 CJ.out)).mono ?_; rintro e w4 ⟨rfl, HX, ⟨v0, kc⟩, fc⟩)
    exact ⟨(KeepsFrom.of_grownBy HX.out.2 (fun k e => by cases e; omega)).trans ((KeepsOthers.setCell _ _ _).from _), fun _ => HX.out.1.nf, HX.out.1⟩
  case done =>
    rintro D xs W1 hD rfl hI1 hK
    obtain ⟨R9, hR9⟩ : ∃ R9, rdF (base m) q1 (pl m 7) = R9 := ⟨_, rfl⟩
    have HO := hI1.co
    have HR9 := hI1.cx
    have HZ := hI1.cz
    rw [hR9] at HO HR9
    clear hI1 hI CI
    replace hR9 := Lib.hid hR9
    obtain ⟨⟨zs, zi, zg, zm, zx, zy, zvx, zvy, zh, zp, zl⟩, q9⟩ := R9
    simp only [bnA] at HO HR9
    obtain ⟨⟨k0, k1, k2, k3, k4, k5, k6, k7, k8, k9, k10⟩, _⟩ := Bx.b11 HO
    obtain ⟨⟨l0, l1, l2, l3, l4, l5, l6, l7, l8, l9, l10⟩, ⟨f0, f1, f2, f3, f4, f5, f6, f7, f8, f9, f10⟩⟩ := Bx.b11 HZ
    have hKD := (Bx.ne11 (by omega : D ≠ w.heap.size + 1) (.int .i64 zs) (.int .i64 zi) (.int .i64 zg) (.int .i64 zm) (.int .i64 zx) (.int .i64 zy) (.int .i64 zvx) (.int .i64 zvy) (.int .i64 zh) (.int .i64 zp) (.int .i64 zl)).trans hK
    have hZS := (World.putObj_heap_other (w := (((((((((((W1.setCell ⟨w.heap.size + 1, 0, none⟩ (.int .i64 zs)).setCell ⟨w.heap.size + 1, 1, none⟩ (.int .i64 zi)).setCell ⟨w.heap.size + 1, 2, none⟩ (.int .i64 zg)).setCell ⟨w.heap.size + 1, 3, none⟩ (.int .i64 zm)).setCell ⟨w.heap.size + 1, 4, none⟩ (.int .i64 zx)).setCell ⟨w.heap.size + 1, 5, none⟩ (.int .i64 zy)).setCell ⟨w.heap.size + 1, 6, none⟩ (.int .i64 zvx)).setCell ⟨w.heap.size + 1, 7, none⟩ (.int .i64 zvy)).setCell ⟨w.heap.size + 1, 8, none⟩ (.int .i64 zh)).setCell ⟨w.heap.size + 1, 9, none⟩ (.int .i64 zp)).setCell ⟨w.heap.size + 1, 10, none⟩ (.int .i64 zl))) (o := .deferred none) (by omega : w.heap.size + 1 ≠ D)).trans (Bx.set11 HZ (.int .i64 zs) (.int .i64 zi) (.int .i64 zg) (.int .i64 zm) (.int .i64 zx) (.int .i64 zy) (.int .i64 zvx) (.int .i64 zvy) (.int .i64 zh) (.int .i64 zp) (.int .i64 zl))
    have HQ := Lib.hid (rx_own (RX.set (RX.set (RX.set (RX.set (RX.set (RX.set (RX.set (RX.set (RX.set (RX.set (RX.set HR9 (Nat.le_succ _) 0 (.int .i64 zs)) (Nat.le_succ _) 1 (.int .i64 zi)) (Nat.le_succ _) 2 (.int .i64 zg)) (Nat.le_succ _) 3 (.int .i64 zm)) (Nat.le_succ _) 4 (.int .i64 zx)) (Nat.le_succ _) 5 (.int .i64 zy)) (Nat.le_succ _) 6 (.int .i64 zvx)) (Nat.le_succ _) 7 (.int .i64 zvy)) (Nat.le_succ _) 8 (.int .i64 zh)) (Nat.le_succ _) 9 (.int .i64 zp)) (Nat.le_succ _) 10 (.int .i64 zl)) h3 (grownBy_putObj' _ D (.deferred none)) (fun r e => by cases e; exact ⟨hD, _, hKD, rfl⟩))
    have HP := Lib.hid (Bx.b11 hZS).1
    have HK := Lib.hid hKD
    clear hKD hZS HZ HO HR9 hK
    gi_wp2
    refine ⟨by simp, .inl ⟨_, _, rfl, run_takeDeferred HK.out, ?_⟩⟩
    obtain ⟨p0, p1, p2, p3, p4, p5, p6, p7, p8, p9, p10⟩ := HP.out
    refine ⟨.agg #[.int .i64 zs, .int .i64 zi, .int .i64 zg, .int .i64 zm, .int .i64 zx, .int .i64 zy, .int .i64 zvx, .int .i64 zvy, .int .i64 zh, .int .i64 zp, .int .i64 zl], ?_, ?_⟩
    · simp [results, Tryz.results82, go_sem, p0, p1, p2, p3, p4, p5, p6, p7, p8, p9, p10]
    · rw [hR9.out]
      exact ⟨rfl, HQ.out⟩
  case stop =>
    rintro D c pre W _ _ h _
    exact h.elim
end Go.Proofs.YtdhlebmgeiiejaaGreat
