/- The document's codec: a command is taken. Its sixteen cells are moved as one row that is not looked into. Written by wip/tools/gencdtc.py. -/
import Derived.Test.YtdhlebmgeiiejaaGreatKCdRef6
import Derived.Laws.Rows
import Derived.Laws.Tables
import Derived.Laws.CopyOwn
import Derived.Deep.WholeRow
namespace Go.Proofs.YtdhlebmgeiiejaaGreat
open Go.RowKit Pz Cd
set_option linter.unusedVariables false
set_option linter.unusedSimpArgs false

abbrev CMR : TypeId := 38
theorem rq_row {T : TypeId} {b : Nat} {w W : World} {q : Rr} (h : RX T b w q W) {k : Nat} (hk : w.heap.size ≤ k) (cs : Array Value) : RX T b w q (W.setRow k cs) := by
  have hb := h.lt
  exact ⟨(setRow_other _ _ _ _ (by omega)).trans h.rd, h.ok, h.len, hb, ⟨h.grow.os, h.grow.tape, h.grow.output, by rw [setRow_size]; exact h.grow.size, fun i hi hne => (setRow_other _ _ _ _ (by omega)).trans (h.grow.block i hi hne)⟩⟩
theorem load_rowr {P : Program} {ops : Array Oper} {rest : List Oper} {o : Oper} {a : Act} {w : World} {Q : Exit → Act → World → Prop} (hw : Region.wanted o (yielded ops a.tmps) = true) (ty : TypeId) (x : Operand) (ho : o.op = .load ty x)
    (g : Nat) (hx : a.eval x = .pointer (some ⟨g, 0, none⟩)) (t : TypeId) (cs : Array Value) (fr : Nat × Nat) (d : TypeDesc) (hg : w.heap[g]? = some (.cells cs t fr))
    (hu : P.underlying ty = some d) (hd : (match d with | .struct _ | .array _ _ => true | _ => false) = true) (hi : (P.info? ty).map (·.size) = some cs.size)
    (h : wpList P ops Q rest (a.put o.dst (.agg cs)) w) : wpList P ops Q (o :: rest) a w := by
  unfold wpList
  rw [if_pos hw]
  exact .inl (wp_load_row ty x ho g hx t cs fr d hg hu hd hi h)
/-- a command's cells -/
def cmB (c : Cn) : Array Value := #[.int .i64 c.k, .int .i64 c.s, .int .i64 c.i, .int .i64 c.g, .int .i64 c.b.s, .int .i64 c.b.i, .int .i64 c.b.g, .int .i64 c.b.m, .int .i64 c.b.x, .int .i64 c.b.y, .int .i64 c.b.vx, .int .i64 c.b.vy, .int .i64 c.b.h, .int .i64 c.b.p, .int .i64 c.b.l, .int .i64 c.m]
theorem cmB_val (c : Cn) : c.val = .agg (cmB c) := rfl
theorem cmB_size (c : Cn) : (cmB c).size = 16 := rfl
theorem cmB_one (c : Cn) : (cmB c).all (·.oneCell') = true := by simp [cmB, Value.oneCell']
theorem cmB_info : (Tryz.prog.info? CMR).map (·.size) = some 16 := by kernel_rfl
structure Cr (cs : Array Value) : Prop where
  sz : (Tryz.prog.info? CMR).map (·.size) = some cs.size
  z : (cmB zeroC).size = cs.size
  one : cs.all (·.oneCell') = true
theorem cr_of (c : Cn) : Cr (cmB c) := ⟨by rw [cmB_size]; exact cmB_info, rfl, cmB_one c⟩
theorem cr_size {a b : Array Value} (ha : Cr a) (hb : Cr b) : a.size = b.size := ha.z.symm.trans hb.z
/-- while a command is taken: the reader, the result's box, one's own box at block o -/
structure TC (b o : Nat) (w : World) (c : Cn) (q : Rr) (W : World) : Prop where
  rq : RQ b w q W
  res : W.heap[w.heap.size]? = some (.cells (cmB zeroC) CMR (0, 0))
  lo : w.heap.size < o
  own : W.heap[o]? = some (.cells (cmB c) CMR (0, 0))
theorem TC.call {b o : Nat} {w W W' : World} {c : Cn} {q q' : Rr} (h : TC b o w c q W) (hr : RQ b w q' W') (hg : W.grownBy W' (some b)) : TC b o w c q' W' := by
  have hb := h.rq.lt
  have hl := h.lo
  exact ⟨hr, (hg.block _ (lt_of_row h.res) (by simp; omega)).trans h.res, hl, (hg.block _ (lt_of_row h.own) (by simp; omega)).trans h.own⟩
theorem TC.below {b o : Nat} {w W W' : World} {c : Cn} {q : Rr} (h : TC b o w c q W) (hb : Below W.heap.size W W') : TC b o w c q W' :=
  ⟨h.rq.below hb, (hb.block _ (lt_of_row h.res)).trans h.res, h.lo, (hb.block _ (lt_of_row h.own)).trans h.own⟩
theorem TC.set {b o : Nat} {w W : World} {c c' : Cn} {q : Rr} (h : TC b o w c q W) (j : Nat) (n : Int) (e : (cmB c).setIfInBounds j (.int .i64 n) = cmB c') : TC b o w c' q (W.setCell ⟨o, j, none⟩ (.int .i64 n)) := by
  have hb := h.rq.lt
  have hl := h.lo
  refine ⟨⟨(Bx.ne (by omega) _).trans h.rq.rd, h.rq.ok, h.rq.len, hb, only_set h.rq.grow (.inr (by simp; omega)) _⟩, (Bx.ne (by omega) _).trans h.res, hl, ?_⟩
  rw [← e]
  exact Bx.set h.own _
theorem TC.ids {b o : Nat} {w W : World} {k s i g m : Int} {x : Bn} {q : Rr} (h : TC b o w ⟨k, s, i, g, x, m⟩ q W) (s' i' g' : Int) : TC b o w ⟨k, s', i', g', x, m⟩ q (((W.setCell ⟨o, 1, none⟩ (.int .i64 s')).setCell ⟨o, 2, none⟩ (.int .i64 i')).setCell ⟨o, 3, none⟩ (.int .i64 g')) :=
  TC.set (TC.set (TC.set (c' := ⟨k, s', i, g, x, m⟩) h 1 s' rfl) (c' := ⟨k, s', i', g, x, m⟩) 2 i' rfl) (c' := ⟨k, s', i', g', x, m⟩) 3 g' rfl
theorem TC.bun {b o : Nat} {w W : World} {k s i g m : Int} {x : Bn} {q : Rr} (h : TC b o w ⟨k, s, i, g, x, m⟩ q W) (y : Bn) : TC b o w ⟨k, s, i, g, y, m⟩ q (((((((((((W.setCell ⟨o, 4, none⟩ (.int .i64 y.s)).setCell ⟨o, 5, none⟩ (.int .i64 y.i)).setCell ⟨o, 6, none⟩ (.int .i64 y.g)).setCell ⟨o, 7, none⟩ (.int .i64 y.m)).setCell ⟨o, 8, none⟩ (.int .i64 y.x)).setCell ⟨o, 9, none⟩ (.int .i64 y.y)).setCell ⟨o, 10, none⟩ (.int .i64 y.vx)).setCell ⟨o, 11, none⟩ (.int .i64 y.vy)).setCell ⟨o, 12, none⟩ (.int .i64 y.h)).setCell ⟨o, 13, none⟩ (.int .i64 y.p)).setCell ⟨o, 14, none⟩ (.int .i64 y.l)) :=
  (TC.set (c' := ⟨k, s, i, g, ⟨y.s, y.i, y.g, y.m, y.x, y.y, y.vx, y.vy, y.h, y.p, y.l⟩, m⟩) (TC.set (c' := ⟨k, s, i, g, ⟨y.s, y.i, y.g, y.m, y.x, y.y, y.vx, y.vy, y.h, y.p, x.l⟩, m⟩) (TC.set (c' := ⟨k, s, i, g, ⟨y.s, y.i, y.g, y.m, y.x, y.y, y.vx, y.vy, y.h, x.p, x.l⟩, m⟩) (TC.set (c' := ⟨k, s, i, g, ⟨y.s, y.i, y.g, y.m, y.x, y.y, y.vx, y.vy, x.h, x.p, x.l⟩, m⟩) (TC.set (c' := ⟨k, s, i, g, ⟨y.s, y.i, y.g, y.m, y.x, y.y, y.vx, x.vy, x.h, x.p, x.l⟩, m⟩) (TC.set (c' := ⟨k, s, i, g, ⟨y.s, y.i, y.g, y.m, y.x, y.y, x.vx, x.vy, x.h, x.p, x.l⟩, m⟩) (TC.set (c' := ⟨k, s, i, g, ⟨y.s, y.i, y.g, y.m, y.x, x.y, x.vx, x.vy, x.h, x.p, x.l⟩, m⟩) (TC.set (c' := ⟨k, s, i, g, ⟨y.s, y.i, y.g, y.m, x.x, x.y, x.vx, x.vy, x.h, x.p, x.l⟩, m⟩) (TC.set (c' := ⟨k, s, i, g, ⟨y.s, y.i, y.g, x.m, x.x, x.y, x.vx, x.vy, x.h, x.p, x.l⟩, m⟩) (TC.set (c' := ⟨k, s, i, g, ⟨y.s, y.i, x.g, x.m, x.x, x.y, x.vx, x.vy, x.h, x.p, x.l⟩, m⟩) (TC.set (c' := ⟨k, s, i, g, ⟨y.s, x.i, x.g, x.m, x.x, x.y, x.vx, x.vy, x.h, x.p, x.l⟩, m⟩) h 4 y.s rfl) 5 y.i rfl) 6 y.g rfl) 7 y.m rfl) 8 y.x rfl) 9 y.y rfl) 10 y.vx rfl) 11 y.vy rfl) 12 y.h rfl) 13 y.p rfl) 14 y.l rfl)
theorem TC.start {b : Nat} {w W : World} {q : Rr} (h : RQ b w q W) (hr : W.heap[w.heap.size]? = some (.cells (cmB zeroC) CMR (0, 0))) (k : Int) : TC b W.heap.size w ⟨k, 0, 0, 0, zeroB, 0⟩ q (W.alloc (.cells #[.int .i64 k, .int .i64 0, .int .i64 0, .int .i64 0, .int .i64 0, .int .i64 0, .int .i64 0, .int .i64 0, .int .i64 0, .int .i64 0, .int .i64 0, .int .i64 0, .int .i64 0, .int .i64 0, .int .i64 0, .int .i64 0] CMR)) :=
  ⟨h.below (bel1 W _), ((bel1 W _).block _ (lt_of_row hr)).trans hr, lt_of_row hr, at1 W _⟩
theorem Cd.takeBody_fit (k : Int) (q : Rr) : Fit (takeBody k q).1.b.m := by
  unfold takeBody
  split
  · exact takeB_fit q
  · split
    · exact (show Fit 0 from ⟨by decide, by decide⟩)
    · split
      · exact takeRest_fit _
      · split
        · exact (show Fit 0 from ⟨by decide, by decide⟩)
        · exact (show Fit 0 from ⟨by decide, by decide⟩)
set_option maxHeartbeats 32000000 in
set_option maxRecDepth 100000 in
theorem rtakecmd_1 {b : Nat} {w : World} {q : Rr} (h : RQ b w q w) (hk : (tInt q).1 = 1) : Calls Tryz.prog 15 #[.pointer (some ⟨b, 0, none⟩)] w fun e W' => e = .returned (takeC q).1.val ∧ RQ b w (takeC q).2 W' := by
  have CM := Lib.hid fun W (hW : RQ b w q W) => rtake_int hW
  have HT : takeC q = if (takeBody (tInt q).1 (tInt q).2).2.bad || !mayCmd (takeBody (tInt q).1 (tInt q).2).1 then (zeroC, Rr.no) else takeBody (tInt q).1 (tInt q).2 := rfl
  have FT := takeBody_fit (tInt q).1 (tInt q).2
  rw [HT]
  clear HT
  generalize tInt q = pk at *
  obtain ⟨k, q1⟩ := pk
  simp only at CM FT hk ⊢
  subst hk
  have TB : Hid (∀ W, RQ b w q1 W → Calls Tryz.prog 13 #[.pointer (some ⟨b, 0, none⟩)] W fun e W' => e = .returned ((takeB q1).1.val) ∧ RQ b w (takeB q1).2 W' ∧ W.grownBy W' (some b)) := Lib.hid fun W hW => (rtakebundle_any hW.rebase).mono fun e W' ⟨h1, h2⟩ => ⟨h1, hW.trans h2, h2.grow⟩
  have HE : takeBody 1 q1 = ((⟨1, 0, 0, 0, (takeB q1).1, 0⟩ : Cn), (takeB q1).2) := rfl
  rw [HE] at FT ⊢
  clear HE
  generalize takeB q1 = pb at *
  obtain ⟨⟨ys, yi, yg, ym, yx, yy, yvx, yvy, yh, yp, yl⟩, qx⟩ := pb
  simp only [Bn.val] at FT TB ⊢
  have HTC := Lib.hid (show (⟨1, 0, 0, 0, ⟨ys, yi, yg, ym, yx, yy, yvx, yvy, yh, yp, yl⟩, 0⟩ : Cn) = (⟨1, 0, 0, 0, ⟨ys, yi, yg, ym, yx, yy, yvx, yvy, yh, yp, yl⟩, 0⟩ : Cn) from rfl)
  obtain ⟨tc, htc⟩ : ∃ tc : Cn, tc = ⟨1, 0, 0, 0, ⟨ys, yi, yg, ym, yx, yy, yvx, yvy, yh, yp, yl⟩, 0⟩ := ⟨_, rfl⟩
  rw [← htc]
  have FT2 : Fit tc.b.m := by rw [htc]; exact FT
  clear FT HTC
  replace htc := Lib.hid htc
  obtain ⟨s3, b3⟩ := qx
  have MY : Hid (∀ W, Calls Tryz.prog 52 #[.agg (cmB tc)] W fun e w' => e = .returned (.bool (mayCmd tc)) ∧ Below W.heap.size W w') := Lib.hid fun W => maycmd_any tc FT2 W
  clear FT2
  generalize mayCmd tc = ry at *
  simp only
  have BAD := Lib.hid fun W (hW : RQ b w ⟨s3, b3⟩ W) => rbad_any hW
  have HX := cr_of tc
  have HZ := cr_of zeroC
  have RES : Hid ((b3 = false → ry = true → ∀ W', RQ b w ⟨s3, b3⟩ W' → Ending.returned (.agg (cmB tc)) = .returned (if b3 || !ry then (zeroC, Rr.no) else (tc, ⟨s3, b3⟩)).1.val ∧ RQ b w (if b3 || !ry then (zeroC, Rr.no) else (tc, ⟨s3, b3⟩)).2 W') ∧ ((b3 || !ry) = true → ∀ W', RQ b w Rr.no W' → Ending.returned (.agg (cmB zeroC)) = .returned (if b3 || !ry then (zeroC, Rr.no) else (tc, ⟨s3, b3⟩)).1.val ∧ RQ b w (if b3 || !ry then (zeroC, Rr.no) else (tc, ⟨s3, b3⟩)).2 W')) := Lib.hid ⟨fun h1 h2 W' hW => by rw [h1, h2] at *; exact ⟨rfl, hW⟩, fun h1 W' hW => by rw [h1]; exact ⟨rfl, hW⟩⟩
  have hb := h.lt
  have ZE : cmB zeroC = #[.int .i64 0, .int .i64 0, .int .i64 0, .int .i64 0, .int .i64 0, .int .i64 0, .int .i64 0, .int .i64 0, .int .i64 0, .int .i64 0, .int .i64 0, .int .i64 0, .int .i64 0, .int .i64 0, .int .i64 0, .int .i64 0] := rfl
  have B0 : Hid ((w.alloc (.cells (cmB zeroC) CMR)).heap[w.heap.size]? = some (.cells (cmB zeroC) CMR (0, 0))) := Lib.hid (at1 w (.cells (cmB zeroC) CMR))
  have HR := Lib.hid (h.below (bel1 w (.cells (cmB zeroC) CMR)))
  clear h
  go_enter Tryz.func15, Tryz.ntmps15
  go_wp2_with fail
  rw [← ZE]
  generalize w.alloc (.cells (cmB zeroC) CMR) = wa at *
  refine (CM.out _ HR.out).mono ?_
  rintro e w1 ⟨rfl, r1, g1⟩
  replace B0 := Lib.hid ((g1.block _ (lt_of_row B0.out) (by simp; omega)).trans B0.out)
  clear HR g1 CM
  have H := Lib.hid (TC.start r1 B0.out 1)
  clear r1 B0
  go_upto_region 2 with fail
  generalize w1.alloc (.cells #[.int .i64 1, .int .i64 0, .int .i64 0, .int .i64 0, .int .i64 0, .int .i64 0, .int .i64 0, .int .i64 0, .int .i64 0, .int .i64 0, .int .i64 0, .int .i64 0, .int .i64 0, .int .i64 0, .int .i64 0, .int .i64 0] CMR) = w2 at *
  generalize w1.heap.size = o at *
  have OW : w2.heap[o]? = some (.cells #[.int .i64 1, .int .i64 0, .int .i64 0, .int .i64 0, .int .i64 0, .int .i64 0, .int .i64 0, .int .i64 0, .int .i64 0, .int .i64 0, .int .i64 0, .int .i64 0, .int .i64 0, .int .i64 0, .int .i64 0, .int .i64 0] CMR (0, 0)) := H.out.own
  obtain ⟨⟨n0, n1, n2, n3, n4, n5, n6, n7, n8, n9, n10, n11, n12, n13, n14, n15⟩, ⟨d0, d1, d2, d3, d4, d5, d6, d7, d8, d9, d10, d11, d12, d13, d14, d15⟩⟩ := Bx.b16 OW
  clear OW
  go_wp2_with fail
  refine (TB.out _ H.out.rq).mono ?_
  rintro e v3 ⟨rfl, r1, g1⟩
  replace H := Lib.hid (H.out.call r1 g1)
  clear r1 g1 TB n0 n1 n2 n3 n4 n5 n6 n7 n8 n9 n10 n11 n12 n13 n14 n15 d0 d1 d2 d3 d4 d5 d6 d7 d8 d9 d10 d11 d12 d13 d14 d15
  have OW3 : v3.heap[o]? = some (.cells #[.int .i64 1, .int .i64 0, .int .i64 0, .int .i64 0, .int .i64 0, .int .i64 0, .int .i64 0, .int .i64 0, .int .i64 0, .int .i64 0, .int .i64 0, .int .i64 0, .int .i64 0, .int .i64 0, .int .i64 0, .int .i64 0] CMR (0, 0)) := H.out.own
  obtain ⟨⟨n0, n1, n2, n3, n4, n5, n6, n7, n8, n9, n10, n11, n12, n13, n14, n15⟩, ⟨d0, d1, d2, d3, d4, d5, d6, d7, d8, d9, d10, d11, d12, d13, d14, d15⟩⟩ := Bx.b16 OW3
  clear OW3
  have HF := Lib.hid (H.out.bun ⟨ys, yi, yg, ym, yx, yy, yvx, yvy, yh, yp, yl⟩)
  clear H
  go_upto_region 13 with fail
  clear n0 n1 n2 n3 n4 n5 n6 n7 n8 n9 n10 n11 n12 n13 n14 n15 d0 d1 d2 d3 d4 d5 d6 d7 d8 d9 d10 d11 d12 d13 d14 d15
  generalize ((((((((((v3.setCell ⟨o, 4, none⟩ (.int .i64 ys)).setCell ⟨o, 5, none⟩ (.int .i64 yi)).setCell ⟨o, 6, none⟩ (.int .i64 yg)).setCell ⟨o, 7, none⟩ (.int .i64 ym)).setCell ⟨o, 8, none⟩ (.int .i64 yx)).setCell ⟨o, 9, none⟩ (.int .i64 yy)).setCell ⟨o, 10, none⟩ (.int .i64 yvx)).setCell ⟨o, 11, none⟩ (.int .i64 yvy)).setCell ⟨o, 12, none⟩ (.int .i64 yh)).setCell ⟨o, 13, none⟩ (.int .i64 yp)).setCell ⟨o, 14, none⟩ (.int .i64 yl) = V at *
  have H : Hid (TC b o w tc ⟨s3, b3⟩ V) := Lib.hid (by rw [htc.out]; exact HF.out)
  clear HF htc
  have QB : V.cell? ⟨b, 1, none⟩ = some (.bool b3) := H.out.rq.rd.c1
  have HR := Lib.hid H.out.rq
  have B0 := Lib.hid H.out.res
  have B1 := Lib.hid H.out.own
  have hlo := H.out.lo
  clear H
  obtain ⟨Z, hZ⟩ : ∃ Z, Z = cmB zeroC := ⟨_, rfl⟩
  obtain ⟨X, hX⟩ : ∃ X, X = cmB tc := ⟨_, rfl⟩
  rw [← hZ] at B0 HZ RES ZE
  rw [← hX] at MY HX RES B1
  clear hZ hX
  cases b3 with
  | true =>
    clear MY
    go_wp2_with fail
    refine (BAD.out _ HR.out).mono ?_
    rintro e w7 ⟨rfl, r7, g7⟩
    replace B0 := Lib.hid ((g7.block _ (lt_of_row B0.out) (by simp; omega)).trans B0.out)
    clear HR g7 BAD QB B1
    have HR := Lib.hid r7
    clear r7
    have HZ2 : Cr #[.int .i64 0, .int .i64 0, .int .i64 0, .int .i64 0, .int .i64 0, .int .i64 0, .int .i64 0, .int .i64 0, .int .i64 0, .int .i64 0, .int .i64 0, .int .i64 0, .int .i64 0, .int .i64 0, .int .i64 0, .int .i64 0] := by rw [← ZE]; exact HZ
    have B02 : Hid (w7.heap[w.heap.size]? = some (.cells #[.int .i64 0, .int .i64 0, .int .i64 0, .int .i64 0, .int .i64 0, .int .i64 0, .int .i64 0, .int .i64 0, .int .i64 0, .int .i64 0, .int .i64 0, .int .i64 0, .int .i64 0, .int .i64 0, .int .i64 0, .int .i64 0] CMR (0, 0))) := Lib.hid (by rw [← ZE]; exact B0.out)
    go_wp2_with (refine wpList_store_row rfl CMR (.tmp 2) (.tmp 46) rfl w.heap.size #[.int .i64 0, .int .i64 0, .int .i64 0, .int .i64 0, .int .i64 0, .int .i64 0, .int .i64 0, .int .i64 0, .int .i64 0, .int .i64 0, .int .i64 0, .int .i64 0, .int .i64 0, .int .i64 0, .int .i64 0, .int .i64 0] rfl rfl CMR #[.int .i64 0, .int .i64 0, .int .i64 0, .int .i64 0, .int .i64 0, .int .i64 0, .int .i64 0, .int .i64 0, .int .i64 0, .int .i64 0, .int .i64 0, .int .i64 0, .int .i64 0, .int .i64 0, .int .i64 0, .int .i64 0] B02.out HZ2.sz rfl HZ2.one ?_)
    rw [← ZE]
    exact bodyPost_ret (v := .agg Z) (results_cell_row Tryz.results15 _ _ w.heap.size CMR Z (0, 0) _ rfl (setRow_heap _ _ _ _ _ _ B0.out) Tryz.underlying38 rfl HZ.sz) rfl (RES.out.2 rfl _ (rq_row HR.out (Nat.le_refl _) Z))
  | false =>
    cases ry with
    | false =>
      go_upto_if 43 with (first
        | (refine load_rowr rfl CMR (.tmp 3) rfl o rfl CMR X (0, 0) _ B1.out Tryz.underlying38 rfl HX.sz ?_)
        | (go_at_call 52; refine (MY.out _).mono ?_; rintro e w4 ⟨rfl, hb4⟩))
      replace B0 := Lib.hid ((hb4.block _ (lt_of_row B0.out)).trans B0.out)
      replace HR := Lib.hid (HR.out.below hb4)
      clear hb4 MY
      go_wp2_with fail
      refine (BAD.out _ HR.out).mono ?_
      rintro e w7 ⟨rfl, r7, g7⟩
      replace B0 := Lib.hid ((g7.block _ (lt_of_row B0.out) (by simp; omega)).trans B0.out)
      clear HR g7 BAD QB B1
      have HR := Lib.hid r7
      clear r7
      have HZ2 : Cr #[.int .i64 0, .int .i64 0, .int .i64 0, .int .i64 0, .int .i64 0, .int .i64 0, .int .i64 0, .int .i64 0, .int .i64 0, .int .i64 0, .int .i64 0, .int .i64 0, .int .i64 0, .int .i64 0, .int .i64 0, .int .i64 0] := by rw [← ZE]; exact HZ
      have B02 : Hid (w7.heap[w.heap.size]? = some (.cells #[.int .i64 0, .int .i64 0, .int .i64 0, .int .i64 0, .int .i64 0, .int .i64 0, .int .i64 0, .int .i64 0, .int .i64 0, .int .i64 0, .int .i64 0, .int .i64 0, .int .i64 0, .int .i64 0, .int .i64 0, .int .i64 0] CMR (0, 0))) := Lib.hid (by rw [← ZE]; exact B0.out)
      go_wp2_with (refine wpList_store_row rfl CMR (.tmp 2) (.tmp 46) rfl w.heap.size #[.int .i64 0, .int .i64 0, .int .i64 0, .int .i64 0, .int .i64 0, .int .i64 0, .int .i64 0, .int .i64 0, .int .i64 0, .int .i64 0, .int .i64 0, .int .i64 0, .int .i64 0, .int .i64 0, .int .i64 0, .int .i64 0] rfl rfl CMR #[.int .i64 0, .int .i64 0, .int .i64 0, .int .i64 0, .int .i64 0, .int .i64 0, .int .i64 0, .int .i64 0, .int .i64 0, .int .i64 0, .int .i64 0, .int .i64 0, .int .i64 0, .int .i64 0, .int .i64 0, .int .i64 0] B02.out HZ2.sz rfl HZ2.one ?_)
      rw [← ZE]
      exact bodyPost_ret (v := .agg Z) (results_cell_row Tryz.results15 _ _ w.heap.size CMR Z (0, 0) _ rfl (setRow_heap _ _ _ _ _ _ B0.out) Tryz.underlying38 rfl HZ.sz) rfl (RES.out.2 rfl _ (rq_row HR.out (Nat.le_refl _) Z))
    | true =>
      go_upto_if 43 with (first
        | (refine load_rowr rfl CMR (.tmp 3) rfl o rfl CMR X (0, 0) _ B1.out Tryz.underlying38 rfl HX.sz ?_)
        | (go_at_call 52; refine (MY.out _).mono ?_; rintro e w4 ⟨rfl, hb4⟩))
      replace B0 := Lib.hid ((hb4.block _ (lt_of_row B0.out)).trans B0.out)
      replace B1 := Lib.hid ((hb4.block _ (lt_of_row B1.out)).trans B1.out)
      replace HR := Lib.hid (HR.out.below hb4)
      clear hb4 MY
      go_wp2_with (first
        | (refine load_rowr rfl CMR (.tmp 3) rfl o rfl CMR X (0, 0) _ B1.out Tryz.underlying38 rfl HX.sz ?_)
        | (refine wpList_store_row rfl CMR (.tmp 2) (.tmp 47) rfl w.heap.size X rfl rfl CMR Z B0.out HX.sz (cr_size HZ HX) HX.one ?_))
      exact bodyPost_ret (v := .agg X) (results_cell_row Tryz.results15 _ _ w.heap.size CMR X (0, 0) _ rfl (setRow_heap _ _ _ _ _ _ B0.out) Tryz.underlying38 rfl HX.sz) rfl (RES.out.1 (by trivial) (by trivial) _ (rq_row HR.out (Nat.le_refl _) X))
set_option maxHeartbeats 32000000 in
set_option maxRecDepth 100000 in
theorem rtakecmd_2 {b : Nat} {w : World} {q : Rr} (h : RQ b w q w) (hk : (tInt q).1 = 2) : Calls Tryz.prog 15 #[.pointer (some ⟨b, 0, none⟩)] w fun e W' => e = .returned (takeC q).1.val ∧ RQ b w (takeC q).2 W' := by
  have CM := Lib.hid fun W (hW : RQ b w q W) => rtake_int hW
  have HT : takeC q = if (takeBody (tInt q).1 (tInt q).2).2.bad || !mayCmd (takeBody (tInt q).1 (tInt q).2).1 then (zeroC, Rr.no) else takeBody (tInt q).1 (tInt q).2 := rfl
  have FT := takeBody_fit (tInt q).1 (tInt q).2
  rw [HT]
  clear HT
  generalize tInt q = pk at *
  obtain ⟨k, q1⟩ := pk
  simp only at CM FT hk ⊢
  subst hk
  have TI : Hid (∀ W, RQ b w q1 W → Calls Tryz.prog 10 #[.pointer (some ⟨b, 0, none⟩)] W fun e W' => e = .returned (.agg #[.int .i64 (takeID q1).1.1, .int .i64 (takeID q1).1.2.1, .int .i64 (takeID q1).1.2.2]) ∧ RQ b w (takeID q1).2 W' ∧ W.grownBy W' (some b)) := Lib.hid fun W hW => (rtakeid_any hW.rebase).mono fun e W' ⟨h1, h2⟩ => ⟨h1, hW.trans h2, h2.grow⟩
  have HE : takeBody 2 q1 = ((⟨2, (takeID q1).1.1, (takeID q1).1.2.1, (takeID q1).1.2.2, zeroB, 0⟩ : Cn), (takeID q1).2) := rfl
  rw [HE] at FT ⊢
  clear HE
  generalize takeID q1 = pi at *
  obtain ⟨⟨i1, i2, i3⟩, qx⟩ := pi
  simp only [Bn.val] at FT TI ⊢
  have HTC := Lib.hid (show (⟨2, i1, i2, i3, zeroB, 0⟩ : Cn) = (⟨2, i1, i2, i3, zeroB, 0⟩ : Cn) from rfl)
  obtain ⟨tc, htc⟩ : ∃ tc : Cn, tc = ⟨2, i1, i2, i3, zeroB, 0⟩ := ⟨_, rfl⟩
  rw [← htc]
  have FT2 : Fit tc.b.m := by rw [htc]; exact FT
  clear FT HTC
  replace htc := Lib.hid htc
  obtain ⟨s3, b3⟩ := qx
  have MY : Hid (∀ W, Calls Tryz.prog 52 #[.agg (cmB tc)] W fun e w' => e = .returned (.bool (mayCmd tc)) ∧ Below W.heap.size W w') := Lib.hid fun W => maycmd_any tc FT2 W
  clear FT2
  generalize mayCmd tc = ry at *
  simp only
  have BAD := Lib.hid fun W (hW : RQ b w ⟨s3, b3⟩ W) => rbad_any hW
  have HX := cr_of tc
  have HZ := cr_of zeroC
  have RES : Hid ((b3 = false → ry = true → ∀ W', RQ b w ⟨s3, b3⟩ W' → Ending.returned (.agg (cmB tc)) = .returned (if b3 || !ry then (zeroC, Rr.no) else (tc, ⟨s3, b3⟩)).1.val ∧ RQ b w (if b3 || !ry then (zeroC, Rr.no) else (tc, ⟨s3, b3⟩)).2 W') ∧ ((b3 || !ry) = true → ∀ W', RQ b w Rr.no W' → Ending.returned (.agg (cmB zeroC)) = .returned (if b3 || !ry then (zeroC, Rr.no) else (tc, ⟨s3, b3⟩)).1.val ∧ RQ b w (if b3 || !ry then (zeroC, Rr.no) else (tc, ⟨s3, b3⟩)).2 W')) := Lib.hid ⟨fun h1 h2 W' hW => by rw [h1, h2] at *; exact ⟨rfl, hW⟩, fun h1 W' hW => by rw [h1]; exact ⟨rfl, hW⟩⟩
  have hb := h.lt
  have ZE : cmB zeroC = #[.int .i64 0, .int .i64 0, .int .i64 0, .int .i64 0, .int .i64 0, .int .i64 0, .int .i64 0, .int .i64 0, .int .i64 0, .int .i64 0, .int .i64 0, .int .i64 0, .int .i64 0, .int .i64 0, .int .i64 0, .int .i64 0] := rfl
  have B0 : Hid ((w.alloc (.cells (cmB zeroC) CMR)).heap[w.heap.size]? = some (.cells (cmB zeroC) CMR (0, 0))) := Lib.hid (at1 w (.cells (cmB zeroC) CMR))
  have HR := Lib.hid (h.below (bel1 w (.cells (cmB zeroC) CMR)))
  clear h
  go_enter Tryz.func15, Tryz.ntmps15
  go_wp2_with fail
  rw [← ZE]
  generalize w.alloc (.cells (cmB zeroC) CMR) = wa at *
  refine (CM.out _ HR.out).mono ?_
  rintro e w1 ⟨rfl, r1, g1⟩
  replace B0 := Lib.hid ((g1.block _ (lt_of_row B0.out) (by simp; omega)).trans B0.out)
  clear HR g1 CM
  have H := Lib.hid (TC.start r1 B0.out 2)
  clear r1 B0
  go_upto_region 2 with fail
  generalize w1.alloc (.cells #[.int .i64 2, .int .i64 0, .int .i64 0, .int .i64 0, .int .i64 0, .int .i64 0, .int .i64 0, .int .i64 0, .int .i64 0, .int .i64 0, .int .i64 0, .int .i64 0, .int .i64 0, .int .i64 0, .int .i64 0, .int .i64 0] CMR) = w2 at *
  generalize w1.heap.size = o at *
  have OW : w2.heap[o]? = some (.cells #[.int .i64 2, .int .i64 0, .int .i64 0, .int .i64 0, .int .i64 0, .int .i64 0, .int .i64 0, .int .i64 0, .int .i64 0, .int .i64 0, .int .i64 0, .int .i64 0, .int .i64 0, .int .i64 0, .int .i64 0, .int .i64 0] CMR (0, 0)) := H.out.own
  obtain ⟨⟨n0, n1, n2, n3, n4, n5, n6, n7, n8, n9, n10, n11, n12, n13, n14, n15⟩, ⟨d0, d1, d2, d3, d4, d5, d6, d7, d8, d9, d10, d11, d12, d13, d14, d15⟩⟩ := Bx.b16 OW
  clear OW
  go_wp2_with fail
  refine (TI.out _ H.out.rq).mono ?_
  rintro e v3 ⟨rfl, r1, g1⟩
  replace H := Lib.hid (H.out.call r1 g1)
  clear r1 g1 TI n0 n1 n2 n3 n4 n5 n6 n7 n8 n9 n10 n11 n12 n13 n14 n15 d0 d1 d2 d3 d4 d5 d6 d7 d8 d9 d10 d11 d12 d13 d14 d15
  have OW3 : v3.heap[o]? = some (.cells #[.int .i64 2, .int .i64 0, .int .i64 0, .int .i64 0, .int .i64 0, .int .i64 0, .int .i64 0, .int .i64 0, .int .i64 0, .int .i64 0, .int .i64 0, .int .i64 0, .int .i64 0, .int .i64 0, .int .i64 0, .int .i64 0] CMR (0, 0)) := H.out.own
  obtain ⟨⟨n0, n1, n2, n3, n4, n5, n6, n7, n8, n9, n10, n11, n12, n13, n14, n15⟩, ⟨d0, d1, d2, d3, d4, d5, d6, d7, d8, d9, d10, d11, d12, d13, d14, d15⟩⟩ := Bx.b16 OW3
  clear OW3
  have HF := Lib.hid (H.out.ids i1 i2 i3)
  clear H
  go_upto_region 13 with fail
  clear n0 n1 n2 n3 n4 n5 n6 n7 n8 n9 n10 n11 n12 n13 n14 n15 d0 d1 d2 d3 d4 d5 d6 d7 d8 d9 d10 d11 d12 d13 d14 d15
  generalize ((v3.setCell ⟨o, 1, none⟩ (.int .i64 i1)).setCell ⟨o, 2, none⟩ (.int .i64 i2)).setCell ⟨o, 3, none⟩ (.int .i64 i3) = V at *
  have H : Hid (TC b o w tc ⟨s3, b3⟩ V) := Lib.hid (by rw [htc.out]; exact HF.out)
  clear HF htc
  have QB : V.cell? ⟨b, 1, none⟩ = some (.bool b3) := H.out.rq.rd.c1
  have HR := Lib.hid H.out.rq
  have B0 := Lib.hid H.out.res
  have B1 := Lib.hid H.out.own
  have hlo := H.out.lo
  clear H
  obtain ⟨Z, hZ⟩ : ∃ Z, Z = cmB zeroC := ⟨_, rfl⟩
  obtain ⟨X, hX⟩ : ∃ X, X = cmB tc := ⟨_, rfl⟩
  rw [← hZ] at B0 HZ RES ZE
  rw [← hX] at MY HX RES B1
  clear hZ hX
  cases b3 with
  | true =>
    clear MY
    go_wp2_with fail
    refine (BAD.out _ HR.out).mono ?_
    rintro e w7 ⟨rfl, r7, g7⟩
    replace B0 := Lib.hid ((g7.block _ (lt_of_row B0.out) (by simp; omega)).trans B0.out)
    clear HR g7 BAD QB B1
    have HR := Lib.hid r7
    clear r7
    have HZ2 : Cr #[.int .i64 0, .int .i64 0, .int .i64 0, .int .i64 0, .int .i64 0, .int .i64 0, .int .i64 0, .int .i64 0, .int .i64 0, .int .i64 0, .int .i64 0, .int .i64 0, .int .i64 0, .int .i64 0, .int .i64 0, .int .i64 0] := by rw [← ZE]; exact HZ
    have B02 : Hid (w7.heap[w.heap.size]? = some (.cells #[.int .i64 0, .int .i64 0, .int .i64 0, .int .i64 0, .int .i64 0, .int .i64 0, .int .i64 0, .int .i64 0, .int .i64 0, .int .i64 0, .int .i64 0, .int .i64 0, .int .i64 0, .int .i64 0, .int .i64 0, .int .i64 0] CMR (0, 0))) := Lib.hid (by rw [← ZE]; exact B0.out)
    go_wp2_with (refine wpList_store_row rfl CMR (.tmp 2) (.tmp 46) rfl w.heap.size #[.int .i64 0, .int .i64 0, .int .i64 0, .int .i64 0, .int .i64 0, .int .i64 0, .int .i64 0, .int .i64 0, .int .i64 0, .int .i64 0, .int .i64 0, .int .i64 0, .int .i64 0, .int .i64 0, .int .i64 0, .int .i64 0] rfl rfl CMR #[.int .i64 0, .int .i64 0, .int .i64 0, .int .i64 0, .int .i64 0, .int .i64 0, .int .i64 0, .int .i64 0, .int .i64 0, .int .i64 0, .int .i64 0, .int .i64 0, .int .i64 0, .int .i64 0, .int .i64 0, .int .i64 0] B02.out HZ2.sz rfl HZ2.one ?_)
    rw [← ZE]
    exact bodyPost_ret (v := .agg Z) (results_cell_row Tryz.results15 _ _ w.heap.size CMR Z (0, 0) _ rfl (setRow_heap _ _ _ _ _ _ B0.out) Tryz.underlying38 rfl HZ.sz) rfl (RES.out.2 rfl _ (rq_row HR.out (Nat.le_refl _) Z))
  | false =>
    cases ry with
    | false =>
      go_upto_if 43 with (first
        | (refine load_rowr rfl CMR (.tmp 3) rfl o rfl CMR X (0, 0) _ B1.out Tryz.underlying38 rfl HX.sz ?_)
        | (go_at_call 52; refine (MY.out _).mono ?_; rintro e w4 ⟨rfl, hb4⟩))
      replace B0 := Lib.hid ((hb4.block _ (lt_of_row B0.out)).trans B0.out)
      replace HR := Lib.hid (HR.out.below hb4)
      clear hb4 MY
      go_wp2_with fail
      refine (BAD.out _ HR.out).mono ?_
      rintro e w7 ⟨rfl, r7, g7⟩
      replace B0 := Lib.hid ((g7.block _ (lt_of_row B0.out) (by simp; omega)).trans B0.out)
      clear HR g7 BAD QB B1
      have HR := Lib.hid r7
      clear r7
      have HZ2 : Cr #[.int .i64 0, .int .i64 0, .int .i64 0, .int .i64 0, .int .i64 0, .int .i64 0, .int .i64 0, .int .i64 0, .int .i64 0, .int .i64 0, .int .i64 0, .int .i64 0, .int .i64 0, .int .i64 0, .int .i64 0, .int .i64 0] := by rw [← ZE]; exact HZ
      have B02 : Hid (w7.heap[w.heap.size]? = some (.cells #[.int .i64 0, .int .i64 0, .int .i64 0, .int .i64 0, .int .i64 0, .int .i64 0, .int .i64 0, .int .i64 0, .int .i64 0, .int .i64 0, .int .i64 0, .int .i64 0, .int .i64 0, .int .i64 0, .int .i64 0, .int .i64 0] CMR (0, 0))) := Lib.hid (by rw [← ZE]; exact B0.out)
      go_wp2_with (refine wpList_store_row rfl CMR (.tmp 2) (.tmp 46) rfl w.heap.size #[.int .i64 0, .int .i64 0, .int .i64 0, .int .i64 0, .int .i64 0, .int .i64 0, .int .i64 0, .int .i64 0, .int .i64 0, .int .i64 0, .int .i64 0, .int .i64 0, .int .i64 0, .int .i64 0, .int .i64 0, .int .i64 0] rfl rfl CMR #[.int .i64 0, .int .i64 0, .int .i64 0, .int .i64 0, .int .i64 0, .int .i64 0, .int .i64 0, .int .i64 0, .int .i64 0, .int .i64 0, .int .i64 0, .int .i64 0, .int .i64 0, .int .i64 0, .int .i64 0, .int .i64 0] B02.out HZ2.sz rfl HZ2.one ?_)
      rw [← ZE]
      exact bodyPost_ret (v := .agg Z) (results_cell_row Tryz.results15 _ _ w.heap.size CMR Z (0, 0) _ rfl (setRow_heap _ _ _ _ _ _ B0.out) Tryz.underlying38 rfl HZ.sz) rfl (RES.out.2 rfl _ (rq_row HR.out (Nat.le_refl _) Z))
    | true =>
      go_upto_if 43 with (first
        | (refine load_rowr rfl CMR (.tmp 3) rfl o rfl CMR X (0, 0) _ B1.out Tryz.underlying38 rfl HX.sz ?_)
        | (go_at_call 52; refine (MY.out _).mono ?_; rintro e w4 ⟨rfl, hb4⟩))
      replace B0 := Lib.hid ((hb4.block _ (lt_of_row B0.out)).trans B0.out)
      replace B1 := Lib.hid ((hb4.block _ (lt_of_row B1.out)).trans B1.out)
      replace HR := Lib.hid (HR.out.below hb4)
      clear hb4 MY
      go_wp2_with (first
        | (refine load_rowr rfl CMR (.tmp 3) rfl o rfl CMR X (0, 0) _ B1.out Tryz.underlying38 rfl HX.sz ?_)
        | (refine wpList_store_row rfl CMR (.tmp 2) (.tmp 47) rfl w.heap.size X rfl rfl CMR Z B0.out HX.sz (cr_size HZ HX) HX.one ?_))
      exact bodyPost_ret (v := .agg X) (results_cell_row Tryz.results15 _ _ w.heap.size CMR X (0, 0) _ rfl (setRow_heap _ _ _ _ _ _ B0.out) Tryz.underlying38 rfl HX.sz) rfl (RES.out.1 (by trivial) (by trivial) _ (rq_row HR.out (Nat.le_refl _) X))
set_option maxHeartbeats 32000000 in
set_option maxRecDepth 100000 in
theorem rtakecmd_5 {b : Nat} {w : World} {q : Rr} (h : RQ b w q w) (n1 : (tInt q).1 ≠ 1) (n2 : (tInt q).1 ≠ 2) (n3 : (tInt q).1 ≠ 3) (n4 : (tInt q).1 ≠ 4) : Calls Tryz.prog 15 #[.pointer (some ⟨b, 0, none⟩)] w fun e W' => e = .returned (takeC q).1.val ∧ RQ b w (takeC q).2 W' := by
  have CM := Lib.hid fun W (hW : RQ b w q W) => rtake_int hW
  have HT : takeC q = if (takeBody (tInt q).1 (tInt q).2).2.bad || !mayCmd (takeBody (tInt q).1 (tInt q).2).1 then (zeroC, Rr.no) else takeBody (tInt q).1 (tInt q).2 := rfl
  have FT := takeBody_fit (tInt q).1 (tInt q).2
  rw [HT]
  clear HT
  generalize tInt q = pk at *
  obtain ⟨k, q1⟩ := pk
  simp only at CM FT n1 n2 n3 n4 ⊢
  have HE : takeBody k q1 = (⟨k, 0, 0, 0, zeroB, 0⟩, q1) := by unfold takeBody; rw [if_neg n1, if_neg n2, if_neg n3, if_neg n4]
  rw [HE] at FT ⊢
  clear HE
  have z1 : (k == (1 : Int)) = false := by simpa using n1
  have z2 : (k == (2 : Int)) = false := by simpa using n2
  have z3 : (k == (3 : Int)) = false := by simpa using n3
  have z4 : (k == (4 : Int)) = false := by simpa using n4
  obtain ⟨qx, hqx⟩ : ∃ x, x = q1 := ⟨_, rfl⟩
  rw [← hqx]
  replace hqx := Lib.hid hqx
  simp only at FT ⊢
  have HTC := Lib.hid (show (⟨k, 0, 0, 0, zeroB, 0⟩ : Cn) = (⟨k, 0, 0, 0, zeroB, 0⟩ : Cn) from rfl)
  obtain ⟨tc, htc⟩ : ∃ tc : Cn, tc = ⟨k, 0, 0, 0, zeroB, 0⟩ := ⟨_, rfl⟩
  rw [← htc]
  have FT2 : Fit tc.b.m := by rw [htc]; exact FT
  clear FT HTC
  replace htc := Lib.hid htc
  obtain ⟨s3, b3⟩ := qx
  have MY : Hid (∀ W, Calls Tryz.prog 52 #[.agg (cmB tc)] W fun e w' => e = .returned (.bool (mayCmd tc)) ∧ Below W.heap.size W w') := Lib.hid fun W => maycmd_any tc FT2 W
  clear FT2
  generalize mayCmd tc = ry at *
  simp only
  have BAD := Lib.hid fun W (hW : RQ b w ⟨s3, b3⟩ W) => rbad_any hW
  have HX := cr_of tc
  have HZ := cr_of zeroC
  have RES : Hid ((b3 = false → ry = true → ∀ W', RQ b w ⟨s3, b3⟩ W' → Ending.returned (.agg (cmB tc)) = .returned (if b3 || !ry then (zeroC, Rr.no) else (tc, ⟨s3, b3⟩)).1.val ∧ RQ b w (if b3 || !ry then (zeroC, Rr.no) else (tc, ⟨s3, b3⟩)).2 W') ∧ ((b3 || !ry) = true → ∀ W', RQ b w Rr.no W' → Ending.returned (.agg (cmB zeroC)) = .returned (if b3 || !ry then (zeroC, Rr.no) else (tc, ⟨s3, b3⟩)).1.val ∧ RQ b w (if b3 || !ry then (zeroC, Rr.no) else (tc, ⟨s3, b3⟩)).2 W')) := Lib.hid ⟨fun h1 h2 W' hW => by rw [h1, h2] at *; exact ⟨rfl, hW⟩, fun h1 W' hW => by rw [h1]; exact ⟨rfl, hW⟩⟩
  have hb := h.lt
  have ZE : cmB zeroC = #[.int .i64 0, .int .i64 0, .int .i64 0, .int .i64 0, .int .i64 0, .int .i64 0, .int .i64 0, .int .i64 0, .int .i64 0, .int .i64 0, .int .i64 0, .int .i64 0, .int .i64 0, .int .i64 0, .int .i64 0, .int .i64 0] := rfl
  have B0 : Hid ((w.alloc (.cells (cmB zeroC) CMR)).heap[w.heap.size]? = some (.cells (cmB zeroC) CMR (0, 0))) := Lib.hid (at1 w (.cells (cmB zeroC) CMR))
  have HR := Lib.hid (h.below (bel1 w (.cells (cmB zeroC) CMR)))
  clear h
  go_enter Tryz.func15, Tryz.ntmps15
  go_wp2_with fail
  rw [← ZE]
  generalize w.alloc (.cells (cmB zeroC) CMR) = wa at *
  refine (CM.out _ HR.out).mono ?_
  rintro e w1 ⟨rfl, r1, g1⟩
  replace B0 := Lib.hid ((g1.block _ (lt_of_row B0.out) (by simp; omega)).trans B0.out)
  clear HR g1 CM
  have H := Lib.hid (TC.start r1 B0.out k)
  clear r1 B0
  go_upto_region 2 with fail
  generalize w1.alloc (.cells #[.int .i64 k, .int .i64 0, .int .i64 0, .int .i64 0, .int .i64 0, .int .i64 0, .int .i64 0, .int .i64 0, .int .i64 0, .int .i64 0, .int .i64 0, .int .i64 0, .int .i64 0, .int .i64 0, .int .i64 0, .int .i64 0] CMR) = w2 at *
  generalize w1.heap.size = o at *
  have OW : w2.heap[o]? = some (.cells #[.int .i64 k, .int .i64 0, .int .i64 0, .int .i64 0, .int .i64 0, .int .i64 0, .int .i64 0, .int .i64 0, .int .i64 0, .int .i64 0, .int .i64 0, .int .i64 0, .int .i64 0, .int .i64 0, .int .i64 0, .int .i64 0] CMR (0, 0)) := H.out.own
  obtain ⟨⟨n0, n1, n2, n3, n4, n5, n6, n7, n8, n9, n10, n11, n12, n13, n14, n15⟩, ⟨d0, d1, d2, d3, d4, d5, d6, d7, d8, d9, d10, d11, d12, d13, d14, d15⟩⟩ := Bx.b16 OW
  clear OW
  go_upto_region 13 with fail
  clear n0 n1 n2 n3 n4 n5 n6 n7 n8 n9 n10 n11 n12 n13 n14 n15 d0 d1 d2 d3 d4 d5 d6 d7 d8 d9 d10 d11 d12 d13 d14 d15
  have HF := H
  rw [← hqx.out] at HF
  clear hqx H
  generalize w2 = V at *
  have H : Hid (TC b o w tc ⟨s3, b3⟩ V) := Lib.hid (by rw [htc.out]; exact HF.out)
  clear HF htc
  have QB : V.cell? ⟨b, 1, none⟩ = some (.bool b3) := H.out.rq.rd.c1
  have HR := Lib.hid H.out.rq
  have B0 := Lib.hid H.out.res
  have B1 := Lib.hid H.out.own
  have hlo := H.out.lo
  clear H
  obtain ⟨Z, hZ⟩ : ∃ Z, Z = cmB zeroC := ⟨_, rfl⟩
  obtain ⟨X, hX⟩ : ∃ X, X = cmB tc := ⟨_, rfl⟩
  rw [← hZ] at B0 HZ RES ZE
  rw [← hX] at MY HX RES B1
  clear hZ hX
  cases b3 with
  | true =>
    clear MY
    go_wp2_with fail
    refine (BAD.out _ HR.out).mono ?_
    rintro e w7 ⟨rfl, r7, g7⟩
    replace B0 := Lib.hid ((g7.block _ (lt_of_row B0.out) (by simp; omega)).trans B0.out)
    clear HR g7 BAD QB B1
    have HR := Lib.hid r7
    clear r7
    have HZ2 : Cr #[.int .i64 0, .int .i64 0, .int .i64 0, .int .i64 0, .int .i64 0, .int .i64 0, .int .i64 0, .int .i64 0, .int .i64 0, .int .i64 0, .int .i64 0, .int .i64 0, .int .i64 0, .int .i64 0, .int .i64 0, .int .i64 0] := by rw [← ZE]; exact HZ
    have B02 : Hid (w7.heap[w.heap.size]? = some (.cells #[.int .i64 0, .int .i64 0, .int .i64 0, .int .i64 0, .int .i64 0, .int .i64 0, .int .i64 0, .int .i64 0, .int .i64 0, .int .i64 0, .int .i64 0, .int .i64 0, .int .i64 0, .int .i64 0, .int .i64 0, .int .i64 0] CMR (0, 0))) := Lib.hid (by rw [← ZE]; exact B0.out)
    go_wp2_with (refine wpList_store_row rfl CMR (.tmp 2) (.tmp 46) rfl w.heap.size #[.int .i64 0, .int .i64 0, .int .i64 0, .int .i64 0, .int .i64 0, .int .i64 0, .int .i64 0, .int .i64 0, .int .i64 0, .int .i64 0, .int .i64 0, .int .i64 0, .int .i64 0, .int .i64 0, .int .i64 0, .int .i64 0] rfl rfl CMR #[.int .i64 0, .int .i64 0, .int .i64 0, .int .i64 0, .int .i64 0, .int .i64 0, .int .i64 0, .int .i64 0, .int .i64 0, .int .i64 0, .int .i64 0, .int .i64 0, .int .i64 0, .int .i64 0, .int .i64 0, .int .i64 0] B02.out HZ2.sz rfl HZ2.one ?_)
    rw [← ZE]
    exact bodyPost_ret (v := .agg Z) (results_cell_row Tryz.results15 _ _ w.heap.size CMR Z (0, 0) _ rfl (setRow_heap _ _ _ _ _ _ B0.out) Tryz.underlying38 rfl HZ.sz) rfl (RES.out.2 rfl _ (rq_row HR.out (Nat.le_refl _) Z))
  | false =>
    cases ry with
    | false =>
      go_upto_if 43 with (first
        | (refine load_rowr rfl CMR (.tmp 3) rfl o rfl CMR X (0, 0) _ B1.out Tryz.underlying38 rfl HX.sz ?_)
        | (go_at_call 52; refine (MY.out _).mono ?_; rintro e w4 ⟨rfl, hb4⟩))
      replace B0 := Lib.hid ((hb4.block _ (lt_of_row B0.out)).trans B0.out)
      replace HR := Lib.hid (HR.out.below hb4)
      clear hb4 MY
      go_wp2_with fail
      refine (BAD.out _ HR.out).mono ?_
      rintro e w7 ⟨rfl, r7, g7⟩
      replace B0 := Lib.hid ((g7.block _ (lt_of_row B0.out) (by simp; omega)).trans B0.out)
      clear HR g7 BAD QB B1
      have HR := Lib.hid r7
      clear r7
      have HZ2 : Cr #[.int .i64 0, .int .i64 0, .int .i64 0, .int .i64 0, .int .i64 0, .int .i64 0, .int .i64 0, .int .i64 0, .int .i64 0, .int .i64 0, .int .i64 0, .int .i64 0, .int .i64 0, .int .i64 0, .int .i64 0, .int .i64 0] := by rw [← ZE]; exact HZ
      have B02 : Hid (w7.heap[w.heap.size]? = some (.cells #[.int .i64 0, .int .i64 0, .int .i64 0, .int .i64 0, .int .i64 0, .int .i64 0, .int .i64 0, .int .i64 0, .int .i64 0, .int .i64 0, .int .i64 0, .int .i64 0, .int .i64 0, .int .i64 0, .int .i64 0, .int .i64 0] CMR (0, 0))) := Lib.hid (by rw [← ZE]; exact B0.out)
      go_wp2_with (refine wpList_store_row rfl CMR (.tmp 2) (.tmp 46) rfl w.heap.size #[.int .i64 0, .int .i64 0, .int .i64 0, .int .i64 0, .int .i64 0, .int .i64 0, .int .i64 0, .int .i64 0, .int .i64 0, .int .i64 0, .int .i64 0, .int .i64 0, .int .i64 0, .int .i64 0, .int .i64 0, .int .i64 0] rfl rfl CMR #[.int .i64 0, .int .i64 0, .int .i64 0, .int .i64 0, .int .i64 0, .int .i64 0, .int .i64 0, .int .i64 0, .int .i64 0, .int .i64 0, .int .i64 0, .int .i64 0, .int .i64 0, .int .i64 0, .int .i64 0, .int .i64 0] B02.out HZ2.sz rfl HZ2.one ?_)
      rw [← ZE]
      exact bodyPost_ret (v := .agg Z) (results_cell_row Tryz.results15 _ _ w.heap.size CMR Z (0, 0) _ rfl (setRow_heap _ _ _ _ _ _ B0.out) Tryz.underlying38 rfl HZ.sz) rfl (RES.out.2 rfl _ (rq_row HR.out (Nat.le_refl _) Z))
    | true =>
      go_upto_if 43 with (first
        | (refine load_rowr rfl CMR (.tmp 3) rfl o rfl CMR X (0, 0) _ B1.out Tryz.underlying38 rfl HX.sz ?_)
        | (go_at_call 52; refine (MY.out _).mono ?_; rintro e w4 ⟨rfl, hb4⟩))
      replace B0 := Lib.hid ((hb4.block _ (lt_of_row B0.out)).trans B0.out)
      replace B1 := Lib.hid ((hb4.block _ (lt_of_row B1.out)).trans B1.out)
      replace HR := Lib.hid (HR.out.below hb4)
      clear hb4 MY
      go_wp2_with (first
        | (refine load_rowr rfl CMR (.tmp 3) rfl o rfl CMR X (0, 0) _ B1.out Tryz.underlying38 rfl HX.sz ?_)
        | (refine wpList_store_row rfl CMR (.tmp 2) (.tmp 47) rfl w.heap.size X rfl rfl CMR Z B0.out HX.sz (cr_size HZ HX) HX.one ?_))
      exact bodyPost_ret (v := .agg X) (results_cell_row Tryz.results15 _ _ w.heap.size CMR X (0, 0) _ rfl (setRow_heap _ _ _ _ _ _ B0.out) Tryz.underlying38 rfl HX.sz) rfl (RES.out.1 (by trivial) (by trivial) _ (rq_row HR.out (Nat.le_refl _) X))
end Go.Proofs.YtdhlebmgeiiejaaGreat
