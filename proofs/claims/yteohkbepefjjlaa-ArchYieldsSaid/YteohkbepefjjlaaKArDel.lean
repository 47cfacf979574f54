/- The code's store: Remove. -/
import Derived.Test.YteohkbepefjjlaaKArDel0
import Derived.BigRegion
namespace Go.Proofs.Yteohkbepefjjlaa
open Go.RowKit Pz Ar
set_option linter.unusedVariables false
set_option linter.unusedSimpArgs false

theorem wpList_delete2 {P : Program} (w : World) {ops : Array Oper} {rest : List Oper} {o : Oper} {a : Act} {Q : Exit → Act → World → Prop} (hg : o.guard = none) (s x : Operand) (t t' : TypeId) (hop : o.op = Op.call { callee := Callee.builtin Builtin.delete, args := #[s, x], argTypes := #[t, t'] })
    (v xv : Value) (hs : a.eval s = v) (hx : a.eval x = xv) (v' : Value) (w' : World) (hrun : (Builtin.delete_ #[t, t'] o.type #[v, xv]).run P w = .ok v' w') (hK : wpList P ops Q rest (a.put o.dst v') w') :
    wpList P ops Q (o :: rest) a w := by
  refine wpList_plain hg fun K' hK' => ?_
  unfold Oper.wp
  simp [execOp, hop, resolve, invoke, builtin, hs, hx, hrun, Result.andThen]
  exact hK' _ _ hK
set_option maxHeartbeats 8000000 in
set_option maxRecDepth 100000 in
theorem remove_none {P : Value} {w : World} {k1 k2 k3 : Int} (h : FindIs P none k1 k2 k3 w) : Calls Try.prog 24 #[P, .agg #[.int .i64 k1, .int .i64 k2, .int .i64 k3]] w fun e w' => e = .returned (.bool false) ∧ Below w.heap.size w w' := by
  have HF := Lib.hid h
  have T1 := Lib.hid (at1 w (.cells #[.int .i64 k1, .int .i64 k2, .int .i64 k3] 33))
  have BE := Lib.hid (bel1 w (.cells #[.int .i64 k1, .int .i64 k2, .int .i64 k3] 33))
  clear h
  go_enter Try.func24, Try.ntmps24
  go_upto_region 1 with fail
  generalize w.alloc (.cells #[.int .i64 k1, .int .i64 k2, .int .i64 k3] 33) = w1 at *
  obtain ⟨⟨q0, q1, q2⟩, _⟩ := Bx.b3 T1.out
  go_wp2_with fail
  refine (HF.out w1 BE.out).mono ?_
  rintro e w2 ⟨rfl, hb⟩
  replace BE := Lib.hid (BE.out.trans (hb.mono BE.out.size))
  clear hb HF q0 q1 q2 T1
  simp only [lookV]
  have HQ := Lib.hid (BE.out.alloc BE.out.size (.cells #[.int .i64 0, .int .i64 0] 72))
  clear BE
  go_wp2
  go_ret
  exact ⟨rfl, HQ.out⟩
set_option maxHeartbeats 16000000 in
set_option maxRecDepth 100000 in
theorem remove_some {F : Foot} {p : Nat} {t : Tb} {w : World} (h : CS F p t w) {k1 k2 k3 : Int} {m i : Nat} (hf : Ar.find t (k1, k2, k3) = some (m, i)) : Calls Try.prog 24 #[.pointer (some ⟨p, 0, none⟩), .agg #[.int .i64 k1, .int .i64 k2, .int .i64 k3]] w fun e w' => e = .returned (.bool true) ∧ CS (Gr F w.heap.size w'.heap.size) p (cut0 t m i) w' ∧ Only F w w' := by
  have HA := Lib.hid (h.finds k1 k2 k3)
  rw [hf] at HA
  obtain ⟨hm, x, hx, hxid⟩ := find_at hf
  have hi := (List.getElem?_eq_some_iff.1 hx).1
  obtain ⟨cs, mv, L, h1, h2, h3, h4, h5, h6⟩ := h.head
  have hlast : (t m).length - 1 < (t m).length := by omega
  have hz : (t m)[(t m).length - 1]? = some (t m)[(t m).length - 1] := List.getElem?_eq_getElem hlast
  generalize (t m)[(t m).length - 1] = z at *
  have hxL : ((k1, k2, k3), m, i) ∈ L := (h6.is _ _).2 hf
  have hzL : (z.id, m, (t m).length - 1) ∈ L := (h6.is _ _).2 (find_is h.good hz)
  obtain ⟨q, rfl⟩ : ∃ q, mv = .map (some q) := by
    rcases h5 with ⟨_, e⟩ | ⟨q, _, _, e, _⟩
    · rw [e] at hxL; cases hxL
    · exact ⟨q, e⟩
  obtain ⟨v, hv, hov, hvF⟩ := h3.tab m hm
  obtain ⟨A, c, rfl⟩ := hov.form
  obtain ⟨g, o, c', e, _, _⟩ := hov.at_ hx
  cases e
  have hp := h.mine
  have hF := h.lt
  have hpw := h.lt p hp
  have hfew := h.few m
  have hcap : (t m).length ≤ c := by
    rcases hov with ⟨e, _⟩ | ⟨_, _, _, _, e, _, _, e3, _⟩
    · cases e
    · cases e; exact e3
  have hn1 := h6.apart
  have hzL2 : (z.id, m, (t m).length - 1) ∈ L := hzL
  have hxid' : x.id = (k1, k2, k3) := hxid
  have hR := h6.cut h.good hx hz
  rw [hxid'] at hR
  have hG := cut_good h.good hi
  -- what holds from place to place
  have A0 : ∀ W b2, Below w.heap.size w W → W.heap[w.heap.size]? = some (.cells #[.int .i64 k1, .int .i64 k2, .int .i64 k3] 33 (0, 0)) → W.heap[b2]? = some (.cells #[.int .i64 (m : Int), .int .i64 (i : Int)] 72 (0, 0)) → RemAt F p t L w k1 k2 k3 b2 m i q cs W := fun W b2 hW e1 e2 =>
    ⟨.of_below hW, (hW.block p hpw).trans h1, h2, h3.kept (fun b hb => hW.block b (hF b hb)), h4, h5.kept (fun b hb => hW.block b (hF b hb)), e1, e2⟩
  have A1 : ∀ W b2, RemAt F p t L w k1 k2 k3 b2 m i q cs W → RemAt F p (Ar.up t m ((t m).set i z)) L w k1 k2 k3 b2 m i q cs (setRow11 W g (o + i * 11) z) := fun W b2 hS => hS.row hm hv hi z
  have A2 : ∀ W b2, RemAt F p (Ar.up t m ((t m).set i z)) L w k1 k2 k3 b2 m i q cs W → ∃ V, (Instr.mapUpdate MT (.map (some q)) (idV z.id) (plV (m, i))).run Try.prog W = .ok () V ∧ RemAt F p (Ar.up t m ((t m).set i z)) (setK L z.id (m, i)) w k1 k2 k3 b2 m i q cs V := fun W b2 hS => by
    obtain ⟨V, hr, hM, hT⟩ := hS.map.set hn1 hzL2 (m, i)
    exact ⟨V, hr, hS.turn hT hM⟩
  have hset : (Ar.up t m ((t m).set i z)) m = (t m).set i z := up_same _ _ _
  have ROWS : ∀ W b2 L', RemAt F p (Ar.up t m ((t m).set i z)) L' w k1 k2 k3 b2 m i q cs W → OwnB W 0 (.slice (some ⟨g, o, none⟩) (t m).length c) ((t m).set i z) := fun W b2 L' hS => by
    obtain ⟨u, hu, hou, _⟩ := hS.tabs.tab m hm
    rw [hv] at hu
    cases Option.some.inj hu
    rwa [hset] at hou
  have hzz : ((t m).set i z)[(t m).length - 1]? = some z := by
    by_cases e : (t m).length - 1 = i
    · rw [e, List.getElem?_set_self hi]
    · rw [List.getElem?_set_ne (fun e' => e e'.symm), hz]
  have hcut : ((t m).set i z).take ((t m).length - 1) = cutL (t m) i := by unfold cutL; rw [hz]
  have htab : ∀ l, Ar.up (Ar.up t m ((t m).set i z)) m l = Ar.up t m l := fun l => by
    funext a; unfold Ar.up; split <;> rfl
  have A3 : ∀ W b2, RemAt F p (Ar.up t m ((t m).set i z)) (setK L z.id (m, i)) w k1 k2 k3 b2 m i q cs W → RemAt F p (cut0 t m i) (setK L z.id (m, i)) w k1 k2 k3 b2 m i q (cs.setIfInBounds m (.slice (some ⟨g, o, none⟩) ((t m).length - 1) c)) (W.setCell ⟨p, m, none⟩ (.slice (some ⟨g, o, none⟩) ((t m).length - 1) c)) := fun W b2 hS => by
    have ho := own_take (ROWS W b2 _ hS) (k := (t m).length - 1) (by simp)
    rw [hcut] at ho
    have := hS.cut hp hm ho (by rw [cutL_len]; omega) (fun g' hg' => ⟨_, hv, hg'⟩)
    rw [htab] at this
    exact this
  have A4 : ∀ W b2 cs', RemAt F p (cut0 t m i) (setK L z.id (m, i)) w k1 k2 k3 b2 m i q cs' W → ∃ V, (Builtin.delete_ #[MT, 33] 0 #[.map (some q), idV (k1, k2, k3)]).run Try.prog W = .ok (.tuple #[]) V ∧ CS (Gr F w.heap.size V.heap.size) p (cut0 t m i) V ∧ Only F w V := fun W b2 cs' hS => by
    have hk : ∃ y, ((k1, k2, k3), y) ∈ setK L z.id (m, i) := by
      by_cases e : (k1, k2, k3) = z.id
      · exact ⟨(m, i), mem_setK.2 (.inl ⟨e, rfl, _, hzL⟩)⟩
      · exact ⟨_, mem_setK.2 (.inr ⟨e, hxL⟩)⟩
    obtain ⟨y, hy⟩ := hk
    obtain ⟨V, hr, hM, hT⟩ := hS.map.del (by rw [keys_setK]; exact hn1) hy 0
    exact ⟨V, hr, (hS.turn hT hM).fin hp hF hG hR⟩
  -- what is read
  have RD0 : ∀ W b2, RemAt F p t L w k1 k2 k3 b2 m i q cs W → W.cell? ⟨p, m, none⟩ = some (.slice (some ⟨g, o, none⟩) (t m).length c) ∧ Cells11 W g (o + ((t m).length - 1) * 11) z ∧ Cells11 W g (o + i * 11) x ∧ Froz11 W g (o + i * 11) := fun W b2 hS => by
    obtain ⟨u, hu, hou, _⟩ := hS.tabs.tab m hm
    rw [hv] at hu
    cases Option.some.inj hu
    obtain ⟨g1, o1, e1, _, c1, _⟩ := own_at hou hz
    cases e1
    obtain ⟨g1, o1, e1, _, c2, f2⟩ := own_at hou hx
    cases e1
    exact ⟨(Bx.cell hS.head hv).1, c1, c2, f2⟩
  have RD1 : ∀ W b2 L', RemAt F p (Ar.up t m ((t m).set i z)) L' w k1 k2 k3 b2 m i q cs W → W.cell? ⟨p, 32, none⟩ = some (.map (some q)) ∧ Cells11 W g (o + ((t m).length - 1) * 11) z := fun W b2 L' hS => by
    have ho := ROWS W b2 L' hS
    obtain ⟨g1, o1, e1, _, c1, _⟩ := own_at (c := c) (A := some ⟨g, o, none⟩) (l := (t m).set i z) (by rw [List.length_set]; exact ho) hzz
   
    cases e1
    exact ⟨(Bx.cell hS.head hS.cell).1, c1⟩
  clear h h1 h2 h3 h4 h5 h6 hov hvF hxL hzL hzL2 hn1 hxid hxid' hR hG hf hset hzz hcut htab ROWS
  replace A0 := Lib.hid A0
  replace A1 := Lib.hid A1
  replace A2 := Lib.hid A2
  replace A3 := Lib.hid A3
  replace A4 := Lib.hid A4
  replace RD0 := Lib.hid RD0
  replace RD1 := Lib.hid RD1
  replace hv := Lib.hid hv
  obtain ⟨r, hr⟩ : ∃ r : Nat, (t m).length - 1 = r := ⟨_, rfl⟩
  rw [hr] at A3 RD0 RD1
  have hr1 : (t m).length = r + 1 := by omega
  generalize (t m).length = n at *
  have s1 : IntKind.i64.wrap ((n : Int) - 1) = (r : Int) := by rw [IntWalk.i64_in _ (by omega)]; omega
  have s2 : (n : Int) - 1 = (r : Int) := by omega
  have s3 : IntKind.i64.wrap (r : Int) = (r : Int) := IntWalk.i64_in _ (by omega)
  have hri : (r : Int) < (n : Int) := by omega
  have hii : (i : Int) < (n : Int) := by omega
  have hrc : (r : Int) ≤ (c : Int) := by omega
  have hm2 : (m : Int) < 32 := by omega
  clear hr hr1 hlast hz hx
  have T1 := Lib.hid (at1 w (.cells #[.int .i64 k1, .int .i64 k2, .int .i64 k3] 33))
  have BE := Lib.hid (bel1 w (.cells #[.int .i64 k1, .int .i64 k2, .int .i64 k3] 33))
  obtain ⟨xs, xi, xg, xm, xx, xy, xvx, xvy, xh, xp, xl⟩ := x
  obtain ⟨zs, zi, zg, zm, zx, zy, zvx, zvy, zh, zp, zl⟩ := z
  simp only [setRow11, Cells11, Froz11, idV, plV, Bn.id] at *
  go_enter Try.func24, Try.ntmps24
  go_upto_region 1 with fail
  generalize w.alloc (.cells #[.int .i64 k1, .int .i64 k2, .int .i64 k3] 33) = w1 at *
  obtain ⟨⟨q0, q1, q2⟩, _⟩ := Bx.b3 T1.out
  go_wp2_with fail
  refine (HA.out w1 BE.out).mono ?_
  rintro e w2 ⟨rfl, hb⟩
  have B3 := bel1 w2 (.cells #[.int .i64 (m : Int), .int .i64 (i : Int)] 72)
  have T3 := at1 w2 (.cells #[.int .i64 (m : Int), .int .i64 (i : Int)] 72)
  have B23 := BE.out.trans (hb.mono BE.out.size)
  have S3 := Lib.hid (A0.out _ _ (B23.trans (B3.mono B23.size)) ((B3.block _ (by have := Bx.lt T1.out; have := hb.size; omega)).trans ((hb.block _ (Bx.lt T1.out)).trans T1.out)) T3)
  clear hb HA q0 q1 q2 T1 B3 T3 B23 BE A0
  simp only [lookV, plV]
  go_upto_region 2 with fail
  obtain ⟨b2, hb2⟩ : ∃ b2, b2 = w2.heap.size := ⟨_, rfl⟩
  rw [← hb2] at S3 ⊢
  clear hb2
  generalize w2.alloc (.cells #[.int .i64 (m : Int), .int .i64 (i : Int)] 72) = w3 at *
  obtain ⟨p0, p1⟩ := (Bx.b2 S3.out.plb).1
  obtain ⟨hc, ⟨z0, z1, z2, z3, z4, z5, z6, z7, z8, z9, z10⟩, ⟨x0, x1, x2, x3, x4, x5, x6, x7, x8, x9, x10⟩, ⟨f0, f1, f2, f3, f4, f5, f6, f7, f8, f9, f10⟩⟩ := RD0.out w3 b2 S3.out
  clear RD0
  go_upto_region 4 with fail
  go_quiet (fail)
  go_upto_region 6 with fail
  go_big_region
  have S4 := Lib.hid (A1.out _ b2 (S3.out.heap (V := w3.drewN (nq + 1)) rfl rfl rfl rfl))
  clear S3 p0 p1 hc z0 z1 z2 z3 z4 z5 z6 z7 z8 z9 z10 x0 x1 x2 x3 x4 x5 x6 x7 x8 x9 x10 f0 f1 f2 f3 f4 f5 f6 f7 f8 f9 f10 A1
  go_upto_region 7 with fail
  generalize ((((((((((((w3.drewN (nq + 1)).setCell ⟨g, o + i * 11, none⟩ (.int .i64 zs)).setCell ⟨g, o + i * 11 + 1, none⟩ (.int .i64 zi)).setCell ⟨g, o + i * 11 + 2, none⟩ (.int .i64 zg)).setCell ⟨g, o + i * 11 + 3, none⟩ (.int .i64 zm)).setCell ⟨g, o + i * 11 + 4, none⟩ (.int .i64 zx)).setCell ⟨g, o + i * 11 + 5, none⟩ (.int .i64 zy)).setCell ⟨g, o + i * 11 + 6, none⟩ (.int .i64 zvx)).setCell ⟨g, o + i * 11 + 7, none⟩ (.int .i64 zvy)).setCell ⟨g, o + i * 11 + 8, none⟩ (.int .i64 zh)).setCell ⟨g, o + i * 11 + 9, none⟩ (.int .i64 zp)).setCell ⟨g, o + i * 11 + 10, none⟩ (.int .i64 zl)) = w4 at *
  have SD := S4.out.drew
  have hplb : w4.drew.heap[b2]? = some (.cells #[.int .i64 (m : Int), .int .i64 (i : Int)] 72 (0, 0)) := SD.plb
  obtain ⟨p0, p1⟩ := (Bx.b2 hplb).1
  obtain ⟨hq, z0, z1, z2, z3, z4, z5, z6, z7, z8, z9, z10⟩ := RD1.out w4.drew b2 _ SD
  obtain ⟨V, hrun, S5⟩ := A2.out w4.drew b2 SD
  replace S5 := Lib.hid S5
  clear A2 SD S4 hplb RD1
  go_still_tail 10, (by kernel_rfl)
  change wpList _ _ _ _ _ w4.drew
  generalize w4.drew = w5 at *
  go_upto_region 8 with fail
  clear hrun p0 p1 hq z0 z1 z2 z3 z4 z5 z6 z7 z8 z9 z10
  have SD := S5.out.drew
  have hplb : V.drew.heap[b2]? = some (.cells #[.int .i64 (m : Int), .int .i64 (i : Int)] 72 (0, 0)) := SD.plb
  obtain ⟨p0, p1⟩ := (Bx.b2 hplb).1
  have cm : V.drew.cell? ⟨p, m, none⟩ = some (.slice (some ⟨g, o, none⟩) n c) := (Bx.cell SD.head hv.out).1
  have fm : V.drew.frozen? ⟨p, m, none⟩ = false := (Bx.cell SD.head hv.out).2
  have S6 := Lib.hid (A3.out V.drew b2 SD)
  clear A3 SD S5 hplb
  go_still_tail 9, (by kernel_rfl)
  change wpList _ _ _ _ _ V.drew
  generalize V.drew = w6 at *
  go_upto_region 9 with fail
  clear cm fm p0 p1
  generalize w6.setCell ⟨p, m, none⟩ (.slice (some ⟨g, o, none⟩) r c) = w7 at *
  have SD := S6.out.drew
  have hidb : w7.drew.heap[w.heap.size]? = some (.cells #[.int .i64 k1, .int .i64 k2, .int .i64 k3] 33 (0, 0)) := SD.idb
  obtain ⟨i0, i1, i2⟩ := (Bx.b3 hidb).1
  have hq : w7.drew.cell? ⟨p, 32, none⟩ = some (.map (some q)) := (Bx.cell SD.head SD.cell).1
  obtain ⟨V2, hdel, FIN⟩ := A4.out w7.drew b2 _ SD
  replace FIN := Lib.hid FIN
  have HD := Lib.hid hdel
  clear A4 SD S6 hidb hdel
  go_still_tail 5, (by kernel_rfl)
  change wpList _ _ _ _ _ w7.drew
  generalize w7.drew = w8 at *
  go_wp2_with (refine wpList_delete2 _ rfl (.tmp 57) (.tmp 58) _ _ rfl _ _ rfl rfl _ _ HD.out ?_)
  go_ret
  exact ⟨rfl, FIN.out⟩
theorem remove_any {F : Foot} {p : Nat} {t : Tb} {w : World} (h : CS F p t w) (k1 k2 k3 : Int) : Calls Try.prog 24 #[.pointer (some ⟨p, 0, none⟩), .agg #[.int .i64 k1, .int .i64 k2, .int .i64 k3]] w fun e w' => e = .returned (.bool (Ar.remove t (k1, k2, k3)).2) ∧ CS (Gr F w.heap.size w'.heap.size) p (Ar.remove t (k1, k2, k3)).1 w' ∧ Only F w w' := by
  unfold Ar.remove
  cases hf : Ar.find t (k1, k2, k3) with
  | none =>
    have := h.finds k1 k2 k3
    rw [hf] at this
    refine (remove_none this).mono ?_
    rintro e w' ⟨rfl, hb⟩
    exact ⟨rfl, (h.below hb).gr, .of_below hb⟩
  | some pr =>
    obtain ⟨m, i⟩ := pr
    exact remove_some h hf
theorem remove_nil (w : World) (k1 k2 k3 : Int) : Calls Try.prog 24 #[.pointer none, .agg #[.int .i64 k1, .int .i64 k2, .int .i64 k3]] w fun e w' => e = .returned (.bool false) ∧ Below w.heap.size w w' := remove_none (nil_finds w k1 k2 k3)
end Go.Proofs.Yteohkbepefjjlaa
