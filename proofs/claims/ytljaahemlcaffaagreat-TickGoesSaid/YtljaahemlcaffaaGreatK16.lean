/- The code: one begins. -/
import Derived.Test.YtljaahemlcaffaaGreatK11
import Derived.Test.YtljaahemlcaffaaGreatK12
import Derived.Test.YtljaahemlcaffaaGreatK14
import Derived.Test.YtljaahemlcaffaaGreatK15
import Derived.BigRegion
namespace Go.Proofs.YtljaahemlcaffaaGreat
open Go.RowKit Pz Sp Go.Shelf
set_option linter.unusedVariables false
set_option linter.unusedSimpArgs false

/-- one more, wherever -/
theorem cins_any {w W : World} {L : List Piece} {A : Option Addr} {c n i vb : Nat} {l : List Bn} (H : Sep w (rowB (.slice A n c) l :: L) W) (hn : l.length = n) (hl : n + 1 ≤ 900000) (hi : i ≤ n) (b : Bn) (hv : W.heap[vb]? = some (.cells (bnE b).toArray 42 (0, 0))) (hvb : (Value.slice A n c).ownBlock ≠ some vb) :
    Calls Tryz.prog 94 #[.slice A n c, .int .i64 i, .slice (some ⟨vb, 0, none⟩) 1 1] W fun e V => ∃ A' c', e = .returned (.slice A' (n + 1) c') ∧ Sep w (rowB (.slice A' (n + 1) c') (l.take i ++ b :: l.drop i) :: L) V := by
  by_cases hin : i = n
  · subst hin
    rw [List.take_of_length_le (by omega), List.drop_eq_nil_of_le (by omega)]
    exact cins_end H hn hl b hv
  · subst hn
    have hr := H.rows 0 rfl
    rcases hr with ⟨e, e2⟩ | ⟨g, o, cap, cur, e, _⟩
    · rw [e2] at hin hi
      simp at hin hi
      omega
    · cases e
      by_cases hroom : l.length + 1 ≤ c
      · refine (cins_shift (m := 1) H rfl hl (by omega) rfl hroom b hv (fun e => hvb (by rw [e]; rfl))).mono ?_
        rintro e V ⟨rfl, h⟩
        exact ⟨_, _, rfl, h⟩
      · exact cins_new (m := 1) H rfl hl (by omega) rfl (by omega) b hv
theorem step_call3 {P : Program} {ops : Array Oper} {o : Oper} {a : Act} {w : World} {K : Act → World → Prop} {Q : Exit → Act → World → Prop} {E : Prop}
    (hg : o.guard = none) (f : FuncId) (x y z : Operand) (T1 T2 T3 : TypeId) (hop : o.op = Op.call { callee := Callee.value (Operand.func f), args := #[x, y, z], argTypes := #[T1, T2, T3] }) (xv yv zv : Value) (hx : a.eval x = xv) (hy : a.eval y = yv) (hz : a.eval z = zv)
    (hen : ∀ args w, (callFunc f args).run P w = .ok (.enter f args) w) (h : Calls P f #[xv, yv, zv] w fun e w' => ∃ v, e = .returned v ∧ K (a.put o.dst v) w') :
    if Region.wanted o (yielded ops a.tmps) = true then Oper.wp P o a w K Q else E := by
  have hw : Region.wanted o (yielded ops a.tmps) = true := by simp [Region.wanted, hg]
  rw [if_pos hw]
  unfold Oper.wp
  have ev : a.eval (.func f) = .func (.func f) #[] #[] := rfl
  simp [execOp, hop, resolve, invoke, Deferred.ofValue, ev, hx, hy, hz, hen, Oper.upon]
  refine h.mono ?_
  rintro e w' ⟨v, rfl, hK⟩
  exact hK
theorem en_ins : ∀ args w, (callFunc 94 args).run Tryz.prog w = .ok (.enter 94 args) w := enters_of Tryz.func94 (by kernel_rfl) rfl
/-- an entity more, or not -/
def insC (C R S z : Int) (l : List Bn) (b : Bn) : List Bn := if foundAt l b.id = false ∧ (hereC C R S z b && decide (0 ≤ Zn.of C R S b.x b.y)) = true then Tk.ins l b else l
set_option maxHeartbeats 16000000 in
set_option maxRecDepth 100000 in
theorem cspawn_any {w W : World} {L : List Piece} {p q : Nat} (cC cR cS cD cV cN cQ z : Int) (hq : MapAt w q cC cR cS cD cV cN cQ) (ok : Zn.Ok cC cR cS cD cV) {A : Option Addr} {c : Nat} {v2 v3 : Value} {l : List Bn}
    (H : Sep w (box p (stO q z (.slice A l.length c) v2 v3) :: rowB (.slice A l.length c) l :: L) W) (hl : l.length ≤ 800000) (b : Bn) (hb : Tk.Fi b) :
    Calls Tryz.prog 70 #[.pointer (some ⟨p, 0, none⟩), b.val] W fun e V => e = .returned (.tuple #[]) ∧ ∃ A' c', Sep w (box p (stO q z (.slice A' (insC cC cR cS z l b).length c') v2 v3) :: rowB (.slice A' (insC cC cR cS z l b).length c') (insC cC cR cS z l b) :: L) V := by
  have H0 := sep_box H (.cells #[.int .i64 b.s, .int .i64 b.i, .int .i64 b.g, .int .i64 b.m, .int .i64 b.x, .int .i64 b.y, .int .i64 b.vx, .int .i64 b.vy, .int .i64 b.h, .int .i64 b.p, .int .i64 b.l] 42)
  have HS := Lib.hid H0
  have FND := Lib.hid fun V (hV : Below (W.alloc (.cells #[.int .i64 b.s, .int .i64 b.i, .int .i64 b.g, .int .i64 b.m, .int .i64 b.x, .int .i64 b.y, .int .i64 b.vx, .int .i64 b.vy, .int .i64 b.h, .int .i64 b.p, .int .i64 b.l] 42)).heap.size _ V) => find_any (cap := c) (((RdB.of_own (H0.rows 2 rfl)).below hV).more hV.size) (show l.length ≤ 140737488351232 by omega) b.s b.i b.g
  have HAS := Lib.hid fun V (hV : Below (W.alloc (.cells #[.int .i64 b.s, .int .i64 b.i, .int .i64 b.g, .int .i64 b.m, .int .i64 b.x, .int .i64 b.y, .int .i64 b.vx, .int .i64 b.vy, .int .i64 b.h, .int .i64 b.p, .int .i64 b.l] 42)).heap.size _ V) => chas_any cC cR cS cD cV cN cQ z (hq.at (H0.below hV).bel hq.lt) ok ((H0.below hV).held 1 rfl) b hb.x hb.y
  have OFF := Lib.hid fun V (hV : Below (W.alloc (.cells #[.int .i64 b.s, .int .i64 b.i, .int .i64 b.g, .int .i64 b.m, .int .i64 b.x, .int .i64 b.y, .int .i64 b.vx, .int .i64 b.vy, .int .i64 b.h, .int .i64 b.p, .int .i64 b.l] 42)).heap.size _ V) => of_any q cC cR cS cD cV cN cQ b.x b.y V (hq.at (H0.below hV).bel hq.lt) ok hb.x hb.y
  have lp := Bx.lt (H0.held 1 rfl)
  have lb := Bx.lt (H0.held 0 rfl)
  obtain ⟨⟨k0, k1, _, _, k4⟩, _⟩ := Bx.b5 (H0.held 1 rfl)
  obtain ⟨⟨m0, m1, m2, m3, m4, m5, m6, m7, m8, m9, m10⟩, _⟩ := Bx.b11 (H0.held 0 rfl)
  have le := findAt_le l b.id
  have INN := Lib.hid fun (V : World) (h : Sep w (box W.heap.size (.cells #[.int .i64 b.s, .int .i64 b.i, .int .i64 b.g, .int .i64 b.m, .int .i64 b.x, .int .i64 b.y, .int .i64 b.vx, .int .i64 b.vy, .int .i64 b.h, .int .i64 b.p, .int .i64 b.l] 42) :: box p (stO q z (.slice A l.length c) v2 v3) :: rowB (.slice A l.length c) l :: L) V) => show ∃ r : World, r = V.drew.alloc (.cells #[.int .i64 b.s, .int .i64 b.i, .int .i64 b.g, .int .i64 b.m, .int .i64 b.x, .int .i64 b.y, .int .i64 b.vx, .int .i64 b.vy, .int .i64 b.h, .int .i64 b.p, .int .i64 b.l] 42) ∧ Calls Tryz.prog 94 #[.slice A l.length c, .int .i64 (findAt l b.id), .slice (some ⟨V.heap.size, 0, none⟩) 1 1] r fun e V' => ∃ A' c', e = .returned (.slice A' (l.length + 1) c') ∧ Sep w (rowB (.slice A' (l.length + 1) c') (Tk.ins l b) :: box p (stO q z (.slice A l.length c) v2 v3) :: L) V' from by
    have h1 : Sep w (rowB (.slice A l.length c) l :: box p (stO q z (.slice A l.length c) v2 v3) :: L) V.drew := by
      have h2 := h.drop.drew
      exact Sep.pull h2 1 rfl
    have h3 := h1.below (bel1 V.drew (.cells #[.int .i64 b.s, .int .i64 b.i, .int .i64 b.g, .int .i64 b.m, .int .i64 b.x, .int .i64 b.y, .int .i64 b.vx, .int .i64 b.vy, .int .i64 b.h, .int .i64 b.p, .int .i64 b.l] 42))
    refine ⟨_, rfl, cins_any h3 rfl (by omega) le b (at1 V.drew _) fun e => ?_⟩
    obtain ⟨_, cur, hc⟩ := (h1.rows 0 rfl).blk e
    have := Bx.lt hc
    simp at this
  have YES : Hid (foundAt l b.id = false → (hereC cC cR cS z b && decide (0 ≤ Zn.of cC cR cS b.x b.y)) = true → insC cC cR cS z l b = Tk.ins l b) := Lib.hid fun h1 h2 => if_pos ⟨h1, h2⟩
  have NOF : Hid (foundAt l b.id = true → insC cC cR cS z l b = l) := Lib.hid fun h1 => if_neg fun h => by rw [h1] at h; cases h.1
  have NOH : Hid ((hereC cC cR cS z b && decide (0 ≤ Zn.of cC cR cS b.x b.y)) = false → insC cC cR cS z l b = l) := Lib.hid fun h1 => if_neg fun h => by rw [h1] at h; cases h.2
  have IL : Hid ((Tk.ins l b).length = l.length + 1) := Lib.hid (Tk.ins_len l b)
  clear H0 H hq ok hb
  generalize insC cC cR cS z l b = R at *
  generalize Tk.ins l b = I at *
  generalize findAt l b.id = at_ at *
  generalize foundAt l b.id = is at *
  generalize hereC cC cR cS z b = here at *
  generalize Zn.of cC cR cS b.x b.y = of at *
  generalize hln : l.length = n at *
  replace hln := Lib.hid hln
  obtain ⟨us, ui, ug, um, ux, uy, uvx, uvy, uh, up, ul⟩ := b
  simp only [Bn.val, Bn.id] at *
  generalize hww : W.alloc (.cells #[.int .i64 us, .int .i64 ui, .int .i64 ug, .int .i64 um, .int .i64 ux, .int .i64 uy, .int .i64 uvx, .int .i64 uvy, .int .i64 uh, .int .i64 up, .int .i64 ul] 42) = w1 at *
  go_enter Tryz.func70, Tryz.ntmps70
  go_upto_region 1 with fail
  generalize W.heap.size = bx at *
  refine Og.grow 13 (by kernel_rfl) (by kernel_rfl) fun hc hf => ?_
  simp only [List.take_succ_cons, List.take_zero, List.drop_succ_cons, List.drop_zero]
  repeat (refine Og.det [] rfl (fun J hJ => ?_); go_simp; first | (refine hJ _ _ ?_; clear hJ J) | (with_reducible refine ⟨_, fun p => Og.lays (FND.out _ (zlat_below p)), hJ _ _ ?_⟩; clear hJ J))
  refine Og.fin fun w2 hW => ?_
  simp only [Og.opened_nil]
  clear hc hf FND k0 k1 k4 m0 m1 m2 m3 m4 m5 m6 m7 m8 m9 m10
  have H2 := Lib.hid (HS.out.below hW)
  clear HS
  replace HAS := Lib.hid fun V (hV : Below w2.heap.size w2 V) => HAS.out V (hW.trans (hV.mono hW.size))
  replace OFF := Lib.hid fun V (hV : Below w2.heap.size w2 V) => OFF.out V (hW.trans (hV.mono hW.size))
  clear hW lp lb
  have lp := Bx.lt (H2.out.held 1 rfl)
  have lb := Bx.lt (H2.out.held 0 rfl)
  obtain ⟨⟨k0, k1, _, _, k4⟩, _⟩ := Bx.b5 (H2.out.held 1 rfl)
  obtain ⟨⟨m0, m1, m2, m3, m4, m5, m6, m7, m8, m9, m10⟩, _⟩ := Bx.b11 (H2.out.held 0 rfl)
  go_upto_region 2 with fail
  cases is with
  | true =>
    have HR := Lib.hid (NOF.out rfl)
    clear YES NOF NOH INN HAS OFF IL
    go_quiet (fail)
    rename_i nq
    clear k0 k1 k4 m0 m1 m2 m3 m4 m5 m6 m7 m8 m9 m10
    have FB := Lib.hid (H2.out.drop.below (Below.dn' (Below.refl _ _) nq))
    go_wp2
    refine bodyPost_ret (results_none rfl _ _ _) rfl ⟨rfl, A, c, ?_⟩
    rw [HR.out, hln.out]
    exact FB.out
  | false =>
    cases here with
    | false =>
      have HR := Lib.hid (NOH.out rfl)
      clear YES NOF NOH INN OFF IL
      refine Og.grow 19 (by kernel_rfl) (by kernel_rfl) fun hc hf => ?_
      simp only [List.take_succ_cons, List.take_zero, List.drop_succ_cons, List.drop_zero]
      repeat (refine Og.det [] rfl (fun J hJ => ?_); (try subst hvt); go_simp; generalize hvt : Value.bool true = vt; first | (refine hJ _ _ ?_; clear hJ J) | (with_reducible refine ⟨_, fun p => Og.lays (HAS.out _ (zlat_below p)), hJ _ _ ?_⟩; clear hJ J))
      subst hvt
      refine Og.fin fun w3 hW3 => ?_
      simp only [Og.opened_nil]
      clear hc hf HAS k0 k1 k4 m0 m1 m2 m3 m4 m5 m6 m7 m8 m9 m10
      have FB := Lib.hid (H2.out.below hW3).drop
      clear hW3 H2
      go_wp2
      refine bodyPost_ret (results_none rfl _ _ _) rfl ⟨rfl, A, c, ?_⟩
      rw [HR.out, hln.out]
      exact FB.out
    | true =>
      by_cases hof : of < 0
      · have e1 : decide (of < 0) = true := decide_eq_true hof
        have HR := Lib.hid (NOH.out (by rw [decide_eq_false (by omega)]; rfl))
        clear YES NOF NOH INN IL
        refine Og.grow 19 (by kernel_rfl) (by kernel_rfl) fun hc hf => ?_
        simp only [List.take_succ_cons, List.take_zero, List.drop_succ_cons, List.drop_zero]
        repeat (refine Og.det [] rfl (fun J hJ => ?_); go_simp; first | (refine hJ _ _ ?_; clear hJ J) | (with_reducible refine ⟨_, fun p => Og.lays (HAS.out _ (zlat_below p)), hJ _ _ ?_⟩; clear hJ J) | (with_reducible refine ⟨_, fun p => Og.lays (OFF.out _ (zlat_below p)), hJ _ _ ?_⟩; clear hJ J))
        refine Og.fin fun w3 hW3 => ?_
        simp only [Og.opened_nil]
        clear hc hf HAS OFF k0 k1 k4 m0 m1 m2 m3 m4 m5 m6 m7 m8 m9 m10
        have FB := Lib.hid (H2.out.below hW3).drop
        clear hW3 H2
        go_wp2
        refine bodyPost_ret (results_none rfl _ _ _) rfl ⟨rfl, A, c, ?_⟩
        rw [HR.out, hln.out]
        exact FB.out
      · have e1 : decide (of < 0) = false := decide_eq_false hof
        have HR := Lib.hid (YES.out rfl (by rw [decide_eq_true (by omega)]; rfl))
        clear YES NOF NOH
        refine Og.grow 19 (by kernel_rfl) (by kernel_rfl) fun hc hf => ?_
        simp only [List.take_succ_cons, List.take_zero, List.drop_succ_cons, List.drop_zero]
        repeat (refine Og.det [] rfl (fun J hJ => ?_); go_simp; first | (refine hJ _ _ ?_; clear hJ J) | (with_reducible refine ⟨_, fun p => Og.lays (HAS.out _ (zlat_below p)), hJ _ _ ?_⟩; clear hJ J) | (with_reducible refine ⟨_, fun p => Og.lays (OFF.out _ (zlat_below p)), hJ _ _ ?_⟩; clear hJ J))
        refine Og.fin fun w3 hW3 => ?_
        simp only [Og.opened_nil]
        clear hc hf HAS OFF k0 k1 k4 m0 m1 m2 m3 m4 m5 m6 m7 m8 m9 m10
        have H3 := H2.out.below hW3
        clear hW3 H2
        obtain ⟨r, rfl, hci⟩ := INN.out w3 H3
        have CI := Lib.hid hci
        have AL := bel1 w3 (.cells #[.int .i64 us, .int .i64 ui, .int .i64 ug, .int .i64 um, .int .i64 ux, .int .i64 uy, .int .i64 uvx, .int .i64 uvy, .int .i64 uh, .int .i64 up, .int .i64 ul] 42)
        have P0 := H3.held 1 rfl
        have X0 := H3.held 0 rfl
        obtain ⟨⟨_, k1, _, _, _⟩, _⟩ := Bx.b5 P0
        obtain ⟨⟨m0, m1, m2, m3, m4, m5, m6, m7, m8, m9, m10⟩, _⟩ := Bx.b11 X0
        have k1' := (AL.cell (p := ⟨p, 1, none⟩) (Bx.lt P0)).trans k1
        clear INN hci AL P0 X0 H3 lp lb
        go_upto_region 3 with fail
        go_region_law (refine step_call3 rfl 94 (.tmp 41) (.tmp 42) (.tmp 44) 24 3 24 rfl (.slice A n c) (.int .i64 (at_ : Int)) (.slice (some ⟨w3.heap.size, 0, none⟩) 1 1) (by simp [Act.eval]) (by simp [Act.eval]) (by simp [Act.eval]) en_ins (CI.out.mono ?_); rintro e V ⟨A', c', rfl, HV⟩; obtain ⟨⟨_, c12, _⟩, _, f11, _⟩ := Bx.b5 (HV.held 1 rfl); have HW := Lib.hid HV; clear HV; refine ⟨_, rfl, ?_⟩)
        all_goals
          go_wp2
          go_end0
          refine ⟨rfl, A', c', ?_⟩
          rw [HR.out, IL.out]
          exact Sep.cell (o := 1) (Sep.pull HW.out 1 rfl) _
end Go.Proofs.YtljaahemlcaffaaGreat
