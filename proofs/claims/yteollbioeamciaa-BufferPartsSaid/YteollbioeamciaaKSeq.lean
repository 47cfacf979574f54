/- ArSeq, ArAll, ArAllT, ArCopy, in one text. -/
import Derived.Test.YteollbioeamciaaKTab
import Derived.Test.YteollbioeamciaaKBase
import Derived.Shelf.Abstract
import Derived.Shelf.RegionOpen
import Derived.WalkKit
import Derived.OwnWalkIn
import Derived.TacticsInMore
import Derived.LoopNIn
import Derived.LoopIn
import Derived.Test.YteollbioeamciaaKPu
namespace Go.Proofs.Yteollbioeamciaa
open Go.RowKit Go.Shelf Pz Ar
set_option linter.unusedVariables false
set_option linter.unusedSimpArgs false
attribute [local go_sem] Oper.semAt_some

theorem wpListIn_load_mid {F : Fence} {n : Nat} {P : Program} {ops : Array Oper} {rest : List Oper} {op : Oper} {a : Act} {w : World} {Q : Exit → Act → World → Prop} (hgd : op.guard = none) (ty : TypeId) (x : Operand) (ho : op.op = .load ty x)
    (b o : Nat) (hx : a.eval x = .pointer (some ⟨b, o, none⟩)) (cs : List Value) (d : TypeDesc) (hc : w.rangeAt b o cs)
    (hu : P.underlying ty = some d) (hd : d.isRow = true) (hi : (P.info? ty).map (·.size) = some cs.length)
    (h : wpListIn F n P ops Q rest (a.put op.dst (.agg cs.toArray)) w) : wpListIn F n P ops Q (op :: rest) a w := by
  refine wpListIn_plain hgd fun K hK => ?_
  unfold Oper.wpIn
  refine ⟨?_, ?_⟩
  · simp [Oper.about, ho]
  · rw [Oper.semAt_plain F _ _ (by rw [ho]; intro c hc'; cases hc')]
    simp only [execOp, ho, hx, Instr.loadAt, Instr.sureAddr, Sem.run_bind, Sem.run_pure, Result.andThen_ok, run_loadVar_mid w b o ty cs d hc hu hd hi]
    exact hK _ _ h
theorem wpListIn_append {F : Fence} {n : Nat} {P : Program} {w : World} {ops : Array Oper} {rest : List Oper} {o : Oper} {a : Act} {Q : Exit → Act → World → Prop} (hg : o.guard = none) (s x : Operand) (t t' : TypeId) (hop : o.op = Op.call { callee := Callee.builtin Builtin.append, args := #[s, x], argTypes := #[t, t'] })
    (v xv : Value) (hs : a.eval s = v) (hx : a.eval x = xv) (v' : Value) (w' : World) (hrun : (Builtin.append_ #[t, t'] o.type #[v, xv]).run P w = .ok v' w') (hK : wpListIn F n P ops Q rest (a.put o.dst v') w') :
    wpListIn F n P ops Q (o :: rest) a w := by
  refine wpListIn_plain hg fun K hK' => ?_
  unfold Oper.wpIn
  refine ⟨?_, ?_⟩
  · simp [Oper.about, hop, resolve, Target.leads, Sem.run_pure]
  · rw [Oper.semAt_plain F _ _ (by rw [hop]; intro c hc'; cases hc')]
    simp [execOp, hop, resolve, invoke, builtin, hs, hx, hrun, Result.andThen]
    exact hK' _ _ hK
abbrev encB (x : Bn) : Array Value := #[x.val]
/-- what lies in these blocks stays -/
def Keep (S : Foot) (A B : World) : Prop := ∀ b, S b → B.heap[b]? = A.heap[b]?
theorem flat_pre {t : Tb} {m i : Nat} (hm : m < 32) {x : Bn} (hx : (t m)[i]? = some x) : (List.range m).flatMap t ++ (t m).take i ++ [x] = (List.range m).flatMap t ++ (t m).take (i + 1) ∧ (List.range m).flatMap t ++ (t m).take i ++ [x] <+: all t := by
  have e1 : (t m).take (i + 1) = (t m).take i ++ [x] := by rw [List.take_add_one, hx]; rfl
  refine ⟨by rw [e1, List.append_assoc], ?_⟩
  rw [List.append_assoc, ← e1]
  unfold all
  have e : List.range 32 = List.range m ++ (List.range 32).drop m := by
    have e1 := List.take_append_drop m (List.range 32)
    rw [List.take_range, Nat.min_eq_left (by omega)] at e1
    exact e1.symm
  rw [e, List.flatMap_append, List.prefix_append_right_inj, List.drop_eq_getElem_cons (by simpa using hm), List.getElem_range, List.flatMap_cons]
  exact (List.take_prefix _ _).trans (List.prefix_append _ _)
theorem flat_next (t : Tb) (m : Nat) : (List.range m).flatMap t ++ (t m).take (t m).length = (List.range (m + 1)).flatMap t := by
  rw [List.take_length, List.range_succ, List.flatMap_append]
  simp
theorem eql_yield (l : Nat) (V : World) : (binOp .eql 82 (.func (.yield l) #[] #[]) .nilFunc).run Try.prog V = .ok (.bool false) V := by kernel_rfl
set_option maxHeartbeats 16000000 in
set_option maxRecDepth 100000 in
theorem seq_any {F : Foot} {p P : Nat} {t : Tb} {w : World} (h : CS F p t w) (hP : w.heap[P]? = some (.cells #[.pointer (some ⟨p, 0, none⟩)] 23 (0, 0))) (n : Nat) (hn : 1 ≤ n) :
    Rg.Gives Fence.wide n Try.prog 41 #[.pointer (some ⟨P, 0, none⟩)] encB (Keep fun b => F b ∨ b = P) (all t) w := by
  intro l J Jx W hW hJb hY h0
  have hF : ∀ b, F b ∨ b = P → b < w.heap.size := fun b hb => by
    rcases hb with hb | rfl
    · exact h.lt b hb
    · exact Bx.lt hP
  obtain ⟨ds, hdl, hrg, hds⟩ := h.range
  have hfew := h.few
  have HR := Lib.hid (hrg W hW)
  have IDX := Lib.hid fun m A n c hm hv => idx_tab (ds := ds) (m := m) (A := A) (n := n) (c := c) hdl hm hv
  have HD : Hid (∀ m, m < 32 → ∃ A c, ds[m]? = some (.slice A (t m).length c) ∧ ∀ A1, Keep (fun b => F b ∨ b = P) W A1 → ∀ j x, (t m)[j]? = some x → ∃ g o, A = some ⟨g, o, none⟩ ∧ Cells11 A1 g (o + j * 11) x) := Lib.hid fun m hm => by
    obtain ⟨A, c, h1', h2', h3'⟩ := hds m hm
    refine ⟨A, c, h1', fun A1 hA j x hx => ?_⟩
    have hk : OwnB A1 0 (.slice A (t m).length c) (t m) := h2'.kept fun b hb => (hA b (.inl (h3' b hb))).trans (hW.block b (h.lt b (h3' b hb)))
    obtain ⟨g, o, e, _, hc, _⟩ := own_at hk hx
    exact ⟨g, o, e, hc⟩
  have KB : Hid (∀ A B, Keep (fun b => F b ∨ b = P) W A → Below A.heap.size A B → Keep (fun b => F b ∨ b = P) W B) := Lib.hid fun A B hA hB b hb => by
    have hlt : b < A.heap.size := by
      have h1 := hF b hb
      have h2 := hW.size
      have h3 : W.heap[b]? = some W.heap[b] := Array.getElem?_eq_getElem (by omega)
      exact Bx.lt ((hA b hb).trans h3)
    exact (hB.block b hlt).trans (hA b hb)
  have HY : Hid (∀ m j x A, m < 32 → (t m)[j]? = some x → J ((List.range m).flatMap t ++ (t m).take j) A → Keep (fun b => F b ∨ b = P) W A → ∃ fn tmps assign body, (Instr.yield l #[x.val]).run Try.prog A = .ok (.round l fn tmps assign body) A ∧ RoundIn Fence.wide (n - 1) Try.prog l fn tmps assign body A fun e V => ∃ bv, e = .returned (.bool bv) ∧ Hid ((bv = true → J ((List.range m).flatMap t ++ (t m).take (j + 1)) V ∧ Keep (fun b => F b ∨ b = P) W V) ∧ (bv = false → ∃ pre, Jx pre V))) := Lib.hid fun m j x A hm hx hJ hK => by
    obtain ⟨e1, e2⟩ := flat_pre hm hx
    obtain ⟨fn, tmps, assign, body, hy, hR⟩ := hY _ x A hJ e2
    refine ⟨fn, tmps, assign, body, hy, hR.mono ?_⟩
    rintro e V (⟨rfl, hJ', hk⟩ | ⟨rfl, hJx⟩)
    · exact ⟨true, rfl, Lib.hid ⟨fun _ => ⟨by rw [← e1]; exact hJ', fun b hb => (hk b hb).trans (hK b hb)⟩, fun h => (by cases h)⟩⟩
    · exact ⟨false, rfl, Lib.hid ⟨fun h => (by cases h), fun _ => ⟨_, hJx⟩⟩⟩
  have JB := Lib.hid hJb
  have c0 := (Bx.b1 ((hW.block P (Bx.lt hP)).trans hP)).1
  replace hfew := Lib.hid hfew
  replace hdl := Lib.hid hdl
  have HJ0 := Lib.hid h0
  clear hJb hY h0 hds hrg hF h hP hW
  have EQN := eql_yield l
  refine callsIn_of_wp Try.func41 rfl trivial ?_ rfl
  simp only [Try.ntmps41, List.size_toArray, List.length_cons, List.length_nil, Nat.reduceAdd, Nat.reduceSub, Array.replicate_succ, Array.replicate_zero, List.push_toArray, List.append_toArray, List.nil_append, List.cons_append]
  gi_wp2_with (refine wpListIn_load_mid rfl 27 (.tmp 15) rfl p 0 rfl ds _ HR.out Try.underlying27 rfl (by rw [hdl.out]; kernel_rfl) ?_)
  gi_loopw [17] (fun i wr => ∃ m : Nat, m ≤ 32 ∧ i = .int .i64 m ∧ Hid (J ((List.range m).flatMap t) wr) ∧ Hid (Keep (fun b => F b ∨ b = P) W wr)) (fun i _ => 32 - (intOf i).toNat)
  case atStart => exact ⟨0, Nat.zero_le _, rfl, HJ0, Lib.hid fun _ _ => rfl⟩
  case round =>
    obtain ⟨m, hm, rfl, HJ, HK⟩ := hrel
    clear c0 HJ0 HR
    by_cases hml : m < 32
    · have t1 : (m : Int) < 32 := by omega
      obtain ⟨A, c, hv, hcells⟩ := HD.out m hml
      have IX := IDX.out m A _ c hml hv
      have hlen : ((t m).length : Int) ≤ 100000 := by have := hfew.out m; omega
      have HC := Lib.hid hcells
      have HJ1 : Hid (J ((List.range m).flatMap t ++ (t m).take 0) wr) := Lib.hid (by simpa using HJ.out)
      have NEXT : Hid ((List.range m).flatMap t ++ (t m).take (t m).length = (List.range (m + 1)).flatMap t) := Lib.hid (flat_next t m)
      clear hcells hv HD IDX HJ
      gi_wp2
      gi_loopw [22] (fun i wq => ∃ j : Nat, j ≤ (t m).length ∧ i = .int .i64 j ∧ Hid (J ((List.range m).flatMap t ++ (t m).take j) wq) ∧ Hid (Keep (fun b => F b ∨ b = P) W wq)) (fun i _ => (t m).length - (intOf i).toNat)
      case atStart => exact ⟨0, Nat.zero_le _, rfl, HJ1, HK⟩
      case round =>
        obtain ⟨j, hj, rfl, HJ, HK2⟩ := hrel
        clear HJ1 HK
        by_cases hjl : j < (t m).length
        · have t2 : (j : Int) < ((t m).length : Int) := by omega
          have hx := List.getElem?_eq_getElem hjl
          obtain ⟨g, o, rfl, y0, y1, y2, y3, y4, y5, y6, y7, y8, y9, y10⟩ := HC.out wr HK2.out j _ hx
          have B1 := bel1 wr (bobj (t m)[j])
          have T1 := at1 wr (bobj (t m)[j])
          obtain ⟨fn, tmps, assign, body, hy, hR⟩ := HY.out m j _ (wr.alloc (bobj (t m)[j])) hml hx (JB.out _ _ _ HJ.out B1) (KB.out _ _ HK2.out B1)
          generalize (t m)[j] = x at *
          obtain ⟨xs, xi, xg, xm, xx, xy, xvx, xvy, xh, xp, xl⟩ := x
          simp only [bobj, Bn.val] at *
          obtain ⟨⟨k0, k1, k2, k3, k4, k5, k6, k7, k8, k9, k10⟩, _⟩ := Bx.b11 T1
          clear HJ HK2 HC B1 T1 hx NEXT
          gi_wp2_with (refine hR.mono ?_; rintro e w3 ⟨bv, rfl, HX⟩)
          · rename_i hbv
            have e : bv = false := by simpa using hbv
            refine bodyPost_ret (results_none rfl _ _ _) rfl ?_
            exact ⟨⟨_, rfl⟩, .inr (HX.out.2 e)⟩
          · rename_i hbv
            have e : bv = true := by simpa using hbv
            refine ⟨⟨j + 1, by omega, by simp, Lib.hid (HX.out.1 e).1, Lib.hid (HX.out.1 e).2⟩, ?_⟩
            simp [intOf]; omega
        · obtain rfl : j = (t m).length := by omega
          have t2 : ¬ ((t m).length : Int) < ((t m).length : Int) := by omega
          have HJ2 := HJ.out
          rw [NEXT.out] at HJ2
          replace HJ2 := Lib.hid HJ2
          clear HC HY NEXT HJ
          gi_wp2
          go_roundw
          case rel => exact ⟨m + 1, by omega, by go_num, HJ2, HK2⟩
          case measure => simp [intOf]; omega
    · obtain rfl : m = 32 := by omega
      have t1 : ¬ (32 : Int) < 32 := by omega
      clear HD IDX HY KB
      gi_wp2
      refine bodyPost_end (results_none rfl _ _ _) rfl ?_
      exact ⟨⟨_, rfl⟩, .inl HJ.out⟩
end Go.Proofs.Yteollbioeamciaa
namespace Go.Proofs.Yteollbioeamciaa
open Go.RowKit Go.Shelf Pz Ar
set_option linter.unusedVariables false
set_option linter.unusedSimpArgs false
attribute [local go_sem] Oper.semAt_some

abbrev PST : TypeId := 23
theorem Keep.mono {S S' : Foot} {A B : World} (h : Keep S' A B) (hS : ∀ b, S b → S' b) : Keep S A B := fun b hb => h b (hS b hb)
theorem Gives.more {F : Fence} {m : Nat} {P : Program} {gf : Nat} {lb : Array Value} {S S' : Foot} {full : List Bn} {w : World} (h : Rg.Gives F m P gf lb encB (Keep S) full w) (hS : ∀ b, S b → S' b) : Rg.Gives F m P gf lb encB (Keep S') full w := fun l J Jx W hW hJ hY h0 =>
  h l J Jx W hW hJ (fun pre x A hA hp => by
    obtain ⟨fn, tm, as_, bd, hy, hR⟩ := hY pre x A hA hp
    refine ⟨fn, tm, as_, bd, hy, hR.mono ?_⟩
    rintro e V (⟨e1, e2, e3⟩ | e1)
    · exact .inl ⟨e1, e2, e3.mono hS⟩
    · exact .inr e1) h0
/-- what a store gives: its entities, whatever box holds its pointer -/
def Yields (Pv : Value) (full : List Bn) (w : World) : Prop := ∀ W b, Below w.heap.size w W → W.heap[b]? = some (.cells #[Pv] PST (0, 0)) → ∀ n, 1 ≤ n → Rg.Gives Fence.wide n Try.prog 41 #[.pointer (some ⟨b, 0, none⟩)] encB (Keep fun k => k < w.heap.size ∨ k = b) full W
theorem CS.yields {F : Foot} {p : Nat} {t : Tb} {w : World} (h : CS F p t w) : Yields (.pointer (some ⟨p, 0, none⟩)) (all t) w := fun W b hW hb n hn =>
  Gives.more (seq_any (h.below hW) hb n hn) fun k hk => hk.imp (h.lt k) id
set_option maxHeartbeats 4000000 in
set_option maxRecDepth 100000 in
theorem nil_yields (w : World) : Yields (.pointer none) [] w := fun W b hW hb n hn => by
  intro l J Jx V hV hJb hY h0
  have c0 := (Bx.b1 ((hV.block b (Bx.lt hb)).trans hb)).1
  have HJ := Lib.hid h0
  clear hJb hY h0
  refine callsIn_of_wp Try.func41 rfl trivial ?_ rfl
  simp only [Try.ntmps41, List.size_toArray, List.length_cons, List.length_nil, Nat.reduceAdd, Nat.reduceSub, Array.replicate_succ, Array.replicate_zero, List.push_toArray, List.append_toArray, List.nil_append, List.cons_append]
  gi_wp2
  refine bodyPost_ret (results_none rfl _ _ _) rfl ?_
  exact ⟨⟨_, rfl⟩, .inl HJ.out⟩
set_option maxHeartbeats 4000000 in
set_option maxRecDepth 100000 in
theorem allc_any (w : World) (Pv : Value) (hP : Pv = .pointer none ∨ ∃ p, Pv = .pointer (some ⟨p, 0, none⟩)) : Calls Try.prog 22 #[Pv] w fun e w' => e = .returned (.func (.func 41) #[] #[.pointer (some ⟨w.heap.size, 0, none⟩)]) ∧ w' = w.alloc (.cells #[Pv] PST) := by
  rcases hP with rfl | ⟨p, rfl⟩
  · go_enter Try.func22, Try.ntmps22
    go_wp2
    go_ret
    exact ⟨rfl, rfl⟩
  · go_enter Try.func22, Try.ntmps22
    go_wp2
    go_ret
    exact ⟨rfl, rfl⟩
theorem eql_fun (k b : Nat) (V : World) : (binOp .eql 55 (.func (.func k) #[] #[.pointer (some ⟨b, 0, none⟩)]) .nilFunc).run Try.prog V = .ok (.bool false) V := by kernel_rfl
/-- between two rounds -/
structure AllI (w : World) (Pv : Value) (most : Nat) (pre : List Bn) (W : World) : Prop where
  bel : Below w.heap.size w W
  bm : W.heap[w.heap.size]? = some (.cells #[.int .i64 (most : Int)] 3 (0, 0))
  bl : ∃ v, W.heap[w.heap.size + 1]? = some (.cells #[v] 26 (0, 0)) ∧ OwnB W w.heap.size v pre
  bp : W.heap[w.heap.size + 2]? = some (.cells #[Pv] PST (0, 0))
  le : pre.length ≤ most
theorem own_put {W : World} {B k : Nat} {v : Value} {l : List Bn} {o : Obj} (h : OwnB W B v l) {x : Obj} (hx : W.heap[k]? = some x) (hc : x.isCells = false) : OwnB (W.putObj k o) B v l := h.kept fun b hb => World.putObj_heap_other (fun e => by
  obtain ⟨_, cur, hcur⟩ := h.blk hb
  subst e
  rw [hx] at hcur
  cases hcur
  cases hc)
theorem cells_put {W : World} {b k T : Nat} {cs : Array Value} {o : Obj} (h : W.heap[b]? = some (.cells cs T (0, 0))) {x : Obj} (hx : W.heap[k]? = some x) (hc : x.isCells = false) : (W.putObj k o).heap[b]? = some (.cells cs T (0, 0)) :=
  (World.putObj_heap_other (fun e => by
    subst e
    rw [hx] at h
    cases h
    cases hc)).trans h
theorem below_put {w W : World} {k : Nat} {o : Obj} (h : Below w.heap.size w W) (hk : w.heap.size ≤ k) : Below w.heap.size w (W.putObj k o) :=
  ⟨h.os, h.tape, h.output, by rw [Rg.put_below]; exact h.size, fun b hb => (World.putObj_heap_other (by omega)).trans (h.block b hb)⟩
section
variable {w W V : World} {Pv : Value} {most : Nat} {pre : List Bn}
theorem AllI.below (h : AllI w Pv most pre W) (hb : Below W.heap.size W V) : AllI w Pv most pre V := by
  obtain ⟨v, e1, e2⟩ := h.bl
  exact ⟨h.bel.trans (hb.mono h.bel.size), (hb.block _ (Bx.lt h.bm)).trans h.bm, ⟨v, (hb.block _ (Bx.lt e1)).trans e1, e2.below hb⟩, (hb.block _ (Bx.lt h.bp)).trans h.bp, h.le⟩
theorem AllI.put (h : AllI w Pv most pre W) {k : Nat} {x o : Obj} (hk : w.heap.size ≤ k) (hx : W.heap[k]? = some x) (hc : x.isCells = false) : AllI w Pv most pre (W.putObj k o) := by
  obtain ⟨v, e1, e2⟩ := h.bl
  exact ⟨below_put h.bel hk, cells_put h.bm hx hc, ⟨v, cells_put e1 hx hc, own_put e2 hx hc⟩, cells_put h.bp hx hc, h.le⟩
/-- an element more -/
theorem AllI.step (h : AllI w Pv most pre W) (x : Bn) (hl : pre.length < most) (hm : most ≤ 100000) :
    ∃ A c, W.cell? ⟨w.heap.size + 1, 0, none⟩ = some (.slice A pre.length c) ∧ ∃ A' n' c' V, (Builtin.append_ #[26, 26] 26 #[.slice A pre.length c, .slice (some ⟨W.heap.size, 0, none⟩) 1 1]).run Try.prog (W.alloc (bobj x)) = .ok (.slice A' n' c') V ∧
      V.cell? ⟨w.heap.size + 1, 0, none⟩ = some (.slice A pre.length c) ∧ V.frozen? ⟨w.heap.size + 1, 0, none⟩ = false ∧
      Hid (AllI w Pv most (pre ++ [x]) (V.setCell ⟨w.heap.size + 1, 0, none⟩ (.slice A' n' c')) ∧ (∀ k, k < w.heap.size ∨ k = w.heap.size + 2 → (V.setCell ⟨w.heap.size + 1, 0, none⟩ (.slice A' n' c')).heap[k]? = W.heap[k]?) ∧ ∀ (k : Nat) (o : Obj), W.heap[k]? = some o → o.isCells = false → (V.setCell ⟨w.heap.size + 1, 0, none⟩ (.slice A' n' c')).heap[k]? = W.heap[k]?) := by
  obtain ⟨v, e1, e2⟩ := h.bl
  obtain ⟨A, c, rfl⟩ := e2.form
  have hs := h.bel.size
  obtain ⟨v', V, hr, ho, hg, hrow, hf⟩ := app_x (enc := bnE) (T := 36) (s := 11) (t := 26) Try.underlying26 bundle_info rfl (by decide) bnE_len bnE_one e2 hs x (by omega) (by decide) 26
  obtain ⟨A', c', rfl⟩ := ho.form
  have blk : ∀ g, (Value.slice A pre.length c).ownBlock = some g → ∃ cur, W.heap[g]? = some (.cells cur 36 (0, 0)) := fun g e => (e2.blk e).2
  have kc : ∀ {k T : Nat} {cs : Array Value}, W.heap[k]? = some (.cells cs T (0, 0)) → 36 ≠ T → V.heap[k]? = some (.cells cs T (0, 0)) := fun {k T cs} hk hT => (hg.block k (Bx.lt hk) (fun e => by
    obtain ⟨cur, hc⟩ := blk k e.symm
    exact Bx.ne_type hc hk hT rfl)).trans hk
  have l1 := kc e1 (by decide)
  have hbV : Below w.heap.size w V := below_row h.bel hg hs hf
  have hne1 : ∀ k, k ≠ w.heap.size + 1 → (V.setCell ⟨w.heap.size + 1, 0, none⟩ (.slice A' (pre ++ [x]).length c')).heap[k]? = V.heap[k]? := fun k hk => Bx.ne hk _
  refine ⟨A, c, (Bx.b1 e1).1, A', _, c', V, hr, (Bx.b1 l1).1, (Bx.b1 l1).2, Lib.hid ⟨⟨hbV.setCell (p := ⟨w.heap.size + 1, 0, none⟩) (Nat.le_succ _) _, (hne1 _ (by omega)).trans (kc h.bm (by decide)), ⟨_, Bx.set l1 _, ?_⟩, (hne1 _ (by omega)).trans (kc h.bp (by decide)), by simp; omega⟩, ?_, ?_⟩⟩
  · exact ho.kept fun b hb => hne1 b (fun e => by
      obtain ⟨_, cur, hc⟩ := ho.blk hb
      exact Bx.ne_type hc l1 (by decide) e)
  · intro k hk
    rw [hne1 k (by omega)]
    rcases hk with hk | rfl
    · exact (hbV.block k hk).trans (h.bel.block k hk).symm
    · exact (kc h.bp (by decide)).trans h.bp.symm
  · intro k o hk hc
    rw [hne1 k (fun e => by subst e; rw [e1] at hk; cases hk; cases hc)]
    exact hg.block k (Bx.lt hk) (fun e => by
      obtain ⟨cur, hcur⟩ := blk k e.symm
      rw [hk] at hcur
      cases hcur
      cases hc)
end
end Go.Proofs.Yteollbioeamciaa
namespace Go.Proofs.Yteollbioeamciaa
open Go.RowKit Go.Shelf Pz Ar
set_option linter.unusedVariables false
set_option linter.unusedSimpArgs false
attribute [local go_sem] Oper.semAt_some

/-- where the loop is left -/
def AllX (w : World) (full : List Bn) (most : Nat) (c : Code) (W : World) : Prop := c = .exit 0 ∧ Below w.heap.size w W ∧ ∃ v, W.heap[w.heap.size + 1]? = some (.cells #[v] 26 (0, 0)) ∧ OwnB W w.heap.size v (full.take most)
abbrev actA (w : World) (Pv : Value) (most : Nat) (x : Bn) (b : Nat) : Act := { tmps := #[Pv, .int .i64 (most : Int), undef, .pointer (some ⟨w.heap.size, 0, none⟩), .slice none 0 0, .pointer (some ⟨w.heap.size + 1, 0, none⟩), .func (.func 41) #[] #[.pointer (some ⟨w.heap.size + 2, 0, none⟩)], .pointer (some ⟨b, 0, none⟩), Pv, .func (.func 41) #[] #[.pointer (some ⟨w.heap.size + 2, 0, none⟩)], .func (.func 41) #[] #[.pointer (some ⟨w.heap.size + 2, 0, none⟩)], .bool false, .func (.func 41) #[] #[.pointer (some ⟨w.heap.size + 2, 0, none⟩)], x.val, undef, undef, undef, undef, undef, undef, undef, undef, undef], defers := [] }
set_option maxHeartbeats 16000000 in
set_option maxRecDepth 100000 in
theorem all_of {w : World} {Pv : Value} {full : List Bn} (hY : Yields Pv full w) (hP : Pv = .pointer none ∨ ∃ p, Pv = .pointer (some ⟨p, 0, none⟩)) (most : Nat) (hm : most ≤ 100000) (hfl : full.length ≤ 100000) :
    Calls Try.prog 35 #[Pv, .int .i64 (most : Int)] w fun e w' => ∃ A c, e = .returned (.slice A (full.take most).length c) ∧ OwnB w' w.heap.size (.slice A (full.take most).length c) (full.take most) ∧ Below w.heap.size w w' := by
  have AL := Lib.hid fun W => allc_any W Pv hP
  have EQF := fun b V => eql_fun 41 b V
  have t0 := at2a w (.cells #[.int .i64 (most : Int)] 3) (.cells #[.slice none 0 0] 26)
  have t1 := at2b w (.cells #[.int .i64 (most : Int)] 3) (.cells #[.slice none 0 0] 26)
  have b2 := bel2 w (.cells #[.int .i64 (most : Int)] 3) (.cells #[.slice none 0 0] 26)
  have s2 := size2 w (.cells #[.int .i64 (most : Int)] 3) (.cells #[.slice none 0 0] 26)
  refine (callsIn_wide (n := 9)).1 ?_
  refine callsIn_of_wp_marks Try.func35 rfl trivial ?_ rfl
  simp only [Try.ntmps35, List.size_toArray, List.length_cons, List.length_nil, Nat.reduceAdd, Nat.reduceSub, Array.replicate_succ, Array.replicate_zero, List.push_toArray, List.append_toArray, List.nil_append, List.cons_append]
  gi_wp2_with (refine ⟨trivial, ?_⟩; gi_at_call 22; refine (callsIn_wide.2 (AL.out _)).mono ?_; rintro e w2 ⟨rfl, rfl⟩)
  have t0' := (Below.heap_alloc _ (.cells #[Pv] PST) _ (Bx.lt t0)).trans t0
  have t1' := (Below.heap_alloc _ (.cells #[Pv] PST) _ (Bx.lt t1)).trans t1
  have t2' := at1 ((w.alloc (.cells #[.int .i64 (most : Int)] 3)).alloc (.cells #[.slice none 0 0] 26)) (.cells #[Pv] PST)
  rw [s2] at t2'
  have b3 := bel3 w (.cells #[.int .i64 (most : Int)] 3) (.cells #[.slice none 0 0] 26) (.cells #[Pv] PST)
  have s3 := size3 w (.cells #[.int .i64 (most : Int)] 3) (.cells #[.slice none 0 0] 26) (.cells #[Pv] PST)
  clear t0 t1 b2 s2 AL EQF
  generalize ((w.alloc (.cells #[.int .i64 (most : Int)] 3)).alloc (.cells #[.slice none 0 0] 26)).alloc (.cells #[Pv] PST) = w3 at *
  have hI0 : AllI w Pv most [] w3 := ⟨b3, t0', ⟨_, t1', .inl ⟨rfl, rfl⟩⟩, t2', Nat.zero_le _⟩
  have hW3 : ∀ {k : Nat} {A : World}, Rg.Turn w3.heap.size A k → w.heap.size + 2 < k ∧ ∃ o, A.heap[k]? = some o ∧ o.isCells = false := fun {k A} h => ⟨by have := h.1; omega, by obtain ⟨o, h1, h2, _⟩ := h.2; exact ⟨o, h1, h2⟩⟩
  have HSEQ := hY w3 (w.heap.size + 2) b3 t2' 8 (by omega)
  clear t0' t1' t2' hY hP
  refine Rg.range (w := w3) rfl (by omega) (gf := 41) (lb := #[.pointer (some ⟨w.heap.size + 2, 0, none⟩)]) rfl trivial (enters_of Try.func41 (by kernel_rfl) rfl) (encs := encB) (fun _ => rfl) (Kp := Keep fun k => k < w.heap.size ∨ k = w.heap.size + 2) (full := full)
    (AllI w Pv most) (fun c _ W => AllX w full most c W) (fun x a' V => ∃ b, V.heap[b]? = some (.cells #[.int .i64 x.s, .int .i64 x.i, .int .i64 x.g, .int .i64 x.m, .int .i64 x.x, .int .i64 x.y, .int .i64 x.vx, .int .i64 x.vy, .int .i64 x.h, .int .i64 x.p, .int .i64 x.l] 36 (0, 0)) ∧ a' = actA w Pv most x b)
    (fun h k b hb => (k b hb).trans (h b hb)) (fun xs A B hI hb k hk => hb.block k ?kb) (fun A k o' hT b hb => World.putObj_heap_other (by have := (hW3 hT).1; omega))
    (fun xs A B hI hb => hI.below hb) (fun xs A k o' hT hI => ?ip) (fun c xs A k o' hT hX => ?ixp) (fun x a' A k o' hT hA => ?ap) HSEQ ?assign ?body hI0 ?done ?stop
  case kb =>
    rcases hk with hk | rfl
    · have := hI.bel.size; omega
    · exact Bx.lt hI.bp
  case ip =>
    obtain ⟨h1, o, h2, h3⟩ := hW3 hT
    exact hI.put (by omega) h2 h3
  case ixp =>
    obtain ⟨h1, o, h2, h3⟩ := hW3 hT
    obtain ⟨e1, e2, v, e3, e4⟩ := hX
    exact ⟨e1, below_put e2 (by omega), v, cells_put e3 h2 h3, own_put e4 h2 h3⟩
  case ap =>
    obtain ⟨h1, o, h2, h3⟩ := hW3 hT
    obtain ⟨b, e1, e2⟩ := hA
    exact ⟨b, cells_put e1 h2 h3, e2⟩
  case assign =>
    intro l x W K hK
    have HK := Lib.hid (hK (actA w Pv most x W.heap.size) _ (bel1 W (bobj x)) ⟨W.heap.size, at1 W (bobj x), rfl⟩)
    clear hK
    simp only [encB, Bn.val, bobj, actA] at *
    gi_wp2
    exact HK.out
  case body =>
    rintro pre x W a' hI1 hpre ⟨bx, hbx, rfl⟩ ⟨rl, hl⟩ hd
    simp only [actA, Bn.val]
    have km := (Bx.b1 hI1.bm).1
    obtain ⟨k0, k1, k2, k3, k4, k5, k6, k7, k8, k9, k10⟩ := (Bx.b11 hbx).1
    by_cases he : pre.length = most
    · obtain ⟨v, e1, e2⟩ := hI1.bl
      obtain ⟨A, c, rfl⟩ := e2.form
      have kl := (Bx.b1 e1).1
      have hfin : full.take most = pre := by
        obtain ⟨r, hr⟩ := hpre
        rw [← hr, ← he]
        simp
      have FX : Hid (AllX w full most (.exit 0) W) := Lib.hid ⟨rfl, hI1.bel, _, e1, by rw [hfin]; exact e2⟩
      clear hI1 hpre e1 e2 hfin HSEQ hI0 hW3 hbx hl hd
      subst he
      gi_wp2
      exact ⟨rfl, rfl, FX.out⟩
    · have hlt : pre.length < most := by have := hI1.le; omega
      have t1 : ((pre.length : Int) = (most : Int)) = False := eq_false (by omega)
      have t2 : ((pre.length : Int) == (most : Int)) = false := by rw [beq_eq_false_iff_ne]; omega
      obtain ⟨A, c, kl, A', n', c', V, hr, hc4, hf4, FIN⟩ := hI1.step x hlt hm
      have FX := Lib.hid (And.intro (FIN.out.2.2 _ _ hd rfl) (And.intro (FIN.out.2.2 _ _ hl rfl) (And.intro (show Keep (fun k => k < w.heap.size ∨ k = w.heap.size + 2) W _ from fun b hb => FIN.out.2.1 b hb) FIN.out.1)))
      have HR := Lib.hid hr
      clear hI1 hpre HSEQ hI0 hW3 hbx hl hd FIN hr
      simp only [bobj] at HR
      gi_wp2_with (gi_at_builtin; refine wpListIn_append rfl (.tmp 18) (.tmp 20) _ _ rfl _ _ rfl rfl _ _ HR.out ?_)
      exact FX.out
  case done =>
    intro W hI hd
    obtain ⟨v, e1, e2⟩ := hI.bl
    have hle := hI.le
    have hfin : full.take most = full := List.take_of_length_le hle
    rw [← hfin] at e2
    obtain ⟨A, c, rfl⟩ := e2.form
    have kl := (Bx.b1 e1).1
    have FX := Lib.hid (show OwnB (W.putObj w3.heap.size (.deferred none)) w.heap.size (.slice A (full.take most).length c) (full.take most) ∧ Below w.heap.size w (W.putObj w3.heap.size (.deferred none)) from ⟨own_put e2 hd rfl, below_put hI.bel (by omega)⟩)
    have HK := Lib.hid hd
    clear hI e1 e2 hd HSEQ hI0 hW3 hfin
    gi_wp2
    refine ⟨by simp, .inl ⟨_, _, rfl, run_takeDeferred HK.out, ?_⟩⟩
    exact ⟨_, results_tmp rfl _ _ _, A, c, by simp [Nat.min_eq_right hle], FX.out⟩
  case stop =>
    rintro c pre W ⟨rfl, hb, v, hv, ho⟩ hd
    obtain ⟨A, c, rfl⟩ := ho.form
    have kl := (Bx.b1 hv).1
    have FX := Lib.hid (show OwnB (W.putObj w3.heap.size (.deferred none)) w.heap.size (.slice A (full.take most).length c) (full.take most) ∧ Below w.heap.size w (W.putObj w3.heap.size (.deferred none)) from ⟨own_put ho hd rfl, below_put hb (by omega)⟩)
    have HK := Lib.hid hd
    clear hv ho hd HSEQ hI0 hW3 hb
    gi_wp2
    refine ⟨by simp, .inl ⟨_, _, rfl, run_takeDeferred HK.out, ?_⟩⟩
    exact ⟨_, results_tmp rfl _ _ _, A, c, by simp, FX.out⟩
end Go.Proofs.Yteollbioeamciaa
namespace Go.Proofs.Yteollbioeamciaa
open Go.RowKit Go.Shelf Pz Ar
set_option linter.unusedVariables false
set_option linter.unusedSimpArgs false
attribute [local go_sem] Oper.semAt_some

theorem all_any {F : Foot} {p : Nat} {t : Tb} {w : World} (h : CS F p t w) (most : Nat) (hm : most ≤ 100000) (hl : total t ≤ 100000) :
    Calls Try.prog 35 #[.pointer (some ⟨p, 0, none⟩), .int .i64 (most : Int)] w fun e w' => ∃ A c, e = .returned (.slice A ((all t).take most).length c) ∧ OwnB w' w.heap.size (.slice A ((all t).take most).length c) ((all t).take most) ∧ Below w.heap.size w w' :=
  all_of h.yields (.inr ⟨p, rfl⟩) most hm (by rw [total_all]; exact hl)
end Go.Proofs.Yteollbioeamciaa
