/- The code's All: how entities are yielded. -/
import Derived.Test.YteohkbepefjjlaaKArTab1
import Derived.Test.YteohkbepefjjlaaKRg
import Derived.Shelf.Abstract
import Derived.Shelf.RegionOpen
import Derived.WalkKit
import Derived.OwnWalkIn
import Derived.TacticsInMore
import Derived.LoopNIn
import Derived.LoopIn
namespace Go.Proofs.Yteohkbepefjjlaa
open Go.RowKit Go.Shelf Pz Ar
set_option linter.unusedVariables false
set_option linter.unusedSimpArgs false
attribute [local go_sem] Oper.semAt_some

theorem wpListIn_load_mid {F : Fence} {n : Nat} {P : Program} {ops : Array Oper} {rest : List Oper} {op : Oper} {a : Act} {w : World} {Q : Exit → Act → World → Prop} (hgd : op.guard = none) (ty : TypeId) (x : Operand) (ho : op.op = .load ty x)
    (b o : Nat) (hx : a.eval x = .pointer (some ⟨b, o, none⟩)) (cs : List Value) (d : TypeDesc) (hc : w.rangeAt b o cs)
    (hu : P.underlying ty = some d) (hd : d.isRow = true) (hi : (P.info? ty).map (·.size) = some cs.length)
    (h : wpListIn F n P ops Q rest (a.put op.dst (.agg cs.toArray)) w) : wpListIn F n P ops Q (op :: rest) a w := by
  refine wpListIn_plain hgd fun K hK => ?_
  unfold Oper.wpIn
  refine ⟨?_, ?_⟩
  · simp [Oper.about, ho]
  · rw [Oper.semAt_plain F _ _ (by rw [ho]; intro c hc'; cases hc')]
    simp only [execOp, ho, hx, Instr.loadAt, Instr.sureAddr, Sem.run_bind, Sem.run_pure, Result.andThen_ok, run_loadVar_mid w b o ty cs d hc hu hd hi]
    exact hK _ _ h
theorem wpListIn_append {F : Fence} {n : Nat} {P : Program} {w : World} {ops : Array Oper} {rest : List Oper} {o : Oper} {a : Act} {Q : Exit → Act → World → Prop} (hg : o.guard = none) (s x : Operand) (t t' : TypeId) (hop : o.op = Op.call { callee := Callee.builtin Builtin.append, args := #[s, x], argTypes := #[t, t'] })
    (v xv : Value) (hs : a.eval s = v) (hx : a.eval x = xv) (v' : Value) (w' : World) (hrun : (Builtin.append_ #[t, t'] o.type #[v, xv]).run P w = .ok v' w') (hK : wpListIn F n P ops Q rest (a.put o.dst v') w') :
    wpListIn F n P ops Q (o :: rest) a w := by
  refine wpListIn_plain hg fun K hK' => ?_
  unfold Oper.wpIn
  refine ⟨?_, ?_⟩
  · simp [Oper.about, hop, resolve, Target.leads, Sem.run_pure]
  · rw [Oper.semAt_plain F _ _ (by rw [hop]; intro c hc'; cases hc')]
    simp [execOp, hop, resolve, invoke, builtin, hs, hx, hrun, Result.andThen]
    exact hK' _ _ hK
abbrev encB (x : Bn) : Array Value := #[x.val]
/-- what lies in these blocks stays -/
def Keep (S : Foot) (A B : World) : Prop := ∀ b, S b → B.heap[b]? = A.heap[b]?
theorem flat_pre {t : Tb} {m i : Nat} (hm : m < 32) {x : Bn} (hx : (t m)[i]? = some x) : (List.range m).flatMap t ++ (t m).take i ++ [x] = (List.range m).flatMap t ++ (t m).take (i + 1) ∧ (List.range m).flatMap t ++ (t m).take i ++ [x] <+: all t := by
  have e1 : (t m).take (i + 1) = (t m).take i ++ [x] := by rw [List.take_add_one, hx]; rfl
  refine ⟨by rw [e1, List.append_assoc], ?_⟩
  rw [List.append_assoc, ← e1]
  unfold all
  have e : List.range 32 = List.range m ++ (List.range 32).drop m := by
    have e1 := List.take_append_drop m (List.range 32)
    rw [List.take_range, Nat.min_eq_left (by omega)] at e1
    exact e1.symm
  rw [e, List.flatMap_append, List.prefix_append_right_inj, List.drop_eq_getElem_cons (by simpa using hm), List.getElem_range, List.flatMap_cons]
  exact (List.take_prefix _ _).trans (List.prefix_append _ _)
theorem flat_next (t : Tb) (m : Nat) : (List.range m).flatMap t ++ (t m).take (t m).length = (List.range (m + 1)).flatMap t := by
  rw [List.take_length, List.range_succ, List.flatMap_append]
  simp
theorem eql_yield (l : Nat) (V : World) : (binOp .eql 53 (.func (.yield l) #[] #[]) .nilFunc).run Try.prog V = .ok (.bool false) V := by kernel_rfl
set_option maxHeartbeats 16000000 in
set_option maxRecDepth 100000 in
theorem seq_any {F : Foot} {p P : Nat} {t : Tb} {w : World} (h : CS F p t w) (hP : w.heap[P]? = some (.cells #[.pointer (some ⟨p, 0, none⟩)] 23 (0, 0))) (n : Nat) (hn : 1 ≤ n) :
    Rg.Gives Fence.wide n Try.prog 50 #[.pointer (some ⟨P, 0, none⟩)] encB (Keep fun b => F b ∨ b = P) (all t) w := by
  intro l J Jx W hW hJb hY h0
  have hF : ∀ b, F b ∨ b = P → b < w.heap.size := fun b hb => by
    rcases hb with hb | rfl
    · exact h.lt b hb
    · exact Bx.lt hP
  obtain ⟨ds, hdl, hrg, hds⟩ := h.range
  have hfew := h.few
  have HR := Lib.hid (hrg W hW)
  have IDX := Lib.hid fun m A n c hm hv => idx_tab (ds := ds) (m := m) (A := A) (n := n) (c := c) hdl hm hv
  have HD : Hid (∀ m, m < 32 → ∃ A c, ds[m]? = some (.slice A (t m).length c) ∧ ∀ A1, Keep (fun b => F b ∨ b = P) W A1 → ∀ j x, (t m)[j]? = some x → ∃ g o, A = some ⟨g, o, none⟩ ∧ Cells11 A1 g (o + j * 11) x) := Lib.hid fun m hm => by
    obtain ⟨A, c, h1', h2', h3'⟩ := hds m hm
    refine ⟨A, c, h1', fun A1 hA j x hx => ?_⟩
    have hk : OwnB A1 0 (.slice A (t m).length c) (t m) := h2'.kept fun b hb => (hA b (.inl (h3' b hb))).trans (hW.block b (h.lt b (h3' b hb)))
    obtain ⟨g, o, e, _, hc, _⟩ := own_at hk hx
    exact ⟨g, o, e, hc⟩
  have KB : Hid (∀ A B, Keep (fun b => F b ∨ b = P) W A → Below A.heap.size A B → Keep (fun b => F b ∨ b = P) W B) := Lib.hid fun A B hA hB b hb => by
    have hlt : b < A.heap.size := by
      have h1 := hF b hb
      have h2 := hW.size
      have h3 : W.heap[b]? = some W.heap[b] := Array.getElem?_eq_getElem (by omega)
      exact Bx.lt ((hA b hb).trans h3)
    exact (hB.block b hlt).trans (hA b hb)
  have HY : Hid (∀ m j x A, m < 32 → (t m)[j]? = some x → J ((List.range m).flatMap t ++ (t m).take j) A → Keep (fun b => F b ∨ b = P) W A → ∃ fn tmps assign body, (Instr.yield l #[x.val]).run Try.prog A = .ok (.round l fn tmps assign body) A ∧ RoundIn Fence.wide (n - 1) Try.prog l fn tmps assign body A fun e V => ∃ bv, e = .returned (.bool bv) ∧ Hid ((bv = true → J ((List.range m).flatMap t ++ (t m).take (j + 1)) V ∧ Keep (fun b => F b ∨ b = P) W V) ∧ (bv = false → ∃ pre, Jx pre V))) := Lib.hid fun m j x A hm hx hJ hK => by
    obtain ⟨e1, e2⟩ := flat_pre hm hx
    obtain ⟨fn, tmps, assign, body, hy, hR⟩ := hY _ x A hJ e2
    refine ⟨fn, tmps, assign, body, hy, hR.mono ?_⟩
    rintro e V (⟨rfl, hJ', hk⟩ | ⟨rfl, hJx⟩)
    · exact ⟨true, rfl, Lib.hid ⟨fun _ => ⟨by rw [← e1]; exact hJ', fun b hb => (hk b hb).trans (hK b hb)⟩, fun h => (by cases h)⟩⟩
    · exact ⟨false, rfl, Lib.hid ⟨fun h => (by cases h), fun _ => ⟨_, hJx⟩⟩⟩
  have JB := Lib.hid hJb
  have c0 := (Bx.b1 ((hW.block P (Bx.lt hP)).trans hP)).1
  replace hfew := Lib.hid hfew
  replace hdl := Lib.hid hdl
  have HJ0 := Lib.hid h0
  clear hJb hY h0 hds hrg hF h hP hW
  have EQN := eql_yield l
  refine callsIn_of_wp Try.func50 rfl trivial ?_ rfl
  simp only [Try.ntmps50, List.size_toArray, List.length_cons, List.length_nil, Nat.reduceAdd, Nat.reduceSub, Array.replicate_succ, Array.replicate_zero, List.push_toArray, List.append_toArray, List.nil_append, List.cons_append]
  gi_wp2_with (refine wpListIn_load_mid rfl 27 (.tmp 15) rfl p 0 rfl ds _ HR.out Try.underlying27 rfl (by rw [hdl.out]; kernel_rfl) ?_)
  gi_loopw [17] (fun i wr => ∃ m : Nat, m ≤ 32 ∧ i = .int .i64 m ∧ Hid (J ((List.range m).flatMap t) wr) ∧ Hid (Keep (fun b => F b ∨ b = P) W wr)) (fun i _ => 32 - (intOf i).toNat)
  case atStart => exact ⟨0, Nat.zero_le _, rfl, HJ0, Lib.hid fun _ _ => rfl⟩
  case round =>
    obtain ⟨m, hm, rfl, HJ, HK⟩ := hrel
    clear c0 HJ0 HR
    by_cases hml : m < 32
    · have t1 : (m : Int) < 32 := by omega
      obtain ⟨A, c, hv, hcells⟩ := HD.out m hml
      have IX := IDX.out m A _ c hml hv
      have hlen : ((t m).length : Int) ≤ 100000 := by have := hfew.out m; omega
      have HC := Lib.hid hcells
      have HJ1 : Hid (J ((List.range m).flatMap t ++ (t m).take 0) wr) := Lib.hid (by simpa using HJ.out)
      have NEXT : Hid ((List.range m).flatMap t ++ (t m).take (t m).length = (List.range (m + 1)).flatMap t) := Lib.hid (flat_next t m)
      clear hcells hv HD IDX HJ
      gi_wp2
      gi_loopw [22] (fun i wq => ∃ j : Nat, j ≤ (t m).length ∧ i = .int .i64 j ∧ Hid (J ((List.range m).flatMap t ++ (t m).take j) wq) ∧ Hid (Keep (fun b => F b ∨ b = P) W wq)) (fun i _ => (t m).length - (intOf i).toNat)
      case atStart => exact ⟨0, Nat.zero_le _, rfl, HJ1, HK⟩
      case round =>
        obtain ⟨j, hj, rfl, HJ, HK2⟩ := hrel
        clear HJ1 HK
        by_cases hjl : j < (t m).length
        · have t2 : (j : Int) < ((t m).length : Int) := by omega
          have hx := List.getElem?_eq_getElem hjl
          obtain ⟨g, o, rfl, y0, y1, y2, y3, y4, y5, y6, y7, y8, y9, y10⟩ := HC.out wr HK2.out j _ hx
          have B1 := bel1 wr (bobj (t m)[j])
          have T1 := at1 wr (bobj (t m)[j])
          obtain ⟨fn, tmps, assign, body, hy, hR⟩ := HY.out m j _ (wr.alloc (bobj (t m)[j])) hml hx (JB.out _ _ _ HJ.out B1) (KB.out _ _ HK2.out B1)
          generalize (t m)[j] = x at *
          obtain ⟨xs, xi, xg, xm, xx, xy, xvx, xvy, xh, xp, xl⟩ := x
          simp only [bobj, Bn.val] at *
          obtain ⟨⟨k0, k1, k2, k3, k4, k5, k6, k7, k8, k9, k10⟩, _⟩ := Bx.b11 T1
          clear HJ HK2 HC B1 T1 hx NEXT
          gi_wp2_with (refine hR.mono ?_; rintro e w3 ⟨bv, rfl, HX⟩)
          · rename_i hbv
            have e : bv = false := by simpa using hbv
            refine bodyPost_ret (results_none rfl _ _ _) rfl ?_
            exact ⟨⟨_, rfl⟩, .inr (HX.out.2 e)⟩
          · rename_i hbv
            have e : bv = true := by simpa using hbv
            refine ⟨⟨j + 1, by omega, by simp, Lib.hid (HX.out.1 e).1, Lib.hid (HX.out.1 e).2⟩, ?_⟩
            simp [intOf]; omega
        · obtain rfl : j = (t m).length := by omega
          have t2 : ¬ ((t m).length : Int) < ((t m).length : Int) := by omega
          have HJ2 := HJ.out
          rw [NEXT.out] at HJ2
          replace HJ2 := Lib.hid HJ2
          clear HC HY NEXT HJ
          gi_wp2
          go_roundw
          case rel => exact ⟨m + 1, by omega, by go_num, HJ2, HK2⟩
          case measure => simp [intOf]; omega
    · obtain rfl : m = 32 := by omega
      have t1 : ¬ (32 : Int) < 32 := by omega
      clear HD IDX HY KB
      gi_wp2
      refine bodyPost_end (results_none rfl _ _ _) rfl ?_
      exact ⟨⟨_, rfl⟩, .inl HJ.out⟩
end Go.Proofs.Yteohkbepefjjlaa
