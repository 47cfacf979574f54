/- What a store yields, collected: the law's all. -/
import Derived.Test.YteohkbepefjjlaaKArSeq
namespace Go.Proofs.Yteohkbepefjjlaa
open Go.RowKit Go.Shelf Pz Ar
set_option linter.unusedVariables false
set_option linter.unusedSimpArgs false
attribute [local go_sem] Oper.semAt_some

abbrev PST : TypeId := 23
theorem Keep.mono {S S' : Foot} {A B : World} (h : Keep S' A B) (hS : ∀ b, S b → S' b) : Keep S A B := fun b hb => h b (hS b hb)
theorem Gives.more {F : Fence} {m : Nat} {P : Program} {gf : Nat} {lb : Array Value} {S S' : Foot} {full : List Bn} {w : World} (h : Rg.Gives F m P gf lb encB (Keep S) full w) (hS : ∀ b, S b → S' b) : Rg.Gives F m P gf lb encB (Keep S') full w := fun l J Jx W hW hJ hY h0 =>
  h l J Jx W hW hJ (fun pre x A hA hp => by
    obtain ⟨fn, tm, as_, bd, hy, hR⟩ := hY pre x A hA hp
    refine ⟨fn, tm, as_, bd, hy, hR.mono ?_⟩
    rintro e V (⟨e1, e2, e3⟩ | e1)
    · exact .inl ⟨e1, e2, e3.mono hS⟩
    · exact .inr e1) h0
/-- what a store gives: its entities, whatever box holds its pointer -/
def Yields (Pv : Value) (full : List Bn) (w : World) : Prop := ∀ W b, Below w.heap.size w W → W.heap[b]? = some (.cells #[Pv] PST (0, 0)) → ∀ n, 1 ≤ n → Rg.Gives Fence.wide n Try.prog 50 #[.pointer (some ⟨b, 0, none⟩)] encB (Keep fun k => k < w.heap.size ∨ k = b) full W
theorem CS.yields {F : Foot} {p : Nat} {t : Tb} {w : World} (h : CS F p t w) : Yields (.pointer (some ⟨p, 0, none⟩)) (all t) w := fun W b hW hb n hn =>
  Gives.more (seq_any (h.below hW) hb n hn) fun k hk => hk.imp (h.lt k) id
set_option maxHeartbeats 4000000 in
set_option maxRecDepth 100000 in
theorem nil_yields (w : World) : Yields (.pointer none) [] w := fun W b hW hb n hn => by
  intro l J Jx V hV hJb hY h0
  have c0 := (Bx.b1 ((hV.block b (Bx.lt hb)).trans hb)).1
  have HJ := Lib.hid h0
  clear hJb hY h0
  refine callsIn_of_wp Try.func50 rfl trivial ?_ rfl
  simp only [Try.ntmps50, List.size_toArray, List.length_cons, List.length_nil, Nat.reduceAdd, Nat.reduceSub, Array.replicate_succ, Array.replicate_zero, List.push_toArray, List.append_toArray, List.nil_append, List.cons_append]
  gi_wp2
  refine bodyPost_ret (results_none rfl _ _ _) rfl ?_
  exact ⟨⟨_, rfl⟩, .inl HJ.out⟩
set_option maxHeartbeats 4000000 in
set_option maxRecDepth 100000 in
theorem allc_any (w : World) (Pv : Value) (hP : Pv = .pointer none ∨ ∃ p, Pv = .pointer (some ⟨p, 0, none⟩)) : Calls Try.prog 43 #[Pv] w fun e w' => e = .returned (.func (.func 50) #[] #[.pointer (some ⟨w.heap.size, 0, none⟩)]) ∧ w' = w.alloc (.cells #[Pv] PST) := by
  rcases hP with rfl | ⟨p, rfl⟩
  · go_enter Try.func43, Try.ntmps43
    go_wp2
    go_ret
    exact ⟨rfl, rfl⟩
  · go_enter Try.func43, Try.ntmps43
    go_wp2
    go_ret
    exact ⟨rfl, rfl⟩
theorem eql_fun (k b : Nat) (V : World) : (binOp .eql 81 (.func (.func k) #[] #[.pointer (some ⟨b, 0, none⟩)]) .nilFunc).run Try.prog V = .ok (.bool false) V := by kernel_rfl
/-- between two rounds -/
structure AllI (w : World) (Pv : Value) (most : Nat) (pre : List Bn) (W : World) : Prop where
  bel : Below w.heap.size w W
  bm : W.heap[w.heap.size]? = some (.cells #[.int .i64 (most : Int)] 3 (0, 0))
  bl : ∃ v, W.heap[w.heap.size + 1]? = some (.cells #[v] 26 (0, 0)) ∧ OwnB W w.heap.size v pre
  bp : W.heap[w.heap.size + 2]? = some (.cells #[Pv] PST (0, 0))
  le : pre.length ≤ most
theorem own_put {W : World} {B k : Nat} {v : Value} {l : List Bn} {o : Obj} (h : OwnB W B v l) {x : Obj} (hx : W.heap[k]? = some x) (hc : x.isCells = false) : OwnB (W.putObj k o) B v l := h.kept fun b hb => World.putObj_heap_other (fun e => by
  obtain ⟨_, cur, hcur⟩ := h.blk hb
  subst e
  rw [hx] at hcur
  cases hcur
  cases hc)
theorem cells_put {W : World} {b k T : Nat} {cs : Array Value} {o : Obj} (h : W.heap[b]? = some (.cells cs T (0, 0))) {x : Obj} (hx : W.heap[k]? = some x) (hc : x.isCells = false) : (W.putObj k o).heap[b]? = some (.cells cs T (0, 0)) :=
  (World.putObj_heap_other (fun e => by
    subst e
    rw [hx] at h
    cases h
    cases hc)).trans h
theorem below_put {w W : World} {k : Nat} {o : Obj} (h : Below w.heap.size w W) (hk : w.heap.size ≤ k) : Below w.heap.size w (W.putObj k o) :=
  ⟨h.os, h.tape, h.output, by rw [Rg.put_below]; exact h.size, fun b hb => (World.putObj_heap_other (by omega)).trans (h.block b hb)⟩
section
variable {w W V : World} {Pv : Value} {most : Nat} {pre : List Bn}
theorem AllI.below (h : AllI w Pv most pre W) (hb : Below W.heap.size W V) : AllI w Pv most pre V := by
  obtain ⟨v, e1, e2⟩ := h.bl
  exact ⟨h.bel.trans (hb.mono h.bel.size), (hb.block _ (Bx.lt h.bm)).trans h.bm, ⟨v, (hb.block _ (Bx.lt e1)).trans e1, e2.below hb⟩, (hb.block _ (Bx.lt h.bp)).trans h.bp, h.le⟩
theorem AllI.put (h : AllI w Pv most pre W) {k : Nat} {x o : Obj} (hk : w.heap.size ≤ k) (hx : W.heap[k]? = some x) (hc : x.isCells = false) : AllI w Pv most pre (W.putObj k o) := by
  obtain ⟨v, e1, e2⟩ := h.bl
  exact ⟨below_put h.bel hk, cells_put h.bm hx hc, ⟨v, cells_put e1 hx hc, own_put e2 hx hc⟩, cells_put h.bp hx hc, h.le⟩
/-- an element more -/
theorem AllI.step (h : AllI w Pv most pre W) (x : Bn) (hl : pre.length < most) (hm : most ≤ 100000) :
    ∃ A c, W.cell? ⟨w.heap.size + 1, 0, none⟩ = some (.slice A pre.length c) ∧ ∃ A' n' c' V, (Builtin.append_ #[26, 26] 26 #[.slice A pre.length c, .slice (some ⟨W.heap.size, 0, none⟩) 1 1]).run Try.prog (W.alloc (bobj x)) = .ok (.slice A' n' c') V ∧
      V.cell? ⟨w.heap.size + 1, 0, none⟩ = some (.slice A pre.length c) ∧ V.frozen? ⟨w.heap.size + 1, 0, none⟩ = false ∧
      Hid (AllI w Pv most (pre ++ [x]) (V.setCell ⟨w.heap.size + 1, 0, none⟩ (.slice A' n' c')) ∧ (∀ k, k < w.heap.size ∨ k = w.heap.size + 2 → (V.setCell ⟨w.heap.size + 1, 0, none⟩ (.slice A' n' c')).heap[k]? = W.heap[k]?) ∧ ∀ (k : Nat) (o : Obj), W.heap[k]? = some o → o.isCells = false → (V.setCell ⟨w.heap.size + 1, 0, none⟩ (.slice A' n' c')).heap[k]? = W.heap[k]?) := by
  obtain ⟨v, e1, e2⟩ := h.bl
  obtain ⟨A, c, rfl⟩ := e2.form
  have hs := h.bel.size
  obtain ⟨v', V, hr, ho, hg, hrow, hf⟩ := app_x (enc := bnE) (T := 35) (s := 11) (t := 26) Try.underlying26 bundle_info rfl (by decide) bnE_len bnE_one e2 hs x (by omega) (by decide) 26
  obtain ⟨A', c', rfl⟩ := ho.form
  have blk : ∀ g, (Value.slice A pre.length c).ownBlock = some g → ∃ cur, W.heap[g]? = some (.cells cur 35 (0, 0)) := fun g e => (e2.blk e).2
  have kc : ∀ {k T : Nat} {cs : Array Value}, W.heap[k]? = some (.cells cs T (0, 0)) → 35 ≠ T → V.heap[k]? = some (.cells cs T (0, 0)) := fun {k T cs} hk hT => (hg.block k (Bx.lt hk) (fun e => by
    obtain ⟨cur, hc⟩ := blk k e.symm
    exact Bx.ne_type hc hk hT rfl)).trans hk
  have l1 := kc e1 (by decide)
  have hbV : Below w.heap.size w V := below_row h.bel hg hs hf
  have hne1 : ∀ k, k ≠ w.heap.size + 1 → (V.setCell ⟨w.heap.size + 1, 0, none⟩ (.slice A' (pre ++ [x]).length c')).heap[k]? = V.heap[k]? := fun k hk => Bx.ne hk _
  refine ⟨A, c, (Bx.b1 e1).1, A', _, c', V, hr, (Bx.b1 l1).1, (Bx.b1 l1).2, Lib.hid ⟨⟨hbV.setCell (p := ⟨w.heap.size + 1, 0, none⟩) (Nat.le_succ _) _, (hne1 _ (by omega)).trans (kc h.bm (by decide)), ⟨_, Bx.set l1 _, ?_⟩, (hne1 _ (by omega)).trans (kc h.bp (by decide)), by simp; omega⟩, ?_, ?_⟩⟩
  · exact ho.kept fun b hb => hne1 b (fun e => by
      obtain ⟨_, cur, hc⟩ := ho.blk hb
      exact Bx.ne_type hc l1 (by decide) e)
  · intro k hk
    rw [hne1 k (by omega)]
    rcases hk with hk | rfl
    · exact (hbV.block k hk).trans (h.bel.block k hk).symm
    · exact (kc h.bp (by decide)).trans h.bp.symm
  · intro k o hk hc
    rw [hne1 k (fun e => by subst e; rw [e1] at hk; cases hk; cases hc)]
    exact hg.block k (Bx.lt hk) (fun e => by
      obtain ⟨cur, hcur⟩ := blk k e.symm
      rw [hk] at hcur
      cases hcur
      cases hc)
end
end Go.Proofs.Yteohkbepefjjlaa
