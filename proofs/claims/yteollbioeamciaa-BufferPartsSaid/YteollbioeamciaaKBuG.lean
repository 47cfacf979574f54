/- QuAcc, BuRg, BuSl, BuGath, in one text. -/
import Derived.Test.YteollbioeamciaaKSeq
import Derived.Test.YteollbioeamciaaKBuC
import Derived.Test.YteollbioeamciaaKBuB
import Derived.OwnWalk
import Derived.StillTailTactics
import Derived.Test.YteollbioeamciaaKBuF
namespace Go.Proofs.Yteollbioeamciaa
open Go.RowKit Go.Shelf Pz Ar
set_option linter.unusedVariables false
set_option linter.unusedSimpArgs false

abbrev BTY : TypeId := 36
abbrev LTY : TypeId := 26
/-- the row in the box lb, the boxes K -/
structure AccI (w : World) (lb : Nat) (K : List (Nat × Value × TypeId)) (l : List Bn) (W : World) : Prop where
  bel : Below w.heap.size w W
  lo : w.heap.size ≤ lb
  bl : ∃ v, W.heap[lb]? = some (.cells #[v] LTY (0, 0)) ∧ OwnB W w.heap.size v l
  held : ∀ x ∈ K, W.heap[x.1]? = some (.cells x.2.1.cells x.2.2 (0, 0)) ∧ x.2.2 ≠ BTY ∧ x.1 ≠ lb
section
variable {w W V : World} {lb : Nat} {K : List (Nat × Value × TypeId)} {l : List Bn}
theorem AccI.below (h : AccI w lb K l W) (hb : Below W.heap.size W V) : AccI w lb K l V := by
  obtain ⟨v, e1, e2⟩ := h.bl
  exact ⟨h.bel.trans (hb.mono h.bel.size), h.lo, ⟨v, (hb.block _ (Bx.lt e1)).trans e1, e2.below hb⟩, fun x hx => by
    obtain ⟨a, b, c⟩ := h.held x hx
    exact ⟨(hb.block _ (Bx.lt a)).trans a, b, c⟩⟩
theorem AccI.put (h : AccI w lb K l W) {k : Nat} {x o : Obj} (hk : w.heap.size ≤ k) (hx : W.heap[k]? = some x) (hc : x.isCells = false) : AccI w lb K l (W.putObj k o) := by
  obtain ⟨v, e1, e2⟩ := h.bl
  exact ⟨below_put h.bel hk, h.lo, ⟨v, cells_put e1 hx hc, own_put e2 hx hc⟩, fun y hy => by
    obtain ⟨a, b, c⟩ := h.held y hy
    exact ⟨cells_put a hx hc, b, c⟩⟩
/-- an element more -/
theorem AccI.step (h : AccI w lb K l W) (x : Bn) (hl : l.length < 100000) :
    ∃ A c, W.cell? ⟨lb, 0, none⟩ = some (.slice A l.length c) ∧ ∃ A' n' c' V, (Builtin.append_ #[LTY, LTY] LTY #[.slice A l.length c, .slice (some ⟨W.heap.size, 0, none⟩) 1 1]).run Try.prog (W.alloc (bobj x)) = .ok (.slice A' n' c') V ∧
      V.cell? ⟨lb, 0, none⟩ = some (.slice A l.length c) ∧ V.frozen? ⟨lb, 0, none⟩ = false ∧
      Hid (AccI w lb K (l ++ [x]) (V.setCell ⟨lb, 0, none⟩ (.slice A' n' c')) ∧ (∀ k, k < w.heap.size ∨ (∃ y ∈ K, y.1 = k) → (V.setCell ⟨lb, 0, none⟩ (.slice A' n' c')).heap[k]? = W.heap[k]?) ∧ (∀ (k : Nat) (o : Obj), W.heap[k]? = some o → o.isCells = false → (V.setCell ⟨lb, 0, none⟩ (.slice A' n' c')).heap[k]? = W.heap[k]?) ∧ ∀ k : Nat, k < W.heap.size → k ≠ lb → (∀ g, (Value.slice A l.length c).ownBlock = some g → k ≠ g) → (V.setCell ⟨lb, 0, none⟩ (.slice A' n' c')).heap[k]? = W.heap[k]?) := by
  obtain ⟨v, e1, e2⟩ := h.bl
  obtain ⟨A, c, rfl⟩ := e2.form
  have hs := h.bel.size
  obtain ⟨v', V, hr, ho, hg, hrow, hf⟩ := app_x (enc := bnE) (T := BTY) (s := 11) (t := LTY) Try.underlying26 bundle_info rfl (by decide) bnE_len bnE_one e2 hs x (by omega) (by decide) LTY
  obtain ⟨A', c', rfl⟩ := ho.form
  have blk : ∀ g, (Value.slice A l.length c).ownBlock = some g → ∃ cur, W.heap[g]? = some (.cells cur BTY (0, 0)) := fun g e => (e2.blk e).2
  have kc : ∀ {k T : Nat} {cs : Array Value}, W.heap[k]? = some (.cells cs T (0, 0)) → BTY ≠ T → V.heap[k]? = some (.cells cs T (0, 0)) := fun {k T cs} hk hT => (hg.block k (Bx.lt hk) (fun e => by
    obtain ⟨cur, hc⟩ := blk k e.symm
    exact Bx.ne_type hc hk hT rfl)).trans hk
  have l1 := kc e1 (by decide)
  have hbV : Below w.heap.size w V := below_row h.bel hg hs hf
  have hne1 : ∀ k, k ≠ lb → (V.setCell ⟨lb, 0, none⟩ (.slice A' (l ++ [x]).length c')).heap[k]? = V.heap[k]? := fun k hk => Bx.ne hk _
  refine ⟨A, c, (Bx.b1 e1).1, A', _, c', V, hr, (Bx.b1 l1).1, (Bx.b1 l1).2, Lib.hid ⟨⟨hbV.setCell (p := ⟨lb, 0, none⟩) h.lo _, h.lo, ⟨_, Bx.set l1 _, ?_⟩, ?_⟩, ?_, ?_, ?_⟩⟩
  · exact ho.kept fun b hb => hne1 b (fun e => by
      obtain ⟨_, cur, hc⟩ := ho.blk hb
      exact Bx.ne_type hc l1 (by decide) e)
  · intro y hy
    obtain ⟨a, b, d⟩ := h.held y hy
    exact ⟨(hne1 _ d).trans (kc a (fun e => b e.symm)), b, d⟩
  · intro k hk
    rcases hk with hk | ⟨y, hy, rfl⟩
    · rw [hne1 k (by have := h.lo; omega)]
      exact (hbV.block k hk).trans (h.bel.block k hk).symm
    · obtain ⟨a, b, d⟩ := h.held y hy
      rw [hne1 _ d]
      exact (kc a (fun e => b e.symm)).trans a.symm
  · intro k o hk hc
    rw [hne1 k (fun e => by subst e; rw [e1] at hk; cases hk; cases hc)]
    exact hg.block k (Bx.lt hk) (fun e => by
      obtain ⟨cur, hcur⟩ := blk k e.symm
      rw [hk] at hcur
      cases hcur
      cases hc)
  · intro k hk hne hg2
    rw [hne1 k hne]
    exact hg.block k hk (fun e => hg2 k e.symm rfl)
end
end Go.Proofs.Yteollbioeamciaa
namespace Go.Proofs.Yteollbioeamciaa
open Go.RowKit Go.Shelf Pz Ar Bu Sp
set_option linter.unusedVariables false
set_option linter.unusedSimpArgs false

namespace Sp
/-- these blocks stay as they were -/
def keepP (F : Foot) (W0 : World) : Piece := ⟨fun G V => (∀ k, G k ↔ F k) ∧ ∀ k, F k → k < V.heap.size ∧ V.heap[k]? = W0.heap[k]?,
  fun ⟨h1, h2⟩ hs hk => ⟨h1, fun k hF => ⟨Nat.lt_of_lt_of_le (h2 k hF).1 hs, (hk k ((h1 k).2 hF)).trans (h2 k hF).2⟩⟩,
  fun ⟨h1, h2⟩ k hk => (h2 k ((h1 k).1 hk)).1⟩
end Sp
/-- these lie there, not in the two blocks from D on -/
structure SepA (w : World) (D : Nat) (L : List Piece) (W : World) : Prop where
  bel : Below w.heap.size w W
  is_ : ∃ F : Foot, All L F W ∧ ∀ k, F k → w.heap.size ≤ k ∧ k ≠ D ∧ k ≠ D + 1
section
variable {w W V : World} {D : Nat} {L : List Piece} {P : Piece}
theorem SepA.of_sep (h : Sep w L W) (hD : W.heap.size ≤ D) : SepA w D L W := by
  obtain ⟨h0, F, h1, h2⟩ := h
  exact ⟨h0, F, h1, fun k hk => ⟨h2 k hk, by have := h1.lt k hk; omega, by have := h1.lt k hk; omega⟩⟩
theorem SepA.below (h : SepA w D L W) (hb : Below W.heap.size W V) : SepA w D L V := by
  obtain ⟨h0, F, h1, h2⟩ := h
  exact ⟨h0.trans (hb.mono h0.size), F, h1.kept hb.size fun k hk => hb.block k (h1.lt k hk), h2⟩
theorem SepA.put (h : SepA w D L W) {k : Nat} (hk : k = D ∨ k = D + 1) (hw : w.heap.size ≤ D) (o : Obj) : SepA w D L (W.putObj k o) := by
  obtain ⟨h0, F, h1, h2⟩ := h
  refine ⟨below_put h0 (by omega), F, h1.kept (by rw [Rg.put_below]; exact Nat.le_refl _) fun j hj => World.putObj_heap_other (by have := h2 j hj; omega), h2⟩
theorem SepA.box1 {o : Obj} (h : SepA w D L W) (e : W.heap[D]? = some o) (hw : w.heap.size ≤ D) : Sep w (box D o :: L) W := by
  obtain ⟨h0, F, h1, h2⟩ := h
  exact ⟨h0, fun k => k = D ∨ F k, ⟨fun k => k = D, F, ⟨e, fun k => Iff.rfl⟩, h1, fun k hk hF => (h2 k hF).2.1 hk, fun k => Iff.rfl⟩, fun k hk => by
    rcases hk with rfl | hk
    · exact hw
    · exact (h2 k hk).1⟩
theorem SepA.box2 {o o' : Obj} (h : SepA w D L W) (e : W.heap[D]? = some o) (e' : W.heap[D + 1]? = some o') (hw : w.heap.size ≤ D) : Sep w (box D o :: box (D + 1) o' :: L) W := by
  obtain ⟨h0, F, h1, h2⟩ := h
  refine ⟨h0, fun k => k = D ∨ (k = D + 1 ∨ F k), ⟨fun k => k = D, fun k => k = D + 1 ∨ F k, ⟨e, fun k => Iff.rfl⟩, ⟨fun k => k = D + 1, F, ⟨e', fun k => Iff.rfl⟩, h1, fun k hk hF => (h2 k hF).2.2 hk, fun k => Iff.rfl⟩, fun k hk hF => ?_, fun k => Iff.rfl⟩, fun k hk => ?_⟩
  · rcases hF with hF | hF
    · omega
    · exact (h2 k hF).2.1 hk
  · rcases hk with rfl | rfl | hk
    · exact hw
    · omega
    · exact (h2 k hk).1
theorem SepA.of_box2 {o o' : Obj} (h : Sep w (box D o :: box (D + 1) o' :: L) W) : SepA w D L W ∧ W.heap[D]? = some o ∧ W.heap[D + 1]? = some o' := by
  refine ⟨?_, h.held 0 rfl, h.held 1 rfl⟩
  obtain ⟨h0, F, ⟨G, H, ⟨_, g1⟩, ⟨G', H', ⟨_, g2⟩, h3, h4, h5⟩, h6, h7⟩, h8⟩ := h
  refine ⟨h0, H', h3, fun k hk => ⟨h8 k ((h7 k).2 (.inr ((h5 k).2 (.inr hk)))), fun e => ?_, fun e => ?_⟩⟩
  · exact h6 k ((g1 k).2 e) ((h5 k).2 (.inr hk))
  · exact h4 k ((g2 k).2 e) hk
theorem SepA.kept {F' : Foot} {W0 : World} (h : SepA w D (keepP F' W0 :: L) W) : ∀ k, F' k → k < W.heap.size ∧ W.heap[k]? = W0.heap[k]? := by
  obtain ⟨h0, F, ⟨G, H, ⟨_, g2⟩, _⟩, _⟩ := h
  exact g2
/-- a store, and the block its iterator reads, as blocks that stay -/
theorem Sep.still {s p : Nat} {t : Tb} {o : Obj} (h : Sep w (stC s t :: box p o :: L) W) : ∃ F : Foot, CS F s t W ∧ (∀ k, F k ∨ k = p → k < W.heap.size) ∧ Sep w (keepP (fun k => F k ∨ k = p) W :: L) W := by
  obtain ⟨h0, F, ⟨G, H, h1, ⟨G', H', ⟨e1, g2⟩, h3, h4, h5⟩, h6, h7⟩, h8⟩ := h
  have hl : ∀ k, G k ∨ k = p → k < W.heap.size := fun k hk => by
    rcases hk with hk | rfl
    · exact h1.lt k hk
    · exact Bx.lt e1
  refine ⟨G, h1, hl, h0, F, ⟨fun k => G k ∨ k = p, H', ⟨fun k => Iff.rfl, fun k hk => ⟨hl k hk, rfl⟩⟩, h3, fun k hk hH => ?_, fun k => ?_⟩, h8⟩
  · rcases hk with hk | hk
    · exact h6 k hk ((h5 k).2 (.inr hH))
    · exact h4 k ((g2 k).2 hk) hH
  · rw [h7, h5, g2, or_assoc]
/-- .. and back -/
theorem Sep.store {s p : Nat} {t : Tb} {F' : Foot} {W0 : World} (h : Sep w (keepP (fun k => F' k ∨ k = p) W0 :: L) W) (hC : CS F' s t W0) (hW : W0.heap.size ≤ W.heap.size) : Sep w (stC s t :: L) W := by
  obtain ⟨h0, F, ⟨G, H, ⟨g1, g2⟩, h3, h4, h5⟩, h8⟩ := h
  refine ⟨h0, fun k => F' k ∨ H k, ⟨F', H, hC.kept hW fun k hk => (g2 k (.inl hk)).2, h3, fun k hk hH => h4 k ((g1 k).2 (.inl hk)) hH, fun k => Iff.rfl⟩, fun k hk => ?_⟩
  rcases hk with hk | hk
  · exact h8 k ((h5 k).2 (.inl ((g1 k).2 (.inl hk))))
  · exact h8 k ((h5 k).2 (.inr hk))
end
/-- how a round ends -/
def roundPost (w : World) (L : List Piece) : Exit → Act → World → Prop
  | .normal, _, V => Sep w L V
  | _, _, _ => False
theorem sep_range {w w3 : World} {n : Nat} {g : Operand} {ps : Array Tmp} {assign body : Code} {Q : Exit → Act → World → Prop} {a : Act}
    (h1 : 1 ≤ n) {gf : Nat} {lb : Array Value} (hg : a.eval g = .func (.func gf) #[] lb) (eg : ∀ args w, (callFunc gf args).run Try.prog w = .ok (.enter gf args) w) (hps : 1 = ps.size)
    {F' : Foot} (hF' : ∀ k, F' k → k < w3.heap.size) {full : List Bn} (L : List Bn → List Piece) (Ax : Bn → Act → World → Prop)
    (hAp : ∀ x a' A k o', Rg.Turn w3.heap.size A k → Ax x a' A → Ax x a' (A.putObj k o'))
    (seq : Rg.Gives Fence.wide (n - 1) Try.prog gf lb encB (Keep F') full w3)
    (hassign : ∀ (l : Nat) (x : Bn) (W : World) (K : Act → World → Prop), (∀ a' V, Below W.heap.size W V → Ax x a' V → K a' V) → assign.wpIn (Fence.wide.inRound l) (n - 1 - 1) Try.prog (Exit.then K (fun _ _ _ => False)) { tmps := (ps.zip (encB x)).foldl (fun t (p, v) => t.setIfInBounds p v) a.tmps, defers := [] } W)
    (hbody : ∀ (pre : List Bn) (x : Bn) (W : World) (a' : Act) (o1 o2 : Obj), Sep w (box w3.heap.size o1 :: box (w3.heap.size + 1) o2 :: keepP F' w3 :: L pre) W → pre ++ [x] <+: full → Ax x a' W → body.wpIn (Fence.wide.inRound (w3.heap.size + 1)) (n - 1 - 1) Try.prog (roundPost w (box w3.heap.size o1 :: box (w3.heap.size + 1) o2 :: keepP F' w3 :: L (pre ++ [x]))) a' W)
    (h0 : Sep w (keepP F' w3 :: L []) w3)
    (hdone : ∀ (W : World), Sep w (box w3.heap.size (.deferred (some [])) :: keepP F' w3 :: L full) W → Q .normal { a with defers := { target := .collected w3.heap.size, args := #[] } :: a.defers } W) :
    (Code.rangeFunc g ps assign body).wpIn Fence.wide n Try.prog Q a w3 := by
  have hw3 : w.heap.size ≤ w3.heap.size := h0.bel.size
  have hT : ∀ {k : Nat} {A : World}, Rg.Turn w3.heap.size A k → k = w3.heap.size ∨ k = w3.heap.size + 1 := fun h => h.1
  refine Rg.range (w := w3) rfl h1 hg trivial eg (encs := encB) (fun _ => hps) (Kp := Keep F') (full := full)
    (fun xs V => SepA w w3.heap.size (keepP F' w3 :: L xs) V) (fun _ _ _ => False) Ax
    (fun h k b hb => (k b hb).trans (h b hb)) (fun xs A B hI hb k hk => hb.block k (hI.kept k hk).1) (fun A k o' hT' j hj => World.putObj_heap_other (by have := hF' j hj; have := hT hT'; omega))
    (fun xs A B hI hb => hI.below hb) (fun xs A k o' hT' hI => hI.put (hT hT') hw3 o') (fun c xs A k o' hT' hX => hX) hAp seq hassign ?body (.of_sep h0 (Nat.le_refl _)) ?done (fun c pre W h _ => h.elim)
  case body =>
    rintro pre x W a' hI hpre hA ⟨rl, hl⟩ hd
    refine wpIn_mono (hbody pre x W a' _ _ (hI.box2 hd hl hw3) hpre hA) ?_
    rintro e a3 V hp
    cases e with
    | normal =>
      obtain ⟨k1, k2, k3⟩ := SepA.of_box2 hp
      exact ⟨k2.trans hd.symm, k3.trans hl.symm, fun k hk => (k1.kept k hk).2.trans (hI.kept k hk).2.symm, k1⟩
    | ret => exact hp.elim
    | exit id => exact hp.elim
    | goto t => exact hp.elim
    | panic ch => exact hp.elim
    | outgrown => exact hp.elim
  case done =>
    intro W hI hd
    exact hdone W (hI.box1 hd hw3)
/-- what is at the end of a function in which a range over a function stood -/
theorem Sep.closed {w W : World} {L : List Piece} {D : Nat} (h : Sep w (box D (.deferred (some [])) :: L) W) (hD : w.heap.size ≤ D) : W.heap[D]? = some (.deferred (some [])) ∧ Below w.heap.size w (W.putObj D (.deferred none)) :=
  ⟨h.held 0 rfl, below_put h.bel hD⟩
end Go.Proofs.Yteollbioeamciaa
namespace Go.Proofs.Yteollbioeamciaa
open Go.RowKit Pz Ar Bu
set_option linter.unusedVariables false
set_option linter.unusedSimpArgs false

theorem run_front {A : Option Addr} {n c k : Nat} (hk : k ≤ c) (V : World) : (Instr.sliceAt DLT (.slice A n c) none (some (.int .i64 (k : Int))) none).run Try.prog V = .ok (.slice (if c = 0 then A else A.map (·.add (0 * 13))) k c) V := by
  have u := Try.underlying22
  have z := Try.sizeOf38
  have t1 : (0 : Int) ≤ (k : Int) ∧ (k : Int) ≤ (c : Int) := by omega
  unfold Instr.sliceAt Instr.slice Instr.sliceBounds Instr.sliceBound
  go_simp
theorem run_back {A : Option Addr} {n c k : Nat} (hk : k ≤ n) (V : World) : (Instr.sliceAt DLT (.slice A n c) (some (.int .i64 (k : Int))) none none).run Try.prog V = .ok (.slice (if c = k then A else A.map (·.add (k * 13))) (n - k) (c - k)) V := by
  have u := Try.underlying22
  have z := Try.sizeOf38
  have t1 : (0 : Int) ≤ (k : Int) ∧ (k : Int) ≤ (n : Int) := by omega
  unfold Instr.sliceAt Instr.slice Instr.sliceBounds Instr.sliceBound
  go_simp
theorem front_any {W : World} {B : Nat} {A : Option Addr} {c k : Nat} {l : List De} (R : RdDe W B A l) (hk : k ≤ l.length) (hc : l.length ≤ c) : ∃ A1, (∀ V, (Instr.sliceAt DLT (.slice A l.length c) none (some (.int .i64 (k : Int))) none).run Try.prog V = .ok (.slice A1 k c) V) ∧ RdDe W B A1 (l.take k) := by
  refine ⟨_, fun V => run_front (by omega) V, fun j x hx => ?_⟩
  obtain ⟨g, o, rfl, h⟩ := R.take k j x hx
  refine ⟨g, o, ?_, h⟩
  split
  · rfl
  · simp [Addr.add]
theorem back_any {W : World} {B : Nat} {A : Option Addr} {c k : Nat} {l : List De} (R : RdDe W B A l) (hk : k ≤ l.length) (hc : l.length ≤ c) : ∃ A1, (∀ V, (Instr.sliceAt DLT (.slice A l.length c) (some (.int .i64 (k : Int))) none none).run Try.prog V = .ok (.slice A1 (l.drop k).length (c - k)) V) ∧ RdDe W B A1 (l.drop k) := by
  refine ⟨_, fun V => by rw [List.length_drop]; exact run_back hk V, fun j x hx => ?_⟩
  have hj := (List.getElem?_eq_some_iff.1 hx).1
  rw [List.length_drop] at hj
  obtain ⟨g, o, rfl, _⟩ := R 0 _ (List.getElem?_eq_getElem (by omega))
  obtain ⟨g', o', e, h⟩ := (R.drop k) j x hx
  rw [if_neg (by omega)]
  cases e
  refine ⟨g, o + k * 13, ?_, h⟩
  simp [Addr.add]
end Go.Proofs.Yteollbioeamciaa
namespace Go.Proofs.Yteollbioeamciaa
open Go.RowKit Go.Shelf Pz Ar Bu Sp
set_option linter.unusedVariables false
set_option linter.unusedSimpArgs false

namespace Sp
/-- a row of entities in a box -/
def gath (b : Nat) (l : List Bn) : Piece := ⟨fun F W => ∃ v, W.heap[b]? = some (.cells #[v] LTY (0, 0)) ∧ OwnB W 0 v l ∧ ∀ k, F k ↔ k = b ∨ v.ownBlock = some k,
  fun ⟨v, h1, h2, h3⟩ hs hk => ⟨v, (hk b ((h3 b).2 (.inl rfl))).trans h1, h2.kept fun g hg => hk g ((h3 g).2 (.inr hg)), h3⟩,
  fun ⟨v, h1, h2, h3⟩ k hk => by
    rcases (h3 k).1 hk with e | e
    · rw [e]; exact Bx.lt h1
    · obtain ⟨_, cur, hc⟩ := h2.blk e
      exact Bx.lt hc⟩
end Sp
section
variable {w W V : World} {L : List Piece} {b : Nat} {l : List Bn}
theorem sep_gath (h : Sep w L W) : Sep w (gath W.heap.size [] :: L) (W.alloc (.cells #[.slice none 0 0] LTY)) :=
  h.add (P := gath W.heap.size []) (G := fun k => k = W.heap.size ∨ (Value.slice none 0 0).ownBlock = some k) (bel1 W _) ⟨.slice none 0 0, at1 W _, rw_nil _ _, fun k => Iff.rfl⟩ fun k hk => by
    rcases hk with rfl | hk
    · exact Nat.le_refl _
    · cases hk
/-- an entity more -/
theorem Sep.more (h : Sep w (gath b l :: L) W) (x : Bn) (hn : l.length + 1 ≤ 1000000) :
    ∃ A c, W.cell? ⟨b, 0, none⟩ = some (.slice A l.length c) ∧ ∃ A' c' V, (Builtin.append_ #[LTY, LTY] LTY #[.slice A l.length c, .slice (some ⟨W.heap.size, 0, none⟩) 1 1]).run Try.prog (W.alloc (.cells #[.int .i64 x.s, .int .i64 x.i, .int .i64 x.g, .int .i64 x.m, .int .i64 x.x, .int .i64 x.y, .int .i64 x.vx, .int .i64 x.vy, .int .i64 x.h, .int .i64 x.p, .int .i64 x.l] 36)) = .ok (.slice A' (l.length + 1) c') V ∧ V.cell? ⟨b, 0, none⟩ = some (.slice A l.length c) ∧ V.frozen? ⟨b, 0, none⟩ = false ∧ Sep w (gath b (l ++ [x]) :: L) (V.setCell ⟨b, 0, none⟩ (.slice A' (l.length + 1) c')) := by
  obtain ⟨G, ⟨v, h1, h2, h3⟩, _, next⟩ := h.one
  obtain ⟨v', V, hr, ho, hg, hv, _⟩ := app_x (enc := bnE) (T := BTY) (s := 11) (t := LTY) Try.underlying26 bundle_info rfl (by decide) bnE_len bnE_one h2 (Nat.zero_le _) x hn (by decide) LTY
  obtain ⟨A, c, rfl⟩ := h2.form
  obtain ⟨A', c', rfl⟩ := ho.form
  have hne : (Value.slice A l.length c).ownBlock ≠ some b := fun e => by
    obtain ⟨_, cur, hc⟩ := h2.blk e
    exact Bx.ne_type hc h1 (by decide) rfl
  have e1 : V.heap[b]? = some (.cells #[.slice A l.length c] LTY (0, 0)) := (hg.block b (Bx.lt h1) fun e => hne e.symm).trans h1
  have el : (l ++ [x]).length = l.length + 1 := by simp
  rw [el] at hr ho
  refine ⟨A, c, (Bx.b1 h1).1, A', c', V, hr, (Bx.b1 e1).1, (Bx.b1 e1).2, ?_⟩
  rw [el] at hv
  refine next _ (gath b (l ++ [x])) (fun k => k = b ∨ (Value.slice A' (l.length + 1) c').ownBlock = some k) ?_ ⟨.slice A' (l.length + 1) c', Bx.set e1 _, ho.kept fun g hg' => Bx.ne (fun e => ?_) _, fun k => Iff.rfl⟩ fun k hk => ?_
  · refine Only.set ⟨hg.os, hg.tape, hg.output, hg.size, fun k hk hn' => hg.block k hk fun e => hn' ((h3 k).2 (.inr e.symm))⟩ (a := ⟨b, 0, none⟩) (.inl ((h3 b).2 (.inl rfl))) _
  · obtain ⟨_, cur, hc⟩ := ho.blk hg'
    subst e
    exact Bx.ne_type hc e1 (by decide) rfl
  · rcases hk with rfl | hk
    · exact .inl ((h3 k).2 (.inl rfl))
    · exact (hv k hk).imp (fun e => (h3 k).2 (.inr e)) id
theorem Sep.gathered (h : Sep w L W) (i : Nat) (e : L[i]? = some (gath b l)) : ∃ A c, W.cell? ⟨b, 0, none⟩ = some (.slice A l.length c) ∧ OwnB W 0 (.slice A l.length c) l := by
  obtain ⟨G, v, h1, h2, h3⟩ : ∃ G, (gath b l).at_ G W := h.get i e
  obtain ⟨A, c, rfl⟩ := h2.form
  exact ⟨A, c, (Bx.b1 h1).1, h2⟩
/-- a row of answers behind another one -/
theorem joined {A : Option Addr} {c : Nat} {v : Value} {xs ys : List Int} (h : Sep w (rowE v xs :: rowE (.slice A ys.length c) ys :: L) W) (hn : xs.length + ys.length ≤ 1000000) (ty : TypeId) :
    ∃ A' c' V, (Builtin.append_ #[48, 48] ty #[v, .slice A ys.length c]).run Try.prog W = .ok (.slice A' (xs ++ ys).length c') V ∧ Sep w (rowE (.slice A' (xs ++ ys).length c') (xs ++ ys) :: L) V := by
  have h1 := h.rows 0 rfl
  have h2 := h.rows 1 rfl
  have key : ∃ v' V, (Builtin.append_ #[48, 48] ty #[v, .slice A ys.length c]).run Try.prog W = .ok v' V ∧ OwnE V 0 v' (xs ++ ys) ∧ W.grownBy V v.ownBlock ∧ ∀ b, v'.ownBlock = some b → v.ownBlock = some b ∨ W.heap.size ≤ b := by
    by_cases h0 : 0 < ys.length
    · obtain ⟨g, o, rfl, _⟩ := num_at h2 (List.getElem?_eq_getElem h0)
      exact Rw.app (P := Try.prog) (t := 48) (ty := ty) Try.underlying48 errno_info rfl (by decide) nuE_len nuE_one h1 (Nat.zero_le _) ys ⟨g, o, none⟩ c (fun j x hj c2 u hu => by
        obtain ⟨g2, o2, e2, _, _, hc⟩ := num_at h2 hj
        cases e2
        have hc0 : c2 = 0 := by
          have := (List.getElem?_eq_some_iff.1 hu).1
          simp [nuE] at this
          exact this
        subst hc0
        cases hu
        rw [Addr.add_mid, Nat.mul_one, Nat.add_zero]
        exact hc) hn (by decide) (.inl h0)
    · obtain rfl : ys = [] := List.length_eq_zero_iff.1 (by omega)
      obtain ⟨i, hi, _, _, _⟩ := info_parts (P := Try.prog) errno_info
      have hs : Src Try.prog i.size 48 (.slice A 0 c) 0 [] W := by
        cases A with
        | none => exact Src.ofNil W Try.underlying48 c
        | some a => exact Src.ofSlice W Try.underlying48 a 0 c [] (by simp) (fun j u hj => by simp at hj) (by simp)
      rw [List.append_nil]
      obtain ⟨A', c', rfl⟩ := h1.form
      exact ⟨_, W, run_append_nothing W _ _ ty _ i Try.underlying48 hi A' xs.length c' (by
        rcases h1 with ⟨e, rfl⟩ | ⟨g, off, cap, cur, e, _, _, h3, _⟩
        · cases e; exact Nat.le_refl _
        · cases e; exact h3) _ hs, h1, World.grownBy.refl W _, fun b hb => .inl hb⟩
  obtain ⟨v', V, hr, ho, hg, hv⟩ := key
  obtain ⟨A', c', rfl⟩ := ho.form
  refine ⟨A', c', V, hr, ?_⟩
  have h3 : Sep w (rowE v xs :: L) W := (h.pull 1 rfl).drop
  obtain ⟨G, ⟨g1, g2⟩, _, next⟩ := h3.one
  exact next V (rowE _ (xs ++ ys)) (fun k => (Value.slice A' (xs ++ ys).length c').ownBlock = some k) ⟨hg.os, hg.tape, hg.output, hg.size, fun k hk hn => hg.block k hk fun e => hn ((g2 k).2 e.symm)⟩ ⟨ho, fun k => Iff.rfl⟩ fun k hk => (hv k hk).imp (fun e => (g2 k).2 e) id
end
end Go.Proofs.Yteollbioeamciaa
