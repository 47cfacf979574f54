/- Stores in memory: the map's deeds; the document's store, the code's store. -/
import Derived.Test.YteohkbepefjjlaaKArMem
namespace Go.Proofs.Yteohkbepefjjlaa
open Go.RowKit Pz Ar
set_option linter.unusedVariables false
set_option linter.unusedSimpArgs false

section
variable {F F' : Foot} {w W : World} {mv : Value} {L : List (NK × Nat × Nat)} {q : Nat}
/-- the map's own block -/
theorem MapIs.own (h : MapIs F w (.map (some q)) L) : F q ∧ ∃ es c, w.heap[q]? = some (.map es c) := by
  rcases h with ⟨e, _⟩ | ⟨q', es, c, e, h1, h2, h3⟩
  · cases e
  · cases e; exact ⟨h1, es, c, h2⟩
/-- what a deed of the map leaves -/
structure Turned (q : Nat) (w W : World) : Prop where
  os : W.os = w.os
  tape : W.tape = w.tape
  output : W.output = w.output
  size : W.heap.size = w.heap.size
  block : ∀ b, b ≠ q → W.heap[b]? = w.heap[b]?
theorem Turned.of {es : Array MapEntry} {c : Nat} (hb : w.heap[q]? = some (.map es c)) (o : Obj) : Turned q w (ChangeMaps.setBlock w q o) ∧ (ChangeMaps.setBlock w q o).heap[q]? = some o :=
  ⟨⟨rfl, rfl, rfl, by simp [ChangeMaps.setBlock], fun b hne => ChangeMaps.heap_setBlock_other hb o hne⟩, ChangeMaps.heap_setBlock_same hb o⟩
theorem Turned.only (h : Turned q w W) (hq : F q) : Only F w W := ⟨h.os, h.tape, h.output, by rw [h.size]; exact Nat.le_refl _, fun b _ hn => h.block b (fun e => hn (e ▸ hq))⟩
theorem MapIs.new (h : MapIs F w (.map (some q)) L) {k : NK} (hk : ∀ p ∈ L, p.1 ≠ k) (x : Nat × Nat) : ∃ W, (Instr.mapUpdate MT (.map (some q)) (idV k) (plV x)).run Try.prog w = .ok () W ∧ MapIs F W (.map (some q)) (L ++ [(k, x)]) ∧ Turned q w W := by
  have ht : Try.prog.underlying MT = some (.map 33 72) := Try.underlying66
  rcases h with ⟨e, _⟩ | ⟨q', es, c, e, h1, h3, h4⟩
  · cases e
  · cases e
    rcases finding k w es L h4 with ⟨hf, _⟩ | ⟨j, p, _, h2, h5⟩
    · refine ⟨ChangeMaps.setBlock w q (.map (es.push ⟨idV k, plV x, c⟩) (c + 1)), ?_, .inr ⟨q, _, _, rfl, h1, (Turned.of h3 _).2, ?_⟩, (Turned.of h3 _).1⟩
      · simp [Instr.mapUpdate, run_underlying ht, MapKept.run_getObj_map h3, check_id, hf, MapKept.run_setObj_map _ h3, Result.andThen, ChangeMaps.setBlock]
      · simp [h4]
    · exact absurd h5 (hk p (List.mem_of_getElem? h2))
theorem MapIs.set (h : MapIs F w (.map (some q)) L) (hn : (L.map (·.1)).Nodup) {k : NK} {z : Nat × Nat} (hk : (k, z) ∈ L) (x : Nat × Nat) : ∃ W, (Instr.mapUpdate MT (.map (some q)) (idV k) (plV x)).run Try.prog w = .ok () W ∧ MapIs F W (.map (some q)) (setK L k x) ∧ Turned q w W := by
  have ht : Try.prog.underlying MT = some (.map 33 72) := Try.underlying66
  rcases h with ⟨e, _⟩ | ⟨q', es, c, e, h1, h3, h4⟩
  · cases e
  · cases e
    rcases finding k w es L h4 with ⟨_, hf⟩ | ⟨j, p, hf, h2, h5⟩
    · exact absurd rfl (hf _ hk)
    · have hes : ∃ e0, es[j]? = some e0 ∧ e0.key = idV k := by
        have hl := congrArg (·[j]?) h4
        simp only [List.getElem?_map, h2, Option.map_some, Array.getElem?_toList] at hl
        cases he : es[j]? with
        | none => rw [he] at hl; cases hl
        | some e0 =>
          rw [he] at hl
          simp only [Option.map_some, Option.some.injEq, Prod.mk.injEq] at hl
          exact ⟨e0, rfl, by rw [hl.1, h5]⟩
      obtain ⟨e0, he0, hk0⟩ := hes
      refine ⟨ChangeMaps.setBlock w q (.map (es.modify j fun e => { e with key := idV k, val := plV x }) c), ?_, .inr ⟨q, _, _, rfl, h1, (Turned.of h3 _).2, ?_⟩, (Turned.of h3 _).1⟩
      · simp [Instr.mapUpdate, run_underlying ht, MapKept.run_getObj_map h3, check_id, hf, he0, hk0, stays_id, MapKept.run_setObj_map _ h3, Result.andThen, ChangeMaps.setBlock]
      · rw [← (set_is hn h2 h5 x).1, List.map_set, ← h4, Array.toList_modify, ChangeMaps.modify_eq_set _ _ _ e0 (by simpa using he0), List.map_set]
theorem MapIs.del (h : MapIs F w (.map (some q)) L) (hn : (L.map (·.1)).Nodup) {k : NK} {z : Nat × Nat} (hk : (k, z) ∈ L) (ty : TypeId) : ∃ W, (Builtin.delete_ #[MT, 33] ty #[.map (some q), idV k]).run Try.prog w = .ok (.tuple #[]) W ∧ MapIs F W (.map (some q)) (delK L k) ∧ Turned q w W := by
  have ht : Try.prog.underlying MT = some (.map 33 72) := Try.underlying66
  rcases h with ⟨e, _⟩ | ⟨q', es, c, e, h1, h3, h4⟩
  · cases e
  · cases e
    rcases finding k w es L h4 with ⟨_, hf⟩ | ⟨j, p, hf, h2, h5⟩
    · exact absurd rfl (hf _ hk)
    · have hjs : j < es.size := by
        have hl := congrArg List.length h4
        have := (List.getElem?_eq_some_iff.1 h2).1
        simp at hl
        omega
      refine ⟨ChangeMaps.setBlock w q (.map (es.eraseIdxIfInBounds j) c), ?_, .inr ⟨q, _, _, rfl, h1, (Turned.of h3 _).2, ?_⟩, (Turned.of h3 _).1⟩
      · simp [Builtin.delete_, run_underlying ht, MapKept.run_getObj_map h3, check_id, hf, MapKept.run_setObj_map _ h3, Result.andThen, ChangeMaps.setBlock]
      · have hsub : (es.eraseIdxIfInBounds j).toList = es.toList.eraseIdx j := by
          unfold Array.eraseIdxIfInBounds
          rw [dif_pos hjs]
          simp
        rw [← (set_is hn h2 h5 (0, 0)).2, hsub, ChangeMaps.map_eraseIdx, ChangeMaps.map_eraseIdx, h4]
theorem mapIs_made (w : World) {F : Foot} (hF : F w.heap.size) : MapIs F (w.alloc (.map #[] 0)) (.map (some w.heap.size)) [] :=
  .inr ⟨w.heap.size, #[], 0, rfl, hF, heap_alloc_new w _, rfl⟩
end

/-! ### the document's store, the code's store -/
abbrev ST : TypeId := 29
abbrev AT : TypeId := 68
structure RS (F : Foot) (p : Nat) (t : Tb) (W : World) : Prop where
  head : ∃ cs, W.heap[p]? = some (.cells cs ST (0, 0)) ∧ cs.size = 32 ∧ Tabs F cs t W
  mine : F p
  lt : ∀ b, F b → b < W.heap.size
structure CS (F : Foot) (p : Nat) (t : Tb) (W : World) : Prop where
  head : ∃ cs mv L, W.heap[p]? = some (.cells cs AT (0, 0)) ∧ cs.size = 33 ∧ Tabs F cs t W ∧ cs[32]? = some mv ∧ MapIs F W mv L ∧ Rep L t
  good : Ar.Good t
  mine : F p
  lt : ∀ b, F b → b < W.heap.size
section
variable {F F' : Foot} {p : Nat} {t : Tb} {w W : World}
theorem RS.kept (h : RS F p t w) (hs : w.heap.size ≤ W.heap.size) (hk : ∀ b, F b → W.heap[b]? = w.heap[b]?) : RS F p t W := by
  obtain ⟨cs, h1, h2, h3⟩ := h.head
  exact ⟨⟨cs, (hk p h.mine).trans h1, h2, h3.kept hk⟩, h.mine, fun b hb => Nat.lt_of_lt_of_le (h.lt b hb) hs⟩
theorem RS.below (h : RS F p t w) (hb : Below w.heap.size w W) : RS F p t W := h.kept hb.size fun b hF => hb.block b (h.lt b hF)
theorem RS.other (h : RS F p t w) {G : Foot} (ho : Only G w W) (hd : ∀ b, F b → ¬ G b) : RS F p t W := h.kept ho.size fun b hF => ho.block b (h.lt b hF) (hd b hF)
theorem RS.more (h : RS F p t w) (hF : ∀ b, F b → F' b) (hl : ∀ b, F' b → b < w.heap.size) : RS F' p t w := by
  obtain ⟨cs, h1, h2, h3⟩ := h.head
  exact ⟨⟨cs, h1, h2, h3.more hF⟩, hF p h.mine, hl⟩
theorem RS.gr (h : RS F p t w) {n : Nat} : RS (Gr F n w.heap.size) p t w := h.more (fun b hb => .inl hb) (fun b hb => hb.elim (h.lt b) (fun e => e.2))
theorem RS.at_ (h : RS F p t w) {m : Nat} (hm : m < 32) : ∃ A c, w.cell? ⟨p, m, none⟩ = some (.slice A (t m).length c) ∧ OwnB w 0 (.slice A (t m).length c) (t m) := by
  obtain ⟨cs, h1, h2, h3⟩ := h.head
  obtain ⟨v, hv, ho, _⟩ := h3.tab m hm
  obtain ⟨A, c, rfl⟩ := ho.form
  exact ⟨A, c, (Bx.cell h1 hv).1, ho⟩
theorem RS.few (h : RS F p t w) (m : Nat) : (t m).length ≤ 100000 := by
  obtain ⟨cs, h1, h2, h3⟩ := h.head
  exact h3.few m
theorem CS.kept (h : CS F p t w) (hs : w.heap.size ≤ W.heap.size) (hk : ∀ b, F b → W.heap[b]? = w.heap[b]?) : CS F p t W := by
  obtain ⟨cs, mv, L, h1, h2, h3, h4, h5, h6⟩ := h.head
  exact ⟨⟨cs, mv, L, (hk p h.mine).trans h1, h2, h3.kept hk, h4, h5.kept hk, h6⟩, h.good, h.mine, fun b hb => Nat.lt_of_lt_of_le (h.lt b hb) hs⟩
theorem CS.below (h : CS F p t w) (hb : Below w.heap.size w W) : CS F p t W := h.kept hb.size fun b hF => hb.block b (h.lt b hF)
theorem CS.other (h : CS F p t w) {G : Foot} (ho : Only G w W) (hd : ∀ b, F b → ¬ G b) : CS F p t W := h.kept ho.size fun b hF => ho.block b (h.lt b hF) (hd b hF)
theorem CS.more (h : CS F p t w) (hF : ∀ b, F b → F' b) (hl : ∀ b, F' b → b < w.heap.size) : CS F' p t w := by
  obtain ⟨cs, mv, L, h1, h2, h3, h4, h5, h6⟩ := h.head
  exact ⟨⟨cs, mv, L, h1, h2, h3.more hF, h4, h5.more hF, h6⟩, h.good, hF p h.mine, hl⟩
theorem CS.gr (h : CS F p t w) {n : Nat} : CS (Gr F n w.heap.size) p t w := h.more (fun b hb => .inl hb) (fun b hb => hb.elim (h.lt b) (fun e => e.2))
theorem CS.at_ (h : CS F p t w) {m : Nat} (hm : m < 32) : ∃ A c, w.cell? ⟨p, m, none⟩ = some (.slice A (t m).length c) ∧ OwnB w 0 (.slice A (t m).length c) (t m) := by
  obtain ⟨cs, mv, L, h1, h2, h3, _⟩ := h.head
  obtain ⟨v, hv, ho, _⟩ := h3.tab m hm
  obtain ⟨A, c, rfl⟩ := ho.form
  exact ⟨A, c, (Bx.cell h1 hv).1, ho⟩
theorem CS.few (h : CS F p t w) (m : Nat) : (t m).length ≤ 100000 := by
  obtain ⟨cs, mv, L, h1, h2, h3, _⟩ := h.head
  exact h3.few m
/-- where a name stands, by the map -/
theorem CS.look (h : CS F p t w) : ∃ mv, w.cell? ⟨p, 32, none⟩ = some mv ∧ (∀ k, ∀ W, Below w.heap.size w W → (Instr.lookup MT mv (idV k) true).run Try.prog W = .ok (lookV (Ar.find t k)) W) ∧ ∀ ty W, Below w.heap.size w W → (Builtin.len_ #[MT] ty #[mv]).run Try.prog W = .ok (.int .i64 (total t : Int)) W := by
  obtain ⟨cs, mv, L, h1, h2, h3, h4, h5, h6⟩ := h.head
  refine ⟨mv, (Bx.cell h1 h4).1, fun k W hW => ?_, fun ty W hW => ?_⟩
  · rw [← h6.find k]
    exact (h5.kept fun b hF => hW.block b (h.lt b hF)).look h6.apart k
  · rw [← h6.len]
    exact (h5.kept fun b hF => hW.block b (h.lt b hF)).len ty
end
end Go.Proofs.Yteohkbepefjjlaa
