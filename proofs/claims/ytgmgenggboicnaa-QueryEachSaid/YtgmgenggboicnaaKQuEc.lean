/- A store that a loop's body changes, a row that it lays, and a row that stays. -/
import Derived.Test.YtgmgenggboicnaaKQuG
import Derived.Test.YtgmgenggboicnaaKQuOrdP
namespace Go.Proofs.Ytgmgenggboicnaa
open Go.RowKit Go.Shelf Pz Ar Qu
set_option linter.unusedVariables false
set_option linter.unusedSimpArgs false

section
variable {F : Foot} {s : Nat} {t : Tb} {W V A B w : World} {R : List Nat} {b : Nat} {l : List Bn}
theorem Mine.of {r : Nat} (hr : r ∈ R) (h : Mine [r] A b) : Mine R A b := by
  rcases h with h | ⟨r', h0, cs, T, v, h1⟩
  · rw [List.mem_singleton] at h; subst h; exact .inl hr
  · rw [List.mem_singleton] at h0; subst h0; exact .inr ⟨_, hr, cs, T, v, h1⟩
theorem Mine.one (h : Mine R A b) : ∃ r ∈ R, Mine [r] A b := by
  rcases h with h | ⟨r, h0, cs, T, v, h1⟩
  · exact ⟨b, h, .inl (by simp)⟩
  · exact ⟨r, h0, .inr ⟨r, by simp, cs, T, v, h1⟩⟩
theorem Mine.same {r : Nat} (h : Mine [r] B b) (e : B.heap[r]? = A.heap[r]?) : Mine [r] A b := by
  rcases h with h | ⟨r', h0, cs, T, v, h1, h2⟩
  · exact .inl h
  · rw [List.mem_singleton] at h0; subst h0
    exact .inr ⟨_, by simp, cs, T, v, e.symm.trans h1, h2⟩
/-- a store's foot: its own block, and what lies in it -/
theorem CS.narrow (h : CS F s t W) : CS (Mine [s] W) s t W ∧ ∀ b, Mine [s] W b → F b := by
  obtain ⟨⟨cs, mv, L, h1, h2, h3, h4, h5, h6⟩, hg, hm, hl⟩ := h
  have key : ∀ b, Mine [s] W b → F b := by
    rintro b (hb | ⟨r, hr, cs', T, v, e1, e2, e3⟩)
    · rw [List.mem_singleton.1 hb]; exact hm
    · rw [List.mem_singleton] at hr
      subst hr
      rw [h1] at e1
      injection e1 with e1
      injection e1 with e1 _
      subst e1
      obtain ⟨i, hi, rfl⟩ := Array.mem_iff_getElem.1 e2
      have hgi := Array.getElem?_eq_getElem hi
      by_cases h32 : i < 32
      · obtain ⟨v', f1, f2, f3⟩ := h3.tab i h32
        rw [hgi] at f1
        have hv := Option.some.inj f1
        rcases e3 with e3 | e3
        · exact f3 b (by rw [← hv]; exact e3)
        · obtain ⟨A', c', hform⟩ := f2.form
          rw [← hv, e3] at hform
          cases hform
      · obtain rfl : i = 32 := by omega
        rw [hgi] at h4
        have hv := Option.some.inj h4
        rw [hv] at e3
        rcases h5 with ⟨rfl, _⟩ | ⟨q, es, c', rfl, hq, _, _⟩
        · rcases e3 with e3 | e3 <;> cases e3
        · rcases e3 with e3 | e3
          · cases e3
          · injection e3 with e3
            injection e3 with e3
            rw [← e3]; exact hq
  refine ⟨⟨⟨cs, mv, L, h1, h2, ⟨fun m hm => ?_, h3.apart, h3.few⟩, h4, ?_, h6⟩, hg, .inl (by simp), fun b hb => hl b (key b hb)⟩, key⟩
  · obtain ⟨v, f1, f2, f3⟩ := h3.tab m hm
    exact ⟨v, f1, f2, fun g hg => .inr ⟨s, by simp, cs, _, v, h1, Array.mem_of_getElem? f1, .inl hg⟩⟩
  · rcases h5 with h5 | ⟨q, es, c', e, hq, h7⟩
    · exact .inl h5
    · exact .inr ⟨q, es, c', e, .inr ⟨s, by simp, cs, _, mv, h1, Array.mem_of_getElem? h4, .inr e⟩, h7⟩
end
/-- between two rounds: the row in the box gb, the store s, the row v of one's own, the loop's blocks -/
structure EI (w : World) (D gb s : Nat) (K : List (Nat × Value × TypeId)) (v : Value) (P Q pre : List Bn) (W : World) : Prop where
  acc : AccI w gb K pre W
  sto : ∃ t, CS (Mine [s] W) s t W ∧ Mem t Q
  off : ∀ b, Mine [s] W b → w.heap.size ≤ b ∧ b ≠ gb ∧ (∀ x ∈ K, x.1 ≠ b) ∧ (∀ u, W.heap[gb]? = some (.cells #[u] LTY (0, 0)) → u.ownBlock ≠ some b) ∧ v.ownBlock ≠ some b ∧ b ≠ D ∧ b ≠ D + 1
  row : OwnB W 0 v P
  rowo : ∀ u g, W.heap[gb]? = some (.cells #[u] LTY (0, 0)) → u.ownBlock = some g → v.ownBlock ≠ some g
section
variable {w W V : World} {D gb s : Nat} {K : List (Nat × Value × TypeId)} {v : Value} {P Q Q' pre : List Bn}
theorem EI.slt (h : EI w D gb s K v P Q pre W) : s < W.heap.size := by
  obtain ⟨t, hc, _⟩ := h.sto
  exact hc.lt s hc.mine
theorem EI.glt (h : EI w D gb s K v P Q pre W) : gb < W.heap.size := by
  obtain ⟨u, e1, _⟩ := h.acc.bl
  exact Bx.lt e1
theorem EI.smine (h : EI w D gb s K v P Q pre W) : Mine [s] W s := .inl (by simp)
theorem EI.below (h : EI w D gb s K v P Q pre W) (hb : Below W.heap.size W V) : EI w D gb s K v P Q pre V := by
  obtain ⟨t, hc, hm⟩ := h.sto
  have e1 := hb.block gb h.glt
  have e2 := hb.block s h.slt
  refine ⟨h.acc.below hb, ⟨t, (hc.below hb).narrow.1, hm⟩, fun b hM => ?_, h.row.below hb, fun u g hu => h.rowo u g (e1.symm.trans hu)⟩
  obtain ⟨o1, o2, o3, o4, o5⟩ := h.off b (hM.same e2)
  exact ⟨o1, o2, o3, fun u hu => o4 u (e1.symm.trans hu), o5⟩
theorem EI.put (h : EI w D gb s K v P Q pre W) {k : Nat} (hk : k = D ∨ k = D + 1) (hkw : w.heap.size ≤ k) {x o : Obj} (hx : W.heap[k]? = some x) (hc : x.isCells = false) : EI w D gb s K v P Q pre (W.putObj k o) := by
  obtain ⟨t, hs, hm⟩ := h.sto
  have hne : ∀ b, Mine [s] W b → b ≠ k := fun b hb => by
    obtain ⟨_, _, _, _, _, o6, o7⟩ := h.off b hb
    rcases hk with rfl | rfl
    · exact o6
    · exact o7
  have hsame : ∀ b, b ≠ k → (W.putObj k o).heap[b]? = W.heap[b]? := fun b hb => World.putObj_heap_other hb
  have e2 := hsame s (hne s h.smine)
  have e1 : (W.putObj k o).heap[gb]? = W.heap[gb]? := hsame gb (fun e => by
    obtain ⟨u, e3, _⟩ := h.acc.bl
    subst e
    rw [e3] at hx
    cases hx
    cases hc)
  refine ⟨h.acc.put hkw hx hc, ⟨t, (hs.kept (by rw [Rg.put_below]; exact Nat.le_refl _) fun b hb => hsame b (hne b hb)).narrow.1, hm⟩, fun b hM => ?_, own_put h.row hx hc, fun u g hu => h.rowo u g (e1.symm.trans hu)⟩
  obtain ⟨o1, o2, o3, o4, o5⟩ := h.off b (hM.same e2)
  exact ⟨o1, o2, o3, fun u hu => o4 u (e1.symm.trans hu), o5⟩
theorem EI.rlt (h : EI w D gb s K v P Q pre W) : ∀ r ∈ [gb, s], r < W.heap.size := fun r hr => by
  rcases List.mem_cons.1 hr with rfl | hr
  · exact h.glt
  · rw [List.mem_singleton] at hr; subst hr; exact h.slt
/-- an element more in one's row -/
theorem EI.add (h : EI w D gb s K v P Q pre W) (x : Bn) (hl : pre.length < 100000) :
    ∃ A c, W.cell? ⟨gb, 0, none⟩ = some (.slice A pre.length c) ∧ ∃ A' n' c' V, (Builtin.append_ #[LTY, LTY] LTY #[.slice A pre.length c, .slice (some ⟨W.heap.size, 0, none⟩) 1 1]).run Try.prog (W.alloc (bobj x)) = .ok (.slice A' n' c') V ∧
      V.cell? ⟨gb, 0, none⟩ = some (.slice A pre.length c) ∧ V.frozen? ⟨gb, 0, none⟩ = false ∧
      Hid (EI w D gb s K v P Q (pre ++ [x]) (V.setCell ⟨gb, 0, none⟩ (.slice A' n' c')) ∧ KpM [gb, s] W (V.setCell ⟨gb, 0, none⟩ (.slice A' n' c')) ∧ ∀ (k : Nat) (o : Obj), W.heap[k]? = some o → o.isCells = false → (V.setCell ⟨gb, 0, none⟩ (.slice A' n' c')).heap[k]? = W.heap[k]?) := by
  obtain ⟨t, hs, hm⟩ := h.sto
  have hsT : ∃ cs T, W.heap[s]? = some (.cells cs T (0, 0)) ∧ T ≠ BTY := by
    obtain ⟨cs, mv, L, h1, _⟩ := hs.head
    exact ⟨cs, _, h1, by decide⟩
  obtain ⟨A, c, k1, A', n', c', V, hr, k2, k3, FIN⟩ := h.acc.stepM x hl (R := [gb, s]) (by simp) (fun r hr hne => by
    rcases List.mem_cons.1 hr with rfl | hr
    · exact absurd rfl hne
    · rw [List.mem_singleton] at hr; subst hr; exact hsT)
  refine ⟨A, c, k1, A', n', c', V, hr, k2, k3, Lib.hid ?_⟩
  obtain ⟨hacc, hkp, hnc, _, hsame, e1, e1', hown⟩ := FIN.out
  generalize V.setCell ⟨gb, 0, none⟩ (.slice A' n' c') = V' at *
  have hfoot : ∀ b, Mine [s] W b → V'.heap[b]? = W.heap[b]? := fun b hb => by
    obtain ⟨_, o2, _, o4, _⟩ := h.off b hb
    exact hsame b (hs.lt b hb) o2 fun g hg e => o4 _ e1 (by rw [hg, e])
  have e2 := hfoot s h.smine
  have hvl : ∀ g, v.ownBlock = some g → ∃ cur, W.heap[g]? = some (.cells cur BTY (0, 0)) := fun g hg => (h.row.blk hg).2
  refine ⟨⟨hacc, ⟨t, (hs.kept hkp.1 hfoot).narrow.1, hm⟩, fun b hM => ?_, h.row.kept fun b hb => ?_, fun u g hu hg hv => ?_⟩, hkp, hnc⟩
  · have hM' := hM.same e2
    obtain ⟨o1, o2, o3, o4, o5⟩ := h.off b hM'
    refine ⟨o1, o2, o3, fun u hu => ?_, o5⟩
    rw [e1'] at hu
    injection hu with hu
    injection hu with hu
    injection hu with hu
    injection hu with hu
    subst hu
    intro hg
    rcases hown b hg with h1 | h1
    · exact o4 _ e1 h1
    · have := hs.lt b hM'; omega
  · obtain ⟨cur, hc⟩ := hvl b hb
    exact hsame b (Bx.lt hc) (fun e => Bx.ne_type hc e1 (by decide) e) fun g hg e => h.rowo _ g e1 hg (by rw [hb, e])
  · rw [e1'] at hu
    injection hu with hu
    injection hu with hu
    injection hu with hu
    injection hu with hu
    subst hu
    rcases hown g hg with h1 | h1
    · exact h.rowo _ g e1 h1 hv
    · obtain ⟨cur, hc⟩ := hvl g hv
      have := Bx.lt hc
      omega
/-- one that is taken away, or was gone -/
theorem EI.rem (h : EI w D gb s K v P Q pre W) (hD : D + 1 < W.heap.size) (k1 k2 k3 : Int) (hQ : ∀ t, Mem t Q → Mem (Ar.remove t (k1, k2, k3)).1 Q') :
    Calls Try.prog 23 #[.pointer (some ⟨s, 0, none⟩), .agg #[.int .i64 k1, .int .i64 k2, .int .i64 k3]] W fun e V => (∃ x, e = .returned (.bool x)) ∧ EI w D gb s K v P Q' pre V ∧ KpM [gb, s] W V ∧ V.heap[D]? = W.heap[D]? ∧ V.heap[D + 1]? = W.heap[D + 1]? ∧ W.heap.size ≤ V.heap.size := by
  obtain ⟨t, hs, hm⟩ := h.sto
  refine (remove_any hs k1 k2 k3).mono ?_
  rintro e V ⟨rfl, hc, ho⟩
  refine ⟨⟨_, rfl⟩, ?_⟩
  obtain ⟨hn, hfr⟩ := hc.narrow
  have hst : ∀ b, b < W.heap.size → ¬ Mine [s] W b → V.heap[b]? = W.heap[b]? := ho.block
  have eg : V.heap[gb]? = W.heap[gb]? := hst gb h.glt fun hM => (h.off gb hM).2.1 rfl
  have eD : V.heap[D]? = W.heap[D]? := hst D (by omega) fun hM => (h.off D hM).2.2.2.2.2.1 rfl
  have eD1 : V.heap[D + 1]? = W.heap[D + 1]? := hst (D + 1) hD fun hM => (h.off _ hM).2.2.2.2.2.2 rfl
  have hbw : Below w.heap.size w V := h.acc.bel.trans (ho.below (fun b hb => (h.off b hb).1) h.acc.bel.size)
  obtain ⟨u, e1, e2⟩ := h.acc.bl
  have hul : ∀ g, u.ownBlock = some g → V.heap[g]? = W.heap[g]? ∧ g < W.heap.size := fun g hg => by
    obtain ⟨_, cur, hcu⟩ := e2.blk hg
    exact ⟨hst g (Bx.lt hcu) fun hM => (h.off g hM).2.2.2.1 u e1 hg, Bx.lt hcu⟩
  have hvl : ∀ g, v.ownBlock = some g → V.heap[g]? = W.heap[g]? ∧ g < W.heap.size := fun g hg => by
    obtain ⟨_, cur, hcu⟩ := h.row.blk hg
    exact ⟨hst g (Bx.lt hcu) fun hM => (h.off g hM).2.2.2.2.1 hg, Bx.lt hcu⟩
  have hw := h.acc.bel.size
  refine ⟨⟨⟨hbw, h.acc.lo, ⟨u, eg.trans e1, e2.kept fun b hb => (hul b hb).1⟩, fun x hx => ?_⟩, ⟨_, hn, hQ t hm⟩, fun b hM => ?_, h.row.kept fun b hb => (hvl b hb).1, fun u' g hu' => h.rowo u' g (eg.symm.trans hu')⟩, ⟨ho.size, fun b o hb _ hnM => (hst b (Bx.lt hb) fun hM => hnM (hM.of (by simp))).trans hb, fun b hM => ?_⟩, eD, eD1, ho.size⟩
  · obtain ⟨a, b, c⟩ := h.acc.held x hx
    exact ⟨(hst x.1 (Bx.lt a) fun hM => (h.off _ hM).2.2.1 x hx rfl).trans a, b, c⟩
  · rcases hfr b hM with hb | hb
    · obtain ⟨o1, o2, o3, o4, o5⟩ := h.off b hb
      exact ⟨o1, o2, o3, fun u' hu' => o4 u' (eg.symm.trans hu'), o5⟩
    · have hgl := h.glt
      refine ⟨by omega, by omega, fun x hx e => ?_, fun u' hu' hg => ?_, fun hg => ?_, by omega, by omega⟩
      · have := Bx.lt (h.acc.held x hx).1; omega
      · rw [eg, e1] at hu'
        injection hu' with hu'
        injection hu' with hu'
        injection hu' with hu'
        injection hu' with hu'
        subst hu'
        have := (hul b hg).2; omega
      · have := (hvl b hg).2; omega
  · obtain ⟨r, hr, hM1⟩ := hM.one
    rcases List.mem_cons.1 hr with rfl | hr
    · exact .inl ((hM1.same eg).of (by simp))
    · rw [List.mem_singleton] at hr
      subst hr
      rcases hfr b hM1 with hb | hb
      · exact .inl (hb.of (by simp))
      · exact .inr hb.1
end
namespace Ar
variable {t : Tb} {y : Bn} {l : List Bn}
theorem Mem.gone (h : Mem t (y :: l)) (hy : ∀ z ∈ l, z.id ≠ y.id) : Mem (remove t y.id).1 l := by
  obtain ⟨m, i, hm, hf, hi, _⟩ := find_all h.good ((h.mem y).2 (by simp))
  have hlt := (List.getElem?_eq_some_iff.1 hi).1
  rw [remove_is hf]
  refine ⟨cut_good h.good hlt, fun z => ?_, ?_⟩
  · rw [all_cut h.good hm hi, h.mem, List.mem_cons]
    constructor
    · rintro ⟨rfl | h1, h2⟩
      · exact absurd rfl h2
      · exact h1
    · intro h1
      exact ⟨.inr h1, hy z h1⟩
  · have := total_cut (t := t) hm hlt
    have h2 := h.tot
    simp only [List.length_cons] at h2
    show total (cut0 t m i) = l.length
    omega
theorem Mem.empty (h : Mem t []) (k : NK) : Mem (remove t k).1 [] := by
  rw [remove_no (none_of h.good fun z hz => by have := (h.mem z).1 hz; cases this)]
  exact h
end Ar
end Go.Proofs.Ytgmgenggboicnaa
