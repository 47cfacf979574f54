/- The code's store, and whatever holds of a world as long as only the store's blocks turn. -/
import Derived.Test.YteohkbepefjjlaaKTwo
import Derived.Test.YteohkbepefjjlaaKArCopy
namespace Go.Proofs.Yteohkbepefjjlaa
open Go.RowKit Pz Ar
set_option linter.unusedVariables false
set_option linter.unusedSimpArgs false

def PX (w : World) (s : Nat) (t : Tb) (Φ : World → Prop) (W : World) : Prop :=
  Below w.heap.size w W ∧ ∃ F : Foot, CS F s t W ∧ (∀ b, F b → w.heap.size ≤ b) ∧ ∀ V : World, (∀ b, b < W.heap.size → ¬ F b → V.heap[b]? = W.heap[b]?) → Φ V
section
variable {w W V : World} {s : Nat} {t t' : Tb} {Φ Ψ : World → Prop}
theorem P1.px (h : P1 w s t [] W) : PX w s t (fun _ => True) W := by
  obtain ⟨h0, F, h1, h4, h5⟩ := h
  exact ⟨h0, F, h1, h4, fun _ _ => trivial⟩
theorem PX.one (h : PX w s t Φ W) : P1 w s t [] W := by
  obtain ⟨h0, F, h1, h4, h5⟩ := h
  exact ⟨h0, F, h1, h4, fun x hx => by cases hx⟩
theorem PX.bel (h : PX w s t Φ W) : Below w.heap.size w W := h.1
theorem PX.is (h : PX w s t Φ W) : Φ W := by
  obtain ⟨h0, F, h1, h4, h5⟩ := h
  exact h5 W fun _ _ _ => rfl
theorem PX.imp (h : PX w s t Φ W) (hi : ∀ V, Φ V → Ψ V) : PX w s t Ψ W := by
  obtain ⟨h0, F, h1, h4, h5⟩ := h
  exact ⟨h0, F, h1, h4, fun V hV => hi V (h5 V hV)⟩
theorem PX.below (h : PX w s t Φ W) (hb : Below W.heap.size W V) : PX w s t Φ V := by
  obtain ⟨h0, F, h1, h4, h5⟩ := h
  exact ⟨h0.trans (hb.mono h0.size), F, h1.below hb, h4, fun U hU => h5 U fun b hl hn => (hU b (Nat.lt_of_lt_of_le hl hb.size) hn).trans (hb.block b hl)⟩
theorem PX.turn {F : Foot} (h0 : Below w.heap.size w W) (h1 : CS F s t W) (h4 : ∀ b, F b → w.heap.size ≤ b) (h5 : ∀ V : World, (∀ b, b < W.heap.size → ¬ F b → V.heap[b]? = W.heap[b]?) → Φ V)
    (hr : CS (Gr F W.heap.size V.heap.size) s t' V) (hO : Only F W V) : PX w s t' Φ V := by
  have hb := hO.below (B := w.heap.size) (fun b hb => h4 b hb) h0.size
  refine ⟨⟨hb.os.trans h0.os, hb.tape.trans h0.tape, hb.output.trans h0.output, Nat.le_trans h0.size hb.size, fun k hk => (hb.block k hk).trans (h0.block k hk)⟩, _, hr, fun b hb' => ?_, fun U hU => h5 U fun b hl hn => ?_⟩
  · rcases hb' with hb' | hb'
    · exact h4 b hb'
    · have := h0.size; omega
  · refine (hU b (Nat.lt_of_lt_of_le hl hO.size) ?_).trans (hO.block b hl hn)
    rintro (hf | hf)
    · exact hn hf
    · omega
theorem PX.write (h : PX w s t Φ W) (b : Bn) {n : Nat} (hl : Le t n) (hn : n < 100000) {x : Int} (e : Ar.write t b = (t', x)) : Calls Try.prog 26 #[.pointer (some ⟨s, 0, none⟩), b.val] W fun e V => e = .returned (.int .i64 x) ∧ PX w s t' Φ V := by
  obtain ⟨h0, F, h1, h4, h5⟩ := h
  refine (cwrite_any h1 b (fun m => by have := hl m; omega)).mono fun e' V ⟨e1, e2, e3⟩ => ?_
  rw [e] at e1 e2
  exact ⟨e1, PX.turn h0 h1 h4 h5 e2 e3⟩
theorem PX.remove (h : PX w s t Φ W) (k1 k2 k3 : Int) {x : Bool} (e : Ar.remove t (k1, k2, k3) = (t', x)) : Calls Try.prog 24 #[.pointer (some ⟨s, 0, none⟩), .agg #[.int .i64 k1, .int .i64 k2, .int .i64 k3]] W fun e V => e = .returned (.bool x) ∧ PX w s t' Φ V := by
  obtain ⟨h0, F, h1, h4, h5⟩ := h
  refine (remove_any h1 k1 k2 k3).mono fun e' V ⟨e1, e2, e3⟩ => ?_
  rw [e] at e1 e2
  exact ⟨e1, PX.turn h0 h1 h4 h5 e2 e3⟩
theorem PX.box (h : PX w s t Φ W) (o : Obj) : PX w s t (fun V => Φ V ∧ V.heap[W.heap.size]? = some o) (W.alloc o) := by
  obtain ⟨h0, F, h1, h4, h5⟩ := h
  have hb := bel1 W o
  exact ⟨h0.trans (hb.mono h0.size), F, h1.below hb, h4, fun U hU => ⟨h5 U fun b hl hn => (hU b (Nat.lt_of_lt_of_le hl hb.size) hn).trans (hb.block b hl), (hU _ (Bx.lt (at1 W o)) fun hf => Nat.lt_irrefl _ (h1.lt _ hf)).trans (at1 W o)⟩⟩
theorem PX.all (h : PX w s t Φ W) (most : Nat) (hm : most ≤ 100000) (hl : total t ≤ 100000) : Calls Try.prog 23 #[.pointer (some ⟨s, 0, none⟩), .int .i64 (most : Int)] W fun e V => ∃ A c, e = .returned (.slice A ((all t).take most).length c) ∧ PX w s t (fun V => Φ V ∧ OwnB V W.heap.size (.slice A ((all t).take most).length c) ((all t).take most)) V := by
  obtain ⟨h0, F, h1, h4, h5⟩ := h
  refine (all_any h1 most hm hl).mono ?_
  rintro e V ⟨A, c, rfl, ho, hb⟩
  refine ⟨A, c, rfl, h0.trans (hb.mono h0.size), F, h1.below hb, h4, fun U hU => ⟨h5 U fun b hl hn => (hU b (Nat.lt_of_lt_of_le hl hb.size) hn).trans (hb.block b hl), ho.kept fun g hg => ?_⟩⟩
  obtain ⟨hB, cur, hc⟩ := ho.blk hg
  exact hU g (Bx.lt hc) fun hf => by have := h1.lt g hf; omega
theorem PX.tables (h : PX w s t Φ W) : Calls Try.prog 19 #[.pointer (some ⟨s, 0, none⟩)] W fun e V => ∃ A' c', e = .returned (.slice A' (tabs t).length c') ∧ PX w s t (fun V => Φ V ∧ TabsAt V W.heap.size (.slice A' (tabs t).length c') (tabs t)) V := by
  obtain ⟨h0, F, h1, h4, h5⟩ := h
  refine (tables_any h1).mono ?_
  rintro e V ⟨A, c, rfl, ho, hb⟩
  exact ⟨A, c, rfl, h0.trans (hb.mono h0.size), F, h1.below hb, h4, fun U hU => ⟨h5 U fun b hl hn => (hU b (Nat.lt_of_lt_of_le hl hb.size) hn).trans (hb.block b hl), ho.kept fun b hB hl => hU b hl fun hf => by have := h1.lt b hf; omega⟩⟩
theorem PX.get (h : PX w s t Φ W) (k1 k2 k3 : Int) : Calls Try.prog 15 #[.pointer (some ⟨s, 0, none⟩), .agg #[.int .i64 k1, .int .i64 k2, .int .i64 k3]] W fun e V => e = .returned (cgetV t (k1, k2, k3)) ∧ PX w s t Φ V := by
  obtain ⟨F, hC⟩ := h.one.cs
  exact (get_any hC k1 k2 k3).mono fun e V ⟨e1, e2⟩ => ⟨e1, h.below e2⟩
theorem PX.row (h : PX w s t Φ W) (k1 k2 k3 : Int) : Calls Try.prog 20 #[.pointer (some ⟨s, 0, none⟩), .agg #[.int .i64 k1, .int .i64 k2, .int .i64 k3]] W fun e V => e = .returned (Ar.rowV (Ar.find t (k1, k2, k3))) ∧ PX w s t Φ V := by
  obtain ⟨F, hC⟩ := h.one.cs
  exact (row_any hC k1 k2 k3).mono fun e V ⟨e1, e2⟩ => ⟨e1, h.below e2⟩
theorem PX.len (h : PX w s t Φ W) : Calls Try.prog 22 #[.pointer (some ⟨s, 0, none⟩)] W fun e V => e = .returned (.int .i64 (total t : Int)) ∧ W = V := h.one.len
end
end Go.Proofs.Yteohkbepefjjlaa
