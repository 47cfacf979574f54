/- ArTwo, ArOne, ArHb, in one text. -/
import Derived.Test.YteollbioeamciaaKSeq
import Derived.Test.YteollbioeamciaaKTab
import Derived.Test.YteollbioeamciaaKPz
namespace Go.Proofs.Yteollbioeamciaa
open Go.RowKit Pz Ar
set_option linter.unusedVariables false
set_option linter.unusedSimpArgs false

namespace Bx
theorem b12 {W : World} {b T : Nat} {v0 v1 v2 v3 v4 v5 v6 v7 v8 v9 v10 v11 : Value} (h : W.heap[b]? = some (.cells #[v0, v1, v2, v3, v4, v5, v6, v7, v8, v9, v10, v11] T (0, 0))) : (W.cell? ⟨b, 0, none⟩ = some v0 ∧ W.cell? ⟨b, 1, none⟩ = some v1 ∧ W.cell? ⟨b, 2, none⟩ = some v2 ∧ W.cell? ⟨b, 3, none⟩ = some v3 ∧ W.cell? ⟨b, 4, none⟩ = some v4 ∧ W.cell? ⟨b, 5, none⟩ = some v5 ∧ W.cell? ⟨b, 6, none⟩ = some v6 ∧ W.cell? ⟨b, 7, none⟩ = some v7 ∧ W.cell? ⟨b, 8, none⟩ = some v8 ∧ W.cell? ⟨b, 9, none⟩ = some v9 ∧ W.cell? ⟨b, 10, none⟩ = some v10 ∧ W.cell? ⟨b, 11, none⟩ = some v11) ∧ (W.frozen? ⟨b, 0, none⟩ = false ∧ W.frozen? ⟨b, 1, none⟩ = false ∧ W.frozen? ⟨b, 2, none⟩ = false ∧ W.frozen? ⟨b, 3, none⟩ = false ∧ W.frozen? ⟨b, 4, none⟩ = false ∧ W.frozen? ⟨b, 5, none⟩ = false ∧ W.frozen? ⟨b, 6, none⟩ = false ∧ W.frozen? ⟨b, 7, none⟩ = false ∧ W.frozen? ⟨b, 8, none⟩ = false ∧ W.frozen? ⟨b, 9, none⟩ = false ∧ W.frozen? ⟨b, 10, none⟩ = false ∧ W.frozen? ⟨b, 11, none⟩ = false) :=
  ⟨⟨(cell h (o := 0) rfl).1, (cell h (o := 1) rfl).1, (cell h (o := 2) rfl).1, (cell h (o := 3) rfl).1, (cell h (o := 4) rfl).1, (cell h (o := 5) rfl).1, (cell h (o := 6) rfl).1, (cell h (o := 7) rfl).1, (cell h (o := 8) rfl).1, (cell h (o := 9) rfl).1, (cell h (o := 10) rfl).1, (cell h (o := 11) rfl).1⟩, ⟨(cell h (o := 0) rfl).2, (cell h (o := 1) rfl).2, (cell h (o := 2) rfl).2, (cell h (o := 3) rfl).2, (cell h (o := 4) rfl).2, (cell h (o := 5) rfl).2, (cell h (o := 6) rfl).2, (cell h (o := 7) rfl).2, (cell h (o := 8) rfl).2, (cell h (o := 9) rfl).2, (cell h (o := 10) rfl).2, (cell h (o := 11) rfl).2⟩⟩
end Bx
namespace Ar
theorem sum_mono (f g : Nat → Nat) (h : ∀ a, f a ≤ g a) : ∀ l : List Nat, (l.map f).sum ≤ (l.map g).sum
  | [] => Nat.le_refl _
  | a :: l => by
    rw [List.map_cons, List.map_cons, List.sum_cons, List.sum_cons]
    have := h a
    have := sum_mono f g h l
    omega
/-- no table longer than that -/
def Le (t : Tb) (n : Nat) : Prop := ∀ m, (t m).length ≤ n
theorem Le.mono {t : Tb} {n n' : Nat} (h : Le t n) (hn : n ≤ n') : Le t n' := fun m => Nat.le_trans (h m) hn
theorem le_up {t : Tb} {n m : Nat} {l : List Bn} (h : Le t n) (hl : l.length ≤ n) : Le (up t m l) n := fun a => by
  unfold up; split; exact hl; exact h a
theorem le_put0 {t : Tb} {n : Nat} (h : Le t n) (b : Bn) : Le (put0 t b) (n + 1) := le_up (h.mono (Nat.le_succ n)) (by have := h b.m.toNat; simp; omega)
theorem le_cut0 {t : Tb} {n m i : Nat} (h : Le t n) : Le (cut0 t m i) n := le_up h (by have := h m; rw [cutL_len]; omega)
theorem le_put {t : Tb} {n : Nat} (h : Le t n) (b : Bn) : Le (put t b).1 (n + 1) := by
  unfold put; split
  · split; exact h.mono (Nat.le_succ n); exact le_put0 h b
  · exact h.mono (Nat.le_succ n)
theorem le_write {t : Tb} {n : Nat} (h : Le t n) (b : Bn) : Le (write t b).1 (n + 1) := by
  unfold write; split
  · split
    · exact h.mono (Nat.le_succ n)
    · split
      · rename_i m i _ _
        exact le_up (h.mono (Nat.le_succ n)) (by rw [List.length_set]; have := h m; omega)
      · exact le_put0 (le_cut0 h) b
  · exact h.mono (Nat.le_succ n)
theorem le_remove {t : Tb} {n : Nat} (h : Le t n) (k : NK) : Le (remove t k).1 n := by
  unfold remove; split; exact h; exact le_cut0 h
theorem le_total {t : Tb} {n : Nat} (h : Le t n) : total t ≤ 32 * n := by
  have := sum_mono (fun m => (t m).length) (fun _ => n) h (List.range 32)
  have e : ∀ l : List Nat, (l.map (fun _ => n)).sum = l.length * n := fun l => by
    induction l with
    | nil => simp
    | cons a l ih => rw [List.map_cons, List.sum_cons, ih, List.length_cons, Nat.succ_mul, Nat.add_comm]
  rw [e, List.length_range] at this
  exact this
theorem le_none : Le (fun _ => []) 0 := fun _ => Nat.le_refl _
end Ar
/-- both stores, and blocks that are held -/
def P2 (w : World) (s r : Nat) (t u : Tb) (K : List (Nat × Obj)) (W : World) : Prop :=
  Below w.heap.size w W ∧ ∃ F G : Foot, CS F s t W ∧ RS G r u W ∧ (∀ b, F b → ¬ G b) ∧ (∀ b, F b ∨ G b → w.heap.size ≤ b) ∧ ∀ x ∈ K, W.heap[x.1]? = some x.2 ∧ ¬ F x.1 ∧ ¬ G x.1
section
variable {w W V : World} {s r : Nat} {t u t' u' : Tb} {K : List (Nat × Obj)}
theorem P2.bel (h : P2 w s r t u K W) : Below w.heap.size w W := h.1
theorem P2.below (h : P2 w s r t u K W) (hb : Below W.heap.size W V) : P2 w s r t u K V := by
  obtain ⟨h0, F, G, h1, h2, h3, h4, h5⟩ := h
  exact ⟨h0.trans (hb.mono h0.size), F, G, h1.below hb, h2.below hb, h3, h4, fun x hx => ⟨(hb.block _ (Bx.lt (h5 x hx).1)).trans (h5 x hx).1, (h5 x hx).2⟩⟩
theorem P2.drew (h : P2 w s r t u K W) : P2 w s r t u K W.drew := h.below (Below.refl _ _).drew
theorem P2.hold (h : P2 w s r t u K W) (o : Obj) : P2 w s r t u ((W.heap.size, o) :: K) (W.alloc o) := by
  obtain ⟨h0, F, G, h1, h2, h3, h4, h5⟩ := h.below (bel1 W o)
  obtain ⟨_, F', G', h1', h2', h3', h4', h5'⟩ := h
  refine ⟨h0, F', G', h1'.below (bel1 W o), h2'.below (bel1 W o), h3', h4', fun x hx => ?_⟩
  rcases List.mem_cons.1 hx with rfl | hx
  · exact ⟨at1 W o, fun e => Nat.lt_irrefl _ (h1'.lt _ e), fun e => Nat.lt_irrefl _ (h2'.lt _ e)⟩
  · exact ⟨((bel1 W o).block _ (Bx.lt (h5' x hx).1)).trans (h5' x hx).1, (h5' x hx).2⟩
theorem P2.drop {x : Nat × Obj} (h : P2 w s r t u (x :: K) W) : P2 w s r t u K W := by
  obtain ⟨h0, F, G, h1, h2, h3, h4, h5⟩ := h
  exact ⟨h0, F, G, h1, h2, h3, h4, fun y hy => h5 y (List.mem_cons_of_mem _ hy)⟩
theorem P2.held {x : Nat × Obj} (h : P2 w s r t u K W) (hx : x ∈ K) : W.heap[x.1]? = some x.2 := by
  obtain ⟨h0, F, G, h1, h2, h3, h4, h5⟩ := h
  exact (h5 x hx).1
theorem P2.rebase {w0 : World} (h : P2 w s r t u K W) (h0 : Below w0.heap.size w0 w) : P2 w0 s r t u K W := by
  obtain ⟨hb, F, G, h1, h2, h3, h4, h5⟩ := h
  exact ⟨h0.trans (hb.mono h0.size), F, G, h1, h2, h3, fun b hb' => Nat.le_trans h0.size (h4 b hb'), h5⟩
/-- what was there ahead of w is left alone: any change between -/
theorem P2.left {F G : Foot} (h0 : Below w.heap.size w W) (h1 : CS F s t W) (h2 : RS G r u W) (h3 : ∀ b, F b → ¬ G b) (h4 : ∀ b, F b ∨ G b → w.heap.size ≤ b) (h5 : ∀ x ∈ K, W.heap[x.1]? = some x.2 ∧ ¬ F x.1 ∧ ¬ G x.1)
    (hr : CS (Gr F W.heap.size V.heap.size) s t' V) (hO : Only F W V) : P2 w s r t' u K V := by
  have hb := hO.below (B := w.heap.size) (fun b hb => h4 b (.inl hb)) h0.size
  refine ⟨⟨hb.os.trans h0.os, hb.tape.trans h0.tape, hb.output.trans h0.output, Nat.le_trans h0.size hb.size, fun k hk => (hb.block k hk).trans (h0.block k hk)⟩, _, G, hr, h2.other hO (fun b hg hf => h3 b hf hg), fun b hf hg => ?_, fun b hb' => ?_, fun x hx => ?_⟩
  · rcases hf with hf | hf
    · exact h3 b hf hg
    · have := h2.lt b hg; omega
  · rcases hb' with (hb' | hb') | hb'
    · exact h4 b (.inl hb')
    · have := h0.size; omega
    · exact h4 b (.inr hb')
  · obtain ⟨e1, e2, e3⟩ := h5 x hx
    refine ⟨(hO.block _ (Bx.lt e1) e2).trans e1, ?_, e3⟩
    rintro (hf | hf)
    · exact e2 hf
    · have := Bx.lt e1; omega
theorem P2.right {F G : Foot} (h0 : Below w.heap.size w W) (h1 : CS F s t W) (h2 : RS G r u W) (h3 : ∀ b, F b → ¬ G b) (h4 : ∀ b, F b ∨ G b → w.heap.size ≤ b) (h5 : ∀ x ∈ K, W.heap[x.1]? = some x.2 ∧ ¬ F x.1 ∧ ¬ G x.1)
    (hr : RS (Gr G W.heap.size V.heap.size) r u' V) (hO : Only G W V) : P2 w s r t u' K V := by
  have hb := hO.below (B := w.heap.size) (fun b hb => h4 b (.inr hb)) h0.size
  refine ⟨⟨hb.os.trans h0.os, hb.tape.trans h0.tape, hb.output.trans h0.output, Nat.le_trans h0.size hb.size, fun k hk => (hb.block k hk).trans (h0.block k hk)⟩, F, _, h1.other hO h3, hr, fun b hf hg => ?_, fun b hb' => ?_, fun x hx => ?_⟩
  · rcases hg with hg | hg
    · exact h3 b hf hg
    · have := h1.lt b hf; omega
  · rcases hb' with hb' | hb' | hb'
    · exact h4 b (.inl hb')
    · exact h4 b (.inr hb')
    · have := h0.size; omega
  · obtain ⟨e1, e2, e3⟩ := h5 x hx
    refine ⟨(hO.block _ (Bx.lt e1) e3).trans e1, e2, ?_⟩
    rintro (hf | hf)
    · exact e3 hf
    · have := Bx.lt e1; omega
theorem P2.putL (h : P2 w s r t u K W) (b : Bn) {n : Nat} (hl : Le t n) (hn : n < 100000) : Calls Try.prog 28 #[.pointer (some ⟨s, 0, none⟩), b.val] W fun e V => e = .returned (.int .i64 (Ar.put t b).2) ∧ P2 w s r (Ar.put t b).1 u K V := by
  obtain ⟨h0, F, G, h1, h2, h3, h4, h5⟩ := h
  exact (cput_any h1 b (fun m => by have := hl m; omega)).mono fun e V ⟨e1, e2, e3⟩ => ⟨e1, P2.left h0 h1 h2 h3 h4 h5 e2 e3⟩
theorem P2.writeL (h : P2 w s r t u K W) (b : Bn) {n : Nat} (hl : Le t n) (hn : n < 100000) : Calls Try.prog 46 #[.pointer (some ⟨s, 0, none⟩), b.val] W fun e V => e = .returned (.int .i64 (Ar.write t b).2) ∧ P2 w s r (Ar.write t b).1 u K V := by
  obtain ⟨h0, F, G, h1, h2, h3, h4, h5⟩ := h
  exact (cwrite_any h1 b (fun m => by have := hl m; omega)).mono fun e V ⟨e1, e2, e3⟩ => ⟨e1, P2.left h0 h1 h2 h3 h4 h5 e2 e3⟩
theorem P2.removeL (h : P2 w s r t u K W) (k1 k2 k3 : Int) : Calls Try.prog 49 #[.pointer (some ⟨s, 0, none⟩), .agg #[.int .i64 k1, .int .i64 k2, .int .i64 k3]] W fun e V => e = .returned (.bool (Ar.remove t (k1, k2, k3)).2) ∧ P2 w s r (Ar.remove t (k1, k2, k3)).1 u K V := by
  obtain ⟨h0, F, G, h1, h2, h3, h4, h5⟩ := h
  exact (remove_any h1 k1 k2 k3).mono fun e V ⟨e1, e2, e3⟩ => ⟨e1, P2.left h0 h1 h2 h3 h4 h5 e2 e3⟩
theorem P2.putR (h : P2 w s r t u K W) (b : Bn) (hf : Fit b.m) {n : Nat} (hl : Le u n) (hn : n < 100000) : Calls Try.prog 30 #[.pointer (some ⟨r, 0, none⟩), b.val] W fun e V => e = .returned (.int .i64 (Ar.put u b).2) ∧ P2 w s r t (Ar.put u b).1 K V := by
  obtain ⟨h0, F, G, h1, h2, h3, h4, h5⟩ := h
  exact (rPut_any h2 b hf (fun m => by have := hl m; omega)).mono fun e V ⟨e1, e2, e3⟩ => ⟨e1, P2.right h0 h1 h2 h3 h4 h5 e2 e3⟩
theorem P2.writeR (h : P2 w s r t u K W) (b : Bn) (hf : Fit b.m) {n : Nat} (hl : Le u n) (hn : n < 100000) : Calls Try.prog 33 #[.pointer (some ⟨r, 0, none⟩), b.val] W fun e V => e = .returned (.int .i64 (Ar.write u b).2) ∧ P2 w s r t (Ar.write u b).1 K V := by
  obtain ⟨h0, F, G, h1, h2, h3, h4, h5⟩ := h
  exact (rWrite_any h2 b hf (fun m => by have := hl m; omega)).mono fun e V ⟨e1, e2, e3⟩ => ⟨e1, P2.right h0 h1 h2 h3 h4 h5 e2 e3⟩
theorem P2.removeR (h : P2 w s r t u K W) (k1 k2 k3 : Int) : Calls Try.prog 32 #[.pointer (some ⟨r, 0, none⟩), .agg #[.int .i64 k1, .int .i64 k2, .int .i64 k3]] W fun e V => e = .returned (.bool (Ar.remove u (k1, k2, k3)).2) ∧ P2 w s r t (Ar.remove u (k1, k2, k3)).1 K V := by
  obtain ⟨h0, F, G, h1, h2, h3, h4, h5⟩ := h
  exact (rRemove_any h2 k1 k2 k3).mono fun e V ⟨e1, e2, e3⟩ => ⟨e1, P2.right h0 h1 h2 h3 h4 h5 e2 e3⟩
theorem P2.cs (h : P2 w s r t u K W) : ∃ F, CS F s t W := by obtain ⟨h0, F, G, h1, _⟩ := h; exact ⟨F, h1⟩
theorem P2.rs (h : P2 w s r t u K W) : ∃ G, RS G r u W := by obtain ⟨h0, F, G, h1, h2, _⟩ := h; exact ⟨G, h2⟩
theorem P2.good (h : P2 w s r t u K W) : Ar.Good t := by obtain ⟨F, hC⟩ := h.cs; exact hC.good
end
end Go.Proofs.Yteollbioeamciaa
namespace Go.Proofs.Yteollbioeamciaa
open Go.RowKit Pz Ar
set_option linter.unusedVariables false
set_option linter.unusedSimpArgs false

theorem rs_new (w : World) : RS (Gr Foot.no w.heap.size (w.heap.size + 1)) w.heap.size (fun _ => []) (w.alloc (.cells (Array.replicate 32 (.slice none 0 0)) ST)) := by
  refine ⟨⟨_, at1 w _, by simp, tabs_none fun m hm => by simp [hm]⟩, .inr ⟨Nat.le_refl _, Nat.lt_succ_self _⟩, fun b hb => ?_⟩
  rw [size1]
  rcases hb with hb | hb
  · cases hb
  · exact hb.2
/-- the code's store, and blocks that are held -/
def P1 (w : World) (s : Nat) (t : Tb) (K : List (Nat × Obj)) (W : World) : Prop :=
  Below w.heap.size w W ∧ ∃ F : Foot, CS F s t W ∧ (∀ b, F b → w.heap.size ≤ b) ∧ ∀ x ∈ K, W.heap[x.1]? = some x.2 ∧ ¬ F x.1
section
variable {w W V : World} {s r : Nat} {t u t' : Tb} {K : List (Nat × Obj)}
theorem P1.bel (h : P1 w s t K W) : Below w.heap.size w W := h.1
theorem P1.below (h : P1 w s t K W) (hb : Below W.heap.size W V) : P1 w s t K V := by
  obtain ⟨h0, F, h1, h4, h5⟩ := h
  exact ⟨h0.trans (hb.mono h0.size), F, h1.below hb, h4, fun x hx => ⟨(hb.block _ (Bx.lt (h5 x hx).1)).trans (h5 x hx).1, (h5 x hx).2⟩⟩
theorem P1.hold (h : P1 w s t K W) (o : Obj) : P1 w s t ((W.heap.size, o) :: K) (W.alloc o) := by
  obtain ⟨h0, F, h1, h4, h5⟩ := h
  have hb := bel1 W o
  refine ⟨h0.trans (hb.mono h0.size), F, h1.below hb, h4, fun x hx => ?_⟩
  rcases List.mem_cons.1 hx with rfl | hx
  · exact ⟨at1 W o, fun e => Nat.lt_irrefl _ (h1.lt _ e)⟩
  · exact ⟨(hb.block _ (Bx.lt (h5 x hx).1)).trans (h5 x hx).1, (h5 x hx).2⟩
theorem P1.drop {x : Nat × Obj} (h : P1 w s t (x :: K) W) : P1 w s t K W := by
  obtain ⟨h0, F, h1, h4, h5⟩ := h
  exact ⟨h0, F, h1, h4, fun y hy => h5 y (List.mem_cons_of_mem _ hy)⟩
theorem P1.held {x : Nat × Obj} (h : P1 w s t K W) (hx : x ∈ K) : W.heap[x.1]? = some x.2 := by
  obtain ⟨h0, F, h1, h4, h5⟩ := h
  exact (h5 x hx).1
theorem P1.rebase {w0 : World} (h : P1 w s t K W) (h0 : Below w0.heap.size w0 w) : P1 w0 s t K W := by
  obtain ⟨hb, F, h1, h4, h5⟩ := h
  exact ⟨h0.trans (hb.mono h0.size), F, h1, fun b hb' => Nat.le_trans h0.size (h4 b hb'), h5⟩
theorem P1.left {F : Foot} (h0 : Below w.heap.size w W) (h1 : CS F s t W) (h4 : ∀ b, F b → w.heap.size ≤ b) (h5 : ∀ x ∈ K, W.heap[x.1]? = some x.2 ∧ ¬ F x.1)
    (hr : CS (Gr F W.heap.size V.heap.size) s t' V) (hO : Only F W V) : P1 w s t' K V := by
  have hb := hO.below (B := w.heap.size) (fun b hb => h4 b hb) h0.size
  refine ⟨⟨hb.os.trans h0.os, hb.tape.trans h0.tape, hb.output.trans h0.output, Nat.le_trans h0.size hb.size, fun k hk => (hb.block k hk).trans (h0.block k hk)⟩, _, hr, fun b hb' => ?_, fun x hx => ?_⟩
  · rcases hb' with hb' | hb'
    · exact h4 b hb'
    · have := h0.size; omega
  · obtain ⟨e1, e2⟩ := h5 x hx
    refine ⟨(hO.block _ (Bx.lt e1) e2).trans e1, ?_⟩
    rintro (hf | hf)
    · exact e2 hf
    · have := Bx.lt e1; omega
theorem P1.put (h : P1 w s t K W) (b : Bn) {n : Nat} (hl : Le t n) (hn : n < 100000) : Calls Try.prog 28 #[.pointer (some ⟨s, 0, none⟩), b.val] W fun e V => e = .returned (.int .i64 (Ar.put t b).2) ∧ P1 w s (Ar.put t b).1 K V := by
  obtain ⟨h0, F, h1, h4, h5⟩ := h
  exact (cput_any h1 b (fun m => by have := hl m; omega)).mono fun e V ⟨e1, e2, e3⟩ => ⟨e1, P1.left h0 h1 h4 h5 e2 e3⟩
theorem P1.write (h : P1 w s t K W) (b : Bn) {n : Nat} (hl : Le t n) (hn : n < 100000) : Calls Try.prog 46 #[.pointer (some ⟨s, 0, none⟩), b.val] W fun e V => e = .returned (.int .i64 (Ar.write t b).2) ∧ P1 w s (Ar.write t b).1 K V := by
  obtain ⟨h0, F, h1, h4, h5⟩ := h
  exact (cwrite_any h1 b (fun m => by have := hl m; omega)).mono fun e V ⟨e1, e2, e3⟩ => ⟨e1, P1.left h0 h1 h4 h5 e2 e3⟩
theorem P1.remove (h : P1 w s t K W) (k1 k2 k3 : Int) : Calls Try.prog 49 #[.pointer (some ⟨s, 0, none⟩), .agg #[.int .i64 k1, .int .i64 k2, .int .i64 k3]] W fun e V => e = .returned (.bool (Ar.remove t (k1, k2, k3)).2) ∧ P1 w s (Ar.remove t (k1, k2, k3)).1 K V := by
  obtain ⟨h0, F, h1, h4, h5⟩ := h
  exact (remove_any h1 k1 k2 k3).mono fun e V ⟨e1, e2, e3⟩ => ⟨e1, P1.left h0 h1 h4 h5 e2 e3⟩
theorem P1.cs (h : P1 w s t K W) : ∃ F, CS F s t W := by obtain ⟨h0, F, h1, _⟩ := h; exact ⟨F, h1⟩
theorem P1.good (h : P1 w s t K W) : Ar.Good t := by obtain ⟨F, hC⟩ := h.cs; exact hC.good
theorem P1.row (h : P1 w s t K W) (k1 k2 k3 : Int) : Calls Try.prog 39 #[.pointer (some ⟨s, 0, none⟩), .agg #[.int .i64 k1, .int .i64 k2, .int .i64 k3]] W fun e V => e = .returned (Ar.rowV (Ar.find t (k1, k2, k3))) ∧ P1 w s t K V := by
  obtain ⟨F, hC⟩ := h.cs
  exact (row_any hC k1 k2 k3).mono fun e V ⟨e1, e2⟩ => ⟨e1, h.below e2⟩
theorem P1.get (h : P1 w s t K W) (k1 k2 k3 : Int) : Calls Try.prog 25 #[.pointer (some ⟨s, 0, none⟩), .agg #[.int .i64 k1, .int .i64 k2, .int .i64 k3]] W fun e V => e = .returned (Ar.cgetV t (k1, k2, k3)) ∧ P1 w s t K V := by
  obtain ⟨F, hC⟩ := h.cs
  exact (get_any hC k1 k2 k3).mono fun e V ⟨e1, e2⟩ => ⟨e1, h.below e2⟩
theorem P1.len (h : P1 w s t K W) : Calls Try.prog 24 #[.pointer (some ⟨s, 0, none⟩)] W fun e V => e = .returned (.int .i64 (total t : Int)) ∧ W = V := by
  obtain ⟨F, hC⟩ := h.cs
  exact len_any hC
theorem P1.tables (h : P1 w s t K W) : Calls Try.prog 37 #[.pointer (some ⟨s, 0, none⟩)] W fun e V => ∃ A' c', e = .returned (.slice A' (tabs t).length c') ∧ TabsAt V W.heap.size (.slice A' (tabs t).length c') (tabs t) ∧ Below W.heap.size W V := by
  obtain ⟨F, hC⟩ := h.cs
  exact tables_any hC
theorem p1_new (w : World) : Calls Try.prog 9 #[] w fun e w' => e = .returned (.pointer (some ⟨w.heap.size, 0, none⟩)) ∧ P1 w w.heap.size (fun _ => []) [] w' :=
  (new_any w).mono fun e V ⟨e1, e2, e3⟩ => ⟨e1, e3, _, e2, fun b hb => by rcases hb with hb | hb; exact hb.elim; exact hb.1, fun x hx => by cases hx⟩
/-- a document's store beside it, new -/
theorem P1.two (h : P1 w s t K W) : P2 w s W.heap.size t (fun _ => []) K (W.alloc (.cells (Array.replicate 32 (.slice none 0 0)) ST)) := by
  have hb := bel1 W (.cells (Array.replicate 32 (.slice none 0 0)) ST)
  obtain ⟨h0, F, h1, h4, h5⟩ := h
  refine ⟨h0.trans (hb.mono h0.size), F, _, h1.below hb, rs_new W, fun b hf hg => ?_, fun b hb' => ?_, fun x hx => ⟨(hb.block _ (Bx.lt (h5 x hx).1)).trans (h5 x hx).1, (h5 x hx).2, ?_⟩⟩
  · rcases hg with hg | hg
    · exact hg
    · have := h1.lt b hf; omega
  · rcases hb' with hb' | hb' | hb'
    · exact h4 b hb'
    · exact hb'.elim
    · have := h0.size; omega
  · rintro (hg | hg)
    · exact hg
    · have := Bx.lt (h5 x hx).1; omega
theorem P2.one (h : P2 w s r t u K W) : P1 w s t K W := by
  obtain ⟨h0, F, G, h1, h2, h3, h4, h5⟩ := h
  exact ⟨h0, F, h1, fun b hb => h4 b (.inl hb), fun x hx => ⟨(h5 x hx).1, (h5 x hx).2.1⟩⟩
end
end Go.Proofs.Yteollbioeamciaa
namespace Go.Proofs.Yteollbioeamciaa
open Go.RowKit
set_option linter.unusedVariables false

/-- blocks that are held -/
def Hb (w : World) (K : List (Nat × Obj)) (W : World) : Prop := Below w.heap.size w W ∧ ∀ x ∈ K, W.heap[x.1]? = some x.2
section
variable {w W V : World} {K : List (Nat × Obj)}
theorem Hb.below (h : Hb w K W) (hb : Below W.heap.size W V) : Hb w K V := ⟨h.1.trans (hb.mono h.1.size), fun x hx => (hb.block _ (Bx.lt (h.2 x hx))).trans (h.2 x hx)⟩
theorem Hb.hold (h : Hb w K W) (o : Obj) : Hb w ((W.heap.size, o) :: K) (W.alloc o) := ⟨(h.below (bel1 W o)).1, fun x hx => by
  rcases List.mem_cons.1 hx with rfl | hx
  · exact at1 W o
  · exact (h.below (bel1 W o)).2 x hx⟩
theorem Hb.held {x : Nat × Obj} (h : Hb w K W) (hx : x ∈ K) : W.heap[x.1]? = some x.2 := h.2 x hx
theorem hb_new (w : World) : Hb w [] w := ⟨Below.refl _ _, fun x hx => by cases hx⟩
end
end Go.Proofs.Yteollbioeamciaa
