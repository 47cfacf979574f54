/- BuSep, BuDoP, BuCode, in one text. -/
import Derived.Test.YteollbioeamciaaKBuB
import Derived.Test.YteollbioeamciaaKAlk
import Derived.Deep.DeepCutAuto
namespace Go.Proofs.Yteollbioeamciaa
open Go.RowKit Pz Ar Bu
set_option linter.unusedVariables false
set_option linter.unusedSimpArgs false

namespace Sp
/-- something that lies in its blocks -/
structure Piece where
  at_ : Foot → World → Prop
  kept : ∀ {F : Foot} {W V : World}, at_ F W → W.heap.size ≤ V.heap.size → (∀ k, F k → V.heap[k]? = W.heap[k]?) → at_ F V
  lt : ∀ {F : Foot} {W : World}, at_ F W → ∀ k, F k → k < W.heap.size
def All : List Piece → Foot → World → Prop
  | [], F, _ => ∀ k, ¬ F k
  | P :: L, F, W => ∃ G H : Foot, P.at_ G W ∧ All L H W ∧ (∀ k, G k → ¬ H k) ∧ ∀ k, F k ↔ G k ∨ H k
theorem All.kept : ∀ {L : List Piece} {F : Foot} {W V : World}, All L F W → W.heap.size ≤ V.heap.size → (∀ k, F k → V.heap[k]? = W.heap[k]?) → All L F V
  | [], _, _, _, h, _, _ => h
  | P :: L, F, W, V, ⟨G, H, h1, h2, h3, h4⟩, hs, hk => ⟨G, H, P.kept h1 hs fun k hG => hk k ((h4 k).2 (.inl hG)), h2.kept hs fun k hH => hk k ((h4 k).2 (.inr hH)), h3, h4⟩
theorem All.lt : ∀ {L : List Piece} {F : Foot} {W : World}, All L F W → ∀ k, F k → k < W.heap.size
  | [], _, _, h, k, hk => absurd hk (h k)
  | P :: L, F, W, ⟨G, H, h1, h2, h3, h4⟩, k, hk => by
    rcases (h4 k).1 hk with hG | hH
    · exact P.lt h1 k hG
    · exact h2.lt k hH
theorem All.split : ∀ {Ps L : List Piece} {F : Foot} {W : World}, All (Ps ++ L) F W → ∃ G H : Foot, All Ps G W ∧ All L H W ∧ (∀ k, G k → ¬ H k) ∧ ∀ k, F k ↔ G k ∨ H k
  | [], L, F, W, h => ⟨Foot.no, F, fun _ h => h, h, fun _ h => h.elim, fun k => ⟨.inr, fun h => h.elim (fun h => h.elim) id⟩⟩
  | P :: Ps, L, F, W, ⟨G, H, h1, h2, h3, h4⟩ => by
    obtain ⟨G', H', k1, k2, k3, k4⟩ := All.split h2
    refine ⟨fun k => G k ∨ G' k, H', ⟨G, G', h1, k1, fun k hk hk' => h3 k hk ((k4 k).2 (.inl hk')), fun k => Iff.rfl⟩, k2, fun k hk hk' => ?_, fun k => ?_⟩
    · rcases hk with hk | hk
      · exact h3 k hk ((k4 k).2 (.inr hk'))
      · exact k3 k hk hk'
    · rw [h4, k4, or_assoc]
theorem All.join : ∀ {Ps L : List Piece} {G H : Foot} {W : World}, All Ps G W → All L H W → (∀ k, G k → ¬ H k) → All (Ps ++ L) (fun k => G k ∨ H k) W
  | [], L, G, H, W, h1, h2, h3 => by
    have e : (fun k => G k ∨ H k) = H := funext fun k => propext ⟨fun h => h.elim (fun h => absurd h (h1 k)) id, .inr⟩
    rw [e]; exact h2
  | P :: Ps, L, G, H, W, ⟨G1, G2, k1, k2, k3, k4⟩, h2, h3 => by
    refine ⟨G1, _, k1, All.join k2 h2 fun k hk => h3 k ((k4 k).2 (.inr hk)), fun k hk hk' => ?_, fun k => ?_⟩
    · rcases hk' with hk' | hk'
      · exact k3 k hk hk'
      · exact h3 k ((k4 k).2 (.inl hk)) hk'
    · show (G k ∨ H k) ↔ _
      rw [k4, or_assoc]
theorem All.pull : ∀ {L : List Piece} {F : Foot} {W : World} (i : Nat) {P : Piece}, All L F W → L[i]? = some P → All (P :: L.eraseIdx i) F W
  | [], _, _, _, _, _, e => by simp at e
  | Q :: L, F, W, 0, P, h, e => by cases e; exact h
  | Q :: L, F, W, i + 1, P, ⟨G, H, h1, h2, h3, h4⟩, e => by
    obtain ⟨G', H', k1, k2, k3, k4⟩ := All.pull i h2 e
    refine ⟨G', fun k => G k ∨ H' k, k1, ⟨G, H', h1, k2, fun k hk hk' => h3 k hk ((k4 k).2 (.inr hk')), fun k => Iff.rfl⟩, fun k hk hk' => ?_, fun k => ?_⟩
    · rcases hk' with hk' | hk'
      · exact h3 k hk' ((k4 k).2 (.inl hk))
      · exact k3 k hk hk'
    · rw [h4, k4]
      constructor
      · rintro (h | h | h)
        · exact .inr (.inl h)
        · exact .inl h
        · exact .inr (.inr h)
      · rintro (h | h | h)
        · exact .inr (.inl h)
        · exact .inl h
        · exact .inr (.inr h)
theorem all_one {P : Piece} {G : Foot} {W : World} (h : P.at_ G W) : All [P] G W := ⟨G, Foot.no, h, fun _ h => h, fun _ _ h => h, fun k => ⟨.inl, fun h => h.elim id (fun h => h.elim)⟩⟩
theorem one_all {P : Piece} {G : Foot} {W : World} (h : All [P] G W) : P.at_ G W := by
  obtain ⟨G1, H, h1, h2, h3, h4⟩ := h
  have e : G = G1 := funext fun k => propext ⟨fun h => ((h4 k).1 h).elim id (fun h => absurd h (h2 k)), fun h => (h4 k).2 (.inl h)⟩
  rw [e]; exact h1
theorem all_two {P Q : Piece} {G H : Foot} {W : World} (h : P.at_ G W) (k : Q.at_ H W) (hd : ∀ k, G k → ¬ H k) : All [P, Q] (fun k => G k ∨ H k) W := ⟨G, H, h, all_one k, hd, fun _ => Iff.rfl⟩
theorem two_all {P Q : Piece} {F : Foot} {W : World} (h : All [P, Q] F W) : ∃ G H : Foot, P.at_ G W ∧ Q.at_ H W ∧ (∀ k, G k → ¬ H k) ∧ ∀ k, F k ↔ G k ∨ H k := by
  obtain ⟨G1, H, h1, h2, h3, h4⟩ := h
  exact ⟨G1, H, h1, one_all h2, h3, h4⟩
end Sp
open Sp
/-- these lie there, in blocks made since w -/
structure Sep (w : World) (L : List Piece) (W : World) : Prop where
  bel : Below w.heap.size w W
  is_ : ∃ F : Foot, All L F W ∧ ∀ k, F k → w.heap.size ≤ k
section
variable {w W V : World} {L Ps Qs : List Piece} {P Q : Piece}
theorem sep_new (w : World) : Sep w [] w := ⟨Below.refl _ _, Foot.no, fun _ h => h, fun _ h => h.elim⟩
/-- what follows of a turn in some of them -/
theorem Sep.turn (h : Sep w (Ps ++ L) W) : ∃ G : Foot, All Ps G W ∧ (∀ k, G k → w.heap.size ≤ k) ∧ ∀ (V : World) (Qs : List Piece) (G' : Foot), Only G W V → All Qs G' V → (∀ k, G' k → G k ∨ W.heap.size ≤ k) → Sep w (Qs ++ L) V := by
  obtain ⟨h0, F, h1, h2⟩ := h
  obtain ⟨G, H, k1, k2, k3, k4⟩ := h1.split
  refine ⟨G, k1, fun k hk => h2 k ((k4 k).2 (.inl hk)), fun V Qs G' hO hQ hG => ?_⟩
  have hl : All L H V := k2.kept hO.size fun k hk => hO.block k (k2.lt k hk) fun hg => k3 k hg hk
  have hb := hO.below (B := w.heap.size) (fun k hk => h2 k ((k4 k).2 (.inl hk))) h0.size
  refine ⟨h0.trans hb, _, hQ.join hl fun k hk hH => ?_, fun k hk => ?_⟩
  · rcases hG k hk with hg | hg
    · exact k3 k hg hH
    · have := k2.lt k hH; omega
  · rcases hk with hk | hk
    · rcases hG k hk with hg | hg
      · exact h2 k ((k4 k).2 (.inl hg))
      · exact Nat.le_trans h0.size hg
    · exact h2 k ((k4 k).2 (.inr hk))
theorem Sep.below (h : Sep w L W) (hb : Below W.heap.size W V) : Sep w L V := by
  obtain ⟨h0, F, h1, h2⟩ := h
  exact ⟨h0.trans (hb.mono h0.size), F, h1.kept hb.size fun k hk => hb.block k (h1.lt k hk), h2⟩
theorem Sep.pull (h : Sep w L W) (i : Nat) (e : L[i]? = some P) : Sep w (P :: L.eraseIdx i) W := by
  obtain ⟨h0, F, h1, h2⟩ := h
  exact ⟨h0, F, h1.pull i e, h2⟩
theorem Sep.drop (h : Sep w (P :: L) W) : Sep w L W := by
  obtain ⟨h0, F, ⟨G, H, h1, h2, h3, h4⟩, h5⟩ := h
  exact ⟨h0, H, h2, fun k hk => h5 k ((h4 k).2 (.inr hk))⟩
theorem Sep.first (h : Sep w (P :: L) W) : ∃ G, P.at_ G W := by
  obtain ⟨h0, F, ⟨G, H, h1, h2, h3, h4⟩, h5⟩ := h
  exact ⟨G, h1⟩
theorem Sep.get (h : Sep w L W) (i : Nat) (e : L[i]? = some P) : ∃ G, P.at_ G W := (h.pull i e).first
/-- something new beside them -/
theorem Sep.add {G : Foot} (h : Sep w L W) (hb : Below W.heap.size W V) (hP : P.at_ G V) (hG : ∀ k, G k → W.heap.size ≤ k) : Sep w (P :: L) V := by
  obtain ⟨G0, k1, _, k2⟩ := Sep.turn (Ps := []) (L := L) h
  exact k2 V [P] G (Only.of_below hb) (all_one hP) fun k hk => .inr (hG k hk)
theorem Sep.one (h : Sep w (P :: L) W) : ∃ G : Foot, P.at_ G W ∧ (∀ k, G k → w.heap.size ≤ k) ∧ ∀ (V : World) (Q : Piece) (G' : Foot), Only G W V → Q.at_ G' V → (∀ k, G' k → G k ∨ W.heap.size ≤ k) → Sep w (Q :: L) V := by
  obtain ⟨G, k1, k2, k3⟩ := Sep.turn (Ps := [P]) (L := L) h
  exact ⟨G, one_all k1, k2, fun V Q G' a b c => k3 V [Q] G' a (all_one b) c⟩
end
namespace Sp
/-! ### the pieces -/
def stC (s : Nat) (t : Tb) : Piece := ⟨fun F W => CS F s t W, fun h hs hk => h.kept hs hk, fun h => h.lt⟩
def stR (r : Nat) (t : Tb) : Piece := ⟨fun F W => RS F r t W, fun h hs hk => h.kept hs hk, fun h => h.lt⟩
def box (b : Nat) (o : Obj) : Piece := ⟨fun F W => W.heap[b]? = some o ∧ ∀ k, F k ↔ k = b, fun h hs hk => ⟨(hk b ((h.2 b).2 rfl)).trans h.1, h.2⟩, fun h k hk => by
  rw [(h.2 k).1 hk]; exact Bx.lt h.1⟩
def row {α : Type} (enc : α → List Value) (T n : Nat) (v : Value) (l : List α) : Piece := ⟨fun F W => Rw enc T n W 0 v l ∧ ∀ k, F k ↔ v.ownBlock = some k, fun h hs hk => ⟨h.1.kept fun b hb => hk b ((h.2 b).2 hb), h.2⟩, fun h k hk => by
  obtain ⟨_, cur, hc⟩ := h.1.blk ((h.2 k).1 hk)
  exact Bx.lt hc⟩
abbrev rowD (v : Value) (l : List De) : Piece := row deE DTY 13 v l
abbrev rowE (v : Value) (l : List Int) : Piece := row nuE 31 1 v l
abbrev rowZ (v : Value) (l : List Int) : Piece := row nuE 3 1 v l
abbrev rowB (v : Value) (l : List Bn) : Piece := row bnE 36 11 v l
abbrev BFT : TypeId := 81
/-- a buffer: deeds that wait -/
def buf (b : Nat) (l : List De) : Piece := ⟨fun F W => ∃ v, W.heap[b]? = some (.cells #[v] BFT (0, 0)) ∧ OwnD W 0 v l ∧ ∀ k, F k ↔ k = b ∨ v.ownBlock = some k,
  fun ⟨v, h1, h2, h3⟩ hs hk => ⟨v, (hk b ((h3 b).2 (.inl rfl))).trans h1, h2.kept fun g hg => hk g ((h3 g).2 (.inr hg)), h3⟩,
  fun ⟨v, h1, h2, h3⟩ k hk => by
    rcases (h3 k).1 hk with e | e
    · rw [e]; exact Bx.lt h1
    · obtain ⟨_, cur, hc⟩ := h2.blk e
      exact Bx.lt hc⟩
end Sp
section
variable {w W V : World} {L : List Piece} {s r : Nat} {t u t' : Tb}
theorem Gr.sub' {F : Foot} {n n' k : Nat} (h : Gr F n n' k) : F k ∨ n ≤ k := h.imp id And.left
theorem sep_store (h : Sep w L W) : Calls Try.prog 9 #[] W fun e V => e = .returned (.pointer (some ⟨W.heap.size, 0, none⟩)) ∧ Sep w (stC W.heap.size T0 :: L) V :=
  (new_any W).mono fun e V ⟨e1, e2, e3⟩ => ⟨e1, h.add (P := stC W.heap.size T0) e3 e2 fun k hk => by rcases hk with hk | hk; exact hk.elim; exact hk.1⟩
theorem sep_ref (h : Sep w L W) : Sep w (stR W.heap.size T0 :: L) (W.alloc (.cells (Array.replicate 32 (.slice none 0 0)) ST)) :=
  h.add (P := stR W.heap.size T0) (bel1 W _) (rs_new W) fun k hk => by rcases hk with hk | hk; exact hk.elim; exact hk.1
theorem sep_box (h : Sep w L W) (o : Obj) : Sep w (box W.heap.size o :: L) (W.alloc o) :=
  h.add (P := box W.heap.size o) (G := fun k => k = W.heap.size) (bel1 W o) ⟨at1 W o, fun k => Iff.rfl⟩ fun k hk => by rw [hk]; exact Nat.le_refl _
theorem sep_row {α : Type} {enc : α → List Value} {T n : Nat} {v : Value} {l : List α} (h : Sep w L W) (hb : Below W.heap.size W V) (ho : Rw enc T n V W.heap.size v l) : Sep w (row enc T n v l :: L) V :=
  h.add (P := row enc T n v l) (G := fun k => v.ownBlock = some k) hb ⟨ho.base (Nat.zero_le _), fun k => Iff.rfl⟩ fun k hk => (ho.blk hk).1
theorem Sep.held {b : Nat} {o : Obj} (h : Sep w L W) (i : Nat) (e : L[i]? = some (box b o)) : W.heap[b]? = some o := by
  obtain ⟨G, hG⟩ := h.get i e; exact hG.1
theorem Sep.rows {α : Type} {enc : α → List Value} {T n : Nat} {v : Value} {l : List α} (h : Sep w L W) (i : Nat) (e : L[i]? = some (row enc T n v l)) : Rw enc T n W 0 v l := by
  obtain ⟨G, hG⟩ := h.get i e; exact hG.1
theorem Sep.cs (h : Sep w L W) (i : Nat) (e : L[i]? = some (stC s t)) : ∃ F, CS F s t W := h.get i e
theorem Sep.good (h : Sep w L W) (i : Nat) (e : L[i]? = some (stC s t)) : Ar.Good t := by
  obtain ⟨F, hC⟩ := h.cs i e; exact hC.good
theorem Sep.put (h : Sep w (stC s t :: L) W) (b : Bn) {n : Nat} (hl : Le t n) (hn : n < 100000) : Calls Try.prog 28 #[.pointer (some ⟨s, 0, none⟩), b.val] W fun e V => e = .returned (.int .i64 (Ar.put t b).2) ∧ Sep w (stC s (Ar.put t b).1 :: L) V := by
  obtain ⟨G, h1, _, h2⟩ := h.one
  exact (cput_any h1 b (fun m => by have := hl m; omega)).mono fun e V ⟨e1, e2, e3⟩ => ⟨e1, h2 V (stC s _) _ e3 e2 fun k hk => Gr.sub' hk⟩
theorem Sep.write (h : Sep w (stC s t :: L) W) (b : Bn) {n : Nat} (hl : Le t n) (hn : n < 100000) : Calls Try.prog 46 #[.pointer (some ⟨s, 0, none⟩), b.val] W fun e V => e = .returned (.int .i64 (Ar.write t b).2) ∧ Sep w (stC s (Ar.write t b).1 :: L) V := by
  obtain ⟨G, h1, _, h2⟩ := h.one
  exact (cwrite_any h1 b (fun m => by have := hl m; omega)).mono fun e V ⟨e1, e2, e3⟩ => ⟨e1, h2 V (stC s _) _ e3 e2 fun k hk => Gr.sub' hk⟩
theorem Sep.remove (h : Sep w (stC s t :: L) W) (k1 k2 k3 : Int) : Calls Try.prog 49 #[.pointer (some ⟨s, 0, none⟩), .agg #[.int .i64 k1, .int .i64 k2, .int .i64 k3]] W fun e V => e = .returned (.bool (Ar.remove t (k1, k2, k3)).2) ∧ Sep w (stC s (Ar.remove t (k1, k2, k3)).1 :: L) V := by
  obtain ⟨G, h1, _, h2⟩ := h.one
  exact (remove_any h1 k1 k2 k3).mono fun e V ⟨e1, e2, e3⟩ => ⟨e1, h2 V (stC s _) _ e3 e2 fun k hk => Gr.sub' hk⟩
theorem Sep.rput (h : Sep w (stR r u :: L) W) (b : Bn) (hf : Fit b.m) {n : Nat} (hl : Le u n) (hn : n < 100000) : Calls Try.prog 30 #[.pointer (some ⟨r, 0, none⟩), b.val] W fun e V => e = .returned (.int .i64 (Ar.put u b).2) ∧ Sep w (stR r (Ar.put u b).1 :: L) V := by
  obtain ⟨G, h1, _, h2⟩ := h.one
  exact (rPut_any h1 b hf (fun m => by have := hl m; omega)).mono fun e V ⟨e1, e2, e3⟩ => ⟨e1, h2 V (stR r _) _ e3 e2 fun k hk => Gr.sub' hk⟩
theorem Sep.rwrite (h : Sep w (stR r u :: L) W) (b : Bn) (hf : Fit b.m) {n : Nat} (hl : Le u n) (hn : n < 100000) : Calls Try.prog 33 #[.pointer (some ⟨r, 0, none⟩), b.val] W fun e V => e = .returned (.int .i64 (Ar.write u b).2) ∧ Sep w (stR r (Ar.write u b).1 :: L) V := by
  obtain ⟨G, h1, _, h2⟩ := h.one
  exact (rWrite_any h1 b hf (fun m => by have := hl m; omega)).mono fun e V ⟨e1, e2, e3⟩ => ⟨e1, h2 V (stR r _) _ e3 e2 fun k hk => Gr.sub' hk⟩
theorem Sep.rremove (h : Sep w (stR r u :: L) W) (k1 k2 k3 : Int) : Calls Try.prog 32 #[.pointer (some ⟨r, 0, none⟩), .agg #[.int .i64 k1, .int .i64 k2, .int .i64 k3]] W fun e V => e = .returned (.bool (Ar.remove u (k1, k2, k3)).2) ∧ Sep w (stR r (Ar.remove u (k1, k2, k3)).1 :: L) V := by
  obtain ⟨G, h1, _, h2⟩ := h.one
  exact (rRemove_any h1 k1 k2 k3).mono fun e V ⟨e1, e2, e3⟩ => ⟨e1, h2 V (stR r _) _ e3 e2 fun k hk => Gr.sub' hk⟩
/-- what is answered of a name: the zero entity, if there is none -/
def bnZ : Bn := ⟨0, 0, 0, 0, 0, 0, 0, 0, 0, 0, 0⟩
theorem cget_is (t : Tb) (k : NK) : cgetV t k = .tuple #[((Bu.get t k).getD bnZ).val, .bool (Bu.get t k).isSome] := by
  unfold cgetV Bu.get
  cases hf : Ar.find t k with
  | none => rfl
  | some y =>
    obtain ⟨m, i⟩ := y
    obtain ⟨_, x, hx, _⟩ := find_at hf
    simp only [hx, Option.bind_some, Option.getD_some, Option.isSome_some]
theorem rget_is (t : Tb) (k : NK) : ∃ i : Int, getV t k = .tuple #[((Bu.get t k).getD bnZ).val, .int .i64 i, .bool (Bu.get t k).isSome] := by
  unfold getV Bu.get
  cases hf : Ar.find t k with
  | none => exact ⟨_, rfl⟩
  | some y =>
    obtain ⟨m, i⟩ := y
    obtain ⟨_, x, hx, _⟩ := find_at hf
    simp only [hx, Option.bind_some, Option.getD_some, Option.isSome_some]
    exact ⟨_, rfl⟩
theorem Sep.sget (h : Sep w L W) (i : Nat) (e : L[i]? = some (stC s t)) (k1 k2 k3 : Int) : Calls Try.prog 25 #[.pointer (some ⟨s, 0, none⟩), .agg #[.int .i64 k1, .int .i64 k2, .int .i64 k3]] W fun e V => e = .returned (.tuple #[((Bu.get t (k1, k2, k3)).getD bnZ).val, .bool (Bu.get t (k1, k2, k3)).isSome]) ∧ Sep w L V := by
  obtain ⟨F, hC⟩ := h.cs i e
  rw [← cget_is]
  exact (get_any hC k1 k2 k3).mono fun e V ⟨e1, e2⟩ => ⟨e1, h.below e2⟩
theorem Sep.rget (h : Sep w L W) (i : Nat) (e : L[i]? = some (stR r u)) (k1 k2 k3 : Int) : Calls Try.prog 31 #[.pointer (some ⟨r, 0, none⟩), .agg #[.int .i64 k1, .int .i64 k2, .int .i64 k3]] W fun e V => (∃ i : Int, e = .returned (.tuple #[((Bu.get u (k1, k2, k3)).getD bnZ).val, .int .i64 i, .bool (Bu.get u (k1, k2, k3)).isSome])) ∧ Sep w L V := by
  obtain ⟨F, hR⟩ : ∃ F, RS F r u W := h.get i e
  obtain ⟨i, hi⟩ := rget_is u (k1, k2, k3)
  exact (rGet_any hR k1 k2 k3).mono fun e V ⟨e1, e2⟩ => ⟨⟨i, by rw [e1, hi]⟩, h.below e2⟩
theorem Sep.len (h : Sep w L W) (i : Nat) (e : L[i]? = some (stC s t)) : Calls Try.prog 24 #[.pointer (some ⟨s, 0, none⟩)] W fun e V => e = .returned (.int .i64 (total t : Int)) ∧ W = V := by
  obtain ⟨F, hC⟩ := h.cs i e
  exact len_any hC
theorem Sep.alike (h : Sep w L W) (i j : Nat) (e : L[i]? = some (stC s t)) (e' : L[j]? = some (stR r t)) (hl : total t ≤ 10000) : Calls Try.prog 13 #[.pointer (some ⟨s, 0, none⟩), .pointer (some ⟨r, 0, none⟩)] W fun e V => e = .returned (.bool true) ∧ Sep w L V := by
  obtain ⟨F, hC⟩ := h.cs i e
  obtain ⟨G, hR⟩ : ∃ F, RS F r t W := h.get j e'
  exact (alike_any hC hR hl).mono fun e V ⟨e1, e2⟩ => ⟨e1, h.below e2⟩
end
end Go.Proofs.Yteollbioeamciaa
namespace Go.Proofs.Yteollbioeamciaa
open Go.RowKit Pz Ar Bu Sp
set_option linter.unusedVariables false
set_option linter.unusedSimpArgs false

namespace Bx
theorem b13 {W : World} {b T : Nat} {v0 v1 v2 v3 v4 v5 v6 v7 v8 v9 v10 v11 v12 : Value} (h : W.heap[b]? = some (.cells #[v0, v1, v2, v3, v4, v5, v6, v7, v8, v9, v10, v11, v12] T (0, 0))) : (W.cell? ⟨b, 0, none⟩ = some v0 ∧ W.cell? ⟨b, 1, none⟩ = some v1 ∧ W.cell? ⟨b, 2, none⟩ = some v2 ∧ W.cell? ⟨b, 3, none⟩ = some v3 ∧ W.cell? ⟨b, 4, none⟩ = some v4 ∧ W.cell? ⟨b, 5, none⟩ = some v5 ∧ W.cell? ⟨b, 6, none⟩ = some v6 ∧ W.cell? ⟨b, 7, none⟩ = some v7 ∧ W.cell? ⟨b, 8, none⟩ = some v8 ∧ W.cell? ⟨b, 9, none⟩ = some v9 ∧ W.cell? ⟨b, 10, none⟩ = some v10 ∧ W.cell? ⟨b, 11, none⟩ = some v11 ∧ W.cell? ⟨b, 12, none⟩ = some v12) ∧ (W.frozen? ⟨b, 0, none⟩ = false ∧ W.frozen? ⟨b, 1, none⟩ = false ∧ W.frozen? ⟨b, 2, none⟩ = false ∧ W.frozen? ⟨b, 3, none⟩ = false ∧ W.frozen? ⟨b, 4, none⟩ = false ∧ W.frozen? ⟨b, 5, none⟩ = false ∧ W.frozen? ⟨b, 6, none⟩ = false ∧ W.frozen? ⟨b, 7, none⟩ = false ∧ W.frozen? ⟨b, 8, none⟩ = false ∧ W.frozen? ⟨b, 9, none⟩ = false ∧ W.frozen? ⟨b, 10, none⟩ = false ∧ W.frozen? ⟨b, 11, none⟩ = false ∧ W.frozen? ⟨b, 12, none⟩ = false) :=
  ⟨⟨(cell h (o := 0) rfl).1, (cell h (o := 1) rfl).1, (cell h (o := 2) rfl).1, (cell h (o := 3) rfl).1, (cell h (o := 4) rfl).1, (cell h (o := 5) rfl).1, (cell h (o := 6) rfl).1, (cell h (o := 7) rfl).1, (cell h (o := 8) rfl).1, (cell h (o := 9) rfl).1, (cell h (o := 10) rfl).1, (cell h (o := 11) rfl).1, (cell h (o := 12) rfl).1⟩, ⟨(cell h (o := 0) rfl).2, (cell h (o := 1) rfl).2, (cell h (o := 2) rfl).2, (cell h (o := 3) rfl).2, (cell h (o := 4) rfl).2, (cell h (o := 5) rfl).2, (cell h (o := 6) rfl).2, (cell h (o := 7) rfl).2, (cell h (o := 8) rfl).2, (cell h (o := 9) rfl).2, (cell h (o := 10) rfl).2, (cell h (o := 11) rfl).2, (cell h (o := 12) rfl).2⟩⟩
end Bx
namespace Bu
section
variable {t : Tb} {b x : Bn} {m k : Int}
theorem bdo_put (t : Tb) (b : Bn) (m : Int) : bdo t ⟨1, b, m⟩ = put t b := rfl
theorem bdo_none {d : De} (hk : d.k = 2 ∨ d.k = 3 ∨ d.k = 4) (h : get t d.b.id = none) : bdo t d = (t, 6) := by
  unfold bdo
  rw [if_neg (by omega), if_pos hk, h]
theorem bdo_rem (h : get t b.id = some x) : bdo t ⟨2, b, m⟩ = ((remove t b.id).1, 0) := by
  unfold bdo
  dsimp only
  rw [if_neg (by omega), if_pos (by omega), h]
  rfl
theorem bdo_set (h : get t b.id = some x) : bdo t ⟨3, b, m⟩ = write t (withB x b) := by
  unfold bdo
  dsimp only
  rw [if_neg (by omega), if_pos (by omega), h]
  rfl
theorem bdo_drop (h : get t b.id = some x) : bdo t ⟨4, b, m⟩ = write t (withoutB x m) := by
  unfold bdo
  dsimp only
  rw [if_neg (by omega), if_pos (by omega), h]
  rfl
theorem bdo_odd {d : De} (h1 : d.k ≠ 1) (hk : ¬ (d.k = 2 ∨ d.k = 3 ∨ d.k = 4)) : bdo t d = (t, 1) := by
  unfold bdo
  rw [if_neg h1, if_neg hk]
end
end Bu
end Go.Proofs.Yteollbioeamciaa
namespace Go.Proofs.Yteollbioeamciaa
open Go.RowKit Pz Ar Bu Sp
set_option linter.unusedVariables false
set_option linter.unusedSimpArgs false

section
variable {w W V : World} {L : List Piece} {b : Nat} {l y : List De}
set_option maxHeartbeats 4000000 in
set_option maxRecDepth 100000 in
theorem sep_buf (h : Sep w L W) : Calls Try.prog 15 #[] W fun e V => e = .returned (.pointer (some ⟨W.heap.size, 0, none⟩)) ∧ Sep w (buf W.heap.size [] :: L) V := by
  have HX := Lib.hid (h.add (P := buf W.heap.size []) (V := W.alloc (.cells #[.slice none 0 0] BFT)) (G := fun k => k = W.heap.size ∨ (Value.slice none 0 0).ownBlock = some k) (bel1 W _) ⟨.slice none 0 0, at1 W _, rw_nil _ _, fun k => Iff.rfl⟩ fun k hk => by
    rcases hk with rfl | hk
    · exact Nat.le_refl _
    · cases hk)
  clear h
  go_enter Try.func15, Try.ntmps15
  go_wp2
  go_ret
  exact ⟨rfl, HX.out⟩
set_option maxHeartbeats 4000000 in
set_option maxRecDepth 100000 in
theorem Sep.add_ (h : Sep w (buf b l :: L) W) {A : Option Addr} {c : Nat} (R : RdDe W W.heap.size A y) (hn : l.length + y.length ≤ 1000000) :
    Calls Try.prog 16 #[.pointer (some ⟨b, 0, none⟩), .slice A y.length c] W fun e V => e = .returned (.int .i64 0) ∧ Sep w (buf b (l ++ y) :: L) V := by
  obtain ⟨G, ⟨v, h1, h2, h3⟩, _, next⟩ := h.one
  obtain ⟨v', V, hr, ho, hg, hf⟩ := h2.app (c := c) (Nat.zero_le _) R hn 22
  have hne : v.ownBlock ≠ some b := fun e => by
    obtain ⟨_, cur, hc⟩ := h2.blk e
    exact Bx.ne_type hc h1 (by decide) rfl
  have e1 : V.heap[b]? = some (.cells #[v] BFT (0, 0)) := (hg.block b (Bx.lt h1) fun e => hne e.symm).trans h1
  have k1 := (Bx.b1 h1).1
  have k2 := (Bx.b1 e1).1
  have k3 := (Bx.b1 e1).2
  have HX : Hid (Sep w (buf b (l ++ y) :: L) (V.setCell ⟨b, 0, none⟩ v')) := Lib.hid (by
    refine next _ (buf b (l ++ y)) (fun k => k = b ∨ v'.ownBlock = some k) ?_ ⟨v', Bx.set e1 v', ho.kept fun g hg' => Bx.ne (fun e => ?_) _, fun k => Iff.rfl⟩ fun k hk => ?_
    · refine Only.set ⟨hg.os, hg.tape, hg.output, hg.size, fun k hk hn' => hg.block k hk fun e => hn' ((h3 k).2 (.inr e.symm))⟩ (a := ⟨b, 0, none⟩) (.inl ((h3 b).2 (.inl rfl))) _
    · obtain ⟨_, cur, hc⟩ := ho.blk hg'
      subst e
      exact Bx.ne_type hc e1 (by decide) rfl
    · rcases hk with rfl | hk
      · exact .inl ((h3 k).2 (.inl rfl))
      · exact (hf k hk).imp (fun e => (h3 k).2 (.inr e)) id)
  obtain ⟨A0, c0, rfl⟩ := h2.form
  obtain ⟨A1, c1, rfl⟩ := ho.form
  generalize (l ++ y).length = n1 at *
  clear next h3 h1 e1 h2 ho hg hf hne h R
  have HR := Lib.hid hr
  clear hr
  generalize y.length = m at *
  generalize l.length = n at *
  go_enter Try.func16, Try.ntmps16
  go_wp2_with (at_builtin; refine wpList_append _ rfl (.tmp 11) (.tmp 12) _ _ rfl _ _ rfl rfl _ _ HR.out ?_)
  go_ret
  exact ⟨rfl, HX.out⟩
set_option maxHeartbeats 4000000 in
set_option maxRecDepth 100000 in
theorem add_nil (W : World) (v : Value) : Calls Try.prog 16 #[.pointer none, v] W fun e V => e = .returned (.int .i64 1) ∧ W = V := by
  go_enter Try.func16, Try.ntmps16
  go_wp2
  go_ret
  exact ⟨rfl, rfl⟩
set_option maxHeartbeats 4000000 in
set_option maxRecDepth 100000 in
theorem Sep.blen (h : Sep w L W) (i : Nat) (e : L[i]? = some (buf b l)) : Calls Try.prog 18 #[.pointer (some ⟨b, 0, none⟩)] W fun e V => e = .returned (.int .i64 (l.length : Int)) ∧ W = V := by
  obtain ⟨G, v, h1, h2, h3⟩ : ∃ G, (buf b l).at_ G W := h.get i e
  have k1 := (Bx.b1 h1).1
  obtain ⟨A0, c0, rfl⟩ := h2.form
  clear h1 h2 h3 e h
  generalize l.length = n at *
  go_enter Try.func18, Try.ntmps18
  go_wp2
  go_ret
  exact ⟨rfl, rfl⟩
set_option maxHeartbeats 4000000 in
set_option maxRecDepth 100000 in
theorem blen_nil (W : World) : Calls Try.prog 18 #[.pointer none] W fun e V => e = .returned (.int .i64 0) ∧ W = V := by
  go_enter Try.func18, Try.ntmps18
  go_wp2
  go_ret
  exact ⟨rfl, rfl⟩
set_option maxHeartbeats 4000000 in
set_option maxRecDepth 100000 in
theorem list_nil (W : World) : Calls Try.prog 17 #[.pointer none] W fun e V => e = .returned (.slice none 0 0) ∧ W = V := by
  go_enter Try.func17, Try.ntmps17
  go_wp2
  go_ret
  exact ⟨rfl, rfl⟩
set_option maxHeartbeats 4000000 in
set_option maxRecDepth 100000 in
theorem flush_nil (W : World) (v : Value) : Calls Try.prog 19 #[.pointer none, v] W fun e V => e = .returned (.slice none 0 0) ∧ W = V := by
  go_enter Try.func19, Try.ntmps19
  go_wp2
  go_ret
  exact ⟨rfl, rfl⟩
end
end Go.Proofs.Yteollbioeamciaa
