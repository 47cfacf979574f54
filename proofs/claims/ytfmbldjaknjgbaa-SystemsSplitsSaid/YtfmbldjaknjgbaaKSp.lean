/- Things in a world, each in blocks of its own. Written by wip/tools/gensp.py. -/
import Derived.Test.YtfmbldjaknjgbaaKRw
namespace Go.Proofs.Ytfmbldjaknjgbaa
open Go.RowKit Pz
set_option linter.unusedVariables false
set_option linter.unusedSimpArgs false

abbrev Foot := Nat → Prop
/-- with all that was made since -/
def Gr (F : Foot) (n n' : Nat) : Foot := fun b => F b ∨ (n ≤ b ∧ b < n')
def Foot.no : Foot := fun _ => False
theorem Gr.self (F : Foot) (n : Nat) : Gr F n n = F := by
  funext b
  unfold Gr
  simp only [eq_iff_iff, or_iff_left_iff_imp]
  omega
theorem Gr.gr {F : Foot} {a b c : Nat} (h : a ≤ b) (h' : b ≤ c) : Gr (Gr F a b) b c = Gr F a c := by
  funext k
  unfold Gr
  simp only [eq_iff_iff]
  constructor
  · rintro ((h | h) | h)
    · exact .inl h
    · exact .inr (by omega)
    · exact .inr (by omega)
  · rintro (h | h)
    · exact .inl (.inl h)
    · by_cases k < b
      · exact .inl (.inr (by omega))
      · exact .inr (by omega)
theorem Gr.sub {F : Foot} {n n' b : Nat} (h : F b) : Gr F n n' b := .inl h
/-- of what was there nothing has turned but F's blocks -/
structure Only (F : Foot) (w W : World) : Prop where
  os : W.os = w.os
  tape : W.tape = w.tape
  output : W.output = w.output
  size : w.heap.size ≤ W.heap.size
  block : ∀ b, b < w.heap.size → ¬ F b → W.heap[b]? = w.heap[b]?
theorem Only.of_below {F : Foot} {w W : World} (h : Below w.heap.size w W) : Only F w W := ⟨h.os, h.tape, h.output, h.size, fun b hb _ => h.block b hb⟩
theorem Only.refl (F : Foot) (w : World) : Only F w w := ⟨rfl, rfl, rfl, Nat.le_refl _, fun _ _ _ => rfl⟩
theorem Only.trans {F : Foot} {w W V : World} (h : Only F w W) (k : Only (Gr F w.heap.size W.heap.size) W V) : Only F w V :=
  ⟨k.os.trans h.os, k.tape.trans h.tape, k.output.trans h.output, Nat.le_trans h.size k.size, fun b hb hn => (k.block b (Nat.lt_of_lt_of_le hb h.size) (fun e => e.elim hn (fun e => by omega))).trans (h.block b hb hn)⟩
theorem Only.tail {F : Foot} {w W V : World} (h : Only F w W) (k : Below W.heap.size W V) : Only F w V := h.trans (.of_below k)
theorem Only.below {F : Foot} {B : Nat} {w W : World} (h : Only F w W) (hF : ∀ b, F b → B ≤ b) (hB : B ≤ w.heap.size) : Below B w W :=
  ⟨h.os, h.tape, h.output, h.size, fun b hb => h.block b (by omega) (fun e => by have := hF b e; omega)⟩
theorem Only.of_grown {F : Foot} {w W : World} {p : Nat} (h : w.grownBy W (some p)) (hp : F p) : Only F w W := ⟨h.os, h.tape, h.output, h.size, fun b hb hn => h.block b hb (fun e => hn (by rw [Option.some.inj e]; exact hp))⟩
theorem Only.more {F F' : Foot} {w W : World} (h : Only F w W) (hF : ∀ b, F b → F' b) : Only F' w W := ⟨h.os, h.tape, h.output, h.size, fun b hb hn => h.block b hb (fun e => hn (hF b e))⟩
theorem Only.drew {F : Foot} {w W : World} (h : Only F w W) : Only F w W.drew := ⟨h.os, h.tape, h.output, h.size, h.block⟩
theorem Only.set {F : Foot} {w W : World} (h : Only F w W) {a : Addr} (ha : F a.block ∨ w.heap.size ≤ a.block) (v : Value) : Only F w (W.setCell a v) :=
  ⟨h.os, h.tape, h.output, by simpa using h.size, fun b hb hn => (Below.heap_setCell _ _ _ _ (fun e => by subst e; rcases ha with h | h; exact hn h; omega)).trans (h.block b hb hn)⟩

namespace Sp
/-- something that lies in its blocks -/
structure Piece where
  at_ : Foot → World → Prop
  kept : ∀ {F : Foot} {W V : World}, at_ F W → W.heap.size ≤ V.heap.size → (∀ k, F k → V.heap[k]? = W.heap[k]?) → at_ F V
  lt : ∀ {F : Foot} {W : World}, at_ F W → ∀ k, F k → k < W.heap.size
def All : List Piece → Foot → World → Prop
  | [], F, _ => ∀ k, ¬ F k
  | P :: L, F, W => ∃ G H : Foot, P.at_ G W ∧ All L H W ∧ (∀ k, G k → ¬ H k) ∧ ∀ k, F k ↔ G k ∨ H k
theorem All.kept : ∀ {L : List Piece} {F : Foot} {W V : World}, All L F W → W.heap.size ≤ V.heap.size → (∀ k, F k → V.heap[k]? = W.heap[k]?) → All L F V
  | [], _, _, _, h, _, _ => h
  | P :: L, F, W, V, ⟨G, H, h1, h2, h3, h4⟩, hs, hk => ⟨G, H, P.kept h1 hs fun k hG => hk k ((h4 k).2 (.inl hG)), h2.kept hs fun k hH => hk k ((h4 k).2 (.inr hH)), h3, h4⟩
theorem All.lt : ∀ {L : List Piece} {F : Foot} {W : World}, All L F W → ∀ k, F k → k < W.heap.size
  | [], _, _, h, k, hk => absurd hk (h k)
  | P :: L, F, W, ⟨G, H, h1, h2, h3, h4⟩, k, hk => by
    rcases (h4 k).1 hk with hG | hH
    · exact P.lt h1 k hG
    · exact h2.lt k hH
theorem All.split : ∀ {Ps L : List Piece} {F : Foot} {W : World}, All (Ps ++ L) F W → ∃ G H : Foot, All Ps G W ∧ All L H W ∧ (∀ k, G k → ¬ H k) ∧ ∀ k, F k ↔ G k ∨ H k
  | [], L, F, W, h => ⟨Foot.no, F, fun _ h => h, h, fun _ h => h.elim, fun k => ⟨.inr, fun h => h.elim (fun h => h.elim) id⟩⟩
  | P :: Ps, L, F, W, ⟨G, H, h1, h2, h3, h4⟩ => by
    obtain ⟨G', H', k1, k2, k3, k4⟩ := All.split h2
    refine ⟨fun k => G k ∨ G' k, H', ⟨G, G', h1, k1, fun k hk hk' => h3 k hk ((k4 k).2 (.inl hk')), fun k => Iff.rfl⟩, k2, fun k hk hk' => ?_, fun k => ?_⟩
    · rcases hk with hk | hk
      · exact h3 k hk ((k4 k).2 (.inr hk'))
      · exact k3 k hk hk'
    · rw [h4, k4, or_assoc]
theorem All.join : ∀ {Ps L : List Piece} {G H : Foot} {W : World}, All Ps G W → All L H W → (∀ k, G k → ¬ H k) → All (Ps ++ L) (fun k => G k ∨ H k) W
  | [], L, G, H, W, h1, h2, h3 => by
    have e : (fun k => G k ∨ H k) = H := funext fun k => propext ⟨fun h => h.elim (fun h => absurd h (h1 k)) id, .inr⟩
    rw [e]; exact h2
  | P :: Ps, L, G, H, W, ⟨G1, G2, k1, k2, k3, k4⟩, h2, h3 => by
    refine ⟨G1, _, k1, All.join k2 h2 fun k hk => h3 k ((k4 k).2 (.inr hk)), fun k hk hk' => ?_, fun k => ?_⟩
    · rcases hk' with hk' | hk'
      · exact k3 k hk hk'
      · exact h3 k ((k4 k).2 (.inl hk)) hk'
    · show (G k ∨ H k) ↔ _
      rw [k4, or_assoc]
theorem All.pull : ∀ {L : List Piece} {F : Foot} {W : World} (i : Nat) {P : Piece}, All L F W → L[i]? = some P → All (P :: L.eraseIdx i) F W
  | [], _, _, _, _, _, e => by simp at e
  | Q :: L, F, W, 0, P, h, e => by cases e; exact h
  | Q :: L, F, W, i + 1, P, ⟨G, H, h1, h2, h3, h4⟩, e => by
    obtain ⟨G', H', k1, k2, k3, k4⟩ := All.pull i h2 e
    refine ⟨G', fun k => G k ∨ H' k, k1, ⟨G, H', h1, k2, fun k hk hk' => h3 k hk ((k4 k).2 (.inr hk')), fun k => Iff.rfl⟩, fun k hk hk' => ?_, fun k => ?_⟩
    · rcases hk' with hk' | hk'
      · exact h3 k hk' ((k4 k).2 (.inl hk))
      · exact k3 k hk hk'
    · rw [h4, k4]
      constructor
      · rintro (h | h | h)
        · exact .inr (.inl h)
        · exact .inl h
        · exact .inr (.inr h)
      · rintro (h | h | h)
        · exact .inr (.inl h)
        · exact .inl h
        · exact .inr (.inr h)
theorem all_one {P : Piece} {G : Foot} {W : World} (h : P.at_ G W) : All [P] G W := ⟨G, Foot.no, h, fun _ h => h, fun _ _ h => h, fun k => ⟨.inl, fun h => h.elim id (fun h => h.elim)⟩⟩
theorem one_all {P : Piece} {G : Foot} {W : World} (h : All [P] G W) : P.at_ G W := by
  obtain ⟨G1, H, h1, h2, h3, h4⟩ := h
  have e : G = G1 := funext fun k => propext ⟨fun h => ((h4 k).1 h).elim id (fun h => absurd h (h2 k)), fun h => (h4 k).2 (.inl h)⟩
  rw [e]; exact h1
theorem all_two {P Q : Piece} {G H : Foot} {W : World} (h : P.at_ G W) (k : Q.at_ H W) (hd : ∀ k, G k → ¬ H k) : All [P, Q] (fun k => G k ∨ H k) W := ⟨G, H, h, all_one k, hd, fun _ => Iff.rfl⟩
theorem two_all {P Q : Piece} {F : Foot} {W : World} (h : All [P, Q] F W) : ∃ G H : Foot, P.at_ G W ∧ Q.at_ H W ∧ (∀ k, G k → ¬ H k) ∧ ∀ k, F k ↔ G k ∨ H k := by
  obtain ⟨G1, H, h1, h2, h3, h4⟩ := h
  exact ⟨G1, H, h1, one_all h2, h3, h4⟩
end Sp
open Sp
/-- these lie there, in blocks made since w -/
structure Sep (w : World) (L : List Piece) (W : World) : Prop where
  bel : Below w.heap.size w W
  is_ : ∃ F : Foot, All L F W ∧ ∀ k, F k → w.heap.size ≤ k
section
variable {w W V : World} {L Ps Qs : List Piece} {P Q : Piece}
theorem sep_new (w : World) : Sep w [] w := ⟨Below.refl _ _, Foot.no, fun _ h => h, fun _ h => h.elim⟩
/-- what follows of a turn in some of them -/
theorem Sep.turn (h : Sep w (Ps ++ L) W) : ∃ G : Foot, All Ps G W ∧ (∀ k, G k → w.heap.size ≤ k) ∧ ∀ (V : World) (Qs : List Piece) (G' : Foot), Only G W V → All Qs G' V → (∀ k, G' k → G k ∨ W.heap.size ≤ k) → Sep w (Qs ++ L) V := by
  obtain ⟨h0, F, h1, h2⟩ := h
  obtain ⟨G, H, k1, k2, k3, k4⟩ := h1.split
  refine ⟨G, k1, fun k hk => h2 k ((k4 k).2 (.inl hk)), fun V Qs G' hO hQ hG => ?_⟩
  have hl : All L H V := k2.kept hO.size fun k hk => hO.block k (k2.lt k hk) fun hg => k3 k hg hk
  have hb := hO.below (B := w.heap.size) (fun k hk => h2 k ((k4 k).2 (.inl hk))) h0.size
  refine ⟨h0.trans hb, _, hQ.join hl fun k hk hH => ?_, fun k hk => ?_⟩
  · rcases hG k hk with hg | hg
    · exact k3 k hg hH
    · have := k2.lt k hH; omega
  · rcases hk with hk | hk
    · rcases hG k hk with hg | hg
      · exact h2 k ((k4 k).2 (.inl hg))
      · exact Nat.le_trans h0.size hg
    · exact h2 k ((k4 k).2 (.inr hk))
theorem Sep.below (h : Sep w L W) (hb : Below W.heap.size W V) : Sep w L V := by
  obtain ⟨h0, F, h1, h2⟩ := h
  exact ⟨h0.trans (hb.mono h0.size), F, h1.kept hb.size fun k hk => hb.block k (h1.lt k hk), h2⟩
theorem Sep.pull (h : Sep w L W) (i : Nat) (e : L[i]? = some P) : Sep w (P :: L.eraseIdx i) W := by
  obtain ⟨h0, F, h1, h2⟩ := h
  exact ⟨h0, F, h1.pull i e, h2⟩
theorem Sep.drop (h : Sep w (P :: L) W) : Sep w L W := by
  obtain ⟨h0, F, ⟨G, H, h1, h2, h3, h4⟩, h5⟩ := h
  exact ⟨h0, H, h2, fun k hk => h5 k ((h4 k).2 (.inr hk))⟩
theorem Sep.first (h : Sep w (P :: L) W) : ∃ G, P.at_ G W := by
  obtain ⟨h0, F, ⟨G, H, h1, h2, h3, h4⟩, h5⟩ := h
  exact ⟨G, h1⟩
theorem Sep.get (h : Sep w L W) (i : Nat) (e : L[i]? = some P) : ∃ G, P.at_ G W := (h.pull i e).first
/-- something new beside them -/
theorem Sep.add {G : Foot} (h : Sep w L W) (hb : Below W.heap.size W V) (hP : P.at_ G V) (hG : ∀ k, G k → W.heap.size ≤ k) : Sep w (P :: L) V := by
  obtain ⟨G0, k1, _, k2⟩ := Sep.turn (Ps := []) (L := L) h
  exact k2 V [P] G (Only.of_below hb) (all_one hP) fun k hk => .inr (hG k hk)
theorem Sep.one (h : Sep w (P :: L) W) : ∃ G : Foot, P.at_ G W ∧ (∀ k, G k → w.heap.size ≤ k) ∧ ∀ (V : World) (Q : Piece) (G' : Foot), Only G W V → Q.at_ G' V → (∀ k, G' k → G k ∨ W.heap.size ≤ k) → Sep w (Q :: L) V := by
  obtain ⟨G, k1, k2, k3⟩ := Sep.turn (Ps := [P]) (L := L) h
  exact ⟨G, one_all k1, k2, fun V Q G' a b c => k3 V [Q] G' a (all_one b) c⟩
end
namespace Sp
def box (b : Nat) (o : Obj) : Piece := ⟨fun F W => W.heap[b]? = some o ∧ ∀ k, F k ↔ k = b, fun h hs hk => ⟨(hk b ((h.2 b).2 rfl)).trans h.1, h.2⟩, fun h k hk => by
  rw [(h.2 k).1 hk]; exact Bx.lt h.1⟩
def row {α : Type} (enc : α → List Value) (T n : Nat) (v : Value) (l : List α) : Piece := ⟨fun F W => Rw enc T n W 0 v l ∧ ∀ k, F k ↔ v.ownBlock = some k, fun h hs hk => ⟨h.1.kept fun b hb => hk b ((h.2 b).2 hb), h.2⟩, fun h k hk => by
  obtain ⟨_, cur, hc⟩ := h.1.blk ((h.2 k).1 hk)
  exact Bx.lt hc⟩
abbrev rowB (v : Value) (l : List Bn) : Piece := row bnE 34 11 v l
end Sp
section
variable {w W V : World} {L : List Piece}
theorem sep_box (h : Sep w L W) (o : Obj) : Sep w (box W.heap.size o :: L) (W.alloc o) :=
  h.add (P := box W.heap.size o) (G := fun k => k = W.heap.size) (bel1 W o) ⟨at1 W o, fun k => Iff.rfl⟩ fun k hk => by rw [hk]; exact Nat.le_refl _
theorem sep_row {α : Type} {enc : α → List Value} {T n : Nat} {v : Value} {l : List α} (h : Sep w L W) (hb : Below W.heap.size W V) (ho : Rw enc T n V W.heap.size v l) : Sep w (row enc T n v l :: L) V :=
  h.add (P := row enc T n v l) (G := fun k => v.ownBlock = some k) hb ⟨ho.base (Nat.zero_le _), fun k => Iff.rfl⟩ fun k hk => (ho.blk hk).1
theorem row_none {α : Type} (enc : α → List Value) (T n : Nat) (h : Sep w L W) : Sep w (row enc T n (.slice none 0 0) [] :: L) W :=
  h.add (P := row enc T n (.slice none 0 0) []) (G := fun k => (Value.slice none 0 0).ownBlock = some k) (Below.refl _ _) ⟨rw_nil _ _, fun k => Iff.rfl⟩ fun k hk => by cases hk
theorem Sep.held {b : Nat} {o : Obj} (h : Sep w L W) (i : Nat) (e : L[i]? = some (box b o)) : W.heap[b]? = some o := by
  obtain ⟨G, hG⟩ := h.get i e; exact hG.1
theorem Sep.rows {α : Type} {enc : α → List Value} {T n : Nat} {v : Value} {l : List α} (h : Sep w L W) (i : Nat) (e : L[i]? = some (row enc T n v l)) : Rw enc T n W 0 v l := by
  obtain ⟨G, hG⟩ := h.get i e; exact hG.1
theorem Sep.drew (h : Sep w L W) : Sep w L W.drew := h.below (Below.refl _ _).drew
theorem Sep.stored {b : Nat} {v : Value} {T : Nat} (h : Sep w (box b (.cells #[v] T) :: L) W) (u : Value) : Sep w (box b (.cells #[u] T) :: L) (W.setCell ⟨b, 0, none⟩ u) := by
  obtain ⟨G, ⟨h1, h2⟩, _, next⟩ := h.one
  exact next _ (box b (.cells #[u] T)) G (Only.set (Only.refl _ _) (a := ⟨b, 0, none⟩) (.inl ((h2 b).2 rfl)) _) ⟨Bx.set h1 u, h2⟩ fun k hk => .inl hk
/-- one cell of a block, stored over -/
theorem Sep.cell {b o : Nat} {cs : Array Value} {T : Nat} (h : Sep w (box b (.cells cs T) :: L) W) (u : Value) : Sep w (box b (.cells (cs.setIfInBounds o u) T) :: L) (W.setCell ⟨b, o, none⟩ u) := by
  obtain ⟨G, ⟨h1, h2⟩, _, next⟩ := h.one
  exact next _ (box b (.cells (cs.setIfInBounds o u) T)) G (Only.set (Only.refl _ _) (a := ⟨b, o, none⟩) (.inl ((h2 b).2 rfl)) _) ⟨Bx.set h1 u, h2⟩ fun k hk => .inl hk
/-- an entity's block, stored over whole -/
theorem Sep.set11 {b : Nat} {v0 v1 v2 v3 v4 v5 v6 v7 v8 v9 v10 : Value} {T : Nat} (h : Sep w (box b (.cells #[v0, v1, v2, v3, v4, v5, v6, v7, v8, v9, v10] T) :: L) W) (u0 u1 u2 u3 u4 u5 u6 u7 u8 u9 u10 : Value) : Sep w (box b (.cells #[u0, u1, u2, u3, u4, u5, u6, u7, u8, u9, u10] T) :: L) (((((((((((W.setCell ⟨b, 0, none⟩ u0).setCell ⟨b, 1, none⟩ u1).setCell ⟨b, 2, none⟩ u2).setCell ⟨b, 3, none⟩ u3).setCell ⟨b, 4, none⟩ u4).setCell ⟨b, 5, none⟩ u5).setCell ⟨b, 6, none⟩ u6).setCell ⟨b, 7, none⟩ u7).setCell ⟨b, 8, none⟩ u8).setCell ⟨b, 9, none⟩ u9).setCell ⟨b, 10, none⟩ u10) := by
  have := (((((((((((h.cell (o := 0) u0).cell (o := 1) u1).cell (o := 2) u2).cell (o := 3) u3).cell (o := 4) u4).cell (o := 5) u5).cell (o := 6) u6).cell (o := 7) u7).cell (o := 8) u8).cell (o := 9) u9).cell (o := 10) u10)
  simpa using this
end
end Go.Proofs.Ytfmbldjaknjgbaa
