/- The document's codec: a message is decoded. Written by wip/tools/gencdrdec.py. -/
import Derived.Test.YtdhlebmgeiiejaaGreatKCdRMay
import Derived.Test.YtdhlebmgeiiejaaGreatKDec
import Derived.Test.YtdhlebmgeiiejaaGreatKRL
import Derived.Test.YtdhlebmgeiiejaaGreatKCdRLC
namespace Go.Proofs.YtdhlebmgeiiejaaGreat
open Go.RowKit Pz Cd
set_option linter.unusedVariables false
set_option linter.unusedSimpArgs false

namespace Cd
theorem takeN_all {α : Type} {K : Kind α} {P : α → Prop} (h : ∀ q, P (K.take q).1) : ∀ (n : Nat) (q : Rr), ∀ x ∈ (K.takeN n q).1, P x
  | 0, q => fun x hx => by cases hx
  | n + 1, q => by
    unfold Kind.takeN
    split
    · intro x hx; cases hx
    · intro x hx
      rcases List.mem_cons.1 hx with rfl | hx
      · exact h q
      · exact takeN_all h n _ x hx
theorem takeL_all {α : Type} {K : Kind α} {P : α → Prop} (h : ∀ q, P (K.take q).1) (most : Int) (q : Rr) : ∀ x ∈ (K.takeL most q).1, P x := by
  unfold Kind.takeL
  simp only
  split
  · intro x hx; cases hx
  · split
    · intro x hx; cases hx
    · exact takeN_all h _ _
theorem takeC_fit (q : Rr) : Fit (takeC q).1.b.m := by
  unfold takeC
  simp only
  split
  · exact (show Fit 0 from ⟨by decide, by decide⟩)
  · exact takeBody_fit _ _
end Cd
/-- while a message is decoded: the reader at b, the result's box, one's own box at o -/
structure TM (b o : Nat) (w wb : World) (v0 v1 v2 v3 v4 v5 : Value) (q : Rr) (W : World) : Prop where
  rq : RQ b wb q W
  res : W.heap[w.heap.size]? = some (.cells #[.int .i64 0, .int .i64 0, .int .i64 0, .slice none 0 0, .slice none 0 0, .slice none 0 0] MT (0, 0))
  hb : w.heap.size < b
  lo : b < o
  bel : Below w.heap.size w W
  own : W.heap[o]? = some (.cells #[v0, v1, v2, v3, v4, v5] MT (0, 0))
theorem TM.call {b o : Nat} {w wb W W' : World} {v0 v1 v2 v3 v4 v5 : Value} {q q' : Rr} (h : TM b o w wb v0 v1 v2 v3 v4 v5 q W) (hr : RQ b wb q' W') (hg : W.grownBy W' (some b)) : TM b o w wb v0 v1 v2 v3 v4 v5 q' W' := by
  have h1 := h.hb
  have h2 := h.lo
  exact ⟨hr, (hg.block _ (lt_of_row h.res) (by simp; omega)).trans h.res, h1, h2, h.bel.grown hg h.bel.size (fun k e => by cases e; omega), (hg.block _ (lt_of_row h.own) (by simp; omega)).trans h.own⟩
theorem TM.below {b o : Nat} {w wb W W' : World} {v0 v1 v2 v3 v4 v5 : Value} {q : Rr} (h : TM b o w wb v0 v1 v2 v3 v4 v5 q W) (hb : Below W.heap.size W W') : TM b o w wb v0 v1 v2 v3 v4 v5 q W' :=
  ⟨h.rq.below hb, (hb.block _ (lt_of_row h.res)).trans h.res, h.hb, h.lo, h.bel.trans (hb.mono h.bel.size), (hb.block _ (lt_of_row h.own)).trans h.own⟩
theorem TM.set {b o : Nat} {w wb W : World} {v0 v1 v2 v3 v4 v5 u0 u1 u2 u3 u4 u5 : Value} {q : Rr} (h : TM b o w wb v0 v1 v2 v3 v4 v5 q W) (ho : wb.heap.size ≤ o) (j : Nat) (x : Value) (e : (#[v0, v1, v2, v3, v4, v5] : Array Value).setIfInBounds j x = #[u0, u1, u2, u3, u4, u5]) : TM b o w wb u0 u1 u2 u3 u4 u5 q (W.setCell ⟨o, j, none⟩ x) := by
  have h1 := h.hb
  have h2 := h.lo
  refine ⟨h.rq.set ho j x, (Bx.ne (by omega) _).trans h.res, h1, h2, h.bel.setCell (p := ⟨o, j, none⟩) (by simp; omega) x, ?_⟩
  rw [← e]
  exact Bx.set h.own _
theorem TM.start {b : Nat} {w wb w1 : World} {q' : Rr} (B0 : wb.heap[w.heap.size]? = some (.cells #[.int .i64 0, .int .i64 0, .int .i64 0, .slice none 0 0, .slice none 0 0, .slice none 0 0] MT (0, 0))) (HB : Below w.heap.size w wb) (r1 : RQ b wb q' w1) (g1 : wb.grownBy w1 (some b)) (hb : w.heap.size < b) (k : Int) : TM b w1.heap.size w wb (.int .i64 k) (.int .i64 0) (.int .i64 0) (.slice none 0 0) (.slice none 0 0) (.slice none 0 0) q' (w1.alloc (.cells #[.int .i64 k, .int .i64 0, .int .i64 0, .slice none 0 0, .slice none 0 0, .slice none 0 0] MT)) := by
  have hsz := g1.size
  have hb1 := r1.lt
  have b1 := bel1 w1 (.cells #[.int .i64 k, .int .i64 0, .int .i64 0, .slice none 0 0, .slice none 0 0, .slice none 0 0] MT)
  have s1 := (g1.block _ (lt_of_row B0) (by simp; omega)).trans B0
  exact ⟨r1.below b1, (b1.block _ (lt_of_row s1)).trans s1, hb, by omega, (HB.grown g1 HB.size (fun k e => by cases e; omega)).trans (b1.mono (Nat.le_trans HB.size hsz)), at1 w1 _⟩
end Go.Proofs.YtdhlebmgeiiejaaGreat
