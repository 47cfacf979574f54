/- A range over a function whose body may make and turn maps, and lay memory: the two blocks of the loop alone must stay. Nothing of the program. -/
import Derived.Test.YteohkbepefjjlaaKBase
import Derived.RangeFuncNested
import Derived.RangeFuncBound
import Derived.RangeFuncCalls
import Derived.RangeFuncLeaves
import Derived.RangeFuncWrites
import Derived.RangeFuncBox
namespace Go.Proofs.Yteohkbepefjjlaa
open Go Go.RowKit
set_option linter.unusedVariables false

namespace Rg
/-- how a round's body may end: the loop's two blocks stay -/
def post {α : Type} (D : Nat) (Kp : World → World → Prop) (I : List α → World → Prop) (Ix : Code → List α → World → Prop) (xs : List α) (W : World) : Exit → Act → World → Prop
  | .normal, _, V => V.heap[D]? = W.heap[D]? ∧ V.heap[D + 1]? = W.heap[D + 1]? ∧ Kp W V ∧ I xs V
  | .ret, _, V => V.heap[D]? = W.heap[D]? ∧ V.heap[D + 1]? = W.heap[D + 1]? ∧ Ix .ret xs V
  | .exit id, _, V => V.heap[D]? = W.heap[D]? ∧ V.heap[D + 1]? = W.heap[D + 1]? ∧ Ix (.exit id) xs V
  | .goto t, _, V => V.heap[D]? = W.heap[D]? ∧ V.heap[D + 1]? = W.heap[D + 1]? ∧ Ix (.goto t) xs V
  | .panic _, _, _ => False
  | .outgrown, _, _ => False
/-- a change of one of the loop's blocks -/
def Turn (D : Nat) (A : World) (k : Nat) : Prop := (k = D ∨ k = D + 1) ∧ ∃ o, A.heap[k]? = some o ∧ o.isCells = false ∧ o.isWalk = false
/-- an iterator's contract: it gives just these, or was stopped -/
def Gives {α : Type} (F : Fence) (m : Nat) (P : Program) (gf : Nat) (lb : Array Value) (encs : α → Array Value) (Kp : World → World → Prop) (full : List α) (w : World) : Prop :=
  ∀ (l : Nat) (J Jx : List α → World → Prop) (W : World), Below w.heap.size w W → (∀ xs A B, J xs A → Below A.heap.size A B → J xs B) →
    (∀ pre x A, J pre A → pre ++ [x] <+: full → YieldAt F (m - 1) P l (encs x) A fun e B => (e = .returned (.bool true) ∧ J (pre ++ [x]) B ∧ Kp A B) ∨ (e = .returned (.bool false) ∧ Jx (pre ++ [x]) B)) →
    J [] W → CallsIn F m P gf (#[.func (.yield l) #[] #[]] ++ lb) W fun e V => (∃ v, e = .returned v) ∧ (J full V ∨ ∃ pre, Jx pre V)
theorem put_below {D : Nat} {W : World} {o : Obj} : (W.putObj D o).heap.size = W.heap.size := by simp [World.putObj]
theorem range {α : Type} {F : Fence} {n : Nat} {P : Program} {g : Operand} {ps : Array Tmp} {assign body : Code} {Q : Exit → Act → World → Prop} {a : Act} {w : World}
    (hro : F.round = none) (h1 : 1 ≤ n) {gf : Nat} {lb : Array Value} (hg : a.eval g = .func (.func gf) #[] lb) (hFg : F.fn gf) (eg : ∀ args w, (callFunc gf args).run P w = .ok (.enter gf args) w)
    {encs : α → Array Value} (hps : ∀ x, (encs x).size = ps.size) {Kp : World → World → Prop} {full : List α} (I : List α → World → Prop) (Ix : Code → List α → World → Prop) (Ax : α → Act → World → Prop)
    (hKt : ∀ {A B C : World}, Kp A B → Kp B C → Kp A C) (hKb : ∀ xs A B, I xs A → Below A.heap.size A B → Kp A B) (hKp : ∀ A k o', Turn w.heap.size A k → Kp A (A.putObj k o'))
    (hIb : ∀ xs A B, I xs A → Below A.heap.size A B → I xs B) (hIp : ∀ xs A k o', Turn w.heap.size A k → I xs A → I xs (A.putObj k o')) (hIxp : ∀ c xs A k o', Turn w.heap.size A k → Ix c xs A → Ix c xs (A.putObj k o'))
    (hAp : ∀ x a' A k o', Turn w.heap.size A k → Ax x a' A → Ax x a' (A.putObj k o'))
    (seq : Gives F (n - 1) P gf lb encs Kp full w)
    (hassign : ∀ (l : Nat) (x : α) (W : World) (K : Act → World → Prop), (∀ a' V, Below W.heap.size W V → Ax x a' V → K a' V) → assign.wpIn (F.inRound l) (n - 1 - 1) P (Exit.then K (fun _ _ _ => False)) { tmps := (ps.zip (encs x)).foldl (fun t (p, v) => t.setIfInBounds p v) a.tmps, defers := [] } W)
    (hbody : ∀ (pre : List α) (x : α) (W : World) (a' : Act), I pre W → pre ++ [x] <+: full → Ax x a' W → (∃ r, W.heap[w.heap.size + 1]? = some (.loop r)) → W.heap[w.heap.size]? = some (.deferred (some [])) → body.wpIn (F.inRound (w.heap.size + 1)) (n - 1 - 1) P (post w.heap.size Kp I Ix (pre ++ [x]) W) a' W)
    (h0 : I [] w)
    (hdone : ∀ (W : World), I full W → W.heap[w.heap.size]? = some (.deferred (some [])) → Q .normal { a with defers := { target := .collected w.heap.size, args := #[] } :: a.defers } W)
    (hstop : ∀ (c : Code) (pre : List α) (W : World), Ix c pre W → W.heap[w.heap.size]? = some (.deferred (some [])) → c.wpIn F n P Q { a with defers := { target := .collected w.heap.size, args := #[] } :: a.defers } W) :
    (Code.rangeFunc g ps assign body).wpIn F n P Q a w := by
  refine wpIn_rangeFunc fun fn hfn => ?_
  rw [hro]
  obtain ⟨rc, hrc⟩ : ∃ rc : LoopState → Option Code → Loop, rc = fun st pe => { state := st, pending := pe, fn, tmps := a.tmps, params := ps, assign, body, defers := w.heap.size } := ⟨_, rfl⟩
  obtain ⟨w1, hw1⟩ : ∃ w1, (w.alloc (.deferred (some []))).alloc (.loop (rc .ready none)) = w1 := ⟨_, rfl⟩
  have bw : Below w.heap.size w w1 := hw1 ▸ bel2 w _ _
  have kd : w1.heap[w.heap.size]? = some (.deferred (some [])) := hw1 ▸ at2a w _ _
  have kl : w1.heap[w.heap.size + 1]? = some (.loop (rc .ready none)) := hw1 ▸ at2b w _ _
  refine ⟨w.heap.size + 1, [{ target := .collected w.heap.size, args := #[] }], w1, { target := .fn (.func gf) lb, args := #[.func (.yield (w.heap.size + 1)) #[] #[]] }, w1, gf, #[.func (.yield (w.heap.size + 1)) #[] #[]] ++ lb, w1, ?_, ?_, ?_, ?_, fun _ => h1, ?_⟩
  · rw [← hw1, hrc]; exact run_enterLoop_outer _ _ _ _ _
  · simp only [resolve, hg]
    simp [go_sem]
  · intro f' hf'
    simp [Target.leads] at hf'
    subst hf'
    exact hFg
  · simp [invoke, go_sem, eg]
  refine (seq (w.heap.size + 1) (fun xs W => I xs W ∧ W.heap[w.heap.size + 1]? = some (.loop (rc .ready none)) ∧ W.heap[w.heap.size]? = some (.deferred (some [])))
    (fun xs W => ∃ c, Ix c xs W ∧ W.heap[w.heap.size + 1]? = some (.loop (rc .done (some c))) ∧ W.heap[w.heap.size]? = some (.deferred (some []))) w1 bw
    (fun xs A B hJ hb => ⟨hIb xs A B hJ.1 hb, (hb.block _ (Array.getElem?_eq_some_iff.1 hJ.2.1).1).trans hJ.2.1, (hb.block _ (Array.getElem?_eq_some_iff.1 hJ.2.2).1).trans hJ.2.2⟩) ?_ ⟨hIb _ _ _ h0 bw, kl, kd⟩).mono ?_
  · rintro pre x A ⟨hI, hl, hd⟩ hpre
    have hy := run_yield (P := P) (args := encs x) hl (by rw [hrc]; exact hps x)
    rw [hrc] at hy
    refine ⟨fn, _, assign, body, hy, roundIn_of_wpIn hfn (hassign _ x A _ fun a' V hb hA => ?_)⟩
    have hlV := (hb.block _ (Array.getElem?_eq_some_iff.1 hl).1).trans hl
    have hdV := (hb.block _ (Array.getElem?_eq_some_iff.1 hd).1).trans hd
    have tl : Turn w.heap.size V (w.heap.size + 1) := ⟨.inr rfl, _, hlV, rfl, rfl⟩
    refine ⟨_, run_beginRound hlV (by rw [hrc]), ?_⟩
    have lt1 := (Array.getElem?_eq_some_iff.1 hlV).1
    have hl2 : (V.putObj (w.heap.size + 1) (.loop { rc .ready none with state := .busy })).heap[w.heap.size + 1]? = some (.loop { rc .ready none with state := .busy }) := World.putObj_heap_same lt1
    have hd2 : (V.putObj (w.heap.size + 1) (.loop { rc .ready none with state := .busy })).heap[w.heap.size]? = some (.deferred (some [])) := (World.putObj_heap_other (by omega)).trans hdV
    have k2 : Kp A (V.putObj (w.heap.size + 1) (.loop { rc .ready none with state := .busy })) := hKt (hKb _ A V hI hb) (hKp V _ _ tl)
    refine wpIn_mono (hbody pre x _ a' (hIp _ _ _ _ tl (hIb _ _ _ hI hb)) hpre (hAp _ _ _ _ _ tl hA) ⟨_, hl2⟩ hd2) ?_
    have fin : ∀ (jump : Option Code) (V3 : World), V3.heap[w.heap.size]? = (V.putObj (w.heap.size + 1) (.loop { rc .ready none with state := .busy })).heap[w.heap.size]? → V3.heap[w.heap.size + 1]? = (V.putObj (w.heap.size + 1) (.loop { rc .ready none with state := .busy })).heap[w.heap.size + 1]? →
        (Instr.endRound (w.heap.size + 1) jump).run P V3 = .ok (.bool jump.isNone) (V3.putObj (w.heap.size + 1) (.loop (rc (if jump.isNone then .ready else .done) jump))) ∧ Turn w.heap.size V3 (w.heap.size + 1) ∧
        (V3.putObj (w.heap.size + 1) (.loop (rc (if jump.isNone then .ready else .done) jump))).heap[w.heap.size + 1]? = some (.loop (rc (if jump.isNone then .ready else .done) jump)) ∧
        (V3.putObj (w.heap.size + 1) (.loop (rc (if jump.isNone then .ready else .done) jump))).heap[w.heap.size]? = some (.deferred (some [])) := fun jump V3 e1 e2 => by
      have g1 := e1.trans hd2
      have g2 := e2.trans hl2
      have := run_endRound (P := P) jump g2
      refine ⟨?_, ⟨.inr rfl, _, g2, rfl, rfl⟩, World.putObj_heap_same (Array.getElem?_eq_some_iff.1 g2).1, (World.putObj_heap_other (by omega)).trans g1⟩
      rw [hrc] at this ⊢
      exact this
    rintro e a3 V3 hp
    cases e with
    | normal =>
      obtain ⟨e1, e2, hk, hi⟩ := hp
      obtain ⟨hr, ht, hl4, hd4⟩ := fin none V3 e1 e2
      exact ⟨_, _, hr, .inl ⟨rfl, ⟨hIp _ _ _ _ ht hi, hl4, hd4⟩, hKt (hKt k2 hk) (hKp _ _ _ ht)⟩⟩
    | ret =>
      obtain ⟨e1, e2, hi⟩ := hp
      obtain ⟨hr, ht, hl4, hd4⟩ := fin (some .ret) V3 e1 e2
      exact ⟨_, _, hr, .inr ⟨rfl, _, hIxp _ _ _ _ _ ht hi, hl4, hd4⟩⟩
    | exit id =>
      obtain ⟨e1, e2, hi⟩ := hp
      obtain ⟨hr, ht, hl4, hd4⟩ := fin (some (.exit id)) V3 e1 e2
      exact ⟨_, _, hr, .inr ⟨rfl, _, hIxp _ _ _ _ _ ht hi, hl4, hd4⟩⟩
    | goto t =>
      obtain ⟨e1, e2, hi⟩ := hp
      obtain ⟨hr, ht, hl4, hd4⟩ := fin (some (.goto t)) V3 e1 e2
      exact ⟨_, _, hr, .inr ⟨rfl, _, hIxp _ _ _ _ _ ht hi, hl4, hd4⟩⟩
    | panic ch => exact hp.elim
    | outgrown => exact hp.elim
  · rintro e V ⟨⟨v, rfl⟩, (⟨hi, hl, hd⟩ | ⟨pre, c, hi, hl, hd⟩)⟩
    · have := run_endLoop (P := P) hl (by rw [hrc]; simp)
      rw [hrc] at this
      exact ⟨none, _, this, hdone _ (hIp _ _ _ _ ⟨.inr rfl, _, hl, rfl, rfl⟩ hi) ((World.putObj_heap_other (by omega)).trans hd)⟩
    · have := run_endLoop (P := P) hl (by rw [hrc]; simp)
      rw [hrc] at this
      exact ⟨some c, _, this, hstop c pre _ (hIxp _ _ _ _ _ ⟨.inr rfl, _, hl, rfl, rfl⟩ hi) ((World.putObj_heap_other (by omega)).trans hd)⟩
end Rg
end Go.Proofs.Yteohkbepefjjlaa
