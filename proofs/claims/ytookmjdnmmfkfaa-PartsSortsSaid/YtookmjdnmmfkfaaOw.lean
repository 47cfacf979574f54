/- The steps of a drawn region's walk. Nothing of the program. -/
import Derived.Test.YtookmjdnmmfkfaaOg
import Derived.WalkKit
import Derived.Tactics2
namespace Go.Proofs.Ytookmjdnmmfkfaa
open Go Go.RowKit

namespace Og
variable {P : Program} {ρ : Rl} {ops : Array Oper} {w : World} {Q : List (Nat × Ph) → Act → Prop} {o : Oper} {rest : List Oper} {U : List (Nat × Ph)} {a : Act}

theorem one_value (W W' : World) (φ : Ph) (u : Value) : one P ρ W φ (.ok (.value u) W') = (ρ.r W W' ∧ φ u W') := rfl
theorem one_skip (W W' : World) (φ : Ph) : one P ρ W φ (.ok .skip W') = (ρ.r W W' ∧ φ undef W') := rfl
theorem one_enter (W W' : World) (φ : Ph) (f : FuncId) (args : Array Value) : one P ρ W φ (.ok (.enter f args) W') = Calls P f args W' fun e W'' => ∃ v, e = .returned v ∧ ρ.r W W'' ∧ φ v W'' := rfl
theorem r_self (W : World) : ρ.r W W = True := eq_true (ρ.refl W)
theorem opened_nil (W : World) (K : Act → Prop) : opened [] W a K = K a := rfl
theorem opened_cons (u : Nat × Ph) (us : List (Nat × Ph)) (W : World) (K : Act → Prop) : opened (u :: us) W a K = ∀ v, u.2 v W → opened us W (a.put (some u.1) v) K := rfl

/-- a step whose value is told -/
theorem det (S : List (Nat × Ph)) (hS : seen ops o U = S) (h : ∀ K : List (Nat × Ph) → Act → Prop, (∀ U a, walk P ρ ops w Q rest U a → K U a) →
    if Region.wanted o (yielded ops a.tmps) then (∃ v, (∀ p : Lat ρ w, opened S p.W a fun a' => one P ρ p.W (fun u _ => u = v) ((execOp a'.eval o).run P p.W)) ∧ K U (a.put o.dst v)) else K U (a.put o.dst undef)) : walk P ρ ops w Q (o :: rest) U a := by
  subst hS
  have := h (walk P ρ ops w Q rest) (fun _ _ h => h)
  unfold walk
  split
  · rename_i hw
    rw [if_pos hw] at this
    exact .inl this
  · rename_i hw
    rw [if_neg hw] at this
    exact this
/-- a step of whose value it is said what it is like -/
theorem such (d : Nat) (φ : Ph) (S : List (Nat × Ph)) (hS : seen ops o U = S) (hl : Lasts ρ φ) (hb : NoBool φ) (h : ∀ K : List (Nat × Ph) → Act → Prop, (∀ U a, walk P ρ ops w Q rest U a → K U a) →
    Region.wanted o (yielded ops a.tmps) = true ∧ o.dst = some d ∧ d < a.tmps.size ∧ (∀ p : Lat ρ w, opened S p.W a fun a' => one P ρ p.W φ ((execOp a'.eval o).run P p.W)) ∧ K ((d, φ) :: U) (a.put (some d) undef)) : walk P ρ ops w Q (o :: rest) U a := by
  subst hS
  obtain ⟨hw, h1, h2, h3, h4⟩ := h (walk P ρ ops w Q rest) (fun _ _ h => h)
  unfold walk
  rw [if_pos hw]
  exact .inr ⟨d, φ, h1, h2, hl, hb, h3, h4⟩
theorem fin (h : Q U a) : walk P ρ ops w Q [] U a := h

/-- a callee that only reckons; one that lays memory -/
theorem same {f : FuncId} {args : Array Value} {W : World} {v : Value} (h : Calls P f args W fun e W' => e = .returned v ∧ W = W') : Calls P f args W fun e W' => e = .returned v ∧ ρ.r W W' :=
  h.mono fun _ _ h => ⟨h.1, h.2 ▸ ρ.refl W⟩
theorem lays {f : FuncId} {args : Array Value} {W : World} {v : Value} (h : Calls P f args W fun e W' => e = .returned v ∧ Below W.heap.size W W') : Calls P f args W fun e W' => e = .returned v ∧ grows.r W W' := h

/-- a region in which nothing that was there turns -/
theorem grow {id : Nat} {Q : Exit → Act → World → Prop} {l : List Oper} (n : Nat) (hm : P.follows .mixedOrders = true) (hB : okB .any l n = true)
    (h : (∀ (p : Lat grows w) b o, b < w.heap.size → p.W.cell? ⟨b, o, none⟩ = w.cell? ⟨b, o, none⟩) → (∀ (p : Lat grows w) b o, b < w.heap.size → p.W.frozen? ⟨b, o, none⟩ = w.frozen? ⟨b, o, none⟩) →
      walk P grows (l.take n).toArray w (fun U A => ∀ W, Below w.heap.size w W → opened U W A fun a' => wpList P l.toArray Q (l.drop n) a' W) (l.take n) [] a) : (Code.region id l.toArray true).wp P Q a w := by
  refine region grows n hm hB ?_
  have := h (fun p b o hb => Below.cell (p := ⟨b, o, none⟩) p.h hb) (fun p b o hb => Below.frozen (p := ⟨b, o, none⟩) p.h hb)
  have e : (fun (U : List (Nat × Ph)) (A : Act) => ∀ W, Below w.heap.size w W → opened U W A fun a' => wpList P l.toArray Q (l.drop n) a' W) = (fun U A => ∀ p : Lat grows w, opened U p.W A fun a' => wpList P l.toArray Q (l.drop n) a' p.W) := by
    funext U A
    exact propext ⟨fun k p => k p.W p.h, fun k W hW => k ⟨W, hW⟩⟩
  rw [e] at this
  exact this

/-- a block of one's own that holds these cells -/
def Fresh (B : Nat) (cs : Array Value) (T : TypeId) (n : Nat) : Ph := fun v W => ∃ b, v = .slice (some ⟨b, 0, none⟩) n n ∧ B ≤ b ∧ b < W.heap.size ∧ W.heap[b]? = some (.cells cs T (0, 0))
theorem Fresh.lasts (B : Nat) (cs : Array Value) (T : TypeId) (n : Nat) : Lasts grows (Fresh B cs T n) := fun _ _ _ ⟨b, h1, h2, h3, h4⟩ hr => ⟨b, h1, h2, Nat.lt_of_lt_of_le h3 hr.size, (hr.block b h3).trans h4⟩
theorem Fresh.noBool (B : Nat) (cs : Array Value) (T : TypeId) (n : Nat) : NoBool (Fresh B cs T n) := fun _ _ ⟨_, h, _⟩ => by cases h
/-- a box of one's own that holds these cells -/
def Box (B : Nat) (cs : Array Value) (T : TypeId) : Ph := fun v W => ∃ b, v = .pointer (some ⟨b, 0, none⟩) ∧ B ≤ b ∧ b < W.heap.size ∧ W.heap[b]? = some (.cells cs T (0, 0))
theorem Box.lasts (B : Nat) (cs : Array Value) (T : TypeId) : Lasts grows (Box B cs T) := fun _ _ _ ⟨b, h1, h2, h3, h4⟩ hr => ⟨b, h1, h2, Nat.lt_of_lt_of_le h3 hr.size, (hr.block b h3).trans h4⟩
theorem Box.noBool (B : Nat) (cs : Array Value) (T : TypeId) : NoBool (Box B cs T) := fun _ _ ⟨_, h, _⟩ => by cases h
theorem Box.new (W : World) (B : Nat) (hB : B ≤ W.heap.size) (cs : Array Value) (T : TypeId) : grows.r W (W.alloc (.cells cs T)) ∧ Box B cs T (.pointer (some ⟨W.heap.size, 0, none⟩)) (W.alloc (.cells cs T)) :=
  ⟨(Below.refl _ _).alloc (Nat.le_refl _) _, W.heap.size, rfl, hB, by simp, heap_alloc_new W _⟩
theorem Fresh.new (W : World) (B : Nat) (hB : B ≤ W.heap.size) (cs : Array Value) (T : TypeId) (n : Nat) : grows.r W (W.alloc (.cells cs T)) ∧ Fresh B cs T n (.slice (some ⟨W.heap.size, 0, none⟩) n n) (W.alloc (.cells cs T)) :=
  ⟨(Below.refl _ _).alloc (Nat.le_refl _) _, W.heap.size, rfl, hB, by simp, heap_alloc_new W _⟩
end Og
attribute [go_sem] Og.one_value Og.one_skip Og.one_enter Og.r_self Og.opened_nil Og.opened_cons
end Go.Proofs.Ytookmjdnmmfkfaa
