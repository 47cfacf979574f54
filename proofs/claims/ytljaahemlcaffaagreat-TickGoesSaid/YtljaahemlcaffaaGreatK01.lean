/- The steps of a drawn region's walk. Nothing of the program. Small facts on worlds, blocks and endings. Nothing of the program. Blocks of 3, 11 and 16 cells, known whole: their cells and marks, what stores make of them. Written by wip/tools/genbx.py. Nothing of the program. How an argument that came in is read: an int, a string, a slice of ints or of strings. -/
import Derived.Test.YtljaahemlcaffaaGreatK00
import Derived.WalkKit
import Derived.Tactics2
import Derived.RegionTactic
import Derived.Deep.QuietTactic
import Derived.BigQuiet
import Derived.StillTailTactics
import Derived.Deep.RegionHeld3
import Derived.Deep.DrawnRows
import Derived.Lib.MinMax
import Derived.Handy
import Derived.Lib.Hide
import Derived.Test.YtljaahemlcaffaaGreatRows
import Derived.ProofKit
import Derived.OpenShut
import Derived.ShutString
import Derived.ChangeOld
import Derived.SliceStrings
import Derived.SizedLaws
namespace Go.Proofs.YtljaahemlcaffaaGreat
open Go Go.RowKit

namespace Og
variable {P : Program} {ρ : Rl} {ops : Array Oper} {w : World} {Q : List (Nat × Ph) → Act → Prop} {o : Oper} {rest : List Oper} {U : List (Nat × Ph)} {a : Act}

theorem one_value (W W' : World) (φ : Ph) (u : Value) : one P ρ W φ (.ok (.value u) W') = (ρ.r W W' ∧ φ u W') := rfl
theorem one_skip (W W' : World) (φ : Ph) : one P ρ W φ (.ok .skip W') = (ρ.r W W' ∧ φ undef W') := rfl
theorem one_enter (W W' : World) (φ : Ph) (f : FuncId) (args : Array Value) : one P ρ W φ (.ok (.enter f args) W') = Calls P f args W' fun e W'' => ∃ v, e = .returned v ∧ ρ.r W W'' ∧ φ v W'' := rfl
theorem r_self (W : World) : ρ.r W W = True := eq_true (ρ.refl W)
theorem opened_nil (W : World) (K : Act → Prop) : opened [] W a K = K a := rfl
theorem opened_cons (u : Nat × Ph) (us : List (Nat × Ph)) (W : World) (K : Act → Prop) : opened (u :: us) W a K = ∀ v, u.2 v W → opened us W (a.put (some u.1) v) K := rfl

/-- a step whose value is told -/
theorem det (S : List (Nat × Ph)) (hS : seen ops o U = S) (h : ∀ K : List (Nat × Ph) → Act → Prop, (∀ U a, walk P ρ ops w Q rest U a → K U a) →
    if Region.wanted o (yielded ops a.tmps) then (∃ v, (∀ p : Lat ρ w, opened S p.W a fun a' => one P ρ p.W (fun u _ => u = v) ((execOp a'.eval o).run P p.W)) ∧ K U (a.put o.dst v)) else K U (a.put o.dst undef)) : walk P ρ ops w Q (o :: rest) U a := by
  subst hS
  have := h (walk P ρ ops w Q rest) (fun _ _ h => h)
  unfold walk
  split
  · rename_i hw
    rw [if_pos hw] at this
    exact .inl this
  · rename_i hw
    rw [if_neg hw] at this
    exact this
/-- a step of whose value it is said what it is like -/
theorem such (d : Nat) (φ : Ph) (S : List (Nat × Ph)) (hS : seen ops o U = S) (hl : Lasts ρ φ) (hb : NoBool φ) (h : ∀ K : List (Nat × Ph) → Act → Prop, (∀ U a, walk P ρ ops w Q rest U a → K U a) →
    Region.wanted o (yielded ops a.tmps) = true ∧ o.dst = some d ∧ d < a.tmps.size ∧ (∀ p : Lat ρ w, opened S p.W a fun a' => one P ρ p.W φ ((execOp a'.eval o).run P p.W)) ∧ K ((d, φ) :: U) (a.put (some d) undef)) : walk P ρ ops w Q (o :: rest) U a := by
  subst hS
  obtain ⟨hw, h1, h2, h3, h4⟩ := h (walk P ρ ops w Q rest) (fun _ _ h => h)
  unfold walk
  rw [if_pos hw]
  exact .inr ⟨d, φ, h1, h2, hl, hb, h3, h4⟩
theorem fin (h : Q U a) : walk P ρ ops w Q [] U a := h

/-- a callee that only reckons; one that lays memory -/
theorem same {f : FuncId} {args : Array Value} {W : World} {v : Value} (h : Calls P f args W fun e W' => e = .returned v ∧ W = W') : Calls P f args W fun e W' => e = .returned v ∧ ρ.r W W' :=
  h.mono fun _ _ h => ⟨h.1, h.2 ▸ ρ.refl W⟩
theorem lays {f : FuncId} {args : Array Value} {W : World} {v : Value} (h : Calls P f args W fun e W' => e = .returned v ∧ Below W.heap.size W W') : Calls P f args W fun e W' => e = .returned v ∧ grows.r W W' := h

/-- a region in which nothing that was there turns -/
theorem grow {id : Nat} {Q : Exit → Act → World → Prop} {l : List Oper} (n : Nat) (hm : P.follows .mixedOrders = true) (hB : okB .any l n = true)
    (h : (∀ (p : Lat grows w) b o, b < w.heap.size → p.W.cell? ⟨b, o, none⟩ = w.cell? ⟨b, o, none⟩) → (∀ (p : Lat grows w) b o, b < w.heap.size → p.W.frozen? ⟨b, o, none⟩ = w.frozen? ⟨b, o, none⟩) →
      walk P grows (l.take n).toArray w (fun U A => ∀ W, Below w.heap.size w W → opened U W A fun a' => wpList P l.toArray Q (l.drop n) a' W) (l.take n) [] a) : (Code.region id l.toArray true).wp P Q a w := by
  refine region grows n hm hB ?_
  have := h (fun p b o hb => Below.cell (p := ⟨b, o, none⟩) p.h hb) (fun p b o hb => Below.frozen (p := ⟨b, o, none⟩) p.h hb)
  have e : (fun (U : List (Nat × Ph)) (A : Act) => ∀ W, Below w.heap.size w W → opened U W A fun a' => wpList P l.toArray Q (l.drop n) a' W) = (fun U A => ∀ p : Lat grows w, opened U p.W A fun a' => wpList P l.toArray Q (l.drop n) a' p.W) := by
    funext U A
    exact propext ⟨fun k p => k p.W p.h, fun k W hW => k ⟨W, hW⟩⟩
  rw [e] at this
  exact this

/-- a block of one's own that holds these cells -/
def Fresh (B : Nat) (cs : Array Value) (T : TypeId) (n : Nat) : Ph := fun v W => ∃ b, v = .slice (some ⟨b, 0, none⟩) n n ∧ B ≤ b ∧ b < W.heap.size ∧ W.heap[b]? = some (.cells cs T (0, 0))
theorem Fresh.lasts (B : Nat) (cs : Array Value) (T : TypeId) (n : Nat) : Lasts grows (Fresh B cs T n) := fun _ _ _ ⟨b, h1, h2, h3, h4⟩ hr => ⟨b, h1, h2, Nat.lt_of_lt_of_le h3 hr.size, (hr.block b h3).trans h4⟩
theorem Fresh.noBool (B : Nat) (cs : Array Value) (T : TypeId) (n : Nat) : NoBool (Fresh B cs T n) := fun _ _ ⟨_, h, _⟩ => by cases h
/-- a box of one's own that holds these cells -/
def Box (B : Nat) (cs : Array Value) (T : TypeId) : Ph := fun v W => ∃ b, v = .pointer (some ⟨b, 0, none⟩) ∧ B ≤ b ∧ b < W.heap.size ∧ W.heap[b]? = some (.cells cs T (0, 0))
theorem Box.lasts (B : Nat) (cs : Array Value) (T : TypeId) : Lasts grows (Box B cs T) := fun _ _ _ ⟨b, h1, h2, h3, h4⟩ hr => ⟨b, h1, h2, Nat.lt_of_lt_of_le h3 hr.size, (hr.block b h3).trans h4⟩
theorem Box.noBool (B : Nat) (cs : Array Value) (T : TypeId) : NoBool (Box B cs T) := fun _ _ ⟨_, h, _⟩ => by cases h
theorem Box.new (W : World) (B : Nat) (hB : B ≤ W.heap.size) (cs : Array Value) (T : TypeId) : grows.r W (W.alloc (.cells cs T)) ∧ Box B cs T (.pointer (some ⟨W.heap.size, 0, none⟩)) (W.alloc (.cells cs T)) :=
  ⟨(Below.refl _ _).alloc (Nat.le_refl _) _, W.heap.size, rfl, hB, by simp, heap_alloc_new W _⟩
theorem Fresh.new (W : World) (B : Nat) (hB : B ≤ W.heap.size) (cs : Array Value) (T : TypeId) (n : Nat) : grows.r W (W.alloc (.cells cs T)) ∧ Fresh B cs T n (.slice (some ⟨W.heap.size, 0, none⟩) n n) (W.alloc (.cells cs T)) :=
  ⟨(Below.refl _ _).alloc (Nat.le_refl _) _, W.heap.size, rfl, hB, by simp, heap_alloc_new W _⟩
end Og
attribute [go_sem] Og.one_value Og.one_skip Og.one_enter Og.r_self Og.opened_nil Og.opened_cons
end Go.Proofs.YtljaahemlcaffaaGreat
namespace Go.Proofs.YtljaahemlcaffaaGreat
open Go.RowKit

theorem below_dn (w : World) (n : Nat) : Below w.heap.size w (w.drewN n) := ⟨rfl, rfl, rfl, Nat.le_refl _, fun _ _ => rfl⟩
theorem ret_bool {a b : Bool} (h : a = b) : Ending.returned (.bool a) = .returned (.bool b) := by rw [h]
theorem ret_int {k : IntKind} {a b : Int} (h : a = b) : Ending.returned (.int k a) = .returned (.int k b) := by rw [h]


theorem still_tail {P : Program} {id : Nat} {Q : Exit → Act → World → Prop} {a : Act} {w : World} {l : List Oper} (n : Nat) (hm : P.follows .mixedOrders = true) (hB : Region.lexTailB .any l.toArray n = true)
    (h : ∀ W : World, (∀ p, W.cell? p = w.cell? p) → Hid (W = w.drew) → wpStill P l.toArray W (fun a' => wpList P l.toArray Q (l.drop n) a' W) (l.take n) a) : (Code.region id l.toArray true).wp P Q a w :=
  wp_region_still_tail n hm hB (h w.drew (fun _ => rfl) (Lib.hid rfl))
theorem still_of {P : Program} {f : FuncId} {args : Array Value} {w : World} {v : Value} (h : Calls P f args w fun e w' => e = .returned v ∧ w = w') : Calls P f args w fun e w' => e = .returned v ∧ w' = w :=
  h.mono fun _ _ h => ⟨h.1, h.2.symm⟩


theorem run_max_ints3 {P : Program} (w : World) (ts : Array TypeId) (t : TypeId) (k k' k'' : IntKind) (x y z : Int) : (Builtin.max_ ts t #[.int k x, .int k' y, .int k'' z]).run P w = .ok (.int k (max (max x y) z)) w := by
  have e : (if z > (if y > x then y else x) then z else (if y > x then y else x)) = max (max x y) z := by
    rw [Int.max_def, Int.max_def]
    split <;> split <;> split <;> omega
  simp [Builtin.max_, Builtin.max2, e]


theorem bcell {W w1 : World} (hb : Below W.heap.size W w1) : (∀ b o, b < W.heap.size → w1.cell? ⟨b, o, none⟩ = W.cell? ⟨b, o, none⟩) ∧ (∀ b o, b < W.heap.size → w1.frozen? ⟨b, o, none⟩ = W.frozen? ⟨b, o, none⟩) :=
  ⟨fun b o h => hb.cell (p := ⟨b, o, none⟩) h, fun b o h => hb.frozen (p := ⟨b, o, none⟩) h⟩
theorem set4 {B : Nat} {w W : World} (h : Below B w W) (b : Nat) (hb : B ≤ b) (v0 v1 v2 v3 : Value) : Below B w ((((W.setCell ⟨b, 0, none⟩ v0).setCell ⟨b, 1, none⟩ v1).setCell ⟨b, 2, none⟩ v2).setCell ⟨b, 3, none⟩ v3) :=
  (((h.setCell hb v0).setCell hb v1).setCell hb v2).setCell hb v3
theorem bel2 (w : World) (o p : Obj) : Below w.heap.size w ((w.alloc o).alloc p) := ((Below.refl _ _).alloc (Nat.le_refl _) o).alloc (by simp) p
theorem bel1 (w : World) (o : Obj) : Below w.heap.size w (w.alloc o) := (Below.refl _ _).alloc (Nat.le_refl _) o
theorem Below.dn' {B : Nat} {a w : World} (h : Below B a w) (n : Nat) : Below B a (w.drewN n) := ⟨h.os, h.tape, h.output, h.size, h.block⟩
theorem Below.d' {B : Nat} {a w : World} (h : Below B a w) : Below B a w.drew := ⟨h.os, h.tape, h.output, h.size, h.block⟩


theorem size1 (w : World) (o : Obj) : (w.alloc o).heap.size = w.heap.size + 1 := by simp
theorem size2 (w : World) (o p : Obj) : ((w.alloc o).alloc p).heap.size = w.heap.size + 2 := by simp
theorem at1 (w : World) (o : Obj) : (w.alloc o).heap[w.heap.size]? = some o := heap_alloc_new w o
theorem at2a (w : World) (o p : Obj) : ((w.alloc o).alloc p).heap[w.heap.size]? = some o := (Below.heap_alloc _ p _ (by simp)).trans (heap_alloc_new w o)
theorem at2b (w : World) (o p : Obj) : ((w.alloc o).alloc p).heap[w.heap.size + 1]? = some p := by have := heap_alloc_new (w.alloc o) p; rwa [size1] at this
theorem box4 {W : World} {b T : Nat} {v0 v1 v2 v3 : Value} (h : W.heap[b]? = some (.cells #[v0, v1, v2, v3] T (0, 0))) :
    (W.cell? ⟨b, 0, none⟩ = some v0 ∧ W.cell? ⟨b, 1, none⟩ = some v1 ∧ W.cell? ⟨b, 2, none⟩ = some v2 ∧ W.cell? ⟨b, 3, none⟩ = some v3) ∧
    (W.frozen? ⟨b, 0, none⟩ = false ∧ W.frozen? ⟨b, 1, none⟩ = false ∧ W.frozen? ⟨b, 2, none⟩ = false ∧ W.frozen? ⟨b, 3, none⟩ = false) := by
  simp [World.cell?, World.frozen?, h]
theorem set4_same {W : World} {b T : Nat} {u0 u1 u2 u3 : Value} (h : W.heap[b]? = some (.cells #[u0, u1, u2, u3] T (0, 0))) (v0 v1 v2 v3 : Value) :
    ((((W.setCell ⟨b, 0, none⟩ v0).setCell ⟨b, 1, none⟩ v1).setCell ⟨b, 2, none⟩ v2).setCell ⟨b, 3, none⟩ v3).heap[b]? = some (.cells #[v0, v1, v2, v3] T (0, 0)) := by
  have h1 := heap_setCell_same W b 0 _ T v0 h
  have h2 := heap_setCell_same _ b 1 _ T v1 h1
  have h3 := heap_setCell_same _ b 2 _ T v2 h2
  have h4 := heap_setCell_same _ b 3 _ T v3 h3
  rw [h4]
  rfl
theorem set4_other {W : World} {b b' : Nat} (h : b' ≠ b) (v0 v1 v2 v3 : Value) :
    ((((W.setCell ⟨b, 0, none⟩ v0).setCell ⟨b, 1, none⟩ v1).setCell ⟨b, 2, none⟩ v2).setCell ⟨b, 3, none⟩ v3).heap[b']? = W.heap[b']? := by
  rw [Below.heap_setCell _ _ _ _ h, Below.heap_setCell _ _ _ _ h, Below.heap_setCell _ _ _ _ h, Below.heap_setCell _ _ _ _ h]
theorem set4_size {W : World} {b : Nat} (v0 v1 v2 v3 : Value) :
    ((((W.setCell ⟨b, 0, none⟩ v0).setCell ⟨b, 1, none⟩ v1).setCell ⟨b, 2, none⟩ v2).setCell ⟨b, 3, none⟩ v3).heap.size = W.heap.size := by simp
theorem cellAt {w : World} {b : Nat} {cs : Array Value} {T : TypeId} {fr : Nat × Nat} (hb : w.heap[b]? = some (.cells cs T fr)) (j : Nat) : w.cell? ⟨b, j, none⟩ = cs[j]? := by
  simp [World.cell?, hb]
theorem box2 {W : World} {b T : Nat} {v0 v1 : Value} (h : W.heap[b]? = some (.cells #[v0, v1] T (0, 0))) :
    (W.cell? ⟨b, 0, none⟩ = some v0 ∧ W.cell? ⟨b, 1, none⟩ = some v1) ∧ (W.frozen? ⟨b, 0, none⟩ = false ∧ W.frozen? ⟨b, 1, none⟩ = false) := by
  simp [World.cell?, World.frozen?, h]
theorem size3 (w : World) (o p q : Obj) : (((w.alloc o).alloc p).alloc q).heap.size = w.heap.size + 3 := by simp
theorem at3a (w : World) (o p q : Obj) : (((w.alloc o).alloc p).alloc q).heap[w.heap.size]? = some o := (Below.heap_alloc _ q _ (by simp; omega)).trans (at2a w o p)
theorem at3b (w : World) (o p q : Obj) : (((w.alloc o).alloc p).alloc q).heap[w.heap.size + 1]? = some p := (Below.heap_alloc _ q _ (by simp)).trans (at2b w o p)
theorem at3c (w : World) (o p q : Obj) : (((w.alloc o).alloc p).alloc q).heap[w.heap.size + 2]? = some q := by have := heap_alloc_new ((w.alloc o).alloc p) q; rwa [size2] at this
theorem bel3 (w : World) (o p q : Obj) : Below w.heap.size w (((w.alloc o).alloc p).alloc q) := (bel2 w o p).alloc (by simp; omega) q
/-- an int of Go's int -/
def I (n : Int) : Prop := -9223372036854775808 ≤ n ∧ n ≤ 9223372036854775807
instance (n : Int) : Decidable (I n) := by unfold I; infer_instance
end Go.Proofs.YtljaahemlcaffaaGreat
namespace Go.Proofs.YtljaahemlcaffaaGreat
open Go.RowKit
set_option linter.unusedVariables false

namespace Bx
variable {W W' : World}
theorem lt {b : Nat} {o : Obj} (h : W.heap[b]? = some o) : b < W.heap.size := (Array.getElem?_eq_some_iff.1 h).1
theorem cell {b o : Nat} {cur : Array Value} {T : TypeId} {v : Value} (h : W.heap[b]? = some (.cells cur T (0, 0))) (hv : cur[o]? = some v) :
    W.cell? ⟨b, o, none⟩ = some v ∧ W.frozen? ⟨b, o, none⟩ = false := by
  simp [World.cell?, World.frozen?, h, hv]
theorem ne_heap {b b' : Nat} {o o' : Obj} (h : W.heap[b]? = some o) (h' : W.heap[b']? = some o') (hne : o ≠ o') : b ≠ b' := fun e => by
  subst e
  rw [h] at h'
  exact hne (Option.some.inj h')
theorem ne_type {b b' T T' : Nat} {c c' : Array Value} (h : W.heap[b]? = some (.cells c T (0, 0))) (h' : W.heap[b']? = some (.cells c' T' (0, 0))) (hne : T ≠ T') : b ≠ b' :=
  ne_heap h h' (fun e => by injection e with _ e2; exact hne e2)
theorem set {b o T : Nat} {cur : Array Value} (h : W.heap[b]? = some (.cells cur T (0, 0))) (v : Value) : (W.setCell ⟨b, o, none⟩ v).heap[b]? = some (.cells (cur.setIfInBounds o v) T (0, 0)) :=
  heap_setCell_same W b o _ T v h
theorem ne {b c o : Nat} (h : b ≠ c) (v : Value) : (W.setCell ⟨c, o, none⟩ v).heap[b]? = W.heap[b]? := Below.heap_setCell _ _ _ _ h
theorem b1 {b T : Nat} {v0 : Value} (h : W.heap[b]? = some (.cells #[v0] T (0, 0))) : (W.cell? ⟨b, 0, none⟩ = some v0) ∧ (W.frozen? ⟨b, 0, none⟩ = false) :=
  ⟨(cell h (o := 0) rfl).1, (cell h (o := 0) rfl).2⟩
theorem b2 {b T : Nat} {v0 v1 : Value} (h : W.heap[b]? = some (.cells #[v0, v1] T (0, 0))) : (W.cell? ⟨b, 0, none⟩ = some v0 ∧ W.cell? ⟨b, 1, none⟩ = some v1) ∧ (W.frozen? ⟨b, 0, none⟩ = false ∧ W.frozen? ⟨b, 1, none⟩ = false) :=
  ⟨⟨(cell h (o := 0) rfl).1, (cell h (o := 1) rfl).1⟩, ⟨(cell h (o := 0) rfl).2, (cell h (o := 1) rfl).2⟩⟩
theorem b3 {b T : Nat} {v0 v1 v2 : Value} (h : W.heap[b]? = some (.cells #[v0, v1, v2] T (0, 0))) : (W.cell? ⟨b, 0, none⟩ = some v0 ∧ W.cell? ⟨b, 1, none⟩ = some v1 ∧ W.cell? ⟨b, 2, none⟩ = some v2) ∧ (W.frozen? ⟨b, 0, none⟩ = false ∧ W.frozen? ⟨b, 1, none⟩ = false ∧ W.frozen? ⟨b, 2, none⟩ = false) :=
  ⟨⟨(cell h (o := 0) rfl).1, (cell h (o := 1) rfl).1, (cell h (o := 2) rfl).1⟩, ⟨(cell h (o := 0) rfl).2, (cell h (o := 1) rfl).2, (cell h (o := 2) rfl).2⟩⟩
theorem set3 {b T : Nat} {v0 v1 v2 : Value} (h : W.heap[b]? = some (.cells #[v0, v1, v2] T (0, 0))) (u0 u1 u2 : Value) : (((W.setCell ⟨b, 0, none⟩ u0).setCell ⟨b, 1, none⟩ u1).setCell ⟨b, 2, none⟩ u2).heap[b]? = some (.cells #[u0, u1, u2] T (0, 0)) := by
  have h0 : (W.setCell ⟨b, 0, none⟩ u0).heap[b]? = some (.cells #[u0, v1, v2] T (0, 0)) := heap_setCell_same _ b 0 _ T u0 h
  have h1 : ((W.setCell ⟨b, 0, none⟩ u0).setCell ⟨b, 1, none⟩ u1).heap[b]? = some (.cells #[u0, u1, v2] T (0, 0)) := heap_setCell_same _ b 1 _ T u1 h0
  have h2 : (((W.setCell ⟨b, 0, none⟩ u0).setCell ⟨b, 1, none⟩ u1).setCell ⟨b, 2, none⟩ u2).heap[b]? = some (.cells #[u0, u1, u2] T (0, 0)) := heap_setCell_same _ b 2 _ T u2 h1
  exact h2
theorem put3 {B b : Nat} {w : World} (h : Below B w W) (hb : B ≤ b) (u0 u1 u2 : Value) : Below B w (((W.setCell ⟨b, 0, none⟩ u0).setCell ⟨b, 1, none⟩ u1).setCell ⟨b, 2, none⟩ u2) :=
  ((h.setCell hb u0).setCell hb u1).setCell hb u2
theorem b11 {b T : Nat} {v0 v1 v2 v3 v4 v5 v6 v7 v8 v9 v10 : Value} (h : W.heap[b]? = some (.cells #[v0, v1, v2, v3, v4, v5, v6, v7, v8, v9, v10] T (0, 0))) : (W.cell? ⟨b, 0, none⟩ = some v0 ∧ W.cell? ⟨b, 1, none⟩ = some v1 ∧ W.cell? ⟨b, 2, none⟩ = some v2 ∧ W.cell? ⟨b, 3, none⟩ = some v3 ∧ W.cell? ⟨b, 4, none⟩ = some v4 ∧ W.cell? ⟨b, 5, none⟩ = some v5 ∧ W.cell? ⟨b, 6, none⟩ = some v6 ∧ W.cell? ⟨b, 7, none⟩ = some v7 ∧ W.cell? ⟨b, 8, none⟩ = some v8 ∧ W.cell? ⟨b, 9, none⟩ = some v9 ∧ W.cell? ⟨b, 10, none⟩ = some v10) ∧ (W.frozen? ⟨b, 0, none⟩ = false ∧ W.frozen? ⟨b, 1, none⟩ = false ∧ W.frozen? ⟨b, 2, none⟩ = false ∧ W.frozen? ⟨b, 3, none⟩ = false ∧ W.frozen? ⟨b, 4, none⟩ = false ∧ W.frozen? ⟨b, 5, none⟩ = false ∧ W.frozen? ⟨b, 6, none⟩ = false ∧ W.frozen? ⟨b, 7, none⟩ = false ∧ W.frozen? ⟨b, 8, none⟩ = false ∧ W.frozen? ⟨b, 9, none⟩ = false ∧ W.frozen? ⟨b, 10, none⟩ = false) :=
  ⟨⟨(cell h (o := 0) rfl).1, (cell h (o := 1) rfl).1, (cell h (o := 2) rfl).1, (cell h (o := 3) rfl).1, (cell h (o := 4) rfl).1, (cell h (o := 5) rfl).1, (cell h (o := 6) rfl).1, (cell h (o := 7) rfl).1, (cell h (o := 8) rfl).1, (cell h (o := 9) rfl).1, (cell h (o := 10) rfl).1⟩, ⟨(cell h (o := 0) rfl).2, (cell h (o := 1) rfl).2, (cell h (o := 2) rfl).2, (cell h (o := 3) rfl).2, (cell h (o := 4) rfl).2, (cell h (o := 5) rfl).2, (cell h (o := 6) rfl).2, (cell h (o := 7) rfl).2, (cell h (o := 8) rfl).2, (cell h (o := 9) rfl).2, (cell h (o := 10) rfl).2⟩⟩
theorem set11 {b T : Nat} {v0 v1 v2 v3 v4 v5 v6 v7 v8 v9 v10 : Value} (h : W.heap[b]? = some (.cells #[v0, v1, v2, v3, v4, v5, v6, v7, v8, v9, v10] T (0, 0))) (u0 u1 u2 u3 u4 u5 u6 u7 u8 u9 u10 : Value) : (((((((((((W.setCell ⟨b, 0, none⟩ u0).setCell ⟨b, 1, none⟩ u1).setCell ⟨b, 2, none⟩ u2).setCell ⟨b, 3, none⟩ u3).setCell ⟨b, 4, none⟩ u4).setCell ⟨b, 5, none⟩ u5).setCell ⟨b, 6, none⟩ u6).setCell ⟨b, 7, none⟩ u7).setCell ⟨b, 8, none⟩ u8).setCell ⟨b, 9, none⟩ u9).setCell ⟨b, 10, none⟩ u10).heap[b]? = some (.cells #[u0, u1, u2, u3, u4, u5, u6, u7, u8, u9, u10] T (0, 0)) := by
  have h0 : (W.setCell ⟨b, 0, none⟩ u0).heap[b]? = some (.cells #[u0, v1, v2, v3, v4, v5, v6, v7, v8, v9, v10] T (0, 0)) := heap_setCell_same _ b 0 _ T u0 h
  have h1 : ((W.setCell ⟨b, 0, none⟩ u0).setCell ⟨b, 1, none⟩ u1).heap[b]? = some (.cells #[u0, u1, v2, v3, v4, v5, v6, v7, v8, v9, v10] T (0, 0)) := heap_setCell_same _ b 1 _ T u1 h0
  have h2 : (((W.setCell ⟨b, 0, none⟩ u0).setCell ⟨b, 1, none⟩ u1).setCell ⟨b, 2, none⟩ u2).heap[b]? = some (.cells #[u0, u1, u2, v3, v4, v5, v6, v7, v8, v9, v10] T (0, 0)) := heap_setCell_same _ b 2 _ T u2 h1
  have h3 : ((((W.setCell ⟨b, 0, none⟩ u0).setCell ⟨b, 1, none⟩ u1).setCell ⟨b, 2, none⟩ u2).setCell ⟨b, 3, none⟩ u3).heap[b]? = some (.cells #[u0, u1, u2, u3, v4, v5, v6, v7, v8, v9, v10] T (0, 0)) := heap_setCell_same _ b 3 _ T u3 h2
  have h4 : (((((W.setCell ⟨b, 0, none⟩ u0).setCell ⟨b, 1, none⟩ u1).setCell ⟨b, 2, none⟩ u2).setCell ⟨b, 3, none⟩ u3).setCell ⟨b, 4, none⟩ u4).heap[b]? = some (.cells #[u0, u1, u2, u3, u4, v5, v6, v7, v8, v9, v10] T (0, 0)) := heap_setCell_same _ b 4 _ T u4 h3
  have h5 : ((((((W.setCell ⟨b, 0, none⟩ u0).setCell ⟨b, 1, none⟩ u1).setCell ⟨b, 2, none⟩ u2).setCell ⟨b, 3, none⟩ u3).setCell ⟨b, 4, none⟩ u4).setCell ⟨b, 5, none⟩ u5).heap[b]? = some (.cells #[u0, u1, u2, u3, u4, u5, v6, v7, v8, v9, v10] T (0, 0)) := heap_setCell_same _ b 5 _ T u5 h4
  have h6 : (((((((W.setCell ⟨b, 0, none⟩ u0).setCell ⟨b, 1, none⟩ u1).setCell ⟨b, 2, none⟩ u2).setCell ⟨b, 3, none⟩ u3).setCell ⟨b, 4, none⟩ u4).setCell ⟨b, 5, none⟩ u5).setCell ⟨b, 6, none⟩ u6).heap[b]? = some (.cells #[u0, u1, u2, u3, u4, u5, u6, v7, v8, v9, v10] T (0, 0)) := heap_setCell_same _ b 6 _ T u6 h5
  have h7 : ((((((((W.setCell ⟨b, 0, none⟩ u0).setCell ⟨b, 1, none⟩ u1).setCell ⟨b, 2, none⟩ u2).setCell ⟨b, 3, none⟩ u3).setCell ⟨b, 4, none⟩ u4).setCell ⟨b, 5, none⟩ u5).setCell ⟨b, 6, none⟩ u6).setCell ⟨b, 7, none⟩ u7).heap[b]? = some (.cells #[u0, u1, u2, u3, u4, u5, u6, u7, v8, v9, v10] T (0, 0)) := heap_setCell_same _ b 7 _ T u7 h6
  have h8 : (((((((((W.setCell ⟨b, 0, none⟩ u0).setCell ⟨b, 1, none⟩ u1).setCell ⟨b, 2, none⟩ u2).setCell ⟨b, 3, none⟩ u3).setCell ⟨b, 4, none⟩ u4).setCell ⟨b, 5, none⟩ u5).setCell ⟨b, 6, none⟩ u6).setCell ⟨b, 7, none⟩ u7).setCell ⟨b, 8, none⟩ u8).heap[b]? = some (.cells #[u0, u1, u2, u3, u4, u5, u6, u7, u8, v9, v10] T (0, 0)) := heap_setCell_same _ b 8 _ T u8 h7
  have h9 : ((((((((((W.setCell ⟨b, 0, none⟩ u0).setCell ⟨b, 1, none⟩ u1).setCell ⟨b, 2, none⟩ u2).setCell ⟨b, 3, none⟩ u3).setCell ⟨b, 4, none⟩ u4).setCell ⟨b, 5, none⟩ u5).setCell ⟨b, 6, none⟩ u6).setCell ⟨b, 7, none⟩ u7).setCell ⟨b, 8, none⟩ u8).setCell ⟨b, 9, none⟩ u9).heap[b]? = some (.cells #[u0, u1, u2, u3, u4, u5, u6, u7, u8, u9, v10] T (0, 0)) := heap_setCell_same _ b 9 _ T u9 h8
  have h10 : (((((((((((W.setCell ⟨b, 0, none⟩ u0).setCell ⟨b, 1, none⟩ u1).setCell ⟨b, 2, none⟩ u2).setCell ⟨b, 3, none⟩ u3).setCell ⟨b, 4, none⟩ u4).setCell ⟨b, 5, none⟩ u5).setCell ⟨b, 6, none⟩ u6).setCell ⟨b, 7, none⟩ u7).setCell ⟨b, 8, none⟩ u8).setCell ⟨b, 9, none⟩ u9).setCell ⟨b, 10, none⟩ u10).heap[b]? = some (.cells #[u0, u1, u2, u3, u4, u5, u6, u7, u8, u9, u10] T (0, 0)) := heap_setCell_same _ b 10 _ T u10 h9
  exact h10
theorem put11 {B b : Nat} {w : World} (h : Below B w W) (hb : B ≤ b) (u0 u1 u2 u3 u4 u5 u6 u7 u8 u9 u10 : Value) : Below B w (((((((((((W.setCell ⟨b, 0, none⟩ u0).setCell ⟨b, 1, none⟩ u1).setCell ⟨b, 2, none⟩ u2).setCell ⟨b, 3, none⟩ u3).setCell ⟨b, 4, none⟩ u4).setCell ⟨b, 5, none⟩ u5).setCell ⟨b, 6, none⟩ u6).setCell ⟨b, 7, none⟩ u7).setCell ⟨b, 8, none⟩ u8).setCell ⟨b, 9, none⟩ u9).setCell ⟨b, 10, none⟩ u10) :=
  ((((((((((h.setCell hb u0).setCell hb u1).setCell hb u2).setCell hb u3).setCell hb u4).setCell hb u5).setCell hb u6).setCell hb u7).setCell hb u8).setCell hb u9).setCell hb u10
theorem b16 {b T : Nat} {v0 v1 v2 v3 v4 v5 v6 v7 v8 v9 v10 v11 v12 v13 v14 v15 : Value} (h : W.heap[b]? = some (.cells #[v0, v1, v2, v3, v4, v5, v6, v7, v8, v9, v10, v11, v12, v13, v14, v15] T (0, 0))) : (W.cell? ⟨b, 0, none⟩ = some v0 ∧ W.cell? ⟨b, 1, none⟩ = some v1 ∧ W.cell? ⟨b, 2, none⟩ = some v2 ∧ W.cell? ⟨b, 3, none⟩ = some v3 ∧ W.cell? ⟨b, 4, none⟩ = some v4 ∧ W.cell? ⟨b, 5, none⟩ = some v5 ∧ W.cell? ⟨b, 6, none⟩ = some v6 ∧ W.cell? ⟨b, 7, none⟩ = some v7 ∧ W.cell? ⟨b, 8, none⟩ = some v8 ∧ W.cell? ⟨b, 9, none⟩ = some v9 ∧ W.cell? ⟨b, 10, none⟩ = some v10 ∧ W.cell? ⟨b, 11, none⟩ = some v11 ∧ W.cell? ⟨b, 12, none⟩ = some v12 ∧ W.cell? ⟨b, 13, none⟩ = some v13 ∧ W.cell? ⟨b, 14, none⟩ = some v14 ∧ W.cell? ⟨b, 15, none⟩ = some v15) ∧ (W.frozen? ⟨b, 0, none⟩ = false ∧ W.frozen? ⟨b, 1, none⟩ = false ∧ W.frozen? ⟨b, 2, none⟩ = false ∧ W.frozen? ⟨b, 3, none⟩ = false ∧ W.frozen? ⟨b, 4, none⟩ = false ∧ W.frozen? ⟨b, 5, none⟩ = false ∧ W.frozen? ⟨b, 6, none⟩ = false ∧ W.frozen? ⟨b, 7, none⟩ = false ∧ W.frozen? ⟨b, 8, none⟩ = false ∧ W.frozen? ⟨b, 9, none⟩ = false ∧ W.frozen? ⟨b, 10, none⟩ = false ∧ W.frozen? ⟨b, 11, none⟩ = false ∧ W.frozen? ⟨b, 12, none⟩ = false ∧ W.frozen? ⟨b, 13, none⟩ = false ∧ W.frozen? ⟨b, 14, none⟩ = false ∧ W.frozen? ⟨b, 15, none⟩ = false) :=
  ⟨⟨(cell h (o := 0) rfl).1, (cell h (o := 1) rfl).1, (cell h (o := 2) rfl).1, (cell h (o := 3) rfl).1, (cell h (o := 4) rfl).1, (cell h (o := 5) rfl).1, (cell h (o := 6) rfl).1, (cell h (o := 7) rfl).1, (cell h (o := 8) rfl).1, (cell h (o := 9) rfl).1, (cell h (o := 10) rfl).1, (cell h (o := 11) rfl).1, (cell h (o := 12) rfl).1, (cell h (o := 13) rfl).1, (cell h (o := 14) rfl).1, (cell h (o := 15) rfl).1⟩, ⟨(cell h (o := 0) rfl).2, (cell h (o := 1) rfl).2, (cell h (o := 2) rfl).2, (cell h (o := 3) rfl).2, (cell h (o := 4) rfl).2, (cell h (o := 5) rfl).2, (cell h (o := 6) rfl).2, (cell h (o := 7) rfl).2, (cell h (o := 8) rfl).2, (cell h (o := 9) rfl).2, (cell h (o := 10) rfl).2, (cell h (o := 11) rfl).2, (cell h (o := 12) rfl).2, (cell h (o := 13) rfl).2, (cell h (o := 14) rfl).2, (cell h (o := 15) rfl).2⟩⟩
end Bx
end Go.Proofs.YtljaahemlcaffaaGreat
namespace Go.Proofs.YtljaahemlcaffaaGreat
open Go.ChangeShapes Go.WideShapes Go.ChangeAt Go.RowKit
open Go.ChangeMaps (open_string shut_string)

/-- a slice's cells, of one cell each, where there are any: they lie below block B -/
def Reads (w : World) (B : Nat) (A : Option Addr) (xs : List Value) : Prop :=
  0 < xs.length → ∃ b off, A = some ⟨b, off, none⟩ ∧ b < B ∧ ∀ k v, xs[k]? = some v → w.cell? ⟨b, off + k, none⟩ = some v
theorem Reads.below {w w' : World} {B : Nat} {A : Option Addr} {xs : List Value} (h : Reads w B A xs) (hb : Below B w w') : Reads w' B A xs := fun h0 => by
  obtain ⟨b, off, rfl, hB, hc⟩ := h h0
  exact ⟨b, off, rfl, hB, fun k v hv => (hb.cell (p := ⟨b, off + k, none⟩) hB).trans (hc k v hv)⟩
theorem Reads.more {w : World} {B B' : Nat} {A : Option Addr} {xs : List Value} (h : Reads w B A xs) (hb : B ≤ B') : Reads w B' A xs := fun h0 => by
  obtain ⟨b, off, rfl, hB, hc⟩ := h h0
  exact ⟨b, off, rfl, by omega, hc⟩
theorem Reads.at_ {w : World} {B : Nat} {A : Option Addr} {xs : List Value} (h : Reads w B A xs) {k : Nat} (hk : k < xs.length) :
    ∃ b off, A = some ⟨b, off, none⟩ ∧ b < B ∧ w.cell? ⟨b, off + k, none⟩ = some xs[k] := by
  obtain ⟨b, off, rfl, hB, hc⟩ := h (by omega)
  exact ⟨b, off, rfl, hB, hc k _ (List.getElem?_eq_getElem hk)⟩

def ints (l : List Int) : List Value := l.map (Value.int .i64)
def strings (l : List (List UInt8)) : List Value := l.map fun s => Value.string ⟨s.toArray⟩
def I64 (l : List Int) : Prop := ∀ x ∈ l, -9223372036854775808 ≤ x ∧ x ≤ 9223372036854775807

theorem wf_bd {n : Int} (h : (Lit.int .i64 n).wf = true) : -9223372036854775808 ≤ n ∧ n ≤ 9223372036854775807 := bounds_i64 h
theorem len_bd {s : ByteArray} (h : s.size ≤ maxLen) : s.data.toList.length ≤ 9223372036854775807 := by rw [Array.length_toList]; exact h
theorem cell_lt {w : World} {p : Addr} {v : Value} (h : w.cell? p = some v) : p.block < w.heap.size := by
  rcases Nat.lt_or_ge p.block w.heap.size with h' | h'
  · exact h'
  · simp [World.cell?, Array.getElem?_eq_none h'] at h

section
variable {H : Type} {enc : TypeId × Value → H} {P : Program} {w : World} {t e : TypeId} {v : Value} {d : DataW H} {ps : List MemPlace} {b0 : Nat}

theorem cap_bd {elems spare : List (DataW H)} (ht : P.underlying t = some (.slice e)) (hb : 1 ≤ P.bytesOf e) (hz : ∀ n ∈ DataW.weights P t (.slice elems spare), n ≤ reachBytes) : elems.length + spare.length ≤ 140737488351232 := by
  have h := hz ((elems.length + spare.length) * P.bytesOf e) (by simp [DataW.weights, ht])
  have h2 := Nat.mul_le_mul_left (elems.length + spare.length) hb
  have h3 : reachBytes = 140737488351232 := rfl
  omega
theorem mem_weightsAll {n : Nat} {d : DataW H} : ∀ {l : List (DataW H)}, d ∈ l → n ∈ DataW.weights P e d → n ∈ DataW.weightsAll P e l
  | [], h, _ => by simp at h
  | x :: r, h, hn => by
    simp only [DataW.weightsAll, List.mem_append]
    rcases List.mem_cons.1 h with rfl | h
    · exact .inl hn
    · exact .inr (mem_weightsAll h hn)
theorem strs_bd {ss : List ByteArray} {spare : List (DataW H)} (ht : P.underlying t = some (.slice e)) (hz : ∀ n ∈ DataW.weights P t (.slice (strs ss) spare), n ≤ reachBytes) : ∀ y ∈ ss, y.data.toList.length ≤ 140737488351232 := by
  intro y hy
  refine hz _ ?_
  simp only [DataW.weights, ht, List.mem_cons, List.mem_append]
  refine .inr (.inl (mem_weightsAll (d := .lit (.string y.data.toList)) ?_ (by simp [DataW.weights])))
  simp only [strs, List.mem_map]
  exact ⟨y, hy, rfl⟩

theorem in_int (ht : P.underlying t = some (.int .i64)) (hval : Value.okWide P w .any b0 t v) (hd : DataW.Trod enc P w 0 (fun _ => true) true t v d ps) :
    ∃ n : Int, v = .int .i64 n ∧ -9223372036854775808 ≤ n ∧ n ≤ 9223372036854775807 := by
  obtain ⟨x, rfl, _, _, wx⟩ := open_int ht hval hd
  exact ⟨x, rfl, wf_bd wx⟩
theorem in_string (ht : P.underlying t = some .string) (hval : Value.okWide P w .any b0 t v) (hd : DataW.Trod enc P w 0 (fun _ => true) true t v d ps) (hz : ∀ n ∈ DataW.weights P t d, n ≤ reachBytes) :
    ∃ l : List UInt8, v = .string ⟨l.toArray⟩ ∧ l.length ≤ 140737488351232 := by
  obtain ⟨s, rfl, hdd, _, hs⟩ := open_string ht hval hd
  exact ⟨s.data.toList, by simp, hz _ (by rw [hdd]; simp [DataW.weights])⟩
theorem in_ints (ht : P.underlying t = some (.slice e)) (he : P.underlying e = some (.int .i64)) (hc : P.cellsOf e = 1) (hb : 1 ≤ P.bytesOf e) (hval : Value.okWide P w .any b0 t v) (hd : DataW.Trod enc P w 0 (fun _ => true) true t v d ps) (hz : ∀ n ∈ DataW.weights P t d, n ≤ reachBytes) :
    ∃ (A : Option Addr) (cap : Nat) (l : List Int), v = .slice A l.length cap ∧ l.length ≤ cap ∧ cap ≤ 140737488351232 ∧ I64 l ∧ Reads w w.heap.size A (ints l) := by
  obtain ⟨a0, len, cap, rfl⟩ := okWide_slice ht hval
  obtain ⟨fuel, hf⟩ := hd
  rcases open_ints ht he hc hf with ⟨hcs, _⟩ | ⟨x, l, c, zs, hcs, _, hl, hm, hzl, hdx, hcell, hwz⟩
  · simp [Value.cells] at hcs
    obtain ⟨rfl, rfl, rfl⟩ := hcs
    exact ⟨none, 0, [], rfl, Nat.le_refl _, by omega, fun x hx => by simp at hx, fun h0 => absurd h0 (by simp [ints])⟩
  · simp [Value.cells] at hcs
    obtain ⟨rfl, rfl, rfl⟩ := hcs
    have hz' : zs.length = cap := by simpa using hzl
    have hcap : cap ≤ 140737488351232 := by
      simp only [Prod.mk.injEq] at hdx
      obtain ⟨rfl, _⟩ := hdx
      have := cap_bd ht hb hz
      simp only [lits, List.length_map, List.length_take, List.length_drop] at this
      omega
    have hlen : (zs.take len).length = len := by rw [List.length_take]; omega
    refine ⟨some x, cap, zs.take len, by rw [hlen], by rw [hlen]; exact hl, hcap, fun n hn => wf_bd (hwz n (List.mem_of_mem_take hn)), fun h0 => ?_⟩
    have hpos : 0 < zs.length := by simp [ints] at h0; omega
    obtain ⟨b, off, rfl, hcc⟩ := ints_at hcell hpos
    refine ⟨b, off, rfl, cell_lt (hcc 0 hpos), fun k v hv => ?_⟩
    have hk : k < len ∧ k < zs.length := by
      have := (List.getElem?_eq_some_iff.1 hv).1
      simp [ints] at this; omega
    rw [hcc k hk.2]
    rw [← hv]
    simp [ints, hk.1, List.getElem?_eq_getElem hk.2]
theorem strs_at {a : Addr} {ss : List ByteArray} (h : ∀ i, i < ss.length → w.cell? (a.add i) = some (.string (ss.getD i ByteArray.empty))) (hp : 0 < ss.length) :
    ∃ b off, a = ⟨b, off, none⟩ ∧ ∀ j, j < ss.length → w.cell? ⟨b, off + j, none⟩ = some (.string (ss.getD j ByteArray.empty)) := by
  obtain ⟨b, off, spot⟩ := a
  have hspot : spot = none := by simpa [Addr.add] using World.cell?_spot (h 0 hp)
  subst hspot
  exact ⟨b, off, rfl, fun j hj => by rw [← Go.WideShapes.add_plain]; exact h j hj⟩
theorem in_strings (ht : P.underlying t = some (.slice e)) (he : P.underlying e = some .string) (hc : P.cellsOf e = 1) (hb : 1 ≤ P.bytesOf e) (hval : Value.okWide P w .any b0 t v) (hd : DataW.Trod enc P w 0 (fun _ => true) true t v d ps) (hz : ∀ n ∈ DataW.weights P t d, n ≤ reachBytes) :
    ∃ (A : Option Addr) (cap : Nat) (l : List (List UInt8)), v = .slice A l.length cap ∧ l.length ≤ cap ∧ cap ≤ 140737488351232 ∧ (∀ s ∈ l, s.length ≤ 140737488351232) ∧ Reads w w.heap.size A (strings l) := by
  obtain ⟨a0, len, cap, rfl⟩ := okWide_slice ht hval
  obtain ⟨fuel, hf⟩ := hd
  rcases open_strings ht he hc hf with ⟨hcs, _⟩ | ⟨x, l, c, ss, hcs, _, hl, hm, hzl, hdx, hcell, hws⟩
  · simp [Value.cells] at hcs
    obtain ⟨rfl, rfl, rfl⟩ := hcs
    exact ⟨none, 0, [], rfl, Nat.le_refl _, by omega, fun x hx => by simp at hx, fun h0 => absurd h0 (by simp [strings])⟩
  · simp [Value.cells] at hcs
    obtain ⟨rfl, rfl, rfl⟩ := hcs
    have hz' : ss.length = cap := by simpa using hzl
    simp only [Prod.mk.injEq] at hdx
    obtain ⟨rfl, _⟩ := hdx
    have hcap : cap ≤ 140737488351232 := by
      have := cap_bd ht hb hz
      simp only [strs, List.length_map, List.length_take, List.length_drop] at this
      omega
    have hsz := strs_bd ht hz
    have hlen : (ss.take len).length = len := by rw [List.length_take]; omega
    refine ⟨some x, cap, (ss.take len).map (·.data.toList), by rw [List.length_map, hlen], by rw [List.length_map, hlen]; exact hl, hcap, fun s hs => ?_, fun h0 => ?_⟩
    · obtain ⟨y, hy, rfl⟩ := List.mem_map.1 hs
      exact hsz y hy
    have hpos : 0 < ss.length := by simp [strings] at h0; omega
    obtain ⟨b, off, rfl, hcc⟩ := strs_at hcell hpos
    refine ⟨b, off, rfl, cell_lt (hcc 0 hpos), fun k v hv => ?_⟩
    have hk : k < len ∧ k < ss.length := by
      have := (List.getElem?_eq_some_iff.1 hv).1
      simp [strings] at this; omega
    rw [hcc k hk.2, ← hv]
    simp [strings, hk.1, List.getElem?_eq_getElem hk.2]
end

end Go.Proofs.YtljaahemlcaffaaGreat
