/- A function that is handed in is not nil; a Builder stays while other blocks are laid. -/
import Derived.Test.YtdhlebmgeiiejaaGreatRows
import Derived.WalkKit
import Derived.Lib.Builder
import Derived.Test.YtdhlebmgeiiejaaGreatKRdr
namespace Go.Proofs.YtdhlebmgeiiejaaGreat
open Go.RowKit
set_option linter.unusedSimpArgs false

theorem fn_put_id (f : Nat) (w : World) : (binOp .eql 110 (.func (.func f) #[] #[]) .nilFunc).run Tryz.prog w = .ok (.bool false) w := by
  have h : ∀ d : Nat, (Op.equalIn (d + 1) 110 (.func (.func f) #[] #[]) .nilFunc).run Tryz.prog w = .ok false w := fun d => by
    simp [Op.equalIn, run_underlying Tryz.underlying110]
  simp only [binOp]
  simp [Op.equal, Op.maxDepth, h 9999]
theorem fn_put_b (f : Nat) (w : World) : (binOp .eql 44 (.func (.func f) #[] #[]) .nilFunc).run Tryz.prog w = .ok (.bool false) w := by
  have h : ∀ d : Nat, (Op.equalIn (d + 1) 44 (.func (.func f) #[] #[]) .nilFunc).run Tryz.prog w = .ok false w := fun d => by
    simp [Op.equalIn, run_underlying Tryz.underlying44]
  simp only [binOp]
  simp [Op.equal, Op.maxDepth, h 9999]
theorem fn_put_c (f : Nat) (w : World) : (binOp .eql 108 (.func (.func f) #[] #[]) .nilFunc).run Tryz.prog w = .ok (.bool false) w := by
  have h : ∀ d : Nat, (Op.equalIn (d + 1) 108 (.func (.func f) #[] #[]) .nilFunc).run Tryz.prog w = .ok false w := fun d => by
    simp [Op.equalIn, run_underlying Tryz.underlying108]
  simp only [binOp]
  simp [Op.equal, Op.maxDepth, h 9999]
theorem fn_take_id (f : Nat) (w : World) : (binOp .eql 30 (.func (.func f) #[] #[]) .nilFunc).run Tryz.prog w = .ok (.bool false) w := by
  have h : ∀ d : Nat, (Op.equalIn (d + 1) 30 (.func (.func f) #[] #[]) .nilFunc).run Tryz.prog w = .ok false w := fun d => by
    simp [Op.equalIn, run_underlying Tryz.underlying30]
  simp only [binOp]
  simp [Op.equal, Op.maxDepth, h 9999]
theorem fn_take_b (f : Nat) (w : World) : (binOp .eql 35 (.func (.func f) #[] #[]) .nilFunc).run Tryz.prog w = .ok (.bool false) w := by
  have h : ∀ d : Nat, (Op.equalIn (d + 1) 35 (.func (.func f) #[] #[]) .nilFunc).run Tryz.prog w = .ok false w := fun d => by
    simp [Op.equalIn, run_underlying Tryz.underlying35]
  simp only [binOp]
  simp [Op.equal, Op.maxDepth, h 9999]
theorem fn_take_c (f : Nat) (w : World) : (binOp .eql 39 (.func (.func f) #[] #[]) .nilFunc).run Tryz.prog w = .ok (.bool false) w := by
  have h : ∀ d : Nat, (Op.equalIn (d + 1) 39 (.func (.func f) #[] #[]) .nilFunc).run Tryz.prog w = .ok false w := fun d => by
    simp [Op.equalIn, run_underlying Tryz.underlying39]
  simp only [binOp]
  simp [Op.equal, Op.maxDepth, h 9999]
theorem builderAt_old {T e : TypeId} {B b : Nat} {p : Value} {bs : List Value} {w w' : World} (h : Lib.BuilderAt T e B b p bs w) (hb : Below w.heap.size w w') : Lib.BuilderAt T e B b p bs w' := by
  have hlt := h.lt
  obtain ⟨h1, v, h2, ⟨h3, h4⟩, h5⟩ := h
  refine ⟨h1, v, (hb.block b hlt).trans h2, ⟨h3, ?_⟩, h5⟩
  rcases h4 with h4 | ⟨g, cap, cur, e1, e2, e3, e4⟩
  · exact .inl h4
  · have hg : g < w.heap.size := by
      rcases Nat.lt_or_ge g w.heap.size with h' | h'
      · exact h'
      · rw [Array.getElem?_eq_none h'] at e3; cases e3
    exact .inr ⟨g, cap, cur, e1, e2, (hb.block g hg).trans e3, e4⟩
theorem bld_below {B b : Nat} {l : List Value} {w w' : World} (h : Lib.IsBuilder 90 5 B b l w) (hb : Below w.heap.size w w') : Lib.IsBuilder 90 5 B b l w' := by
  rcases h with h | h
  · exact .inl (builderAt_old h hb)
  · exact .inr (builderAt_old h hb)
end Go.Proofs.YtdhlebmgeiiejaaGreat
