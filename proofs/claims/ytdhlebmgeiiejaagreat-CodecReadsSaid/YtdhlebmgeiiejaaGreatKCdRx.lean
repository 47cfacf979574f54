/- A reader in the world, and the boxes beside it: the document's and the code's alike. -/
import Derived.Test.YtdhlebmgeiiejaaGreatKPure
import Derived.Test.YtdhlebmgeiiejaaGreatKRdr
import Derived.Test.YtdhlebmgeiiejaaGreatKBase
namespace Go.Proofs.YtdhlebmgeiiejaaGreat
open Go.RowKit Pz Cd
set_option linter.unusedVariables false
set_option linter.unusedSimpArgs false

/-- a reader at block b, and what was there ahead of it is as it was, but b -/
structure RX (T : TypeId) (b : Nat) (w : World) (q : Rr) (W : World) : Prop where
  rd : Rdr T b q.s q.bad W
  ok : q.Ok
  len : q.s.length ≤ 140737489351232
  lt : b < w.heap.size
  grow : w.grownBy W (some b)
theorem gtrans {a c d : World} {row : Option Nat} (h1 : a.grownBy c row) (h2 : c.grownBy d row) : a.grownBy d row :=
  ⟨h2.os.trans h1.os, h2.tape.trans h1.tape, h2.output.trans h1.output, Nat.le_trans h1.size h2.size, fun i hi hne => (h2.block i (Nat.lt_of_lt_of_le hi h1.size) hne).trans (h1.block i hi hne)⟩
theorem RX.step {T : TypeId} {b : Nat} {w W W' : World} {q q' : Rr} (h : RX T b w q W) (hr : Rdr T b q'.s q'.bad W') (ho : q'.Ok) (hl : q'.s.length ≤ q.s.length) (hg : W.grownBy W' (some b)) : RX T b w q' W' :=
  ⟨hr, ho, Nat.le_trans hl h.len, h.lt, gtrans h.grow hg⟩
theorem tInt_len (q : Rr) : (tInt q).2.s.length ≤ q.s.length := oInt_len q.s q.bad
theorem RX.set {T : TypeId} {b : Nat} {w W : World} {q : Rr} (h : RX T b w q W) {k : Nat} (hk : w.heap.size ≤ k) (j : Nat) (v : Value) : RX T b w q (W.setCell ⟨k, j, none⟩ v) := by
  have hb := h.lt
  exact ⟨(Bx.ne (by omega) _).trans h.rd, h.ok, h.len, hb, only_set h.grow (.inr hk) _⟩
theorem RX.start {T : TypeId} {b : Nat} {w : World} {q : Rr} (h : Rdr T b q.s q.bad w) (ho : q.Ok) (hl : q.s.length ≤ 140737489351232) : RX T b w q w := ⟨h, ho, hl, lt_of_row h, World.grownBy.refl w _⟩
theorem RX.rebase {T : TypeId} {b : Nat} {w W : World} {q : Rr} (h : RX T b w q W) : RX T b W q W := ⟨h.rd, h.ok, h.len, lt_of_row h.rd, World.grownBy.refl W _⟩
theorem RX.trans {T : TypeId} {b : Nat} {w W V : World} {q q' : Rr} (h : RX T b w q W) (k : RX T b W q' V) : RX T b w q' V := ⟨k.rd, k.ok, k.len, h.lt, gtrans h.grow k.grow⟩
abbrev IT : TypeId := 29
/-- while a name is taken: the reader, the result's box, the name's own -/
structure TSX (T : TypeId) (b : Nat) (w : World) (x y z : Int) (q : Rr) (W : World) : Prop where
  rq : RX T b w q W
  res : W.heap[w.heap.size]? = some (.cells #[.int .i64 0, .int .i64 0, .int .i64 0] IT (0, 0))
  own : W.heap[w.heap.size + 1]? = some (.cells #[.int .i64 x, .int .i64 y, .int .i64 z] IT (0, 0))
theorem TSX.call {T : TypeId} {b : Nat} {w W W' : World} {x y z : Int} {q q' : Rr} (h : TSX T b w x y z q W) (hr : RX T b w q' W') (hg : W.grownBy W' (some b)) : TSX T b w x y z q' W' := by
  have hb := h.rq.lt
  exact ⟨hr, (hg.block _ (lt_of_row h.res) (by simp; omega)).trans h.res, (hg.block _ (lt_of_row h.own) (by simp; omega)).trans h.own⟩
theorem TSX.set {T : TypeId} {b : Nat} {w W : World} {x y z x' y' z' : Int} {q : Rr} (h : TSX T b w x y z q W) (j : Nat) (v : Int) (e : (#[Value.int .i64 x, .int .i64 y, .int .i64 z].setIfInBounds j (.int .i64 v)) = #[.int .i64 x', .int .i64 y', .int .i64 z']) : TSX T b w x' y' z' q (W.setCell ⟨w.heap.size + 1, j, none⟩ (.int .i64 v)) := by
  have hb := h.rq.lt
  refine ⟨⟨(Bx.ne (by omega) _).trans h.rq.rd, h.rq.ok, h.rq.len, hb, only_set h.rq.grow (.inr (by simp)) _⟩, (Bx.ne (by omega) _).trans h.res, ?_⟩
  rw [← e]
  exact Bx.set h.own _
theorem RX.below {T : TypeId} {b : Nat} {w W W' : World} {q : Rr} (h : RX T b w q W) (hb : Below W.heap.size W W') : RX T b w q W' :=
  ⟨h.rd.below hb (lt_of_row h.rd), h.ok, h.len, h.lt, only_below h.grow hb⟩
theorem TSX.below {T : TypeId} {b : Nat} {w W W' : World} {x y z : Int} {q : Rr} (h : TSX T b w x y z q W) (hb : Below W.heap.size W W') : TSX T b w x y z q W' :=
  ⟨h.rq.below hb, (hb.block _ (lt_of_row h.res)).trans h.res, (hb.block _ (lt_of_row h.own)).trans h.own⟩
theorem TSX.start {T : TypeId} {b : Nat} {w : World} {q : Rr} (h : RX T b w q w) : TSX T b w 0 0 0 q ((w.alloc (.cells #[.int .i64 0, .int .i64 0, .int .i64 0] IT)).alloc (.cells #[.int .i64 0, .int .i64 0, .int .i64 0] IT)) := by
  have b1 := bel1 w (.cells #[.int .i64 0, .int .i64 0, .int .i64 0] IT)
  have a1 := at1 w (.cells #[.int .i64 0, .int .i64 0, .int .i64 0] IT)
  have s1 : (w.alloc (.cells #[.int .i64 0, .int .i64 0, .int .i64 0] IT)).heap.size = w.heap.size + 1 := size1 _ _
  generalize w.alloc (.cells #[.int .i64 0, .int .i64 0, .int .i64 0] IT) = w1 at *
  have b2 := bel1 w1 (.cells #[.int .i64 0, .int .i64 0, .int .i64 0] IT)
  have a2 := at1 w1 (.cells #[.int .i64 0, .int .i64 0, .int .i64 0] IT)
  rw [s1] at a2
  exact ⟨h.below (b1.trans (b2.mono (by omega))), (b2.block _ (by omega)).trans a1, a2⟩
theorem TSX.fin {T : TypeId} {b : Nat} {w W : World} {x y z : Int} {q : Rr} (h : TSX T b w x y z q W) (u0 u1 u2 : Int) :
    ((((W.setCell ⟨w.heap.size, 0, none⟩ (.int .i64 u0)).setCell ⟨w.heap.size, 1, none⟩ (.int .i64 u1)).setCell ⟨w.heap.size, 2, none⟩ (.int .i64 u2)).cell? ⟨w.heap.size, 0, none⟩ = some (.int .i64 u0) ∧
    (((W.setCell ⟨w.heap.size, 0, none⟩ (.int .i64 u0)).setCell ⟨w.heap.size, 1, none⟩ (.int .i64 u1)).setCell ⟨w.heap.size, 2, none⟩ (.int .i64 u2)).cell? ⟨w.heap.size, 1, none⟩ = some (.int .i64 u1) ∧
    (((W.setCell ⟨w.heap.size, 0, none⟩ (.int .i64 u0)).setCell ⟨w.heap.size, 1, none⟩ (.int .i64 u1)).setCell ⟨w.heap.size, 2, none⟩ (.int .i64 u2)).cell? ⟨w.heap.size, 2, none⟩ = some (.int .i64 u2)) ∧
    RX T b w q (((W.setCell ⟨w.heap.size, 0, none⟩ (.int .i64 u0)).setCell ⟨w.heap.size, 1, none⟩ (.int .i64 u1)).setCell ⟨w.heap.size, 2, none⟩ (.int .i64 u2)) := by
  have hb := h.rq.lt
  refine ⟨(Bx.b3 (Bx.set3 h.res _ _ _)).1, ⟨?_, h.rq.ok, h.rq.len, hb, only_set (only_set (only_set h.rq.grow (.inr (by simp)) _) (.inr (by simp)) _) (.inr (by simp)) _⟩⟩
  exact (Bx.ne (by omega) _).trans ((Bx.ne (by omega) _).trans ((Bx.ne (by omega) _).trans h.rq.rd))
end Go.Proofs.YtdhlebmgeiiejaaGreat
