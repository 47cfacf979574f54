/- The document's slots as a function of shard, index and cell: what a store makes of it. -/
import Derived.Test.YtdanpdlbbgcidaaIdRef2
namespace Go.Proofs.Ytdanpdlbbgcidaa
open Go.RowKit Ids
set_option linter.unusedVariables false

abbrev Sf := Nat → Nat → Nat → Value
/-- cell c of the slot of index i of shard k, as K says -/
def slotV (q : RPl) (K : St) : Sf := fun k i c => match c with
  | 0 => .int .i64 (k : Int)
  | 1 => .int .i64 (i : Int)
  | 2 => .int .i64 (K.gen k i : Int)
  | 3 => .int .i64 (K.bnd k i : Int)
  | 4 => .int .i64 (rowNo q K k i)
  | _ => .bool (taken K k i)
def up3 (f : Sf) (k i c : Nat) (v : Value) : Sf := fun a b e => if a = k ∧ b = i ∧ e = c then v else f a b e
theorem up3_same (f : Sf) (k i c : Nat) (v : Value) : up3 f k i c v k i c = v := if_pos ⟨rfl, rfl, rfl⟩
theorem up3_other {f : Sf} {k i c a b e : Nat} {v : Value} (h : ¬ (a = k ∧ b = i ∧ e = c)) : up3 f k i c v a b e = f a b e := if_neg h
/-- the slots are f, and so many were put into rows -/
structure RS (W : World) (d b c put n m : Nat) (f : Sf) : Prop where
  box : W.heap[d]? = some (.cells #[.slice (some ⟨b, 0, none⟩) (n * m) c, .int .i64 (put : Int)] 65 (0, 0))
  slots : ∃ cur, W.heap[b]? = some (.cells cur 67 (0, 0)) ∧ ∀ k i e, k < n → i < m → e < 6 → cur[(k * m + i) * 6 + e]? = some (f k i e)
section
variable {W W' : World} {d b c put n m : Nat} {f g : Sf}
theorem RS.kept (h : RS W d b c put n m f) (hd : W'.heap[d]? = W.heap[d]?) (hb : W'.heap[b]? = W.heap[b]?) : RS W' d b c put n m f := by
  obtain ⟨cur, h1, h2⟩ := h.slots
  exact ⟨hd.trans h.box, cur, hb.trans h1, h2⟩
theorem RS.below (h : RS W d b c put n m f) (hb : Below W.heap.size W W') : RS W' d b c put n m f := by
  obtain ⟨cur, h1, h2⟩ := h.slots
  exact h.kept (hb.block _ (heap_lt h.box)) (hb.block _ (heap_lt h1))
theorem RS.congr (h : RS W d b c put n m f) (hf : ∀ k i e, k < n → i < m → e < 6 → f k i e = g k i e) : RS W d b c put n m g := by
  obtain ⟨cur, h1, h2⟩ := h.slots
  exact ⟨h.box, cur, h1, fun k i e hk hi he => by rw [h2 k i e hk hi he, hf k i e hk hi he]⟩
theorem RS.box0 (h : RS W d b c put n m f) : W.cell? ⟨d, 0, none⟩ = some (Value.slice (some ⟨b, 0, none⟩) (n * m) c) := (cell_of h.box rfl).1
theorem RS.box1 (h : RS W d b c put n m f) : W.cell? ⟨d, 1, none⟩ = some (.int .i64 (put : Int)) ∧ W.frozen? ⟨d, 1, none⟩ = false := cell_of h.box rfl
theorem RS.at_ (h : RS W d b c put n m f) {k i e : Nat} (hk : k < n) (hi : i < m) (he : e < 6) : W.cell? ⟨b, (k * m + i) * 6 + e, none⟩ = some (f k i e) ∧ W.frozen? ⟨b, (k * m + i) * 6 + e, none⟩ = false := by
  obtain ⟨cur, h1, h2⟩ := h.slots
  exact cell_of h1 (h2 k i e hk hi he)
theorem RS.ne (h : RS W d b c put n m f) : d ≠ b := by obtain ⟨_, h1, _⟩ := h.slots; exact ne_type h.box h1 (by decide)
theorem place_inj {k i e k' i' e' : Nat} (hi : i < m) (he : e < 6) (hi' : i' < m) (he' : e' < 6) (h : (k * m + i) * 6 + e = (k' * m + i') * 6 + e') : k = k' ∧ i = i' ∧ e = e' := by
  have h1 : k * m + i = k' * m + i' := by omega
  obtain ⟨h2, h3⟩ := pos_inj hi hi' h1
  exact ⟨h2, h3, by omega⟩
/-- one cell of one slot is stored -/
theorem RS.set (h : RS W d b c put n m f) {k i e : Nat} (hk : k < n) (hi : i < m) (he : e < 6) (v : Value) : RS (W.setCell ⟨b, (k * m + i) * 6 + e, none⟩ v) d b c put n m (up3 f k i e v) := by
  obtain ⟨cur, h1, h2⟩ := h.slots
  refine ⟨(heap_ne h.ne v).trans h.box, _, heap_set h1 v, fun k' i' e' hk' hi' he' => ?_⟩
  rw [set_at (h2 k' i' e' hk' hi' he')]
  by_cases q : (k * m + i) * 6 + e = (k' * m + i') * 6 + e'
  · obtain ⟨rfl, rfl, rfl⟩ := place_inj hi he hi' he' q
    rw [if_pos rfl, up3_same]
  · rw [if_neg q, up3_other]
    rintro ⟨rfl, rfl, rfl⟩
    exact q rfl
/-- how many were put into rows is stored -/
theorem RS.setPut (h : RS W d b c put n m f) (v : Nat) : RS (W.setCell ⟨d, 1, none⟩ (.int .i64 (v : Int))) d b c v n m f := by
  obtain ⟨cur, h1, h2⟩ := h.slots
  refine ⟨(heap_set h.box _).trans (by rfl), cur, (heap_ne h.ne.symm _).trans h1, h2⟩
end
section
variable {W : World} {q : RPl} {K : St}
theorem RA.rs (h : RA W q K) : RS W q.d q.b q.c q.put K.n K.m (slotV q K) := by
  obtain ⟨cur, h1, h2⟩ := h.slots
  refine ⟨h.box, cur, h1, fun k i e hk hi he => ?_⟩
  have s := h2 k i hk hi
  match e, he with
  | 0, _ => exact s.shard
  | 1, _ => exact s.index
  | 2, _ => exact s.gen
  | 3, _ => exact s.bnd
  | 4, _ => exact s.row
  | 5, _ => exact s.alive
theorem RS.ra (h : RS W q.d q.b q.c q.put K.n K.m (slotV q K)) (ok : Ok K) (cap : K.n * K.m ≤ q.c) (rise : ∀ k, k < K.n → (K.row k).Pairwise fun i j => q.when_ k i < q.when_ k j) (low : ∀ k, k < K.n → ∀ i ∈ K.row k, q.when_ k i < q.put) (few : q.put ≤ 1000000) : RA W q K := by
  obtain ⟨cur, h1, h2⟩ := h.slots
  exact ⟨ok, h.box, cap, ⟨cur, h1, fun k i hk hi => ⟨h2 k i 0 hk hi (by omega), h2 k i 1 hk hi (by omega), h2 k i 2 hk hi (by omega), h2 k i 3 hk hi (by omega), h2 k i 4 hk hi (by omega), h2 k i 5 hk hi (by omega)⟩⟩, rise, low, few⟩
end
end Go.Proofs.Ytdanpdlbbgcidaa
