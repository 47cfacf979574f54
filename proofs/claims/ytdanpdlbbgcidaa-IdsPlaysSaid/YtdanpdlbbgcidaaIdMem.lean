/- A pool in memory: a struct behind a pointer, a row of shards, each with a row of indices and a row of free ones. -/
import Derived.Test.YtdanpdlbbgcidaaIdPure
import Derived.Test.YtdanpdlbbgcidaaOpen
import Derived.Test.YtdanpdlbbgcidaaWb
import Derived.Sort.Row
namespace Go.Proofs.Ytdanpdlbbgcidaa
open Go.RowKit Ids
set_option linter.unusedVariables false

/-- nothing but the blocks from lo on, below hi, has turned -/
structure Turn (lo hi : Nat) (w w' : World) : Prop where
  bel : Below lo w w'
  up : ∀ b, hi ≤ b → b < w.heap.size → w'.heap[b]? = w.heap[b]?
theorem Turn.refl (lo hi : Nat) (w : World) : Turn lo hi w w := ⟨Below.refl _ _, fun _ _ _ => rfl⟩
theorem Turn.size {lo hi : Nat} {w w' : World} (h : Turn lo hi w w') : w.heap.size ≤ w'.heap.size := h.bel.size
theorem Turn.trans {lo hi : Nat} {a b c : World} (h : Turn lo hi a b) (k : Turn lo hi b c) : Turn lo hi a c :=
  ⟨h.bel.trans k.bel, fun i h1 h2 => (k.up i h1 (Nat.lt_of_lt_of_le h2 h.size)).trans (h.up i h1 h2)⟩
theorem Turn.of {lo hi : Nat} {w w' : World} (h : Below w.heap.size w w') (hl : lo ≤ w.heap.size) : Turn lo hi w w' := ⟨h.mono hl, fun b _ h2 => h.block b h2⟩
theorem Turn.block {lo hi b : Nat} {w w' : World} (h : Turn lo hi w w') (hb : b < w.heap.size) (ho : b < lo ∨ hi ≤ b) : w'.heap[b]? = w.heap[b]? := by
  rcases ho with h1 | h1
  · exact h.bel.block b h1
  · exact h.up b h1 hb
theorem Turn.set {lo hi : Nat} {w W : World} (h : Turn lo hi w W) {p : Addr} (h1 : lo ≤ p.block) (h2 : p.block < hi) (v : Value) : Turn lo hi w (W.setCell p v) :=
  ⟨h.bel.setCell h1 v, fun b hb hs => (Below.heap_setCell _ _ _ _ (by omega)).trans (h.up b hb hs)⟩
theorem Turn.below {lo hi : Nat} {a b c : World} (h : Turn lo hi a b) (hl : lo ≤ b.heap.size) (k : Below b.heap.size b c) : Turn lo hi a c := h.trans (Turn.of k hl)
theorem Turn.mono {lo hi lo' hi' : Nat} {a b : World} (h : Turn lo hi a b) (h1 : lo' ≤ lo) (h2 : hi ≤ hi') : Turn lo' hi' a b := ⟨h.bel.mono h1, fun i hi hs => h.up i (by omega) hs⟩

/-- where a pool lies -/
structure Pl where
  lo : Nat
  hi : Nat
  d : Nat
  q : Nat
  N : Nat
  ib : Nat → Nat
  rb : Nat → Nat
  cb : Nat → Nat

structure PA (W : World) (p : Pl) (K : St) : Prop where
  ok : Ok K
  top : p.hi ≤ W.heap.size
  din : p.lo ≤ p.d ∧ p.d < p.hi
  qin : p.lo ≤ p.q ∧ p.q < p.hi
  iin : ∀ k, k < K.n → p.lo ≤ p.ib k ∧ p.ib k < p.hi
  rin : ∀ k, k < K.n → p.lo ≤ p.rb k ∧ p.rb k < p.hi
  box : W.heap[p.d]? = some (.cells #[.slice (some ⟨p.q, 0, none⟩) K.n p.N] 58 (0, 0))
  shards : ∃ cur : Array Value, W.heap[p.q]? = some (.cells cur 61 (0, 0)) ∧ ∀ k, k < K.n → cur[2 * k]? = some (Value.slice (some ⟨p.ib k, 0, none⟩) K.m K.m) ∧ cur[2 * k + 1]? = some (Value.slice (some ⟨p.rb k, 0, none⟩) (K.row k).length (p.cb k))
  index : ∀ k, k < K.n → ∃ cur : Array Value, W.heap[p.ib k]? = some (.cells cur 79 (0, 0)) ∧ ∀ i, i < K.m → cur[2 * i]? = some (Value.int .i64 (K.gen k i : Int)) ∧ cur[2 * i + 1]? = some (Value.int .i64 (K.bnd k i : Int))
  rows : ∀ k, k < K.n → ∃ cur : Array Value, W.heap[p.rb k]? = some (.cells cur 3 (0, 0)) ∧ cur.size = p.cb k ∧ ∀ (j i : Nat), (K.row k)[j]? = some i → cur[j]? = some (Value.int .i64 (i : Int))
  room : ∀ k, k < K.n → K.m ≤ p.cb k ∧ p.cb k ≤ 9223372036854775807
  apart : ∀ k k', k < K.n → k' < K.n → k ≠ k' → p.ib k ≠ p.ib k' ∧ p.rb k ≠ p.rb k'

theorem cell_of {W : World} {b o : Nat} {cur : Array Value} {T : TypeId} {v : Value} (h : W.heap[b]? = some (.cells cur T (0, 0))) (hv : cur[o]? = some v) :
    W.cell? ⟨b, o, none⟩ = some v ∧ W.frozen? ⟨b, o, none⟩ = false := by
  simp [World.cell?, World.frozen?, h, hv]
theorem heap_lt {W : World} {b : Nat} {o : Obj} (h : W.heap[b]? = some o) : b < W.heap.size := (Array.getElem?_eq_some_iff.1 h).1
theorem ne_heap {W : World} {b b' : Nat} {o o' : Obj} (h : W.heap[b]? = some o) (h' : W.heap[b']? = some o') (hne : o ≠ o') : b ≠ b' := fun e => by
  subst e
  rw [h] at h'
  exact hne (Option.some.inj h')
theorem ne_type {W : World} {b b' T T' : Nat} {c c' : Array Value} (h : W.heap[b]? = some (.cells c T (0, 0))) (h' : W.heap[b']? = some (.cells c' T' (0, 0))) (hne : T ≠ T') : b ≠ b' :=
  ne_heap h h' (fun e => by injection e with _ e2; exact hne e2)

section
variable {W W' : World} {p : Pl} {K : St}
theorem PA.box1 (h : PA W p K) : W.cell? ⟨p.d, 0, none⟩ = some (Value.slice (some ⟨p.q, 0, none⟩) K.n p.N) := (cell_of h.box rfl).1
theorem PA.ixs (h : PA W p K) {k : Nat} (hk : k < K.n) : W.cell? ⟨p.q, 2 * k, none⟩ = some (Value.slice (some ⟨p.ib k, 0, none⟩) K.m K.m) := by
  obtain ⟨cur, h1, h2⟩ := h.shards
  exact (cell_of h1 (h2 k hk).1).1
theorem PA.rws (h : PA W p K) {k : Nat} (hk : k < K.n) : W.cell? ⟨p.q, 2 * k + 1, none⟩ = some (Value.slice (some ⟨p.rb k, 0, none⟩) (K.row k).length (p.cb k)) ∧ W.frozen? ⟨p.q, 2 * k + 1, none⟩ = false := by
  obtain ⟨cur, h1, h2⟩ := h.shards
  exact cell_of h1 (h2 k hk).2
theorem PA.gen_at (h : PA W p K) {k i : Nat} (hk : k < K.n) (hi : i < K.m) : W.cell? ⟨p.ib k, 2 * i, none⟩ = some (Value.int .i64 (K.gen k i : Int)) ∧ W.frozen? ⟨p.ib k, 2 * i, none⟩ = false := by
  obtain ⟨cur, h1, h2⟩ := h.index k hk
  exact cell_of h1 (h2 i hi).1
theorem PA.bnd_at (h : PA W p K) {k i : Nat} (hk : k < K.n) (hi : i < K.m) : W.cell? ⟨p.ib k, 2 * i + 1, none⟩ = some (Value.int .i64 (K.bnd k i : Int)) ∧ W.frozen? ⟨p.ib k, 2 * i + 1, none⟩ = false := by
  obtain ⟨cur, h1, h2⟩ := h.index k hk
  exact cell_of h1 (h2 i hi).2
theorem PA.row_at (h : PA W p K) {k j i : Nat} (hk : k < K.n) (hj : (K.row k)[j]? = some i) : W.cell? ⟨p.rb k, j, none⟩ = some (Value.int .i64 (i : Int)) ∧ W.frozen? ⟨p.rb k, j, none⟩ = false := by
  obtain ⟨cur, h1, _, h2⟩ := h.rows k hk
  exact cell_of h1 (h2 j i hj)
/-- who changes none of its blocks changes nothing of a pool -/
theorem PA.kept (h : PA W p K) (hs : W.heap.size ≤ W'.heap.size) (hk : ∀ b, p.lo ≤ b → b < p.hi → W'.heap[b]? = W.heap[b]?) : PA W' p K := by
  refine ⟨h.ok, Nat.le_trans h.top hs, h.din, h.qin, h.iin, h.rin, (hk _ h.din.1 h.din.2).trans h.box, ?_, fun k hn => ?_, fun k hn => ?_, h.room, h.apart⟩
  · obtain ⟨cur, h1, h2⟩ := h.shards
    exact ⟨cur, (hk _ h.qin.1 h.qin.2).trans h1, h2⟩
  · obtain ⟨cur, h1, h2⟩ := h.index k hn
    exact ⟨cur, (hk _ (h.iin k hn).1 (h.iin k hn).2).trans h1, h2⟩
  · obtain ⟨cur, h1, h2⟩ := h.rows k hn
    exact ⟨cur, (hk _ (h.rin k hn).1 (h.rin k hn).2).trans h1, h2⟩
theorem PA.below (h : PA W p K) (hb : Below W.heap.size W W') : PA W' p K := h.kept hb.size fun b _ h2 => hb.block b (Nat.lt_of_lt_of_le h2 h.top)
theorem PA.turn (h : PA W p K) {lo hi : Nat} (ht : Turn lo hi W W') (ho : p.hi ≤ lo ∨ hi ≤ p.lo) : PA W' p K := h.kept ht.size fun b h1 h2 => ht.block (Nat.lt_of_lt_of_le h2 h.top) (by omega)
theorem PA.lo_le (h : PA W p K) : p.lo ≤ W.heap.size := by have := h.din; have := h.top; omega
theorem set_at {cur : Array Value} {o j : Nat} {v u : Value} (h : cur[j]? = some u) : (cur.setIfInBounds o v)[j]? = some (if o = j then v else u) := by
  rw [Array.getElem?_setIfInBounds]
  split
  · rename_i he
    subst he
    rw [if_pos (Array.getElem?_eq_some_iff.1 h).1]
  · exact h
theorem heap_set {b o T : Nat} {cur : Array Value} (h : W.heap[b]? = some (.cells cur T (0, 0))) (v : Value) : (W.setCell ⟨b, o, none⟩ v).heap[b]? = some (.cells (cur.setIfInBounds o v) T (0, 0)) :=
  heap_setCell_same W b o _ T v h
theorem heap_ne {b c o : Nat} (h : b ≠ c) (v : Value) : (W.setCell ⟨c, o, none⟩ v).heap[b]? = W.heap[b]? := Below.heap_setCell _ _ _ _ h
theorem PA.ne_dq (h : PA W p K) : p.d ≠ p.q := by obtain ⟨_, h1, _⟩ := h.shards; exact ne_type h.box h1 (by decide)
theorem PA.ne_di (h : PA W p K) {k : Nat} (hk : k < K.n) : p.d ≠ p.ib k := by obtain ⟨_, h1, _⟩ := h.index k hk; exact ne_type h.box h1 (by decide)
theorem PA.ne_dr (h : PA W p K) {k : Nat} (hk : k < K.n) : p.d ≠ p.rb k := by obtain ⟨_, h1, _⟩ := h.rows k hk; exact ne_type h.box h1 (by decide)
theorem PA.ne_qi (h : PA W p K) {k : Nat} (hk : k < K.n) : p.q ≠ p.ib k := by obtain ⟨_, h0, _⟩ := h.shards; obtain ⟨_, h1, _⟩ := h.index k hk; exact ne_type h0 h1 (by decide)
theorem PA.ne_qr (h : PA W p K) {k : Nat} (hk : k < K.n) : p.q ≠ p.rb k := by obtain ⟨_, h0, _⟩ := h.shards; obtain ⟨_, h1, _⟩ := h.rows k hk; exact ne_type h0 h1 (by decide)
theorem PA.ne_ir (h : PA W p K) {k k' : Nat} (hk : k < K.n) (hk' : k' < K.n) : p.ib k ≠ p.rb k' := by obtain ⟨_, h0, _⟩ := h.index k hk; obtain ⟨_, h1, _⟩ := h.rows k' hk'; exact ne_type h0 h1 (by decide)

/-- a cell of an index is another number -/
theorem PA.indexed (h : PA W p K) {k i o : Nat} (hk : k < K.n) (hi : i < K.m) {v : Int} {K' : St} (hok : Ok K') (hn : K'.n = K.n) (hm : K'.m = K.m) (hr : K'.row = K.row)
    (h1 : ∀ a b, (a ≠ k → K'.gen a b = K.gen a b ∧ K'.bnd a b = K.bnd a b))
    (h2 : ∀ b, b < K.m → ((K'.gen k b : Int) = if o = 2 * b then v else (K.gen k b : Int)) ∧ ((K'.bnd k b : Int) = if o = 2 * b + 1 then v else (K.bnd k b : Int))) :
    PA (W.setCell ⟨p.ib k, o, none⟩ (.int .i64 v)) p K' := by
  refine ⟨hok, by simp [h.top], h.din, h.qin, ?_, ?_, ?_, ?_, fun a ha => ?_, fun a ha => ?_, ?_, ?_⟩
  · rw [hn]; exact h.iin
  · rw [hn]; exact h.rin
  · rw [heap_ne (h.ne_di hk), hn]; exact h.box
  · rw [heap_ne (h.ne_qi hk), hn, hm, hr]; exact h.shards
  · rw [hn] at ha
    obtain ⟨cur, g1, g2⟩ := h.index a ha
    by_cases hak : a = k
    · subst hak
      refine ⟨_, heap_set g1 _, fun b hb => ?_⟩
      rw [hm] at hb
      obtain ⟨e1, e2⟩ := g2 b hb
      obtain ⟨e3, e4⟩ := h2 b hb
      rw [set_at e1, set_at e2, e3, e4]
      constructor <;> split <;> rfl
    · rw [heap_ne (h.apart a k ha hk hak).1]
      refine ⟨cur, g1, fun b hb => ?_⟩
      rw [hm] at hb
      rw [(h1 a b hak).1, (h1 a b hak).2]
      exact g2 b hb
  · rw [hn] at ha
    rw [heap_ne (h.ne_ir hk ha).symm, hr]
    exact h.rows a ha
  · rw [hn, hm]; exact h.room
  · rw [hn]; exact h.apart
theorem PA.setGen (h : PA W p K) {k i v : Nat} (hk : k < K.n) (hi : i < K.m) (hv : v ≤ MG) : PA (W.setCell ⟨p.ib k, 2 * i, none⟩ (.int .i64 (v : Int))) p (Ids.setGen K k i v) := by
  refine h.indexed hk hi (h.ok.setGen hv) rfl rfl rfl (fun a b ha => ⟨up2_other (fun e => ha e.1), rfl⟩) (fun b hb => ⟨?_, ?_⟩)
  · show ((up2 K.gen k i v k b : Nat) : Int) = _
    by_cases hbi : b = i
    · subst hbi; rw [up2_same, if_pos rfl]
    · rw [up2_other (fun e => hbi e.2), if_neg (by omega)]
  · rw [if_neg (by omega)]; rfl
theorem PA.setBnd (h : PA W p K) {k i v : Nat} (hk : k < K.n) (hi : i < K.m) (hv : v ≤ MG) : PA (W.setCell ⟨p.ib k, 2 * i + 1, none⟩ (.int .i64 (v : Int))) p (Ids.setBnd K k i v) := by
  refine h.indexed hk hi (h.ok.setBnd hv) rfl rfl rfl (fun a b ha => ⟨rfl, up2_other (fun e => ha e.1)⟩) (fun b hb => ⟨?_, ?_⟩)
  · rw [if_neg (by omega)]; rfl
  · show ((up2 K.bnd k i v k b : Nat) : Int) = _
    by_cases hbi : b = i
    · subst hbi; rw [up2_same, if_pos rfl]
    · rw [up2_other (fun e => hbi e.2), if_neg (by omega)]
theorem PA.turn_i (h : PA W p K) {k o : Nat} (hk : k < K.n) (v : Value) : Turn p.lo p.hi W (W.setCell ⟨p.ib k, o, none⟩ v) := (Turn.refl _ _ _).set (h.iin k hk).1 (h.iin k hk).2 v
/-- a shard's row is another one, in its place -/
theorem PA.rowed (h : PA W p K) {k : Nat} (hk : k < K.n) {l : List Nat} (hok : Ok (Ids.setRow K k l)) (hs : W.heap.size ≤ W'.heap.size) {cur' : Array Value}
    (hr : W'.heap[p.rb k]? = some (.cells cur' 3 (0, 0))) (hc : cur'.size = p.cb k) (hl : ∀ (j i : Nat), l[j]? = some i → cur'[j]? = some (Value.int .i64 (i : Int)))
    (ho : ∀ b, b < W.heap.size → b ≠ p.rb k → W'.heap[b]? = W.heap[b]?) :
    PA (W'.setCell ⟨p.q, 2 * k + 1, none⟩ (.slice (some ⟨p.rb k, 0, none⟩) l.length (p.cb k))) p (Ids.setRow K k l) := by
  have lt : ∀ b, b < p.hi → b < W.heap.size := fun b hb => Nat.lt_of_lt_of_le hb h.top
  refine ⟨hok, ?_, h.din, h.qin, h.iin, h.rin, ?_, ?_, fun a ha => ?_, fun a ha => ?_, h.room, h.apart⟩
  · have := h.top; simp; omega
  · rw [heap_ne h.ne_dq, ho _ (lt _ h.din.2) (h.ne_dr hk)]; exact h.box
  · obtain ⟨cur, g1, g2⟩ := h.shards
    refine ⟨_, heap_set ((ho _ (lt _ h.qin.2) (h.ne_qr hk)).trans g1) _, fun a ha => ?_⟩
    obtain ⟨e1, e2⟩ := g2 a ha
    rw [set_at e1, set_at e2, if_neg (by omega)]
    refine ⟨rfl, ?_⟩
    by_cases hak : a = k
    · subst hak
      rw [if_pos rfl]
      show _ = some (Value.slice _ (up1 K.row a l a).length _)
      rw [up1_same]
    · rw [if_neg (by omega)]
      show _ = some (Value.slice _ (up1 K.row k l a).length _)
      rw [up1_other hak]
  · rw [heap_ne (h.ne_qi ha).symm, ho _ (lt _ (h.iin a ha).2) (h.ne_ir ha hk)]
    exact h.index a ha
  · rw [heap_ne (h.ne_qr ha).symm]
    by_cases hak : a = k
    · subst hak
      refine ⟨cur', hr, hc, ?_⟩
      show ∀ (j i : Nat), (up1 K.row a l a)[j]? = some i → _
      rw [up1_same]
      exact hl
    · rw [ho _ (lt _ (h.rin a ha).2) (h.apart a k ha hk hak).2]
      show ∃ cur : Array Value, _ ∧ _ ∧ ∀ (j i : Nat), (up1 K.row k l a)[j]? = some i → _
      rw [up1_other hak]
      exact h.rows a ha
theorem PA.turn_q (h : PA W p K) {o : Nat} (v : Value) (hs : Turn p.lo p.hi W W') : Turn p.lo p.hi W (W'.setCell ⟨p.q, o, none⟩ v) := hs.set h.qin.1 h.qin.2 v
end
end Go.Proofs.Ytdanpdlbbgcidaa
