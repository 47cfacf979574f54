/- A pool, or two, since w, and what of the law's own stands beside. Written by wip/tools/genh.py. -/
import Derived.Test.YtdanpdlbbgcidaaIdTwo
import Derived.Test.YtdanpdlbbgcidaaIdOpen
namespace Go.Proofs.Ytdanpdlbbgcidaa
open Go.RowKit Ids
set_option linter.unusedVariables false

/-- who leaves the blocks from B on leaves this -/
def Kept (B : Nat) (R : World → Prop) : Prop := ∀ W W' : World, R W → W.heap.size ≤ W'.heap.size → (∀ b, B ≤ b → b < W.heap.size → W'.heap[b]? = W.heap[b]?) → R W'
theorem kept_rw {α : Type} {enc : α → List Value} {T s : Nat} (B : Nat) (v : Value) (l : List α) : Kept B (fun W => Rw enc T s W B v l) := fun W W' h _ hk => h.kept fun b hb => by
  obtain ⟨h1, cur, h2⟩ := h.blk hb
  exact hk b h1 (heap_lt h2)
theorem kept_box {B b : Nat} (hb : B ≤ b) (o : Obj) : Kept B (fun W => W.heap[b]? = some o) := fun W W' h _ hk => (hk b hb (heap_lt h)).trans h
theorem Kept.and {B : Nat} {R S : World → Prop} (h : Kept B R) (k : Kept B S) : Kept B (fun W => R W ∧ S W) := fun W W' ⟨h1, h2⟩ hs hk => ⟨h W W' h1 hs hk, k W W' h2 hs hk⟩
theorem kept_true (B : Nat) : Kept B (fun _ => True) := fun _ _ _ _ _ => trivial
theorem PA.hi_lo {W : World} {p : Pl} {K : St} (h : PA W p K) : p.lo ≤ p.hi := by have := h.din; omega

structure H1 (w : World) (d : Nat) (p : Pl) (K : St) (R : World → Prop) (W : World) : Prop where
  pa : PA W p K
  pd : p.d = d
  bel : Below w.heap.size w W
  lo : w.heap.size ≤ p.lo
  own : R W
  kp : Kept p.hi R
structure H2 (w : World) (d r : Nat) (p q : Pl) (K J : St) (R : World → Prop) (W : World) : Prop where
  pa : PA W p K
  qa : PA W q J
  pd : p.d = d
  qd : q.d = r
  bel : Below w.heap.size w W
  lo : w.heap.size ≤ p.lo
  pq : p.hi ≤ q.lo
  own : R W
  kp : Kept q.hi R
section
variable {w W W' : World} {d r : Nat} {p q : Pl} {K J K' J' : St} {R R' : World → Prop}
theorem H1.next (h : H1 w d p K R W) (h1 : PA W' p K') (t : Turn p.lo p.hi W W') : H1 w d p K' R W' :=
  ⟨h1, h.pd, h.bel.trans (t.bel.mono h.lo), h.lo, h.kp W W' h.own t.size t.up, h.kp⟩
theorem H1.below (h : H1 w d p K R W) (hb : Below W.heap.size W W') : H1 w d p K R W' := h.next (h.pa.below hb) (Turn.of hb h.pa.lo_le)
theorem H1.put (h : H1 w d p K R W) (hb : Below p.hi W W') (hR : R' W') (hk : Kept p.hi R') : H1 w d p K R' W' :=
  ⟨h.pa.kept hb.size (fun b _ h2 => hb.block b h2), h.pd, h.bel.trans (hb.mono (Nat.le_trans h.lo h.pa.hi_lo)), h.lo, hR, hk⟩
theorem H1.box (h : H1 w d p K R W) (o : Obj) : H1 w d p K (fun W' => R W' ∧ W'.heap[W.heap.size]? = some o) (W.alloc o) :=
  ⟨h.pa.below (bel1 W o), h.pd, (h.below (bel1 W o)).bel, h.lo, ⟨(h.below (bel1 W o)).own, at1 W o⟩, h.kp.and (kept_box h.pa.top o)⟩
theorem H1.imp (h : H1 w d p K R W) (hi : R W → R' W) (hk : Kept p.hi R') : H1 w d p K R' W := ⟨h.pa, h.pd, h.bel, h.lo, hi h.own, hk⟩
theorem H2.left (h : H2 w d r p q K J R W) (h1 : PA W' p K') (t : Turn p.lo p.hi W W') : H2 w d r p q K' J R W' :=
  ⟨h1, h.qa.turn t (.inr h.pq), h.pd, h.qd, h.bel.trans (t.bel.mono h.lo), h.lo, h.pq, h.kp W W' h.own t.size (fun b hb hs => t.up b (by have := h.pq; have := h.qa.hi_lo; omega) hs), h.kp⟩
theorem H2.right (h : H2 w d r p q K J R W) (h1 : PA W' q J') (t : Turn q.lo q.hi W W') : H2 w d r p q K J' R W' :=
  ⟨h.pa.turn t (.inl h.pq), h1, h.pd, h.qd, h.bel.trans (t.bel.mono (by have := h.lo; have := h.pq; have := h.pa.hi_lo; omega)), h.lo, h.pq, h.kp W W' h.own t.size t.up, h.kp⟩
theorem H2.below (h : H2 w d r p q K J R W) (hb : Below W.heap.size W W') : H2 w d r p q K J R W' := h.left (h.pa.below hb) (Turn.of hb h.pa.lo_le)
theorem H2.put (h : H2 w d r p q K J R W) (hb : Below q.hi W W') (hR : R' W') (hk : Kept q.hi R') : H2 w d r p q K J R' W' := by
  have h1 := h.pq
  have h2 := h.qa.hi_lo
  have h3 := h.pa.hi_lo
  have h4 := h.lo
  exact ⟨h.pa.kept hb.size (fun b _ h5 => hb.block b (by omega)), h.qa.kept hb.size (fun b _ h5 => hb.block b h5), h.pd, h.qd, h.bel.trans (hb.mono (by omega)), h.lo, h.pq, hR, hk⟩
theorem H2.box (h : H2 w d r p q K J R W) (o : Obj) : H2 w d r p q K J (fun W' => R W' ∧ W'.heap[W.heap.size]? = some o) (W.alloc o) := by
  have h' := h.below (bel1 W o)
  exact ⟨h'.pa, h'.qa, h.pd, h.qd, h'.bel, h.lo, h.pq, ⟨h'.own, at1 W o⟩, h.kp.and (kept_box h.qa.top o)⟩
theorem H2.imp (h : H2 w d r p q K J R W) (hi : R W → R' W) (hk : Kept q.hi R') : H2 w d r p q K J R' W := ⟨h.pa, h.qa, h.pd, h.qd, h.bel, h.lo, h.pq, hi h.own, hk⟩
theorem H1.nxt (h : H1 w d p K R W) (k : Int) {x : Int × Nat × Nat} {a : Int} {b : Bool} (e : Ids.nextK K k = (K', x, a, b)) :
    Calls Try.prog 15 #[.pointer (some ⟨d, 0, none⟩), .int .i64 k] W fun e w' => e = .returned (.tuple #[.agg #[.int .i64 x.1, .int .i64 (x.2.1 : Nat), .int .i64 (x.2.2 : Nat)], .int .i64 a, .bool b]) ∧ H1 w d p K' R w' := by
  have := next_any h.pa k
  rw [h.pd, e] at this
  exact this.mono fun e w' ⟨h1, h2, h3⟩ => ⟨h1, h.next h2 h3⟩
theorem H2.nxtL (h : H2 w d r p q K J R W) (k : Int) {x : Int × Nat × Nat} {a : Int} {b : Bool} (e : Ids.nextK K k = (K', x, a, b)) :
    Calls Try.prog 15 #[.pointer (some ⟨d, 0, none⟩), .int .i64 k] W fun e w' => e = .returned (.tuple #[.agg #[.int .i64 x.1, .int .i64 (x.2.1 : Nat), .int .i64 (x.2.2 : Nat)], .int .i64 a, .bool b]) ∧ H2 w d r p q K' J R w' := by
  have := next_any h.pa k
  rw [h.pd, e] at this
  exact this.mono fun e w' ⟨h1, h2, h3⟩ => ⟨h1, h.left h2 h3⟩
theorem H2.nxtR (h : H2 w d r p q K J R W) (k : Int) {x : Int × Nat × Nat} {a : Int} {b : Bool} (e : Ids.nextK J k = (J', x, a, b)) :
    Calls Try.prog 15 #[.pointer (some ⟨r, 0, none⟩), .int .i64 k] W fun e w' => e = .returned (.tuple #[.agg #[.int .i64 x.1, .int .i64 (x.2.1 : Nat), .int .i64 (x.2.2 : Nat)], .int .i64 a, .bool b]) ∧ H2 w d r p q K J' R w' := by
  have := next_any h.qa k
  rw [h.qd, e] at this
  exact this.mono fun e w' ⟨h1, h2, h3⟩ => ⟨h1, h.right h2 h3⟩
theorem H1.reserve (h : H1 w d p K R W) (k i : Int) {n : Nat} (e : Ids.reserve K k i = (K', n)) :
    Calls Try.prog 16 #[.pointer (some ⟨d, 0, none⟩), .int .i64 k, .int .i64 i] W fun e w' => e = .returned (.int .i64 (n : Nat)) ∧ H1 w d p K' R w' := by
  have := reserve_any h.pa k i
  rw [h.pd, e] at this
  exact this.mono fun e w' ⟨h1, h2, h3⟩ => ⟨h1, h.next h2 h3⟩
theorem H2.reserveL (h : H2 w d r p q K J R W) (k i : Int) {n : Nat} (e : Ids.reserve K k i = (K', n)) :
    Calls Try.prog 16 #[.pointer (some ⟨d, 0, none⟩), .int .i64 k, .int .i64 i] W fun e w' => e = .returned (.int .i64 (n : Nat)) ∧ H2 w d r p q K' J R w' := by
  have := reserve_any h.pa k i
  rw [h.pd, e] at this
  exact this.mono fun e w' ⟨h1, h2, h3⟩ => ⟨h1, h.left h2 h3⟩
theorem H2.reserveR (h : H2 w d r p q K J R W) (k i : Int) {n : Nat} (e : Ids.reserve J k i = (J', n)) :
    Calls Try.prog 16 #[.pointer (some ⟨r, 0, none⟩), .int .i64 k, .int .i64 i] W fun e w' => e = .returned (.int .i64 (n : Nat)) ∧ H2 w d r p q K J' R w' := by
  have := reserve_any h.qa k i
  rw [h.qd, e] at this
  exact this.mono fun e w' ⟨h1, h2, h3⟩ => ⟨h1, h.right h2 h3⟩
theorem H1.take (h : H1 w d p K R W) (k i g : Int) {n : Nat} (e : Ids.take K k i g = (K', n)) :
    Calls Try.prog 17 #[.pointer (some ⟨d, 0, none⟩), .agg #[.int .i64 k, .int .i64 i, .int .i64 g]] W fun e w' => e = .returned (.int .i64 (n : Nat)) ∧ H1 w d p K' R w' := by
  have := take_any h.pa k i g
  rw [h.pd, e] at this
  exact this.mono fun e w' ⟨h1, h2, h3⟩ => ⟨h1, h.next h2 h3⟩
theorem H2.takeL (h : H2 w d r p q K J R W) (k i g : Int) {n : Nat} (e : Ids.take K k i g = (K', n)) :
    Calls Try.prog 17 #[.pointer (some ⟨d, 0, none⟩), .agg #[.int .i64 k, .int .i64 i, .int .i64 g]] W fun e w' => e = .returned (.int .i64 (n : Nat)) ∧ H2 w d r p q K' J R w' := by
  have := take_any h.pa k i g
  rw [h.pd, e] at this
  exact this.mono fun e w' ⟨h1, h2, h3⟩ => ⟨h1, h.left h2 h3⟩
theorem H2.takeR (h : H2 w d r p q K J R W) (k i g : Int) {n : Nat} (e : Ids.take J k i g = (J', n)) :
    Calls Try.prog 17 #[.pointer (some ⟨r, 0, none⟩), .agg #[.int .i64 k, .int .i64 i, .int .i64 g]] W fun e w' => e = .returned (.int .i64 (n : Nat)) ∧ H2 w d r p q K J' R w' := by
  have := take_any h.qa k i g
  rw [h.qd, e] at this
  exact this.mono fun e w' ⟨h1, h2, h3⟩ => ⟨h1, h.right h2 h3⟩
theorem H1.free (h : H1 w d p K R W) (k i g : Int) {n : Nat} (e : Ids.free K k i g = (K', n)) :
    Calls Try.prog 18 #[.pointer (some ⟨d, 0, none⟩), .agg #[.int .i64 k, .int .i64 i, .int .i64 g]] W fun e w' => e = .returned (.int .i64 (n : Nat)) ∧ H1 w d p K' R w' := by
  have := free_any h.pa k i g
  rw [h.pd, e] at this
  exact this.mono fun e w' ⟨h1, h2, h3⟩ => ⟨h1, h.next h2 h3⟩
theorem H2.freeL (h : H2 w d r p q K J R W) (k i g : Int) {n : Nat} (e : Ids.free K k i g = (K', n)) :
    Calls Try.prog 18 #[.pointer (some ⟨d, 0, none⟩), .agg #[.int .i64 k, .int .i64 i, .int .i64 g]] W fun e w' => e = .returned (.int .i64 (n : Nat)) ∧ H2 w d r p q K' J R w' := by
  have := free_any h.pa k i g
  rw [h.pd, e] at this
  exact this.mono fun e w' ⟨h1, h2, h3⟩ => ⟨h1, h.left h2 h3⟩
theorem H2.freeR (h : H2 w d r p q K J R W) (k i g : Int) {n : Nat} (e : Ids.free J k i g = (J', n)) :
    Calls Try.prog 18 #[.pointer (some ⟨r, 0, none⟩), .agg #[.int .i64 k, .int .i64 i, .int .i64 g]] W fun e w' => e = .returned (.int .i64 (n : Nat)) ∧ H2 w d r p q K J' R w' := by
  have := free_any h.qa k i g
  rw [h.qd, e] at this
  exact this.mono fun e w' ⟨h1, h2, h3⟩ => ⟨h1, h.right h2 h3⟩
theorem H1.lapse (h : H1 w d p K R W)  {n : Nat} (e : Ids.lapse K = (K', n)) :
    Calls Try.prog 19 #[.pointer (some ⟨d, 0, none⟩)] W fun e w' => e = .returned (.int .i64 (n : Nat)) ∧ H1 w d p K' R w' := by
  have := lapse_any h.pa
  rw [h.pd, e] at this
  exact this.mono fun e w' ⟨h1, h2, h3⟩ => ⟨h1, h.next h2 h3⟩
theorem H2.lapseL (h : H2 w d r p q K J R W)  {n : Nat} (e : Ids.lapse K = (K', n)) :
    Calls Try.prog 19 #[.pointer (some ⟨d, 0, none⟩)] W fun e w' => e = .returned (.int .i64 (n : Nat)) ∧ H2 w d r p q K' J R w' := by
  have := lapse_any h.pa
  rw [h.pd, e] at this
  exact this.mono fun e w' ⟨h1, h2, h3⟩ => ⟨h1, h.left h2 h3⟩
theorem H2.lapseR (h : H2 w d r p q K J R W)  {n : Nat} (e : Ids.lapse J = (J', n)) :
    Calls Try.prog 19 #[.pointer (some ⟨r, 0, none⟩)] W fun e w' => e = .returned (.int .i64 (n : Nat)) ∧ H2 w d r p q K J' R w' := by
  have := lapse_any h.qa
  rw [h.qd, e] at this
  exact this.mono fun e w' ⟨h1, h2, h3⟩ => ⟨h1, h.right h2 h3⟩
theorem H1.alive (h : H1 w d p K R W) (k i g : Int) {b : Bool} (e : Ids.alive K k i g = b) :
    Calls Try.prog 20 #[.pointer (some ⟨d, 0, none⟩), .agg #[.int .i64 k, .int .i64 i, .int .i64 g]] W fun e w' => e = .returned (.bool b) ∧ H1 w d p K R w' := by
  have := alive_any h.pa k i g
  rw [h.pd, e] at this
  exact this.mono fun e w' ⟨h1, h2⟩ => ⟨h1, h.below h2⟩
theorem H2.aliveL (h : H2 w d r p q K J R W) (k i g : Int) {b : Bool} (e : Ids.alive K k i g = b) :
    Calls Try.prog 20 #[.pointer (some ⟨d, 0, none⟩), .agg #[.int .i64 k, .int .i64 i, .int .i64 g]] W fun e w' => e = .returned (.bool b) ∧ H2 w d r p q K J R w' := by
  have := alive_any h.pa k i g
  rw [h.pd, e] at this
  exact this.mono fun e w' ⟨h1, h2⟩ => ⟨h1, h.below h2⟩
theorem H2.aliveR (h : H2 w d r p q K J R W) (k i g : Int) {b : Bool} (e : Ids.alive J k i g = b) :
    Calls Try.prog 20 #[.pointer (some ⟨r, 0, none⟩), .agg #[.int .i64 k, .int .i64 i, .int .i64 g]] W fun e w' => e = .returned (.bool b) ∧ H2 w d r p q K J R w' := by
  have := alive_any h.qa k i g
  rw [h.qd, e] at this
  exact this.mono fun e w' ⟨h1, h2⟩ => ⟨h1, h.below h2⟩
theorem H1.head (h : H1 w d p K R W) (k : Int) {a : Nat} {b : Bool} {n : Nat} (e : Ids.head K k = (a, b, n)) :
    Calls Try.prog 22 #[.pointer (some ⟨d, 0, none⟩), .int .i64 k] W fun e w' => e = .returned (.tuple #[.int .i64 (a : Nat), .bool b, .int .i64 (n : Nat)]) ∧ H1 w d p K R w' := by
  have := head_any h.pa k
  rw [h.pd, e] at this
  exact this.mono fun e w' ⟨h1, h2⟩ => ⟨h1, h.below h2⟩
theorem H2.headL (h : H2 w d r p q K J R W) (k : Int) {a : Nat} {b : Bool} {n : Nat} (e : Ids.head K k = (a, b, n)) :
    Calls Try.prog 22 #[.pointer (some ⟨d, 0, none⟩), .int .i64 k] W fun e w' => e = .returned (.tuple #[.int .i64 (a : Nat), .bool b, .int .i64 (n : Nat)]) ∧ H2 w d r p q K J R w' := by
  have := head_any h.pa k
  rw [h.pd, e] at this
  exact this.mono fun e w' ⟨h1, h2⟩ => ⟨h1, h.below h2⟩
theorem H2.headR (h : H2 w d r p q K J R W) (k : Int) {a : Nat} {b : Bool} {n : Nat} (e : Ids.head J k = (a, b, n)) :
    Calls Try.prog 22 #[.pointer (some ⟨r, 0, none⟩), .int .i64 k] W fun e w' => e = .returned (.tuple #[.int .i64 (a : Nat), .bool b, .int .i64 (n : Nat)]) ∧ H2 w d r p q K J R w' := by
  have := head_any h.qa k
  rw [h.qd, e] at this
  exact this.mono fun e w' ⟨h1, h2⟩ => ⟨h1, h.below h2⟩
theorem H1.list (h : H1 w d p K R W) : Calls Try.prog 21 #[.pointer (some ⟨d, 0, none⟩)] W fun e w' => (∃ A c, e = .returned (.slice A (Ids.list K).length c)) ∧ H1 w d p K R w' := by
  have := list_any h.pa
  rw [h.pd] at this
  refine this.mono ?_
  rintro e w' ⟨⟨v, rfl, ho⟩, hb⟩
  obtain ⟨A, c, rfl⟩ := ho.form
  exact ⟨⟨A, c, by rw [List.length_map]⟩, h.below hb⟩
theorem h1_new (w : World) {n m : Nat} (n1 : 1 ≤ n) (n2 : n ≤ 16) (m1 : 1 ≤ m) (m2 : m ≤ 16) : Calls Try.prog 9 #[.int .i64 (n : Int), .int .i64 (m : Int)] w fun e w' => e = .returned (.tuple #[.pointer (some ⟨w.heap.size, 0, none⟩), .int .i64 0]) ∧ ∃ p, H1 w w.heap.size p (new n m) (fun _ => True) w' ∧ p.hi = w'.heap.size := by
  refine (new_yes w n1 n2 m1 m2).mono ?_
  rintro e w' ⟨rfl, ⟨q, N, ib, rb, cb, h⟩, hb⟩
  exact ⟨rfl, _, ⟨h, rfl, hb, Nat.le_refl _, trivial, kept_true _⟩, rfl⟩
theorem h2_new (h : H1 w d p K (fun _ => True) W) (hp : p.hi = W.heap.size) {n m : Nat} (n1 : 1 ≤ n) (n2 : n ≤ 16) (m1 : 1 ≤ m) (m2 : m ≤ 16) : Calls Try.prog 9 #[.int .i64 (n : Int), .int .i64 (m : Int)] W fun e w' => e = .returned (.tuple #[.pointer (some ⟨W.heap.size, 0, none⟩), .int .i64 0]) ∧ ∃ q, H2 w d W.heap.size p q K (new n m) (fun _ => True) w' ∧ q.hi = w'.heap.size := by
  refine (new_yes W n1 n2 m1 m2).mono ?_
  rintro e w' ⟨rfl, ⟨q, N, ib, rb, cb, h1⟩, hb⟩
  have h' := h.below hb
  exact ⟨rfl, _, ⟨h'.pa, h1, h.pd, rfl, h'.bel, h.lo, by rw [hp]; exact Nat.le_refl _, trivial, kept_true _⟩, rfl⟩
end
end Go.Proofs.Ytdanpdlbbgcidaa
