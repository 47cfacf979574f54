/- The code's pool and the document's, side by side, and what stands beside them. Written by wip/tools/gendu.py. -/
import Derived.Test.YtdanpdlbbgcidaaIdRefG
namespace Go.Proofs.Ytdanpdlbbgcidaa
open Go.RowKit Ids
set_option linter.unusedVariables false

structure Du (w : World) (d r hi : Nat) (p : Pl) (q : RPl) (K J : St) (R : World → Prop) (W : World) : Prop where
  pa : PA W p K
  ra : RA W q J
  pd : p.d = d
  qd : q.d = r
  bel : Below w.heap.size w W
  lo : w.heap.size ≤ p.lo
  dq : p.hi ≤ q.d ∧ q.d < hi
  bq : p.hi ≤ q.b ∧ q.b < hi
  top : hi ≤ W.heap.size
  own : R W
  kp : Kept hi R
section
variable {w W W' : World} {d r hi : Nat} {p : Pl} {q q' : RPl} {K J K' J' : St} {R R' : World → Prop}
theorem RA.turn (h : RA W q J) {lo hi : Nat} (t : Turn lo hi W W') (h1 : hi ≤ q.d) (h2 : hi ≤ q.b) : RA W' q J := by
  obtain ⟨cur, e1, _⟩ := h.slots
  exact h.kept (t.block (heap_lt h.box) (.inr h1)) (t.block (heap_lt e1) (.inr h2))
theorem Du.left (h : Du w d r hi p q K J R W) (h1 : PA W' p K') (t : Turn p.lo p.hi W W') : Du w d r hi p q K' J R W' :=
  ⟨h1, h.ra.turn t h.dq.1 h.bq.1, h.pd, h.qd, h.bel.trans (t.bel.mono h.lo), h.lo, h.dq, h.bq, Nat.le_trans h.top t.size, h.kp W W' h.own t.size (fun b hb hs => t.up b (by have := h.dq; omega) hs), h.kp⟩
theorem Du.right (h : Du w d r hi p q K J R W) (h1 : RA W' q' J') (e1 : q'.d = q.d) (e2 : q'.b = q.b) (t : Turn p.hi hi W W') : Du w d r hi p q' K J' R W' :=
  ⟨h.pa.turn t (.inl (Nat.le_refl _)), h1, h.pd, e1.trans h.qd, h.bel.trans (t.bel.mono (Nat.le_trans h.lo h.pa.hi_lo)), h.lo, by rw [e1]; exact h.dq, by rw [e2]; exact h.bq, Nat.le_trans h.top t.size, h.kp W W' h.own t.size t.up, h.kp⟩
theorem Du.below (h : Du w d r hi p q K J R W) (hb : Below W.heap.size W W') : Du w d r hi p q K J R W' := h.left (h.pa.below hb) (Turn.of hb h.pa.lo_le)
theorem Du.drewN (h : Du w d r hi p q K J R W) (n : Nat) : Du w d r hi p q K J R (W.drewN n) := h.below (below_dn _ _)
theorem Du.drew (h : Du w d r hi p q K J R W) : Du w d r hi p q K J R W.drew := h.below ((Below.refl _ _).drew)
theorem Du.box (h : Du w d r hi p q K J R W) (o : Obj) : Du w d r hi p q K J (fun W' => R W' ∧ W'.heap[W.heap.size]? = some o) (W.alloc o) := by
  have h' := h.below (bel1 W o)
  exact ⟨h'.pa, h'.ra, h.pd, h.qd, h'.bel, h.lo, h.dq, h.bq, h'.top, ⟨h'.own, at1 W o⟩, h.kp.and (kept_box h.top o)⟩
theorem Du.imp (h : Du w d r hi p q K J R W) (hR : R W → R' W) (hk : Kept hi R') : Du w d r hi p q K J R' W := ⟨h.pa, h.ra, h.pd, h.qd, h.bel, h.lo, h.dq, h.bq, h.top, hR h.own, hk⟩
/-- seen from a later world -/
theorem Du.rebase {w0 : World} (h : Du w d r hi p q K J R W) (h0 : Below w0.heap.size w0 w) : Du w0 d r hi p q K J R W := ⟨h.pa, h.ra, h.pd, h.qd, h0.trans (h.bel.mono h0.size), Nat.le_trans h0.size h.lo, h.dq, h.bq, h.top, h.own, h.kp⟩
theorem Du.reserveL (h : Du w d r hi p q K J R W) (k i : Int) {n : Nat} (e : Ids.reserve K k i = (K', n)) :
    Calls Try.prog 16 #[.pointer (some ⟨d, 0, none⟩), .int .i64 k, .int .i64 i] W fun e w' => e = .returned (.int .i64 (n : Nat)) ∧ Du w d r hi p q K' J R w' := by
  have := reserve_any h.pa k i
  rw [h.pd, e] at this
  exact this.mono fun e w' ⟨h1, h2, h3⟩ => ⟨h1, h.left h2 h3⟩
theorem Du.reserveR (h : Du w d r hi p q K J R W) (k i : Int) {n : Nat} (e : Ids.reserve J k i = (J', n)) :
    Calls Try.prog 26 #[.pointer (some ⟨r, 0, none⟩), .int .i64 k, .int .i64 i] W fun e w' => e = .returned (.int .i64 (n : Nat)) ∧ Du w d r hi p q K J' R w' := by
  have := rreserve_any h.ra h.dq h.bq k i
  rw [h.qd, e] at this
  exact this.mono fun e w' ⟨h1, h2, h3⟩ => ⟨h1, h.right h2 rfl rfl h3⟩
theorem Du.takeL (h : Du w d r hi p q K J R W) (k i g : Int) {n : Nat} (e : Ids.take K k i g = (K', n)) :
    Calls Try.prog 17 #[.pointer (some ⟨d, 0, none⟩), .agg #[.int .i64 k, .int .i64 i, .int .i64 g]] W fun e w' => e = .returned (.int .i64 (n : Nat)) ∧ Du w d r hi p q K' J R w' := by
  have := take_any h.pa k i g
  rw [h.pd, e] at this
  exact this.mono fun e w' ⟨h1, h2, h3⟩ => ⟨h1, h.left h2 h3⟩
theorem Du.takeR (h : Du w d r hi p q K J R W) (k i g : Int) {n : Nat} (e : Ids.take J k i g = (J', n)) :
    Calls Try.prog 28 #[.pointer (some ⟨r, 0, none⟩), .agg #[.int .i64 k, .int .i64 i, .int .i64 g]] W fun e w' => e = .returned (.int .i64 (n : Nat)) ∧ Du w d r hi p q K J' R w' := by
  have := rtake_any h.ra h.dq h.bq k i g
  rw [h.qd, e] at this
  exact this.mono fun e w' ⟨h1, h2, h3⟩ => ⟨h1, h.right h2 rfl rfl h3⟩
theorem Du.freeL (h : Du w d r hi p q K J R W) (k i g : Int) {n : Nat} (e : Ids.free K k i g = (K', n)) :
    Calls Try.prog 18 #[.pointer (some ⟨d, 0, none⟩), .agg #[.int .i64 k, .int .i64 i, .int .i64 g]] W fun e w' => e = .returned (.int .i64 (n : Nat)) ∧ Du w d r hi p q K' J R w' := by
  have := free_any h.pa k i g
  rw [h.pd, e] at this
  exact this.mono fun e w' ⟨h1, h2, h3⟩ => ⟨h1, h.left h2 h3⟩
theorem Du.freeR (h : Du w d r hi p q K J R W) (hp1 : q.put + 1 ≤ 1000000) (k i g : Int) {n : Nat} (e : Ids.free J k i g = (J', n)) :
    Calls Try.prog 29 #[.pointer (some ⟨r, 0, none⟩), .agg #[.int .i64 k, .int .i64 i, .int .i64 g]] W fun e w' => e = .returned (.int .i64 (n : Nat)) ∧ (∃ q' : RPl, Du w d r hi p q' K J' R w' ∧ q'.put ≤ q.put + 1) := by
  have := rfree_any h.ra h.dq h.bq hp1 k i g
  rw [h.qd, e] at this
  exact this.mono fun e w' ⟨h1, ⟨q', h2, e1, e2, e3⟩, h3⟩ => ⟨h1, ⟨q', h.right h2 (e1.trans h.qd.symm) e2 h3, e3⟩⟩
theorem Du.lapseL (h : Du w d r hi p q K J R W)  {n : Nat} (e : Ids.lapse K = (K', n)) :
    Calls Try.prog 19 #[.pointer (some ⟨d, 0, none⟩)] W fun e w' => e = .returned (.int .i64 (n : Nat)) ∧ Du w d r hi p q K' J R w' := by
  have := lapse_any h.pa 
  rw [h.pd, e] at this
  exact this.mono fun e w' ⟨h1, h2, h3⟩ => ⟨h1, h.left h2 h3⟩
theorem Du.lapseR (h : Du w d r hi p q K J R W) (fr : Fr J)  {n : Nat} (e : Ids.lapse J = (J', n)) :
    Calls Try.prog 30 #[.pointer (some ⟨r, 0, none⟩)] W fun e w' => e = .returned (.int .i64 (n : Nat)) ∧ Du w d r hi p q K J' R w' := by
  have := rlapse_any h.ra fr h.dq h.bq
  rw [h.qd, e] at this
  exact this.mono fun e w' ⟨h1, h2, h3⟩ => ⟨h1, h.right h2 rfl rfl h3⟩
theorem Du.issueL (h : Du w d r hi p q K J R W) (k : Int) {x : Int × Nat × Nat} {n : Nat} (e : Ids.issue K k = (K', x, n)) :
    Calls Try.prog 23 #[.pointer (some ⟨d, 0, none⟩), .int .i64 k] W fun e w' => e = .returned (.tuple #[.agg #[.int .i64 x.1, .int .i64 (x.2.1 : Nat), .int .i64 (x.2.2 : Nat)], .int .i64 (n : Nat)]) ∧ Du w d r hi p q K' J R w' := by
  have := issue_any h.pa k
  rw [h.pd, e] at this
  exact this.mono fun e w' ⟨h1, h2, h3⟩ => ⟨h1, h.left h2 h3⟩
theorem Du.issueR (h : Du w d r hi p q K J R W) (k : Int) {x : Int × Nat × Nat} {n : Nat} (e : Ids.issue J k = (J', x, n)) :
    Calls Try.prog 27 #[.pointer (some ⟨r, 0, none⟩), .int .i64 k] W fun e w' => e = .returned (.tuple #[.agg #[.int .i64 x.1, .int .i64 (x.2.1 : Nat), .int .i64 (x.2.2 : Nat)], .int .i64 (n : Nat)]) ∧ Du w d r hi p q K J' R w' := by
  have := rissue_any h.ra h.dq h.bq k
  rw [h.qd, e] at this
  exact this.mono fun e w' ⟨h1, h2, h3⟩ => ⟨h1, h.right h2 rfl rfl h3⟩
end
/-- who is in a row is not worn, behind each deed -/
theorem Fr.new (n m : Nat) : Fr (new n m) := fun k _ i _ => show 0 < MG by decide
theorem Fr.reserve {K : St} (h : Fr K) (k i : Int) : Fr (reserve K k i).1 := by
  unfold Ids.reserve
  split
  · split
    · exact h
    · exact h
  · exact h
theorem Fr.give {K : St} (h : Fr K) (k i g : Nat) : Fr (give K k i g) := fun a ha b hb => by
  obtain ⟨h1, h2⟩ := (give_row K k i g a b).1 hb
  rw [give_gen, if_neg (fun t => h2 t.1 t.2)]
  exact h a ha b h1
theorem Fr.take {K : St} (h : Fr K) (k i g : Int) : Fr (take K k i g).1 := by
  unfold Ids.take
  split
  · exact h
  · split
    · exact h
    · split
      · exact h
      · exact h.give _ _ _
theorem Fr.issue {K : St} (h : Fr K) (k : Int) : Fr (issue K k).1 := by
  unfold Ids.issue
  split
  · exact h
  · split
    · exact h
    · exact h.give _ _ _
theorem Fr.freed {K : St} (h : Fr K) {k i : Nat} (hi : i ∉ K.row k) : Fr (freed K k i) := fun a ha b hb => by
  rw [(freed_nm' K k i).1] at ha
  rw [freed_gen']
  rcases (freed_mem' K k i a b).1 hb with h1 | ⟨h1, h2, h3⟩
  · rw [if_neg (fun (t : a = k ∧ b = i) => hi (by rw [← t.1, ← t.2]; exact h1))]
    exact h a ha b h1
  · rw [if_pos ⟨h1, h2⟩]
    exact h3
theorem Fr.free {K : St} (h : Fr K) (k i g : Int) : Fr (free K k i g).1 := by
  unfold Ids.free
  split
  · exact h
  · split
    · exact h
    · rename_i h1
      have := (alive_in (by simpa using h1)).2.2
      exact h.freed ((taken_iff _ _ _).1 this).1
theorem Fr.lapse {K : St} : Fr (lapse K).1 := fun a ha b hb => by
  have ha' : a < K.n := ha
  have hb' : b ∈ (lapseTo K K.n).row a := hb
  rw [lap_row ha', List.mem_filter, decide_eq_true_eq] at hb'
  show (lapseTo K K.n).gen a b < MG
  rw [lap_gen ha']
  exact hb'.2
/-- a deed, over functions: 0, 1 set aside, 2, 3 given, 4 taken, 5, 6 taken back, 7 lapsed -/
def deedK (K : St) (x : Int × Int × Int × Int) : St :=
  if x.1 = 0 ∨ x.1 = 1 then (reserve K x.2.1 x.2.2.1).1 else if x.1 = 2 ∨ x.1 = 3 then (issue K x.2.1).1 else
  if x.1 = 4 then (take K x.2.1 x.2.2.1 x.2.2.2).1 else if x.1 = 5 ∨ x.1 = 6 then (free K x.2.1 x.2.2.1 x.2.2.2).1 else if x.1 = 7 then (lapse K).1 else K
theorem Fr.deed {K : St} (h : Fr K) (x : Int × Int × Int × Int) : Fr (deedK K x) := by
  unfold deedK
  split
  · exact h.reserve _ _
  · split
    · exact h.issue _
    · split
      · exact h.take _ _ _
      · split
        · exact h.free _ _ _
        · split
          · exact Fr.lapse
          · exact h
end Go.Proofs.Ytdanpdlbbgcidaa
