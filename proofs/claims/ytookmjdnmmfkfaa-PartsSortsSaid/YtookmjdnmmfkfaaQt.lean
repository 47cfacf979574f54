/- A drawn region whose first n operations are quiet in a class of worlds, and whose last ones wait for all of them and come in one order: walked once. Nothing of the program. -/
import Derived.StillTail
import Derived.Deep.Quiet
import Derived.Deep.QuietTactic
import Derived.Below
import Derived.RowKit
import Derived.Lib.Hide
namespace Go.Proofs.Ytookmjdnmmfkfaa
open Go Go.RowKit

namespace Qt
variable {P : Program} {md : Region.Mode}

/-- each operation of the head waits for earlier ones alone, and looks at a guard among the head's -/
def backB (md : Region.Mode) (hd : List Oper) : Bool :=
  (List.range hd.length).all fun j => match hd[j]? with
    | some o => (o.after.all fun e => !Region.binds md e || decide (e.on < j)) && (match o.guard with | some g => decide (g.1 < hd.length) | none => true)
    | none => true
theorem backB_spec {hd : List Oper} (h : backB md hd = true) {j : Nat} {o : Oper} (hj : hd[j]? = some o) :
    (∀ e ∈ o.after, Region.binds md e = true → e.on < j) ∧ ∀ g b, o.guard = some (g, b) → g < hd.length := by
  have hjl : j < hd.length := (List.getElem?_eq_some_iff.1 hj).1
  have h1 := List.all_eq_true.1 h j (List.mem_range.2 hjl)
  simp only [hj, Bool.and_eq_true, Array.all_eq_true_iff_forall_mem, Bool.or_eq_true, Bool.not_eq_true', decide_eq_true_eq] at h1
  refine ⟨fun e he hb => (h1.1 e he).resolve_left (by simp [hb]), fun g b hg => ?_⟩
  have := h1.2
  rw [hg] at this
  simpa using this

/-- what the two lists of marks, the whole region's and its head's, have to do with each other -/
structure Marks (l : List Oper) (n : Nat) (m m' : Array Bool) : Prop where
  inv : HeadInv md l.toArray n m
  size : m'.size = n
  same : ∀ j, j < n → m[j]? = m'[j]?

section
variable {l : List Oper} {n : Nat} {m m' : Array Bool}
theorem head_at {j : Nat} (hj : j < n) : (l.take n).toArray[j]? = l.toArray[j]? := by simp [hj]
theorem Marks.getD (R : Marks (md := md) l n m m') {j : Nat} (hj : j < n) (d : Bool) : m.getD j d = m'.getD j d := by
  have := R.same j hj
  simp only [Array.getD_eq_getD_getElem?, this]
theorem Marks.ready (R : Marks (md := md) l n m m') (hb : backB md (l.take n) = true) {j : Nat} (hj : j < n) : j ∈ Region.ready md l.toArray m ↔ j ∈ Region.ready md (l.take n).toArray m' := by
  rw [mem_ready, mem_ready, R.getD hj, head_at hj]
  constructor
  · rintro ⟨h0, o, ho, ha⟩
    refine ⟨h0, o, ho, fun e he hbd => ?_⟩
    have hlt := (backB_spec hb (j := j) (o := o) (by simpa [List.getElem?_take, hj] using ho)).1 e he hbd
    rw [← R.getD (by omega)]
    exact ha e he hbd
  · rintro ⟨h0, o, ho, ha⟩
    refine ⟨h0, o, ho, fun e he hbd => ?_⟩
    have hlt := (backB_spec hb (j := j) (o := o) (by simpa [List.getElem?_take, hj] using ho)).1 e he hbd
    rw [R.getD (by omega)]
    exact ha e he hbd
theorem Marks.set (R : Marks (md := md) l n m m') {i : Nat} (hi : i < n) (hr : i ∈ Region.ready md l.toArray m) : Marks (md := md) l n (m.setIfInBounds i true) (m'.setIfInBounds i true) := by
  refine ⟨R.inv.set hr hi, by simp [R.size], fun j hj => ?_⟩
  by_cases hij : i = j
  · subst hij
    have hm : i < m.size := by
      have h1 := (mem_ready.1 hr).2
      obtain ⟨o, ho, _⟩ := h1
      rw [R.inv.size]
      exact (Array.getElem?_eq_some_iff.1 ho).1
    simp [R.size, hm, hi]
  · simp [Array.getElem?_setIfInBounds_ne hij, R.same j hj]
/-- where none of the head is ready, all of it is done -/
theorem done_of_none (hs : m'.size = n) (hn : n ≤ l.length) (hb : backB md (l.take n) = true) (h0 : Region.ready md (l.take n).toArray m' = []) : ∀ j, j < n → m'.getD j true = true := by
  intro j
  induction j using Nat.strongRecOn with
  | _ j ih =>
    intro hj
    by_cases hc : m'.getD j true = true
    · exact hc
    · exfalso
      have hlen : j < l.length := by omega
      have hmem : j ∈ Region.ready md (l.take n).toArray m' := by
        rw [mem_ready]
        refine ⟨by simpa using hc, l[j], by simp [hj, hlen], fun e he hbd => ?_⟩
        have hlt := (backB_spec hb (j := j) (o := l[j]) (by simp [hj, hlen])).1 e he hbd
        have h1 := ih e.on hlt (by omega)
        rw [Array.getD_eq_getD_getElem?, Array.getElem?_eq_getElem (by omega)] at h1 ⊢
        simpa using h1
      rw [h0] at hmem
      cases hmem
theorem yielded_head {a : Act} {g : Nat} (hg : g < n) : yielded (l.take n).toArray a.tmps g = yielded l.toArray a.tmps g := by
  unfold yielded
  rw [head_at hg]
theorem wanted_head (hb : backB md (l.take n) = true) {j : Nat} {o : Oper} (hn : n ≤ l.length) (hj : (l.take n)[j]? = some o) (a : Act) : Region.wanted o (yielded (l.take n).toArray a.tmps) = Region.wanted o (yielded l.toArray a.tmps) := by
  have h := (backB_spec hb hj).2
  unfold Region.wanted
  cases hg : o.guard with
  | none => rfl
  | some gw =>
    obtain ⟨g, b⟩ := gw
    have hlt := h g b hg
    have : g < n := by simp at hlt; omega
    simp only [yielded_head this]
theorem op_head (hb : backB md (l.take n) = true) (hn : n ≤ l.length) {j : Nat} (hj : j < n) {Q : Exit → Act → World → Prop} {K : Act → World → Prop} {a : Act} {w : World}
    (h : wpOp P (l.take n).toArray Q j K a w) : wpOp P l.toArray Q j K a w := by
  unfold wpOp at *
  rw [head_at hj] at h
  have hlen : j < l.length := by omega
  rw [show l.toArray[j]? = some l[j] by simp [hlen]] at h ⊢
  simp only at h ⊢
  rwa [wanted_head hb hn (j := j) (by simp [hj, hlen])] at h

variable {C : World → Prop} {Q : Act → Prop} {Q' : Exit → Act → World → Prop}
theorem any_of_head (hb : backB md (l.take n) = true) (hn : n < l.length) (hs : Region.sinkB md l.toArray n = true) (hc : Region.chainB md l.toArray n = true) {g : Nat}
    (hQ : ∀ (f : Nat) (m : Array Bool) (a : Act) (w : World), HeadInv md l.toArray n m → (∀ j, j < n → m.getD j true = true) → C w → Q a → wpAny P md l.toArray Q' (f + g) m a w) :
    ∀ (f : Nat) (m m' : Array Bool) (a : Act) (w : World), C w → Marks (md := md) l n m m' → wpAnyQ P md (l.take n).toArray C Q f m' a → wpAny P md l.toArray Q' (f + g) m a w
  | 0, m, m', a, w, hw, R, h => hQ 0 m a w R.inv (fun j hj => by rw [R.getD hj]; exact done_of_none R.size (by omega) hb h.1 j hj) hw h.2
  | f + 1, m, m', a, w, hw, R, h => by
    by_cases hd : Region.ready md (l.take n).toArray m' = []
    · exact hQ (f + 1) m a w R.inv (fun j hj => by rw [R.getD hj]; exact done_of_none R.size (by omega) hb hd j hj) hw (h.1 hd)
    · obtain ⟨i0, hi0⟩ := List.exists_mem_of_ne_nil _ hd
      have hi0n : i0 < n := by
        obtain ⟨_, o, ho, _⟩ := mem_ready.1 hi0
        have := (Array.getElem?_eq_some_iff.1 ho).1
        simp at this; omega
      have hir : i0 ∈ Region.ready md l.toArray m := (R.ready hb hi0n).2 hi0
      rw [show f + 1 + g = (f + g) + 1 by omega]
      refine ⟨fun h0 => (by rw [h0] at hir; cases hir), fun i hi => ?_⟩
      have hin : i < n := by
        rcases Nat.lt_or_ge i n with h' | h'
        · exact h'
        · exact absurd hi (tail_waits hs hc (by simpa using hn) R.inv _ i0 rfl hi0n (mem_ready.1 hir).1 i h')
      exact op_head hb (by omega) hin (wpOp_of_qOp hw (fun a' w' hw' h' => any_of_head hb hn hs hc hQ f _ _ a' w' hw' (R.set hin hi) h') (h.2 i ((R.ready hb hin).1 hi)))

/-- a forced row of operations, with fuel to spare -/
theorem any_of_seq : ∀ (r : List Oper) (k f : Nat) (m : Array Bool) (a : Act) (w : World), (∀ j, r[j]? = l.toArray[k + j]?) →
    Region.seqB md l.toArray r.length k m = true → wpList P l.toArray Q' r a w → wpAny P md l.toArray Q' (f + r.length) m a w
  | [], k, 0, m, a, w, _, hB, h => ⟨by simpa [Region.seqB] using hB, h⟩
  | [], k, f + 1, m, a, w, _, hB, h => by
    have h0 : Region.ready md l.toArray m = [] := by simpa [Region.seqB] using hB
    exact ⟨fun _ => h, fun i hi => (by rw [h0] at hi; cases hi)⟩
  | o :: r, k, f, m, a, w, hl, hB, h => by
    have h0 : l.toArray[k]? = some o := by simpa using (hl 0).symm
    simp only [List.length_cons, Region.seqB, Bool.and_eq_true, decide_eq_true_eq] at hB
    rw [show f + (o :: r).length = (f + r.length) + 1 by simp; omega]
    refine ⟨fun h1 => (by rw [hB.1] at h1; cases h1), fun i hi => ?_⟩
    rw [hB.1] at hi
    have hik : i = k := by simpa using hi
    subst hik
    have hw : wpOp P l.toArray Q' i (wpList P l.toArray Q' r) a w := by unfold wpOp; simp only [h0]; exact h
    exact wpOp_mono (fun a' w' h' => any_of_seq r (i + 1) f _ a' w' (fun j => by have := hl (j + 1); simpa [Nat.add_assoc, Nat.add_comm 1 j] using this) hB.2 h') hw

/-- all of the head is marked, none of what is behind it -/
def full (k n : Nat) : Array Bool := Array.replicate n true ++ Array.replicate (k - n) false
theorem eq_full (hn : n < l.length) (inv : HeadInv md l.toArray n m) (h : ∀ j, j < n → m.getD j true = true) : m = full l.length n := by
  have hsz : m.size = l.length := by simpa using inv.size
  apply Array.ext
  · simp [full, hsz]; omega
  · intro i h1 h2
    by_cases hi : i < n
    · have := h i hi
      rw [Array.getD_eq_getD_getElem?, Array.getElem?_eq_getElem h1] at this
      have h3 : m[i] = true := by simpa using this
      rw [h3]
      simp [full, hi]
    · have := inv.tail i (by omega) (by simpa [hsz] using h1)
      rw [Array.getD_eq_getD_getElem?, Array.getElem?_eq_getElem h1] at this
      have h3 : m[i] = false := by simpa using this
      rw [h3]
      simp [full, Array.getElem_append, hi]

def tailB (md : Region.Mode) (l : List Oper) (n : Nat) : Bool :=
  decide (n < l.length) && backB md (l.take n) && Region.lexB md (l.take n).toArray && Region.sinkB md l.toArray n && Region.chainB md l.toArray n && Region.seqB md l.toArray (l.length - n) n (full l.length n)

/-- **The head in any order, the tail in its own**: one walk of the text's order. -/
theorem wp_region_tail {id : Nat} {Q : Exit → Act → World → Prop} {a : Act} {w : World} (n : Nat) (hm : P.follows .mixedOrders = true) (hB : tailB .any l n = true) (hC : C w.drew)
    (h : wpQuiet P (l.take n).toArray C (fun a' => ∀ w', C w' → wpList P l.toArray Q (l.drop n) a' w') (l.take n) a) : (Code.region id l.toArray true).wp P Q a w := by
  simp only [tailB, Bool.and_eq_true, decide_eq_true_eq] at hB
  obtain ⟨⟨⟨⟨⟨hn, hb⟩, hx⟩, hs⟩, hc⟩, hq⟩ := hB
  simp only [Region.lexB, Bool.and_eq_true] at hx
  have hlen : (l.take n).length = n := by simp; omega
  refine wp_region_any hm ?_
  have H := wpAnyQ_lex (C := C) (md := .any) hx.1 (l.take n) 0 (Array.replicate (l.take n).toArray.size false) a (by simp) (by simpa using hx.2) h
  have key := any_of_head (P := P) (md := .any) (l := l) (n := n) (C := C) (Q := fun a' => ∀ w', C w' → wpList P l.toArray Q (l.drop n) a' w') (Q' := Q) hb hn hs hc (g := l.length - n)
    (fun f m a w inv hd hw hQ => by
      have e := eq_full hn inv hd
      have := any_of_seq (P := P) (md := .any) (l := l) (Q' := Q) (l.drop n) n f m a w (fun j => by simp [List.getElem?_drop]) (by rw [e]; simpa using hq) (hQ w hw)
      simpa using this) (l.take n).length (Array.replicate l.toArray.size false) (Array.replicate (l.take n).toArray.size false) a w.drew hC
    ⟨⟨by simp, fun j oj _ hl => (by rw [getD_replicate_false] at hl; cases hl), fun t _ ht => getD_in (by simpa using ht) (getD_replicate_false _ _)⟩, by simp; omega, fun j hj => by rw [Array.getElem?_replicate, Array.getElem?_replicate, if_pos (by rw [List.size_toArray]; omega), if_pos (by rw [List.size_toArray]; omega)]⟩ H
  rw [hlen, show n + (l.length - n) = l.toArray.size by simp; omega] at key
  exact key
end
end Qt
end Go.Proofs.Ytookmjdnmmfkfaa
