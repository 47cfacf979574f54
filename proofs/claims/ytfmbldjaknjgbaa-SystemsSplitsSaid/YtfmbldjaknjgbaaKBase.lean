/- Qt, Og, Ow, Wb, Bx, Open, OpenRow, OpenFlat, Row, Ap, OpenArr, OpenRect, OpenSeven, in one text. -/
import Derived.StillTail
import Derived.Deep.Quiet
import Derived.Deep.QuietTactic
import Derived.Below
import Derived.RowKit
import Derived.Lib.Hide
import Derived.WalkKit
import Derived.Tactics2
import Derived.RegionTactic
import Derived.BigQuiet
import Derived.StillTailTactics
import Derived.Deep.RegionHeld3
import Derived.Deep.DrawnRows
import Derived.Lib.MinMax
import Derived.Handy
import Derived.Test.YtfmbldjaknjgbaaRows
import Derived.ProofKit
import Derived.OpenShut
import Derived.ShutString
import Derived.ChangeOld
import Derived.SliceStrings
import Derived.SizedLaws
import Derived.Lib.SmallJoins
import Derived.OwnWalk
import Derived.ArgAppend
import Derived.Deep.MidRow
import Derived.Deep.AppendSrc
import Derived.Deep.RegionLaw
namespace Go.Proofs.Ytfmbldjaknjgbaa
open Go Go.RowKit

namespace Qt
variable {P : Program} {md : Region.Mode}

/-- each operation of the head waits for earlier ones alone, and looks at a guard among the head's -/
def backB (md : Region.Mode) (hd : List Oper) : Bool :=
  (List.range hd.length).all fun j => match hd[j]? with
    | some o => (o.after.all fun e => !Region.binds md e || decide (e.on < j)) && (match o.guard with | some g => decide (g.1 < hd.length) | none => true)
    | none => true
theorem backB_spec {hd : List Oper} (h : backB md hd = true) {j : Nat} {o : Oper} (hj : hd[j]? = some o) :
    (∀ e ∈ o.after, Region.binds md e = true → e.on < j) ∧ ∀ g b, o.guard = some (g, b) → g < hd.length := by
  have hjl : j < hd.length := (List.getElem?_eq_some_iff.1 hj).1
  have h1 := List.all_eq_true.1 h j (List.mem_range.2 hjl)
  simp only [hj, Bool.and_eq_true, Array.all_eq_true_iff_forall_mem, Bool.or_eq_true, Bool.not_eq_true', decide_eq_true_eq] at h1
  refine ⟨fun e he hb => (h1.1 e he).resolve_left (by simp [hb]), fun g b hg => ?_⟩
  have := h1.2
  rw [hg] at this
  simpa using this

/-- what the two lists of marks, the whole region's and its head's, have to do with each other -/
structure Marks (l : List Oper) (n : Nat) (m m' : Array Bool) : Prop where
  inv : HeadInv md l.toArray n m
  size : m'.size = n
  same : ∀ j, j < n → m[j]? = m'[j]?

section
variable {l : List Oper} {n : Nat} {m m' : Array Bool}
theorem head_at {j : Nat} (hj : j < n) : (l.take n).toArray[j]? = l.toArray[j]? := by simp [hj]
theorem Marks.getD (R : Marks (md := md) l n m m') {j : Nat} (hj : j < n) (d : Bool) : m.getD j d = m'.getD j d := by
  have := R.same j hj
  simp only [Array.getD_eq_getD_getElem?, this]
theorem Marks.ready (R : Marks (md := md) l n m m') (hb : backB md (l.take n) = true) {j : Nat} (hj : j < n) : j ∈ Region.ready md l.toArray m ↔ j ∈ Region.ready md (l.take n).toArray m' := by
  rw [mem_ready, mem_ready, R.getD hj, head_at hj]
  constructor
  · rintro ⟨h0, o, ho, ha⟩
    refine ⟨h0, o, ho, fun e he hbd => ?_⟩
    have hlt := (backB_spec hb (j := j) (o := o) (by simpa [List.getElem?_take, hj] using ho)).1 e he hbd
    rw [← R.getD (by omega)]
    exact ha e he hbd
  · rintro ⟨h0, o, ho, ha⟩
    refine ⟨h0, o, ho, fun e he hbd => ?_⟩
    have hlt := (backB_spec hb (j := j) (o := o) (by simpa [List.getElem?_take, hj] using ho)).1 e he hbd
    rw [R.getD (by omega)]
    exact ha e he hbd
theorem Marks.set (R : Marks (md := md) l n m m') {i : Nat} (hi : i < n) (hr : i ∈ Region.ready md l.toArray m) : Marks (md := md) l n (m.setIfInBounds i true) (m'.setIfInBounds i true) := by
  refine ⟨R.inv.set hr hi, by simp [R.size], fun j hj => ?_⟩
  by_cases hij : i = j
  · subst hij
    have hm : i < m.size := by
      have h1 := (mem_ready.1 hr).2
      obtain ⟨o, ho, _⟩ := h1
      rw [R.inv.size]
      exact (Array.getElem?_eq_some_iff.1 ho).1
    simp [R.size, hm, hi]
  · simp [Array.getElem?_setIfInBounds_ne hij, R.same j hj]
/-- where none of the head is ready, all of it is done -/
theorem done_of_none (hs : m'.size = n) (hn : n ≤ l.length) (hb : backB md (l.take n) = true) (h0 : Region.ready md (l.take n).toArray m' = []) : ∀ j, j < n → m'.getD j true = true := by
  intro j
  induction j using Nat.strongRecOn with
  | _ j ih =>
    intro hj
    by_cases hc : m'.getD j true = true
    · exact hc
    · exfalso
      have hlen : j < l.length := by omega
      have hmem : j ∈ Region.ready md (l.take n).toArray m' := by
        rw [mem_ready]
        refine ⟨by simpa using hc, l[j], by simp [hj, hlen], fun e he hbd => ?_⟩
        have hlt := (backB_spec hb (j := j) (o := l[j]) (by simp [hj, hlen])).1 e he hbd
        have h1 := ih e.on hlt (by omega)
        rw [Array.getD_eq_getD_getElem?, Array.getElem?_eq_getElem (by omega)] at h1 ⊢
        simpa using h1
      rw [h0] at hmem
      cases hmem
theorem yielded_head {a : Act} {g : Nat} (hg : g < n) : yielded (l.take n).toArray a.tmps g = yielded l.toArray a.tmps g := by
  unfold yielded
  rw [head_at hg]
theorem wanted_head (hb : backB md (l.take n) = true) {j : Nat} {o : Oper} (hn : n ≤ l.length) (hj : (l.take n)[j]? = some o) (a : Act) : Region.wanted o (yielded (l.take n).toArray a.tmps) = Region.wanted o (yielded l.toArray a.tmps) := by
  have h := (backB_spec hb hj).2
  unfold Region.wanted
  cases hg : o.guard with
  | none => rfl
  | some gw =>
    obtain ⟨g, b⟩ := gw
    have hlt := h g b hg
    have : g < n := by simp at hlt; omega
    simp only [yielded_head this]
theorem op_head (hb : backB md (l.take n) = true) (hn : n ≤ l.length) {j : Nat} (hj : j < n) {Q : Exit → Act → World → Prop} {K : Act → World → Prop} {a : Act} {w : World}
    (h : wpOp P (l.take n).toArray Q j K a w) : wpOp P l.toArray Q j K a w := by
  unfold wpOp at *
  rw [head_at hj] at h
  have hlen : j < l.length := by omega
  rw [show l.toArray[j]? = some l[j] by simp [hlen]] at h ⊢
  simp only at h ⊢
  rwa [wanted_head hb hn (j := j) (by simp [hj, hlen])] at h

variable {C : World → Prop} {Q : Act → Prop} {Q' : Exit → Act → World → Prop}
theorem any_of_head (hb : backB md (l.take n) = true) (hn : n < l.length) (hs : Region.sinkB md l.toArray n = true) (hc : Region.chainB md l.toArray n = true) {g : Nat}
    (hQ : ∀ (f : Nat) (m : Array Bool) (a : Act) (w : World), HeadInv md l.toArray n m → (∀ j, j < n → m.getD j true = true) → C w → Q a → wpAny P md l.toArray Q' (f + g) m a w) :
    ∀ (f : Nat) (m m' : Array Bool) (a : Act) (w : World), C w → Marks (md := md) l n m m' → wpAnyQ P md (l.take n).toArray C Q f m' a → wpAny P md l.toArray Q' (f + g) m a w
  | 0, m, m', a, w, hw, R, h => hQ 0 m a w R.inv (fun j hj => by rw [R.getD hj]; exact done_of_none R.size (by omega) hb h.1 j hj) hw h.2
  | f + 1, m, m', a, w, hw, R, h => by
    by_cases hd : Region.ready md (l.take n).toArray m' = []
    · exact hQ (f + 1) m a w R.inv (fun j hj => by rw [R.getD hj]; exact done_of_none R.size (by omega) hb hd j hj) hw (h.1 hd)
    · obtain ⟨i0, hi0⟩ := List.exists_mem_of_ne_nil _ hd
      have hi0n : i0 < n := by
        obtain ⟨_, o, ho, _⟩ := mem_ready.1 hi0
        have := (Array.getElem?_eq_some_iff.1 ho).1
        simp at this; omega
      have hir : i0 ∈ Region.ready md l.toArray m := (R.ready hb hi0n).2 hi0
      rw [show f + 1 + g = (f + g) + 1 by omega]
      refine ⟨fun h0 => (by rw [h0] at hir; cases hir), fun i hi => ?_⟩
      have hin : i < n := by
        rcases Nat.lt_or_ge i n with h' | h'
        · exact h'
        · exact absurd hi (tail_waits hs hc (by simpa using hn) R.inv _ i0 rfl hi0n (mem_ready.1 hir).1 i h')
      exact op_head hb (by omega) hin (wpOp_of_qOp hw (fun a' w' hw' h' => any_of_head hb hn hs hc hQ f _ _ a' w' hw' (R.set hin hi) h') (h.2 i ((R.ready hb hin).1 hi)))

/-- a forced row of operations, with fuel to spare -/
theorem any_of_seq : ∀ (r : List Oper) (k f : Nat) (m : Array Bool) (a : Act) (w : World), (∀ j, r[j]? = l.toArray[k + j]?) →
    Region.seqB md l.toArray r.length k m = true → wpList P l.toArray Q' r a w → wpAny P md l.toArray Q' (f + r.length) m a w
  | [], k, 0, m, a, w, _, hB, h => ⟨by simpa [Region.seqB] using hB, h⟩
  | [], k, f + 1, m, a, w, _, hB, h => by
    have h0 : Region.ready md l.toArray m = [] := by simpa [Region.seqB] using hB
    exact ⟨fun _ => h, fun i hi => (by rw [h0] at hi; cases hi)⟩
  | o :: r, k, f, m, a, w, hl, hB, h => by
    have h0 : l.toArray[k]? = some o := by simpa using (hl 0).symm
    simp only [List.length_cons, Region.seqB, Bool.and_eq_true, decide_eq_true_eq] at hB
    rw [show f + (o :: r).length = (f + r.length) + 1 by simp; omega]
    refine ⟨fun h1 => (by rw [hB.1] at h1; cases h1), fun i hi => ?_⟩
    rw [hB.1] at hi
    have hik : i = k := by simpa using hi
    subst hik
    have hw : wpOp P l.toArray Q' i (wpList P l.toArray Q' r) a w := by unfold wpOp; simp only [h0]; exact h
    exact wpOp_mono (fun a' w' h' => any_of_seq r (i + 1) f _ a' w' (fun j => by have := hl (j + 1); simpa [Nat.add_assoc, Nat.add_comm 1 j] using this) hB.2 h') hw

/-- all of the head is marked, none of what is behind it -/
def full (k n : Nat) : Array Bool := Array.replicate n true ++ Array.replicate (k - n) false
theorem eq_full (hn : n < l.length) (inv : HeadInv md l.toArray n m) (h : ∀ j, j < n → m.getD j true = true) : m = full l.length n := by
  have hsz : m.size = l.length := by simpa using inv.size
  apply Array.ext
  · simp [full, hsz]; omega
  · intro i h1 h2
    by_cases hi : i < n
    · have := h i hi
      rw [Array.getD_eq_getD_getElem?, Array.getElem?_eq_getElem h1] at this
      have h3 : m[i] = true := by simpa using this
      rw [h3]
      simp [full, hi]
    · have := inv.tail i (by omega) (by simpa [hsz] using h1)
      rw [Array.getD_eq_getD_getElem?, Array.getElem?_eq_getElem h1] at this
      have h3 : m[i] = false := by simpa using this
      rw [h3]
      simp [full, Array.getElem_append, hi]

def tailB (md : Region.Mode) (l : List Oper) (n : Nat) : Bool :=
  decide (n < l.length) && backB md (l.take n) && Region.lexB md (l.take n).toArray && Region.sinkB md l.toArray n && Region.chainB md l.toArray n && Region.seqB md l.toArray (l.length - n) n (full l.length n)

/-- **The head in any order, the tail in its own**: one walk of the text's order. -/
theorem wp_region_tail {id : Nat} {Q : Exit → Act → World → Prop} {a : Act} {w : World} (n : Nat) (hm : P.follows .mixedOrders = true) (hB : tailB .any l n = true) (hC : C w.drew)
    (h : wpQuiet P (l.take n).toArray C (fun a' => ∀ w', C w' → wpList P l.toArray Q (l.drop n) a' w') (l.take n) a) : (Code.region id l.toArray true).wp P Q a w := by
  simp only [tailB, Bool.and_eq_true, decide_eq_true_eq] at hB
  obtain ⟨⟨⟨⟨⟨hn, hb⟩, hx⟩, hs⟩, hc⟩, hq⟩ := hB
  simp only [Region.lexB, Bool.and_eq_true] at hx
  have hlen : (l.take n).length = n := by simp; omega
  refine wp_region_any hm ?_
  have H := wpAnyQ_lex (C := C) (md := .any) hx.1 (l.take n) 0 (Array.replicate (l.take n).toArray.size false) a (by simp) (by simpa using hx.2) h
  have key := any_of_head (P := P) (md := .any) (l := l) (n := n) (C := C) (Q := fun a' => ∀ w', C w' → wpList P l.toArray Q (l.drop n) a' w') (Q' := Q) hb hn hs hc (g := l.length - n)
    (fun f m a w inv hd hw hQ => by
      have e := eq_full hn inv hd
      have := any_of_seq (P := P) (md := .any) (l := l) (Q' := Q) (l.drop n) n f m a w (fun j => by simp [List.getElem?_drop]) (by rw [e]; simpa using hq) (hQ w hw)
      simpa using this) (l.take n).length (Array.replicate l.toArray.size false) (Array.replicate (l.take n).toArray.size false) a w.drew hC
    ⟨⟨by simp, fun j oj _ hl => (by rw [getD_replicate_false] at hl; cases hl), fun t _ ht => getD_in (by simpa using ht) (getD_replicate_false _ _)⟩, by simp; omega, fun j hj => by rw [Array.getElem?_replicate, Array.getElem?_replicate, if_pos (by rw [List.size_toArray]; omega), if_pos (by rw [List.size_toArray]; omega)]⟩ H
  rw [hlen, show n + (l.length - n) = l.toArray.size by simp; omega] at key
  exact key
end
end Qt
end Go.Proofs.Ytfmbldjaknjgbaa
namespace Go.Proofs.Ytfmbldjaknjgbaa
open Go Go.RowKit

/-- how a world may go on -/
structure Rl where
  r : World → World → Prop
  refl : ∀ w, r w w
  trans : ∀ {a b c}, r a b → r b c → r a c
  drew : ∀ w, r w w.drew
/-- of what was there nothing has turned -/
def grows : Rl where
  r w w' := Below w.heap.size w w'
  refl _ := Below.refl _ _
  trans h k := h.trans (k.mono h.size)
  drew w := (Below.refl _ w).drew
/-- a world that one has gone on to -/
structure Lat (ρ : Rl) (w : World) where
  W : World
  h : ρ.r w W
instance (ρ : Rl) (w : World) : Inhabited (Lat ρ w) := ⟨⟨w, ρ.refl w⟩⟩

namespace Og
/-- what is known of a value that is not told -/
abbrev Ph := Value → World → Prop
variable {P : Program} {ρ : Rl}

/-- what an operation has yielded is such -/
def one (P : Program) (ρ : Rl) (W : World) (φ : Ph) : Result Next → Prop
  | .ok (.value u) W' => ρ.r W W' ∧ φ u W'
  | .ok .skip W' => ρ.r W W' ∧ φ undef W'
  | .ok (.enter f args) W' => Calls P f args W' fun e W'' => ∃ v, e = .returned v ∧ ρ.r W W'' ∧ φ v W''
  | _ => False
/-- the slots that are not told, taken in -/
def opened : List (Nat × Ph) → World → Act → (Act → Prop) → Prop
  | [], _, a, K => K a
  | u :: us, W, a, K => ∀ v, u.2 v W → opened us W (a.put (some u.1) v) K
/-- those of them that the operation looks at -/
def seen (ops : Array Oper) (o : Oper) (U : List (Nat × Ph)) : List (Nat × Ph) := U.filter fun u => (o.looksAt ops).contains u.1
/-- what lasts -/
def Lasts (ρ : Rl) (φ : Ph) : Prop := ∀ v W W', φ v W → ρ.r W W' → φ v W'
def NoBool (φ : Ph) : Prop := ∀ b W, ¬ φ (.bool b) W

/-- the walk of the head, in the text's order -/
def walk (P : Program) (ρ : Rl) (ops : Array Oper) (w : World) (Q : List (Nat × Ph) → Act → Prop) : List Oper → List (Nat × Ph) → Act → Prop
  | [], U, a => Q U a
  | o :: rest, U, a =>
    if Region.wanted o (yielded ops a.tmps) then
      (∃ v, (∀ p : Lat ρ w, opened (seen ops o U) p.W a fun a' => one P ρ p.W (fun u _ => u = v) ((execOp a'.eval o).run P p.W)) ∧ walk P ρ ops w Q rest U (a.put o.dst v)) ∨
      (∃ (d : Nat) (φ : Ph), o.dst = some d ∧ d < a.tmps.size ∧ Lasts ρ φ ∧ NoBool φ ∧ (∀ p : Lat ρ w, opened (seen ops o U) p.W a fun a' => one P ρ p.W φ ((execOp a'.eval o).run P p.W)) ∧
        walk P ρ ops w Q rest ((d, φ) :: U) (a.put (some d) undef))
    else walk P ρ ops w Q rest U (a.put o.dst undef)

section frames
variable {a b : Act} {d s : Nat} {v : Value}
theorem put_size (a : Act) (x : Option Tmp) (v : Value) : (a.put x v).tmps.size = a.tmps.size := by cases x <;> simp [Act.put]
theorem put_defers (a : Act) (x : Option Tmp) (v : Value) : (a.put x v).defers = a.defers := by cases x <;> rfl
theorem eval_ne (h : d ≠ s) : (a.put (some d) v).eval (.tmp s) = a.eval (.tmp s) := by
  simp [Act.eval, Act.put, Array.getElem?_setIfInBounds_ne h]
theorem eval_eq (h : d < a.tmps.size) : (a.put (some d) v).eval (.tmp d) = v := by
  simp [Act.eval, Act.put, h]
theorem eval_off (h : ¬ d < a.tmps.size) (b : Act) (hs : b.tmps.size = a.tmps.size) : b.eval (.tmp d) = undef := by
  simp [Act.eval, Array.getElem?_eq_none (xs := b.tmps) (i := d) (by omega)]
/-- two frames that agree on the slots of a list -/
def Agree (L : List Nat) (a b : Act) : Prop := ∀ s ∈ L, a.eval (.tmp s) = b.eval (.tmp s)
theorem Agree.put {L : List Nat} (h : Agree L a b) (hs : a.tmps.size = b.tmps.size) (d : Nat) (v : Value) : Agree L (a.put (some d) v) (b.put (some d) v) := fun s hsL => by
  by_cases e : d = s
  · subst e
    by_cases hd : d < a.tmps.size
    · rw [eval_eq hd, eval_eq (by omega)]
    · rw [eval_off hd _ (put_size ..), eval_off (a := b) (by omega) _ (put_size ..)]
  · rw [eval_ne e, eval_ne e]; exact h s hsL
theorem Agree.put_left {L : List Nat} (h : Agree L a b) (hd : d ∉ L) : Agree L (a.put (some d) v) b := fun s hs => by
  rw [eval_ne (fun e => hd (by rw [e]; exact hs))]; exact h s hs
end frames

theorem exec_agree {ops : Array Oper} {o : Oper} (hs : ∀ cs b, o.op ≠ .select cs b) {a b : Act} (h : Agree (o.looksAt ops) a b) : execOp a.eval o = execOp b.eval o :=
  execOp_congr o hs fun x hx => by
    cases x with
    | tmp t => exact h t (List.mem_append_left _ (List.mem_filterMap.2 ⟨.tmp t, by simpa using hx, rfl⟩))
    | _ => rfl

theorem opened_agree {L : List Nat} {K K' : Act → Prop} (hK : ∀ a b, a.tmps.size = b.tmps.size → Agree L a b → K a → K' b) : ∀ (us : List (Nat × Ph)) {W : World} {a b : Act}, a.tmps.size = b.tmps.size → Agree L a b → opened us W a K → opened us W b K'
  | [], _, _, _, hs, h, k => hK _ _ hs h k
  | u :: us, W, a, b, hs, h, k => fun v hv => opened_agree hK us (by rw [put_size, put_size]; exact hs) (h.put hs _ _) (k v hv)

/-- a's own values put into A -/
def fill (a : Act) : List (Nat × Ph) → Act → Act
  | [], A => A
  | u :: us, A => fill a us (A.put (some u.1) (a.eval (.tmp u.1)))
theorem opened_fill (a : Act) {K : Act → Prop} : ∀ (us : List (Nat × Ph)) {W : World} {A : Act}, (∀ u ∈ us, u.2 (a.eval (.tmp u.1)) W) → opened us W A K → K (fill a us A)
  | [], _, _, _, k => k
  | u :: us, _, _, h, k => opened_fill a us (fun x hx => h x (List.mem_cons_of_mem _ hx)) (k _ (h u (List.mem_cons_self ..)))
theorem fill_size (a : Act) : ∀ (us : List (Nat × Ph)) (A : Act), (fill a us A).tmps.size = A.tmps.size
  | [], _ => rfl
  | u :: us, A => by rw [fill, fill_size a us, put_size]
theorem fill_defers (a : Act) : ∀ (us : List (Nat × Ph)) (A : Act), (fill a us A).defers = A.defers
  | [], _ => rfl
  | u :: us, A => by rw [fill, fill_defers a us, put_defers]
/-- a slot that agrees stays so -/
theorem fill_keep (a : Act) {s : Nat} : ∀ (us : List (Nat × Ph)) {A : Act}, A.tmps.size = a.tmps.size → A.eval (.tmp s) = a.eval (.tmp s) → (fill a us A).eval (.tmp s) = a.eval (.tmp s)
  | [], _, _, h => h
  | u :: us, A, hs, h => fill_keep a us (by rw [put_size]; exact hs) (by
    by_cases e : u.1 = s
    · subst e
      by_cases hd : u.1 < A.tmps.size
      · rw [eval_eq hd]
      · rw [eval_off hd _ (put_size ..), eval_off hd a hs.symm]
    · rw [eval_ne e]; exact h)
theorem fill_at (a : Act) {s : Nat} : ∀ (us : List (Nat × Ph)) {A : Act}, A.tmps.size = a.tmps.size → s ∈ us.map (·.1) → (fill a us A).eval (.tmp s) = a.eval (.tmp s)
  | [], _, _, h => by cases h
  | u :: us, A, hs, h => by
    by_cases e : u.1 = s
    · refine fill_keep a us (by rw [put_size]; exact hs) ?_
      subst e
      by_cases hd : u.1 < A.tmps.size
      · rw [eval_eq hd]
      · rw [eval_off hd _ (put_size ..), eval_off hd a hs.symm]
    · refine fill_at a us (by rw [put_size]; exact hs) ?_
      rcases List.mem_cons.1 h with h | h
      · exact absurd h.symm e
      · exact h

/-! ### what the walk shows of each operation, said of the frame behind all of them -/
/-- what one operation does -/
def Cert (P : Program) (ρ : Rl) (ops : Array Oper) (w : World) (U : List (Nat × Ph)) (A : Act) (o : Oper) : Prop :=
  (Region.wanted o (yielded ops A.tmps) = false ∧ ∀ d, o.dst = some d → d ∉ U.map (·.1) ∧ A.eval (.tmp d) = undef) ∨
  (Region.wanted o (yielded ops A.tmps) = true ∧ ∃ φ : Ph, Lasts ρ φ ∧
    (∀ d, o.dst = some d → (∃ v, φ = (fun u _ => u = v) ∧ d ∉ U.map (·.1) ∧ (d < A.tmps.size → A.eval (.tmp d) = v)) ∨ ((d, φ) ∈ U ∧ d < A.tmps.size)) ∧
    ∀ p : Lat ρ w, opened (seen ops o U) p.W A fun a' => one P ρ p.W φ ((execOp a'.eval o).run P p.W))

variable {ops : Array Oper} {w : World}
/-- a guard's Bool, off a frame's slots -/
theorem yielded_eval (a : Act) (g : Nat) : yielded ops a.tmps g = match ((ops[g]?).bind (·.dst)) with | some t => (match a.eval (.tmp t) with | .bool b => some b | _ => none) | none => none := by
  unfold yielded
  cases (ops[g]?).bind (·.dst) with
  | none => rfl
  | some t =>
    simp only [Option.bind_some, Act.eval]
    cases h : a.tmps[t]? with
    | none => simp [h, undef]
    | some v =>
      simp only [h, Array.getD_eq_getD_getElem?, Option.getD_some]
      cases v <;> rfl
theorem guard_looked {o : Oper} {g : Nat} {b : Bool} (hg : o.guard = some (g, b)) {t : Nat} (ht : (ops[g]?).bind (·.dst) = some t) : t ∈ o.looksAt ops := by
  unfold Oper.looksAt
  rw [hg]
  exact List.mem_append_right _ (by simp [ht])
theorem wanted_of {o : Oper} {a b : Act} (h : ∀ t ∈ o.looksAt ops, (match a.eval (.tmp t) with | .bool x => some x | _ => none) = (match b.eval (.tmp t) with | .bool x => some x | _ => none)) : Region.wanted o (yielded ops a.tmps) = Region.wanted o (yielded ops b.tmps) := by
  unfold Region.wanted
  cases hg : o.guard with
  | none => rfl
  | some gw =>
    obtain ⟨g, x⟩ := gw
    have : yielded ops a.tmps g = yielded ops b.tmps g := by
      rw [yielded_eval, yielded_eval]
      cases ht : (ops[g]?).bind (·.dst) with
      | none => rfl
      | some t => exact h t (guard_looked hg ht)
    simp only [this]

theorem seen_cons {o : Oper} {d : Nat} {φ : Ph} {U : List (Nat × Ph)} (h : d ∉ o.looksAt ops) : seen ops o ((d, φ) :: U) = seen ops o U := by
  unfold seen
  rw [List.filter_cons_of_neg (by simpa using h)]

/-- a later operation's value turns nothing of it -/
theorem Cert.put {U : List (Nat × Ph)} {A : Act} {o : Oper} (hs : ∀ cs b, o.op ≠ .select cs b) (h : Cert P ρ ops w U A o) {x : Option Tmp} (hx : ∀ d, x = some d → d ∉ o.looksAt ops ∧ o.dst ≠ some d) (v : Value) : Cert P ρ ops w U (A.put x v) o := by
  cases x with
  | none => exact h
  | some d =>
    obtain ⟨h1, h2⟩ := hx d rfl
    have hw : Region.wanted o (yielded ops (A.put (some d) v).tmps) = Region.wanted o (yielded ops A.tmps) := wanted_put o A (some d) v (fun e he => by cases he; exact h1)
    have hev : ∀ e, o.dst = some e → (A.put (some d) v).eval (.tmp e) = A.eval (.tmp e) := fun e he => eval_ne (fun h' => h2 (by rw [h']; exact he))
    rcases h with ⟨a1, a2⟩ | ⟨a1, φ, a2, a3, a4⟩
    · exact .inl ⟨hw.trans a1, fun e he => ⟨(a2 e he).1, (hev e he).trans (a2 e he).2⟩⟩
    · refine .inr ⟨hw.trans a1, φ, a2, fun e he => ?_, fun p => opened_agree (L := o.looksAt ops) (fun a b _ hab k => by rw [← exec_agree hs hab]; exact k) _ (put_size ..).symm ?_ (a4 p)⟩
      · rw [hev e he, put_size]; exact a3 e he
      · intro s hs'
        rw [eval_ne (fun e => h1 (by rw [e]; exact hs'))]
theorem Cert.cons {U : List (Nat × Ph)} {A : Act} {o : Oper} (h : Cert P ρ ops w U A o) {d : Nat} (hd : d ∉ o.looksAt ops) (hd' : o.dst ≠ some d) (φ : Ph) : Cert P ρ ops w ((d, φ) :: U) A o := by
  rcases h with ⟨a1, a2⟩ | ⟨a1, ψ, a2, a3, a4⟩
  · refine .inl ⟨a1, fun e he => ⟨?_, (a2 e he).2⟩⟩
    simp only [List.map_cons, List.mem_cons, not_or]
    exact ⟨fun h' => hd' (h' ▸ he), (a2 e he).1⟩
  · refine .inr ⟨a1, ψ, a2, fun e he => ?_, fun p => by rw [seen_cons hd]; exact a4 p⟩
    rcases a3 e he with ⟨v, b1, b2, b3⟩ | ⟨b1, b2⟩
    · refine .inl ⟨v, b1, ?_, b3⟩
      simp only [List.map_cons, List.mem_cons, not_or]
      exact ⟨fun h' => hd' (h' ▸ he), b2⟩
    · exact .inr ⟨List.mem_cons_of_mem _ b1, b2⟩

/-- what the walk needs of the text: none looks at a slot that it, or a later one, writes; none writes another's slot -/
def apartB (ops : Array Oper) : List Oper → Bool
  | [] => true
  | o :: rest => (match o.dst with | some d => !(o.looksAt ops).contains d | none => true) && (rest.all fun x => match x.dst with | some d => !(o.looksAt ops).contains d && o.dst != some d | none => true) && apartB ops rest

/-- what is known behind the walk -/
structure Done (P : Program) (ρ : Rl) (ops : Array Oper) (w : World) (a0 : Act) (hd : List Oper) (U : List (Nat × Ph)) (A : Act) : Prop where
  size : A.tmps.size = a0.tmps.size
  defers : A.defers = a0.defers
  other : ∀ s, (∀ o ∈ hd, o.dst ≠ some s) → A.eval (.tmp s) = a0.eval (.tmp s)
  cert : ∀ o ∈ hd, Cert P ρ ops w U A o
  noBool : ∀ u ∈ U, NoBool u.2
  hidden : ∀ u ∈ U, A.eval (.tmp u.1) = undef
  slots : ∀ u ∈ U, ∃ o ∈ hd, o.dst = some u.1
  nodup : (U.map (·.1)).Nodup

theorem done_of_walk (hsel : ∀ o cs b, o ∈ ops.toList → o.op ≠ .select cs b) {Q : List (Nat × Ph) → Act → Prop} : ∀ (rest : List Oper) (pre : List Oper) (a0 : Act) (U : List (Nat × Ph)) (a : Act),
    (∀ o ∈ pre ++ rest, o ∈ ops.toList) → apartB ops (pre ++ rest) = true → Done P ρ ops w a0 pre U a → walk P ρ ops w Q rest U a → ∃ U' A, Done P ρ ops w a0 (pre ++ rest) U' A ∧ Q U' A
  | [], pre, a0, U, a, _, _, D, h => ⟨U, a, by simpa using D, h⟩
  | o :: rest, pre, a0, U, a, hm, hB, D, h => by
    have key : ∀ (l : List Oper), apartB ops (l ++ o :: rest) = true → (∀ x ∈ l, ∀ d, o.dst = some d → d ∉ x.looksAt ops ∧ x.dst ≠ some d) ∧ ∀ d, o.dst = some d → d ∉ o.looksAt ops := by
      intro l
      induction l with
      | nil =>
        intro hB
        refine ⟨fun x hx => (by cases hx), fun d hd => ?_⟩
        simp only [List.nil_append, apartB, hd, Bool.and_eq_true] at hB
        simpa using hB.1.1
      | cons y l ih =>
        intro hB
        simp only [List.cons_append, apartB, Bool.and_eq_true] at hB
        obtain ⟨h1, h2⟩ := ih hB.2
        refine ⟨fun x hx d hd => ?_, h2⟩
        rcases List.mem_cons.1 hx with rfl | hx
        · have := List.all_eq_true.1 hB.1.2 o (by simp)
          simp only [hd, Bool.and_eq_true] at this
          exact ⟨by simpa using this.1, by simpa using this.2⟩
        · exact h1 x hx d hd
    obtain ⟨k1, k2⟩ := key pre hB
    have ho : o ∈ ops.toList := hm o (by simp)
    have e1 : pre ++ o :: rest = (pre ++ [o]) ++ rest := by simp
    have nin : ∀ d, o.dst = some d → d ∉ U.map (·.1) := fun d hd hmem => by
      obtain ⟨u, hu, rfl⟩ := List.mem_map.1 hmem
      obtain ⟨x, hx, hxd⟩ := D.slots u hu
      exact (k1 x hx _ hd).2 hxd
    have other : ∀ (v : Value) s, (∀ x ∈ pre ++ [o], x.dst ≠ some s) → (a.put o.dst v).eval (.tmp s) = a0.eval (.tmp s) := fun v s hs => by
      have h0 := D.other s (fun x hx => hs x (by simp [hx]))
      cases hd : o.dst with
      | none => exact h0
      | some d => rw [eval_ne (fun e => hs o (by simp) (by rw [← e]; exact hd))]; exact h0
    have hid : ∀ (v : Value), ∀ u ∈ U, (a.put o.dst v).eval (.tmp u.1) = undef := fun v u hu => by
      cases hd : o.dst with
      | none => exact D.hidden u hu
      | some d => rw [eval_ne (fun e => nin d hd (by rw [e]; exact List.mem_map.2 ⟨u, hu, rfl⟩))]; exact D.hidden u hu
    have old : ∀ (v : Value), ∀ x ∈ pre, Cert P ρ ops w U (a.put o.dst v) x := fun v x hx => (D.cert x hx).put (fun cs b => hsel x cs b (hm x (by simp [hx]))) (fun d hd => k1 x hx d hd) v
    have agr : ∀ (v : Value), Agree (o.looksAt ops) a (a.put o.dst v) := fun v s hs => by
      cases hd : o.dst with
      | none => rfl
      | some d => rw [eval_ne (fun e => k2 d hd (by rw [e]; exact hs))]
    have wnt : ∀ (v : Value), Region.wanted o (yielded ops (a.put o.dst v).tmps) = Region.wanted o (yielded ops a.tmps) := fun v => wanted_put o a o.dst v (fun d hd => k2 d hd)
    have mk : ∀ (v : Value), Cert P ρ ops w U (a.put o.dst v) o → Done P ρ ops w a0 (pre ++ [o]) U (a.put o.dst v) := fun v hc =>
      { size := (put_size ..).trans D.size, defers := (put_defers ..).trans D.defers, other := other v,
        cert := fun x hx => (List.mem_append.1 hx).elim (old v x) (fun h => (List.mem_singleton.1 h) ▸ hc),
        noBool := D.noBool, hidden := hid v, slots := fun u hu => let ⟨x, hx, hxd⟩ := D.slots u hu; ⟨x, by simp [hx], hxd⟩, nodup := D.nodup }
    unfold walk at h
    split at h
    · rename_i hw
      rcases h with ⟨v, hrun, hrest⟩ | ⟨d, φ, hd, hlt, hlast, hnb, hrun, hrest⟩
      · rw [e1]
        refine done_of_walk hsel rest (pre ++ [o]) a0 U _ (by rw [← e1]; exact hm) (by rw [← e1]; exact hB) (mk v (.inr ⟨(wnt v).trans hw, fun u _ => u = v, fun _ _ _ h _ => h, fun d hd => .inl ⟨v, rfl, nin d hd, fun hlt => ?_⟩, fun p => ?_⟩)) hrest
        · rw [hd, eval_eq (by rw [put_size] at hlt; exact hlt)]
        · exact opened_agree (L := o.looksAt ops) (fun a b _ hab k => by rw [← exec_agree (fun cs b => hsel o cs b ho) hab]; exact k) _ (put_size ..).symm (agr v) (hrun p)
      · rw [e1]
        have hnd := nin d hd
        have step : Done P ρ ops w a0 (pre ++ [o]) ((d, φ) :: U) (a.put (some d) undef) := by
          have hx : a.put (some d) undef = a.put o.dst undef := by rw [hd]
          refine { size := (put_size ..).trans D.size, defers := (put_defers ..).trans D.defers, other := by rw [hx]; exact other undef, cert := fun x hx' => ?_, noBool := fun u hu => ?_, hidden := fun u hu => ?_, slots := fun u hu => ?_, nodup := ?_ }
          · rcases List.mem_append.1 hx' with h | h
            · have := old undef x h
              rw [← hx] at this
              exact this.cons (k1 x h d hd).1 (k1 x h d hd).2 φ
            · rw [List.mem_singleton.1 h]
              refine .inr ⟨by rw [hx]; exact (wnt undef).trans hw, φ, hlast, fun e he => .inr ⟨?_, ?_⟩, fun p => ?_⟩
              · rw [hd] at he; cases he; exact List.mem_cons_self ..
              · rw [hd] at he; cases he; rw [put_size]; exact hlt
              · rw [seen_cons (k2 d hd), hx]
                exact opened_agree (L := o.looksAt ops) (fun a b _ hab k => by rw [← exec_agree (fun cs b => hsel o cs b ho) hab]; exact k) _ (put_size ..).symm (agr undef) (hrun p)
          · rcases List.mem_cons.1 hu with rfl | hu
            · exact hnb
            · exact D.noBool u hu
          · rcases List.mem_cons.1 hu with rfl | hu
            · exact eval_eq hlt
            · rw [hx]; exact hid undef u hu
          · rcases List.mem_cons.1 hu with rfl | hu
            · exact ⟨o, by simp, hd⟩
            · let ⟨x, hx, hxd⟩ := D.slots u hu
              exact ⟨x, by simp [hx], hxd⟩
          · simp only [List.map_cons, List.nodup_cons]
            exact ⟨hnd, D.nodup⟩
        exact done_of_walk hsel rest (pre ++ [o]) a0 _ _ (by rw [← e1]; exact hm) (by rw [← e1]; exact hB) step hrest
    · rename_i hw
      rw [e1]
      refine done_of_walk hsel rest (pre ++ [o]) a0 U _ (by rw [← e1]; exact hm) (by rw [← e1]; exact hB) (mk undef (.inl ⟨(wnt undef).trans (by simpa using hw), fun d hd => ⟨nin d hd, ?_⟩⟩)) h
      rw [hd]
      by_cases hlt : d < a.tmps.size
      · exact eval_eq hlt
      · exact eval_off hlt _ (put_size ..)

/-! ### every order -/
variable {md : Region.Mode} {l : List Oper} {n : Nat}
/-- what an operation looks at it waits for -/
def edgeB (md : Region.Mode) (ops : Array Oper) (hd : List Oper) : Bool :=
  hd.all fun o => (o.looksAt ops).all fun s => (List.range hd.length).all fun k => match hd[k]? with
    | some x => x.dst != some s || o.after.any fun e => Region.binds md e && e.on == k
    | none => true
theorem edgeB_spec {hd : List Oper} (h : edgeB md ops hd = true) {o : Oper} (ho : o ∈ hd) {s k : Nat} (hs : s ∈ o.looksAt ops) {x : Oper} (hk : hd[k]? = some x) (hx : x.dst = some s) : ∃ e ∈ o.after, Region.binds md e = true ∧ e.on = k := by
  have h1 := List.all_eq_true.1 (List.all_eq_true.1 (List.all_eq_true.1 h o ho) s hs) k (List.mem_range.2 (List.getElem?_eq_some_iff.1 hk).1)
  simp only [hk, hx] at h1
  simp only [bne_self_eq_false, Bool.false_or] at h1
  obtain ⟨e, he, h2⟩ := Array.any_eq_true'.1 h1
  simp only [Bool.and_eq_true, beq_iff_eq] at h2
  exact ⟨e, he, h2.1, h2.2⟩

/-- what holds on the way, whatever has been done -/
structure Inv (ρ : Rl) (w : World) (l : List Oper) (n : Nat) (U : List (Nat × Ph)) (A : Act) (m : Array Bool) (a : Act) (W : World) : Prop where
  rel : ρ.r w W
  size : a.tmps.size = A.tmps.size
  defers : a.defers = A.defers
  other : ∀ s, (∀ o ∈ l.take n, o.dst ≠ some s) → a.eval (.tmp s) = A.eval (.tmp s)
  told : ∀ j o d, j < n → l[j]? = some o → m.getD j true = true → o.dst = some d → d ∉ U.map (·.1) → a.eval (.tmp d) = A.eval (.tmp d)
  such : ∀ j o d φ, j < n → l[j]? = some o → m.getD j true = true → o.dst = some d → (d, φ) ∈ U → φ (a.eval (.tmp d)) W

theorem once {U : List (Nat × Ph)} (h : (U.map (·.1)).Nodup) {d : Nat} {φ ψ : Ph} (h1 : (d, φ) ∈ U) (h2 : (d, ψ) ∈ U) : φ = ψ := by
  induction U with
  | nil => cases h1
  | cons u U ih =>
    simp only [List.map_cons, List.nodup_cons] at h
    rcases List.mem_cons.1 h1 with e1 | e1
    · rcases List.mem_cons.1 h2 with e2 | e2
      · rw [← e1] at e2; injection e2 with _ e3; exact e3.symm
      · exact absurd (List.mem_map.2 ⟨_, e2, by rw [← e1]⟩) h.1
    · rcases List.mem_cons.1 h2 with e2 | e2
      · exact absurd (List.mem_map.2 ⟨_, e1, by rw [← e2]⟩) h.1
      · exact ih h.2 e1 e2

theorem apart_at {ops : Array Oper} : ∀ {hd : List Oper}, apartB ops hd = true → ∀ {i j : Nat} {o x : Oper}, hd[i]? = some o → hd[j]? = some x → i ≠ j → ∀ d, o.dst = some d → x.dst ≠ some d
  | [], _, _, _, _, _, h, _, _ => by simp at h
  | y :: hd, h, i, j, o, x, hi, hj, hne => by
    simp only [apartB, Bool.and_eq_true] at h
    intro d hd'
    match i, j, hi, hj, hne with
    | 0, 0, _, _, hne => exact absurd rfl hne
    | 0, j + 1, hi, hj, _ =>
      have e : y = o := by simpa using hi
      subst e
      have hm : x ∈ hd := List.mem_of_getElem? (by simpa using hj)
      have := List.all_eq_true.1 h.1.2 x hm
      intro hx
      simp only [hx, Bool.and_eq_true] at this
      have h2 := this.2
      rw [hd'] at h2
      simp at h2
    | i + 1, 0, hi, hj, _ =>
      have e : y = x := by simpa using hj
      subst e
      have hm : o ∈ hd := List.mem_of_getElem? (by simpa using hi)
      have := List.all_eq_true.1 h.1.2 o hm
      simp only [hd', Bool.and_eq_true] at this
      intro hx
      have h2 := this.2
      rw [hx] at h2
      simp at h2
    | i + 1, j + 1, hi, hj, hne => exact apart_at h.2 (by simpa using hi) (by simpa using hj) (by omega) d hd'

theorem step_of {a0 : Act} {U : List (Nat × Ph)} {A : Act} (hsel : Region.noSelect l.toArray = true) (hap : apartB (l.take n).toArray (l.take n) = true) (hed : edgeB md (l.take n).toArray (l.take n) = true) (hb : Qt.backB md (l.take n) = true) (hn : n ≤ l.length)
    (D : Done P ρ (l.take n).toArray w a0 (l.take n) U A) {Q : Exit → Act → World → Prop} {m : Array Bool} {a : Act} {W : World} (I : Inv ρ w l n U A m a W) {i : Nat} (hi : i < n) (hsz : m.size = l.length) (hr : i ∈ Region.ready md l.toArray m) :
    wpOp P l.toArray Q i (fun a' W' => Inv ρ w l n U A (m.setIfInBounds i true) a' W') a W := by
  have hil : i < l.length := by omega
  have hoi : l[i]? = some l[i] := List.getElem?_eq_getElem hil
  have hoh : (l.take n)[i]? = some l[i] := by simp [hi, hil]
  generalize ho : l[i] = o at hoi hoh
  have hom : o ∈ l.take n := List.mem_of_getElem? hoh
  have hsel' : ∀ cs b, o.op ≠ .select cs b := fun cs b => Region.noSelect_spec hsel i o cs b (by simpa using hoi)
  -- what it looks at is there
  have look : ∀ s ∈ o.looksAt (l.take n).toArray, (s ∉ U.map (·.1) → a.eval (.tmp s) = A.eval (.tmp s)) ∧ ∀ φ, (s, φ) ∈ U → φ (a.eval (.tmp s)) W := by
    intro s hs
    by_cases hex : ∃ x ∈ l.take n, x.dst = some s
    · obtain ⟨x, hx, hxs⟩ := hex
      obtain ⟨k, hk⟩ := List.mem_iff_getElem?.1 hx
      have hkn : k < n := by have := (List.getElem?_eq_some_iff.1 hk).1; simp at this; omega
      have hkl : l[k]? = some x := by simpa [List.getElem?_take, hkn] using hk
      obtain ⟨e, he, hbd, hon⟩ := edgeB_spec hed hom hs hk hxs
      obtain ⟨_, o', ho', hall⟩ := mem_ready.1 hr
      have hoo : o' = o := by
        have : l[i]? = some o' := by simpa using ho'
        rw [hoi] at this; injection this with e; exact e.symm
      subst hoo
      have hl := hall e he hbd
      rw [hon] at hl
      have hl' : m.getD k true = true := by
        rw [Array.getD_eq_getD_getElem?, Array.getElem?_eq_getElem (by omega)] at hl ⊢
        simpa using hl
      exact ⟨fun hU => I.told k x s hkn hkl hl' hxs hU, fun φ hφ => I.such k x s φ hkn hkl hl' hxs hφ⟩
    · have hno : ∀ x ∈ l.take n, x.dst ≠ some s := fun x hx hxs => hex ⟨x, hx, hxs⟩
      refine ⟨fun _ => I.other s hno, fun φ hφ => ?_⟩
      obtain ⟨x, hx, hxs⟩ := D.slots _ hφ
      exact absurd hxs (hno x hx)
  have hwant : Region.wanted o (yielded (l.take n).toArray a.tmps) = Region.wanted o (yielded (l.take n).toArray A.tmps) := wanted_of fun t ht => by
    by_cases hU : t ∈ U.map (·.1)
    · obtain ⟨u, hu, rfl⟩ := List.mem_map.1 hU
      have h1 := (look _ ht).2 u.2 hu
      have h2 := D.noBool u hu
      rw [D.hidden u hu]
      cases hv : a.eval (.tmp u.1) with
      | bool b => rw [hv] at h1; exact absurd h1 (h2 b W)
      | _ => rfl
    · rw [(look _ ht).1 hU]
  -- what it leaves
  have leave : ∀ (u : Value) (W' : World), ρ.r W W' → (∀ d, o.dst = some d → (d ∉ U.map (·.1) → d < A.tmps.size → A.eval (.tmp d) = u) ∧ ∀ φ, (d, φ) ∈ U → d < A.tmps.size ∧ φ u W') → Inv ρ w l n U A (m.setIfInBounds i true) (a.put o.dst u) W' := by
    intro u W' hrel hu
    have lasts : ∀ d φ, (d, φ) ∈ U → Lasts ρ φ := fun d φ hφ => by
      obtain ⟨x, hx, hxs⟩ := D.slots _ hφ
      rcases D.cert x hx with ⟨_, h2⟩ | ⟨_, ψ, h1, h2, _⟩
      · exact absurd (List.mem_map.2 ⟨_, hφ, rfl⟩) (h2 _ hxs).1
      · rcases h2 _ hxs with ⟨v, _, h4, _⟩ | ⟨h4, _⟩
        · exact absurd (List.mem_map.2 ⟨_, hφ, rfl⟩) h4
        · rw [once D.nodup hφ h4]; exact h1
    have apt : ∀ j x d, j < n → l[j]? = some x → j ≠ i → x.dst = some d → o.dst ≠ some d := fun j x d hj hx hne hd => by
      exact apart_at hap (i := j) (j := i) (by simpa [List.getElem?_take, hj] using hx) hoh hne d hd
    refine ⟨ρ.trans I.rel hrel, by rw [put_size]; exact I.size, by rw [put_defers]; exact I.defers, fun s hs => ?_, fun j x d hj hx hm hd hU => ?_, fun j x d φ hj hx hm hd hU => ?_⟩
    · have h0 := I.other s hs
      cases hd : o.dst with
      | none => exact h0
      | some d => rw [eval_ne (fun e => hs o hom (by rw [← e]; exact hd))]; exact h0
    · by_cases hji : j = i
      · subst hji
        have hxo : x = o := by rw [hoi] at hx; injection hx with e; exact e.symm
        subst hxo
        rw [hd]
        by_cases hlt : d < a.tmps.size
        · rw [eval_eq hlt, (hu d hd).1 hU (by rw [← I.size]; exact hlt)]
        · rw [eval_off hlt _ (put_size ..), eval_off hlt A I.size.symm]
      · have h0 := I.told j x d hj hx (by rw [getD_set_ne true (Ne.symm hji)] at hm; exact hm) hd hU
        cases hd' : o.dst with
        | none => exact h0
        | some e => rw [eval_ne (fun h => apt j x d hj hx hji hd (by rw [← h]; exact hd'))]; exact h0
    · by_cases hji : j = i
      · subst hji
        have hxo : x = o := by rw [hoi] at hx; injection hx with e; exact e.symm
        subst hxo
        obtain ⟨h1, h2⟩ := (hu d hd).2 φ hU
        rw [hd, eval_eq (by rw [I.size]; exact h1)]
        exact h2
      · have h0 := I.such j x d φ hj hx (by rw [getD_set_ne true (Ne.symm hji)] at hm; exact hm) hd hU
        have h1 := lasts d φ hU _ _ _ h0 hrel
        cases hd' : o.dst with
        | none => exact h1
        | some e => rw [eval_ne (fun h => apt j x d hj hx hji hd (by rw [← h]; exact hd'))]; exact h1
  unfold wpOp
  rw [show l.toArray[i]? = some o by simpa using hoi]
  simp only
  rw [← Qt.wanted_head hb hn hoh a, hwant]
  rcases D.cert o hom with ⟨hw, h2⟩ | ⟨hw, φ, h1, h2, h3⟩
  · rw [hw]
    simp only [Bool.false_eq_true, if_false]
    exact leave undef W (ρ.refl _) (fun d hd => ⟨fun _ _ => (h2 d hd).2, fun φ hφ => absurd (List.mem_map.2 ⟨_, hφ, rfl⟩) (h2 d hd).1⟩)
  · rw [hw]
    simp only [if_true]
    refine .inl ?_
    have h4 : one P ρ W φ ((execOp (fill a (seen (l.take n).toArray o U) A).eval o).run P W) := opened_fill a _ (fun u hu => (look u.1 (by have := (List.mem_filter.1 hu).2; simpa using this)).2 u.2 (List.mem_filter.1 hu).1) (h3 ⟨W, I.rel⟩)
    have hag : Agree (o.looksAt (l.take n).toArray) (fill a (seen (l.take n).toArray o U) A) a := fun s hs => by
      by_cases hU : s ∈ U.map (·.1)
      · obtain ⟨u, hu, rfl⟩ := List.mem_map.1 hU
        exact fill_at a _ I.size.symm (List.mem_map.2 ⟨u, List.mem_filter.2 ⟨hu, by simpa using hs⟩, rfl⟩)
      · exact fill_keep a _ I.size.symm ((look s hs).1 hU).symm
    rw [exec_agree hsel' hag] at h4
    have fin : ∀ (u : Value) (W' : World), ρ.r W W' → φ u W' → Inv ρ w l n U A (m.setIfInBounds i true) (a.put o.dst u) W' := fun u W' hrel hφ => leave u W' hrel (fun d hd => by
      rcases h2 d hd with ⟨v, e1, e2, e3⟩ | ⟨e1, e2⟩
      · subst e1
        refine ⟨fun _ hlt => (e3 hlt).trans hφ.symm, fun ψ hψ => absurd (List.mem_map.2 ⟨_, hψ, rfl⟩) e2⟩
      · refine ⟨fun hno => absurd (List.mem_map.2 ⟨_, e1, rfl⟩) hno, fun ψ hψ => ⟨e2, ?_⟩⟩
        rw [once D.nodup hψ e1]; exact hφ)
    unfold Oper.wp
    generalize (execOp a.eval o).run P W = r at h4
    cases r with
    | ok x W' =>
      cases x <;> simp only [one] at h4 <;> simp only [Oper.upon]
      case value u => exact fin u W' h4.1 h4.2
      case skip => exact fin undef W' h4.1 h4.2
      case enter f args => exact h4.mono fun e W'' ⟨v, he, hrel, hφ⟩ => by subst he; exact fin v W'' hrel hφ
    | halt x W' => simp only [one] at h4

/-- how many of the head are still to be done -/
def left (n : Nat) (m : Array Bool) : Nat := ((List.range n).filter fun j => !m.getD j true).length
theorem left_set {m : Array Bool} {i : Nat} (hi : i < n) (hu : m.getD i true = false) : left n (m.setIfInBounds i true) < left n m := by
  unfold left
  have e : ((List.range n).filter fun j => !(m.setIfInBounds i true).getD j true) = (((List.range n).filter fun j => !m.getD j true).filter fun j => j != i) := by
    rw [List.filter_filter]
    refine List.filter_congr fun j _ => ?_
    by_cases hij : i = j
    · subst hij
      have : (m.setIfInBounds i true).getD i true = true := by
        by_cases hs : i < m.size
        · simp [hs]
        · simp [Array.getElem?_eq_none (xs := m.setIfInBounds i true) (i := i) (by simp; omega)]
      rw [this]; simp
    · rw [getD_set_ne true hij]
      simp [Ne.symm hij]
  rw [e]
  have h1 : i ∈ (List.range n).filter fun j => !m.getD j true := List.mem_filter.2 ⟨List.mem_range.2 hi, by rw [hu]; rfl⟩
  exact List.length_filter_lt_length_iff_exists.2 ⟨i, h1, by simp⟩

theorem any_of_inv {g : Nat} {Q' : Exit → Act → World → Prop} {J : Array Bool → Act → World → Prop} (hb : Qt.backB md (l.take n) = true) (hn : n ≤ l.length) (hw : n = l.length ∨ (Region.sinkB md l.toArray n = true ∧ Region.chainB md l.toArray n = true))
    (hstep : ∀ m a W i, J m a W → i < n → m.size = l.length → i ∈ Region.ready md l.toArray m → wpOp P l.toArray Q' i (fun a' W' => J (m.setIfInBounds i true) a' W') a W)
    (hend : ∀ f m a W, HeadInv md l.toArray n m → (∀ j, j < n → m.getD j true = true) → J m a W → wpAny P md l.toArray Q' (f + g) m a W) :
    ∀ (f : Nat) (m : Array Bool) (a : Act) (W : World), left n m ≤ f → HeadInv md l.toArray n m → J m a W → wpAny P md l.toArray Q' (f + g) m a W := by
  intro f
  induction f with
  | zero =>
    intro m a W hl inv hJ
    refine hend 0 m a W inv (fun j hj => ?_) hJ
    by_cases hc : m.getD j true = true
    · exact hc
    · have h1 : j ∈ (List.range n).filter fun j => !m.getD j true := List.mem_filter.2 ⟨List.mem_range.2 hj, by simpa using hc⟩
      have h2 := List.length_pos_of_mem h1
      unfold left at hl
      omega
  | succ f ih =>
    intro m a W hl inv hJ
    by_cases hd : ∀ j, j < n → m.getD j true = true
    · exact hend (f + 1) m a W inv hd hJ
    · have hsz : m.size = l.length := by simpa using inv.size
      -- the first that is not done is ready
      have first : ∀ j, j < n → m.getD j true = false → ∃ i, i < n ∧ i ∈ Region.ready md l.toArray m := by
        intro j
        induction j using Nat.strongRecOn with
        | _ j ihj =>
          intro hj hun
          have hjl : j < l.length := by omega
          by_cases hall : ∀ e ∈ l[j].after, Region.binds md e = true → m.getD e.on false = true
          · exact ⟨j, hj, mem_ready.2 ⟨hun, l[j], by simp [hjl], hall⟩⟩
          · simp only [Classical.not_forall] at hall
            obtain ⟨e, he, hbd, hno⟩ := hall
            have hlt := (Qt.backB_spec hb (j := j) (o := l[j]) (by simp [hj, hjl])).1 e he hbd
            refine ihj e.on hlt (by omega) ?_
            rw [Array.getD_eq_getD_getElem?, Array.getElem?_eq_getElem (by omega)] at hno ⊢
            simpa using hno
      simp only [Classical.not_forall] at hd
      obtain ⟨j, hj, hun⟩ := hd
      have hun' : m.getD j true = false := by simpa using hun
      obtain ⟨i0, hi0, hr0⟩ := first j hj hun'
      rw [show f + 1 + g = (f + g) + 1 by omega]
      refine ⟨fun h0 => (by rw [h0] at hr0; cases hr0), fun i hi => ?_⟩
      have hin : i < n := by
        rcases hw with hw | ⟨hs, hc⟩
        · obtain ⟨_, o, ho, _⟩ := mem_ready.1 hi
          have := (Array.getElem?_eq_some_iff.1 ho).1
          simp at this; omega
        · rcases Nat.lt_or_ge i n with h' | h'
          · exact h'
          · rcases Nat.lt_or_ge n l.length with hlt | hge
            · exact absurd hi (tail_waits hs hc (by simpa using hlt) inv _ j rfl hj hun' i h')
            · obtain ⟨_, o, ho, _⟩ := mem_ready.1 hi
              have := (Array.getElem?_eq_some_iff.1 ho).1
              simp at this; omega
      have hui := (mem_ready.1 hi).1
      exact wpOp_mono (fun a' W' h' => ih _ a' W' (by have := left_set hin hui; omega) (inv.set hi hin) h') (hstep m a W i hJ hin hsz hi)

def okB (md : Region.Mode) (l : List Oper) (n : Nat) : Bool :=
  decide (n ≤ l.length) && Region.noSelect l.toArray && Qt.backB md (l.take n) && apartB (l.take n).toArray (l.take n) && edgeB md (l.take n).toArray (l.take n) &&
    (decide (n = l.length) || (Region.sinkB md l.toArray n && Region.chainB md l.toArray n && Region.seqB md l.toArray (l.length - n) n (Qt.full l.length n)))

theorem act_ext {a b : Act} (hs : a.tmps.size = b.tmps.size) (hd : a.defers = b.defers) (h : ∀ s, a.eval (.tmp s) = b.eval (.tmp s)) : a = b := by
  obtain ⟨ta, da⟩ := a
  obtain ⟨tb, db⟩ := b
  simp only at hs hd
  subst hd
  have : ta = tb := by
    apply Array.ext hs
    intro i h1 h2
    have := h i
    simp only [Act.eval, Array.getD_eq_getD_getElem?, Array.getElem?_eq_getElem h1, Array.getElem?_eq_getElem h2, Option.getD_some] at this
    exact this
  rw [this]

/-- **A drawn region, its head walked once**: behind it the frame has what the walk says, the world is one that the class lets come. -/
theorem region {id : Nat} {Q : Exit → Act → World → Prop} {a : Act} {w : World} {l : List Oper} (ρ : Rl) (n : Nat) (hm : P.follows .mixedOrders = true) (hB : okB .any l n = true)
    (h : walk P ρ (l.take n).toArray w (fun U A => ∀ p : Lat ρ w, opened U p.W A fun a' => wpList P l.toArray Q (l.drop n) a' p.W) (l.take n) [] a) : (Code.region id l.toArray true).wp P Q a w := by
  simp only [okB, Bool.and_eq_true, decide_eq_true_eq, Bool.or_eq_true] at hB
  obtain ⟨⟨⟨⟨⟨hn, hsel⟩, hb⟩, hap⟩, hed⟩, htl⟩ := hB
  have hlen : (l.take n).length = n := by simp; omega
  obtain ⟨U, A, D, hQ⟩ := done_of_walk (ops := (l.take n).toArray) (w := w) (ρ := ρ) (P := P) (fun o cs b ho => by
      obtain ⟨i, hi⟩ := List.mem_iff_getElem?.1 ho
      have hin : i < n := by have := (List.getElem?_eq_some_iff.1 hi).1; simp at this; omega
      exact Region.noSelect_spec hsel i o cs b (by simpa [List.getElem?_take, hin] using hi)) (l.take n) [] a [] a (fun o ho => by simpa using ho) (by simpa using hap)
    { size := rfl, defers := rfl, other := fun _ _ => rfl, cert := fun o ho => (by cases ho), noBool := fun u hu => (by cases hu), hidden := fun u hu => (by cases hu), slots := fun u hu => (by cases hu), nodup := by simp } h
  simp only [List.nil_append] at D
  have key := any_of_inv (P := P) (md := .any) (l := l) (n := n) (Q' := Q) (g := l.length - n) (J := Inv ρ w l n U A) hb hn
    (by rcases htl with h1 | ⟨⟨h1, h2⟩, _⟩; exact .inl h1; exact .inr ⟨h1, h2⟩)
    (fun m a' W i I hi hsz hr => step_of hsel hap hed hb hn D I hi hsz hr)
    (fun f m a' W inv hd I => by
      have ea : fill a' U A = a' := by
        refine act_ext ((fill_size ..).trans I.size.symm) ((fill_defers ..).trans I.defers.symm) fun s => ?_
        by_cases hU : s ∈ U.map (·.1)
        · exact fill_at a' U I.size.symm hU
        · refine fill_keep a' U I.size.symm ?_
          by_cases hex : ∃ x ∈ l.take n, x.dst = some s
          · obtain ⟨x, hx, hxs⟩ := hex
            obtain ⟨k, hk⟩ := List.mem_iff_getElem?.1 hx
            have hkn : k < n := by have := (List.getElem?_eq_some_iff.1 hk).1; simp at this; omega
            exact (I.told k x s hkn (by simpa [List.getElem?_take, hkn] using hk) (hd k hkn) hxs hU).symm
          · exact (I.other s (fun x hx hxs => hex ⟨x, hx, hxs⟩)).symm
      have hK := opened_fill a' U (fun u hu => by
        obtain ⟨x, hx, hxs⟩ := D.slots u hu
        obtain ⟨k, hk⟩ := List.mem_iff_getElem?.1 hx
        have hkn : k < n := by have := (List.getElem?_eq_some_iff.1 hk).1; simp at this; omega
        exact I.such k x u.1 u.2 hkn (by simpa [List.getElem?_take, hkn] using hk) (hd k hkn) hxs hu) (hQ ⟨W, I.rel⟩)
      rw [ea] at hK
      have hseq : Region.seqB .any l.toArray (l.drop n).length n m = true := by
        rcases htl with h1 | ⟨_, h3⟩
        · have : l.drop n = [] := List.drop_eq_nil_of_le (by omega)
          rw [this]
          simp only [List.length_nil, Region.seqB]
          rw [List.isEmpty_iff, List.eq_nil_iff_forall_not_mem]
          intro i hi
          obtain ⟨hun, o, ho, _⟩ := mem_ready.1 hi
          have hlt := (Array.getElem?_eq_some_iff.1 ho).1
          simp at hlt
          rw [hd i (by omega)] at hun
          cases hun
        · rcases Nat.lt_or_ge n l.length with hlt | hge
          · rw [Qt.eq_full hlt inv hd]
            simpa using h3
          · have : l.drop n = [] := List.drop_eq_nil_of_le hge
            rw [this]
            simp only [List.length_nil, Region.seqB]
            rw [List.isEmpty_iff, List.eq_nil_iff_forall_not_mem]
            intro i hi
            obtain ⟨hun, o, ho, _⟩ := mem_ready.1 hi
            have hlt := (Array.getElem?_eq_some_iff.1 ho).1
            simp at hlt
            rw [hd i (by omega)] at hun
            cases hun
      have := Qt.any_of_seq (P := P) (md := .any) (l := l) (Q' := Q) (l.drop n) n f m a' W (fun j => by simp [List.getElem?_drop]) hseq hK
      simpa using this)
    n (Array.replicate l.toArray.size false) a w.drew (by
      unfold left
      exact Nat.le_trans (List.length_filter_le _ _) (by simp))
    ⟨by simp, fun j oj _ hl => (by rw [getD_replicate_false] at hl; cases hl), fun t _ ht => getD_in (by simpa using ht) (getD_replicate_false _ _)⟩
    ⟨ρ.drew w, D.size.symm, D.defers.symm, fun s hs => (D.other s hs).symm, fun j o d hj _ hm _ _ => (by
        rw [Array.getD_eq_getD_getElem?, Array.getElem?_replicate, if_pos (by rw [List.size_toArray]; omega)] at hm; cases hm),
      fun j o d φ hj _ hm _ _ => (by
        rw [Array.getD_eq_getD_getElem?, Array.getElem?_replicate, if_pos (by rw [List.size_toArray]; omega)] at hm; cases hm)⟩
  refine wp_region_any hm ?_
  rw [show n + (l.length - n) = l.toArray.size by simp; omega] at key
  exact key
end Og
end Go.Proofs.Ytfmbldjaknjgbaa
namespace Go.Proofs.Ytfmbldjaknjgbaa
open Go Go.RowKit

namespace Og
variable {P : Program} {ρ : Rl} {ops : Array Oper} {w : World} {Q : List (Nat × Ph) → Act → Prop} {o : Oper} {rest : List Oper} {U : List (Nat × Ph)} {a : Act}

theorem one_value (W W' : World) (φ : Ph) (u : Value) : one P ρ W φ (.ok (.value u) W') = (ρ.r W W' ∧ φ u W') := rfl
theorem one_skip (W W' : World) (φ : Ph) : one P ρ W φ (.ok .skip W') = (ρ.r W W' ∧ φ undef W') := rfl
theorem one_enter (W W' : World) (φ : Ph) (f : FuncId) (args : Array Value) : one P ρ W φ (.ok (.enter f args) W') = Calls P f args W' fun e W'' => ∃ v, e = .returned v ∧ ρ.r W W'' ∧ φ v W'' := rfl
theorem r_self (W : World) : ρ.r W W = True := eq_true (ρ.refl W)
theorem opened_nil (W : World) (K : Act → Prop) : opened [] W a K = K a := rfl
theorem opened_cons (u : Nat × Ph) (us : List (Nat × Ph)) (W : World) (K : Act → Prop) : opened (u :: us) W a K = ∀ v, u.2 v W → opened us W (a.put (some u.1) v) K := rfl

/-- a step whose value is told -/
theorem det (S : List (Nat × Ph)) (hS : seen ops o U = S) (h : ∀ K : List (Nat × Ph) → Act → Prop, (∀ U a, walk P ρ ops w Q rest U a → K U a) →
    if Region.wanted o (yielded ops a.tmps) then (∃ v, (∀ p : Lat ρ w, opened S p.W a fun a' => one P ρ p.W (fun u _ => u = v) ((execOp a'.eval o).run P p.W)) ∧ K U (a.put o.dst v)) else K U (a.put o.dst undef)) : walk P ρ ops w Q (o :: rest) U a := by
  subst hS
  have := h (walk P ρ ops w Q rest) (fun _ _ h => h)
  unfold walk
  split
  · rename_i hw
    rw [if_pos hw] at this
    exact .inl this
  · rename_i hw
    rw [if_neg hw] at this
    exact this
/-- a step of whose value it is said what it is like -/
theorem such (d : Nat) (φ : Ph) (S : List (Nat × Ph)) (hS : seen ops o U = S) (hl : Lasts ρ φ) (hb : NoBool φ) (h : ∀ K : List (Nat × Ph) → Act → Prop, (∀ U a, walk P ρ ops w Q rest U a → K U a) →
    Region.wanted o (yielded ops a.tmps) = true ∧ o.dst = some d ∧ d < a.tmps.size ∧ (∀ p : Lat ρ w, opened S p.W a fun a' => one P ρ p.W φ ((execOp a'.eval o).run P p.W)) ∧ K ((d, φ) :: U) (a.put (some d) undef)) : walk P ρ ops w Q (o :: rest) U a := by
  subst hS
  obtain ⟨hw, h1, h2, h3, h4⟩ := h (walk P ρ ops w Q rest) (fun _ _ h => h)
  unfold walk
  rw [if_pos hw]
  exact .inr ⟨d, φ, h1, h2, hl, hb, h3, h4⟩
theorem fin (h : Q U a) : walk P ρ ops w Q [] U a := h

/-- a callee that only reckons; one that lays memory -/
theorem same {f : FuncId} {args : Array Value} {W : World} {v : Value} (h : Calls P f args W fun e W' => e = .returned v ∧ W = W') : Calls P f args W fun e W' => e = .returned v ∧ ρ.r W W' :=
  h.mono fun _ _ h => ⟨h.1, h.2 ▸ ρ.refl W⟩
theorem lays {f : FuncId} {args : Array Value} {W : World} {v : Value} (h : Calls P f args W fun e W' => e = .returned v ∧ Below W.heap.size W W') : Calls P f args W fun e W' => e = .returned v ∧ grows.r W W' := h

/-- a region in which nothing that was there turns -/
theorem grow {id : Nat} {Q : Exit → Act → World → Prop} {l : List Oper} (n : Nat) (hm : P.follows .mixedOrders = true) (hB : okB .any l n = true)
    (h : (∀ (p : Lat grows w) b o, b < w.heap.size → p.W.cell? ⟨b, o, none⟩ = w.cell? ⟨b, o, none⟩) → (∀ (p : Lat grows w) b o, b < w.heap.size → p.W.frozen? ⟨b, o, none⟩ = w.frozen? ⟨b, o, none⟩) →
      walk P grows (l.take n).toArray w (fun U A => ∀ W, Below w.heap.size w W → opened U W A fun a' => wpList P l.toArray Q (l.drop n) a' W) (l.take n) [] a) : (Code.region id l.toArray true).wp P Q a w := by
  refine region grows n hm hB ?_
  have := h (fun p b o hb => Below.cell (p := ⟨b, o, none⟩) p.h hb) (fun p b o hb => Below.frozen (p := ⟨b, o, none⟩) p.h hb)
  have e : (fun (U : List (Nat × Ph)) (A : Act) => ∀ W, Below w.heap.size w W → opened U W A fun a' => wpList P l.toArray Q (l.drop n) a' W) = (fun U A => ∀ p : Lat grows w, opened U p.W A fun a' => wpList P l.toArray Q (l.drop n) a' p.W) := by
    funext U A
    exact propext ⟨fun k p => k p.W p.h, fun k W hW => k ⟨W, hW⟩⟩
  rw [e] at this
  exact this

/-- a block of one's own that holds these cells -/
def Fresh (B : Nat) (cs : Array Value) (T : TypeId) (n : Nat) : Ph := fun v W => ∃ b, v = .slice (some ⟨b, 0, none⟩) n n ∧ B ≤ b ∧ b < W.heap.size ∧ W.heap[b]? = some (.cells cs T (0, 0))
theorem Fresh.lasts (B : Nat) (cs : Array Value) (T : TypeId) (n : Nat) : Lasts grows (Fresh B cs T n) := fun _ _ _ ⟨b, h1, h2, h3, h4⟩ hr => ⟨b, h1, h2, Nat.lt_of_lt_of_le h3 hr.size, (hr.block b h3).trans h4⟩
theorem Fresh.noBool (B : Nat) (cs : Array Value) (T : TypeId) (n : Nat) : NoBool (Fresh B cs T n) := fun _ _ ⟨_, h, _⟩ => by cases h
/-- a box of one's own that holds these cells -/
def Box (B : Nat) (cs : Array Value) (T : TypeId) : Ph := fun v W => ∃ b, v = .pointer (some ⟨b, 0, none⟩) ∧ B ≤ b ∧ b < W.heap.size ∧ W.heap[b]? = some (.cells cs T (0, 0))
theorem Box.lasts (B : Nat) (cs : Array Value) (T : TypeId) : Lasts grows (Box B cs T) := fun _ _ _ ⟨b, h1, h2, h3, h4⟩ hr => ⟨b, h1, h2, Nat.lt_of_lt_of_le h3 hr.size, (hr.block b h3).trans h4⟩
theorem Box.noBool (B : Nat) (cs : Array Value) (T : TypeId) : NoBool (Box B cs T) := fun _ _ ⟨_, h, _⟩ => by cases h
theorem Box.new (W : World) (B : Nat) (hB : B ≤ W.heap.size) (cs : Array Value) (T : TypeId) : grows.r W (W.alloc (.cells cs T)) ∧ Box B cs T (.pointer (some ⟨W.heap.size, 0, none⟩)) (W.alloc (.cells cs T)) :=
  ⟨(Below.refl _ _).alloc (Nat.le_refl _) _, W.heap.size, rfl, hB, by simp, heap_alloc_new W _⟩
theorem Fresh.new (W : World) (B : Nat) (hB : B ≤ W.heap.size) (cs : Array Value) (T : TypeId) (n : Nat) : grows.r W (W.alloc (.cells cs T)) ∧ Fresh B cs T n (.slice (some ⟨W.heap.size, 0, none⟩) n n) (W.alloc (.cells cs T)) :=
  ⟨(Below.refl _ _).alloc (Nat.le_refl _) _, W.heap.size, rfl, hB, by simp, heap_alloc_new W _⟩
end Og
attribute [go_sem] Og.one_value Og.one_skip Og.one_enter Og.r_self Og.opened_nil Og.opened_cons
end Go.Proofs.Ytfmbldjaknjgbaa
namespace Go.Proofs.Ytfmbldjaknjgbaa
open Go.RowKit

theorem below_dn (w : World) (n : Nat) : Below w.heap.size w (w.drewN n) := ⟨rfl, rfl, rfl, Nat.le_refl _, fun _ _ => rfl⟩
theorem ret_bool {a b : Bool} (h : a = b) : Ending.returned (.bool a) = .returned (.bool b) := by rw [h]
theorem ret_int {k : IntKind} {a b : Int} (h : a = b) : Ending.returned (.int k a) = .returned (.int k b) := by rw [h]


theorem still_tail {P : Program} {id : Nat} {Q : Exit → Act → World → Prop} {a : Act} {w : World} {l : List Oper} (n : Nat) (hm : P.follows .mixedOrders = true) (hB : Region.lexTailB .any l.toArray n = true)
    (h : ∀ W : World, (∀ p, W.cell? p = w.cell? p) → Hid (W = w.drew) → wpStill P l.toArray W (fun a' => wpList P l.toArray Q (l.drop n) a' W) (l.take n) a) : (Code.region id l.toArray true).wp P Q a w :=
  wp_region_still_tail n hm hB (h w.drew (fun _ => rfl) (Lib.hid rfl))
theorem still_of {P : Program} {f : FuncId} {args : Array Value} {w : World} {v : Value} (h : Calls P f args w fun e w' => e = .returned v ∧ w = w') : Calls P f args w fun e w' => e = .returned v ∧ w' = w :=
  h.mono fun _ _ h => ⟨h.1, h.2.symm⟩


theorem run_max_ints3 {P : Program} (w : World) (ts : Array TypeId) (t : TypeId) (k k' k'' : IntKind) (x y z : Int) : (Builtin.max_ ts t #[.int k x, .int k' y, .int k'' z]).run P w = .ok (.int k (max (max x y) z)) w := by
  have e : (if z > (if y > x then y else x) then z else (if y > x then y else x)) = max (max x y) z := by
    rw [Int.max_def, Int.max_def]
    split <;> split <;> split <;> omega
  simp [Builtin.max_, Builtin.max2, e]


theorem bcell {W w1 : World} (hb : Below W.heap.size W w1) : (∀ b o, b < W.heap.size → w1.cell? ⟨b, o, none⟩ = W.cell? ⟨b, o, none⟩) ∧ (∀ b o, b < W.heap.size → w1.frozen? ⟨b, o, none⟩ = W.frozen? ⟨b, o, none⟩) :=
  ⟨fun b o h => hb.cell (p := ⟨b, o, none⟩) h, fun b o h => hb.frozen (p := ⟨b, o, none⟩) h⟩
theorem set4 {B : Nat} {w W : World} (h : Below B w W) (b : Nat) (hb : B ≤ b) (v0 v1 v2 v3 : Value) : Below B w ((((W.setCell ⟨b, 0, none⟩ v0).setCell ⟨b, 1, none⟩ v1).setCell ⟨b, 2, none⟩ v2).setCell ⟨b, 3, none⟩ v3) :=
  (((h.setCell hb v0).setCell hb v1).setCell hb v2).setCell hb v3
theorem bel2 (w : World) (o p : Obj) : Below w.heap.size w ((w.alloc o).alloc p) := ((Below.refl _ _).alloc (Nat.le_refl _) o).alloc (by simp) p
theorem bel1 (w : World) (o : Obj) : Below w.heap.size w (w.alloc o) := (Below.refl _ _).alloc (Nat.le_refl _) o
theorem Below.dn' {B : Nat} {a w : World} (h : Below B a w) (n : Nat) : Below B a (w.drewN n) := ⟨h.os, h.tape, h.output, h.size, h.block⟩
theorem Below.d' {B : Nat} {a w : World} (h : Below B a w) : Below B a w.drew := ⟨h.os, h.tape, h.output, h.size, h.block⟩


theorem size1 (w : World) (o : Obj) : (w.alloc o).heap.size = w.heap.size + 1 := by simp
theorem size2 (w : World) (o p : Obj) : ((w.alloc o).alloc p).heap.size = w.heap.size + 2 := by simp
theorem at1 (w : World) (o : Obj) : (w.alloc o).heap[w.heap.size]? = some o := heap_alloc_new w o
theorem at2a (w : World) (o p : Obj) : ((w.alloc o).alloc p).heap[w.heap.size]? = some o := (Below.heap_alloc _ p _ (by simp)).trans (heap_alloc_new w o)
theorem at2b (w : World) (o p : Obj) : ((w.alloc o).alloc p).heap[w.heap.size + 1]? = some p := by have := heap_alloc_new (w.alloc o) p; rwa [size1] at this
theorem box4 {W : World} {b T : Nat} {v0 v1 v2 v3 : Value} (h : W.heap[b]? = some (.cells #[v0, v1, v2, v3] T (0, 0))) :
    (W.cell? ⟨b, 0, none⟩ = some v0 ∧ W.cell? ⟨b, 1, none⟩ = some v1 ∧ W.cell? ⟨b, 2, none⟩ = some v2 ∧ W.cell? ⟨b, 3, none⟩ = some v3) ∧
    (W.frozen? ⟨b, 0, none⟩ = false ∧ W.frozen? ⟨b, 1, none⟩ = false ∧ W.frozen? ⟨b, 2, none⟩ = false ∧ W.frozen? ⟨b, 3, none⟩ = false) := by
  simp [World.cell?, World.frozen?, h]
theorem set4_same {W : World} {b T : Nat} {u0 u1 u2 u3 : Value} (h : W.heap[b]? = some (.cells #[u0, u1, u2, u3] T (0, 0))) (v0 v1 v2 v3 : Value) :
    ((((W.setCell ⟨b, 0, none⟩ v0).setCell ⟨b, 1, none⟩ v1).setCell ⟨b, 2, none⟩ v2).setCell ⟨b, 3, none⟩ v3).heap[b]? = some (.cells #[v0, v1, v2, v3] T (0, 0)) := by
  have h1 := heap_setCell_same W b 0 _ T v0 h
  have h2 := heap_setCell_same _ b 1 _ T v1 h1
  have h3 := heap_setCell_same _ b 2 _ T v2 h2
  have h4 := heap_setCell_same _ b 3 _ T v3 h3
  rw [h4]
  rfl
theorem set4_other {W : World} {b b' : Nat} (h : b' ≠ b) (v0 v1 v2 v3 : Value) :
    ((((W.setCell ⟨b, 0, none⟩ v0).setCell ⟨b, 1, none⟩ v1).setCell ⟨b, 2, none⟩ v2).setCell ⟨b, 3, none⟩ v3).heap[b']? = W.heap[b']? := by
  rw [Below.heap_setCell _ _ _ _ h, Below.heap_setCell _ _ _ _ h, Below.heap_setCell _ _ _ _ h, Below.heap_setCell _ _ _ _ h]
theorem set4_size {W : World} {b : Nat} (v0 v1 v2 v3 : Value) :
    ((((W.setCell ⟨b, 0, none⟩ v0).setCell ⟨b, 1, none⟩ v1).setCell ⟨b, 2, none⟩ v2).setCell ⟨b, 3, none⟩ v3).heap.size = W.heap.size := by simp
theorem cellAt {w : World} {b : Nat} {cs : Array Value} {T : TypeId} {fr : Nat × Nat} (hb : w.heap[b]? = some (.cells cs T fr)) (j : Nat) : w.cell? ⟨b, j, none⟩ = cs[j]? := by
  simp [World.cell?, hb]
theorem box2 {W : World} {b T : Nat} {v0 v1 : Value} (h : W.heap[b]? = some (.cells #[v0, v1] T (0, 0))) :
    (W.cell? ⟨b, 0, none⟩ = some v0 ∧ W.cell? ⟨b, 1, none⟩ = some v1) ∧ (W.frozen? ⟨b, 0, none⟩ = false ∧ W.frozen? ⟨b, 1, none⟩ = false) := by
  simp [World.cell?, World.frozen?, h]
theorem size3 (w : World) (o p q : Obj) : (((w.alloc o).alloc p).alloc q).heap.size = w.heap.size + 3 := by simp
theorem at3a (w : World) (o p q : Obj) : (((w.alloc o).alloc p).alloc q).heap[w.heap.size]? = some o := (Below.heap_alloc _ q _ (by simp; omega)).trans (at2a w o p)
theorem at3b (w : World) (o p q : Obj) : (((w.alloc o).alloc p).alloc q).heap[w.heap.size + 1]? = some p := (Below.heap_alloc _ q _ (by simp)).trans (at2b w o p)
theorem at3c (w : World) (o p q : Obj) : (((w.alloc o).alloc p).alloc q).heap[w.heap.size + 2]? = some q := by have := heap_alloc_new ((w.alloc o).alloc p) q; rwa [size2] at this
theorem bel3 (w : World) (o p q : Obj) : Below w.heap.size w (((w.alloc o).alloc p).alloc q) := (bel2 w o p).alloc (by simp; omega) q
/-- an int of Go's int -/
def I (n : Int) : Prop := -9223372036854775808 ≤ n ∧ n ≤ 9223372036854775807
instance (n : Int) : Decidable (I n) := by unfold I; infer_instance
end Go.Proofs.Ytfmbldjaknjgbaa
namespace Go.Proofs.Ytfmbldjaknjgbaa
open Go.RowKit
set_option linter.unusedVariables false

namespace Bx
variable {W W' : World}
theorem lt {b : Nat} {o : Obj} (h : W.heap[b]? = some o) : b < W.heap.size := (Array.getElem?_eq_some_iff.1 h).1
theorem cell {b o : Nat} {cur : Array Value} {T : TypeId} {v : Value} (h : W.heap[b]? = some (.cells cur T (0, 0))) (hv : cur[o]? = some v) :
    W.cell? ⟨b, o, none⟩ = some v ∧ W.frozen? ⟨b, o, none⟩ = false := by
  simp [World.cell?, World.frozen?, h, hv]
theorem ne_heap {b b' : Nat} {o o' : Obj} (h : W.heap[b]? = some o) (h' : W.heap[b']? = some o') (hne : o ≠ o') : b ≠ b' := fun e => by
  subst e
  rw [h] at h'
  exact hne (Option.some.inj h')
theorem ne_type {b b' T T' : Nat} {c c' : Array Value} (h : W.heap[b]? = some (.cells c T (0, 0))) (h' : W.heap[b']? = some (.cells c' T' (0, 0))) (hne : T ≠ T') : b ≠ b' :=
  ne_heap h h' (fun e => by injection e with _ e2; exact hne e2)
theorem set {b o T : Nat} {cur : Array Value} (h : W.heap[b]? = some (.cells cur T (0, 0))) (v : Value) : (W.setCell ⟨b, o, none⟩ v).heap[b]? = some (.cells (cur.setIfInBounds o v) T (0, 0)) :=
  heap_setCell_same W b o _ T v h
theorem ne {b c o : Nat} (h : b ≠ c) (v : Value) : (W.setCell ⟨c, o, none⟩ v).heap[b]? = W.heap[b]? := Below.heap_setCell _ _ _ _ h
theorem b1 {b T : Nat} {v0 : Value} (h : W.heap[b]? = some (.cells #[v0] T (0, 0))) : (W.cell? ⟨b, 0, none⟩ = some v0) ∧ (W.frozen? ⟨b, 0, none⟩ = false) :=
  ⟨(cell h (o := 0) rfl).1, (cell h (o := 0) rfl).2⟩
theorem b2 {b T : Nat} {v0 v1 : Value} (h : W.heap[b]? = some (.cells #[v0, v1] T (0, 0))) : (W.cell? ⟨b, 0, none⟩ = some v0 ∧ W.cell? ⟨b, 1, none⟩ = some v1) ∧ (W.frozen? ⟨b, 0, none⟩ = false ∧ W.frozen? ⟨b, 1, none⟩ = false) :=
  ⟨⟨(cell h (o := 0) rfl).1, (cell h (o := 1) rfl).1⟩, ⟨(cell h (o := 0) rfl).2, (cell h (o := 1) rfl).2⟩⟩
theorem b3 {b T : Nat} {v0 v1 v2 : Value} (h : W.heap[b]? = some (.cells #[v0, v1, v2] T (0, 0))) : (W.cell? ⟨b, 0, none⟩ = some v0 ∧ W.cell? ⟨b, 1, none⟩ = some v1 ∧ W.cell? ⟨b, 2, none⟩ = some v2) ∧ (W.frozen? ⟨b, 0, none⟩ = false ∧ W.frozen? ⟨b, 1, none⟩ = false ∧ W.frozen? ⟨b, 2, none⟩ = false) :=
  ⟨⟨(cell h (o := 0) rfl).1, (cell h (o := 1) rfl).1, (cell h (o := 2) rfl).1⟩, ⟨(cell h (o := 0) rfl).2, (cell h (o := 1) rfl).2, (cell h (o := 2) rfl).2⟩⟩
theorem set3 {b T : Nat} {v0 v1 v2 : Value} (h : W.heap[b]? = some (.cells #[v0, v1, v2] T (0, 0))) (u0 u1 u2 : Value) : (((W.setCell ⟨b, 0, none⟩ u0).setCell ⟨b, 1, none⟩ u1).setCell ⟨b, 2, none⟩ u2).heap[b]? = some (.cells #[u0, u1, u2] T (0, 0)) := by
  have h0 : (W.setCell ⟨b, 0, none⟩ u0).heap[b]? = some (.cells #[u0, v1, v2] T (0, 0)) := heap_setCell_same _ b 0 _ T u0 h
  have h1 : ((W.setCell ⟨b, 0, none⟩ u0).setCell ⟨b, 1, none⟩ u1).heap[b]? = some (.cells #[u0, u1, v2] T (0, 0)) := heap_setCell_same _ b 1 _ T u1 h0
  have h2 : (((W.setCell ⟨b, 0, none⟩ u0).setCell ⟨b, 1, none⟩ u1).setCell ⟨b, 2, none⟩ u2).heap[b]? = some (.cells #[u0, u1, u2] T (0, 0)) := heap_setCell_same _ b 2 _ T u2 h1
  exact h2
theorem put3 {B b : Nat} {w : World} (h : Below B w W) (hb : B ≤ b) (u0 u1 u2 : Value) : Below B w (((W.setCell ⟨b, 0, none⟩ u0).setCell ⟨b, 1, none⟩ u1).setCell ⟨b, 2, none⟩ u2) :=
  ((h.setCell hb u0).setCell hb u1).setCell hb u2
theorem b11 {b T : Nat} {v0 v1 v2 v3 v4 v5 v6 v7 v8 v9 v10 : Value} (h : W.heap[b]? = some (.cells #[v0, v1, v2, v3, v4, v5, v6, v7, v8, v9, v10] T (0, 0))) : (W.cell? ⟨b, 0, none⟩ = some v0 ∧ W.cell? ⟨b, 1, none⟩ = some v1 ∧ W.cell? ⟨b, 2, none⟩ = some v2 ∧ W.cell? ⟨b, 3, none⟩ = some v3 ∧ W.cell? ⟨b, 4, none⟩ = some v4 ∧ W.cell? ⟨b, 5, none⟩ = some v5 ∧ W.cell? ⟨b, 6, none⟩ = some v6 ∧ W.cell? ⟨b, 7, none⟩ = some v7 ∧ W.cell? ⟨b, 8, none⟩ = some v8 ∧ W.cell? ⟨b, 9, none⟩ = some v9 ∧ W.cell? ⟨b, 10, none⟩ = some v10) ∧ (W.frozen? ⟨b, 0, none⟩ = false ∧ W.frozen? ⟨b, 1, none⟩ = false ∧ W.frozen? ⟨b, 2, none⟩ = false ∧ W.frozen? ⟨b, 3, none⟩ = false ∧ W.frozen? ⟨b, 4, none⟩ = false ∧ W.frozen? ⟨b, 5, none⟩ = false ∧ W.frozen? ⟨b, 6, none⟩ = false ∧ W.frozen? ⟨b, 7, none⟩ = false ∧ W.frozen? ⟨b, 8, none⟩ = false ∧ W.frozen? ⟨b, 9, none⟩ = false ∧ W.frozen? ⟨b, 10, none⟩ = false) :=
  ⟨⟨(cell h (o := 0) rfl).1, (cell h (o := 1) rfl).1, (cell h (o := 2) rfl).1, (cell h (o := 3) rfl).1, (cell h (o := 4) rfl).1, (cell h (o := 5) rfl).1, (cell h (o := 6) rfl).1, (cell h (o := 7) rfl).1, (cell h (o := 8) rfl).1, (cell h (o := 9) rfl).1, (cell h (o := 10) rfl).1⟩, ⟨(cell h (o := 0) rfl).2, (cell h (o := 1) rfl).2, (cell h (o := 2) rfl).2, (cell h (o := 3) rfl).2, (cell h (o := 4) rfl).2, (cell h (o := 5) rfl).2, (cell h (o := 6) rfl).2, (cell h (o := 7) rfl).2, (cell h (o := 8) rfl).2, (cell h (o := 9) rfl).2, (cell h (o := 10) rfl).2⟩⟩
theorem set11 {b T : Nat} {v0 v1 v2 v3 v4 v5 v6 v7 v8 v9 v10 : Value} (h : W.heap[b]? = some (.cells #[v0, v1, v2, v3, v4, v5, v6, v7, v8, v9, v10] T (0, 0))) (u0 u1 u2 u3 u4 u5 u6 u7 u8 u9 u10 : Value) : (((((((((((W.setCell ⟨b, 0, none⟩ u0).setCell ⟨b, 1, none⟩ u1).setCell ⟨b, 2, none⟩ u2).setCell ⟨b, 3, none⟩ u3).setCell ⟨b, 4, none⟩ u4).setCell ⟨b, 5, none⟩ u5).setCell ⟨b, 6, none⟩ u6).setCell ⟨b, 7, none⟩ u7).setCell ⟨b, 8, none⟩ u8).setCell ⟨b, 9, none⟩ u9).setCell ⟨b, 10, none⟩ u10).heap[b]? = some (.cells #[u0, u1, u2, u3, u4, u5, u6, u7, u8, u9, u10] T (0, 0)) := by
  have h0 : (W.setCell ⟨b, 0, none⟩ u0).heap[b]? = some (.cells #[u0, v1, v2, v3, v4, v5, v6, v7, v8, v9, v10] T (0, 0)) := heap_setCell_same _ b 0 _ T u0 h
  have h1 : ((W.setCell ⟨b, 0, none⟩ u0).setCell ⟨b, 1, none⟩ u1).heap[b]? = some (.cells #[u0, u1, v2, v3, v4, v5, v6, v7, v8, v9, v10] T (0, 0)) := heap_setCell_same _ b 1 _ T u1 h0
  have h2 : (((W.setCell ⟨b, 0, none⟩ u0).setCell ⟨b, 1, none⟩ u1).setCell ⟨b, 2, none⟩ u2).heap[b]? = some (.cells #[u0, u1, u2, v3, v4, v5, v6, v7, v8, v9, v10] T (0, 0)) := heap_setCell_same _ b 2 _ T u2 h1
  have h3 : ((((W.setCell ⟨b, 0, none⟩ u0).setCell ⟨b, 1, none⟩ u1).setCell ⟨b, 2, none⟩ u2).setCell ⟨b, 3, none⟩ u3).heap[b]? = some (.cells #[u0, u1, u2, u3, v4, v5, v6, v7, v8, v9, v10] T (0, 0)) := heap_setCell_same _ b 3 _ T u3 h2
  have h4 : (((((W.setCell ⟨b, 0, none⟩ u0).setCell ⟨b, 1, none⟩ u1).setCell ⟨b, 2, none⟩ u2).setCell ⟨b, 3, none⟩ u3).setCell ⟨b, 4, none⟩ u4).heap[b]? = some (.cells #[u0, u1, u2, u3, u4, v5, v6, v7, v8, v9, v10] T (0, 0)) := heap_setCell_same _ b 4 _ T u4 h3
  have h5 : ((((((W.setCell ⟨b, 0, none⟩ u0).setCell ⟨b, 1, none⟩ u1).setCell ⟨b, 2, none⟩ u2).setCell ⟨b, 3, none⟩ u3).setCell ⟨b, 4, none⟩ u4).setCell ⟨b, 5, none⟩ u5).heap[b]? = some (.cells #[u0, u1, u2, u3, u4, u5, v6, v7, v8, v9, v10] T (0, 0)) := heap_setCell_same _ b 5 _ T u5 h4
  have h6 : (((((((W.setCell ⟨b, 0, none⟩ u0).setCell ⟨b, 1, none⟩ u1).setCell ⟨b, 2, none⟩ u2).setCell ⟨b, 3, none⟩ u3).setCell ⟨b, 4, none⟩ u4).setCell ⟨b, 5, none⟩ u5).setCell ⟨b, 6, none⟩ u6).heap[b]? = some (.cells #[u0, u1, u2, u3, u4, u5, u6, v7, v8, v9, v10] T (0, 0)) := heap_setCell_same _ b 6 _ T u6 h5
  have h7 : ((((((((W.setCell ⟨b, 0, none⟩ u0).setCell ⟨b, 1, none⟩ u1).setCell ⟨b, 2, none⟩ u2).setCell ⟨b, 3, none⟩ u3).setCell ⟨b, 4, none⟩ u4).setCell ⟨b, 5, none⟩ u5).setCell ⟨b, 6, none⟩ u6).setCell ⟨b, 7, none⟩ u7).heap[b]? = some (.cells #[u0, u1, u2, u3, u4, u5, u6, u7, v8, v9, v10] T (0, 0)) := heap_setCell_same _ b 7 _ T u7 h6
  have h8 : (((((((((W.setCell ⟨b, 0, none⟩ u0).setCell ⟨b, 1, none⟩ u1).setCell ⟨b, 2, none⟩ u2).setCell ⟨b, 3, none⟩ u3).setCell ⟨b, 4, none⟩ u4).setCell ⟨b, 5, none⟩ u5).setCell ⟨b, 6, none⟩ u6).setCell ⟨b, 7, none⟩ u7).setCell ⟨b, 8, none⟩ u8).heap[b]? = some (.cells #[u0, u1, u2, u3, u4, u5, u6, u7, u8, v9, v10] T (0, 0)) := heap_setCell_same _ b 8 _ T u8 h7
  have h9 : ((((((((((W.setCell ⟨b, 0, none⟩ u0).setCell ⟨b, 1, none⟩ u1).setCell ⟨b, 2, none⟩ u2).setCell ⟨b, 3, none⟩ u3).setCell ⟨b, 4, none⟩ u4).setCell ⟨b, 5, none⟩ u5).setCell ⟨b, 6, none⟩ u6).setCell ⟨b, 7, none⟩ u7).setCell ⟨b, 8, none⟩ u8).setCell ⟨b, 9, none⟩ u9).heap[b]? = some (.cells #[u0, u1, u2, u3, u4, u5, u6, u7, u8, u9, v10] T (0, 0)) := heap_setCell_same _ b 9 _ T u9 h8
  have h10 : (((((((((((W.setCell ⟨b, 0, none⟩ u0).setCell ⟨b, 1, none⟩ u1).setCell ⟨b, 2, none⟩ u2).setCell ⟨b, 3, none⟩ u3).setCell ⟨b, 4, none⟩ u4).setCell ⟨b, 5, none⟩ u5).setCell ⟨b, 6, none⟩ u6).setCell ⟨b, 7, none⟩ u7).setCell ⟨b, 8, none⟩ u8).setCell ⟨b, 9, none⟩ u9).setCell ⟨b, 10, none⟩ u10).heap[b]? = some (.cells #[u0, u1, u2, u3, u4, u5, u6, u7, u8, u9, u10] T (0, 0)) := heap_setCell_same _ b 10 _ T u10 h9
  exact h10
theorem put11 {B b : Nat} {w : World} (h : Below B w W) (hb : B ≤ b) (u0 u1 u2 u3 u4 u5 u6 u7 u8 u9 u10 : Value) : Below B w (((((((((((W.setCell ⟨b, 0, none⟩ u0).setCell ⟨b, 1, none⟩ u1).setCell ⟨b, 2, none⟩ u2).setCell ⟨b, 3, none⟩ u3).setCell ⟨b, 4, none⟩ u4).setCell ⟨b, 5, none⟩ u5).setCell ⟨b, 6, none⟩ u6).setCell ⟨b, 7, none⟩ u7).setCell ⟨b, 8, none⟩ u8).setCell ⟨b, 9, none⟩ u9).setCell ⟨b, 10, none⟩ u10) :=
  ((((((((((h.setCell hb u0).setCell hb u1).setCell hb u2).setCell hb u3).setCell hb u4).setCell hb u5).setCell hb u6).setCell hb u7).setCell hb u8).setCell hb u9).setCell hb u10
theorem b16 {b T : Nat} {v0 v1 v2 v3 v4 v5 v6 v7 v8 v9 v10 v11 v12 v13 v14 v15 : Value} (h : W.heap[b]? = some (.cells #[v0, v1, v2, v3, v4, v5, v6, v7, v8, v9, v10, v11, v12, v13, v14, v15] T (0, 0))) : (W.cell? ⟨b, 0, none⟩ = some v0 ∧ W.cell? ⟨b, 1, none⟩ = some v1 ∧ W.cell? ⟨b, 2, none⟩ = some v2 ∧ W.cell? ⟨b, 3, none⟩ = some v3 ∧ W.cell? ⟨b, 4, none⟩ = some v4 ∧ W.cell? ⟨b, 5, none⟩ = some v5 ∧ W.cell? ⟨b, 6, none⟩ = some v6 ∧ W.cell? ⟨b, 7, none⟩ = some v7 ∧ W.cell? ⟨b, 8, none⟩ = some v8 ∧ W.cell? ⟨b, 9, none⟩ = some v9 ∧ W.cell? ⟨b, 10, none⟩ = some v10 ∧ W.cell? ⟨b, 11, none⟩ = some v11 ∧ W.cell? ⟨b, 12, none⟩ = some v12 ∧ W.cell? ⟨b, 13, none⟩ = some v13 ∧ W.cell? ⟨b, 14, none⟩ = some v14 ∧ W.cell? ⟨b, 15, none⟩ = some v15) ∧ (W.frozen? ⟨b, 0, none⟩ = false ∧ W.frozen? ⟨b, 1, none⟩ = false ∧ W.frozen? ⟨b, 2, none⟩ = false ∧ W.frozen? ⟨b, 3, none⟩ = false ∧ W.frozen? ⟨b, 4, none⟩ = false ∧ W.frozen? ⟨b, 5, none⟩ = false ∧ W.frozen? ⟨b, 6, none⟩ = false ∧ W.frozen? ⟨b, 7, none⟩ = false ∧ W.frozen? ⟨b, 8, none⟩ = false ∧ W.frozen? ⟨b, 9, none⟩ = false ∧ W.frozen? ⟨b, 10, none⟩ = false ∧ W.frozen? ⟨b, 11, none⟩ = false ∧ W.frozen? ⟨b, 12, none⟩ = false ∧ W.frozen? ⟨b, 13, none⟩ = false ∧ W.frozen? ⟨b, 14, none⟩ = false ∧ W.frozen? ⟨b, 15, none⟩ = false) :=
  ⟨⟨(cell h (o := 0) rfl).1, (cell h (o := 1) rfl).1, (cell h (o := 2) rfl).1, (cell h (o := 3) rfl).1, (cell h (o := 4) rfl).1, (cell h (o := 5) rfl).1, (cell h (o := 6) rfl).1, (cell h (o := 7) rfl).1, (cell h (o := 8) rfl).1, (cell h (o := 9) rfl).1, (cell h (o := 10) rfl).1, (cell h (o := 11) rfl).1, (cell h (o := 12) rfl).1, (cell h (o := 13) rfl).1, (cell h (o := 14) rfl).1, (cell h (o := 15) rfl).1⟩, ⟨(cell h (o := 0) rfl).2, (cell h (o := 1) rfl).2, (cell h (o := 2) rfl).2, (cell h (o := 3) rfl).2, (cell h (o := 4) rfl).2, (cell h (o := 5) rfl).2, (cell h (o := 6) rfl).2, (cell h (o := 7) rfl).2, (cell h (o := 8) rfl).2, (cell h (o := 9) rfl).2, (cell h (o := 10) rfl).2, (cell h (o := 11) rfl).2, (cell h (o := 12) rfl).2, (cell h (o := 13) rfl).2, (cell h (o := 14) rfl).2, (cell h (o := 15) rfl).2⟩⟩
end Bx
end Go.Proofs.Ytfmbldjaknjgbaa
namespace Go.Proofs.Ytfmbldjaknjgbaa
open Go.ChangeShapes Go.WideShapes Go.ChangeAt Go.RowKit
open Go.ChangeMaps (open_string shut_string)

/-- a slice's cells, of one cell each, where there are any: they lie below block B -/
def Reads (w : World) (B : Nat) (A : Option Addr) (xs : List Value) : Prop :=
  0 < xs.length → ∃ b off, A = some ⟨b, off, none⟩ ∧ b < B ∧ ∀ k v, xs[k]? = some v → w.cell? ⟨b, off + k, none⟩ = some v
theorem Reads.below {w w' : World} {B : Nat} {A : Option Addr} {xs : List Value} (h : Reads w B A xs) (hb : Below B w w') : Reads w' B A xs := fun h0 => by
  obtain ⟨b, off, rfl, hB, hc⟩ := h h0
  exact ⟨b, off, rfl, hB, fun k v hv => (hb.cell (p := ⟨b, off + k, none⟩) hB).trans (hc k v hv)⟩
theorem Reads.more {w : World} {B B' : Nat} {A : Option Addr} {xs : List Value} (h : Reads w B A xs) (hb : B ≤ B') : Reads w B' A xs := fun h0 => by
  obtain ⟨b, off, rfl, hB, hc⟩ := h h0
  exact ⟨b, off, rfl, by omega, hc⟩
theorem Reads.at_ {w : World} {B : Nat} {A : Option Addr} {xs : List Value} (h : Reads w B A xs) {k : Nat} (hk : k < xs.length) :
    ∃ b off, A = some ⟨b, off, none⟩ ∧ b < B ∧ w.cell? ⟨b, off + k, none⟩ = some xs[k] := by
  obtain ⟨b, off, rfl, hB, hc⟩ := h (by omega)
  exact ⟨b, off, rfl, hB, hc k _ (List.getElem?_eq_getElem hk)⟩

def ints (l : List Int) : List Value := l.map (Value.int .i64)
def strings (l : List (List UInt8)) : List Value := l.map fun s => Value.string ⟨s.toArray⟩
def I64 (l : List Int) : Prop := ∀ x ∈ l, -9223372036854775808 ≤ x ∧ x ≤ 9223372036854775807

theorem wf_bd {n : Int} (h : (Lit.int .i64 n).wf = true) : -9223372036854775808 ≤ n ∧ n ≤ 9223372036854775807 := bounds_i64 h
theorem len_bd {s : ByteArray} (h : s.size ≤ maxLen) : s.data.toList.length ≤ 9223372036854775807 := by rw [Array.length_toList]; exact h
theorem cell_lt {w : World} {p : Addr} {v : Value} (h : w.cell? p = some v) : p.block < w.heap.size := by
  rcases Nat.lt_or_ge p.block w.heap.size with h' | h'
  · exact h'
  · simp [World.cell?, Array.getElem?_eq_none h'] at h

section
variable {H : Type} {enc : TypeId × Value → H} {P : Program} {w : World} {t e : TypeId} {v : Value} {d : DataW H} {ps : List MemPlace} {b0 : Nat}

theorem cap_bd {elems spare : List (DataW H)} (ht : P.underlying t = some (.slice e)) (hb : 1 ≤ P.bytesOf e) (hz : ∀ n ∈ DataW.weights P t (.slice elems spare), n ≤ reachBytes) : elems.length + spare.length ≤ 140737488351232 := by
  have h := hz ((elems.length + spare.length) * P.bytesOf e) (by simp [DataW.weights, ht])
  have h2 := Nat.mul_le_mul_left (elems.length + spare.length) hb
  have h3 : reachBytes = 140737488351232 := rfl
  omega
theorem mem_weightsAll {n : Nat} {d : DataW H} : ∀ {l : List (DataW H)}, d ∈ l → n ∈ DataW.weights P e d → n ∈ DataW.weightsAll P e l
  | [], h, _ => by simp at h
  | x :: r, h, hn => by
    simp only [DataW.weightsAll, List.mem_append]
    rcases List.mem_cons.1 h with rfl | h
    · exact .inl hn
    · exact .inr (mem_weightsAll h hn)
theorem strs_bd {ss : List ByteArray} {spare : List (DataW H)} (ht : P.underlying t = some (.slice e)) (hz : ∀ n ∈ DataW.weights P t (.slice (strs ss) spare), n ≤ reachBytes) : ∀ y ∈ ss, y.data.toList.length ≤ 140737488351232 := by
  intro y hy
  refine hz _ ?_
  simp only [DataW.weights, ht, List.mem_cons, List.mem_append]
  refine .inr (.inl (mem_weightsAll (d := .lit (.string y.data.toList)) ?_ (by simp [DataW.weights])))
  simp only [strs, List.mem_map]
  exact ⟨y, hy, rfl⟩

theorem in_int (ht : P.underlying t = some (.int .i64)) (hval : Value.okWide P w .any b0 t v) (hd : DataW.Trod enc P w 0 (fun _ => true) true t v d ps) :
    ∃ n : Int, v = .int .i64 n ∧ -9223372036854775808 ≤ n ∧ n ≤ 9223372036854775807 := by
  obtain ⟨x, rfl, _, _, wx⟩ := open_int ht hval hd
  exact ⟨x, rfl, wf_bd wx⟩
theorem in_string (ht : P.underlying t = some .string) (hval : Value.okWide P w .any b0 t v) (hd : DataW.Trod enc P w 0 (fun _ => true) true t v d ps) (hz : ∀ n ∈ DataW.weights P t d, n ≤ reachBytes) :
    ∃ l : List UInt8, v = .string ⟨l.toArray⟩ ∧ l.length ≤ 140737488351232 := by
  obtain ⟨s, rfl, hdd, _, hs⟩ := open_string ht hval hd
  exact ⟨s.data.toList, by simp, hz _ (by rw [hdd]; simp [DataW.weights])⟩
theorem in_ints (ht : P.underlying t = some (.slice e)) (he : P.underlying e = some (.int .i64)) (hc : P.cellsOf e = 1) (hb : 1 ≤ P.bytesOf e) (hval : Value.okWide P w .any b0 t v) (hd : DataW.Trod enc P w 0 (fun _ => true) true t v d ps) (hz : ∀ n ∈ DataW.weights P t d, n ≤ reachBytes) :
    ∃ (A : Option Addr) (cap : Nat) (l : List Int), v = .slice A l.length cap ∧ l.length ≤ cap ∧ cap ≤ 140737488351232 ∧ I64 l ∧ Reads w w.heap.size A (ints l) := by
  obtain ⟨a0, len, cap, rfl⟩ := okWide_slice ht hval
  obtain ⟨fuel, hf⟩ := hd
  rcases open_ints ht he hc hf with ⟨hcs, _⟩ | ⟨x, l, c, zs, hcs, _, hl, hm, hzl, hdx, hcell, hwz⟩
  · simp [Value.cells] at hcs
    obtain ⟨rfl, rfl, rfl⟩ := hcs
    exact ⟨none, 0, [], rfl, Nat.le_refl _, by omega, fun x hx => by simp at hx, fun h0 => absurd h0 (by simp [ints])⟩
  · simp [Value.cells] at hcs
    obtain ⟨rfl, rfl, rfl⟩ := hcs
    have hz' : zs.length = cap := by simpa using hzl
    have hcap : cap ≤ 140737488351232 := by
      simp only [Prod.mk.injEq] at hdx
      obtain ⟨rfl, _⟩ := hdx
      have := cap_bd ht hb hz
      simp only [lits, List.length_map, List.length_take, List.length_drop] at this
      omega
    have hlen : (zs.take len).length = len := by rw [List.length_take]; omega
    refine ⟨some x, cap, zs.take len, by rw [hlen], by rw [hlen]; exact hl, hcap, fun n hn => wf_bd (hwz n (List.mem_of_mem_take hn)), fun h0 => ?_⟩
    have hpos : 0 < zs.length := by simp [ints] at h0; omega
    obtain ⟨b, off, rfl, hcc⟩ := ints_at hcell hpos
    refine ⟨b, off, rfl, cell_lt (hcc 0 hpos), fun k v hv => ?_⟩
    have hk : k < len ∧ k < zs.length := by
      have := (List.getElem?_eq_some_iff.1 hv).1
      simp [ints] at this; omega
    rw [hcc k hk.2]
    rw [← hv]
    simp [ints, hk.1, List.getElem?_eq_getElem hk.2]
theorem strs_at {a : Addr} {ss : List ByteArray} (h : ∀ i, i < ss.length → w.cell? (a.add i) = some (.string (ss.getD i ByteArray.empty))) (hp : 0 < ss.length) :
    ∃ b off, a = ⟨b, off, none⟩ ∧ ∀ j, j < ss.length → w.cell? ⟨b, off + j, none⟩ = some (.string (ss.getD j ByteArray.empty)) := by
  obtain ⟨b, off, spot⟩ := a
  have hspot : spot = none := by simpa [Addr.add] using World.cell?_spot (h 0 hp)
  subst hspot
  exact ⟨b, off, rfl, fun j hj => by rw [← Go.WideShapes.add_plain]; exact h j hj⟩
theorem in_strings (ht : P.underlying t = some (.slice e)) (he : P.underlying e = some .string) (hc : P.cellsOf e = 1) (hb : 1 ≤ P.bytesOf e) (hval : Value.okWide P w .any b0 t v) (hd : DataW.Trod enc P w 0 (fun _ => true) true t v d ps) (hz : ∀ n ∈ DataW.weights P t d, n ≤ reachBytes) :
    ∃ (A : Option Addr) (cap : Nat) (l : List (List UInt8)), v = .slice A l.length cap ∧ l.length ≤ cap ∧ cap ≤ 140737488351232 ∧ (∀ s ∈ l, s.length ≤ 140737488351232) ∧ Reads w w.heap.size A (strings l) := by
  obtain ⟨a0, len, cap, rfl⟩ := okWide_slice ht hval
  obtain ⟨fuel, hf⟩ := hd
  rcases open_strings ht he hc hf with ⟨hcs, _⟩ | ⟨x, l, c, ss, hcs, _, hl, hm, hzl, hdx, hcell, hws⟩
  · simp [Value.cells] at hcs
    obtain ⟨rfl, rfl, rfl⟩ := hcs
    exact ⟨none, 0, [], rfl, Nat.le_refl _, by omega, fun x hx => by simp at hx, fun h0 => absurd h0 (by simp [strings])⟩
  · simp [Value.cells] at hcs
    obtain ⟨rfl, rfl, rfl⟩ := hcs
    have hz' : ss.length = cap := by simpa using hzl
    simp only [Prod.mk.injEq] at hdx
    obtain ⟨rfl, _⟩ := hdx
    have hcap : cap ≤ 140737488351232 := by
      have := cap_bd ht hb hz
      simp only [strs, List.length_map, List.length_take, List.length_drop] at this
      omega
    have hsz := strs_bd ht hz
    have hlen : (ss.take len).length = len := by rw [List.length_take]; omega
    refine ⟨some x, cap, (ss.take len).map (·.data.toList), by rw [List.length_map, hlen], by rw [List.length_map, hlen]; exact hl, hcap, fun s hs => ?_, fun h0 => ?_⟩
    · obtain ⟨y, hy, rfl⟩ := List.mem_map.1 hs
      exact hsz y hy
    have hpos : 0 < ss.length := by simp [strings] at h0; omega
    obtain ⟨b, off, rfl, hcc⟩ := strs_at hcell hpos
    refine ⟨b, off, rfl, cell_lt (hcc 0 hpos), fun k v hv => ?_⟩
    have hk : k < len ∧ k < ss.length := by
      have := (List.getElem?_eq_some_iff.1 hv).1
      simp [strings] at this; omega
    rw [hcc k hk.2, ← hv]
    simp [strings, hk.1, List.getElem?_eq_getElem hk.2]
end

end Go.Proofs.Ytfmbldjaknjgbaa
namespace Go.Proofs.Ytfmbldjaknjgbaa
open Go.ChangeShapes Go.WideShapes Go.ChangeAt Go.RowKit

/-- a slice's elements, each a row of cells one behind the other, where there are any: they lie below block B -/
def ReadsK (w : World) (B : Nat) (A : Option Addr) (k : Nat) (rows : List (List Value)) : Prop :=
  0 < rows.length → ∃ b off, A = some ⟨b, off, none⟩ ∧ b < B ∧ ∀ i row, rows[i]? = some row → ∀ j v, row[j]? = some v → w.cell? ⟨b, off + (i * k + j), none⟩ = some v
theorem ReadsK.below {w w' : World} {B k : Nat} {A : Option Addr} {rows : List (List Value)} (h : ReadsK w B A k rows) (hb : Below B w w') : ReadsK w' B A k rows := fun h0 => by
  obtain ⟨b, off, rfl, hB, hc⟩ := h h0
  exact ⟨b, off, rfl, hB, fun i row hr j v hv => (hb.cell (p := ⟨b, off + (i * k + j), none⟩) hB).trans (hc i row hr j v hv)⟩
theorem ReadsK.more {w : World} {B B' k : Nat} {A : Option Addr} {rows : List (List Value)} (h : ReadsK w B A k rows) (hb : B ≤ B') : ReadsK w B' A k rows := fun h0 => by
  obtain ⟨b, off, rfl, hB, hc⟩ := h h0
  exact ⟨b, off, rfl, by omega, hc⟩
theorem ReadsK.at_ {w : World} {B k : Nat} {A : Option Addr} {rows : List (List Value)} (h : ReadsK w B A k rows) {i : Nat} (hi : i < rows.length) :
    ∃ b off, A = some ⟨b, off, none⟩ ∧ b < B ∧ ∀ j v, rows[i][j]? = some v → w.cell? ⟨b, off + (i * k + j), none⟩ = some v := by
  obtain ⟨b, off, rfl, hB, hc⟩ := h (by omega)
  exact ⟨b, off, rfl, hB, hc i _ (List.getElem?_eq_getElem hi)⟩

theorem rows_map {α : Type} {f : α → List Value} {Q : α → Prop} : ∀ {rows : List (List Value)}, (∀ row ∈ rows, ∃ x, row = f x ∧ Q x) → ∃ l : List α, rows = l.map f ∧ ∀ x ∈ l, Q x
  | [], _ => ⟨[], rfl, fun x hx => by simp at hx⟩
  | row :: rest, h => by
    obtain ⟨x, hx, hq⟩ := h row (List.mem_cons_self)
    obtain ⟨l, hl, hql⟩ := rows_map (rows := rest) (fun r hr => h r (List.mem_cons_of_mem _ hr))
    exact ⟨x :: l, by rw [hx, hl]; rfl, fun y hy => by
      rcases List.mem_cons.1 hy with rfl | hy
      · exact hq
      · exact hql y hy⟩

section
variable {H : Type} {enc : TypeId × Value → H} {P : Program} {w : World} {t e : TypeId} {v : Value} {d : DataW H} {ps : List MemPlace} {b0 : Nat}

theorem addr_two (a : Addr) (i j : Nat) : (a.add i).add j = a.add (i + j) := by
  unfold Addr.add
  by_cases hi : i = 0 <;> by_cases hj : j = 0 <;> simp [hi, hj, Nat.add_assoc]

/-- a slice that came in, opened: its elements' rows of cells, each with its own reading -/
theorem in_rows (ht : P.underlying t = some (.slice e)) {k : Nat} (hc : P.cellsOf e = k) (hk : 0 < k) (hb : 1 ≤ P.bytesOf e) (hval : Value.okWide P w .any b0 t v) (hd : DataW.Trod enc P w 0 (fun _ => true) true t v d ps) (hz : ∀ n ∈ DataW.weights P t d, n ≤ reachBytes) :
    ∃ (A : Option Addr) (cap : Nat) (rows : List (List Value)), v = .slice A rows.length cap ∧ rows.length ≤ cap ∧ cap ≤ 140737488351232 ∧ (A = none → cap = 0) ∧
      (∀ row ∈ rows, ∃ n y, DataW.trod enc P w 0 (fun _ => true) true n e row = some y ∧ ∀ m ∈ DataW.weights P e y.1, m ≤ reachBytes) ∧ ReadsK w w.heap.size A k rows := by
  obtain ⟨a0, len, cap, rfl⟩ := okWide_slice ht hval
  obtain ⟨fuel, hf⟩ := hd
  rcases DataW.trod_slice ht hf with ⟨hcs, _⟩ | ⟨a, l, c, elems, rest, n, _, hcs, hdx, _, hl, hm, hlen, hel, hsp, _⟩
  · simp [Value.cells] at hcs
    obtain ⟨rfl, rfl, rfl⟩ := hcs
    exact ⟨none, 0, [], rfl, Nat.le_refl _, by omega, fun _ => rfl, fun row hr => by simp at hr, fun h0 => absurd h0 (by simp)⟩
  · simp [Value.cells] at hcs
    obtain ⟨rfl, rfl, rfl⟩ := hcs
    obtain ⟨hrl, _⟩ := hsp rfl
    simp only [Prod.mk.injEq] at hdx
    obtain ⟨rfl, _⟩ := hdx
    have hcap : cap ≤ 140737488351232 := by
      have := cap_bd ht hb hz
      simp only [List.length_map] at this
      omega
    rw [hc] at hel
    have each : ∀ i, i < len → ∃ row y, w.cells? 0 (a.add (i * k)) k = some row ∧ DataW.trod enc P w 0 (fun _ => true) true n e row = some y ∧ elems[i]? = some y := by
      intro i hi
      have h := hel i hi
      rw [List.getElem?_eq_getElem (by omega), Option.bind_eq_some_iff] at h
      obtain ⟨row, h1, h2⟩ := h
      exact ⟨row, _, h1, h2, List.getElem?_eq_getElem (by omega)⟩
    refine ⟨some a, cap, (List.range len).map fun i => (w.cells? 0 (a.add (i * k)) k).getD [], by simp, by simpa using hl, hcap, (fun h => absurd h (by simp)), ?_, ?_⟩
    · intro row hr
      obtain ⟨i, hi, rfl⟩ := List.mem_map.1 hr
      obtain ⟨row, y, h1, h2, h3⟩ := each i (List.mem_range.1 hi)
      refine ⟨n, y, by rw [h1]; exact h2, fun m hm => hz m ?_⟩
      simp only [DataW.weights, ht, List.mem_cons, List.mem_append]
      exact .inr (.inl (mem_weightsAll (List.mem_map.2 ⟨y, List.mem_of_getElem? h3, rfl⟩) hm))
    · intro h0
      have hpos : 0 < len := by simpa using h0
      have cellAt : ∀ i, i < len → ∀ j, j < k → ∃ u, w.cell? (a.add (i * k + j)) = some u ∧ ((w.cells? 0 (a.add (i * k)) k).getD [])[j]? = some u := by
        intro i hi j hj
        obtain ⟨row, y, h1, _, _⟩ := each i hi
        obtain ⟨_, hrl, hat⟩ := World.cells?_some h1
        refine ⟨row[j]'(by omega), ?_, ?_⟩
        · rw [← addr_two, hat j hj]; exact List.getElem?_eq_getElem _
        · rw [h1]; exact List.getElem?_eq_getElem _
      obtain ⟨b, off, spot⟩ := a
      obtain ⟨u, hu, _⟩ := cellAt 0 hpos 0 hk
      have hspot : spot = none := by simpa [Addr.add] using World.cell?_spot hu
      subst hspot
      refine ⟨b, off, rfl, by have := cell_lt hu; simpa [Addr.add] using this, fun i row hr j u hv => ?_⟩
      have hi : i < len := by
        have := (List.getElem?_eq_some_iff.1 hr).1
        simpa using this
      have hrow : row = (w.cells? 0 ((⟨b, off, none⟩ : Addr).add (i * k)) k).getD [] := by
        rw [List.getElem?_map, List.getElem?_range hi] at hr
        simpa using hr.symm
      have hj : j < k := by
        obtain ⟨r2, _, h1, _, _⟩ := each i hi
        have hl2 := (World.cells?_some h1).2.1
        have := (List.getElem?_eq_some_iff.1 hv).1
        rw [hrow, h1] at this
        simp at this; omega
      obtain ⟨u', hu1, hu2⟩ := cellAt i hi j hj
      rw [hrow, hu2] at hv
      rw [← Go.WideShapes.add_plain, hu1, ← hv]
end

end Go.Proofs.Ytfmbldjaknjgbaa
namespace Go.Proofs.Ytfmbldjaknjgbaa
open Go.ChangeShapes Go.WideShapes Go.ChangeAt Go.RowKit
set_option linter.unusedVariables false

def FitsI (n : Int) : Prop := -9223372036854775808 ≤ n ∧ n ≤ 9223372036854775807
/-- where fields that lie one behind the other, from o on, end -/
def endsAt (P : Program) : Nat → List Field → Option Nat
  | o, [] => some o
  | o, f :: r => if f.offset = o then endsAt P (o + P.cellsOf f.type) r else none
/-- all cells of such a type are ints -/
def flatB (P : Program) : Nat → TypeId → Bool
  | 0, _ => false
  | n + 1, t => match P.underlying t with
    | some (.int .i64) => true
    | some (.struct fs) => (fs.toList.all fun f => flatB P n f.type) && (endsAt P 0 fs.toList == some (P.cellsOf t))
    | _ => false
def IsInts (row : List Value) : Prop := ∃ l : List Int, row = ints l ∧ I64 l
theorem isInts_app {a b : List Value} (ha : IsInts a) (hb : IsInts b) : IsInts (a ++ b) := by
  obtain ⟨l, rfl, hl⟩ := ha
  obtain ⟨m, rfl, hm⟩ := hb
  refine ⟨l ++ m, by simp [ints], fun x hx => ?_⟩
  rcases List.mem_append.1 hx with h | h
  · exact hl x h
  · exact hm x h
section
variable {H : Type} {enc : TypeId × Value → H} {P : Program} {w : World} {t e : TypeId} {v : Value} {d : DataW H} {ps : List MemPlace} {b0 : Nat}
theorem ends_le : ∀ (fs : List Field) (o z : Nat), endsAt P o fs = some z → o ≤ z
  | [], o, z, h => by
    simp only [endsAt, Option.some.injEq] at h
    omega
  | f :: r, o, z, h => by
    simp only [endsAt] at h
    split at h
    · have := ends_le r _ z h
      omega
    · cases h
theorem flat_pieces (row : List Value) : ∀ (fs : List Field) (o z : Nat), endsAt P o fs = some z → (∀ f ∈ fs, IsInts ((row.drop f.offset).take (P.cellsOf f.type))) → IsInts ((row.drop o).take (z - o))
  | [], o, z, h, _ => by
    simp only [endsAt, Option.some.injEq] at h
    subst h
    exact ⟨[], by simp [ints], fun x hx => by cases hx⟩
  | f :: r, o, z, h, hp => by
    simp only [endsAt] at h
    split at h
    · rename_i ho
      have h1 := hp f (List.mem_cons_self)
      have h2 := flat_pieces row r _ z h (fun g hg => hp g (List.mem_cons_of_mem _ hg))
      have h3 := ends_le r _ z h
      rw [ho] at h1
      have e : (row.drop o).take (z - o) = (row.drop o).take (P.cellsOf f.type) ++ (row.drop (o + P.cellsOf f.type)).take (z - (o + P.cellsOf f.type)) := by
        rw [show z - o = P.cellsOf f.type + (z - (o + P.cellsOf f.type)) by omega, List.take_add, List.drop_drop]
      rw [e]
      exact isInts_app h1 h2
    · cases h
theorem flat_row : ∀ (n : Nat) (t : TypeId), flatB P n t = true → ∀ (m : Nat) (row : List Value) (y : DataW H × List MemPlace), DataW.trod enc P w 0 (fun _ => true) true m t row = some y → IsInts row
  | 0, t, h, _, _, _, _ => by simp [flatB] at h
  | n + 1, t, h, m, row, y, hy => by
    simp only [flatB] at h
    split at h
    · rename_i hu
      obtain ⟨x, e, _, wx⟩ := DataW.trod_int hu hy
      exact ⟨[x], by rw [e]; rfl, fun z hz => by
        rw [List.mem_singleton.1 hz]
        exact wf_bd wx⟩
    · rename_i fs hu
      simp only [Bool.and_eq_true, List.all_eq_true, beq_iff_eq] at h
      obtain ⟨h1, h2⟩ := h
      obtain ⟨xs, k, _, _, hl, hxl, hf⟩ := DataW.trod_struct hu hy
      have := flat_pieces (P := P) row fs.toList 0 _ h2 (fun f hmem => by
        obtain ⟨i, hi⟩ := List.mem_iff_getElem?.1 hmem
        have hi' : fs[i]? = some f := by simpa using hi
        have h3 := hf i f hi'
        have hlt : i < xs.length := by
          rw [hxl]
          exact (Array.getElem?_eq_some_iff.1 hi').1
        rw [List.getElem?_eq_getElem hlt] at h3
        exact flat_row n f.type (h1 f hmem) _ _ _ h3)
      rw [List.drop_zero, Nat.sub_zero, ← hl, List.take_length] at this
      exact this
    · cases h
theorem in_flat {fs : Array Field} (n : Nat) (ht : P.underlying t = some (.struct fs)) (hb : flatB P n t = true) (hval : Value.okWide P w .any b0 t v) (hd : DataW.Trod enc P w 0 (fun _ => true) true t v d ps) :
    ∃ l : List Int, v = .agg (ints l).toArray ∧ l.length = P.cellsOf t ∧ I64 l := by
  obtain ⟨cs, rfl, hsz⟩ := okWide_struct ht hval
  obtain ⟨fuel, hf⟩ := hd
  obtain ⟨l, e, hl⟩ := flat_row n t hb _ _ _ hf
  simp only [Value.cells] at e
  refine ⟨l, ?_, ?_, hl⟩
  · rw [← e]
  · have := congrArg List.length e
    simp only [ints, List.length_map, Array.length_toList] at this
    omega
theorem in_flats {k : Nat} {fs : Array Field} (n : Nat) (ht : P.underlying t = some (.slice e)) (he : P.underlying e = some (.struct fs)) (hc : P.cellsOf e = k) (hk : 0 < k) (hb : 1 ≤ P.bytesOf e) (hfl : flatB P n e = true)
    (hval : Value.okWide P w .any b0 t v) (hd : DataW.Trod enc P w 0 (fun _ => true) true t v d ps) (hz : ∀ n ∈ DataW.weights P t d, n ≤ reachBytes) :
    ∃ (A : Option Addr) (cap : Nat) (l : List (List Int)), v = .slice A l.length cap ∧ l.length ≤ cap ∧ cap ≤ 140737488351232 ∧ (∀ x ∈ l, x.length = k ∧ I64 x) ∧ ReadsK w w.heap.size A k (l.map ints) := by
  obtain ⟨A, cap, rows, rfl, hl, hcap, _, hr, hR⟩ := in_rows ht hc hk hb hval hd hz
  obtain ⟨l, rfl, hq⟩ := rows_map (f := ints) (Q := fun x => x.length = k ∧ I64 x) (rows := rows) (by
    intro row hrow
    obtain ⟨m, y, hy, _⟩ := hr row hrow
    obtain ⟨_, _, _, _, hlen, _⟩ := DataW.trod_struct he hy
    rw [hc] at hlen
    obtain ⟨l, rfl, hl⟩ := flat_row n e hfl _ _ _ hy
    exact ⟨l, rfl, by simpa [ints] using hlen, hl⟩)
  exact ⟨A, cap, l, by rw [List.length_map], by simpa using hl, hcap, hq, hR⟩
end
end Go.Proofs.Ytfmbldjaknjgbaa
namespace Go.Proofs.Ytfmbldjaknjgbaa
open Go Go.RowKit
set_option linter.unusedVariables false

section
variable {α : Type} (enc : α → List Value) (T s : Nat)
/-- the slice v has just these elements; its block lies from B on -/
def Rw (W : World) (B : Nat) (v : Value) (l : List α) : Prop :=
  (v = .slice none 0 0 ∧ l = []) ∨ ∃ (g off cap : Nat) (cur : Array Value), v = .slice (some ⟨g, off, none⟩) l.length cap ∧ B ≤ g ∧ W.heap[g]? = some (.cells cur T (0, 0)) ∧ l.length ≤ cap ∧ cap ≤ 9223372036854775807 ∧ off + cap * s ≤ cur.size ∧
    ∀ (j : Nat) (x : α), l[j]? = some x → ∀ (c : Nat) (u : Value), (enc x)[c]? = some u → cur[off + (j * s + c)]? = some u
end
section
variable {α : Type} {enc : α → List Value} {T s : Nat} {W W' : World} {B : Nat} {v : Value} {l : List α}
theorem flat_len (he : ∀ x, (enc x).length = s) : ∀ l : List α, (l.flatMap enc).length = l.length * s
  | [] => by simp
  | x :: r => by
    rw [List.flatMap_cons, List.length_append, he, flat_len he r, List.length_cons, Nat.succ_mul, Nat.add_comm]
theorem flat_at (he : ∀ x, (enc x).length = s) : ∀ (l : List α) (j : Nat) (x : α), l[j]? = some x → ∀ c, c < s → (l.flatMap enc)[j * s + c]? = (enc x)[c]?
  | [], j, x, h, _, _ => by simp at h
  | y :: r, 0, x, h, c, hc => by
    simp only [List.getElem?_cons_zero, Option.some.injEq] at h
    subst h
    rw [List.flatMap_cons, Nat.zero_mul, Nat.zero_add, List.getElem?_append_left (by rw [he]; exact hc)]
  | y :: r, j + 1, x, h, c, hc => by
    rw [List.getElem?_cons_succ] at h
    rw [List.flatMap_cons, List.getElem?_append_right (by rw [he, Nat.succ_mul]; omega), he, Nat.succ_mul, show j * s + s + c - s = j * s + c by omega]
    exact flat_at he r j x h c hc
theorem flat_inv (he : ∀ x, (enc x).length = s) : ∀ (l : List α) (i : Nat) (u : Value), (l.flatMap enc)[i]? = some u → ∃ j x c, l[j]? = some x ∧ (enc x)[c]? = some u ∧ i = j * s + c
  | [], i, u, h => by simp at h
  | y :: r, i, u, h => by
    rw [List.flatMap_cons] at h
    by_cases hi : i < s
    · rw [List.getElem?_append_left (by rw [he]; exact hi)] at h
      exact ⟨0, y, i, rfl, h, by omega⟩
    · rw [List.getElem?_append_right (by rw [he]; omega), he] at h
      obtain ⟨j, x, c, h1, h2, h3⟩ := flat_inv he r _ u h
      exact ⟨j + 1, x, c, h1, h2, by rw [Nat.succ_mul]; omega⟩
theorem rw_nil (W : World) (B : Nat) : Rw enc T s W B (.slice none 0 0) [] := .inl ⟨rfl, rfl⟩
theorem Rw.form (h : Rw enc T s W B v l) : ∃ A c, v = .slice A l.length c := by
  rcases h with ⟨rfl, rfl⟩ | ⟨g, off, cap, cur, rfl, _⟩
  · exact ⟨none, 0, rfl⟩
  · exact ⟨_, _, rfl⟩
theorem Rw.blk (h : Rw enc T s W B v l) {b : Nat} (hb : v.ownBlock = some b) : B ≤ b ∧ ∃ cur, W.heap[b]? = some (.cells cur T (0, 0)) := by
  rcases h with ⟨rfl, rfl⟩ | ⟨g, off, cap, cur, rfl, h1, h2, _⟩
  · cases hb
  · cases hb
    exact ⟨h1, cur, h2⟩
theorem Rw.kept (h : Rw enc T s W B v l) (hk : ∀ b, v.ownBlock = some b → W'.heap[b]? = W.heap[b]?) : Rw enc T s W' B v l := by
  rcases h with h | ⟨g, off, cap, cur, rfl, h1, h2, h3⟩
  · exact .inl h
  · exact .inr ⟨g, off, cap, cur, rfl, h1, (hk g rfl).trans h2, h3⟩
theorem Rw.below (h : Rw enc T s W B v l) (hb : Below W.heap.size W W') : Rw enc T s W' B v l := h.kept fun b hv => by
  obtain ⟨_, cur, h2⟩ := h.blk hv
  exact hb.block b ((Array.getElem?_eq_some_iff.1 h2).1)
theorem Rw.base (h : Rw enc T s W B v l) {B' : Nat} (hb : B' ≤ B) : Rw enc T s W B' v l := by
  rcases h with h | ⟨g, off, cap, cur, rfl, h1, h2⟩
  · exact .inl h
  · exact .inr ⟨g, off, cap, cur, rfl, by omega, h2⟩
theorem Rw.at_ (h : Rw enc T s W B v l) {j : Nat} {x : α} (hj : l[j]? = some x) : ∃ g off c, v = .slice (some ⟨g, off, none⟩) l.length c ∧ B ≤ g ∧ g < W.heap.size ∧ ∀ (c : Nat) (u : Value), (enc x)[c]? = some u → W.cell? ⟨g, off + (j * s + c), none⟩ = some u ∧ W.frozen? ⟨g, off + (j * s + c), none⟩ = false := by
  rcases h with ⟨rfl, rfl⟩ | ⟨g, off, cap, cur, rfl, h1, h2, _, _, _, h3⟩
  · simp at hj
  · refine ⟨g, off, cap, rfl, h1, (Array.getElem?_eq_some_iff.1 h2).1, fun c u hu => ?_⟩
    have := h3 j x hj c u hu
    simp [World.cell?, World.frozen?, h2, this]
theorem setCells_other (b : Nat) : ∀ (vs : List Value) (o : Nat) (w : World) (k : Nat), k ≠ b → (w.setCells b o vs).heap[k]? = w.heap[k]?
  | [], _, _, _, _ => rfl
  | v :: r, o, w, k, hk => by rw [World.setCells, setCells_other b r _ _ k hk, Below.heap_setCell _ _ _ _ hk]
theorem setCells_size (b : Nat) : ∀ (vs : List Value) (o : Nat) (w : World), (w.setCells b o vs).heap.size = w.heap.size ∧ (w.setCells b o vs).os = w.os ∧ (w.setCells b o vs).tape = w.tape ∧ (w.setCells b o vs).output = w.output
  | [], _, _ => ⟨rfl, rfl, rfl, rfl⟩
  | v :: r, o, w => by
    obtain ⟨h1, h2, h3, h4⟩ := setCells_size b r (o + 1) (w.setCell ⟨b, o, none⟩ v)
    exact ⟨h1.trans (by simp), h2, h3, h4⟩
theorem setCells_same (b : Nat) {T : Nat} : ∀ (vs : List Value) (o : Nat) (w : World) (cur : Array Value), w.heap[b]? = some (.cells cur T (0, 0)) → ∃ cur' : Array Value, (w.setCells b o vs).heap[b]? = some (.cells cur' T (0, 0)) ∧ cur'.size = cur.size ∧
    (∀ k, k < o → cur'[k]? = cur[k]?) ∧ (∀ (j : Nat) (u : Value), vs[j]? = some u → o + j < cur.size → cur'[o + j]? = some u)
  | [], o, w, cur, h => ⟨cur, h, rfl, fun _ _ => rfl, fun j u hj => by simp at hj⟩
  | v :: r, o, w, cur, h => by
    have h1 := heap_setCell_same w b o cur T v h
    obtain ⟨cur', e1, e2, e3, e4⟩ := setCells_same b r (o + 1) (w.setCell ⟨b, o, none⟩ v) _ h1
    refine ⟨cur', e1, e2.trans (by simp), fun k hk => ?_, fun j u hj hlt => ?_⟩
    · rw [e3 k (by omega), Array.getElem?_setIfInBounds, if_neg (by omega)]
    · cases j with
      | zero =>
        simp only [List.getElem?_cons_zero, Option.some.injEq] at hj
        subst hj
        rw [Nat.add_zero, e3 o (by omega), Array.getElem?_setIfInBounds, if_pos rfl, if_pos (by omega)]
      | succ j =>
        rw [List.getElem?_cons_succ] at hj
        have := e4 j u hj (by simpa using (show o + 1 + j < cur.size by omega))
        rwa [show o + (j + 1) = o + 1 + j by omega]
/-- elements more at its end -/
theorem Rw.app {P : Program} {t ty : TypeId} {z : Value} {bytes : Nat} (ht : P.underlying t = some (.slice T)) (hi : (P.info? T).map (fun i => (i.zero, i.size, i.bytes)) = some (some z, s, bytes)) (hzs : z.cells.size = s) (hs : 0 < s)
    (he : ∀ x, (enc x).length = s) (h1 : ∀ x, ∀ u ∈ enc x, u.oneCell' = true)
    (h : Rw enc T s W B v l) (hB : B ≤ W.heap.size) (y : List α) (a : Addr) (c : Nat) (hy : ∀ (j : Nat) (x : α), y[j]? = some x → ∀ (c : Nat) (u : Value), (enc x)[c]? = some u → W.cell? (a.add (j * s + c)) = some u)
    (hn : l.length + y.length ≤ 1000000) (hby : bytes ≤ 1000) (hne : 0 < y.length ∨ v ≠ .slice none 0 0) :
    ∃ v' w', (Builtin.append_ #[t, t] ty #[v, .slice (some a) y.length c]).run P W = .ok v' w' ∧ Rw enc T s w' B v' (l ++ y) ∧ W.grownBy w' v.ownBlock ∧ ∀ b, v'.ownBlock = some b → v.ownBlock = some b ∨ W.heap.size ≤ b := by
  obtain ⟨i, hi, hz, h2, h3⟩ := info_parts hi
  have hnews : ∀ j u, (y.flatMap enc)[j]? = some u → W.cell? (a.add j) = some u := fun j u hj => by
    obtain ⟨k, x, c, e1, e2, rfl⟩ := flat_inv he y j u hj
    exact hy k x e1 c u e2
  have hone : ∀ u ∈ y.flatMap enc, u.oneCell' = true := fun u hu => by
    obtain ⟨x, _, hx⟩ := List.mem_flatMap.1 hu
    exact h1 x u hx
  have hlen := flat_len he y
  have hbb : (l.length + y.length) * bytes ≤ 140737488355328 := Nat.le_trans (Nat.mul_le_mul hn hby) (by decide)
  -- a new block that holds all
  have fresh : ∀ (old : Nat), old < l.length + y.length →
      Rw enc T s (W.drew.alloc (.cells ((l.flatMap enc).toArray ++ (y.flatMap enc).toArray ++ Builtin.zeroCells z.cells (grownCap W (l.length + y.length) old T - (l.length + y.length))) T)) B (.slice (some ⟨W.heap.size, 0, none⟩) (l.length + y.length) (grownCap W (l.length + y.length) old T)) (l ++ y) := by
    intro old ho
    have hge := grownCap_ge W (l.length + y.length) old T
    have hcm : grownCap W (l.length + y.length) old T ≤ maxLen := grownCap_le_maxLen W (l.length + y.length) old T (by unfold maxLen; omega)
    refine .inr ⟨W.heap.size, 0, _, _, by rw [List.length_append], hB, heap_alloc_new W.drew _, by rw [List.length_append]; exact hge, hcm, ?_, fun j x hj c u hu => ?_⟩
    · simp only [Array.size_append, List.size_toArray, size_zeroCells, hzs, flat_len he, ← Nat.add_mul, Nat.zero_add]
      exact Nat.mul_le_mul_right _ (by omega)
    · have hc : c < s := by have := (List.getElem?_eq_some_iff.1 hu).1; rw [he] at this; exact this
      have hf := flat_at he (l ++ y) j x hj c hc
      rw [hu, List.flatMap_append] at hf
      have hlt := (List.getElem?_eq_some_iff.1 hf).1
      rw [Nat.zero_add, Array.getElem?_append_left (by simpa using hlt)]
      simpa using hf
  have fgrow : ∀ (old : Nat) (row : Option Nat), W.grownBy (W.drew.alloc (.cells ((l.flatMap enc).toArray ++ (y.flatMap enc).toArray ++ Builtin.zeroCells z.cells (grownCap W (l.length + y.length) old T - (l.length + y.length))) T)) row :=
    fun old row => ⟨rfl, rfl, rfl, by simp, fun k hk _ => Below.heap_alloc W.drew _ k hk⟩
  rcases h with ⟨rfl, rfl⟩ | ⟨g, off, cap, cur, rfl, hg1, hg2, hg3, hg4, hg5, hg6⟩
  · have h0 : 0 < y.length := hne.resolve_right (fun e => e rfl)
    have hr := run_append_nil (P := P) W t ty T i z ht hi hz a y.length c (y.flatMap enc) (by rw [hlen, h2]) hnews h0 (by simp only [List.length_nil] at hn; omega) (by rw [h3]; simp only [List.length_nil, Nat.zero_add] at hbb; omega)
    have hfr := fresh 0 (by omega)
    have hfg := fgrow 0 none
    simp only [List.length_nil, Nat.zero_add, List.flatMap_nil, List.nil_append] at hfr hfg
    refine ⟨_, _, hr, ?_, ?_, fun b hb => .inr ?_⟩
    · simpa using hfr
    · simpa [Value.ownBlock] using hfg
    · simp only [Value.ownBlock, Option.some.injEq] at hb; omega
  · by_cases hroom : l.length + y.length ≤ cap
    · have hsz : off + (l.length + y.length) * s ≤ cur.size := Nat.le_trans (Nat.add_le_add_left (Nat.mul_le_mul_right s hroom) off) hg5
      rw [Nat.add_mul] at hsz
      have hcell : ∀ j, j < (y.flatMap enc).length → (W.cell? ⟨g, off + l.length * i.size + j, none⟩).isSome = true ∧ W.frozen? ⟨g, off + l.length * i.size + j, none⟩ = false := fun j hj => by
        rw [hlen] at hj
        rw [h2]
        have hx : off + l.length * s + j < cur.size := by omega
        simp [World.cell?, World.frozen?, hg2, hx]
      have hr := run_append_room_cells (P := P) W t ty T i ht hi g off l.length cap a y.length c (y.flatMap enc) (by rw [hlen, h2]) hnews hone hroom (fun j hj => (hcell j hj).1) (fun j hj => (hcell j hj).2)
      refine ⟨_, _, hr, ?_, ?_, fun b hb => .inl hb⟩
      · obtain ⟨cur', e1, e2, e3, e4⟩ := setCells_same g (T := T) (y.flatMap enc) (off + l.length * i.size) W cur hg2
        refine .inr ⟨g, off, cap, cur', by rw [List.length_append], hg1, e1, by rw [List.length_append]; exact hroom, hg4, by rw [e2]; exact hg5, fun j x hj c u hu => ?_⟩
        have hc : c < s := by have := (List.getElem?_eq_some_iff.1 hu).1; rw [he] at this; exact this
        by_cases hjl : j < l.length
        · rw [List.getElem?_append_left hjl] at hj
          have hx : j * s + s ≤ l.length * s := by have := Nat.mul_le_mul_right s (show j + 1 ≤ l.length by omega); rwa [Nat.succ_mul] at this
          rw [e3 _ (by rw [h2]; omega)]
          exact hg6 j x hj c u hu
        · rw [List.getElem?_append_right (by omega)] at hj
          have hf := flat_at he y _ x hj c hc
          rw [hu] at hf
          have hjy := (List.getElem?_eq_some_iff.1 hj).1
          have hx : (j - l.length) * s + s ≤ y.length * s := by have := Nat.mul_le_mul_right s (show j - l.length + 1 ≤ y.length by omega); rwa [Nat.succ_mul] at this
          have hj2 : j * s = l.length * s + (j - l.length) * s := by rw [← Nat.add_mul]; congr 1; omega
          have := e4 _ u hf (by rw [h2]; omega)
          rw [h2] at this
          rwa [show off + (j * s + c) = off + l.length * s + ((j - l.length) * s + c) by omega]
      · obtain ⟨e1, e2, e3, e4⟩ := setCells_size g (y.flatMap enc) (off + l.length * i.size) W
        exact ⟨e2, e3, e4, by rw [e1]; exact Nat.le_refl _, fun k hk hne => setCells_other g _ _ _ k (fun e => hne (by rw [e]; rfl))⟩
    · have hold : ∀ j u, (l.flatMap enc)[j]? = some u → W.cell? ((⟨g, off, none⟩ : Addr).add j) = some u := fun j u hj => by
        obtain ⟨k, x, c, e1, e2, rfl⟩ := flat_inv he l j u hj
        rw [Addr.add_mid]
        simp [World.cell?, hg2, hg6 k x e1 c u e2]
      have hr := run_append_grow (P := P) W t ty T i z ht hi hz ⟨g, off, none⟩ l.length cap (l.flatMap enc) (by rw [flat_len he, h2]) hold a y.length c (y.flatMap enc) (by rw [hlen, h2]) hnews (by omega) (by omega) (growslice_fits (by omega) (by rw [h3]; exact hbb))
      refine ⟨_, _, hr, fresh cap (by omega), fgrow cap _, fun b hb => .inr ?_⟩
      simp only [Value.ownBlock, Option.some.injEq] at hb
      omega
end
end Go.Proofs.Ytfmbldjaknjgbaa
namespace Go.Proofs.Ytfmbldjaknjgbaa
open Go Go.RowKit
set_option linter.unusedVariables false

theorem wpList_append {P : Program} (w : World) {ops : Array Oper} {rest : List Oper} {o : Oper} {a : Act} {Q : Exit → Act → World → Prop} (hg : o.guard = none) (s x : Operand) (t t' : TypeId) (hop : o.op = Op.call { callee := Callee.builtin Builtin.append, args := #[s, x], argTypes := #[t, t'] })
    (v xv : Value) (hs : a.eval s = v) (hx : a.eval x = xv) (v' : Value) (w' : World) (hrun : (Builtin.append_ #[t, t'] o.type #[v, xv]).run P w = .ok v' w') (hK : wpList P ops Q rest (a.put o.dst v') w') :
    wpList P ops Q (o :: rest) a w := by
  refine wpList_plain hg fun K' hK' => ?_
  unfold Oper.wp
  simp [execOp, hop, resolve, invoke, builtin, hs, hx, hrun, Result.andThen]
  exact hK' _ _ hK
theorem step_append {P : Program} {ops : Array Oper} {o : Oper} {a : Act} {w : World} {K : Act → World → Prop} {Q : Exit → Act → World → Prop} {E : Prop}
    (hg : o.guard = none) (s x : Operand) (t t' : TypeId) (hop : o.op = Op.call { callee := Callee.builtin Builtin.append, args := #[s, x], argTypes := #[t, t'] }) (v xv : Value) (hs : a.eval s = v) (hx : a.eval x = xv) (v' : Value) (w' : World)
    (hrun : (Builtin.append_ #[t, t'] o.type #[v, xv]).run P w = .ok v' w') (hK : K (a.put o.dst v') w') :
    if Region.wanted o (yielded ops a.tmps) = true then Oper.wp P o a w K Q else E := by
  have hw : Region.wanted o (yielded ops a.tmps) = true := by simp [Region.wanted, hg]
  rw [if_pos hw]
  unfold Oper.wp
  simp [execOp, hop, resolve, invoke, builtin, hs, hx, hrun, Result.andThen]
  exact hK
theorem step_call {P : Program} {ops : Array Oper} {o : Oper} {a : Act} {w : World} {K : Act → World → Prop} {Q : Exit → Act → World → Prop} {E : Prop}
    (hg : o.guard = none) (f : FuncId) (x : Operand) (T : TypeId) (hop : o.op = Op.call { callee := Callee.value (Operand.func f), args := #[x], argTypes := #[T] }) (xv : Value) (hx : a.eval x = xv)
    (hen : ∀ args w, (callFunc f args).run P w = .ok (.enter f args) w) (h : Calls P f #[xv] w fun e w' => ∃ v, e = .returned v ∧ K (a.put o.dst v) w') :
    if Region.wanted o (yielded ops a.tmps) = true then Oper.wp P o a w K Q else E := by
  have hw : Region.wanted o (yielded ops a.tmps) = true := by simp [Region.wanted, hg]
  rw [if_pos hw]
  unfold Oper.wp
  have ev : a.eval (.func f) = .func (.func f) #[] #[] := rfl
  simp [execOp, hop, resolve, invoke, Deferred.ofValue, ev, hx, hen, Oper.upon]
  refine h.mono ?_
  rintro e w' ⟨v, rfl, hK⟩
  exact hK
end Go.Proofs.Ytfmbldjaknjgbaa
namespace Go.Proofs.Ytfmbldjaknjgbaa
open Go.ChangeShapes Go.WideShapes Go.ChangeAt Go.RowKit

section
variable {H : Type} {enc : TypeId × Value → H} {P : Program} {w : World} {t e : TypeId} {v : Value} {d : DataW H} {ps : List MemPlace} {b0 : Nat}
theorem in_arr2 (ht : P.underlying t = some (.array 2 e)) (hc : P.cellsOf e = 1) (hC : P.cellsOf t = 2) (hval : Value.okWide P w .any b0 t v) (hd : DataW.Trod enc P w 0 (fun _ => true) true t v d ps) :
    ∃ (c0 c1 : Value) (y0 y1 : DataW H × List MemPlace) (n : Nat), v = .agg #[c0, c1] ∧ d = .agg [y0.1, y1.1] ∧ DataW.trod enc P w 0 (fun _ => true) true n e [c0] = some y0 ∧ DataW.trod enc P w 0 (fun _ => true) true n e [c1] = some y1 := by
  simp only [Value.okWide, ht] at hval
  obtain ⟨cs, rfl, hsz, _⟩ := hval
  obtain ⟨c0, c1, rfl⟩ := Joins.array2 (hsz.trans hC)
  obtain ⟨fuel, hf⟩ := hd
  obtain ⟨xs, m, _, hx, hl, hxn, hel⟩ := DataW.trod_array ht hf
  obtain ⟨y0, y1, rfl⟩ : ∃ y0 y1, xs = [y0, y1] := by
    match xs, hxn with
    | [a, b], _ => exact ⟨a, b, rfl⟩
  simp only [Prod.mk.injEq] at hx
  have h0 := hel 0 (by omega)
  have h1 := hel 1 (by omega)
  rw [hc] at h0 h1
  exact ⟨c0, c1, y0, y1, m, rfl, hx.1, by simpa [Value.cells] using h0, by simpa [Value.cells] using h1⟩
theorem in_int2 (ht : P.underlying t = some (.array 2 e)) (he : P.underlying e = some (.int .i64)) (hc : P.cellsOf e = 1) (hC : P.cellsOf t = 2) (hval : Value.okWide P w .any b0 t v) (hd : DataW.Trod enc P w 0 (fun _ => true) true t v d ps) :
    ∃ a b : Int, v = .agg #[.int .i64 a, .int .i64 b] ∧ (-9223372036854775808 ≤ a ∧ a ≤ 9223372036854775807) ∧ (-9223372036854775808 ≤ b ∧ b ≤ 9223372036854775807) := by
  obtain ⟨c0, c1, y0, y1, n, rfl, _, h0, h1⟩ := in_arr2 ht hc hC hval hd
  obtain ⟨a, e0, _, wa⟩ := DataW.trod_int he h0
  obtain ⟨b, e1, _, wb⟩ := DataW.trod_int he h1
  simp only [List.cons.injEq, and_true] at e0 e1
  subst e0 e1
  exact ⟨a, b, rfl, wf_bd wa, wf_bd wb⟩
theorem in_str2 (ht : P.underlying t = some (.array 2 e)) (he : P.underlying e = some .string) (hc : P.cellsOf e = 1) (hC : P.cellsOf t = 2) (hval : Value.okWide P w .any b0 t v) (hd : DataW.Trod enc P w 0 (fun _ => true) true t v d ps) (hz : ∀ n ∈ DataW.weights P t d, n ≤ reachBytes) :
    ∃ a b : List UInt8, v = .agg #[.string ⟨a.toArray⟩, .string ⟨b.toArray⟩] ∧ a.length ≤ 140737488351232 ∧ b.length ≤ 140737488351232 := by
  obtain ⟨c0, c1, y0, y1, n, rfl, hd2, h0, h1⟩ := in_arr2 ht hc hC hval hd
  obtain ⟨a, e0, f0, wa⟩ := DataW.trod_string he h0
  obtain ⟨b, e1, f1, wb⟩ := DataW.trod_string he h1
  simp only [List.cons.injEq, and_true] at e0 e1
  subst e0 e1 f0 f1 hd2
  refine ⟨a.data.toList, b.data.toList, by simp, hz _ ?_, hz _ ?_⟩ <;> simp [DataW.weights, DataW.weightsAll, ht]
end

end Go.Proofs.Ytfmbldjaknjgbaa
namespace Go.Proofs.Ytfmbldjaknjgbaa
open Go.ChangeShapes Go.WideShapes Go.ChangeAt Go.RowKit
set_option linter.unusedVariables false

def Fits (n : Int) : Prop := -9223372036854775808 ≤ n ∧ n ≤ 9223372036854775807

section
variable {H : Type} {enc : TypeId × Value → H} {P : Program} {w : World} {t e : TypeId} {v : Value} {d : DataW H} {ps : List MemPlace} {b0 : Nat}

theorem row_rect {f0 f1 f2 f3 : Field} {n : Nat} {row : List Value} {y : DataW H × List MemPlace} (he : P.underlying e = some (.struct #[f0, f1, f2, f3])) (hC : P.cellsOf e = 4) (o : f0.offset = 0 ∧ f1.offset = 1 ∧ f2.offset = 2 ∧ f3.offset = 3)
    (k : P.cellsOf f0.type = 1 ∧ P.cellsOf f1.type = 1 ∧ P.cellsOf f2.type = 1 ∧ P.cellsOf f3.type = 1) (i : P.underlying f0.type = some (.int .i64) ∧ P.underlying f1.type = some (.int .i64) ∧ P.underlying f2.type = some (.int .i64) ∧ P.underlying f3.type = some (.int .i64))
    (h : DataW.trod enc P w 0 (fun _ => true) true n e row = some y) :
    ∃ a b c d : Int, row = [.int .i64 a, .int .i64 b, .int .i64 c, .int .i64 d] ∧ Fits a ∧ Fits b ∧ Fits c ∧ Fits d := by
  obtain ⟨xs, m, _, hy, hl, hxl, hf⟩ := DataW.trod_struct he h
  rw [hC] at hl
  obtain ⟨c0, c1, c2, c3, rfl⟩ : ∃ c0 c1 c2 c3, row = [c0, c1, c2, c3] := by
    match row, hl with
    | [a, b, c, d], _ => exact ⟨a, b, c, d, rfl⟩
  obtain ⟨y0, y1, y2, y3, rfl⟩ : ∃ y0 y1 y2 y3, xs = [y0, y1, y2, y3] := by
    match xs, hxl with
    | [a, b, c, d], _ => exact ⟨a, b, c, d, rfl⟩
  have h0 := hf 0 f0 rfl
  have h1 := hf 1 f1 rfl
  have h2 := hf 2 f2 rfl
  have h3 := hf 3 f3 rfl
  rw [o.1, k.1] at h0
  rw [o.2.1, k.2.1] at h1
  rw [o.2.2.1, k.2.2.1] at h2
  rw [o.2.2.2, k.2.2.2] at h3
  obtain ⟨a, e0, _, wa⟩ := DataW.trod_int i.1 h0
  obtain ⟨b, e1, _, wb⟩ := DataW.trod_int i.2.1 h1
  obtain ⟨c, e2, _, wc⟩ := DataW.trod_int i.2.2.1 h2
  obtain ⟨dd, e3, _, wd⟩ := DataW.trod_int i.2.2.2 h3
  simp only [List.drop_zero, List.drop_succ_cons, List.take_succ_cons, List.take_zero, List.cons.injEq, and_true] at e0 e1 e2 e3
  subst e0 e1 e2 e3
  exact ⟨a, b, c, dd, rfl, wf_bd wa, wf_bd wb, wf_bd wc, wf_bd wd⟩
theorem in_rect {f0 f1 f2 f3 : Field} (he : P.underlying t = some (.struct #[f0, f1, f2, f3])) (hC : P.cellsOf t = 4) (o : f0.offset = 0 ∧ f1.offset = 1 ∧ f2.offset = 2 ∧ f3.offset = 3)
    (k : P.cellsOf f0.type = 1 ∧ P.cellsOf f1.type = 1 ∧ P.cellsOf f2.type = 1 ∧ P.cellsOf f3.type = 1) (i : P.underlying f0.type = some (.int .i64) ∧ P.underlying f1.type = some (.int .i64) ∧ P.underlying f2.type = some (.int .i64) ∧ P.underlying f3.type = some (.int .i64))
    (hval : Value.okWide P w .any b0 t v) (hd : DataW.Trod enc P w 0 (fun _ => true) true t v d ps) :
    ∃ a b c d : Int, v = .agg #[.int .i64 a, .int .i64 b, .int .i64 c, .int .i64 d] ∧ Fits a ∧ Fits b ∧ Fits c ∧ Fits d := by
  obtain ⟨cs, rfl, hsz⟩ := okWide_struct he hval
  obtain ⟨fuel, hf⟩ := hd
  obtain ⟨a, b, c, dd, h, r⟩ := row_rect he hC o k i hf
  refine ⟨a, b, c, dd, ?_, r⟩
  simp only [Value.cells] at h
  congr 1
  exact Array.ext' (by simpa using h)
def rectRow (x : Int × Int × Int × Int) : List Value := [.int .i64 x.1, .int .i64 x.2.1, .int .i64 x.2.2.1, .int .i64 x.2.2.2]
theorem in_rects {f0 f1 f2 f3 : Field} (ht : P.underlying t = some (.slice e)) (he : P.underlying e = some (.struct #[f0, f1, f2, f3])) (hC : P.cellsOf e = 4) (o : f0.offset = 0 ∧ f1.offset = 1 ∧ f2.offset = 2 ∧ f3.offset = 3)
    (k : P.cellsOf f0.type = 1 ∧ P.cellsOf f1.type = 1 ∧ P.cellsOf f2.type = 1 ∧ P.cellsOf f3.type = 1) (i : P.underlying f0.type = some (.int .i64) ∧ P.underlying f1.type = some (.int .i64) ∧ P.underlying f2.type = some (.int .i64) ∧ P.underlying f3.type = some (.int .i64)) (hb : 1 ≤ P.bytesOf e)
    (hval : Value.okWide P w .any b0 t v) (hd : DataW.Trod enc P w 0 (fun _ => true) true t v d ps) (hz : ∀ n ∈ DataW.weights P t d, n ≤ reachBytes) :
    ∃ (A : Option Addr) (cap : Nat) (l : List (Int × Int × Int × Int)), v = .slice A l.length cap ∧ l.length ≤ cap ∧ cap ≤ 140737488351232 ∧
      (∀ x ∈ l, Fits x.1 ∧ Fits x.2.1 ∧ Fits x.2.2.1 ∧ Fits x.2.2.2) ∧ ReadsK w w.heap.size A 4 (l.map rectRow) := by
  obtain ⟨A, cap, rows, rfl, hl, hcap, _, hr, hR⟩ := in_rows ht hC (by omega) hb hval hd hz
  obtain ⟨l, rfl, hq⟩ := rows_map (f := rectRow) (Q := fun x => Fits x.1 ∧ Fits x.2.1 ∧ Fits x.2.2.1 ∧ Fits x.2.2.2) (rows := rows) (by
    intro row hrow
    obtain ⟨n, y, hy, _⟩ := hr row hrow
    obtain ⟨a, b, c, dd, rfl, h1, h2, h3, h4⟩ := row_rect he hC o k i hy
    exact ⟨(a, b, c, dd), rfl, h1, h2, h3, h4⟩)
  exact ⟨A, cap, l, by rw [List.length_map], by simpa using hl, hcap, hq, hR⟩
end
end Go.Proofs.Ytfmbldjaknjgbaa
namespace Go.Proofs.Ytfmbldjaknjgbaa
open Go.ChangeShapes Go.WideShapes Go.ChangeAt Go.RowKit

section
variable {H : Type} {enc : TypeId × Value → H} {P : Program} {w : World} {t : TypeId} {v : Value} {d : DataW H} {ps : List MemPlace} {b0 : Nat}

theorem in_seven {f0 f1 f2 f3 f4 f5 f6 : Field} (he : P.underlying t = some (.struct #[f0, f1, f2, f3, f4, f5, f6])) (hC : P.cellsOf t = 7) (o : f0.offset = 0 ∧ f1.offset = 1 ∧ f2.offset = 2 ∧ f3.offset = 3 ∧ f4.offset = 4 ∧ f5.offset = 5 ∧ f6.offset = 6)
    (k : P.cellsOf f0.type = 1 ∧ P.cellsOf f1.type = 1 ∧ P.cellsOf f2.type = 1 ∧ P.cellsOf f3.type = 1 ∧ P.cellsOf f4.type = 1 ∧ P.cellsOf f5.type = 1 ∧ P.cellsOf f6.type = 1) (i : P.underlying f0.type = some (.int .i64) ∧ P.underlying f1.type = some (.int .i64) ∧ P.underlying f2.type = some (.int .i64) ∧ P.underlying f3.type = some (.int .i64) ∧ P.underlying f4.type = some (.int .i64) ∧ P.underlying f5.type = some (.int .i64) ∧ P.underlying f6.type = some (.int .i64))
    (hval : Value.okWide P w .any b0 t v) (hd : DataW.Trod enc P w 0 (fun _ => true) true t v d ps) :
    ∃ a0 a1 a2 a3 a4 a5 a6 : Int, v = .agg #[.int .i64 a0, .int .i64 a1, .int .i64 a2, .int .i64 a3, .int .i64 a4, .int .i64 a5, .int .i64 a6] ∧ Fits a0 ∧ Fits a1 ∧ Fits a2 ∧ Fits a3 ∧ Fits a4 ∧ Fits a5 ∧ Fits a6 := by
  obtain ⟨cs, rfl, hsz⟩ := okWide_struct he hval
  obtain ⟨fuel, hf⟩ := hd
  obtain ⟨xs, m, _, hy, hl, hxl, hf⟩ := DataW.trod_struct he hf
  rw [hC] at hl
  generalize hr : (Value.agg cs).cells.toList = row at *
  obtain ⟨c0, c1, c2, c3, c4, c5, c6, rfl⟩ : ∃ c0 c1 c2 c3 c4 c5 c6, row = [c0, c1, c2, c3, c4, c5, c6] := by
    match row, hl with
    | [c0, c1, c2, c3, c4, c5, c6], _ => exact ⟨c0, c1, c2, c3, c4, c5, c6, rfl⟩
  obtain ⟨y0, y1, y2, y3, y4, y5, y6, rfl⟩ : ∃ y0 y1 y2 y3 y4 y5 y6, xs = [y0, y1, y2, y3, y4, y5, y6] := by
    match xs, hxl with
    | [y0, y1, y2, y3, y4, y5, y6], _ => exact ⟨y0, y1, y2, y3, y4, y5, y6, rfl⟩
  have h0 := hf 0 f0 rfl
  rw [o.1, k.1] at h0
  obtain ⟨a0, e0, _, w0⟩ := DataW.trod_int i.1 h0
  have h1 := hf 1 f1 rfl
  rw [o.2.1, k.2.1] at h1
  obtain ⟨a1, e1, _, w1⟩ := DataW.trod_int i.2.1 h1
  have h2 := hf 2 f2 rfl
  rw [o.2.2.1, k.2.2.1] at h2
  obtain ⟨a2, e2, _, w2⟩ := DataW.trod_int i.2.2.1 h2
  have h3 := hf 3 f3 rfl
  rw [o.2.2.2.1, k.2.2.2.1] at h3
  obtain ⟨a3, e3, _, w3⟩ := DataW.trod_int i.2.2.2.1 h3
  have h4 := hf 4 f4 rfl
  rw [o.2.2.2.2.1, k.2.2.2.2.1] at h4
  obtain ⟨a4, e4, _, w4⟩ := DataW.trod_int i.2.2.2.2.1 h4
  have h5 := hf 5 f5 rfl
  rw [o.2.2.2.2.2.1, k.2.2.2.2.2.1] at h5
  obtain ⟨a5, e5, _, w5⟩ := DataW.trod_int i.2.2.2.2.2.1 h5
  have h6 := hf 6 f6 rfl
  rw [o.2.2.2.2.2.2, k.2.2.2.2.2.2] at h6
  obtain ⟨a6, e6, _, w6⟩ := DataW.trod_int i.2.2.2.2.2.2 h6
  simp only [List.drop_zero, List.drop_succ_cons, List.take_succ_cons, List.take_zero, List.cons.injEq, and_true] at e0 e1 e2 e3 e4 e5 e6
  subst e0 e1 e2 e3 e4 e5 e6
  refine ⟨a0, a1, a2, a3, a4, a5, a6, ?_, wf_bd w0, wf_bd w1, wf_bd w2, wf_bd w3, wf_bd w4, wf_bd w5, wf_bd w6⟩
  simp only [Value.cells] at hr
  congr 1
  exact Array.ext' (by simpa using hr)
end
end Go.Proofs.Ytfmbldjaknjgbaa
