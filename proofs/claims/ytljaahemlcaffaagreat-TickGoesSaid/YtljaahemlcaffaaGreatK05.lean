/- An append, and a call, at one operation, by its run. Nothing of the program. An element more in a row. Rows of entities in the order of a key, those of one key as they stood: there is just one such row. Nothing of the program. Written by wip/tools/genso.py. Rows of names and of commands. -/
import Derived.Test.YtljaahemlcaffaaGreatK01
import Derived.Deep.AppendSrc
import Derived.Deep.RegionLaw
import Derived.Test.YtljaahemlcaffaaGreatK04
namespace Go.Proofs.YtljaahemlcaffaaGreat
open Go Go.RowKit
set_option linter.unusedVariables false

theorem wpList_append {P : Program} (w : World) {ops : Array Oper} {rest : List Oper} {o : Oper} {a : Act} {Q : Exit → Act → World → Prop} (hg : o.guard = none) (s x : Operand) (t t' : TypeId) (hop : o.op = Op.call { callee := Callee.builtin Builtin.append, args := #[s, x], argTypes := #[t, t'] })
    (v xv : Value) (hs : a.eval s = v) (hx : a.eval x = xv) (v' : Value) (w' : World) (hrun : (Builtin.append_ #[t, t'] o.type #[v, xv]).run P w = .ok v' w') (hK : wpList P ops Q rest (a.put o.dst v') w') :
    wpList P ops Q (o :: rest) a w := by
  refine wpList_plain hg fun K' hK' => ?_
  unfold Oper.wp
  simp [execOp, hop, resolve, invoke, builtin, hs, hx, hrun, Result.andThen]
  exact hK' _ _ hK
theorem step_append {P : Program} {ops : Array Oper} {o : Oper} {a : Act} {w : World} {K : Act → World → Prop} {Q : Exit → Act → World → Prop} {E : Prop}
    (hg : o.guard = none) (s x : Operand) (t t' : TypeId) (hop : o.op = Op.call { callee := Callee.builtin Builtin.append, args := #[s, x], argTypes := #[t, t'] }) (v xv : Value) (hs : a.eval s = v) (hx : a.eval x = xv) (v' : Value) (w' : World)
    (hrun : (Builtin.append_ #[t, t'] o.type #[v, xv]).run P w = .ok v' w') (hK : K (a.put o.dst v') w') :
    if Region.wanted o (yielded ops a.tmps) = true then Oper.wp P o a w K Q else E := by
  have hw : Region.wanted o (yielded ops a.tmps) = true := by simp [Region.wanted, hg]
  rw [if_pos hw]
  unfold Oper.wp
  simp [execOp, hop, resolve, invoke, builtin, hs, hx, hrun, Result.andThen]
  exact hK
theorem step_call {P : Program} {ops : Array Oper} {o : Oper} {a : Act} {w : World} {K : Act → World → Prop} {Q : Exit → Act → World → Prop} {E : Prop}
    (hg : o.guard = none) (f : FuncId) (x : Operand) (T : TypeId) (hop : o.op = Op.call { callee := Callee.value (Operand.func f), args := #[x], argTypes := #[T] }) (xv : Value) (hx : a.eval x = xv)
    (hen : ∀ args w, (callFunc f args).run P w = .ok (.enter f args) w) (h : Calls P f #[xv] w fun e w' => ∃ v, e = .returned v ∧ K (a.put o.dst v) w') :
    if Region.wanted o (yielded ops a.tmps) = true then Oper.wp P o a w K Q else E := by
  have hw : Region.wanted o (yielded ops a.tmps) = true := by simp [Region.wanted, hg]
  rw [if_pos hw]
  unfold Oper.wp
  have ev : a.eval (.func f) = .func (.func f) #[] #[] := rfl
  simp [execOp, hop, resolve, invoke, Deferred.ofValue, ev, hx, hen, Oper.upon]
  refine h.mono ?_
  rintro e w' ⟨v, rfl, hK⟩
  exact hK
end Go.Proofs.YtljaahemlcaffaaGreat
namespace Go.Proofs.YtljaahemlcaffaaGreat
open Go.RowKit Pz
set_option linter.unusedVariables false

/-- an element more: its box is new -/
theorem app_x {α : Type} {enc : α → List Value} {T s : Nat} {W : World} {B : Nat} {v : Value} {l : List α} {t : TypeId} {z : Value} {bytes : Nat} (ht : Tryz.prog.underlying t = some (.slice T)) (hi : (Tryz.prog.info? T).map (fun i => (i.zero, i.size, i.bytes)) = some (some z, s, bytes)) (hzs : z.cells.size = s) (hs : 0 < s)
    (he : ∀ x, (enc x).length = s) (h1 : ∀ x, ∀ u ∈ enc x, u.oneCell' = true) (h : Rw enc T s W B v l) (hB : B ≤ W.heap.size) (x : α) (hn : l.length + 1 ≤ 1000000) (hby : bytes ≤ 1000) (ty : TypeId) :
    ∃ v' w', (Builtin.append_ #[t, t] ty #[v, .slice (some ⟨W.heap.size, 0, none⟩) 1 1]).run Tryz.prog (W.alloc (.cells (enc x).toArray T)) = .ok v' w' ∧ Rw enc T s w' B v' (l ++ [x]) ∧ W.grownBy w' v.ownBlock ∧ (∀ g, v'.ownBlock = some g → v.ownBlock = some g ∨ W.heap.size ≤ g) ∧ ∀ g, v.ownBlock = some g → B ≤ g := by
  have hb := bel1 W (.cells (enc x).toArray T)
  have ha := at1 W (.cells (enc x).toArray T)
  have h2 := h.below hb
  obtain ⟨v', w', hr, ho, hg, hf⟩ := h2.app (P := Tryz.prog) (t := t) (ty := ty) ht hi hzs hs he h1 (Nat.le_trans hB hb.size) [x] ⟨W.heap.size, 0, none⟩ 1 (fun j y hj c u hu => by
    have hj0 : j = 0 := by
      have := (List.getElem?_eq_some_iff.1 hj).1
      simp at this
      exact this
    subst hj0
    have hy := Option.some.inj hj
    subst hy
    rw [Addr.add_mid, Nat.zero_mul, Nat.zero_add, Nat.zero_add]
    exact (Bx.cell ha (by simpa using hu)).1) (by simpa using hn) hby (.inl (by simp))
  exact ⟨v', w', hr, ho, ⟨hg.os, hg.tape, hg.output, Nat.le_trans hb.size hg.size, fun k hk hne => (hg.block k (Nat.lt_of_lt_of_le hk hb.size) hne).trans (hb.block k hk)⟩, fun g e => (hf g e).imp id fun e => Nat.le_trans hb.size e, fun g e => (h.blk e).1⟩
/-- what a world made since B became, but for one's own row -/
theorem below_row {B : Nat} {w W V : World} {row : Option Nat} (h : Below B w W) (hg : W.grownBy V row) (hB : B ≤ W.heap.size) (hr : ∀ g, row = some g → B ≤ g) : Below B w V := h.grown hg hB hr
end Go.Proofs.YtljaahemlcaffaaGreat
namespace Go.Proofs.YtljaahemlcaffaaGreat
open Pz
set_option linter.unusedVariables false

namespace Pz
abbrev K3 := Int × Int × Int
variable {κ : Bn → K3}
/-- behind all that x does not come ahead of, from place k down -/
def insK (κ : Bn → K3) (x : Bn) (out : List Bn) : Nat → Nat
  | 0 => 0
  | k + 1 => match out[k]? with
    | some y => if before (κ x) (κ y) then insK κ x out k else k + 1
    | none => k + 1
def ins (κ : Bn → K3) (x : Bn) (out : List Bn) : List Bn := out.take (insK κ x out out.length) ++ x :: out.drop (insK κ x out out.length)
def sortL (κ : Bn → K3) (l : List Bn) : List Bn := l.foldl (fun out x => ins κ x out) []
def sortP (κ : Bn → K3) (l : List Bn) (i : Nat) : List Bn := sortL κ (l.take i)
theorem insK_le (x : Bn) (out : List Bn) : ∀ k, insK κ x out k ≤ k
  | 0 => Nat.le_refl _
  | k + 1 => by
    unfold insK
    split
    · split
      · have := insK_le x out k; omega
      · exact Nat.le_refl _
    · exact Nat.le_refl _
theorem ins_len (x : Bn) (out : List Bn) : (ins κ x out).length = out.length + 1 := by
  have := insK_le (κ := κ) x out out.length
  unfold ins
  simp only [List.length_append, List.length_take, List.length_cons, List.length_drop]
  omega
theorem sortP_zero (l : List Bn) : sortP κ l 0 = [] := by simp [sortP, sortL]
theorem sortP_succ {l : List Bn} {i : Nat} (hi : i < l.length) : sortP κ l (i + 1) = ins κ l[i] (sortP κ l i) := by
  unfold sortP sortL
  rw [List.take_succ_eq_append_getElem hi, List.foldl_append]
  rfl
theorem sortP_len (l : List Bn) : ∀ i, i ≤ l.length → (sortP κ l i).length = i
  | 0, _ => by rw [sortP_zero]; rfl
  | i + 1, h => by rw [sortP_succ (κ := κ) (by omega), ins_len, sortP_len l i (by omega)]
theorem sortP_all (l : List Bn) : sortP κ l l.length = sortL κ l := by unfold sortP; rw [List.take_length]
/-- out with a hole at k -/
structure Hole (κ : Bn → K3) (x : Bn) (out R : List Bn) (k : Nat) : Prop where
  len : R.length = out.length + 1
  le : k ≤ out.length
  lo : ∀ j, j < k → R[j]? = out[j]?
  hi : ∀ j, k < j → j ≤ out.length → R[j]? = out[j - 1]?
  at_ : insK κ x out out.length = insK κ x out k
theorem Hole.start (x : Bn) (out : List Bn) : Hole κ x out (out ++ [x]) out.length :=
  ⟨by simp, Nat.le_refl _, fun j hj => List.getElem?_append_left hj, fun j h1 h2 => by omega, rfl⟩
theorem Hole.down {x : Bn} {out R : List Bn} {k : Nat} (h : Hole κ x out R (k + 1)) {y : Bn} (hy : R[k]? = some y) (hb : before (κ x) (κ y) = true) : Hole κ x out (R.set (k + 1) y) k := by
  have hk := h.le
  have hl := h.len
  have hyo : out[k]? = some y := by rw [← h.lo k (by omega)]; exact hy
  refine ⟨by rw [List.length_set]; exact h.len, by omega, fun j hj => ?_, fun j h1 h2 => ?_, ?_⟩
  · rw [List.getElem?_set_ne (by omega)]
    exact h.lo j (by omega)
  · by_cases e : j = k + 1
    · subst e
      rw [List.getElem?_set_self (by omega)]
      exact hyo.symm
    · rw [List.getElem?_set_ne (by omega)]
      exact h.hi j (by omega) h2
  · rw [h.at_]
    show (match out[k]? with | some y => if before (κ x) (κ y) then insK κ x out k else k + 1 | none => k + 1) = _
    rw [hyo]
    show (if before (κ x) (κ y) then insK κ x out k else k + 1) = _
    rw [hb]
    rfl
theorem Hole.fin {x : Bn} {out R : List Bn} {k : Nat} (h : Hole κ x out R k) (hk : insK κ x out k = k) : R.set k x = ins κ x out := by
  have hle := h.le
  have hlen := h.len
  unfold ins
  rw [h.at_, hk]
  apply List.ext_getElem?
  intro j
  by_cases h1 : j < k
  · rw [List.getElem?_set_ne (by omega), h.lo j h1, List.getElem?_append_left (by rw [List.length_take]; omega), List.getElem?_take, if_pos h1]
  · rw [List.getElem?_append_right (by rw [List.length_take]; omega), List.length_take, Nat.min_eq_left hle]
    by_cases h2 : j = k
    · subst h2
      rw [List.getElem?_set_self (by omega), Nat.sub_self]
      rfl
    · rw [List.getElem?_set_ne (by omega)]
      obtain ⟨m, hm⟩ : ∃ m, j - k = m + 1 := ⟨j - k - 1, by omega⟩
      rw [hm, List.getElem?_cons_succ, List.getElem?_drop]
      by_cases h3 : j ≤ out.length
      · rw [h.hi j (by omega) h3]
        congr 1
        omega
      · rw [List.getElem?_eq_none (by omega), List.getElem?_eq_none (by omega)]
theorem Hole.stop {x : Bn} {out R : List Bn} {k : Nat} (h : Hole κ x out R (k + 1)) {y : Bn} (hy : R[k]? = some y) (hb : before (κ x) (κ y) = false) : insK κ x out (k + 1) = k + 1 := by
  have hyo : out[k]? = some y := by rw [← h.lo k (by omega)]; exact hy
  show (match out[k]? with | some y => if before (κ x) (κ y) then insK κ x out k else k + 1 | none => k + 1) = _
  rw [hyo]
  show (if before (κ x) (κ y) then insK κ x out k else k + 1) = _
  rw [hb]
  rfl
theorem before_iff (a b : K3) : before a b = true ↔ (a.1 < b.1 ∨ (a.1 = b.1 ∧ (a.2.1 < b.2.1 ∨ (a.2.1 = b.2.1 ∧ a.2.2 < b.2.2)))) := by
  unfold before
  split
  · rename_i h
    simp only [decide_eq_true_eq]
    constructor
    · exact fun h1 => .inl h1
    · rintro (h1 | ⟨h1, _⟩)
      · exact h1
      · exact absurd h1 h
  · rename_i h
    have h : a.1 = b.1 := Classical.not_not.1 h
    split
    · rename_i h2
      simp only [decide_eq_true_eq]
      constructor
      · exact fun h1 => .inr ⟨h, .inl h1⟩
      · rintro (h1 | ⟨_, h1 | ⟨h1, _⟩⟩)
        · omega
        · exact h1
        · exact absurd h1 h2
    · rename_i h2
      have h2 : a.2.1 = b.2.1 := Classical.not_not.1 h2
      simp only [decide_eq_true_eq]
      constructor
      · exact fun h1 => .inr ⟨h, .inr ⟨h2, h1⟩⟩
      · rintro (h1 | ⟨_, h1 | ⟨_, h1⟩⟩)
        · omega
        · omega
        · exact h1
theorem before_not (a b : K3) : before a b = false ↔ ¬ (a.1 < b.1 ∨ (a.1 = b.1 ∧ (a.2.1 < b.2.1 ∨ (a.2.1 = b.2.1 ∧ a.2.2 < b.2.2)))) := by
  rw [← before_iff, Bool.not_eq_true]
theorem before_irr (a : K3) : before a a = false := by
  rw [before_not]; omega
theorem before_asym {a b : K3} (h : before a b = true) : before b a = false := by
  rw [before_iff] at h
  rw [before_not]
  omega
theorem before_trans {a b c : K3} (h : before a b = true) (h2 : before b c = true) : before a c = true := by
  rw [before_iff] at h h2 ⊢
  omega
/-- 'not ahead of', twice -/
theorem le_trans' {a b c : K3} (h : before b a = false) (h2 : before c b = false) : before c a = false := by
  rw [before_not] at h h2 ⊢
  omega
theorem lt_le {a b c : K3} (h : before a b = true) (h2 : before c b = false) : before a c = true := by
  rw [before_iff] at h ⊢
  rw [before_not] at h2
  omega
theorem le_lt {a b c : K3} (h : before b a = false) (h2 : before b c = true) : before a c = true := by
  rw [before_not] at h
  rw [before_iff] at h2 ⊢
  omega
theorem same_of {a b : K3} (h : before b a = false) (h2 : before a b = false) : a = b := by
  rw [before_not] at h h2
  obtain ⟨a1, a2, a3⟩ := a
  obtain ⟨b1, b2, b3⟩ := b
  simp only at h h2
  have h3 : a1 = b1 := by omega
  subst h3
  have h4 : a2 = b2 := by omega
  subst h4
  have h5 : a3 = b3 := by omega
  rw [h5]
theorem ne_of_lt {a b : K3} (h : before a b = true) : a ≠ b := fun e => by
  rw [e, before_irr] at h
  cases h
/-- in the order of their names -/
def Srt (κ : Bn → K3) (l : List Bn) : Prop := l.Pairwise fun a b => before (κ b) (κ a) = false
/-- those of one name -/
def flt (κ : Bn → K3) (k : K3) (l : List Bn) : List Bn := l.filter fun b => decide ((κ b) = k)
/-- the same ones, those of one name in the same order -/
def Alike (κ : Bn → K3) (l m : List Bn) : Prop := ∀ k, flt κ k l = flt κ k m
theorem flt_app (k : K3) (a b : List Bn) : flt κ k (a ++ b) = flt κ k a ++ flt κ k b := List.filter_append ..
theorem Alike.refl (l : List Bn) : Alike κ l l := fun _ => rfl
theorem Alike.symm {l m : List Bn} (h : Alike κ l m) : Alike κ m l := fun k => (h k).symm
theorem Alike.trans {l m n : List Bn} (h : Alike κ l m) (h2 : Alike κ m n) : Alike κ l n := fun k => (h k).trans (h2 k)
theorem Alike.app {a b c d : List Bn} (h : Alike κ a b) (h2 : Alike κ c d) : Alike κ (a ++ c) (b ++ d) := fun k => by rw [flt_app, flt_app, h k, h2 k]
theorem Alike.mem {l m : List Bn} (h : Alike κ l m) {x : Bn} (hx : x ∈ l) : x ∈ m := by
  have : x ∈ flt κ (κ x) l := List.mem_filter.2 ⟨hx, by simp⟩
  rw [h] at this
  exact (List.mem_filter.1 this).1
theorem flt_none {k : K3} {l : List Bn} (h : ∀ x ∈ l, (κ x) ≠ k) : flt κ k l = [] := by
  unfold flt
  rw [List.filter_eq_nil_iff]
  intro x hx
  simpa using h x hx
theorem Alike.swap {p q : List Bn} (h : ∀ x ∈ p, ∀ y ∈ q, (κ x) ≠ (κ y)) : Alike κ (p ++ q) (q ++ p) := fun k => by
  rw [flt_app, flt_app]
  by_cases hp : ∃ x ∈ p, (κ x) = k
  · obtain ⟨x, hx, rfl⟩ := hp
    have : flt κ (κ x) q = [] := flt_none fun y hy e => h x hx y hy e.symm
    rw [this, List.append_nil, List.nil_append]
  · have : flt κ k p = [] := flt_none fun x hx e => hp ⟨x, hx, e⟩
    rw [this, List.append_nil, List.nil_append]
theorem alike_nil {l : List Bn} (h : Alike κ [] l) : l = [] := by
  cases l with
  | nil => rfl
  | cons x r =>
    have := h.symm.mem (x := x) List.mem_cons_self
    cases this
theorem srt_app {a b : List Bn} : Srt κ (a ++ b) ↔ Srt κ a ∧ Srt κ b ∧ ∀ x ∈ a, ∀ y ∈ b, before (κ y) (κ x) = false := List.pairwise_append
theorem uniq : ∀ (l m : List Bn), Srt κ l → Srt κ m → Alike κ l m → l = m
  | [], m, _, _, h => (alike_nil h).symm
  | x :: r, [], _, _, h => alike_nil h.symm
  | x :: r, y :: s, h1, h2, h => by
    obtain ⟨p1, q1⟩ := List.pairwise_cons.1 h1
    obtain ⟨p2, q2⟩ := List.pairwise_cons.1 h2
    have hxy : before (κ y) (κ x) = false := by
      have : y ∈ x :: r := h.symm.mem List.mem_cons_self
      rcases List.mem_cons.1 this with e | hm
      · rw [e]; exact before_irr _
      · exact p1 y hm
    have hyx : before (κ x) (κ y) = false := by
      have : x ∈ y :: s := h.mem List.mem_cons_self
      rcases List.mem_cons.1 this with e | hm
      · rw [e]; exact before_irr _
      · exact p2 x hm
    have e := same_of hxy hyx
    have hk := h (κ x)
    unfold flt at hk
    rw [List.filter_cons_of_pos (by simp), List.filter_cons_of_pos (by simp [e])] at hk
    have exy : x = y := (List.cons.inj hk).1
    subst exy
    rw [uniq r s q1 q2 (fun k => by
      have hk := h k
      unfold flt at hk ⊢
      by_cases hx : (κ x) = k
      · rw [List.filter_cons_of_pos (by simpa using hx), List.filter_cons_of_pos (by simpa using hx)] at hk
        exact (List.cons.inj hk).2
      · rwa [List.filter_cons_of_neg (by simpa using hx), List.filter_cons_of_neg (by simpa using hx)] at hk)]
/-- an entity is put between those that it does not come ahead of and those that it comes ahead of -/
theorem srt_mid {a b : List Bn} {x : Bn} (h : Srt κ (a ++ b)) (h1 : ∀ y ∈ a, before (κ x) (κ y) = false) (h2 : ∀ y ∈ b, before (κ x) (κ y) = true) : Srt κ (a ++ x :: b) ∧ Alike κ (a ++ x :: b) ((a ++ b) ++ [x]) := by
  obtain ⟨ha, hb, hab⟩ := srt_app.1 h
  refine ⟨srt_app.2 ⟨ha, List.pairwise_cons.2 ⟨fun y hy => before_asym (h2 y hy), hb⟩, fun z hz y hy => ?_⟩, ?_⟩
  · rcases List.mem_cons.1 hy with rfl | hy
    · exact h1 z hz
    · exact hab z hz y hy
  · rw [List.append_assoc]
    refine Alike.app (Alike.refl a) ?_
    have := Alike.swap (p := [x]) (q := b) (fun u hu y hy => by
      rw [List.mem_singleton.1 hu]
      exact ne_of_lt (h2 y hy))
    exact this
theorem insK_hi (x : Bn) (out : List Bn) : ∀ k, k ≤ out.length → ∀ j y, insK κ x out k ≤ j → j < k → out[j]? = some y → before (κ x) (κ y) = true
  | 0, _, j, y, _, h, _ => by omega
  | k + 1, hk, j, y, h1, h2, hy => by
    have e : out[k]? = some out[k] := List.getElem?_eq_getElem (by omega)
    unfold insK at h1
    rw [e] at h1
    simp only at h1
    by_cases hb : before (κ x) (κ out[k]) = true
    · rw [if_pos hb] at h1
      by_cases hj : j = k
      · subst hj
        rw [e] at hy
        rw [← Option.some.inj hy]
        exact hb
      · exact insK_hi x out k (by omega) j y h1 (by omega) hy
    · rw [if_neg hb] at h1
      omega
theorem insK_lo (x : Bn) (out : List Bn) : ∀ k, k ≤ out.length → insK κ x out k = 0 ∨ ∃ j y, insK κ x out k = j + 1 ∧ out[j]? = some y ∧ before (κ x) (κ y) = false
  | 0, _ => .inl rfl
  | k + 1, hk => by
    have e : out[k]? = some out[k] := List.getElem?_eq_getElem (by omega)
    unfold insK
    rw [e]
    simp only
    by_cases hb : before (κ x) (κ out[k]) = true
    · rw [if_pos hb]
      exact insK_lo x out k (by omega)
    · rw [if_neg hb]
      exact .inr ⟨k, _, rfl, e, by simpa using hb⟩
theorem ins_srt (x : Bn) {out : List Bn} (h : Srt κ out) : Srt κ (ins κ x out) ∧ Alike κ (ins κ x out) (out ++ [x]) := by
  have hle := insK_le (κ := κ) x out out.length
  have hsp : out = out.take (insK κ x out out.length) ++ out.drop (insK κ x out out.length) := (List.take_append_drop _ _).symm
  have h1 : ∀ y ∈ out.take (insK κ x out out.length), before (κ x) (κ y) = false := fun y hy => by
    rcases insK_lo (κ := κ) x out out.length (Nat.le_refl _) with h0 | ⟨j, z, e, hz, hb⟩
    · rw [h0] at hy
      simp at hy
    · obtain ⟨i, hi⟩ := List.mem_iff_getElem?.1 hy
      rw [e, List.getElem?_take] at hi
      split at hi
      · rename_i hlt
        by_cases hij : i = j
        · subst hij
          rw [hz] at hi
          rw [← Option.some.inj hi]
          exact hb
        · have hz' := (List.getElem?_eq_some_iff.1 hz)
          have hi' := (List.getElem?_eq_some_iff.1 hi)
          obtain ⟨hzl, hze⟩ := hz'
          obtain ⟨hil, hie⟩ := hi'
          have := List.pairwise_iff_getElem.1 h i j hil hzl (by omega)
          rw [hze, hie] at this
          exact le_trans' this hb
      · cases hi
  have h2 : ∀ y ∈ out.drop (insK κ x out out.length), before (κ x) (κ y) = true := fun y hy => by
    obtain ⟨i, hi⟩ := List.mem_iff_getElem?.1 hy
    rw [List.getElem?_drop] at hi
    exact insK_hi (κ := κ) x out out.length (Nat.le_refl _) _ y (by omega) (List.getElem?_eq_some_iff.1 hi).1 hi
  have := srt_mid (by rw [← hsp]; exact h) h1 h2
  unfold ins
  rw [← hsp] at this
  exact this
theorem sortL_go : ∀ (l out : List Bn), Srt κ out → Srt κ (l.foldl (fun o x => ins κ x o) out) ∧ Alike κ (l.foldl (fun o x => ins κ x o) out) (out ++ l)
  | [], out, h => ⟨h, by rw [List.append_nil]; exact Alike.refl _⟩
  | x :: r, out, h => by
    obtain ⟨h1, h2⟩ := ins_srt (κ := κ) x h
    obtain ⟨h3, h4⟩ := sortL_go r _ h1
    refine ⟨h3, h4.trans ?_⟩
    have := Alike.app h2 (Alike.refl r)
    rwa [List.append_assoc] at this
theorem sortL_srt (l : List Bn) : Srt κ (sortL κ l) ∧ Alike κ (sortL κ l) l := sortL_go (κ := κ) l [] List.Pairwise.nil
/-- there is just one -/
theorem sorted_is {l m : List Bn} (h : Srt κ m) (ha : Alike κ m l) : m = sortL κ l :=
  uniq _ _ h (sortL_srt (κ := κ) l).1 (ha.trans (sortL_srt (κ := κ) l).2.symm)
/-- two sorted rows of which the first one's tail and the second one's head are exchanged -/
theorem merge_parts {l1 l2 r1 r2 s1 s2 : List Bn} (hl : Srt κ (l1 ++ l2)) (hr : Srt κ (r1 ++ r2)) (h1 : ∀ x ∈ l1, ∀ y ∈ r2, before (κ y) (κ x) = false) (h2 : ∀ x ∈ l2, ∀ y ∈ r1, before (κ y) (κ x) = true)
    (hs1 : Srt κ s1) (ha1 : Alike κ s1 (l1 ++ r1)) (hs2 : Srt κ s2) (ha2 : Alike κ s2 (l2 ++ r2)) : Srt κ (s1 ++ s2) ∧ Alike κ (s1 ++ s2) ((l1 ++ l2) ++ (r1 ++ r2)) := by
  obtain ⟨_, _, hl3⟩ := srt_app.1 hl
  obtain ⟨_, _, hr3⟩ := srt_app.1 hr
  refine ⟨srt_app.2 ⟨hs1, hs2, fun x hx y hy => ?_⟩, ?_⟩
  · rcases List.mem_append.1 (ha1.mem hx) with hx | hx <;> rcases List.mem_append.1 (ha2.mem hy) with hy | hy
    · exact hl3 x hx y hy
    · exact h1 x hx y hy
    · exact before_asym (h2 y hy x hx)
    · exact hr3 x hx y hy
  · refine (Alike.app ha1 ha2).trans ?_
    have := Alike.app (Alike.app (Alike.refl l1) (Alike.swap (p := r1) (q := l2) (fun x hx y hy => ne_of_lt (h2 y hy x hx)))) (Alike.refl r2)
    simpa [List.append_assoc] using this
end Pz
end Go.Proofs.YtljaahemlcaffaaGreat
namespace Go.Proofs.YtljaahemlcaffaaGreat
open Go.RowKit Pz
set_option linter.unusedVariables false

abbrev NKy := Int × Int × Int
abbrev nkE (x : NKy) : List Value := [.int .i64 x.1, .int .i64 x.2.1, .int .i64 x.2.2]
abbrev OwnN (W : World) (B : Nat) (v : Value) (l : List NKy) : Prop := Rw nkE 40 3 W B v l
theorem nkE_len (x : NKy) : (nkE x).length = 3 := rfl
theorem nkE_one (x : NKy) : ∀ u ∈ nkE x, u.oneCell' = true := by
  intro u hu
  simp only [nkE, List.mem_cons, List.not_mem_nil, or_false] at hu
  rcases hu with rfl | rfl | rfl <;> rfl
theorem id_info : (Tryz.prog.info? 40).map (fun i => (i.zero, i.size, i.bytes)) = some (some (.agg #[.int .i64 0, .int .i64 0, .int .i64 0]), 3, 24) := by kernel_rfl
def RdI3 (W : World) (B : Nat) (A : Option Addr) (l : List NKy) : Prop :=
  ∀ (j : Nat) (x : NKy), l[j]? = some x → ∃ g o, A = some ⟨g, o, none⟩ ∧ g < B ∧ (W.cell? ⟨g, o + j * 3, none⟩ = some (.int .i64 x.1) ∧ W.cell? ⟨g, o + j * 3 + 1, none⟩ = some (.int .i64 x.2.1) ∧ W.cell? ⟨g, o + j * 3 + 2, none⟩ = some (.int .i64 x.2.2))
section
variable {W W' : World} {B : Nat} {A : Option Addr} {l : List NKy}
theorem RdI3.below (h : RdI3 W B A l) (hb : Below B W W') : RdI3 W' B A l := fun j x hx => by
  obtain ⟨g, o, e, hg, h0, h1, h2⟩ := h j x hx
  exact ⟨g, o, e, hg, (hb.cell (p := ⟨g, _, none⟩) hg).trans h0, (hb.cell (p := ⟨g, _, none⟩) hg).trans h1, (hb.cell (p := ⟨g, _, none⟩) hg).trans h2⟩
theorem RdI3.more (h : RdI3 W B A l) {B' : Nat} (hB : B ≤ B') : RdI3 W B' A l := fun j x hx => by
  obtain ⟨g, o, e, hg, h⟩ := h j x hx
  exact ⟨g, o, e, by omega, h⟩
theorem RdI3.of_own {c : Nat} {B0 : Nat} (h : OwnN W B0 (.slice A l.length c) l) : RdI3 W W.heap.size A l := fun j x hx => by
  obtain ⟨g, o, c', e, _, hg, hc⟩ := h.at_ hx
  cases e
  exact ⟨g, o, rfl, hg, (hc 0 _ rfl).1, (hc 1 _ rfl).1, (hc 2 _ rfl).1⟩
theorem RdI3.of_reads (h : ReadsK W B A 3 (l.map nkE)) : RdI3 W B A l := fun j x hx => by
  have hj := (List.getElem?_eq_some_iff.1 hx).1
  obtain ⟨g, o, e, hg, hc⟩ := h (by rw [List.length_map]; omega)
  have hr : (l.map nkE)[j]? = some (nkE x) := by rw [List.getElem?_map, hx]; rfl
  exact ⟨g, o, e, hg, hc j _ hr 0 _ rfl, hc j _ hr 1 _ rfl, hc j _ hr 2 _ rfl⟩
end
abbrev cnE (x : Cn) : List Value := [.int .i64 x.k, .int .i64 x.s, .int .i64 x.i, .int .i64 x.g, .int .i64 x.b.s, .int .i64 x.b.i, .int .i64 x.b.g, .int .i64 x.b.m, .int .i64 x.b.x, .int .i64 x.b.y, .int .i64 x.b.vx, .int .i64 x.b.vy, .int .i64 x.b.h, .int .i64 x.b.p, .int .i64 x.b.l, .int .i64 x.m]
abbrev OwnC (W : World) (B : Nat) (v : Value) (l : List Cn) : Prop := Rw cnE 55 16 W B v l
theorem cnE_len (x : Cn) : (cnE x).length = 16 := rfl
theorem cnE_one (x : Cn) : ∀ u ∈ cnE x, u.oneCell' = true := by
  intro u hu
  simp only [cnE, List.mem_cons, List.not_mem_nil, or_false] at hu
  rcases hu with rfl | rfl | rfl | rfl | rfl | rfl | rfl | rfl | rfl | rfl | rfl | rfl | rfl | rfl | rfl | rfl <;> rfl
theorem cmd_info : (Tryz.prog.info? 55).map (fun i => (i.zero, i.size, i.bytes)) = some (some (.agg #[.int .i64 0, .int .i64 0, .int .i64 0, .int .i64 0, .int .i64 0, .int .i64 0, .int .i64 0, .int .i64 0, .int .i64 0, .int .i64 0, .int .i64 0, .int .i64 0, .int .i64 0, .int .i64 0, .int .i64 0, .int .i64 0]), 16, 128) := by kernel_rfl
def RdC (W : World) (B : Nat) (A : Option Addr) (l : List Cn) : Prop :=
  ∀ (j : Nat) (x : Cn), l[j]? = some x → ∃ g o, A = some ⟨g, o, none⟩ ∧ g < B ∧ (W.cell? ⟨g, o + j * 16, none⟩ = some (.int .i64 x.k) ∧ W.cell? ⟨g, o + j * 16 + 1, none⟩ = some (.int .i64 x.s) ∧ W.cell? ⟨g, o + j * 16 + 2, none⟩ = some (.int .i64 x.i) ∧ W.cell? ⟨g, o + j * 16 + 3, none⟩ = some (.int .i64 x.g) ∧ W.cell? ⟨g, o + j * 16 + 4, none⟩ = some (.int .i64 x.b.s) ∧ W.cell? ⟨g, o + j * 16 + 5, none⟩ = some (.int .i64 x.b.i) ∧ W.cell? ⟨g, o + j * 16 + 6, none⟩ = some (.int .i64 x.b.g) ∧ W.cell? ⟨g, o + j * 16 + 7, none⟩ = some (.int .i64 x.b.m) ∧ W.cell? ⟨g, o + j * 16 + 8, none⟩ = some (.int .i64 x.b.x) ∧ W.cell? ⟨g, o + j * 16 + 9, none⟩ = some (.int .i64 x.b.y) ∧ W.cell? ⟨g, o + j * 16 + 10, none⟩ = some (.int .i64 x.b.vx) ∧ W.cell? ⟨g, o + j * 16 + 11, none⟩ = some (.int .i64 x.b.vy) ∧ W.cell? ⟨g, o + j * 16 + 12, none⟩ = some (.int .i64 x.b.h) ∧ W.cell? ⟨g, o + j * 16 + 13, none⟩ = some (.int .i64 x.b.p) ∧ W.cell? ⟨g, o + j * 16 + 14, none⟩ = some (.int .i64 x.b.l) ∧ W.cell? ⟨g, o + j * 16 + 15, none⟩ = some (.int .i64 x.m))
section
variable {W W' : World} {B : Nat} {A : Option Addr} {l : List Cn}
theorem RdC.below (h : RdC W B A l) (hb : Below B W W') : RdC W' B A l := fun j x hx => by
  obtain ⟨g, o, e, hg, h0, h1, h2, h3, h4, h5, h6, h7, h8, h9, h10, h11, h12, h13, h14, h15⟩ := h j x hx
  exact ⟨g, o, e, hg, (hb.cell (p := ⟨g, _, none⟩) hg).trans h0, (hb.cell (p := ⟨g, _, none⟩) hg).trans h1, (hb.cell (p := ⟨g, _, none⟩) hg).trans h2, (hb.cell (p := ⟨g, _, none⟩) hg).trans h3, (hb.cell (p := ⟨g, _, none⟩) hg).trans h4, (hb.cell (p := ⟨g, _, none⟩) hg).trans h5, (hb.cell (p := ⟨g, _, none⟩) hg).trans h6, (hb.cell (p := ⟨g, _, none⟩) hg).trans h7, (hb.cell (p := ⟨g, _, none⟩) hg).trans h8, (hb.cell (p := ⟨g, _, none⟩) hg).trans h9, (hb.cell (p := ⟨g, _, none⟩) hg).trans h10, (hb.cell (p := ⟨g, _, none⟩) hg).trans h11, (hb.cell (p := ⟨g, _, none⟩) hg).trans h12, (hb.cell (p := ⟨g, _, none⟩) hg).trans h13, (hb.cell (p := ⟨g, _, none⟩) hg).trans h14, (hb.cell (p := ⟨g, _, none⟩) hg).trans h15⟩
theorem RdC.more (h : RdC W B A l) {B' : Nat} (hB : B ≤ B') : RdC W B' A l := fun j x hx => by
  obtain ⟨g, o, e, hg, h⟩ := h j x hx
  exact ⟨g, o, e, by omega, h⟩
theorem RdC.of_own {c : Nat} {B0 : Nat} (h : OwnC W B0 (.slice A l.length c) l) : RdC W W.heap.size A l := fun j x hx => by
  obtain ⟨g, o, c', e, _, hg, hc⟩ := h.at_ hx
  cases e
  exact ⟨g, o, rfl, hg, (hc 0 _ rfl).1, (hc 1 _ rfl).1, (hc 2 _ rfl).1, (hc 3 _ rfl).1, (hc 4 _ rfl).1, (hc 5 _ rfl).1, (hc 6 _ rfl).1, (hc 7 _ rfl).1, (hc 8 _ rfl).1, (hc 9 _ rfl).1, (hc 10 _ rfl).1, (hc 11 _ rfl).1, (hc 12 _ rfl).1, (hc 13 _ rfl).1, (hc 14 _ rfl).1, (hc 15 _ rfl).1⟩
theorem RdC.of_reads (h : ReadsK W B A 16 (l.map cnE)) : RdC W B A l := fun j x hx => by
  have hj := (List.getElem?_eq_some_iff.1 hx).1
  obtain ⟨g, o, e, hg, hc⟩ := h (by rw [List.length_map]; omega)
  have hr : (l.map cnE)[j]? = some (cnE x) := by rw [List.getElem?_map, hx]; rfl
  exact ⟨g, o, e, hg, hc j _ hr 0 _ rfl, hc j _ hr 1 _ rfl, hc j _ hr 2 _ rfl, hc j _ hr 3 _ rfl, hc j _ hr 4 _ rfl, hc j _ hr 5 _ rfl, hc j _ hr 6 _ rfl, hc j _ hr 7 _ rfl, hc j _ hr 8 _ rfl, hc j _ hr 9 _ rfl, hc j _ hr 10 _ rfl, hc j _ hr 11 _ rfl, hc j _ hr 12 _ rfl, hc j _ hr 13 _ rfl, hc j _ hr 14 _ rfl, hc j _ hr 15 _ rfl⟩
end
theorem RdI3.nil (W : World) (B : Nat) (A : Option Addr) : RdI3 W B A [] := fun j x hx => by simp at hx
theorem RdB.nil (W : World) (B : Nat) (A : Option Addr) : RdB W B A [] := fun j x hx => by simp at hx
theorem RdC.nil (W : World) (B : Nat) (A : Option Addr) : RdC W B A [] := fun j x hx => by simp at hx
end Go.Proofs.YtljaahemlcaffaaGreat
