/- SyPure, SyPure2, in one text. -/
import Derived.Test.YtfmbldjaknjgbaaKPc
import Derived.Test.YtfmbldjaknjgbaaKPu
import Derived.Test.YtfmbldjaknjgbaaKSoA
namespace Go.Proofs.Ytfmbldjaknjgbaa
open Go Pz
set_option linter.unusedVariables false

namespace Sy
abbrev bn0 : Bn := ⟨0, 0, 0, 0, 0, 0, 0, 0, 0, 0, 0⟩
def hurt (b : Bn) (n : Int) : Bn × Bool := if bitB b.m 2 = true ∧ 0 < n then (if b.h ≤ n then (bn0, false) else ({ b with h := b.h - n }, true)) else (b, true)
def age (b : Bn) : Bn × Bool := if bitB b.m 4 = true then (if b.l < 2 then (bn0, false) else ({ b with l := b.l - 1 }, true)) else (b, true)
def near (v n : Int) : Int := if n < v then n else if v < -n then -n else v
def push (V : Int) (b : Bn) : Bn := if bitB b.m 1 = true then { b with x := Rc.clamp (Rc.clamp b.x + near b.vx V), y := Rc.clamp (Rc.clamp b.y + near b.vy V) } else b
def move (C R S V : Int) (b : Bn) : Bn := { push V b with x := Zn.into (push V b).x (C * S), y := Zn.into (push V b).y (R * S) }
def obey (b : Bn) (k : Int) (id : Int × Int × Int) (c : Bn) (m : Int) : Bn × Bool :=
  if id = b.id then (if k = 2 then (bn0, false) else if k = 3 then (withB b c, true) else if k = 4 then (withoutB b m, true) else (b, true)) else (b, true)
/-- does it take from that one? -/
def meets (b : Bn) (r : Int) (c : Bn) : Bool := (decide (c.id ≠ b.id) && bitB c.m 3) && decide (Rc.far b.x b.y c.x c.y ≤ r)
def takes (b : Bn) (r : Int) (sum : Int) (l : List Bn) : Int := l.foldl (fun s c => if meets b r c then Rc.clamp (s + Rc.clamp c.p) else s) sum
def hitOf (r : Int) (own others : List Bn) (b : Bn) : Option ((Int × Int × Int) × Int) :=
  if bitB b.m 2 = true ∧ 0 < takes b r (takes b r 0 own) others then some (b.id, takes b r (takes b r 0 own) others) else none
def hits (r : Int) (own others : List Bn) : List ((Int × Int × Int) × Int) := (sortL Bn.id own).filterMap (hitOf r own others)
theorem clamp_bd (n : Int) : -1073741824 ≤ Rc.clamp n ∧ Rc.clamp n ≤ 1073741824 := by unfold Rc.clamp; omega
theorem takes_bd (b : Bn) (r : Int) : ∀ (l : List Bn) (s : Int), -1073741824 ≤ s ∧ s ≤ 1073741824 → -1073741824 ≤ takes b r s l ∧ takes b r s l ≤ 1073741824
  | [], s, h => h
  | c :: l, s, h => by
    show _ ∧ takes b r (if meets b r c then Rc.clamp (s + Rc.clamp c.p) else s) l ≤ _
    refine takes_bd b r l _ ?_
    dsimp only
    split
    · exact clamp_bd _
    · exact h
theorem takes_take {b : Bn} {r : Int} {l : List Bn} {j : Nat} {c : Bn} (s : Int) (hx : l[j]? = some c) : takes b r s (l.take (j + 1)) = if meets b r c then Rc.clamp (takes b r s (l.take j) + Rc.clamp c.p) else takes b r s (l.take j) := by
  rw [List.take_add_one, hx]
  simp only [takes, Option.toList_some, List.foldl_append, List.foldl_cons, List.foldl_nil]
end Sy
end Go.Proofs.Ytfmbldjaknjgbaa
namespace Go.Proofs.Ytfmbldjaknjgbaa
open Go Pz
set_option linter.unusedVariables false

namespace Sy
theorem takes_none {b : Bn} {r : Int} : ∀ {l : List Bn} (s : Int), (∀ c ∈ l, meets b r c = false) → takes b r s l = s
  | [], s, _ => rfl
  | c :: l, s, h => by
    show takes b r (if meets b r c then _ else s) l = s
    rw [h c List.mem_cons_self]
    exact takes_none s fun x hx => h x (List.mem_cons_of_mem _ hx)
theorem fm_congr {α β : Type} {f g : α → Option β} : ∀ {l : List α}, (∀ x ∈ l, f x = g x) → l.filterMap f = l.filterMap g
  | [], _ => rfl
  | x :: l, h => by
    have ih := fm_congr (l := l) fun y hy => h y (List.mem_cons_of_mem _ hy)
    have hx := h x List.mem_cons_self
    cases hf : f x with
    | none => rw [List.filterMap_cons_none hf, List.filterMap_cons_none (hx ▸ hf), ih]
    | some y => rw [List.filterMap_cons_some hf, List.filterMap_cons_some (hx ▸ hf), ih]
theorem hits_far {r : Int} {own far : List Bn} (h : ∀ b ∈ own, ∀ c ∈ far, meets b r c = false) : hits r own far = hits r own [] := by
  unfold hits
  refine fm_congr fun b hb => ?_
  have hb' := (sortL_srt (κ := Bn.id) own).2.mem hb
  unfold hitOf
  rw [takes_none _ (h b hb')]
  rfl
/-- what one takes from one -/
def share (b : Bn) (r : Int) (c : Bn) : Int := if meets b r c then c.p else 0
def shares (b : Bn) (r : Int) (l : List Bn) : Int := (l.map (share b r)).sum
theorem shares_app (b : Bn) (r : Int) (l m : List Bn) : shares b r (l ++ m) = shares b r l + shares b r m := by
  unfold shares; rw [List.map_append, List.sum_append]
theorem may_power {c : Bn} (h : may c = true) : 0 ≤ c.p ∧ c.p ≤ 1024 := by
  unfold may at h
  simp only [Bool.and_eq_true] at h
  have hr := right_parts h.1.2
  have hp := hr.2.2.2.2.2.2.1
  unfold inB at hp
  split at hp
  · simp only [Bool.and_eq_true, decide_eq_true_eq] at hp
    omega
  · simp only [decide_eq_true_eq] at hp
    omega
theorem share_bd {c : Bn} (h : may c = true) (b : Bn) (r : Int) : 0 ≤ share b r c ∧ share b r c ≤ 1024 := by
  have := may_power h
  unfold share
  split <;> omega
theorem takes_sum {b : Bn} {r : Int} : ∀ {l : List Bn} (s : Int), (∀ c ∈ l, may c = true) → 0 ≤ s → s + 1024 * l.length ≤ 1073741824 → takes b r s l = s + shares b r l
  | [], s, _, _, _ => by simp [takes, shares]
  | c :: l, s, h, h0, h1 => by
    have hc := may_power (h c List.mem_cons_self)
    have hs := share_bd (h c List.mem_cons_self) b r
    rw [List.length_cons] at h1
    have e : (if meets b r c then Rc.clamp (s + Rc.clamp c.p) else s) = s + share b r c := by
      unfold share
      split
      · have e1 : Rc.clamp c.p = c.p := by unfold Rc.clamp; omega
        rw [e1]
        unfold Rc.clamp
        omega
      · omega
    show takes b r (if meets b r c then _ else s) l = _
    rw [e, takes_sum (s + share b r c) (fun x hx => h x (List.mem_cons_of_mem _ hx)) (by omega) (by omega)]
    show _ = s + ((share b r c) + (l.map (share b r)).sum)
    unfold shares
    omega
/-- what is told of one in a list of hits -/
def sumH (l : List ((Int × Int × Int) × Int)) (id : Int × Int × Int) : Int := ((l.filter fun x => decide (x.1 = id)).map (·.2)).sum
theorem sumH_nil (id : Int × Int × Int) : sumH [] id = 0 := rfl
theorem sumH_app (a b : List ((Int × Int × Int) × Int)) (id : Int × Int × Int) : sumH (a ++ b) id = sumH a id + sumH b id := by
  unfold sumH; rw [List.filter_append, List.map_append, List.sum_append]
/-- a function that gives each at most one hit, of its own name -/
def Named (f : Bn → Option ((Int × Int × Int) × Int)) : Prop := ∀ b x, f b = some x → x.1 = b.id
theorem hitOf_named (r : Int) (own others : List Bn) : Named (hitOf r own others) := fun b x h => by
  unfold hitOf at h
  split at h
  · cases h; rfl
  · cases h
theorem filter_named {f : Bn → Option ((Int × Int × Int) × Int)} (hf : Named f) (id : Int × Int × Int) : ∀ l : List Bn, (l.filterMap f).filter (fun x => decide (x.1 = id)) = (flt Bn.id id l).filterMap f
  | [] => rfl
  | b :: l => by
    have ih := filter_named hf id l
    unfold flt at ih ⊢
    cases hb : f b with
    | none =>
      rw [List.filterMap_cons_none hb, ih, List.filter_cons]
      split
      · rw [List.filterMap_cons_none hb]
      · rfl
    | some x =>
      rw [List.filterMap_cons_some hb, List.filter_cons, List.filter_cons, hf b x hb]
      split
      · rw [List.filterMap_cons_some hb, ih]
      · exact ih
theorem perm_sum {l m : List Int} (h : l.Perm m) : l.sum = m.sum := by
  induction h with
  | nil => rfl
  | cons x _ ih => rw [List.sum_cons, List.sum_cons, ih]
  | swap x y l => rw [List.sum_cons, List.sum_cons, List.sum_cons, List.sum_cons]; omega
  | trans _ _ h1 h2 => exact h1.trans h2
open Classical in
theorem alike_perm {l m : List Bn} (h : Pz.Alike Bn.id l m) : l.Perm m := List.perm_iff_count.2 fun x => by
  have e : ∀ k : List Bn, List.count x k = List.count x (flt Bn.id x.id k) := fun k => by
    unfold flt
    rw [List.count_filter (by simp)]
  rw [e l, e m, h]
theorem sort_perm (l : List Bn) : (sortL Bn.id l).Perm l := alike_perm (sortL_srt l).2
/-- .. of parts of them -/
theorem splits {r : Int} {l a b : List Bn} (hp : l.Perm (a ++ b)) (hm : ∀ c ∈ l, may c = true) (hn : l.length ≤ 60) :
    (∀ id, sumH (hits r l []) id = sumH (hits r a b) id + sumH (hits r b a) id) ∧ (hits r l []).length = (hits r a b).length + (hits r b a).length := by
  have hl : l.length = a.length + b.length := by rw [hp.length_eq, List.length_append]
  have ha : ∀ c ∈ a, may c = true := fun c hc => hm c (hp.mem_iff.2 (List.mem_append_left _ hc))
  have hb : ∀ c ∈ b, may c = true := fun c hc => hm c (hp.mem_iff.2 (List.mem_append_right _ hc))
  have sh : ∀ x, shares x r l = shares x r a + shares x r b := fun x => by
    rw [← shares_app]
    exact perm_sum (hp.map _)
  have sp : ∀ (x : Bn) {k : List Bn}, (∀ c ∈ k, may c = true) → 0 ≤ shares x r k ∧ shares x r k ≤ 1024 * k.length := fun x k hk => by
    induction k with
    | nil => simp [shares]
    | cons c k ih =>
      have h1 := share_bd (hk c List.mem_cons_self) x r
      have h2 := ih fun y hy => hk y (List.mem_cons_of_mem _ hy)
      have e : shares x r (c :: k) = share x r c + shares x r k := by simp [shares]
      rw [e, List.length_cons]
      omega
  obtain ⟨f, hf⟩ : ∃ f : Bn → Option ((Int × Int × Int) × Int), f = fun x => if bitB x.m 2 = true ∧ 0 < shares x r l then some (x.id, shares x r l) else none := ⟨_, rfl⟩
  have fn : Named f := fun x y h => by
    rw [hf] at h
    dsimp only at h
    split at h
    · cases h; rfl
    · cases h
  have e0 : hits r l [] = (sortL Bn.id l).filterMap f := by
    unfold hits
    refine fm_congr fun x _ => ?_
    have t : takes x r (takes x r 0 l) [] = shares x r l := by
      show takes x r 0 l = _
      rw [takes_sum 0 hm (by omega) (by omega)]
      omega
    unfold hitOf
    rw [t, hf]
  have e1 : hits r a b = (sortL Bn.id a).filterMap f := by
    unfold hits
    refine fm_congr fun x _ => ?_
    have t : takes x r (takes x r 0 a) b = shares x r l := by
      have s1 := sp x ha
      rw [takes_sum 0 ha (by omega) (by omega), takes_sum _ hb (by omega) (by omega), sh]
      omega
    unfold hitOf
    rw [t, hf]
  have e2 : hits r b a = (sortL Bn.id b).filterMap f := by
    unfold hits
    refine fm_congr fun x _ => ?_
    have t : takes x r (takes x r 0 b) a = shares x r l := by
      have s1 := sp x hb
      rw [takes_sum 0 hb (by omega) (by omega), takes_sum _ ha (by omega) (by omega), sh]
      omega
    unfold hitOf
    rw [t, hf]
  rw [e0, e1, e2]
  refine ⟨fun id => ?_, ?_⟩
  · have key : ∀ k : List Bn, sumH ((sortL Bn.id k).filterMap f) id = (((flt Bn.id id k).filterMap f).map (·.2)).sum := fun k => by
      unfold sumH
      rw [filter_named fn, (sortL_srt k).2 id]
    rw [key l, key a, key b, ← List.sum_append, ← List.map_append, ← List.filterMap_append, ← flt_app]
    exact perm_sum ((List.Perm.filterMap f (hp.filter _)).map _)
  · rw [(List.Perm.filterMap f (sort_perm l)).length_eq, (List.Perm.filterMap f (sort_perm a)).length_eq, (List.Perm.filterMap f (sort_perm b)).length_eq, ← List.length_append, ← List.filterMap_append]
    exact (List.Perm.filterMap f hp).length_eq
end Sy
end Go.Proofs.Ytfmbldjaknjgbaa
