/- The law IdsOnce: what its rounds leave, and what its appends make of that. -/
import Derived.Test.YtdanpdlbbgcidaaIdHold
import Derived.Test.YtdanpdlbbgcidaaIdOnce
import Derived.Test.YtdanpdlbbgcidaaIdLaw3
namespace Go.Proofs.Ytdanpdlbbgcidaa
open Go.RowKit Ids
set_option linter.unusedVariables false

def boolE (b : Bool) : List Value := [.bool b]
abbrev OwnB (W : World) (B : Nat) (v : Value) (l : List Bool) : Prop := Rw boolE 4 1 W B v l
theorem bool_info : (Try.prog.info? 4).map (fun i => (i.zero, i.size, i.bytes)) = some (some (.bool false), 1, 1) := by kernel_rfl
def gI (x : Gv) : I3 := ((0 : Int), (x.1 : Int), (x.2.1 : Int))
abbrev ido (x : I3) : Obj := .cells #[.int .i64 x.1, .int .i64 x.2.1, .int .i64 x.2.2] 33
theorem rw_other {α β : Type} {e1 : α → List Value} {e2 : β → List Value} {T1 T2 s1 s2 : Nat} {W W' : World} {B1 B2 : Nat} {v u : Value} {l : List α} {k : List β} (h : Rw e1 T1 s1 W B1 v l) (h2 : Rw e2 T2 s2 W B2 u k) (hne : T1 ≠ T2) (hg : W.grownBy W' v.ownBlock) : Rw e2 T2 s2 W' B2 u k :=
  h2.kept fun b hb => by
    obtain ⟨_, c2, g2⟩ := h2.blk hb
    refine hg.block b (heap_lt g2) fun e => ?_
    obtain ⟨_, c1, g1⟩ := h.blk e.symm
    exact ne_type g1 g2 hne rfl
/-- one bool more, behind a new box of it -/
theorem push_bool (W : World) {B : Nat} {v : Value} {l : List Bool} (h : OwnB W B v l) (hB : B ≤ W.heap.size) (hl : l.length ≤ 10000) (x : Bool) (ty : TypeId) :
    ∃ v' w', (Builtin.append_ #[41, 41] ty #[v, .slice (some ⟨W.heap.size, 0, none⟩) 1 1]).run Try.prog (W.alloc (.cells #[.bool x] 4)) = .ok v' w' ∧
      OwnB w' B v' (l ++ [x]) ∧ W.grownBy w' v.ownBlock ∧ (∀ b, v'.ownBlock = some b → v.ownBlock = some b ∨ W.heap.size ≤ b) := by
  have h' : OwnB (W.alloc (.cells #[.bool x] 4)) B v l := h.below (bel1 W _)
  obtain ⟨v', w', hr, ho, hg, hb⟩ := h'.app (P := Try.prog) (t := 41) (ty := ty) Try.underlying41 bool_info rfl (by decide) (fun _ => rfl) (fun y u hu => by
      simp only [boolE, List.mem_singleton] at hu
      subst hu; rfl) (by rw [size1]; omega) [x] ⟨W.heap.size, 0, none⟩ 1 (fun j y hj => by
    match j, hj with
    | 0, hj =>
      simp only [List.getElem?_cons_zero, Option.some.injEq] at hj
      subst hj
      intro c u hu
      have hc : c < 1 := (List.getElem?_eq_some_iff.1 hu).1
      obtain rfl : c = 0 := by omega
      rw [Addr.add_mid, cellAt (heap_alloc_new W _)]
      simpa [boolE] using hu) (by simp; omega) (by decide) (.inl (by simp))
  have hgW : W.grownBy w' v.ownBlock := ⟨hg.os, hg.tape, hg.output, by have := hg.size; rw [size1] at this; omega, fun k hk hne => (hg.block k (by rw [size1]; omega) hne).trans (Below.heap_alloc W _ k hk)⟩
  exact ⟨v', w', hr, ho, hgW, fun b hbb => (hb b hbb).imp id (fun e => by rw [size1] at e; omega)⟩
structure On (w : World) (d r : Nat) (p q : Pl) (m j : Nat) (v u : Value) (K J : St) (G : List Gv) (W : World) : Prop where
  h2 : H2 w d r p q K J (fun W => OwnI W q.hi v (G.map gI) ∧ OwnB W q.hi u (G.map (·.2.2))) W
  inv : Inv K J G
  m : K.m = m
  len : G.length ≤ j
theorem kept_two (B : Nat) (v u : Value) (gs : List I3) (ts : List Bool) : Kept B (fun W => OwnI W B v gs ∧ OwnB W B u ts) := (kept_rw _ _ _).and (kept_rw _ _ _)
/-- the name and whether the second pool is told of it are noted -/
theorem push2 {w W : World} {d r b s : Nat} {p q : Pl} {K J : St} {v u : Value} {gs : List I3} {ts : List Bool} {x : I3}
    (h : H2 w d r p q K J (fun W' => (OwnI W' q.hi v gs ∧ OwnB W' q.hi u ts) ∧ W'.heap[b]? = some (ido x)) W) (hb : q.hi ≤ b) (hvb : ∀ g, v.ownBlock = some g → g < b) (hs : W.heap.size = s) (hl : gs.length ≤ 100 ∧ ts.length ≤ 100) (t : Bool) :
    ∃ v' w1, (∃ A c, v' = .slice A (gs ++ [x]).length c) ∧ Hid ((Builtin.append_ #[40, 40] 40 #[v, .slice (some ⟨s, 0, none⟩) 1 1]).run Try.prog (W.alloc (ido x)) = .ok v' w1) ∧
      ∃ u' w2, (∃ A c, u' = .slice A (ts ++ [t]).length c) ∧ Hid ((Builtin.append_ #[41, 41] 41 #[u, .slice (some ⟨w1.heap.size, 0, none⟩) 1 1]).run Try.prog (w1.alloc (.cells #[.bool t] 4)) = .ok u' w2) ∧
        H2 w d r p q K J (fun W' => (OwnI W' q.hi v' (gs ++ [x]) ∧ OwnB W' q.hi u' (ts ++ [t])) ∧ W'.heap[b]? = some (ido x)) w2 := by
  subst hs
  obtain ⟨⟨o1, o2⟩, o3⟩ := h.own
  have hblt := heap_lt o3
  have hqt := h.qa.top
  obtain ⟨v', w1, r1, o4, g1, _, b1⟩ := push_id W o1 hqt (by omega) x 40
  have o5 : OwnB w1 q.hi u ts := rw_other o1 o2 (by decide) g1
  have o6 : w1.heap[b]? = some (ido x) := (g1.block b hblt (fun e => by have := hvb b e.symm; omega)).trans o3
  have hs1 := g1.size
  obtain ⟨u', w2, r2, o7, g2, _⟩ := push_bool w1 o5 (by omega) (by omega) t 41
  have o8 : OwnI w2 q.hi v' (gs ++ [x]) := rw_other o5 o4 (by decide) g2
  have o9 : w2.heap[b]? = some (ido x) := by
    refine (g2.block b (heap_lt o6) fun e => ?_).trans o6
    obtain ⟨_, c1, e1⟩ := o5.blk e.symm
    exact ne_type e1 o6 (by decide) rfl
  have b2 : Below q.hi w1 w2 := (Below.refl q.hi w1).grown g2 (by omega) (fun k hk => (o5.blk hk).1)
  obtain ⟨A1, c1, f1⟩ := o4.form
  obtain ⟨A2, c2, f2⟩ := o7.form
  exact ⟨v', w1, ⟨A1, c1, f1⟩, Lib.hid r1, u', w2, ⟨A2, c2, f2⟩, Lib.hid r2, h.put (b1.trans b2) ⟨⟨o8, o7⟩, o9⟩ ((kept_two _ _ _ _ _).and (kept_box hb _))⟩
/-- the row of bools, as it is made -/
theorem made_bools (W : World) : (Instr.makeSlice 41 (.int .i64 0) (.int .i64 0)).run Try.prog W = .ok (.slice (some ⟨W.heap.size, 0, none⟩) 0 0) (W.alloc (.cells #[] 4)) := by
  obtain ⟨i, hi, hz, h2, h3⟩ := info_parts bool_info
  have hr := run_make (P := Try.prog) W 41 4 i _ Try.underlying41 hi hz .i64 .i64 0 0 (by omega) (Int.le_refl _) (by rw [h3]; decide) (by decide)
  have e : madeCells (Value.bool false).cells ((0 : Int).toNat * i.size) = #[] := Array.eq_empty_of_size_eq_zero (by rw [size_madeCells]; simp)
  rw [hr, e]
  rfl
theorem own_made {W : World} {B : Nat} (hB : B ≤ W.heap.size) : OwnB (W.alloc (.cells #[] 4)) B (.slice (some ⟨W.heap.size, 0, none⟩) 0 0) [] :=
  .inr ⟨W.heap.size, 0, 0, #[], rfl, hB, at1 W _, Nat.le_refl _, by omega, by simp, fun j x hj => by simp at hj⟩
theorem bool_at {W : World} {B : Nat} {v : Value} {l : List Bool} (h : OwnB W B v l) {j : Nat} (hj : j < l.length) : ∃ g off c, v = .slice (some ⟨g, off, none⟩) l.length c ∧ W.cell? ⟨g, off + j, none⟩ = some (.bool l[j]) := by
  obtain ⟨g, off, c, e, _, _, hc⟩ := h.at_ (List.getElem?_eq_getElem hj)
  have := (hc 0 (.bool l[j]) rfl).1
  rw [Nat.mul_one, Nat.add_zero] at this
  exact ⟨g, off, c, e, this⟩
/-- Free of a name that was given, in the first pool, and in the second one -/
theorem free_given {K J : St} {G : List Gv} (h : Inv K J G) {x : Gv} (hx : x ∈ G) :
    (∃ n : Nat, n ≠ 0 ∧ free K 0 (x.1 : Int) (x.2.1 : Int) = (K, n)) ∨ (free K 0 (x.1 : Int) (x.2.1 : Int) = (freed K 0 x.1, 0) ∧ Inv (freed K 0 x.1) (if x.2.2 then freed J 0 x.1 else J) G ∧ (x.2.2 = true → free J 0 (x.1 : Int) (x.2.1 : Int) = (freed J 0 x.1, 0))) := by
  obtain ⟨hi, hb, _⟩ := h.was x hx
  have hin : In K 0 (x.1 : Int) := ⟨by omega, by rw [h.kn]; decide, by omega, by omega⟩
  cases ha : alive K 0 (x.1 : Int) (x.2.1 : Int) with
  | false =>
    refine .inl ⟨9, by decide, ?_⟩
    unfold free
    rw [if_neg (by rintro (e | e); exact e hin; omega), ha, if_pos rfl]
  | true =>
    obtain ⟨_, h1, h2⟩ := alive_in ha
    rw [Int.toNat_natCast] at h1 h2
    have h1' : x.2.1 = K.gen 0 x.1 := by have : (K.gen 0 x.1 : Int) = (x.2.1 : Int) := h1; omega
    have h2' : taken K 0 x.1 = true := h2
    unfold taken at h2'
    simp only [Bool.and_eq_true, Bool.not_eq_true', decide_eq_true_eq] at h2'
    have hn : x.1 ∉ K.row 0 := fun e => by
      have := List.contains_iff_mem.2 e
      rw [this] at h2'
      exact absurd h2'.1 (by decide)
    exact .inr ⟨free_alive ha, h.freed hx h1' hn, fun ht => free_alive (h.aliveJ hx h1' hn h2'.2 ht)⟩
/-- next, of the first pool -/
theorem next_given {K J : St} {G : List Gv} (h : Inv K J G) (ok : Ok K) (okJ : Ok J) : nextK K 0 = (K, (0, 0, 0), -1, false) ∨
    ∃ i, nextK K 0 = (N1 K 0 i, (0, i, K.gen 0 i), (if K.gen 0 i < K.bnd 0 i then -1 else (i : Int)), true) ∧ (∀ t, Inv (N1 K 0 i) (J1 K J i t) (G ++ [(i, K.gen 0 i, t)])) ∧
      (K.gen 0 i < K.bnd 0 i → setBnd J 0 i (bd K 0 i) = J) ∧ (¬ K.gen 0 i < K.bnd 0 i → reserve J 0 (i : Int) = (setBnd J 0 i (bd K 0 i), 0)) ∧ take (setBnd J 0 i (bd K 0 i)) 0 (i : Int) (K.gen 0 i : Int) = (J1 K J i true, 0) := by
  have hn : 0 < K.n := by rw [h.kn]; decide
  cases hr : K.row 0 with
  | nil => exact .inl (next_nil hn hr)
  | cons i rr =>
    have hm : i ∈ K.row 0 := by rw [hr]; simp
    have hi := ok.lt 0 hn i hm
    have e := next_row hn hr hi
    by_cases hl : K.gen 0 i < bd K 0 i
    · rw [if_pos hl] at e
      refine .inr ⟨i, e, fun t => h.give ok hi hm hl t, fun hg => ?_, fun hg => ?_, h.takeJ hi hm hl⟩
      · refine setBnd_same ?_
        rw [← h.bnd i hi]
        unfold bd
        rw [if_pos hg]
      · refine h.reserveJ okJ hi ?_ hg
        refine Decidable.byContradiction fun hb => ?_
        have := h.le i hi
        unfold bd at hl
        rw [if_neg hg] at hl
        omega
    · rw [if_neg hl] at e
      have hb : K.bnd 0 i ≥ MG := Decidable.byContradiction fun hb => hl (h.first hi (.inl (by omega)))
      rw [if_pos hb] at e
      exact .inl e
end Go.Proofs.Ytdanpdlbbgcidaa
