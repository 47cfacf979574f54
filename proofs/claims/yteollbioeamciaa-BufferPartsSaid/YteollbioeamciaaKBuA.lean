/- BuMem, BuPure, in one text. -/
import Derived.Test.YteollbioeamciaaKPu
import Derived.Test.YteollbioeamciaaKTwo
import Derived.Test.YteollbioeamciaaKPc
namespace Go.Proofs.Yteollbioeamciaa
open Go.RowKit Pz Ar
set_option linter.unusedVariables false
set_option linter.unusedSimpArgs false
namespace Ar
theorem remove_is {t : Tb} {k : NK} {m i : Nat} (h : find t k = some (m, i)) : remove t k = (cut0 t m i, true) := by unfold remove; rw [h]
theorem remove_no {t : Tb} {k : NK} (h : find t k = none) : remove t k = (t, false) := by unfold remove; rw [h]
theorem total_cut {t : Tb} {m i : Nat} (hm : m < 32) (hi : i < (t m).length) : total (cut0 t m i) + 1 = total t := by
  have := total_up t hm (cutL (t m) i)
  rw [cutL_len] at this
  unfold cut0
  omega
theorem find_all {t : Tb} (hg : Good t) {y : Bn} (hy : y ∈ all t) : ∃ m i, m < 32 ∧ find t y.id = some (m, i) ∧ (t m)[i]? = some y ∧ y.m = (m : Int) := by
  obtain ⟨m, i, hm, h⟩ := all_mem hy
  exact ⟨m, i, hm, find_is hg h, h, (hg.ok m y (List.mem_of_getElem? h)).2⟩
section
variable {t t' : Tb} {x y z : Bn} {l : List Bn}
theorem none_of (hg : Good t) {k : NK} (h : ∀ z ∈ all t, z.id ≠ k) : find t k = none := by
  cases hf : find t k with
  | none => rfl
  | some p =>
    obtain ⟨m, i⟩ := p
    obtain ⟨hm, b, hb, e⟩ := find_at hf
    exact absurd e (h b (mem_all hm (List.mem_of_getElem? hb)))
theorem none_all {k : NK} (h : find t k = none) (hz : z ∈ all t) : z.id ≠ k := by
  obtain ⟨m, i, hm, hi⟩ := all_mem hz
  exact find_none h m hm z (List.mem_of_getElem? hi)
theorem all_cut (hg : Good t) {m i : Nat} (hm : m < 32) (hx : (t m)[i]? = some x) : z ∈ all (cut0 t m i) ↔ z ∈ all t ∧ z.id ≠ x.id := by
  have hlt := (List.getElem?_eq_some_iff.1 hx).1
  constructor
  · intro hz
    refine ⟨?_, none_all (cut_gone hg hx) hz⟩
    obtain ⟨a, j, ha, hj⟩ := all_mem hz
    unfold cut0 at hj
    by_cases e : a = m
    · subst e
      rw [up_same] at hj
      rcases (cutL_from hj).2 with ⟨_, h⟩ | ⟨_, h⟩ <;> exact mem_all ha (List.mem_of_getElem? h)
    · rw [up_ne _ _ e] at hj
      exact mem_all ha (List.mem_of_getElem? hj)
  · rintro ⟨hz, hne⟩
    obtain ⟨a, j, ha, hj⟩ := all_mem hz
    refine mem_all ha ?_
    unfold cut0
    by_cases e : a = m
    · subst e
      rw [up_same]
      have hji : j ≠ i := fun e => by subst e; rw [hx] at hj; injection hj with hj; exact hne (by rw [hj])
      have hjl := (List.getElem?_eq_some_iff.1 hj).1
      by_cases hjk : j + 1 < (t a).length
      · refine List.mem_of_getElem? (i := j) ?_
        rw [cutL_get hjk, if_neg hji]; exact hj
      · have : j = (t a).length - 1 := by omega
        subst this
        refine List.mem_of_getElem? (i := i) ?_
        rw [cutL_get (by omega), if_pos rfl]; exact hj
    · rw [up_ne _ _ e]; exact List.mem_of_getElem? hj
/-- just these are there -/
structure Mem (t : Tb) (l : List Bn) : Prop where
  good : Good t
  mem : ∀ z, z ∈ all t ↔ z ∈ l
  tot : total t = l.length
theorem Mem.none : Mem (fun _ => []) [] := ⟨good_none, fun z => ⟨fun h => by
  obtain ⟨m, i, _, hi⟩ := all_mem h
  simp at hi, fun h => by cases h⟩, total_none⟩
theorem Mem.len (h : Mem t l) (m : Nat) : (t m).length ≤ l.length := by
  by_cases hm : m < 32
  · rw [← h.tot]; exact len_total t hm
  · cases e : t m with
    | nil => simp
    | cons a r => exact absurd (h.good.lt (m := m) (b := a) (by rw [e]; exact List.mem_cons_self ..)) hm
end
section
variable {t : Tb} {y : Bn} {l : List Bn}
theorem Mem.gone (h : Mem t (y :: l)) (hy : ∀ z ∈ l, z.id ≠ y.id) : Mem (remove t y.id).1 l := by
  obtain ⟨m, i, hm, hf, hi, _⟩ := find_all h.good ((h.mem y).2 (by simp))
  have hlt := (List.getElem?_eq_some_iff.1 hi).1
  rw [remove_is hf]
  refine ⟨cut_good h.good hlt, fun z => ?_, ?_⟩
  · rw [all_cut h.good hm hi, h.mem, List.mem_cons]
    constructor
    · rintro ⟨rfl | h1, h2⟩
      · exact absurd rfl h2
      · exact h1
    · intro h1
      exact ⟨.inr h1, hy z h1⟩
  · have := total_cut (t := t) hm hlt
    have h2 := h.tot
    simp only [List.length_cons] at h2
    show total (cut0 t m i) = l.length
    omega
theorem Mem.empty (h : Mem t []) (k : NK) : Mem (remove t k).1 [] := by
  rw [remove_no (none_of h.good fun z hz => by have := (h.mem z).1 hz; cases this)]
  exact h
end
end Ar
end Go.Proofs.Yteollbioeamciaa
namespace Go.Proofs.Yteollbioeamciaa
open Go Go.RowKit Pz Ar
set_option linter.unusedVariables false
set_option linter.unusedSimpArgs false

namespace Bu
/-- a deed -/
structure De where
  k : Int
  b : Bn
  m : Int
abbrev De.row (x : De) : List Value := [.int .i64 x.k, .int .i64 x.b.s, .int .i64 x.b.i, .int .i64 x.b.g, .int .i64 x.b.m, .int .i64 x.b.x, .int .i64 x.b.y, .int .i64 x.b.vx, .int .i64 x.b.vy, .int .i64 x.b.h, .int .i64 x.b.p, .int .i64 x.b.l, .int .i64 x.m]
abbrev De.val (x : De) : Value := .agg #[.int .i64 x.k, .int .i64 x.b.s, .int .i64 x.b.i, .int .i64 x.b.g, .int .i64 x.b.m, .int .i64 x.b.x, .int .i64 x.b.y, .int .i64 x.b.vx, .int .i64 x.b.vy, .int .i64 x.b.h, .int .i64 x.b.p, .int .i64 x.b.l, .int .i64 x.m]
/-- who is there of a name -/
def get (t : Tb) (k : NK) : Option Bn := (find t k).bind fun y => (t y.1)[y.2]?
/-- one deed -/
def bdo (t : Tb) (d : De) : Tb × Int :=
  if d.k = 1 then put t d.b
  else if d.k = 2 ∨ d.k = 3 ∨ d.k = 4 then
    match get t d.b.id with
    | none => (t, 6)
    | some x => if d.k = 2 then ((remove t d.b.id).1, 0) else if d.k = 3 then write t (withB x d.b) else write t (withoutB x d.m)
  else (t, 1)
def bdos (t : Tb) (l : List De) : Tb := l.foldl (fun t d => (bdo t d).1) t
def said : Tb → List De → List Int
  | _, [] => []
  | t, d :: r => (bdo t d).2 :: said (bdo t d).1 r
theorem said_len : ∀ (t : Tb) (l : List De), (said t l).length = l.length
  | _, [] => rfl
  | t, d :: r => by simp [said, said_len _ r]
theorem said_app : ∀ (t : Tb) (a b : List De), said t (a ++ b) = said t a ++ said (bdos t a) b
  | _, [], _ => rfl
  | t, d :: r, b => by
    show (bdo t d).2 :: said (bdo t d).1 (r ++ b) = (bdo t d).2 :: (said (bdo t d).1 r ++ said (bdos (bdo t d).1 r) b)
    rw [said_app _ r b]
theorem bdos_app (t : Tb) (a b : List De) : bdos t (a ++ b) = bdos (bdos t a) b := List.foldl_append
theorem take_snoc {l : List De} {j : Nat} {x : De} (hx : l[j]? = some x) : l.take (j + 1) = l.take j ++ [x] := by
  rw [List.take_add_one, hx]; rfl
theorem bdos_take {l : List De} {j : Nat} {x : De} (t : Tb) (hx : l[j]? = some x) : bdos t (l.take (j + 1)) = (bdo (bdos t (l.take j)) x).1 := by
  rw [take_snoc hx, bdos_app]; rfl
theorem said_take {l : List De} {j : Nat} {x : De} (t : Tb) (hx : l[j]? = some x) : said t (l.take (j + 1)) = said t (l.take j) ++ [(bdo (bdos t (l.take j)) x).2] := by
  rw [take_snoc hx, said_app]; rfl
theorem get_find {t : Tb} {k : NK} {x : Bn} (h : get t k = some x) : ∃ m i, m < 32 ∧ find t k = some (m, i) ∧ (t m)[i]? = some x ∧ x.id = k := by
  unfold get at h
  cases hf : find t k with
  | none => rw [hf] at h; cases h
  | some y =>
    obtain ⟨m, i⟩ := y
    rw [hf] at h
    obtain ⟨hm, b, hb, e⟩ := find_at hf
    have h' : (t m)[i]? = some x := h
    rw [hb] at h'
    cases h'
    exact ⟨m, i, hm, rfl, hb, e⟩
theorem find_get {t : Tb} {k : NK} {m i : Nat} {x : Bn} (hf : find t k = some (m, i)) (hx : (t m)[i]? = some x) : get t k = some x := by
  unfold get; rw [hf]; exact hx
theorem get_no {t : Tb} {k : NK} (h : get t k = none) : find t k = none := by
  cases hf : find t k with
  | none => rfl
  | some y =>
    obtain ⟨m, i⟩ := y
    obtain ⟨hm, b, hb, e⟩ := find_at hf
    rw [find_get hf hb] at h; cases h
theorem no_get {t : Tb} {k : NK} (h : find t k = none) : get t k = none := by unfold get; rw [h]; rfl
theorem get_mem {t : Tb} (hg : Ar.Good t) {y : Bn} (hy : y ∈ all t) : get t y.id = some y := by
  obtain ⟨m, i, hm, hf, hx, _⟩ := find_all hg hy
  exact find_get hf hx
theorem mem_get {t : Tb} {k : NK} {x : Bn} (h : get t k = some x) : x ∈ all t ∧ x.id = k := by
  obtain ⟨m, i, hm, hf, hx, e⟩ := get_find h
  exact ⟨mem_all hm (List.mem_of_getElem? hx), e⟩
theorem le_bdo {t : Tb} {n : Nat} (h : Le t n) (d : De) : Le (bdo t d).1 (n + 1) := by
  unfold bdo
  split
  · exact le_put h _
  · split
    · split
      · exact h.mono (Nat.le_succ n)
      · split
        · exact (le_remove h _).mono (Nat.le_succ n)
        · split
          · exact le_write h _
          · exact le_write h _
    · exact h.mono (Nat.le_succ n)
theorem good_bdo {t : Tb} (h : Ar.Good t) (d : De) : Ar.Good (bdo t d).1 := by
  unfold bdo
  split
  · exact h.put _
  · split
    · split
      · exact h
      · split
        · exact h.remove _
        · split
          · exact h.write _
          · exact h.write _
    · exact h
theorem le_bdos : ∀ (l : List De) {t : Tb} {n : Nat}, Le t n → Le (bdos t l) (n + l.length)
  | [], _, _, h => h
  | d :: r, t, n, h => by
    have := le_bdos r (le_bdo h d)
    rw [List.length_cons, show n + (r.length + 1) = n + 1 + r.length by omega]
    exact this
theorem good_bdos : ∀ (l : List De) {t : Tb}, Ar.Good t → Ar.Good (bdos t l)
  | [], _, h => h
  | d :: r, t, h => good_bdos r (good_bdo h d)
abbrev T0 : Tb := fun _ => []
theorem le_few {l : List De} (h : l.length ≤ 60) (j : Nat) : Le (bdos T0 (l.take j)) 60 := (le_bdos (l.take j) le_none).mono (by rw [List.length_take]; omega)
theorem total_few {t : Tb} {n : Nat} (h : Le t n) (hn : n ≤ 300) : total t ≤ 10000 := by have := le_total h; omega
/-! ### a deed that is refused, one that is done -/
theorem put_no {t : Tb} {b : Bn} (h : (put t b).2 ≠ 0) : (put t b).1 = t := by
  unfold put at h ⊢
  split
  · rename_i h1; rw [if_pos h1] at h
    split
    · rfl
    · rename_i h2; rw [if_neg h2] at h; exact absurd rfl h
  · rfl
theorem write_no {t : Tb} {b : Bn} (h : (write t b).2 ≠ 0) : (write t b).1 = t := by
  unfold write at h ⊢
  split
  · rename_i h1; rw [if_pos h1] at h
    split
    · rfl
    · rename_i m i hf
      rw [hf] at h
      dsimp only at h
      split at h <;> exact absurd rfl h
  · rfl
theorem bdo_no {t : Tb} {d : De} (h : (bdo t d).2 ≠ 0) : (bdo t d).1 = t := by
  unfold bdo at h ⊢
  by_cases h1 : d.k = 1
  · rw [if_pos h1] at h ⊢; exact put_no h
  · rw [if_neg h1] at h ⊢
    by_cases h2 : d.k = 2 ∨ d.k = 3 ∨ d.k = 4
    · rw [if_pos h2] at h ⊢
      cases hg : get t d.b.id with
      | none => rfl
      | some x =>
        rw [hg] at h
        dsimp only at h ⊢
        by_cases h3 : d.k = 2
        · rw [if_pos h3] at h; exact absurd rfl h
        · rw [if_neg h3] at h ⊢
          by_cases h4 : d.k = 3
          · rw [if_pos h4] at h ⊢; exact write_no h
          · rw [if_neg h4] at h ⊢; exact write_no h
    · rw [if_neg h2]
theorem write_yes {t : Tb} {b : Bn} (h : (write t b).2 = 0) : may b = true ∧ ∃ m i, find t b.id = some (m, i) := by
  unfold write at h
  split at h
  · rename_i h1
    split at h
    · cases h
    · exact ⟨h1, _, _, by assumption⟩
  · cases h
theorem put_yes {t : Tb} (hg : Ar.Good t) {b : Bn} (h : (put t b).2 = 0) : get t b.id = none ∧ get (put t b).1 b.id = some b ∧ total (put t b).1 = total t + 1 := by
  have hG := hg.put b
  unfold put at h ⊢ hG
  split at h
  · rename_i h1
    rw [if_pos h1] at hG ⊢
    split at h
    · cases h
    · rename_i h2
      rw [if_neg h2] at hG ⊢
      have hf : find t b.id = none := by simpa using h2
      refine ⟨no_get hf, ?_, ?_⟩
      · refine get_mem hG ?_
        have := may_mask h1
        refine mem_all (m := b.m.toNat) (by omega) ?_
        show b ∈ put0 t b b.m.toNat
        unfold put0
        rw [up_same]
        exact List.mem_append_right _ (List.mem_singleton.2 rfl)
      · show total (put0 t b) = _
        have hm := may_mask h1
        have := total_up t (m := b.m.toNat) (by omega) (t b.m.toNat ++ [b])
        unfold put0
        simp only [List.length_append, List.length_singleton] at this
        omega
  · cases h
theorem write_done {t : Tb} (hg : Ar.Good t) {b : Bn} (h : (write t b).2 = 0) : get (write t b).1 b.id = some b ∧ total (write t b).1 = total t := by
  obtain ⟨hm, m, i, hf⟩ := write_yes h
  obtain ⟨⟨M, hM⟩, _⟩ := write_mem hm hf hg
  refine ⟨?_, write_total hm hf⟩
  have hG := hg.write b
  obtain ⟨I, h1, h2⟩ := get_of_mem hG hM
  exact find_get h1 h2
theorem with_id (x b : Bn) : (withB x b).id = x.id := rfl
theorem without_id (x : Bn) (n : Int) : (withoutB x n).id = x.id := rfl
/-- what a deed that is done leaves -/
theorem bdo_yes {t : Tb} (hg : Ar.Good t) {d : De} (h : (bdo t d).2 = 0) :
    (d.k = 1 ∧ get t d.b.id = none ∧ get (bdo t d).1 d.b.id = some d.b ∧ total (bdo t d).1 = total t + 1) ∨
    (d.k = 2 ∧ (∃ x, get t d.b.id = some x) ∧ get (bdo t d).1 d.b.id = none ∧ total (bdo t d).1 + 1 = total t) ∨
    (d.k = 3 ∧ ∃ x, get t d.b.id = some x ∧ get (bdo t d).1 d.b.id = some (withB x d.b) ∧ total (bdo t d).1 = total t) ∨
    (d.k = 4 ∧ ∃ x, get t d.b.id = some x ∧ get (bdo t d).1 d.b.id = some (withoutB x d.m) ∧ total (bdo t d).1 = total t) := by
  unfold bdo at h ⊢
  by_cases h1 : d.k = 1
  · rw [if_pos h1] at h ⊢
    exact .inl ⟨h1, put_yes hg h⟩
  · rw [if_neg h1] at h ⊢
    by_cases h2 : d.k = 2 ∨ d.k = 3 ∨ d.k = 4
    · rw [if_pos h2] at h ⊢
      cases hx : get t d.b.id with
      | none => rw [hx] at h; cases h
      | some x =>
        rw [hx] at h
        dsimp only at h ⊢
        obtain ⟨m, i, hm, hf, hi, hid⟩ := get_find hx
        by_cases h3 : d.k = 2
        · refine .inr (.inl ⟨h3, ⟨x, rfl⟩, ?_⟩)
          rw [if_pos h3]
          show get (remove t d.b.id).1 d.b.id = none ∧ total (remove t d.b.id).1 + 1 = total t
          rw [remove_is hf]
          have := cut_gone hg hi
          rw [hid] at this
          exact ⟨no_get this, total_cut hm (List.getElem?_eq_some_iff.1 hi).1⟩
        · rw [if_neg h3] at h ⊢
          by_cases h4 : d.k = 3
          · rw [if_pos h4] at h ⊢
            have := write_done hg h
            rw [with_id, hid] at this
            exact .inr (.inr (.inl ⟨h4, x, rfl, this⟩))
          · rw [if_neg h4] at h ⊢
            have := write_done hg h
            rw [without_id, hid] at this
            exact .inr (.inr (.inr ⟨by omega, x, rfl, this⟩))
    · rw [if_neg h2] at h
      cases h
/-! ### a deed for each that is met -/
def toE (k m : Int) (e : Bn) : De := ⟨k, e, m⟩
/-- what is said of each -/
def codeE (k m : Int) : Int := if k = 1 then 7 else if k = 3 then 0 else if k = 4 then (if bitB m 0 then 1 else 0) else 1
theorem may_fit {x : Bn} (h : may x = true) : Fit x.m := by have := may_mask h; unfold Fit; omega
theorem with_me {x : Bn} (h : may x = true) : withB x x = x := by
  simp only [withB, ite_self, or_self' (may_fit h)]
theorem write_keeps {t : Tb} (hg : Ar.Good t) {x e : Bn} (he : get t e.id = some e) (hid : x.id = e.id) (hm : may x = true) : (write t x).2 = 0 ∧ total (write t x).1 = total t ∧ ∀ y, get t y.id = some y → y.id ≠ e.id → get (write t x).1 y.id = some y := by
  obtain ⟨m, i, hmm, hf, hi, _⟩ := get_find he
  rw [← hid] at hf
  refine ⟨?_, write_total hm hf, fun y hy hne => ?_⟩
  · rw [write_eq hm hf]; split <;> rfl
  · obtain ⟨M, I, h1, h2⟩ := write_get hm hf hg (mem_get hy).1
    rw [if_neg (by rw [hid]; exact hne)] at h2
    exact find_get h1 h2
/-- one round, of whatever kind but Remove -/
theorem round_keeps {k m : Int} (hk : k ≠ 2) {t : Tb} (hg : Ar.Good t) {e : Bn} (he : get t e.id = some e) :
    (bdo t (toE k m e)).2 = codeE k m ∧ total (bdo t (toE k m e)).1 = total t ∧ ∀ y, get t y.id = some y → y.id ≠ e.id → get (bdo t (toE k m e)).1 y.id = some y := by
  have hm : may e = true := by
    obtain ⟨a, i, ha, hf, hi, _⟩ := get_find he
    exact (hg.ok a e (List.mem_of_getElem? hi)).1
  unfold bdo toE codeE
  dsimp only
  by_cases h1 : k = 1
  · rw [if_pos h1, if_pos h1]
    obtain ⟨a, i, ha, hf, hi, _⟩ := get_find he
    have : put t e = (t, 7) := by unfold put; rw [if_pos hm, hf]; rfl
    rw [this]
    exact ⟨rfl, rfl, fun y hy _ => hy⟩
  · rw [if_neg h1, if_neg h1]
    by_cases h3 : k = 3
    · rw [if_pos (by omega), he, if_pos h3]
      dsimp only
      rw [if_neg hk, if_pos h3, with_me hm]
      exact write_keeps hg he rfl hm
    · rw [if_neg h3]
      by_cases h4 : k = 4
      · rw [if_pos (by omega), he, if_pos h4]
        dsimp only
        rw [if_neg hk, if_neg h3]
        have hmw := may_without hm m
        cases hb : bitB m 0 with
        | true =>
          rw [hb] at hmw
          have : write t (withoutB e m) = (t, 1) := by unfold write; rw [if_neg (by rw [hmw]; decide)]
          rw [this]
          exact ⟨rfl, rfl, fun y hy _ => hy⟩
        | false =>
          rw [hb] at hmw
          exact write_keeps hg he rfl hmw
      · rw [if_neg (by omega), if_neg h4]
        exact ⟨rfl, rfl, fun y hy _ => hy⟩
theorem looks_keeps {k m : Int} (hk : k ≠ 2) : ∀ (L : List Bn) (t : Tb), Ar.Good t → (L.map Bn.id).Nodup → (∀ y ∈ L, get t y.id = some y) → said t (L.map (toE k m)) = L.map (fun _ => codeE k m) ∧ total (bdos t (L.map (toE k m))) = total t
  | [], _, _, _, _ => ⟨rfl, rfl⟩
  | e :: r, t, hg, hn, hy => by
    rw [List.map_cons, List.nodup_cons] at hn
    obtain ⟨h1, h2, h3⟩ := round_keeps (m := m) hk hg (hy e List.mem_cons_self)
    obtain ⟨h4, h5⟩ := looks_keeps (m := m) hk r (bdo t (toE k m e)).1 (good_bdo hg _) hn.2 fun y hy' => h3 y (hy y (List.mem_cons_of_mem _ hy')) fun e' => hn.1 (List.mem_map.2 ⟨y, hy', e'⟩)
    refine ⟨?_, ?_⟩
    · show (bdo t (toE k m e)).2 :: said (bdo t (toE k m e)).1 (r.map (toE k m)) = codeE k m :: r.map (fun _ => codeE k m)
      rw [h1, h4]
    · show total (bdos (bdo t (toE k m e)).1 (r.map (toE k m))) = _
      rw [h5, h2]
theorem looks_gone {m : Int} : ∀ (L : List Bn) (t : Tb), Mem t L → (L.map Bn.id).Nodup → total (bdos t (L.map (toE 2 m))) = 0
  | [], t, h, _ => h.tot
  | e :: r, t, h, hn => by
    rw [List.map_cons, List.nodup_cons] at hn
    have hgone := h.gone fun z hz e' => hn.1 (List.mem_map.2 ⟨z, hz, e'⟩)
    have hx := get_mem h.good ((h.mem e).2 List.mem_cons_self)
    have hb : (bdo t (toE 2 m e)).1 = (remove t e.id).1 := by
      unfold bdo toE
      dsimp only
      rw [if_neg (by decide), if_pos (by omega), hx]
      rfl
    show total (bdos (bdo t (toE 2 m e)).1 (r.map (toE 2 m))) = 0
    rw [hb]
    exact looks_gone r _ hgone hn.2
theorem mem_self {t : Tb} (hg : Ar.Good t) : Mem t (all t) := ⟨hg, fun z => Iff.rfl, (total_all t).symm⟩
/-- the whole: every one that was there is met -/
theorem looks {t : Tb} (hg : Ar.Good t) (k m : Int) : (k ≠ 2 → said t ((all t).map (toE k m)) = (all t).map (fun _ => codeE k m) ∧ total (bdos t ((all t).map (toE k m))) = total t) ∧ (k = 2 → total (bdos t ((all t).map (toE k m))) = 0) := by
  refine ⟨fun hk => looks_keeps hk _ t hg (all_ok hg).apart fun y hy => get_mem hg hy, fun hk => ?_⟩
  subst hk
  exact looks_gone _ t (mem_self hg) (all_ok hg).apart
end Bu
end Go.Proofs.Yteollbioeamciaa
