/- No name is given twice: what two pools of one shard and the names that were given have to do with one another. Nothing of the program. -/
import Derived.Test.YtdanpdlbbgcidaaIdTwo
namespace Go.Proofs.Ytdanpdlbbgcidaa
set_option linter.unusedVariables false
namespace Ids
/-- a name of shard 0 that was given: its index, its generation, and whether the second pool was told of it -/
abbrev Gv := Nat × Nat × Bool
structure Inv (K J : St) (G : List Gv) : Prop where
  kn : K.n = 1
  jn : J.n = 1
  km : K.m = J.m
  bnd : ∀ i, i < K.m → K.bnd 0 i = J.bnd 0 i
  le : ∀ i, i < K.m → K.gen 0 i ≤ K.bnd 0 i
  was : ∀ x ∈ G, x.1 < K.m ∧ x.2.1 < K.bnd 0 x.1 ∧ (x.2.1 < K.gen 0 x.1 ∨ (x.2.1 = K.gen 0 x.1 ∧ x.1 ∉ K.row 0))
  free : ∀ i, i < K.m → i ∈ J.row 0 → J.gen 0 i ≤ K.gen 0 i
  held : ∀ i, i < K.m → i ∉ J.row 0 → i ∉ K.row 0 ∧ J.gen 0 i = K.gen 0 i
  told : ∀ x ∈ G, x.2.2 = true → x.2.1 = K.gen 0 x.1 → x.1 ∉ K.row 0 → x.1 ∉ J.row 0
  only : ∀ x ∈ G, x.1 ∉ J.row 0 → x.2.1 = K.gen 0 x.1 → x.2.2 = true
theorem inv_new (m : Nat) : Inv (new 1 m) (new 1 m) [] :=
  ⟨rfl, rfl, rfl, fun _ _ => rfl, fun _ _ => Nat.le_refl _, fun x hx => by (cases hx), fun _ _ _ => Nat.le_refl _, fun i hi hn => absurd (List.mem_range.2 hi) hn, fun x hx => by (cases hx), fun x hx => by (cases hx)⟩
theorem bd_ge (K : St) (ok : Ok K) (k i : Nat) : K.bnd k i ≤ bd K k i := by
  unfold bd
  split
  · exact Nat.le_refl _
  · have := ok.bnd k i; omega
section
variable {K J : St} {G : List Gv}
/-- who is first is given, if anything is -/
theorem Inv.first (h : Inv K J G) {i : Nat} (hi : i < K.m) (hb : K.bnd 0 i < MG ∨ K.gen 0 i < K.bnd 0 i) : K.gen 0 i < bd K 0 i := by
  have := h.le i hi
  unfold bd
  split
  · assumption
  · omega
theorem N1_gen (K : St) (i a b : Nat) : (N1 K 0 i).gen a b = K.gen a b := by
  show up2 K.gen 0 i (K.gen 0 i) a b = K.gen a b
  unfold up2
  split
  · rename_i e; rw [e.1, e.2]
  · rfl
theorem N1_row (K : St) (i : Nat) : (N1 K 0 i).row 0 = (K.row 0).filter fun x => x != i := by
  show up1 K.row 0 ((K.row 0).filter fun x => x != i) 0 = _
  rw [up1_same]
theorem N1_bnd (K : St) (i b : Nat) : (N1 K 0 i).bnd 0 b = if b = i then bd K 0 i else K.bnd 0 b := by
  show up2 K.bnd 0 i (bd K 0 i) 0 b = _
  unfold up2
  by_cases e : b = i
  · rw [if_pos ⟨rfl, e⟩, if_pos e]
  · rw [if_neg (fun h => e h.2), if_neg e]
theorem mem_N1 {K : St} {i b : Nat} : b ∈ (N1 K 0 i).row 0 ↔ b ∈ K.row 0 ∧ b ≠ i := by
  rw [N1_row, List.mem_filter]; simp
/-- what the second pool is, that was told of the block and of the name, or of the block alone -/
def J1 (K J : St) (i : Nat) (t : Bool) : St := if t then give (setBnd J 0 i (bd K 0 i)) 0 i (K.gen 0 i) else setBnd J 0 i (bd K 0 i)
theorem J1_bnd (K J : St) (i : Nat) (t : Bool) (b : Nat) : (J1 K J i t).bnd 0 b = if b = i then bd K 0 i else J.bnd 0 b := by
  have : (J1 K J i t).bnd = up2 J.bnd 0 i (bd K 0 i) := by unfold J1; split <;> rfl
  rw [this]
  unfold up2
  by_cases e : b = i
  · rw [if_pos ⟨rfl, e⟩, if_pos e]
  · rw [if_neg (fun h => e h.2), if_neg e]
theorem J1_nm (K J : St) (i : Nat) (t : Bool) : (J1 K J i t).n = J.n ∧ (J1 K J i t).m = J.m := by unfold J1; split <;> exact ⟨rfl, rfl⟩
theorem J1_row (K J : St) (i : Nat) (t : Bool) (b : Nat) : b ∈ (J1 K J i t).row 0 ↔ b ∈ J.row 0 ∧ (t = true → b ≠ i) := by
  unfold J1
  cases t with
  | true =>
    rw [if_pos rfl]
    show b ∈ up1 J.row 0 ((J.row 0).filter fun x => x != i) 0 ↔ _
    rw [up1_same, List.mem_filter]; simp
  | false =>
    rw [if_neg (by decide)]
    show b ∈ J.row 0 ↔ _
    simp
theorem J1_gen (K J : St) (i : Nat) (t : Bool) (b : Nat) : (J1 K J i t).gen 0 b = if t = true ∧ b = i then K.gen 0 i else J.gen 0 b := by
  unfold J1
  cases t with
  | true =>
    rw [if_pos rfl]
    show up2 J.gen 0 i (K.gen 0 i) 0 b = _
    unfold up2
    by_cases e : b = i
    · rw [if_pos ⟨rfl, e⟩, if_pos ⟨rfl, e⟩]
    · rw [if_neg (fun h => e h.2), if_neg (fun h => e h.2)]
  | false =>
    rw [if_neg (by decide), if_neg (fun h => by cases h.1)]
    rfl
/-- a name more is given, of an index that was free -/
theorem Inv.give (h : Inv K J G) (ok : Ok K) {i : Nat} (hi : i < K.m) (hr : i ∈ K.row 0) (hl : K.gen 0 i < bd K 0 i) (t : Bool) : Inv (N1 K 0 i) (J1 K J i t) (G ++ [(i, K.gen 0 i, t)]) := by
  have hbd : ∀ b, b < K.m → K.bnd 0 b ≤ (N1 K 0 i).bnd 0 b := fun b hb => by
    rw [N1_bnd]; split
    · rename_i e; rw [e]; exact bd_ge K ok 0 i
    · exact Nat.le_refl _
  have hji : i ∈ J.row 0 := Decidable.byContradiction fun hn => (h.held i hi hn).1 hr
  refine ⟨h.kn, (J1_nm ..).1.trans h.jn, h.km.trans (J1_nm ..).2.symm, fun b hb => ?_, fun b hb => ?_, fun x hx => ?_, fun b hb hm => ?_, fun b hb hm => ?_, fun x hx ht hg hn => ?_, fun x hx hn hg => ?_⟩
  · rw [N1_bnd, J1_bnd, h.bnd b hb]
  · rw [N1_gen]; exact Nat.le_trans (h.le b hb) (hbd b hb)
  · rcases List.mem_append.1 hx with hx | hx
    · obtain ⟨h1, h2, h3⟩ := h.was x hx
      refine ⟨h1, Nat.lt_of_lt_of_le h2 (hbd _ h1), ?_⟩
      rw [N1_gen, mem_N1]
      rcases h3 with h3 | ⟨h3, h4⟩
      · exact .inl h3
      · exact .inr ⟨h3, fun e => h4 e.1⟩
    · obtain rfl : x = (i, K.gen 0 i, t) := by simpa using hx
      refine ⟨hi, ?_, .inr ⟨(N1_gen ..).symm, fun e => (mem_N1.1 e).2 rfl⟩⟩
      rw [N1_bnd, if_pos rfl]; exact hl
  · rw [N1_gen, J1_gen]
    have := (J1_row ..).1 hm
    split
    · rename_i e; rw [e.2]; exact Nat.le_refl _
    · exact h.free b hb this.1
  · rw [J1_row] at hm
    rw [mem_N1, N1_gen, J1_gen]
    by_cases hb2 : b ∈ J.row 0
    · have ht : t = true ∧ b = i := by
        refine Decidable.byContradiction fun e => hm ⟨hb2, fun ht hbi => e ⟨ht, hbi⟩⟩
      rw [if_pos ht, ht.2]
      exact ⟨fun e => e.2 rfl, rfl⟩
    · obtain ⟨h1, h2⟩ := h.held b hb hb2
      refine ⟨fun e => h1 e.1, ?_⟩
      rw [if_neg (fun e => hb2 (by rw [e.2]; exact hji))]
      exact h2
  · rw [J1_row]
    rw [N1_gen] at hg
    rintro ⟨e1, e2⟩
    rcases List.mem_append.1 hx with hx | hx
    · have h3 := (h.was x hx).2.2
      by_cases hxi : x.1 = i
      · rw [hxi] at h3 hg
        rcases h3 with h3 | ⟨_, h3⟩
        · omega
        · exact h3 hr
      · rw [mem_N1] at hn
        exact h.told x hx ht hg (fun e => hn ⟨e, hxi⟩) e1
    · obtain rfl : x = (i, K.gen 0 i, t) := by simpa using hx
      exact e2 ht rfl
  · rw [J1_row] at hn
    rw [N1_gen] at hg
    rcases List.mem_append.1 hx with hx | hx
    · have h3 := (h.was x hx).2.2
      by_cases hxi : x.1 = i
      · rw [hxi] at h3 hg
        rcases h3 with h3 | ⟨_, h3⟩
        · omega
        · exact absurd hr h3
      · exact h.only x hx (fun e => hn ⟨e, fun _ => hxi⟩) hg
    · obtain rfl : x = (i, K.gen 0 i, t) := by simpa using hx
      refine Decidable.byContradiction fun ht => hn ⟨hji, fun e => absurd e ht⟩
/-- the second pool sets the block aside, too -/
theorem Inv.reserveJ (h : Inv K J G) (okJ : Ok J) {i : Nat} (hi : i < K.m) (hb : K.bnd 0 i < MG) (hl : ¬ K.gen 0 i < K.bnd 0 i) : reserve J 0 (i : Int) = (setBnd J 0 i (bd K 0 i), 0) := by
  have hin : In J 0 (i : Int) := ⟨by omega, by rw [h.jn]; decide, by omega, by rw [← h.km]; omega⟩
  unfold reserve
  rw [if_pos hin]
  show (if J.bnd 0 (i : Int).toNat ≥ MG then _ else (setBnd J 0 (i : Int).toNat (min (J.bnd 0 (i : Int).toNat + 8) MG), 0)) = _
  rw [Int.toNat_natCast, ← h.bnd i hi, if_neg (by omega)]
  unfold bd
  rw [if_neg hl]
theorem setBnd_same {J : St} {i v : Nat} (h : J.bnd 0 i = v) : setBnd J 0 i v = J := by subst h; exact setBnd_self J 0 i
/-- the second pool is told of the name -/
theorem Inv.takeJ (h : Inv K J G) {i : Nat} (hi : i < K.m) (hr : i ∈ K.row 0) (hl : K.gen 0 i < bd K 0 i) : take (setBnd J 0 i (bd K 0 i)) 0 (i : Int) (K.gen 0 i : Int) = (J1 K J i true, 0) := by
  have hji : i ∈ J.row 0 := Decidable.byContradiction fun hn => (h.held i hi hn).1 hr
  have hin : In (setBnd J 0 i (bd K 0 i)) 0 (i : Int) := ⟨by omega, by show (0 : Int) < (J.n : Int); rw [h.jn]; decide, by omega, by show (i : Int) < (J.m : Int); rw [← h.km]; omega⟩
  unfold take
  rw [if_neg (by rintro (e | e); exact e hin; omega)]
  show (if (J.row 0).contains (i : Int).toNat = false then _ else if (K.gen 0 i : Int) < (J.gen 0 (i : Int).toNat : Int) ∨ (up2 J.bnd 0 i (bd K 0 i) 0 (i : Int).toNat : Int) ≤ (K.gen 0 i : Int) then _ else (Ids.give (setBnd J 0 i (bd K 0 i)) 0 (i : Int).toNat (K.gen 0 i : Int).toNat, 0)) = _
  rw [Int.toNat_natCast, Int.toNat_natCast, List.contains_iff_mem.2 hji, if_neg (by decide), up2_same, if_neg (by have := h.free i hi hji; omega)]
  rfl
theorem freed_gen (K : St) (i b : Nat) : (freed K 0 i).gen 0 b = if b = i then K.gen 0 i + 1 else K.gen 0 b := by
  have : (freed K 0 i).gen = up2 K.gen 0 i (K.gen 0 i + 1) := by unfold freed; split <;> rfl
  rw [this]
  unfold up2
  by_cases e : b = i
  · rw [if_pos ⟨rfl, e⟩, if_pos e]
  · rw [if_neg (fun h => e h.2), if_neg e]
theorem freed_bnd (K : St) (i : Nat) : (freed K 0 i).bnd = K.bnd := by unfold freed; split <;> rfl
theorem freed_nm (K : St) (i : Nat) : (freed K 0 i).n = K.n ∧ (freed K 0 i).m = K.m := by unfold freed; split <;> exact ⟨rfl, rfl⟩
theorem freed_row (K : St) (i b : Nat) : b ∈ (freed K 0 i).row 0 ↔ b ∈ K.row 0 ∨ (b = i ∧ K.gen 0 i + 1 < MG) := by
  unfold freed
  split
  · rename_i e
    show b ∈ up1 K.row 0 (K.row 0 ++ [i]) 0 ↔ _
    rw [up1_same, List.mem_append, List.mem_singleton]
    exact ⟨fun h => h.imp id fun h => ⟨h, e⟩, fun h => h.imp id fun h => h.1⟩
  · rename_i e
    show b ∈ K.row 0 ↔ _
    exact ⟨.inl, fun h => h.resolve_right fun h => e h.2⟩
/-- a name is taken back, in the second pool too, if that was told of it -/
theorem Inv.freed (h : Inv K J G) {x : Gv} (hx : x ∈ G) (hg : x.2.1 = K.gen 0 x.1) (hn : x.1 ∉ K.row 0) : Inv (freed K 0 x.1) (if x.2.2 then freed J 0 x.1 else J) G := by
  obtain ⟨hi, hb, _⟩ := h.was x hx
  have hjm : (if x.2.2 then Ids.freed J 0 x.1 else J).n = J.n ∧ (if x.2.2 then Ids.freed J 0 x.1 else J).m = J.m ∧ (if x.2.2 then Ids.freed J 0 x.1 else J).bnd = J.bnd := by
    split
    · exact ⟨(freed_nm J x.1).1, (freed_nm J x.1).2, freed_bnd J x.1⟩
    · exact ⟨rfl, rfl, rfl⟩
  have key : (x.2.2 = true ∧ x.1 ∉ J.row 0 ∧ J.gen 0 x.1 = K.gen 0 x.1) ∨ (x.2.2 = false ∧ x.1 ∈ J.row 0 ∧ J.gen 0 x.1 ≤ K.gen 0 x.1) := by
    cases ht : x.2.2 with
    | true =>
      have := h.told x hx ht hg hn
      exact .inl ⟨rfl, this, (h.held _ hi this).2⟩
    | false =>
      have : x.1 ∈ J.row 0 := Decidable.byContradiction fun e => by
        have := h.only x hx e hg
        rw [ht] at this; cases this
      exact .inr ⟨rfl, this, h.free _ hi this⟩
  refine ⟨(freed_nm ..).1.trans h.kn, hjm.1.trans h.jn, (freed_nm ..).2.trans (h.km.trans hjm.2.1.symm), fun b hb' => ?_, fun b hb' => ?_, fun y hy => ?_, fun b hb' hm => ?_, fun b hb' hm => ?_, fun y hy ht hyg hyn => ?_, fun y hy hyn hyg => ?_⟩
  · rw [(freed_nm K x.1).2] at hb'
    rw [freed_bnd, hjm.2.2]; exact h.bnd b hb'
  · rw [(freed_nm K x.1).2] at hb'
    rw [freed_bnd, freed_gen]
    split
    · rename_i e; rw [e]; omega
    · exact h.le b hb'
  · obtain ⟨h1, h2, h3⟩ := h.was y hy
    refine ⟨by rw [(freed_nm K x.1).2]; exact h1, by rw [freed_bnd]; exact h2, ?_⟩
    rw [freed_gen, freed_row]
    by_cases e : y.1 = x.1
    · rw [if_pos e]
      rw [e] at h3
      exact .inl (by omega)
    · rw [if_neg e]
      rcases h3 with h3 | ⟨h3, h4⟩
      · exact .inl h3
      · exact .inr ⟨h3, fun e2 => e2.elim h4 fun e2 => e e2.1⟩
  · rw [(freed_nm K x.1).2] at hb'
    rw [freed_gen]
    by_cases e : b = x.1
    · subst e
      rw [if_pos rfl]
      rcases key with ⟨k1, k2, k3⟩ | ⟨k1, k2, k3⟩
      · rw [if_pos k1, freed_gen, if_pos rfl, k3]; exact Nat.le_refl _
      · rw [if_neg (by rw [k1]; decide)]; omega
    · rw [if_neg e]
      rcases key with ⟨k1, k2, k3⟩ | ⟨k1, k2, k3⟩
      · rw [if_pos k1] at hm ⊢
        rw [freed_gen, if_neg e]
        exact h.free b hb' (((freed_row ..).1 hm).resolve_right fun e2 => e e2.1)
      · rw [if_neg (by rw [k1]; decide)] at hm ⊢
        exact h.free b hb' hm
  · rw [(freed_nm K x.1).2] at hb'
    rw [freed_gen, freed_row]
    rcases key with ⟨k1, k2, k3⟩ | ⟨k1, k2, k3⟩
    · rw [if_pos k1] at hm ⊢
      rw [freed_row] at hm
      rw [freed_gen]
      by_cases e : b = x.1
      · subst e
        rw [if_pos rfl, if_pos rfl, k3]
        refine ⟨fun e2 => e2.elim hn fun e2 => hm (.inr ⟨rfl, by rw [k3]; exact e2.2⟩), rfl⟩
      · rw [if_neg e, if_neg e]
        obtain ⟨q1, q2⟩ := h.held b hb' (fun e2 => hm (.inl e2))
        exact ⟨fun e2 => e2.elim q1 fun e2 => e e2.1, q2⟩
    · rw [if_neg (by rw [k1]; decide)] at hm ⊢
      by_cases e : b = x.1
      · subst e; exact absurd k2 hm
      · rw [if_neg e]
        obtain ⟨q1, q2⟩ := h.held b hb' hm
        exact ⟨fun e2 => e2.elim q1 fun e2 => e e2.1, q2⟩
  · have h3 := (h.was y hy).2.2
    rw [freed_gen] at hyg
    rw [freed_row] at hyn
    by_cases e : y.1 = x.1
    · rw [if_pos e] at hyg
      rw [e] at h3
      omega
    · rw [if_neg e] at hyg
      have h4 := h.told y hy ht hyg (fun e2 => hyn (.inl e2))
      split
      · rw [freed_row]
        exact fun e2 => e2.elim h4 fun e2 => e e2.1
      · exact h4
  · have h3 := (h.was y hy).2.2
    rw [freed_gen] at hyg
    by_cases e : y.1 = x.1
    · rw [if_pos e] at hyg
      rw [e] at h3
      omega
    · rw [if_neg e] at hyg
      refine h.only y hy (fun e2 => hyn ?_) hyg
      split
      · rw [freed_row]; exact .inl e2
      · exact e2
theorem Inv.aliveJ (h : Inv K J G) {x : Gv} (hx : x ∈ G) (hg : x.2.1 = K.gen 0 x.1) (hn : x.1 ∉ K.row 0) (hm : K.gen 0 x.1 < MG) (ht : x.2.2 = true) : alive J 0 (x.1 : Int) (x.2.1 : Int) = true := by
  obtain ⟨hi, hb, _⟩ := h.was x hx
  have h1 := h.told x hx ht hg hn
  have h2 := (h.held _ hi h1).2
  unfold alive
  have hin : In J 0 (x.1 : Int) := ⟨by omega, by rw [h.jn]; decide, by omega, by rw [← h.km]; omega⟩
  rw [if_pos hin]
  show (decide ((J.gen 0 (x.1 : Int).toNat : Int) = (x.2.1 : Int)) && (!(J.row 0).contains (x.1 : Int).toNat && decide (J.gen 0 (x.1 : Int).toNat < MG))) = true
  rw [Int.toNat_natCast, h2, hg, decide_eq_true rfl, decide_eq_true hm]
  have : (J.row 0).contains x.1 = false := by
    rw [← Bool.not_eq_true]
    exact fun e => h1 (List.contains_iff_mem.1 e)
  rw [this]; rfl
end
/-- behind the lapse: no name that was given comes again -/
structure Aft (J : St) (G : List Gv) : Prop where
  jn : J.n = 1
  ahead : ∀ x ∈ G, x.1 ∈ J.row 0 → x.2.1 < J.gen 0 x.1
theorem Inv.lapse {K J : St} {G : List Gv} (h : Inv K J G) : Aft (Ids.lapse J).1 G := by
  refine ⟨h.jn, fun x hx hm => ?_⟩
  have hr : (Ids.lapse J).1.row 0 = (J.row 0).filter fun i => decide (lapG J 0 i < MG) := by
    show (if 0 < J.n then _ else _ : List Nat) = _
    rw [if_pos (by rw [h.jn]; decide)]
  have hg : (Ids.lapse J).1.gen 0 x.1 = lapG J 0 x.1 := by
    show (if 0 < J.n then _ else _ : Nat) = _
    rw [if_pos (by rw [h.jn]; decide)]
  rw [hr, List.mem_filter] at hm
  rw [hg]
  obtain ⟨h1, h2, _⟩ := h.was x hx
  rw [h.bnd _ h1] at h2
  unfold lapG
  split
  · exact h2
  · rename_i e
    have : ¬ J.gen 0 x.1 < J.bnd 0 x.1 := fun e2 => e ⟨hm.1, e2⟩
    omega
section
variable {J : St} {G : List Gv}
theorem Aft.give (h : Aft J G) (i : Nat) : Aft (N1 J 0 i) G := ⟨h.jn, fun x hx hm => by
  rw [N1_gen]; exact h.ahead x hx (mem_N1.1 hm).1⟩
theorem Aft.bnd (h : Aft J G) (i v : Nat) : Aft (setBnd J 0 i v) G := ⟨h.jn, fun x hx hm => h.ahead x hx hm⟩
theorem Aft.freed (h : Aft J G) {i : Nat} (hr : i ∈ J.row 0) : Aft (freed (N1 J 0 i) 0 i) G := ⟨(freed_nm ..).1.trans h.jn, fun x hx hm => by
  rw [freed_gen, N1_gen, N1_gen]
  by_cases e : x.1 = i
  · rw [if_pos e]
    have := h.ahead x hx (by rw [e]; exact hr)
    rw [e] at this
    omega
  · rw [if_neg e]
    refine h.ahead x hx ?_
    rcases (freed_row ..).1 hm with h1 | h1
    · exact (mem_N1.1 h1).1
    · exact absurd h1.1 e⟩
/-- next, behind the lapse -/
theorem Aft.next (h : Aft J G) (ok : Ok J) : ∃ J' x a b, nextK J 0 = (J', x, a, b) ∧ Aft J' G ∧ (b = true → (∀ y ∈ G, ¬ (x.1 = 0 ∧ (x.2.1 : Int) = (y.1 : Int) ∧ (x.2.2 : Int) = (y.2.1 : Int))) ∧ ∃ J'', free J' x.1 (x.2.1 : Int) (x.2.2 : Int) = (J'', 0) ∧ Aft J'' G) := by
  have hn : 0 < J.n := by rw [h.jn]; decide
  cases hr : J.row 0 with
  | nil =>
    refine ⟨_, _, _, _, next_nil hn hr, h, fun hb => by cases hb⟩
  | cons i r =>
    have hm : i ∈ J.row 0 := by rw [hr]; simp
    have hi := ok.lt 0 hn i hm
    have e := next_row hn hr hi
    by_cases hl : J.gen 0 i < bd J 0 i
    · rw [if_pos hl] at e
      refine ⟨_, _, _, _, e, h.give i, fun _ => ⟨fun y hy hc => ?_, ?_⟩⟩
      · have h1 : i = y.1 := by have := hc.2.1; simp only at this; omega
        have h2 : J.gen 0 i = y.2.1 := by have := hc.2.2; simp only at this; omega
        have h3 := h.ahead y hy (by rw [← h1]; exact hm)
        rw [← h1] at h3
        omega
      · have ha := N1_alive ok hn hi hl
        exact ⟨_, free_alive ha, h.freed hm⟩
    · rw [if_neg hl] at e
      by_cases hb : J.bnd 0 i ≥ MG
      · rw [if_pos hb] at e
        exact ⟨_, _, _, _, e, h, fun hb => by cases hb⟩
      · rw [if_neg hb] at e
        exact ⟨_, _, _, _, e, h.bnd _ _, fun hb => by cases hb⟩
end
end Ids
end Go.Proofs.Ytdanpdlbbgcidaa
