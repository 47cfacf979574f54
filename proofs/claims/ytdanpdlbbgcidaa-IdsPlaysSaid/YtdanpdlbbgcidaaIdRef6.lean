/- The document's slots when a name is nobody's any more. -/
import Derived.Test.YtdanpdlbbgcidaaIdRef5
namespace Go.Proofs.Ytdanpdlbbgcidaa
open Go.RowKit Ids
set_option linter.unusedVariables false

section
variable {w W : World} {q : RPl} {K : St}
theorem freed_gen' (K : St) (k i a b : Nat) : (freed K k i).gen a b = if a = k ∧ b = i then K.gen k i + 1 else K.gen a b := by
  unfold freed; split <;> rfl
theorem freed_bnd' (K : St) (k i : Nat) : (freed K k i).bnd = K.bnd := by unfold freed; split <;> rfl
theorem freed_nm' (K : St) (k i : Nat) : (freed K k i).n = K.n ∧ (freed K k i).m = K.m := by unfold freed; split <;> exact ⟨rfl, rfl⟩
theorem freed_row' (K : St) (k i a : Nat) : (freed K k i).row a = if a = k ∧ K.gen k i + 1 < MG then K.row k ++ [i] else K.row a := by
  unfold freed
  by_cases h : K.gen k i + 1 < MG
  · rw [if_pos h]
    show up1 K.row k (K.row k ++ [i]) a = _
    by_cases e : a = k
    · subst e; rw [up1_same, if_pos ⟨rfl, h⟩]
    · rw [up1_other e, if_neg (fun x => e x.1)]
  · rw [if_neg h, if_neg (fun x => h x.2)]
    rfl
theorem freed_mem' (K : St) (k i a b : Nat) : b ∈ (freed K k i).row a ↔ b ∈ K.row a ∨ (a = k ∧ b = i ∧ K.gen k i + 1 < MG) := by
  rw [freed_row']
  by_cases h : a = k ∧ K.gen k i + 1 < MG
  · rw [if_pos h, List.mem_append, List.mem_singleton]
    obtain ⟨rfl, h2⟩ := h
    constructor
    · rintro (e | e)
      · exact .inl e
      · exact .inr ⟨rfl, e, h2⟩
    · rintro (e | ⟨_, e, _⟩)
      · exact .inl e
      · exact .inr e
  · rw [if_neg h]
    constructor
    · exact .inl
    · rintro (e | ⟨e1, _, e2⟩)
      · exact e
      · exact absurd ⟨e1, e2⟩ h
/-- put into the row once more: where that is noted -/
def RPl.more (q : RPl) (k i : Nat) : RPl := { q with put := q.put + 1, when_ := up2 q.when_ k i q.put }
theorem slotV_freed_other {q' : RPl} {k i a b : Nat} (h : ¬ (a = k ∧ b = i)) (hq : q'.when_ a b = q.when_ a b) (e : Nat) : slotV q' (freed K k i) a b e = slotV q K a b e := by
  have h1 : (freed K k i).gen a b = K.gen a b := by rw [freed_gen', if_neg h]
  have hm : b ∈ (freed K k i).row a ↔ b ∈ K.row a := by
    rw [freed_mem']
    exact ⟨fun x => x.elim id fun y => absurd ⟨y.1, y.2.1⟩ h, .inl⟩
  have h2 : taken (freed K k i) a b = taken K a b := taken_eq (by rw [h1, hm])
  have h3 : rowNo q' (freed K k i) a b = rowNo q K a b := by
    unfold rowNo
    rw [hq]
    by_cases x : b ∈ K.row a
    · rw [if_pos x, if_pos (hm.2 x)]
    · rw [if_neg x, if_neg fun y => x (hm.1 y)]
  match e with
  | 0 => rfl
  | 1 => rfl
  | 2 => show Value.int .i64 ((freed K k i).gen a b : Int) = Value.int .i64 (K.gen a b : Int); rw [h1]
  | 3 => show Value.int .i64 ((freed K k i).bnd a b : Int) = Value.int .i64 (K.bnd a b : Int); rw [freed_bnd']
  | 4 => show Value.int .i64 (rowNo q' (freed K k i) a b) = Value.int .i64 (rowNo q K a b); rw [h3]
  | _ + 5 => show Value.bool (taken (freed K k i) a b) = Value.bool (taken K a b); rw [h2]
/-- the slots say so, if the one slot does -/
theorem slotV_freed {q' : RPl} {k i : Nat} {f : Sf} (hq : ∀ a b, ¬ (a = k ∧ b = i) → q'.when_ a b = q.when_ a b)
    (ho : ∀ a b e, ¬ (a = k ∧ b = i) → e < 6 → f a b e = slotV q K a b e) (h0 : f k i 0 = .int .i64 (k : Int)) (h1 : f k i 1 = .int .i64 (i : Int)) (h2 : f k i 2 = .int .i64 ((K.gen k i + 1 : Nat) : Int)) (h3 : f k i 3 = .int .i64 (K.bnd k i : Int)) (h4 : f k i 4 = .int .i64 (rowNo q' (freed K k i) k i)) (h5 : f k i 5 = .bool false) (ht : taken (freed K k i) k i = false) (a b e : Nat) (he : e < 6) : f a b e = slotV q' (freed K k i) a b e := by
  by_cases hx : a = k ∧ b = i
  · obtain ⟨rfl, rfl⟩ := hx
    match e, he with
    | 0, _ => exact h0
    | 1, _ => exact h1
    | 2, _ =>
      rw [h2]
      show Value.int .i64 _ = Value.int .i64 ((freed K a b).gen a b : Int)
      rw [freed_gen', if_pos ⟨rfl, rfl⟩]
    | 3, _ =>
      rw [h3]
      show Value.int .i64 _ = Value.int .i64 ((freed K a b).bnd a b : Int)
      rw [freed_bnd']
    | 4, _ => exact h4
    | 5, _ =>
      rw [h5]
      show Value.bool false = Value.bool (taken (freed K a b) a b)
      rw [ht]
  · rw [ho a b e hx he, slotV_freed_other hx (hq a b hx)]
/-- behind all others of the row -/
theorem RS.toFreed (h : RA w q K) {k i : Nat} (hi : i ∉ K.row k) (hw : K.gen k i + 1 < MG) (hp : q.put + 1 ≤ 1000000) (ok : Ok (freed K k i)) {f : Sf} (hs : RS W q.d q.b q.c (q.put + 1) K.n K.m f)
    (ho : ∀ a b e, ¬ (a = k ∧ b = i) → e < 6 → f a b e = slotV q K a b e) (h0 : f k i 0 = .int .i64 (k : Int)) (h1 : f k i 1 = .int .i64 (i : Int)) (h2 : f k i 2 = .int .i64 ((K.gen k i + 1 : Nat) : Int)) (h3 : f k i 3 = .int .i64 (K.bnd k i : Int)) (h4 : f k i 4 = .int .i64 (q.put : Int)) (h5 : f k i 5 = .bool false) : RA W (q.more k i) (freed K k i) := by
  obtain ⟨e1, e2⟩ := freed_nm' K k i
  have hin : i ∈ (freed K k i).row k := (freed_mem' K k i k i).2 (.inr ⟨rfl, rfl, hw⟩)
  refine RS.ra (q := q.more k i) (K := freed K k i) (by
    rw [e1, e2]
    refine hs.congr fun a b e _ _ he => slotV_freed (q' := q.more k i) (fun a b hx => up2_other hx) ho h0 h1 h2 h3 ?_ h5 ?_ a b e he
    · rw [h4]
      unfold rowNo
      rw [if_pos hin]
      show Value.int .i64 (q.put : Int) = Value.int .i64 (up2 q.when_ k i q.put k i : Nat)
      rw [up2_same]
    · rw [← Bool.not_eq_true, taken_iff]
      exact fun x => x.1 hin) ok (by rw [e1, e2]; exact h.cap) (fun a ha => ?_) (fun a ha b hb => ?_) hp
  · rw [e1] at ha
    show ((freed K k i).row a).Pairwise fun x y => up2 q.when_ k i q.put a x < up2 q.when_ k i q.put a y
    rw [freed_row']
    by_cases e : a = k
    · subst e
      rw [if_pos ⟨rfl, hw⟩, List.pairwise_append]
      refine ⟨?_, by simp, fun x hx y hy => ?_⟩
      · refine (h.rise a ha).imp_of_mem fun {x y} hx hy hxy => ?_
        rw [up2_other (fun t : a = a ∧ x = i => hi (t.2 ▸ hx)), up2_other (fun t : a = a ∧ y = i => hi (t.2 ▸ hy))]
        exact hxy
      · rw [List.mem_singleton.1 hy, up2_same, up2_other (fun t : a = a ∧ x = i => hi (t.2 ▸ hx))]
        exact h.low a ha x hx
    · rw [if_neg (fun x => e x.1)]
      refine (h.rise a ha).imp fun {x y} hxy => ?_
      rw [up2_other (fun t => e t.1), up2_other (fun t => e t.1)]
      exact hxy
  · rw [e1] at ha
    show up2 q.when_ k i q.put a b < q.put + 1
    unfold up2
    split
    · omega
    · rename_i hx
      have := h.low a ha b (((freed_mem' K k i a b).1 hb).resolve_right fun t => hx ⟨t.1, t.2.1⟩)
      omega
/-- or worn -/
theorem RS.toWorn (h : RA w q K) {k i : Nat} (hi : i ∉ K.row k) (hw : ¬ K.gen k i + 1 < MG) (ok : Ok (freed K k i)) {f : Sf} (hs : RS W q.d q.b q.c q.put K.n K.m f)
    (ho : ∀ a b e, ¬ (a = k ∧ b = i) → e < 6 → f a b e = slotV q K a b e) (h0 : f k i 0 = .int .i64 (k : Int)) (h1 : f k i 1 = .int .i64 (i : Int)) (h2 : f k i 2 = .int .i64 ((K.gen k i + 1 : Nat) : Int)) (h3 : f k i 3 = .int .i64 (K.bnd k i : Int)) (h4 : f k i 4 = .int .i64 (-1)) (h5 : f k i 5 = .bool false) : RA W q (freed K k i) := by
  obtain ⟨e1, e2⟩ := freed_nm' K k i
  have hrow : ∀ a, (freed K k i).row a = K.row a := fun a => by rw [freed_row', if_neg (fun x => hw x.2)]
  refine RS.ra (q := q) (K := freed K k i) (by
    rw [e1, e2]
    refine hs.congr fun a b e _ _ he => slotV_freed (q' := q) (fun a b hx => rfl) ho h0 h1 h2 h3 ?_ h5 ?_ a b e he
    · rw [h4]
      unfold rowNo
      rw [hrow, if_neg hi]
    · rw [← Bool.not_eq_true, taken_iff, freed_gen', if_pos ⟨rfl, rfl⟩]
      exact fun x => hw x.2) ok (by rw [e1, e2]; exact h.cap) (fun a ha => ?_) (fun a ha b hb => ?_) h.few
  · rw [hrow]; exact h.rise a (by rw [← e1]; exact ha)
  · rw [hrow] at hb; exact h.low a (by rw [← e1]; exact ha) b hb
end
end Go.Proofs.Ytdanpdlbbgcidaa
