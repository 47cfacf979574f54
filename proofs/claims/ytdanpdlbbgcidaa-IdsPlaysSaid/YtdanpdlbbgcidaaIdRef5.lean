/- The document's slots when a name is given, and when it is nobody's any more. -/
import Derived.Test.YtdanpdlbbgcidaaIdRef4
namespace Go.Proofs.Ytdanpdlbbgcidaa
open Go.RowKit Ids
set_option linter.unusedVariables false

section
variable {w W : World} {q : RPl} {K : St}
theorem give_row (K : St) (k i g a : Nat) (b : Nat) : b ∈ (give K k i g).row a ↔ b ∈ K.row a ∧ (a = k → b ≠ i) := by
  show b ∈ up1 K.row k ((K.row k).filter fun x => x != i) a ↔ _
  by_cases e : a = k
  · subst e
    rw [up1_same, List.mem_filter]
    simp
  · rw [up1_other e]
    exact ⟨fun h => ⟨h, fun e2 => absurd e2 e⟩, fun h => h.1⟩
theorem give_gen (K : St) (k i g a b : Nat) : (give K k i g).gen a b = if a = k ∧ b = i then g else K.gen a b := rfl
theorem rowNo_give_other {k i g a b : Nat} (h : ¬ (a = k ∧ b = i)) : rowNo q (give K k i g) a b = rowNo q K a b := by
  unfold rowNo
  by_cases e : b ∈ K.row a
  · rw [if_pos e, if_pos ((give_row K k i g a b).2 ⟨e, fun e1 e2 => h ⟨e1, e2⟩⟩)]
  · rw [if_neg e, if_neg fun e2 => e ((give_row K k i g a b).1 e2).1]
theorem taken_iff (K : St) (k i : Nat) : taken K k i = true ↔ i ∉ K.row k ∧ K.gen k i < MG := by
  unfold taken
  rw [Bool.and_eq_true, decide_eq_true_eq, Bool.not_eq_true', ← Bool.not_eq_true, List.contains_iff_mem]
theorem taken_eq {K J : St} {k i : Nat} (h : (i ∉ K.row k ∧ K.gen k i < MG) ↔ (i ∉ J.row k ∧ J.gen k i < MG)) : taken K k i = taken J k i := by
  rw [Bool.eq_iff_iff, taken_iff, taken_iff]
  exact h
theorem slotV_give_other {k i g a b : Nat} (h : ¬ (a = k ∧ b = i)) (e : Nat) : slotV q (give K k i g) a b e = slotV q K a b e := by
  have h1 : (give K k i g).gen a b = K.gen a b := by rw [give_gen, if_neg h]
  have h2 : taken (give K k i g) a b = taken K a b := taken_eq (by
    rw [h1, give_row]
    constructor
    · rintro ⟨h3, h4⟩
      exact ⟨fun e => h3 ⟨e, fun e1 e2 => h ⟨e1, e2⟩⟩, h4⟩
    · rintro ⟨h3, h4⟩
      exact ⟨fun e => h3 e.1, h4⟩)
  match e with
  | 0 => rfl
  | 1 => rfl
  | 2 => show Value.int .i64 ((give K k i g).gen a b : Int) = Value.int .i64 (K.gen a b : Int); rw [h1]
  | 3 => rfl
  | 4 => show Value.int .i64 (rowNo q (give K k i g) a b) = Value.int .i64 (rowNo q K a b); rw [rowNo_give_other h]
  | _ + 5 => show Value.bool (taken (give K k i g) a b) = Value.bool (taken K a b); rw [h2]
theorem give_out (K : St) (k i g : Nat) : i ∉ (give K k i g).row k := fun e => ((give_row K k i g k i).1 e).2 rfl rfl
theorem rowNo_give (K : St) (k i g : Nat) : rowNo q (give K k i g) k i = -1 := if_neg (give_out K k i g)
theorem taken_give {k i g : Nat} (hg : g < MG) : taken (give K k i g) k i = true := (taken_iff _ _ _).2 ⟨give_out K k i g, by rw [give_gen, if_pos ⟨rfl, rfl⟩]; exact hg⟩
theorem RS.toGive (h : RA w q K) {k i g : Nat} (hg : g < MG) (ok : Ok (give K k i g)) {f : Sf} (hs : RS W q.d q.b q.c q.put K.n K.m f)
    (ho : ∀ a b e, ¬ (a = k ∧ b = i) → e < 6 → f a b e = slotV q K a b e) (h0 : f k i 0 = .int .i64 (k : Int)) (h1 : f k i 1 = .int .i64 (i : Int)) (h2 : f k i 2 = .int .i64 (g : Int)) (h3 : f k i 3 = .int .i64 (K.bnd k i : Int)) (h4 : f k i 4 = .int .i64 (-1)) (h5 : f k i 5 = .bool true) : RA W q (give K k i g) :=
  RS.ra (K := give K k i g) (hs.congr fun a b e _ _ he => by
    by_cases hx : a = k ∧ b = i
    · obtain ⟨rfl, rfl⟩ := hx
      match e, he with
      | 0, _ => exact h0
      | 1, _ => exact h1
      | 2, _ =>
        rw [h2]
        show Value.int .i64 (g : Int) = Value.int .i64 ((give K a b g).gen a b : Int)
        rw [give_gen, if_pos ⟨rfl, rfl⟩]
      | 3, _ => exact h3
      | 4, _ =>
        rw [h4]
        show Value.int .i64 (-1) = Value.int .i64 (rowNo q (give K a b g) a b)
        rw [rowNo_give]
      | 5, _ =>
        rw [h5]
        show Value.bool true = Value.bool (taken (give K a b g) a b)
        rw [taken_give hg]
    · rw [ho a b e hx he, slotV_give_other hx]) ok h.cap (fun a ha => by
    show (up1 K.row k ((K.row k).filter fun x => x != i) a).Pairwise _
    by_cases e : a = k
    · subst e
      rw [up1_same]
      exact (h.rise a ha).filter _
    · rw [up1_other e]
      exact h.rise a ha) (fun a ha b hb => h.low a ha b ((give_row K k i g a b).1 hb).1) h.few
end
end Go.Proofs.Ytdanpdlbbgcidaa
