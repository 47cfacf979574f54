/- How an argument that came in is read: a struct of which all cells are ints, however deep; a slice of such. -/
import Derived.Test.YtookmjdnmmfkfaaOpenRow
namespace Go.Proofs.Ytookmjdnmmfkfaa
open Go.ChangeShapes Go.WideShapes Go.ChangeAt Go.RowKit
set_option linter.unusedVariables false

def FitsI (n : Int) : Prop := -9223372036854775808 ≤ n ∧ n ≤ 9223372036854775807
/-- where fields that lie one behind the other, from o on, end -/
def endsAt (P : Program) : Nat → List Field → Option Nat
  | o, [] => some o
  | o, f :: r => if f.offset = o then endsAt P (o + P.cellsOf f.type) r else none
/-- all cells of such a type are ints -/
def flatB (P : Program) : Nat → TypeId → Bool
  | 0, _ => false
  | n + 1, t => match P.underlying t with
    | some (.int .i64) => true
    | some (.struct fs) => (fs.toList.all fun f => flatB P n f.type) && (endsAt P 0 fs.toList == some (P.cellsOf t))
    | _ => false
def IsInts (row : List Value) : Prop := ∃ l : List Int, row = ints l ∧ I64 l
theorem isInts_app {a b : List Value} (ha : IsInts a) (hb : IsInts b) : IsInts (a ++ b) := by
  obtain ⟨l, rfl, hl⟩ := ha
  obtain ⟨m, rfl, hm⟩ := hb
  refine ⟨l ++ m, by simp [ints], fun x hx => ?_⟩
  rcases List.mem_append.1 hx with h | h
  · exact hl x h
  · exact hm x h
section
variable {H : Type} {enc : TypeId × Value → H} {P : Program} {w : World} {t e : TypeId} {v : Value} {d : DataW H} {ps : List MemPlace} {b0 : Nat}
theorem ends_le : ∀ (fs : List Field) (o z : Nat), endsAt P o fs = some z → o ≤ z
  | [], o, z, h => by
    simp only [endsAt, Option.some.injEq] at h
    omega
  | f :: r, o, z, h => by
    simp only [endsAt] at h
    split at h
    · have := ends_le r _ z h
      omega
    · cases h
theorem flat_pieces (row : List Value) : ∀ (fs : List Field) (o z : Nat), endsAt P o fs = some z → (∀ f ∈ fs, IsInts ((row.drop f.offset).take (P.cellsOf f.type))) → IsInts ((row.drop o).take (z - o))
  | [], o, z, h, _ => by
    simp only [endsAt, Option.some.injEq] at h
    subst h
    exact ⟨[], by simp [ints], fun x hx => by cases hx⟩
  | f :: r, o, z, h, hp => by
    simp only [endsAt] at h
    split at h
    · rename_i ho
      have h1 := hp f (List.mem_cons_self)
      have h2 := flat_pieces row r _ z h (fun g hg => hp g (List.mem_cons_of_mem _ hg))
      have h3 := ends_le r _ z h
      rw [ho] at h1
      have e : (row.drop o).take (z - o) = (row.drop o).take (P.cellsOf f.type) ++ (row.drop (o + P.cellsOf f.type)).take (z - (o + P.cellsOf f.type)) := by
        rw [show z - o = P.cellsOf f.type + (z - (o + P.cellsOf f.type)) by omega, List.take_add, List.drop_drop]
      rw [e]
      exact isInts_app h1 h2
    · cases h
theorem flat_row : ∀ (n : Nat) (t : TypeId), flatB P n t = true → ∀ (m : Nat) (row : List Value) (y : DataW H × List MemPlace), DataW.trod enc P w 0 (fun _ => true) true m t row = some y → IsInts row
  | 0, t, h, _, _, _, _ => by simp [flatB] at h
  | n + 1, t, h, m, row, y, hy => by
    simp only [flatB] at h
    split at h
    · rename_i hu
      obtain ⟨x, e, _, wx⟩ := DataW.trod_int hu hy
      exact ⟨[x], by rw [e]; rfl, fun z hz => by
        rw [List.mem_singleton.1 hz]
        exact wf_bd wx⟩
    · rename_i fs hu
      simp only [Bool.and_eq_true, List.all_eq_true, beq_iff_eq] at h
      obtain ⟨h1, h2⟩ := h
      obtain ⟨xs, k, _, _, hl, hxl, hf⟩ := DataW.trod_struct hu hy
      have := flat_pieces (P := P) row fs.toList 0 _ h2 (fun f hmem => by
        obtain ⟨i, hi⟩ := List.mem_iff_getElem?.1 hmem
        have hi' : fs[i]? = some f := by simpa using hi
        have h3 := hf i f hi'
        have hlt : i < xs.length := by
          rw [hxl]
          exact (Array.getElem?_eq_some_iff.1 hi').1
        rw [List.getElem?_eq_getElem hlt] at h3
        exact flat_row n f.type (h1 f hmem) _ _ _ h3)
      rw [List.drop_zero, Nat.sub_zero, ← hl, List.take_length] at this
      exact this
    · cases h
theorem in_flat {fs : Array Field} (n : Nat) (ht : P.underlying t = some (.struct fs)) (hb : flatB P n t = true) (hval : Value.okWide P w .any b0 t v) (hd : DataW.Trod enc P w 0 (fun _ => true) true t v d ps) :
    ∃ l : List Int, v = .agg (ints l).toArray ∧ l.length = P.cellsOf t ∧ I64 l := by
  obtain ⟨cs, rfl, hsz⟩ := okWide_struct ht hval
  obtain ⟨fuel, hf⟩ := hd
  obtain ⟨l, e, hl⟩ := flat_row n t hb _ _ _ hf
  simp only [Value.cells] at e
  refine ⟨l, ?_, ?_, hl⟩
  · rw [← e]
  · have := congrArg List.length e
    simp only [ints, List.length_map, Array.length_toList] at this
    omega
theorem in_flats {k : Nat} {fs : Array Field} (n : Nat) (ht : P.underlying t = some (.slice e)) (he : P.underlying e = some (.struct fs)) (hc : P.cellsOf e = k) (hk : 0 < k) (hb : 1 ≤ P.bytesOf e) (hfl : flatB P n e = true)
    (hval : Value.okWide P w .any b0 t v) (hd : DataW.Trod enc P w 0 (fun _ => true) true t v d ps) (hz : ∀ n ∈ DataW.weights P t d, n ≤ reachBytes) :
    ∃ (A : Option Addr) (cap : Nat) (l : List (List Int)), v = .slice A l.length cap ∧ l.length ≤ cap ∧ cap ≤ 140737488351232 ∧ (∀ x ∈ l, x.length = k ∧ I64 x) ∧ ReadsK w w.heap.size A k (l.map ints) := by
  obtain ⟨A, cap, rows, rfl, hl, hcap, _, hr, hR⟩ := in_rows ht hc hk hb hval hd hz
  obtain ⟨l, rfl, hq⟩ := rows_map (f := ints) (Q := fun x => x.length = k ∧ I64 x) (rows := rows) (by
    intro row hrow
    obtain ⟨m, y, hy, _⟩ := hr row hrow
    obtain ⟨_, _, _, _, hlen, _⟩ := DataW.trod_struct he hy
    rw [hc] at hlen
    obtain ⟨l, rfl, hl⟩ := flat_row n e hfl _ _ _ hy
    exact ⟨l, rfl, by simpa [ints] using hlen, hl⟩)
  exact ⟨A, cap, l, by rw [List.length_map], by simpa using hl, hcap, hq, hR⟩
end
end Go.Proofs.Ytookmjdnmmfkfaa
