/- How an argument that came in is read: a slice of whatever elements; a value all of whose cells are ints. -/
import Derived.Test.YtookmjdnmmfkfaaOpen
import Derived.Lib.SmallJoins
namespace Go.Proofs.Ytookmjdnmmfkfaa
open Go.ChangeShapes Go.WideShapes Go.ChangeAt Go.RowKit

/-- a slice's elements, each a row of cells one behind the other, where there are any: they lie below block B -/
def ReadsK (w : World) (B : Nat) (A : Option Addr) (k : Nat) (rows : List (List Value)) : Prop :=
  0 < rows.length → ∃ b off, A = some ⟨b, off, none⟩ ∧ b < B ∧ ∀ i row, rows[i]? = some row → ∀ j v, row[j]? = some v → w.cell? ⟨b, off + (i * k + j), none⟩ = some v
theorem ReadsK.below {w w' : World} {B k : Nat} {A : Option Addr} {rows : List (List Value)} (h : ReadsK w B A k rows) (hb : Below B w w') : ReadsK w' B A k rows := fun h0 => by
  obtain ⟨b, off, rfl, hB, hc⟩ := h h0
  exact ⟨b, off, rfl, hB, fun i row hr j v hv => (hb.cell (p := ⟨b, off + (i * k + j), none⟩) hB).trans (hc i row hr j v hv)⟩
theorem ReadsK.more {w : World} {B B' k : Nat} {A : Option Addr} {rows : List (List Value)} (h : ReadsK w B A k rows) (hb : B ≤ B') : ReadsK w B' A k rows := fun h0 => by
  obtain ⟨b, off, rfl, hB, hc⟩ := h h0
  exact ⟨b, off, rfl, by omega, hc⟩
theorem ReadsK.at_ {w : World} {B k : Nat} {A : Option Addr} {rows : List (List Value)} (h : ReadsK w B A k rows) {i : Nat} (hi : i < rows.length) :
    ∃ b off, A = some ⟨b, off, none⟩ ∧ b < B ∧ ∀ j v, rows[i][j]? = some v → w.cell? ⟨b, off + (i * k + j), none⟩ = some v := by
  obtain ⟨b, off, rfl, hB, hc⟩ := h (by omega)
  exact ⟨b, off, rfl, hB, hc i _ (List.getElem?_eq_getElem hi)⟩

theorem rows_map {α : Type} {f : α → List Value} {Q : α → Prop} : ∀ {rows : List (List Value)}, (∀ row ∈ rows, ∃ x, row = f x ∧ Q x) → ∃ l : List α, rows = l.map f ∧ ∀ x ∈ l, Q x
  | [], _ => ⟨[], rfl, fun x hx => by simp at hx⟩
  | row :: rest, h => by
    obtain ⟨x, hx, hq⟩ := h row (List.mem_cons_self)
    obtain ⟨l, hl, hql⟩ := rows_map (rows := rest) (fun r hr => h r (List.mem_cons_of_mem _ hr))
    exact ⟨x :: l, by rw [hx, hl]; rfl, fun y hy => by
      rcases List.mem_cons.1 hy with rfl | hy
      · exact hq
      · exact hql y hy⟩

section
variable {H : Type} {enc : TypeId × Value → H} {P : Program} {w : World} {t e : TypeId} {v : Value} {d : DataW H} {ps : List MemPlace} {b0 : Nat}

theorem addr_two (a : Addr) (i j : Nat) : (a.add i).add j = a.add (i + j) := by
  unfold Addr.add
  by_cases hi : i = 0 <;> by_cases hj : j = 0 <;> simp [hi, hj, Nat.add_assoc]

/-- a slice that came in, opened: its elements' rows of cells, each with its own reading -/
theorem in_rows (ht : P.underlying t = some (.slice e)) {k : Nat} (hc : P.cellsOf e = k) (hk : 0 < k) (hb : 1 ≤ P.bytesOf e) (hval : Value.okWide P w .any b0 t v) (hd : DataW.Trod enc P w 0 (fun _ => true) true t v d ps) (hz : ∀ n ∈ DataW.weights P t d, n ≤ reachBytes) :
    ∃ (A : Option Addr) (cap : Nat) (rows : List (List Value)), v = .slice A rows.length cap ∧ rows.length ≤ cap ∧ cap ≤ 140737488351232 ∧ (A = none → cap = 0) ∧
      (∀ row ∈ rows, ∃ n y, DataW.trod enc P w 0 (fun _ => true) true n e row = some y ∧ ∀ m ∈ DataW.weights P e y.1, m ≤ reachBytes) ∧ ReadsK w w.heap.size A k rows := by
  obtain ⟨a0, len, cap, rfl⟩ := okWide_slice ht hval
  obtain ⟨fuel, hf⟩ := hd
  rcases DataW.trod_slice ht hf with ⟨hcs, _⟩ | ⟨a, l, c, elems, rest, n, _, hcs, hdx, _, hl, hm, hlen, hel, hsp, _⟩
  · simp [Value.cells] at hcs
    obtain ⟨rfl, rfl, rfl⟩ := hcs
    exact ⟨none, 0, [], rfl, Nat.le_refl _, by omega, fun _ => rfl, fun row hr => by simp at hr, fun h0 => absurd h0 (by simp)⟩
  · simp [Value.cells] at hcs
    obtain ⟨rfl, rfl, rfl⟩ := hcs
    obtain ⟨hrl, _⟩ := hsp rfl
    simp only [Prod.mk.injEq] at hdx
    obtain ⟨rfl, _⟩ := hdx
    have hcap : cap ≤ 140737488351232 := by
      have := cap_bd ht hb hz
      simp only [List.length_map] at this
      omega
    rw [hc] at hel
    have each : ∀ i, i < len → ∃ row y, w.cells? 0 (a.add (i * k)) k = some row ∧ DataW.trod enc P w 0 (fun _ => true) true n e row = some y ∧ elems[i]? = some y := by
      intro i hi
      have h := hel i hi
      rw [List.getElem?_eq_getElem (by omega), Option.bind_eq_some_iff] at h
      obtain ⟨row, h1, h2⟩ := h
      exact ⟨row, _, h1, h2, List.getElem?_eq_getElem (by omega)⟩
    refine ⟨some a, cap, (List.range len).map fun i => (w.cells? 0 (a.add (i * k)) k).getD [], by simp, by simpa using hl, hcap, (fun h => absurd h (by simp)), ?_, ?_⟩
    · intro row hr
      obtain ⟨i, hi, rfl⟩ := List.mem_map.1 hr
      obtain ⟨row, y, h1, h2, h3⟩ := each i (List.mem_range.1 hi)
      refine ⟨n, y, by rw [h1]; exact h2, fun m hm => hz m ?_⟩
      simp only [DataW.weights, ht, List.mem_cons, List.mem_append]
      exact .inr (.inl (mem_weightsAll (List.mem_map.2 ⟨y, List.mem_of_getElem? h3, rfl⟩) hm))
    · intro h0
      have hpos : 0 < len := by simpa using h0
      have cellAt : ∀ i, i < len → ∀ j, j < k → ∃ u, w.cell? (a.add (i * k + j)) = some u ∧ ((w.cells? 0 (a.add (i * k)) k).getD [])[j]? = some u := by
        intro i hi j hj
        obtain ⟨row, y, h1, _, _⟩ := each i hi
        obtain ⟨_, hrl, hat⟩ := World.cells?_some h1
        refine ⟨row[j]'(by omega), ?_, ?_⟩
        · rw [← addr_two, hat j hj]; exact List.getElem?_eq_getElem _
        · rw [h1]; exact List.getElem?_eq_getElem _
      obtain ⟨b, off, spot⟩ := a
      obtain ⟨u, hu, _⟩ := cellAt 0 hpos 0 hk
      have hspot : spot = none := by simpa [Addr.add] using World.cell?_spot hu
      subst hspot
      refine ⟨b, off, rfl, by have := cell_lt hu; simpa [Addr.add] using this, fun i row hr j u hv => ?_⟩
      have hi : i < len := by
        have := (List.getElem?_eq_some_iff.1 hr).1
        simpa using this
      have hrow : row = (w.cells? 0 ((⟨b, off, none⟩ : Addr).add (i * k)) k).getD [] := by
        rw [List.getElem?_map, List.getElem?_range hi] at hr
        simpa using hr.symm
      have hj : j < k := by
        obtain ⟨r2, _, h1, _, _⟩ := each i hi
        have hl2 := (World.cells?_some h1).2.1
        have := (List.getElem?_eq_some_iff.1 hv).1
        rw [hrow, h1] at this
        simp at this; omega
      obtain ⟨u', hu1, hu2⟩ := cellAt i hi j hj
      rw [hrow, hu2] at hv
      rw [← Go.WideShapes.add_plain, hu1, ← hv]
end

end Go.Proofs.Ytookmjdnmmfkfaa
