/- How an argument that came in is read: an int, a string, a slice of ints or of strings. -/
import Derived.Test.YtookmjdnmmfkfaaRows
import Derived.WalkKit
import Derived.ProofKit
import Derived.OpenShut
import Derived.ShutString
import Derived.ChangeOld
import Derived.SliceStrings
import Derived.SizedLaws
namespace Go.Proofs.Ytookmjdnmmfkfaa
open Go.ChangeShapes Go.WideShapes Go.ChangeAt Go.RowKit
open Go.ChangeMaps (open_string shut_string)

/-- a slice's cells, of one cell each, where there are any: they lie below block B -/
def Reads (w : World) (B : Nat) (A : Option Addr) (xs : List Value) : Prop :=
  0 < xs.length → ∃ b off, A = some ⟨b, off, none⟩ ∧ b < B ∧ ∀ k v, xs[k]? = some v → w.cell? ⟨b, off + k, none⟩ = some v
theorem Reads.below {w w' : World} {B : Nat} {A : Option Addr} {xs : List Value} (h : Reads w B A xs) (hb : Below B w w') : Reads w' B A xs := fun h0 => by
  obtain ⟨b, off, rfl, hB, hc⟩ := h h0
  exact ⟨b, off, rfl, hB, fun k v hv => (hb.cell (p := ⟨b, off + k, none⟩) hB).trans (hc k v hv)⟩
theorem Reads.more {w : World} {B B' : Nat} {A : Option Addr} {xs : List Value} (h : Reads w B A xs) (hb : B ≤ B') : Reads w B' A xs := fun h0 => by
  obtain ⟨b, off, rfl, hB, hc⟩ := h h0
  exact ⟨b, off, rfl, by omega, hc⟩
theorem Reads.at_ {w : World} {B : Nat} {A : Option Addr} {xs : List Value} (h : Reads w B A xs) {k : Nat} (hk : k < xs.length) :
    ∃ b off, A = some ⟨b, off, none⟩ ∧ b < B ∧ w.cell? ⟨b, off + k, none⟩ = some xs[k] := by
  obtain ⟨b, off, rfl, hB, hc⟩ := h (by omega)
  exact ⟨b, off, rfl, hB, hc k _ (List.getElem?_eq_getElem hk)⟩

def ints (l : List Int) : List Value := l.map (Value.int .i64)
def strings (l : List (List UInt8)) : List Value := l.map fun s => Value.string ⟨s.toArray⟩
def I64 (l : List Int) : Prop := ∀ x ∈ l, -9223372036854775808 ≤ x ∧ x ≤ 9223372036854775807

theorem wf_bd {n : Int} (h : (Lit.int .i64 n).wf = true) : -9223372036854775808 ≤ n ∧ n ≤ 9223372036854775807 := bounds_i64 h
theorem len_bd {s : ByteArray} (h : s.size ≤ maxLen) : s.data.toList.length ≤ 9223372036854775807 := by rw [Array.length_toList]; exact h
theorem cell_lt {w : World} {p : Addr} {v : Value} (h : w.cell? p = some v) : p.block < w.heap.size := by
  rcases Nat.lt_or_ge p.block w.heap.size with h' | h'
  · exact h'
  · simp [World.cell?, Array.getElem?_eq_none h'] at h

section
variable {H : Type} {enc : TypeId × Value → H} {P : Program} {w : World} {t e : TypeId} {v : Value} {d : DataW H} {ps : List MemPlace} {b0 : Nat}

theorem cap_bd {elems spare : List (DataW H)} (ht : P.underlying t = some (.slice e)) (hb : 1 ≤ P.bytesOf e) (hz : ∀ n ∈ DataW.weights P t (.slice elems spare), n ≤ reachBytes) : elems.length + spare.length ≤ 140737488351232 := by
  have h := hz ((elems.length + spare.length) * P.bytesOf e) (by simp [DataW.weights, ht])
  have h2 := Nat.mul_le_mul_left (elems.length + spare.length) hb
  have h3 : reachBytes = 140737488351232 := rfl
  omega
theorem mem_weightsAll {n : Nat} {d : DataW H} : ∀ {l : List (DataW H)}, d ∈ l → n ∈ DataW.weights P e d → n ∈ DataW.weightsAll P e l
  | [], h, _ => by simp at h
  | x :: r, h, hn => by
    simp only [DataW.weightsAll, List.mem_append]
    rcases List.mem_cons.1 h with rfl | h
    · exact .inl hn
    · exact .inr (mem_weightsAll h hn)
theorem strs_bd {ss : List ByteArray} {spare : List (DataW H)} (ht : P.underlying t = some (.slice e)) (hz : ∀ n ∈ DataW.weights P t (.slice (strs ss) spare), n ≤ reachBytes) : ∀ y ∈ ss, y.data.toList.length ≤ 140737488351232 := by
  intro y hy
  refine hz _ ?_
  simp only [DataW.weights, ht, List.mem_cons, List.mem_append]
  refine .inr (.inl (mem_weightsAll (d := .lit (.string y.data.toList)) ?_ (by simp [DataW.weights])))
  simp only [strs, List.mem_map]
  exact ⟨y, hy, rfl⟩

theorem in_int (ht : P.underlying t = some (.int .i64)) (hval : Value.okWide P w .any b0 t v) (hd : DataW.Trod enc P w 0 (fun _ => true) true t v d ps) :
    ∃ n : Int, v = .int .i64 n ∧ -9223372036854775808 ≤ n ∧ n ≤ 9223372036854775807 := by
  obtain ⟨x, rfl, _, _, wx⟩ := open_int ht hval hd
  exact ⟨x, rfl, wf_bd wx⟩
theorem in_string (ht : P.underlying t = some .string) (hval : Value.okWide P w .any b0 t v) (hd : DataW.Trod enc P w 0 (fun _ => true) true t v d ps) (hz : ∀ n ∈ DataW.weights P t d, n ≤ reachBytes) :
    ∃ l : List UInt8, v = .string ⟨l.toArray⟩ ∧ l.length ≤ 140737488351232 := by
  obtain ⟨s, rfl, hdd, _, hs⟩ := open_string ht hval hd
  exact ⟨s.data.toList, by simp, hz _ (by rw [hdd]; simp [DataW.weights])⟩
theorem in_ints (ht : P.underlying t = some (.slice e)) (he : P.underlying e = some (.int .i64)) (hc : P.cellsOf e = 1) (hb : 1 ≤ P.bytesOf e) (hval : Value.okWide P w .any b0 t v) (hd : DataW.Trod enc P w 0 (fun _ => true) true t v d ps) (hz : ∀ n ∈ DataW.weights P t d, n ≤ reachBytes) :
    ∃ (A : Option Addr) (cap : Nat) (l : List Int), v = .slice A l.length cap ∧ l.length ≤ cap ∧ cap ≤ 140737488351232 ∧ I64 l ∧ Reads w w.heap.size A (ints l) := by
  obtain ⟨a0, len, cap, rfl⟩ := okWide_slice ht hval
  obtain ⟨fuel, hf⟩ := hd
  rcases open_ints ht he hc hf with ⟨hcs, _⟩ | ⟨x, l, c, zs, hcs, _, hl, hm, hzl, hdx, hcell, hwz⟩
  · simp [Value.cells] at hcs
    obtain ⟨rfl, rfl, rfl⟩ := hcs
    exact ⟨none, 0, [], rfl, Nat.le_refl _, by omega, fun x hx => by simp at hx, fun h0 => absurd h0 (by simp [ints])⟩
  · simp [Value.cells] at hcs
    obtain ⟨rfl, rfl, rfl⟩ := hcs
    have hz' : zs.length = cap := by simpa using hzl
    have hcap : cap ≤ 140737488351232 := by
      simp only [Prod.mk.injEq] at hdx
      obtain ⟨rfl, _⟩ := hdx
      have := cap_bd ht hb hz
      simp only [lits, List.length_map, List.length_take, List.length_drop] at this
      omega
    have hlen : (zs.take len).length = len := by rw [List.length_take]; omega
    refine ⟨some x, cap, zs.take len, by rw [hlen], by rw [hlen]; exact hl, hcap, fun n hn => wf_bd (hwz n (List.mem_of_mem_take hn)), fun h0 => ?_⟩
    have hpos : 0 < zs.length := by simp [ints] at h0; omega
    obtain ⟨b, off, rfl, hcc⟩ := ints_at hcell hpos
    refine ⟨b, off, rfl, cell_lt (hcc 0 hpos), fun k v hv => ?_⟩
    have hk : k < len ∧ k < zs.length := by
      have := (List.getElem?_eq_some_iff.1 hv).1
      simp [ints] at this; omega
    rw [hcc k hk.2]
    rw [← hv]
    simp [ints, hk.1, List.getElem?_eq_getElem hk.2]
theorem strs_at {a : Addr} {ss : List ByteArray} (h : ∀ i, i < ss.length → w.cell? (a.add i) = some (.string (ss.getD i ByteArray.empty))) (hp : 0 < ss.length) :
    ∃ b off, a = ⟨b, off, none⟩ ∧ ∀ j, j < ss.length → w.cell? ⟨b, off + j, none⟩ = some (.string (ss.getD j ByteArray.empty)) := by
  obtain ⟨b, off, spot⟩ := a
  have hspot : spot = none := by simpa [Addr.add] using World.cell?_spot (h 0 hp)
  subst hspot
  exact ⟨b, off, rfl, fun j hj => by rw [← Go.WideShapes.add_plain]; exact h j hj⟩
theorem in_strings (ht : P.underlying t = some (.slice e)) (he : P.underlying e = some .string) (hc : P.cellsOf e = 1) (hb : 1 ≤ P.bytesOf e) (hval : Value.okWide P w .any b0 t v) (hd : DataW.Trod enc P w 0 (fun _ => true) true t v d ps) (hz : ∀ n ∈ DataW.weights P t d, n ≤ reachBytes) :
    ∃ (A : Option Addr) (cap : Nat) (l : List (List UInt8)), v = .slice A l.length cap ∧ l.length ≤ cap ∧ cap ≤ 140737488351232 ∧ (∀ s ∈ l, s.length ≤ 140737488351232) ∧ Reads w w.heap.size A (strings l) := by
  obtain ⟨a0, len, cap, rfl⟩ := okWide_slice ht hval
  obtain ⟨fuel, hf⟩ := hd
  rcases open_strings ht he hc hf with ⟨hcs, _⟩ | ⟨x, l, c, ss, hcs, _, hl, hm, hzl, hdx, hcell, hws⟩
  · simp [Value.cells] at hcs
    obtain ⟨rfl, rfl, rfl⟩ := hcs
    exact ⟨none, 0, [], rfl, Nat.le_refl _, by omega, fun x hx => by simp at hx, fun h0 => absurd h0 (by simp [strings])⟩
  · simp [Value.cells] at hcs
    obtain ⟨rfl, rfl, rfl⟩ := hcs
    have hz' : ss.length = cap := by simpa using hzl
    simp only [Prod.mk.injEq] at hdx
    obtain ⟨rfl, _⟩ := hdx
    have hcap : cap ≤ 140737488351232 := by
      have := cap_bd ht hb hz
      simp only [strs, List.length_map, List.length_take, List.length_drop] at this
      omega
    have hsz := strs_bd ht hz
    have hlen : (ss.take len).length = len := by rw [List.length_take]; omega
    refine ⟨some x, cap, (ss.take len).map (·.data.toList), by rw [List.length_map, hlen], by rw [List.length_map, hlen]; exact hl, hcap, fun s hs => ?_, fun h0 => ?_⟩
    · obtain ⟨y, hy, rfl⟩ := List.mem_map.1 hs
      exact hsz y hy
    have hpos : 0 < ss.length := by simp [strings] at h0; omega
    obtain ⟨b, off, rfl, hcc⟩ := strs_at hcell hpos
    refine ⟨b, off, rfl, cell_lt (hcc 0 hpos), fun k v hv => ?_⟩
    have hk : k < len ∧ k < ss.length := by
      have := (List.getElem?_eq_some_iff.1 hv).1
      simp [strings] at this; omega
    rw [hcc k hk.2, ← hv]
    simp [strings, hk.1, List.getElem?_eq_getElem hk.2]
end

end Go.Proofs.Ytookmjdnmmfkfaa
