/- How an argument that came in is read: a slice of whatever elements; a value all of whose cells are ints. How an argument that came in is read: a struct of which all cells are ints, however deep; a slice of such. Rows of entities: one's own, and such as are read. Written by wip/tools/genpzrow.py. Things in a world, each in blocks of its own. Written by wip/tools/gensp.py. -/
import Derived.Test.YtljaahemlcaffaaGreatK01
import Derived.Lib.SmallJoins
import Derived.Test.YtljaahemlcaffaaGreatK03
namespace Go.Proofs.YtljaahemlcaffaaGreat
open Go.ChangeShapes Go.WideShapes Go.ChangeAt Go.RowKit

/-- a slice's elements, each a row of cells one behind the other, where there are any: they lie below block B -/
def ReadsK (w : World) (B : Nat) (A : Option Addr) (k : Nat) (rows : List (List Value)) : Prop :=
  0 < rows.length → ∃ b off, A = some ⟨b, off, none⟩ ∧ b < B ∧ ∀ i row, rows[i]? = some row → ∀ j v, row[j]? = some v → w.cell? ⟨b, off + (i * k + j), none⟩ = some v
theorem ReadsK.below {w w' : World} {B k : Nat} {A : Option Addr} {rows : List (List Value)} (h : ReadsK w B A k rows) (hb : Below B w w') : ReadsK w' B A k rows := fun h0 => by
  obtain ⟨b, off, rfl, hB, hc⟩ := h h0
  exact ⟨b, off, rfl, hB, fun i row hr j v hv => (hb.cell (p := ⟨b, off + (i * k + j), none⟩) hB).trans (hc i row hr j v hv)⟩
theorem ReadsK.more {w : World} {B B' k : Nat} {A : Option Addr} {rows : List (List Value)} (h : ReadsK w B A k rows) (hb : B ≤ B') : ReadsK w B' A k rows := fun h0 => by
  obtain ⟨b, off, rfl, hB, hc⟩ := h h0
  exact ⟨b, off, rfl, by omega, hc⟩
theorem ReadsK.at_ {w : World} {B k : Nat} {A : Option Addr} {rows : List (List Value)} (h : ReadsK w B A k rows) {i : Nat} (hi : i < rows.length) :
    ∃ b off, A = some ⟨b, off, none⟩ ∧ b < B ∧ ∀ j v, rows[i][j]? = some v → w.cell? ⟨b, off + (i * k + j), none⟩ = some v := by
  obtain ⟨b, off, rfl, hB, hc⟩ := h (by omega)
  exact ⟨b, off, rfl, hB, hc i _ (List.getElem?_eq_getElem hi)⟩

theorem rows_map {α : Type} {f : α → List Value} {Q : α → Prop} : ∀ {rows : List (List Value)}, (∀ row ∈ rows, ∃ x, row = f x ∧ Q x) → ∃ l : List α, rows = l.map f ∧ ∀ x ∈ l, Q x
  | [], _ => ⟨[], rfl, fun x hx => by simp at hx⟩
  | row :: rest, h => by
    obtain ⟨x, hx, hq⟩ := h row (List.mem_cons_self)
    obtain ⟨l, hl, hql⟩ := rows_map (rows := rest) (fun r hr => h r (List.mem_cons_of_mem _ hr))
    exact ⟨x :: l, by rw [hx, hl]; rfl, fun y hy => by
      rcases List.mem_cons.1 hy with rfl | hy
      · exact hq
      · exact hql y hy⟩

section
variable {H : Type} {enc : TypeId × Value → H} {P : Program} {w : World} {t e : TypeId} {v : Value} {d : DataW H} {ps : List MemPlace} {b0 : Nat}

theorem addr_two (a : Addr) (i j : Nat) : (a.add i).add j = a.add (i + j) := by
  unfold Addr.add
  by_cases hi : i = 0 <;> by_cases hj : j = 0 <;> simp [hi, hj, Nat.add_assoc]

/-- a slice that came in, opened: its elements' rows of cells, each with its own reading -/
theorem in_rows (ht : P.underlying t = some (.slice e)) {k : Nat} (hc : P.cellsOf e = k) (hk : 0 < k) (hb : 1 ≤ P.bytesOf e) (hval : Value.okWide P w .any b0 t v) (hd : DataW.Trod enc P w 0 (fun _ => true) true t v d ps) (hz : ∀ n ∈ DataW.weights P t d, n ≤ reachBytes) :
    ∃ (A : Option Addr) (cap : Nat) (rows : List (List Value)), v = .slice A rows.length cap ∧ rows.length ≤ cap ∧ cap ≤ 140737488351232 ∧ (A = none → cap = 0) ∧
      (∀ row ∈ rows, ∃ n y, DataW.trod enc P w 0 (fun _ => true) true n e row = some y ∧ ∀ m ∈ DataW.weights P e y.1, m ≤ reachBytes) ∧ ReadsK w w.heap.size A k rows := by
  obtain ⟨a0, len, cap, rfl⟩ := okWide_slice ht hval
  obtain ⟨fuel, hf⟩ := hd
  rcases DataW.trod_slice ht hf with ⟨hcs, _⟩ | ⟨a, l, c, elems, rest, n, _, hcs, hdx, _, hl, hm, hlen, hel, hsp, _⟩
  · simp [Value.cells] at hcs
    obtain ⟨rfl, rfl, rfl⟩ := hcs
    exact ⟨none, 0, [], rfl, Nat.le_refl _, by omega, fun _ => rfl, fun row hr => by simp at hr, fun h0 => absurd h0 (by simp)⟩
  · simp [Value.cells] at hcs
    obtain ⟨rfl, rfl, rfl⟩ := hcs
    obtain ⟨hrl, _⟩ := hsp rfl
    simp only [Prod.mk.injEq] at hdx
    obtain ⟨rfl, _⟩ := hdx
    have hcap : cap ≤ 140737488351232 := by
      have := cap_bd ht hb hz
      simp only [List.length_map] at this
      omega
    rw [hc] at hel
    have each : ∀ i, i < len → ∃ row y, w.cells? 0 (a.add (i * k)) k = some row ∧ DataW.trod enc P w 0 (fun _ => true) true n e row = some y ∧ elems[i]? = some y := by
      intro i hi
      have h := hel i hi
      rw [List.getElem?_eq_getElem (by omega), Option.bind_eq_some_iff] at h
      obtain ⟨row, h1, h2⟩ := h
      exact ⟨row, _, h1, h2, List.getElem?_eq_getElem (by omega)⟩
    refine ⟨some a, cap, (List.range len).map fun i => (w.cells? 0 (a.add (i * k)) k).getD [], by simp, by simpa using hl, hcap, (fun h => absurd h (by simp)), ?_, ?_⟩
    · intro row hr
      obtain ⟨i, hi, rfl⟩ := List.mem_map.1 hr
      obtain ⟨row, y, h1, h2, h3⟩ := each i (List.mem_range.1 hi)
      refine ⟨n, y, by rw [h1]; exact h2, fun m hm => hz m ?_⟩
      simp only [DataW.weights, ht, List.mem_cons, List.mem_append]
      exact .inr (.inl (mem_weightsAll (List.mem_map.2 ⟨y, List.mem_of_getElem? h3, rfl⟩) hm))
    · intro h0
      have hpos : 0 < len := by simpa using h0
      have cellAt : ∀ i, i < len → ∀ j, j < k → ∃ u, w.cell? (a.add (i * k + j)) = some u ∧ ((w.cells? 0 (a.add (i * k)) k).getD [])[j]? = some u := by
        intro i hi j hj
        obtain ⟨row, y, h1, _, _⟩ := each i hi
        obtain ⟨_, hrl, hat⟩ := World.cells?_some h1
        refine ⟨row[j]'(by omega), ?_, ?_⟩
        · rw [← addr_two, hat j hj]; exact List.getElem?_eq_getElem _
        · rw [h1]; exact List.getElem?_eq_getElem _
      obtain ⟨b, off, spot⟩ := a
      obtain ⟨u, hu, _⟩ := cellAt 0 hpos 0 hk
      have hspot : spot = none := by simpa [Addr.add] using World.cell?_spot hu
      subst hspot
      refine ⟨b, off, rfl, by have := cell_lt hu; simpa [Addr.add] using this, fun i row hr j u hv => ?_⟩
      have hi : i < len := by
        have := (List.getElem?_eq_some_iff.1 hr).1
        simpa using this
      have hrow : row = (w.cells? 0 ((⟨b, off, none⟩ : Addr).add (i * k)) k).getD [] := by
        rw [List.getElem?_map, List.getElem?_range hi] at hr
        simpa using hr.symm
      have hj : j < k := by
        obtain ⟨r2, _, h1, _, _⟩ := each i hi
        have hl2 := (World.cells?_some h1).2.1
        have := (List.getElem?_eq_some_iff.1 hv).1
        rw [hrow, h1] at this
        simp at this; omega
      obtain ⟨u', hu1, hu2⟩ := cellAt i hi j hj
      rw [hrow, hu2] at hv
      rw [← Go.WideShapes.add_plain, hu1, ← hv]
end

end Go.Proofs.YtljaahemlcaffaaGreat
namespace Go.Proofs.YtljaahemlcaffaaGreat
open Go.ChangeShapes Go.WideShapes Go.ChangeAt Go.RowKit
set_option linter.unusedVariables false

def FitsI (n : Int) : Prop := -9223372036854775808 ≤ n ∧ n ≤ 9223372036854775807
/-- where fields that lie one behind the other, from o on, end -/
def endsAt (P : Program) : Nat → List Field → Option Nat
  | o, [] => some o
  | o, f :: r => if f.offset = o then endsAt P (o + P.cellsOf f.type) r else none
/-- all cells of such a type are ints -/
def flatB (P : Program) : Nat → TypeId → Bool
  | 0, _ => false
  | n + 1, t => match P.underlying t with
    | some (.int .i64) => true
    | some (.struct fs) => (fs.toList.all fun f => flatB P n f.type) && (endsAt P 0 fs.toList == some (P.cellsOf t))
    | _ => false
def IsInts (row : List Value) : Prop := ∃ l : List Int, row = ints l ∧ I64 l
theorem isInts_app {a b : List Value} (ha : IsInts a) (hb : IsInts b) : IsInts (a ++ b) := by
  obtain ⟨l, rfl, hl⟩ := ha
  obtain ⟨m, rfl, hm⟩ := hb
  refine ⟨l ++ m, by simp [ints], fun x hx => ?_⟩
  rcases List.mem_append.1 hx with h | h
  · exact hl x h
  · exact hm x h
section
variable {H : Type} {enc : TypeId × Value → H} {P : Program} {w : World} {t e : TypeId} {v : Value} {d : DataW H} {ps : List MemPlace} {b0 : Nat}
theorem ends_le : ∀ (fs : List Field) (o z : Nat), endsAt P o fs = some z → o ≤ z
  | [], o, z, h => by
    simp only [endsAt, Option.some.injEq] at h
    omega
  | f :: r, o, z, h => by
    simp only [endsAt] at h
    split at h
    · have := ends_le r _ z h
      omega
    · cases h
theorem flat_pieces (row : List Value) : ∀ (fs : List Field) (o z : Nat), endsAt P o fs = some z → (∀ f ∈ fs, IsInts ((row.drop f.offset).take (P.cellsOf f.type))) → IsInts ((row.drop o).take (z - o))
  | [], o, z, h, _ => by
    simp only [endsAt, Option.some.injEq] at h
    subst h
    exact ⟨[], by simp [ints], fun x hx => by cases hx⟩
  | f :: r, o, z, h, hp => by
    simp only [endsAt] at h
    split at h
    · rename_i ho
      have h1 := hp f (List.mem_cons_self)
      have h2 := flat_pieces row r _ z h (fun g hg => hp g (List.mem_cons_of_mem _ hg))
      have h3 := ends_le r _ z h
      rw [ho] at h1
      have e : (row.drop o).take (z - o) = (row.drop o).take (P.cellsOf f.type) ++ (row.drop (o + P.cellsOf f.type)).take (z - (o + P.cellsOf f.type)) := by
        rw [show z - o = P.cellsOf f.type + (z - (o + P.cellsOf f.type)) by omega, List.take_add, List.drop_drop]
      rw [e]
      exact isInts_app h1 h2
    · cases h
theorem flat_row : ∀ (n : Nat) (t : TypeId), flatB P n t = true → ∀ (m : Nat) (row : List Value) (y : DataW H × List MemPlace), DataW.trod enc P w 0 (fun _ => true) true m t row = some y → IsInts row
  | 0, t, h, _, _, _, _ => by simp [flatB] at h
  | n + 1, t, h, m, row, y, hy => by
    simp only [flatB] at h
    split at h
    · rename_i hu
      obtain ⟨x, e, _, wx⟩ := DataW.trod_int hu hy
      exact ⟨[x], by rw [e]; rfl, fun z hz => by
        rw [List.mem_singleton.1 hz]
        exact wf_bd wx⟩
    · rename_i fs hu
      simp only [Bool.and_eq_true, List.all_eq_true, beq_iff_eq] at h
      obtain ⟨h1, h2⟩ := h
      obtain ⟨xs, k, _, _, hl, hxl, hf⟩ := DataW.trod_struct hu hy
      have := flat_pieces (P := P) row fs.toList 0 _ h2 (fun f hmem => by
        obtain ⟨i, hi⟩ := List.mem_iff_getElem?.1 hmem
        have hi' : fs[i]? = some f := by simpa using hi
        have h3 := hf i f hi'
        have hlt : i < xs.length := by
          rw [hxl]
          exact (Array.getElem?_eq_some_iff.1 hi').1
        rw [List.getElem?_eq_getElem hlt] at h3
        exact flat_row n f.type (h1 f hmem) _ _ _ h3)
      rw [List.drop_zero, Nat.sub_zero, ← hl, List.take_length] at this
      exact this
    · cases h
theorem in_flat {fs : Array Field} (n : Nat) (ht : P.underlying t = some (.struct fs)) (hb : flatB P n t = true) (hval : Value.okWide P w .any b0 t v) (hd : DataW.Trod enc P w 0 (fun _ => true) true t v d ps) :
    ∃ l : List Int, v = .agg (ints l).toArray ∧ l.length = P.cellsOf t ∧ I64 l := by
  obtain ⟨cs, rfl, hsz⟩ := okWide_struct ht hval
  obtain ⟨fuel, hf⟩ := hd
  obtain ⟨l, e, hl⟩ := flat_row n t hb _ _ _ hf
  simp only [Value.cells] at e
  refine ⟨l, ?_, ?_, hl⟩
  · rw [← e]
  · have := congrArg List.length e
    simp only [ints, List.length_map, Array.length_toList] at this
    omega
theorem in_flats {k : Nat} {fs : Array Field} (n : Nat) (ht : P.underlying t = some (.slice e)) (he : P.underlying e = some (.struct fs)) (hc : P.cellsOf e = k) (hk : 0 < k) (hb : 1 ≤ P.bytesOf e) (hfl : flatB P n e = true)
    (hval : Value.okWide P w .any b0 t v) (hd : DataW.Trod enc P w 0 (fun _ => true) true t v d ps) (hz : ∀ n ∈ DataW.weights P t d, n ≤ reachBytes) :
    ∃ (A : Option Addr) (cap : Nat) (l : List (List Int)), v = .slice A l.length cap ∧ l.length ≤ cap ∧ cap ≤ 140737488351232 ∧ (∀ x ∈ l, x.length = k ∧ I64 x) ∧ ReadsK w w.heap.size A k (l.map ints) := by
  obtain ⟨A, cap, rows, rfl, hl, hcap, _, hr, hR⟩ := in_rows ht hc hk hb hval hd hz
  obtain ⟨l, rfl, hq⟩ := rows_map (f := ints) (Q := fun x => x.length = k ∧ I64 x) (rows := rows) (by
    intro row hrow
    obtain ⟨m, y, hy, _⟩ := hr row hrow
    obtain ⟨_, _, _, _, hlen, _⟩ := DataW.trod_struct he hy
    rw [hc] at hlen
    obtain ⟨l, rfl, hl⟩ := flat_row n e hfl _ _ _ hy
    exact ⟨l, rfl, by simpa [ints] using hlen, hl⟩)
  exact ⟨A, cap, l, by rw [List.length_map], by simpa using hl, hcap, hq, hR⟩
end
end Go.Proofs.YtljaahemlcaffaaGreat
namespace Go.Proofs.YtljaahemlcaffaaGreat
open Go.RowKit Pz
set_option linter.unusedVariables false

abbrev bnE (b : Bn) : List Value := b.row
abbrev OwnB (W : World) (B : Nat) (v : Value) (l : List Bn) : Prop := Rw bnE 42 11 W B v l
theorem bnE_len (x : Bn) : (bnE x).length = 11 := rfl
theorem bnE_one (x : Bn) : ∀ u ∈ bnE x, u.oneCell' = true := by
  intro u hu
  simp only [bnE, Bn.row, List.mem_cons, List.not_mem_nil, or_false] at hu
  rcases hu with rfl | rfl | rfl | rfl | rfl | rfl | rfl | rfl | rfl | rfl | rfl <;> rfl
theorem bundle_info : (Tryz.prog.info? 42).map (fun i => (i.zero, i.size, i.bytes)) = some (some (.agg #[.int .i64 0, .int .i64 0, .int .i64 0, .int .i64 0, .int .i64 0, .int .i64 0, .int .i64 0, .int .i64 0, .int .i64 0, .int .i64 0, .int .i64 0]), 11, 88) := by kernel_rfl
/-- these entities lie at A, below block B -/
def RdB (W : World) (B : Nat) (A : Option Addr) (l : List Bn) : Prop :=
  ∀ (j : Nat) (x : Bn), l[j]? = some x → ∃ g o, A = some ⟨g, o, none⟩ ∧ g < B ∧ (W.cell? ⟨g, o + j * 11, none⟩ = some (.int .i64 x.s) ∧ W.cell? ⟨g, o + j * 11 + 1, none⟩ = some (.int .i64 x.i) ∧ W.cell? ⟨g, o + j * 11 + 2, none⟩ = some (.int .i64 x.g) ∧ W.cell? ⟨g, o + j * 11 + 3, none⟩ = some (.int .i64 x.m) ∧ W.cell? ⟨g, o + j * 11 + 4, none⟩ = some (.int .i64 x.x) ∧ W.cell? ⟨g, o + j * 11 + 5, none⟩ = some (.int .i64 x.y) ∧ W.cell? ⟨g, o + j * 11 + 6, none⟩ = some (.int .i64 x.vx) ∧ W.cell? ⟨g, o + j * 11 + 7, none⟩ = some (.int .i64 x.vy) ∧ W.cell? ⟨g, o + j * 11 + 8, none⟩ = some (.int .i64 x.h) ∧ W.cell? ⟨g, o + j * 11 + 9, none⟩ = some (.int .i64 x.p) ∧ W.cell? ⟨g, o + j * 11 + 10, none⟩ = some (.int .i64 x.l))
section
variable {W W' : World} {B : Nat} {A : Option Addr} {l : List Bn}
theorem RdB.below (h : RdB W B A l) (hb : Below B W W') : RdB W' B A l := fun j x hx => by
  obtain ⟨g, o, e, hg, h0, h1, h2, h3, h4, h5, h6, h7, h8, h9, h10⟩ := h j x hx
  exact ⟨g, o, e, hg, (hb.cell (p := ⟨g, _, none⟩) hg).trans h0, (hb.cell (p := ⟨g, _, none⟩) hg).trans h1, (hb.cell (p := ⟨g, _, none⟩) hg).trans h2, (hb.cell (p := ⟨g, _, none⟩) hg).trans h3, (hb.cell (p := ⟨g, _, none⟩) hg).trans h4, (hb.cell (p := ⟨g, _, none⟩) hg).trans h5, (hb.cell (p := ⟨g, _, none⟩) hg).trans h6, (hb.cell (p := ⟨g, _, none⟩) hg).trans h7, (hb.cell (p := ⟨g, _, none⟩) hg).trans h8, (hb.cell (p := ⟨g, _, none⟩) hg).trans h9, (hb.cell (p := ⟨g, _, none⟩) hg).trans h10⟩
theorem RdB.more (h : RdB W B A l) {B' : Nat} (hB : B ≤ B') : RdB W B' A l := fun j x hx => by
  obtain ⟨g, o, e, hg, h⟩ := h j x hx
  exact ⟨g, o, e, by omega, h⟩
theorem RdB.of_own {c : Nat} {B0 : Nat} (h : OwnB W B0 (.slice A l.length c) l) : RdB W W.heap.size A l := fun j x hx => by
  obtain ⟨g, o, c', e, _, hg, hc⟩ := h.at_ hx
  cases e
  exact ⟨g, o, rfl, hg, (hc 0 _ rfl).1, (hc 1 _ rfl).1, (hc 2 _ rfl).1, (hc 3 _ rfl).1, (hc 4 _ rfl).1, (hc 5 _ rfl).1, (hc 6 _ rfl).1, (hc 7 _ rfl).1, (hc 8 _ rfl).1, (hc 9 _ rfl).1, (hc 10 _ rfl).1⟩
theorem RdB.of_reads (h : ReadsK W B A 11 (l.map Bn.row)) : RdB W B A l := fun j x hx => by
  have hj := (List.getElem?_eq_some_iff.1 hx).1
  obtain ⟨g, o, e, hg, hc⟩ := h (by rw [List.length_map]; omega)
  have hr : (l.map Bn.row)[j]? = some x.row := by rw [List.getElem?_map, hx]; rfl
  exact ⟨g, o, e, hg, hc j _ hr 0 _ rfl, hc j _ hr 1 _ rfl, hc j _ hr 2 _ rfl, hc j _ hr 3 _ rfl, hc j _ hr 4 _ rfl, hc j _ hr 5 _ rfl, hc j _ hr 6 _ rfl, hc j _ hr 7 _ rfl, hc j _ hr 8 _ rfl, hc j _ hr 9 _ rfl, hc j _ hr 10 _ rfl⟩
theorem own_at {c B0 : Nat} (h : OwnB W B0 (.slice A l.length c) l) {k : Nat} {y : Bn} (hk : l[k]? = some y) : ∃ g o, A = some ⟨g, o, none⟩ ∧ B0 ≤ g ∧ (W.cell? ⟨g, o + k * 11, none⟩ = some (.int .i64 y.s) ∧ W.cell? ⟨g, o + k * 11 + 1, none⟩ = some (.int .i64 y.i) ∧ W.cell? ⟨g, o + k * 11 + 2, none⟩ = some (.int .i64 y.g) ∧ W.cell? ⟨g, o + k * 11 + 3, none⟩ = some (.int .i64 y.m) ∧ W.cell? ⟨g, o + k * 11 + 4, none⟩ = some (.int .i64 y.x) ∧ W.cell? ⟨g, o + k * 11 + 5, none⟩ = some (.int .i64 y.y) ∧ W.cell? ⟨g, o + k * 11 + 6, none⟩ = some (.int .i64 y.vx) ∧ W.cell? ⟨g, o + k * 11 + 7, none⟩ = some (.int .i64 y.vy) ∧ W.cell? ⟨g, o + k * 11 + 8, none⟩ = some (.int .i64 y.h) ∧ W.cell? ⟨g, o + k * 11 + 9, none⟩ = some (.int .i64 y.p) ∧ W.cell? ⟨g, o + k * 11 + 10, none⟩ = some (.int .i64 y.l)) ∧ (W.frozen? ⟨g, o + k * 11, none⟩ = false ∧ W.frozen? ⟨g, o + k * 11 + 1, none⟩ = false ∧ W.frozen? ⟨g, o + k * 11 + 2, none⟩ = false ∧ W.frozen? ⟨g, o + k * 11 + 3, none⟩ = false ∧ W.frozen? ⟨g, o + k * 11 + 4, none⟩ = false ∧ W.frozen? ⟨g, o + k * 11 + 5, none⟩ = false ∧ W.frozen? ⟨g, o + k * 11 + 6, none⟩ = false ∧ W.frozen? ⟨g, o + k * 11 + 7, none⟩ = false ∧ W.frozen? ⟨g, o + k * 11 + 8, none⟩ = false ∧ W.frozen? ⟨g, o + k * 11 + 9, none⟩ = false ∧ W.frozen? ⟨g, o + k * 11 + 10, none⟩ = false) := by
  obtain ⟨g, o, c', e, hB, hg, hc⟩ := h.at_ hk
  cases e
  exact ⟨g, o, rfl, hB, ⟨(hc 0 _ rfl).1, (hc 1 _ rfl).1, (hc 2 _ rfl).1, (hc 3 _ rfl).1, (hc 4 _ rfl).1, (hc 5 _ rfl).1, (hc 6 _ rfl).1, (hc 7 _ rfl).1, (hc 8 _ rfl).1, (hc 9 _ rfl).1, (hc 10 _ rfl).1⟩, ⟨(hc 0 _ rfl).2, (hc 1 _ rfl).2, (hc 2 _ rfl).2, (hc 3 _ rfl).2, (hc 4 _ rfl).2, (hc 5 _ rfl).2, (hc 6 _ rfl).2, (hc 7 _ rfl).2, (hc 8 _ rfl).2, (hc 9 _ rfl).2, (hc 10 _ rfl).2⟩⟩
theorem idx_ne {o j k c e : Nat} (hne : j ≠ k) (hc : c < 11) (he : e < 11) : o + k * 11 + e ≠ o + (j * 11 + c) := by omega
/-- one entity of one's own row is another one -/
theorem own_set {g o n c B0 : Nat} (h : OwnB W B0 (.slice (some ⟨g, o, none⟩) n c) l) {k : Nat} (hk : k < l.length) (x : Bn) :
    OwnB (((((((((((W.setCell ⟨g, o + k * 11, none⟩ (.int .i64 x.s)).setCell ⟨g, o + k * 11 + 1, none⟩ (.int .i64 x.i)).setCell ⟨g, o + k * 11 + 2, none⟩ (.int .i64 x.g)).setCell ⟨g, o + k * 11 + 3, none⟩ (.int .i64 x.m)).setCell ⟨g, o + k * 11 + 4, none⟩ (.int .i64 x.x)).setCell ⟨g, o + k * 11 + 5, none⟩ (.int .i64 x.y)).setCell ⟨g, o + k * 11 + 6, none⟩ (.int .i64 x.vx)).setCell ⟨g, o + k * 11 + 7, none⟩ (.int .i64 x.vy)).setCell ⟨g, o + k * 11 + 8, none⟩ (.int .i64 x.h)).setCell ⟨g, o + k * 11 + 9, none⟩ (.int .i64 x.p)).setCell ⟨g, o + k * 11 + 10, none⟩ (.int .i64 x.l)) B0 (.slice (some ⟨g, o, none⟩) n c) (l.set k x) ∧ (∀ B', B' ≤ g → Below B' W (((((((((((W.setCell ⟨g, o + k * 11, none⟩ (.int .i64 x.s)).setCell ⟨g, o + k * 11 + 1, none⟩ (.int .i64 x.i)).setCell ⟨g, o + k * 11 + 2, none⟩ (.int .i64 x.g)).setCell ⟨g, o + k * 11 + 3, none⟩ (.int .i64 x.m)).setCell ⟨g, o + k * 11 + 4, none⟩ (.int .i64 x.x)).setCell ⟨g, o + k * 11 + 5, none⟩ (.int .i64 x.y)).setCell ⟨g, o + k * 11 + 6, none⟩ (.int .i64 x.vx)).setCell ⟨g, o + k * 11 + 7, none⟩ (.int .i64 x.vy)).setCell ⟨g, o + k * 11 + 8, none⟩ (.int .i64 x.h)).setCell ⟨g, o + k * 11 + 9, none⟩ (.int .i64 x.p)).setCell ⟨g, o + k * 11 + 10, none⟩ (.int .i64 x.l))) := by
  rcases h with ⟨e, _⟩ | ⟨g', o', cap, cur, e, h1, h2, h3, h4, h5, h6⟩
  · cases e
  · cases e
    refine ⟨.inr ⟨g, o, c, (((((((((((cur.setIfInBounds (o + k * 11) (.int .i64 x.s)).setIfInBounds (o + k * 11 + 1) (.int .i64 x.i)).setIfInBounds (o + k * 11 + 2) (.int .i64 x.g)).setIfInBounds (o + k * 11 + 3) (.int .i64 x.m)).setIfInBounds (o + k * 11 + 4) (.int .i64 x.x)).setIfInBounds (o + k * 11 + 5) (.int .i64 x.y)).setIfInBounds (o + k * 11 + 6) (.int .i64 x.vx)).setIfInBounds (o + k * 11 + 7) (.int .i64 x.vy)).setIfInBounds (o + k * 11 + 8) (.int .i64 x.h)).setIfInBounds (o + k * 11 + 9) (.int .i64 x.p)).setIfInBounds (o + k * 11 + 10) (.int .i64 x.l)), by rw [List.length_set], h1, Bx.set (Bx.set (Bx.set (Bx.set (Bx.set (Bx.set (Bx.set (Bx.set (Bx.set (Bx.set (Bx.set (h2) _) _) _) _) _) _) _) _) _) _) _, by rw [List.length_set]; exact h3, h4, by simpa using h5, fun j y hj c2 u hu => ?_⟩, fun B' hB => ?_⟩
    · have hc : c2 < 11 := (List.getElem?_eq_some_iff.1 hu).1
      by_cases hjk : j = k
      · subst hjk
        have hy : y = x := by
          rw [List.getElem?_set_self hk] at hj
          exact (Option.some.inj hj).symm
        subst hy
        have hlt : o + j * 11 + c2 < cur.size := by
          have : j * 11 + 11 ≤ c * 11 := by
            have := Nat.mul_le_mul_right 11 (show j + 1 ≤ c by omega)
            omega
          omega
        have : c2 = 0 ∨ c2 = 1 ∨ c2 = 2 ∨ c2 = 3 ∨ c2 = 4 ∨ c2 = 5 ∨ c2 = 6 ∨ c2 = 7 ∨ c2 = 8 ∨ c2 = 9 ∨ c2 = 10 := by omega
        rw [← Nat.add_assoc]
        rcases this with rfl | rfl | rfl | rfl | rfl | rfl | rfl | rfl | rfl | rfl | rfl <;> (simp only [Array.getElem?_setIfInBounds, Array.size_setIfInBounds, Nat.add_zero] at hlt ⊢; simp [hlt] ; simpa [bnE] using hu)
      · rw [List.getElem?_set_ne (fun e => hjk e.symm)] at hj
        have h7 := h6 j y hj c2 u hu
        rw [Array.getElem?_setIfInBounds_ne (by omega), Array.getElem?_setIfInBounds_ne (by omega), Array.getElem?_setIfInBounds_ne (by omega), Array.getElem?_setIfInBounds_ne (by omega), Array.getElem?_setIfInBounds_ne (by omega), Array.getElem?_setIfInBounds_ne (by omega), Array.getElem?_setIfInBounds_ne (by omega), Array.getElem?_setIfInBounds_ne (by omega), Array.getElem?_setIfInBounds_ne (by omega), Array.getElem?_setIfInBounds_ne (by omega), Array.getElem?_setIfInBounds_ne (by omega)]
        exact h7
    · have b0 : ∀ (V : World) (p : Nat) (v : Value), Below B' V (V.setCell ⟨g, p, none⟩ v) := fun V p v => (Below.refl _ _).setCell (p := ⟨g, p, none⟩) hB v
      exact ((((((((((b0 _ _ _).trans (b0 _ _ _)).trans (b0 _ _ _)).trans (b0 _ _ _)).trans (b0 _ _ _)).trans (b0 _ _ _)).trans (b0 _ _ _)).trans (b0 _ _ _)).trans (b0 _ _ _)).trans (b0 _ _ _)).trans (b0 _ _ _)
end
end Go.Proofs.YtljaahemlcaffaaGreat
namespace Go.Proofs.YtljaahemlcaffaaGreat
open Go.RowKit Pz
set_option linter.unusedVariables false
set_option linter.unusedSimpArgs false

abbrev Foot := Nat → Prop
/-- with all that was made since -/
def Gr (F : Foot) (n n' : Nat) : Foot := fun b => F b ∨ (n ≤ b ∧ b < n')
def Foot.no : Foot := fun _ => False
theorem Gr.self (F : Foot) (n : Nat) : Gr F n n = F := by
  funext b
  unfold Gr
  simp only [eq_iff_iff, or_iff_left_iff_imp]
  omega
theorem Gr.gr {F : Foot} {a b c : Nat} (h : a ≤ b) (h' : b ≤ c) : Gr (Gr F a b) b c = Gr F a c := by
  funext k
  unfold Gr
  simp only [eq_iff_iff]
  constructor
  · rintro ((h | h) | h)
    · exact .inl h
    · exact .inr (by omega)
    · exact .inr (by omega)
  · rintro (h | h)
    · exact .inl (.inl h)
    · by_cases k < b
      · exact .inl (.inr (by omega))
      · exact .inr (by omega)
theorem Gr.sub {F : Foot} {n n' b : Nat} (h : F b) : Gr F n n' b := .inl h
/-- of what was there nothing has turned but F's blocks -/
structure Only (F : Foot) (w W : World) : Prop where
  os : W.os = w.os
  tape : W.tape = w.tape
  output : W.output = w.output
  size : w.heap.size ≤ W.heap.size
  block : ∀ b, b < w.heap.size → ¬ F b → W.heap[b]? = w.heap[b]?
theorem Only.of_below {F : Foot} {w W : World} (h : Below w.heap.size w W) : Only F w W := ⟨h.os, h.tape, h.output, h.size, fun b hb _ => h.block b hb⟩
theorem Only.refl (F : Foot) (w : World) : Only F w w := ⟨rfl, rfl, rfl, Nat.le_refl _, fun _ _ _ => rfl⟩
theorem Only.trans {F : Foot} {w W V : World} (h : Only F w W) (k : Only (Gr F w.heap.size W.heap.size) W V) : Only F w V :=
  ⟨k.os.trans h.os, k.tape.trans h.tape, k.output.trans h.output, Nat.le_trans h.size k.size, fun b hb hn => (k.block b (Nat.lt_of_lt_of_le hb h.size) (fun e => e.elim hn (fun e => by omega))).trans (h.block b hb hn)⟩
theorem Only.tail {F : Foot} {w W V : World} (h : Only F w W) (k : Below W.heap.size W V) : Only F w V := h.trans (.of_below k)
theorem Only.below {F : Foot} {B : Nat} {w W : World} (h : Only F w W) (hF : ∀ b, F b → B ≤ b) (hB : B ≤ w.heap.size) : Below B w W :=
  ⟨h.os, h.tape, h.output, h.size, fun b hb => h.block b (by omega) (fun e => by have := hF b e; omega)⟩
theorem Only.of_grown {F : Foot} {w W : World} {p : Nat} (h : w.grownBy W (some p)) (hp : F p) : Only F w W := ⟨h.os, h.tape, h.output, h.size, fun b hb hn => h.block b hb (fun e => hn (by rw [Option.some.inj e]; exact hp))⟩
theorem Only.more {F F' : Foot} {w W : World} (h : Only F w W) (hF : ∀ b, F b → F' b) : Only F' w W := ⟨h.os, h.tape, h.output, h.size, fun b hb hn => h.block b hb (fun e => hn (hF b e))⟩
theorem Only.drew {F : Foot} {w W : World} (h : Only F w W) : Only F w W.drew := ⟨h.os, h.tape, h.output, h.size, h.block⟩
theorem Only.set {F : Foot} {w W : World} (h : Only F w W) {a : Addr} (ha : F a.block ∨ w.heap.size ≤ a.block) (v : Value) : Only F w (W.setCell a v) :=
  ⟨h.os, h.tape, h.output, by simpa using h.size, fun b hb hn => (Below.heap_setCell _ _ _ _ (fun e => by subst e; rcases ha with h | h; exact hn h; omega)).trans (h.block b hb hn)⟩

namespace Sp
/-- something that lies in its blocks -/
structure Piece where
  at_ : Foot → World → Prop
  kept : ∀ {F : Foot} {W V : World}, at_ F W → W.heap.size ≤ V.heap.size → (∀ k, F k → V.heap[k]? = W.heap[k]?) → at_ F V
  lt : ∀ {F : Foot} {W : World}, at_ F W → ∀ k, F k → k < W.heap.size
def All : List Piece → Foot → World → Prop
  | [], F, _ => ∀ k, ¬ F k
  | P :: L, F, W => ∃ G H : Foot, P.at_ G W ∧ All L H W ∧ (∀ k, G k → ¬ H k) ∧ ∀ k, F k ↔ G k ∨ H k
theorem All.kept : ∀ {L : List Piece} {F : Foot} {W V : World}, All L F W → W.heap.size ≤ V.heap.size → (∀ k, F k → V.heap[k]? = W.heap[k]?) → All L F V
  | [], _, _, _, h, _, _ => h
  | P :: L, F, W, V, ⟨G, H, h1, h2, h3, h4⟩, hs, hk => ⟨G, H, P.kept h1 hs fun k hG => hk k ((h4 k).2 (.inl hG)), h2.kept hs fun k hH => hk k ((h4 k).2 (.inr hH)), h3, h4⟩
theorem All.lt : ∀ {L : List Piece} {F : Foot} {W : World}, All L F W → ∀ k, F k → k < W.heap.size
  | [], _, _, h, k, hk => absurd hk (h k)
  | P :: L, F, W, ⟨G, H, h1, h2, h3, h4⟩, k, hk => by
    rcases (h4 k).1 hk with hG | hH
    · exact P.lt h1 k hG
    · exact h2.lt k hH
theorem All.split : ∀ {Ps L : List Piece} {F : Foot} {W : World}, All (Ps ++ L) F W → ∃ G H : Foot, All Ps G W ∧ All L H W ∧ (∀ k, G k → ¬ H k) ∧ ∀ k, F k ↔ G k ∨ H k
  | [], L, F, W, h => ⟨Foot.no, F, fun _ h => h, h, fun _ h => h.elim, fun k => ⟨.inr, fun h => h.elim (fun h => h.elim) id⟩⟩
  | P :: Ps, L, F, W, ⟨G, H, h1, h2, h3, h4⟩ => by
    obtain ⟨G', H', k1, k2, k3, k4⟩ := All.split h2
    refine ⟨fun k => G k ∨ G' k, H', ⟨G, G', h1, k1, fun k hk hk' => h3 k hk ((k4 k).2 (.inl hk')), fun k => Iff.rfl⟩, k2, fun k hk hk' => ?_, fun k => ?_⟩
    · rcases hk with hk | hk
      · exact h3 k hk ((k4 k).2 (.inr hk'))
      · exact k3 k hk hk'
    · rw [h4, k4, or_assoc]
theorem All.join : ∀ {Ps L : List Piece} {G H : Foot} {W : World}, All Ps G W → All L H W → (∀ k, G k → ¬ H k) → All (Ps ++ L) (fun k => G k ∨ H k) W
  | [], L, G, H, W, h1, h2, h3 => by
    have e : (fun k => G k ∨ H k) = H := funext fun k => propext ⟨fun h => h.elim (fun h => absurd h (h1 k)) id, .inr⟩
    rw [e]; exact h2
  | P :: Ps, L, G, H, W, ⟨G1, G2, k1, k2, k3, k4⟩, h2, h3 => by
    refine ⟨G1, _, k1, All.join k2 h2 fun k hk => h3 k ((k4 k).2 (.inr hk)), fun k hk hk' => ?_, fun k => ?_⟩
    · rcases hk' with hk' | hk'
      · exact k3 k hk hk'
      · exact h3 k ((k4 k).2 (.inl hk)) hk'
    · show (G k ∨ H k) ↔ _
      rw [k4, or_assoc]
theorem All.pull : ∀ {L : List Piece} {F : Foot} {W : World} (i : Nat) {P : Piece}, All L F W → L[i]? = some P → All (P :: L.eraseIdx i) F W
  | [], _, _, _, _, _, e => by simp at e
  | Q :: L, F, W, 0, P, h, e => by cases e; exact h
  | Q :: L, F, W, i + 1, P, ⟨G, H, h1, h2, h3, h4⟩, e => by
    obtain ⟨G', H', k1, k2, k3, k4⟩ := All.pull i h2 e
    refine ⟨G', fun k => G k ∨ H' k, k1, ⟨G, H', h1, k2, fun k hk hk' => h3 k hk ((k4 k).2 (.inr hk')), fun k => Iff.rfl⟩, fun k hk hk' => ?_, fun k => ?_⟩
    · rcases hk' with hk' | hk'
      · exact h3 k hk' ((k4 k).2 (.inl hk))
      · exact k3 k hk hk'
    · rw [h4, k4]
      constructor
      · rintro (h | h | h)
        · exact .inr (.inl h)
        · exact .inl h
        · exact .inr (.inr h)
      · rintro (h | h | h)
        · exact .inr (.inl h)
        · exact .inl h
        · exact .inr (.inr h)
theorem all_one {P : Piece} {G : Foot} {W : World} (h : P.at_ G W) : All [P] G W := ⟨G, Foot.no, h, fun _ h => h, fun _ _ h => h, fun k => ⟨.inl, fun h => h.elim id (fun h => h.elim)⟩⟩
theorem one_all {P : Piece} {G : Foot} {W : World} (h : All [P] G W) : P.at_ G W := by
  obtain ⟨G1, H, h1, h2, h3, h4⟩ := h
  have e : G = G1 := funext fun k => propext ⟨fun h => ((h4 k).1 h).elim id (fun h => absurd h (h2 k)), fun h => (h4 k).2 (.inl h)⟩
  rw [e]; exact h1
theorem all_two {P Q : Piece} {G H : Foot} {W : World} (h : P.at_ G W) (k : Q.at_ H W) (hd : ∀ k, G k → ¬ H k) : All [P, Q] (fun k => G k ∨ H k) W := ⟨G, H, h, all_one k, hd, fun _ => Iff.rfl⟩
theorem two_all {P Q : Piece} {F : Foot} {W : World} (h : All [P, Q] F W) : ∃ G H : Foot, P.at_ G W ∧ Q.at_ H W ∧ (∀ k, G k → ¬ H k) ∧ ∀ k, F k ↔ G k ∨ H k := by
  obtain ⟨G1, H, h1, h2, h3, h4⟩ := h
  exact ⟨G1, H, h1, one_all h2, h3, h4⟩
end Sp
open Sp
/-- these lie there, in blocks made since w -/
structure Sep (w : World) (L : List Piece) (W : World) : Prop where
  bel : Below w.heap.size w W
  is_ : ∃ F : Foot, All L F W ∧ ∀ k, F k → w.heap.size ≤ k
section
variable {w W V : World} {L Ps Qs : List Piece} {P Q : Piece}
theorem sep_new (w : World) : Sep w [] w := ⟨Below.refl _ _, Foot.no, fun _ h => h, fun _ h => h.elim⟩
/-- what follows of a turn in some of them -/
theorem Sep.turn (h : Sep w (Ps ++ L) W) : ∃ G : Foot, All Ps G W ∧ (∀ k, G k → w.heap.size ≤ k) ∧ ∀ (V : World) (Qs : List Piece) (G' : Foot), Only G W V → All Qs G' V → (∀ k, G' k → G k ∨ W.heap.size ≤ k) → Sep w (Qs ++ L) V := by
  obtain ⟨h0, F, h1, h2⟩ := h
  obtain ⟨G, H, k1, k2, k3, k4⟩ := h1.split
  refine ⟨G, k1, fun k hk => h2 k ((k4 k).2 (.inl hk)), fun V Qs G' hO hQ hG => ?_⟩
  have hl : All L H V := k2.kept hO.size fun k hk => hO.block k (k2.lt k hk) fun hg => k3 k hg hk
  have hb := hO.below (B := w.heap.size) (fun k hk => h2 k ((k4 k).2 (.inl hk))) h0.size
  refine ⟨h0.trans hb, _, hQ.join hl fun k hk hH => ?_, fun k hk => ?_⟩
  · rcases hG k hk with hg | hg
    · exact k3 k hg hH
    · have := k2.lt k hH; omega
  · rcases hk with hk | hk
    · rcases hG k hk with hg | hg
      · exact h2 k ((k4 k).2 (.inl hg))
      · exact Nat.le_trans h0.size hg
    · exact h2 k ((k4 k).2 (.inr hk))
theorem Sep.below (h : Sep w L W) (hb : Below W.heap.size W V) : Sep w L V := by
  obtain ⟨h0, F, h1, h2⟩ := h
  exact ⟨h0.trans (hb.mono h0.size), F, h1.kept hb.size fun k hk => hb.block k (h1.lt k hk), h2⟩
theorem Sep.pull (h : Sep w L W) (i : Nat) (e : L[i]? = some P) : Sep w (P :: L.eraseIdx i) W := by
  obtain ⟨h0, F, h1, h2⟩ := h
  exact ⟨h0, F, h1.pull i e, h2⟩
theorem Sep.drop (h : Sep w (P :: L) W) : Sep w L W := by
  obtain ⟨h0, F, ⟨G, H, h1, h2, h3, h4⟩, h5⟩ := h
  exact ⟨h0, H, h2, fun k hk => h5 k ((h4 k).2 (.inr hk))⟩
theorem Sep.first (h : Sep w (P :: L) W) : ∃ G, P.at_ G W := by
  obtain ⟨h0, F, ⟨G, H, h1, h2, h3, h4⟩, h5⟩ := h
  exact ⟨G, h1⟩
theorem Sep.get (h : Sep w L W) (i : Nat) (e : L[i]? = some P) : ∃ G, P.at_ G W := (h.pull i e).first
/-- something new beside them -/
theorem Sep.add {G : Foot} (h : Sep w L W) (hb : Below W.heap.size W V) (hP : P.at_ G V) (hG : ∀ k, G k → W.heap.size ≤ k) : Sep w (P :: L) V := by
  obtain ⟨G0, k1, _, k2⟩ := Sep.turn (Ps := []) (L := L) h
  exact k2 V [P] G (Only.of_below hb) (all_one hP) fun k hk => .inr (hG k hk)
theorem Sep.one (h : Sep w (P :: L) W) : ∃ G : Foot, P.at_ G W ∧ (∀ k, G k → w.heap.size ≤ k) ∧ ∀ (V : World) (Q : Piece) (G' : Foot), Only G W V → Q.at_ G' V → (∀ k, G' k → G k ∨ W.heap.size ≤ k) → Sep w (Q :: L) V := by
  obtain ⟨G, k1, k2, k3⟩ := Sep.turn (Ps := [P]) (L := L) h
  exact ⟨G, one_all k1, k2, fun V Q G' a b c => k3 V [Q] G' a (all_one b) c⟩
end
namespace Sp
def box (b : Nat) (o : Obj) : Piece := ⟨fun F W => W.heap[b]? = some o ∧ ∀ k, F k ↔ k = b, fun h hs hk => ⟨(hk b ((h.2 b).2 rfl)).trans h.1, h.2⟩, fun h k hk => by
  rw [(h.2 k).1 hk]; exact Bx.lt h.1⟩
def row {α : Type} (enc : α → List Value) (T n : Nat) (v : Value) (l : List α) : Piece := ⟨fun F W => Rw enc T n W 0 v l ∧ ∀ k, F k ↔ v.ownBlock = some k, fun h hs hk => ⟨h.1.kept fun b hb => hk b ((h.2 b).2 hb), h.2⟩, fun h k hk => by
  obtain ⟨_, cur, hc⟩ := h.1.blk ((h.2 k).1 hk)
  exact Bx.lt hc⟩
abbrev rowB (v : Value) (l : List Bn) : Piece := row bnE 42 11 v l
end Sp
section
variable {w W V : World} {L : List Piece}
theorem sep_box (h : Sep w L W) (o : Obj) : Sep w (box W.heap.size o :: L) (W.alloc o) :=
  h.add (P := box W.heap.size o) (G := fun k => k = W.heap.size) (bel1 W o) ⟨at1 W o, fun k => Iff.rfl⟩ fun k hk => by rw [hk]; exact Nat.le_refl _
theorem sep_row {α : Type} {enc : α → List Value} {T n : Nat} {v : Value} {l : List α} (h : Sep w L W) (hb : Below W.heap.size W V) (ho : Rw enc T n V W.heap.size v l) : Sep w (row enc T n v l :: L) V :=
  h.add (P := row enc T n v l) (G := fun k => v.ownBlock = some k) hb ⟨ho.base (Nat.zero_le _), fun k => Iff.rfl⟩ fun k hk => (ho.blk hk).1
theorem row_none {α : Type} (enc : α → List Value) (T n : Nat) (h : Sep w L W) : Sep w (row enc T n (.slice none 0 0) [] :: L) W :=
  h.add (P := row enc T n (.slice none 0 0) []) (G := fun k => (Value.slice none 0 0).ownBlock = some k) (Below.refl _ _) ⟨rw_nil _ _, fun k => Iff.rfl⟩ fun k hk => by cases hk
theorem Sep.held {b : Nat} {o : Obj} (h : Sep w L W) (i : Nat) (e : L[i]? = some (box b o)) : W.heap[b]? = some o := by
  obtain ⟨G, hG⟩ := h.get i e; exact hG.1
theorem Sep.rows {α : Type} {enc : α → List Value} {T n : Nat} {v : Value} {l : List α} (h : Sep w L W) (i : Nat) (e : L[i]? = some (row enc T n v l)) : Rw enc T n W 0 v l := by
  obtain ⟨G, hG⟩ := h.get i e; exact hG.1
theorem Sep.drew (h : Sep w L W) : Sep w L W.drew := h.below (Below.refl _ _).drew
theorem Sep.stored {b : Nat} {v : Value} {T : Nat} (h : Sep w (box b (.cells #[v] T) :: L) W) (u : Value) : Sep w (box b (.cells #[u] T) :: L) (W.setCell ⟨b, 0, none⟩ u) := by
  obtain ⟨G, ⟨h1, h2⟩, _, next⟩ := h.one
  exact next _ (box b (.cells #[u] T)) G (Only.set (Only.refl _ _) (a := ⟨b, 0, none⟩) (.inl ((h2 b).2 rfl)) _) ⟨Bx.set h1 u, h2⟩ fun k hk => .inl hk
/-- one cell of a block, stored over -/
theorem Sep.cell {b o : Nat} {cs : Array Value} {T : Nat} (h : Sep w (box b (.cells cs T) :: L) W) (u : Value) : Sep w (box b (.cells (cs.setIfInBounds o u) T) :: L) (W.setCell ⟨b, o, none⟩ u) := by
  obtain ⟨G, ⟨h1, h2⟩, _, next⟩ := h.one
  exact next _ (box b (.cells (cs.setIfInBounds o u) T)) G (Only.set (Only.refl _ _) (a := ⟨b, o, none⟩) (.inl ((h2 b).2 rfl)) _) ⟨Bx.set h1 u, h2⟩ fun k hk => .inl hk
/-- an entity's block, stored over whole -/
theorem Sep.set11 {b : Nat} {v0 v1 v2 v3 v4 v5 v6 v7 v8 v9 v10 : Value} {T : Nat} (h : Sep w (box b (.cells #[v0, v1, v2, v3, v4, v5, v6, v7, v8, v9, v10] T) :: L) W) (u0 u1 u2 u3 u4 u5 u6 u7 u8 u9 u10 : Value) : Sep w (box b (.cells #[u0, u1, u2, u3, u4, u5, u6, u7, u8, u9, u10] T) :: L) (((((((((((W.setCell ⟨b, 0, none⟩ u0).setCell ⟨b, 1, none⟩ u1).setCell ⟨b, 2, none⟩ u2).setCell ⟨b, 3, none⟩ u3).setCell ⟨b, 4, none⟩ u4).setCell ⟨b, 5, none⟩ u5).setCell ⟨b, 6, none⟩ u6).setCell ⟨b, 7, none⟩ u7).setCell ⟨b, 8, none⟩ u8).setCell ⟨b, 9, none⟩ u9).setCell ⟨b, 10, none⟩ u10) := by
  have := (((((((((((h.cell (o := 0) u0).cell (o := 1) u1).cell (o := 2) u2).cell (o := 3) u3).cell (o := 4) u4).cell (o := 5) u5).cell (o := 6) u6).cell (o := 7) u7).cell (o := 8) u8).cell (o := 9) u9).cell (o := 10) u10)
  simpa using this
end
end Go.Proofs.YtljaahemlcaffaaGreat
