/- ArMem, ArMem2, ArRef1, ArApp, ArPut, ArPut2, ArCut, ArRem, ArGet, ArGet2, ArMem3, in one text. -/
import Derived.Test.YteollbioeamciaaKPu
import Derived.Test.YteollbioeamciaaKPz
import Derived.Test.YteollbioeamciaaKBase
import Derived.Deep.Upon
import Derived.Maps.OwnSet
import Derived.Deep.DeepCutAuto
namespace Go.Proofs.Yteollbioeamciaa
open Go.RowKit Pz Ar
set_option linter.unusedVariables false
set_option linter.unusedSimpArgs false

/-- whose blocks these are -/
abbrev Foot := Nat → Prop
/-- with all that was made since -/
def Gr (F : Foot) (n n' : Nat) : Foot := fun b => F b ∨ (n ≤ b ∧ b < n')
def Foot.no : Foot := fun _ => False
theorem Gr.self (F : Foot) (n : Nat) : Gr F n n = F := by
  funext b
  unfold Gr
  simp only [eq_iff_iff, or_iff_left_iff_imp]
  omega
theorem Gr.gr {F : Foot} {a b c : Nat} (h : a ≤ b) (h' : b ≤ c) : Gr (Gr F a b) b c = Gr F a c := by
  funext k
  unfold Gr
  simp only [eq_iff_iff]
  constructor
  · rintro ((h | h) | h)
    · exact .inl h
    · exact .inr (by omega)
    · exact .inr (by omega)
  · rintro (h | h)
    · exact .inl (.inl h)
    · by_cases k < b
      · exact .inl (.inr (by omega))
      · exact .inr (by omega)
theorem Gr.sub {F : Foot} {n n' b : Nat} (h : F b) : Gr F n n' b := .inl h
/-- of what was there nothing has turned but F's blocks -/
structure Only (F : Foot) (w W : World) : Prop where
  os : W.os = w.os
  tape : W.tape = w.tape
  output : W.output = w.output
  size : w.heap.size ≤ W.heap.size
  block : ∀ b, b < w.heap.size → ¬ F b → W.heap[b]? = w.heap[b]?
theorem Only.of_below {F : Foot} {w W : World} (h : Below w.heap.size w W) : Only F w W := ⟨h.os, h.tape, h.output, h.size, fun b hb _ => h.block b hb⟩
theorem Only.refl (F : Foot) (w : World) : Only F w w := ⟨rfl, rfl, rfl, Nat.le_refl _, fun _ _ _ => rfl⟩
theorem Only.trans {F : Foot} {w W V : World} (h : Only F w W) (k : Only (Gr F w.heap.size W.heap.size) W V) : Only F w V :=
  ⟨k.os.trans h.os, k.tape.trans h.tape, k.output.trans h.output, Nat.le_trans h.size k.size, fun b hb hn => (k.block b (Nat.lt_of_lt_of_le hb h.size) (fun e => e.elim hn (fun e => by omega))).trans (h.block b hb hn)⟩
theorem Only.tail {F : Foot} {w W V : World} (h : Only F w W) (k : Below W.heap.size W V) : Only F w V := h.trans (.of_below k)
theorem Only.below {F : Foot} {B : Nat} {w W : World} (h : Only F w W) (hF : ∀ b, F b → B ≤ b) (hB : B ≤ w.heap.size) : Below B w W :=
  ⟨h.os, h.tape, h.output, h.size, fun b hb => h.block b (by omega) (fun e => by have := hF b e; omega)⟩
theorem Only.of_grown {F : Foot} {w W : World} {p : Nat} (h : w.grownBy W (some p)) (hp : F p) : Only F w W := ⟨h.os, h.tape, h.output, h.size, fun b hb hn => h.block b hb (fun e => hn (by rw [Option.some.inj e]; exact hp))⟩
theorem Only.more {F F' : Foot} {w W : World} (h : Only F w W) (hF : ∀ b, F b → F' b) : Only F' w W := ⟨h.os, h.tape, h.output, h.size, fun b hb hn => h.block b hb (fun e => hn (hF b e))⟩
theorem Only.drew {F : Foot} {w W : World} (h : Only F w W) : Only F w W.drew := ⟨h.os, h.tape, h.output, h.size, h.block⟩
theorem Only.set {F : Foot} {w W : World} (h : Only F w W) {a : Addr} (ha : F a.block ∨ w.heap.size ≤ a.block) (v : Value) : Only F w (W.setCell a v) :=
  ⟨h.os, h.tape, h.output, by simpa using h.size, fun b hb hn => (Below.heap_setCell _ _ _ _ (fun e => by subst e; rcases ha with h | h; exact hn h; omega)).trans (h.block b hb hn)⟩

/-- tables: each a row of one's own, in F's blocks, no two in one -/
structure Tabs (F : Foot) (cs : Array Value) (t : Tb) (W : World) : Prop where
  tab : ∀ m, m < 32 → ∃ v, cs[m]? = some v ∧ OwnB W 0 v (t m) ∧ ∀ g, v.ownBlock = some g → F g
  apart : ∀ (m m' : Nat) (v v' : Value) (g : Nat), m < 32 → m' < 32 → m ≠ m' → cs[m]? = some v → cs[m']? = some v' → v.ownBlock = some g → v'.ownBlock ≠ some g
  few : ∀ m, (t m).length ≤ 100000
section
variable {F F' : Foot} {cs : Array Value} {t : Tb} {w W : World}
theorem Tabs.kept (h : Tabs F cs t w) (hk : ∀ b, F b → W.heap[b]? = w.heap[b]?) : Tabs F cs t W :=
  ⟨fun m hm => by
    obtain ⟨v, h1, h2, h3⟩ := h.tab m hm
    exact ⟨v, h1, h2.kept fun b hb => hk b (h3 b hb), h3⟩, h.apart, h.few⟩
theorem Tabs.more (h : Tabs F cs t w) (hF : ∀ b, F b → F' b) : Tabs F' cs t w :=
  ⟨fun m hm => by
    obtain ⟨v, h1, h2, h3⟩ := h.tab m hm
    exact ⟨v, h1, h2, fun g hg => hF g (h3 g hg)⟩, h.apart, h.few⟩
/-- another row for a table -/
theorem Tabs.up (h : Tabs F cs t w) (hF : ∀ b, F b → F' b) {m : Nat} (hm : m < 32) {v : Value} {l : List Bn}
    (hk : ∀ a u g, a < 32 → a ≠ m → cs[a]? = some u → u.ownBlock = some g → W.heap[g]? = w.heap[g]?) (ho : OwnB W 0 v l) (hl : l.length ≤ 100000)
    (hv : ∀ g, v.ownBlock = some g → F' g ∧ ∀ a u, a < 32 → a ≠ m → cs[a]? = some u → u.ownBlock ≠ some g) : Tabs F' (cs.setIfInBounds m v) (Ar.up t m l) W := by
  have hsz : m < cs.size := by obtain ⟨u, hu, _⟩ := h.tab m hm; exact (Array.getElem?_eq_some_iff.1 hu).1
  refine ⟨fun a ha => ?_, fun a a' x x' g ha ha' hne hx hx' hg hg' => ?_, fun a => ?_⟩
  · by_cases e : a = m
    · subst e
      rw [up_same]
      exact ⟨v, by simp [hsz], ho, fun g hg => (hv g hg).1⟩
    · rw [up_ne _ _ e]
      obtain ⟨u, hu, hou, hf⟩ := h.tab a ha
      exact ⟨u, by rw [Array.getElem?_setIfInBounds_ne (fun e' => e e'.symm)]; exact hu, hou.kept fun b hb => hk a u b ha e hu hb, fun g hg => hF g (hf g hg)⟩
  · by_cases e : a = m
    · subst e
      rw [Array.getElem?_setIfInBounds_self_of_lt hsz] at hx
      obtain rfl := Option.some.inj hx
      rw [Array.getElem?_setIfInBounds_ne hne] at hx'
      exact (hv g hg).2 a' x' ha' (fun e => hne e.symm) hx' hg'
    · rw [Array.getElem?_setIfInBounds_ne (fun e' => e e'.symm)] at hx
      by_cases e2 : a' = m
      · subst e2
        rw [Array.getElem?_setIfInBounds_self_of_lt hsz] at hx'
        obtain rfl := Option.some.inj hx'
        exact (hv g hg').2 a x ha hne hx hg
      · rw [Array.getElem?_setIfInBounds_ne (fun e' => e2 e'.symm)] at hx'
        exact h.apart a a' x x' g ha ha' hne hx hx' hg hg'
  · by_cases e : a = m
    · subst e; rw [up_same]; exact hl
    · rw [up_ne _ _ e]; exact h.few a
theorem Tabs.other (h : Tabs F cs t w) {q b : Nat} {u : Value} (hq : q < 32) (hu : cs[q]? = some u) (hb : u.ownBlock = some b) : F b ∧ ∃ cur, w.heap[b]? = some (.cells cur 36 (0, 0)) := by
  obtain ⟨v, h1, h2, h3⟩ := h.tab q hq
  rw [hu] at h1
  obtain rfl := Option.some.inj h1
  obtain ⟨_, cur, hc⟩ := h2.blk hb
  exact ⟨h3 b hb, cur, hc⟩
end

/-! ### the map -/
abbrev MT : TypeId := 65
abbrev idV (k : NK) : Value := .agg #[.int .i64 k.1, .int .i64 k.2.1, .int .i64 k.2.2]
abbrev plV (x : Nat × Nat) : Value := .agg #[.int .i64 (x.1 : Int), .int .i64 (x.2 : Int)]
/-- what a look for a name answers -/
def lookV : Option (Nat × Nat) → Value
  | some x => .tuple #[plV x, .bool true]
  | none => .tuple #[.agg #[.int .i64 0, .int .i64 0], .bool false]
abbrev kv (e : MapEntry) : Value × Value := (e.key, e.val)
abbrev encP (p : NK × Nat × Nat) : Value × Value := (idV p.1, plV p.2)
set_option maxRecDepth 100000 in
theorem check_id (em : Bool) (k : NK) (w : World) : (Instr.checkKey em 10000 34 (idV k)).run Try.prog w = .ok () w := by
  kernel_rfl
theorem stays_id (k : NK) (w : World) : (Instr.keyThatStays (idV k) (idV k)).run Try.prog w = .ok (idV k) w := by
  unfold Instr.keyThatStays
  have : Instr.sameBits 10000 (idV k) (idV k) = true := by simp [Instr.sameBits]
  rw [this]
  rfl
set_option maxRecDepth 100000 in
theorem eq_key (k k' : NK) (w : World) : (Op.equal 34 (idV k) (idV k')).run Try.prog w = .ok (decide (k = k')) w := by
  obtain ⟨a, b, c⟩ := k
  obtain ⟨d, e, f⟩ := k'
  have := eq_id 9998 a b c d e f w
  refine (show (Op.equal 34 (idV (a, b, c)) (idV (d, e, f))).run Try.prog w = _ from this).trans ?_
  congr 1
  rw [Bool.eq_iff_iff, decide_eq_true_eq]
  simp
theorem asking (k : NK) (w : World) : ∀ (es : List MapEntry) (L : List (NK × Nat × Nat)) (i : Nat), es.map kv = L.map encP →
    ((Instr.findAsking 34 (idV k) es i).run Try.prog w = .ok none w ∧ ∀ p ∈ L, p.1 ≠ k) ∨ ∃ j p, (Instr.findAsking 34 (idV k) es i).run Try.prog w = .ok (some (i + j, plV p.2)) w ∧ L[j]? = some p ∧ p.1 = k
  | [], L, i, h => by
    obtain rfl : L = [] := by cases L with | nil => rfl | cons _ _ => cases h
    exact .inl ⟨by simp [Instr.findAsking], by simp⟩
  | e :: es, L, i, h => by
    cases L with
    | nil => cases h
    | cons p L =>
      simp only [List.map_cons, List.cons.injEq, Prod.mk.injEq] at h
      obtain ⟨⟨hk, hv⟩, hr⟩ := h
      have hq := eq_key k p.1 w
      by_cases e1 : k = p.1
      · rw [decide_eq_true e1] at hq
        refine .inr ⟨0, p, ?_, rfl, e1.symm⟩
        simp [Instr.findAsking, hk, hq, hv]
      · rw [decide_eq_false e1] at hq
        rcases asking k w es L (i + 1) hr with ⟨h1, h2⟩ | ⟨j, q, h1, h2, h3⟩
        · refine .inl ⟨by simp [Instr.findAsking, hk, hq, h1], fun x hx => ?_⟩
          rcases List.mem_cons.1 hx with rfl | hx
          · exact fun e => e1 e.symm
          · exact h2 x hx
        · exact .inr ⟨j + 1, q, by simp [Instr.findAsking, hk, hq, h1, Nat.add_assoc, Nat.add_comm 1 j], h2, h3⟩
theorem finding (k : NK) (w : World) (es : Array MapEntry) (L : List (NK × Nat × Nat)) (h : es.toList.map kv = L.map encP) :
    ((Instr.findKey 34 (idV k) es.toList).run Try.prog w = .ok none w ∧ ∀ p ∈ L, p.1 ≠ k) ∨ ∃ j p, (Instr.findKey 34 (idV k) es.toList).run Try.prog w = .ok (some (j, plV p.2)) w ∧ L[j]? = some p ∧ p.1 = k := by
  have e : (Instr.findKey 34 (idV k) es.toList).run Try.prog w = (Instr.findAsking 34 (idV k) es.toList 0).run Try.prog w := by
    have hu : Try.prog.underlying 34 = some (.struct (Try.prog.fieldsOf 34)) := by kernel_rfl
    cases hl : es.toList with
    | nil => simp [Instr.findKey, run_underlying hu, Instr.findNow, Instr.findAsking]
    | cons x r => simp [Instr.findKey, run_underlying hu, Instr.findNow, Instr.sameNow]
  rw [e]
  rcases asking k w es.toList L 0 h with h | ⟨j, p, h1, h2⟩
  · exact .inl h
  · exact .inr ⟨j, p, by simpa using h1, h2⟩
/-- the map has these pairs -/
def MapIs (F : Foot) (W : World) (mv : Value) (L : List (NK × Nat × Nat)) : Prop :=
  (mv = .map none ∧ L = []) ∨ ∃ q es c, mv = .map (some q) ∧ F q ∧ W.heap[q]? = some (.map es c) ∧ es.toList.map kv = L.map encP
section
variable {F F' : Foot} {w W : World} {mv : Value} {L : List (NK × Nat × Nat)}
theorem MapIs.kept (h : MapIs F w mv L) (hk : ∀ b, F b → W.heap[b]? = w.heap[b]?) : MapIs F W mv L := by
  rcases h with h | ⟨q, es, c, h1, h2, h3, h4⟩
  · exact .inl h
  · exact .inr ⟨q, es, c, h1, h2, (hk q h2).trans h3, h4⟩
theorem MapIs.kept' (h : MapIs F w mv L) (hk : ∀ q, mv = .map (some q) → W.heap[q]? = w.heap[q]?) : MapIs F W mv L := by
  rcases h with h | ⟨q, es, c, h1, h2, h3, h4⟩
  · exact .inl h
  · exact .inr ⟨q, es, c, h1, h2, (hk q h1).trans h3, h4⟩
theorem MapIs.more (h : MapIs F w mv L) (hF : ∀ b, F b → F' b) : MapIs F' w mv L := by
  rcases h with h | ⟨q, es, c, h1, h2, h3, h4⟩
  · exact .inl h
  · exact .inr ⟨q, es, c, h1, hF q h2, h3, h4⟩
theorem find_none_of {k : NK} (h : ∀ p ∈ L, p.1 ≠ k) : (L.find? fun p => decide (p.1 = k)).map (·.2) = none := by
  rw [List.find?_eq_none.2 (fun p hp => by simpa using h p hp)]
  rfl
theorem find_some_of {k : NK} {j : Nat} {p : NK × Nat × Nat} (hn : (L.map (·.1)).Nodup) (hj : L[j]? = some p) (hp : p.1 = k) : (L.find? fun p => decide (p.1 = k)).map (·.2) = some p.2 := by
  cases hf : L.find? fun p => decide (p.1 = k) with
  | none =>
    have := List.find?_eq_none.1 hf p (List.mem_of_getElem? hj)
    simp [hp] at this
  | some q =>
    have h1 := List.mem_of_find?_eq_some hf
    have h2 : q.1 = k := of_decide_eq_true (List.find?_some (p := fun p : NK × Nat × Nat => decide (p.1 = k)) hf)
    obtain ⟨i, hi⟩ := List.mem_iff_getElem?.1 h1
    have : i = j := by
      have hi' := (List.getElem?_eq_some_iff.1 hi).1
      have hj' := (List.getElem?_eq_some_iff.1 hj).1
      refine (List.getElem?_inj (l := L.map (·.1)) (by simpa using hi') hn).1 ?_
      rw [List.getElem?_map, List.getElem?_map, hi, hj]
      simp [h2, hp]
    subst this
    rw [hi] at hj
    obtain rfl := Option.some.inj hj
    rfl
theorem zero_place (w : World) : (zeroValue 84).run Try.prog w = .ok (.agg #[.int .i64 0, .int .i64 0]) w := by kernel_rfl
theorem MapIs.look (h : MapIs F w mv L) (hn : (L.map (·.1)).Nodup) (k : NK) : (Instr.lookup MT mv (idV k) true).run Try.prog w = .ok (lookV ((L.find? fun p => decide (p.1 = k)).map (·.2))) w := by
  have ht : Try.prog.underlying MT = some (.map 34 84) := Try.underlying65
  rcases h with ⟨rfl, rfl⟩ | ⟨q, es, c, rfl, _, h3, h4⟩
  · rcases finding k w #[] [] rfl with ⟨h1, _⟩ | ⟨j, p, _, h2, _⟩
    · simp at h1
      simp [Instr.lookup, run_underlying ht, check_id, h1, zero_place, Result.andThen, lookV]
    · simp at h2
  · rcases finding k w es L h4 with ⟨h1, h2⟩ | ⟨j, p, h1, h2, h5⟩
    · rw [find_none_of h2]
      simp [Instr.lookup, run_underlying ht, MapKept.run_getObj_map h3, check_id, h1, zero_place, Result.andThen, lookV]
    · rw [find_some_of hn h2 h5]
      simp [Instr.lookup, run_underlying ht, MapKept.run_getObj_map h3, check_id, h1, Result.andThen, lookV]
theorem MapIs.len (h : MapIs F w mv L) (ty : TypeId) : (Builtin.len_ #[MT] ty #[mv]).run Try.prog w = .ok (.int .i64 (L.length : Int)) w := by
  have ht : Try.prog.underlying MT = some (.map 34 84) := Try.underlying65
  rcases h with ⟨rfl, rfl⟩ | ⟨q, es, c, rfl, _, h3, h4⟩
  · exact Maps.len_nil ht ty
  · have : es.size = L.length := by
      have := congrArg List.length h4
      simpa using this
    simp [Builtin.len_, run_underlying ht, MapKept.run_getObj_map h3, goInt, Result.andThen, this]
theorem set_is {k : NK} {j : Nat} {p : NK × Nat × Nat} (hn : (L.map (·.1)).Nodup) (hj : L[j]? = some p) (hp : p.1 = k) (x : Nat × Nat) : L.set j (k, x) = setK L k x ∧ L.eraseIdx j = delK L k := by
  have hj' := (List.getElem?_eq_some_iff.1 hj).1
  have key : ∀ (i : Nat) (q : NK × Nat × Nat), L[i]? = some q → (q.1 = k ↔ i = j) := fun i q hi => by
    constructor
    · intro e
      have hi' := (List.getElem?_eq_some_iff.1 hi).1
      refine (List.getElem?_inj (l := L.map (·.1)) (by simpa using hi') hn).1 ?_
      rw [List.getElem?_map, List.getElem?_map, hi, hj]
      simp [e, hp]
    · rintro rfl
      rw [hi] at hj
      rw [Option.some.inj hj]; exact hp
  constructor
  · apply List.ext_getElem?
    intro i
    unfold setK
    rw [List.getElem?_map, List.getElem?_set]
    by_cases e : j = i
    · subst e
      rw [if_pos rfl, if_pos hj', hj]
      simp [hp]
    · rw [if_neg e]
      cases hi : L[i]? with
      | none => rfl
      | some q =>
        have : ¬ q.1 = k := fun e2 => e ((key i q hi).1 e2).symm
        simp [this]
  · unfold delK
    refine (ChangeMaps.filter_eq_eraseIdx (fun q : NK × Nat × Nat => decide (q.1 = k)) L j p hj (by simp [hp]) ?_).symm
    have h2 : L.Pairwise (fun a b => a.1 ≠ b.1) := List.pairwise_map.1 hn
    refine h2.imp fun {a b} hne h => hne ?_
    rw [of_decide_eq_true h.1, of_decide_eq_true h.2]
end
end Go.Proofs.Yteollbioeamciaa
namespace Go.Proofs.Yteollbioeamciaa
open Go.RowKit Pz Ar
set_option linter.unusedVariables false
set_option linter.unusedSimpArgs false

section
variable {F F' : Foot} {w W : World} {mv : Value} {L : List (NK × Nat × Nat)} {q : Nat}
/-- the map's own block -/
theorem MapIs.own (h : MapIs F w (.map (some q)) L) : F q ∧ ∃ es c, w.heap[q]? = some (.map es c) := by
  rcases h with ⟨e, _⟩ | ⟨q', es, c, e, h1, h2, h3⟩
  · cases e
  · cases e; exact ⟨h1, es, c, h2⟩
/-- what a deed of the map leaves -/
structure Turned (q : Nat) (w W : World) : Prop where
  os : W.os = w.os
  tape : W.tape = w.tape
  output : W.output = w.output
  size : W.heap.size = w.heap.size
  block : ∀ b, b ≠ q → W.heap[b]? = w.heap[b]?
theorem Turned.of {es : Array MapEntry} {c : Nat} (hb : w.heap[q]? = some (.map es c)) (o : Obj) : Turned q w (ChangeMaps.setBlock w q o) ∧ (ChangeMaps.setBlock w q o).heap[q]? = some o :=
  ⟨⟨rfl, rfl, rfl, by simp [ChangeMaps.setBlock], fun b hne => ChangeMaps.heap_setBlock_other hb o hne⟩, ChangeMaps.heap_setBlock_same hb o⟩
theorem Turned.only (h : Turned q w W) (hq : F q) : Only F w W := ⟨h.os, h.tape, h.output, by rw [h.size]; exact Nat.le_refl _, fun b _ hn => h.block b (fun e => hn (e ▸ hq))⟩
theorem MapIs.new (h : MapIs F w (.map (some q)) L) {k : NK} (hk : ∀ p ∈ L, p.1 ≠ k) (x : Nat × Nat) : ∃ W, (Instr.mapUpdate MT (.map (some q)) (idV k) (plV x)).run Try.prog w = .ok () W ∧ MapIs F W (.map (some q)) (L ++ [(k, x)]) ∧ Turned q w W := by
  have ht : Try.prog.underlying MT = some (.map 34 84) := Try.underlying65
  rcases h with ⟨e, _⟩ | ⟨q', es, c, e, h1, h3, h4⟩
  · cases e
  · cases e
    rcases finding k w es L h4 with ⟨hf, _⟩ | ⟨j, p, _, h2, h5⟩
    · refine ⟨ChangeMaps.setBlock w q (.map (es.push ⟨idV k, plV x, c⟩) (c + 1)), ?_, .inr ⟨q, _, _, rfl, h1, (Turned.of h3 _).2, ?_⟩, (Turned.of h3 _).1⟩
      · simp [Instr.mapUpdate, run_underlying ht, MapKept.run_getObj_map h3, check_id, hf, MapKept.run_setObj_map _ h3, Result.andThen, ChangeMaps.setBlock]
      · simp [h4]
    · exact absurd h5 (hk p (List.mem_of_getElem? h2))
theorem MapIs.set (h : MapIs F w (.map (some q)) L) (hn : (L.map (·.1)).Nodup) {k : NK} {z : Nat × Nat} (hk : (k, z) ∈ L) (x : Nat × Nat) : ∃ W, (Instr.mapUpdate MT (.map (some q)) (idV k) (plV x)).run Try.prog w = .ok () W ∧ MapIs F W (.map (some q)) (setK L k x) ∧ Turned q w W := by
  have ht : Try.prog.underlying MT = some (.map 34 84) := Try.underlying65
  rcases h with ⟨e, _⟩ | ⟨q', es, c, e, h1, h3, h4⟩
  · cases e
  · cases e
    rcases finding k w es L h4 with ⟨_, hf⟩ | ⟨j, p, hf, h2, h5⟩
    · exact absurd rfl (hf _ hk)
    · have hes : ∃ e0, es[j]? = some e0 ∧ e0.key = idV k := by
        have hl := congrArg (·[j]?) h4
        simp only [List.getElem?_map, h2, Option.map_some, Array.getElem?_toList] at hl
        cases he : es[j]? with
        | none => rw [he] at hl; cases hl
        | some e0 =>
          rw [he] at hl
          simp only [Option.map_some, Option.some.injEq, Prod.mk.injEq] at hl
          exact ⟨e0, rfl, by rw [hl.1, h5]⟩
      obtain ⟨e0, he0, hk0⟩ := hes
      refine ⟨ChangeMaps.setBlock w q (.map (es.modify j fun e => { e with key := idV k, val := plV x }) c), ?_, .inr ⟨q, _, _, rfl, h1, (Turned.of h3 _).2, ?_⟩, (Turned.of h3 _).1⟩
      · simp [Instr.mapUpdate, run_underlying ht, MapKept.run_getObj_map h3, check_id, hf, he0, hk0, stays_id, MapKept.run_setObj_map _ h3, Result.andThen, ChangeMaps.setBlock]
      · rw [← (set_is hn h2 h5 x).1, List.map_set, ← h4, Array.toList_modify, ChangeMaps.modify_eq_set _ _ _ e0 (by simpa using he0), List.map_set]
theorem MapIs.del (h : MapIs F w (.map (some q)) L) (hn : (L.map (·.1)).Nodup) {k : NK} {z : Nat × Nat} (hk : (k, z) ∈ L) (ty : TypeId) : ∃ W, (Builtin.delete_ #[MT, 34] ty #[.map (some q), idV k]).run Try.prog w = .ok (.tuple #[]) W ∧ MapIs F W (.map (some q)) (delK L k) ∧ Turned q w W := by
  have ht : Try.prog.underlying MT = some (.map 34 84) := Try.underlying65
  rcases h with ⟨e, _⟩ | ⟨q', es, c, e, h1, h3, h4⟩
  · cases e
  · cases e
    rcases finding k w es L h4 with ⟨_, hf⟩ | ⟨j, p, hf, h2, h5⟩
    · exact absurd rfl (hf _ hk)
    · have hjs : j < es.size := by
        have hl := congrArg List.length h4
        have := (List.getElem?_eq_some_iff.1 h2).1
        simp at hl
        omega
      refine ⟨ChangeMaps.setBlock w q (.map (es.eraseIdxIfInBounds j) c), ?_, .inr ⟨q, _, _, rfl, h1, (Turned.of h3 _).2, ?_⟩, (Turned.of h3 _).1⟩
      · simp [Builtin.delete_, run_underlying ht, MapKept.run_getObj_map h3, check_id, hf, MapKept.run_setObj_map _ h3, Result.andThen, ChangeMaps.setBlock]
      · have hsub : (es.eraseIdxIfInBounds j).toList = es.toList.eraseIdx j := by
          unfold Array.eraseIdxIfInBounds
          rw [dif_pos hjs]
          simp
        rw [← (set_is hn h2 h5 (0, 0)).2, hsub, ChangeMaps.map_eraseIdx, ChangeMaps.map_eraseIdx, h4]
theorem mapIs_made (w : World) {F : Foot} (hF : F w.heap.size) : MapIs F (w.alloc (.map #[] 0)) (.map (some w.heap.size)) [] :=
  .inr ⟨w.heap.size, #[], 0, rfl, hF, heap_alloc_new w _, rfl⟩
end

/-! ### the document's store, the code's store -/
abbrev ST : TypeId := 29
abbrev AT : TypeId := 67
structure RS (F : Foot) (p : Nat) (t : Tb) (W : World) : Prop where
  head : ∃ cs, W.heap[p]? = some (.cells cs ST (0, 0)) ∧ cs.size = 32 ∧ Tabs F cs t W
  mine : F p
  lt : ∀ b, F b → b < W.heap.size
structure CS (F : Foot) (p : Nat) (t : Tb) (W : World) : Prop where
  head : ∃ cs mv L, W.heap[p]? = some (.cells cs AT (0, 0)) ∧ cs.size = 33 ∧ Tabs F cs t W ∧ cs[32]? = some mv ∧ MapIs F W mv L ∧ Rep L t
  good : Ar.Good t
  mine : F p
  lt : ∀ b, F b → b < W.heap.size
section
variable {F F' : Foot} {p : Nat} {t : Tb} {w W : World}
theorem RS.kept (h : RS F p t w) (hs : w.heap.size ≤ W.heap.size) (hk : ∀ b, F b → W.heap[b]? = w.heap[b]?) : RS F p t W := by
  obtain ⟨cs, h1, h2, h3⟩ := h.head
  exact ⟨⟨cs, (hk p h.mine).trans h1, h2, h3.kept hk⟩, h.mine, fun b hb => Nat.lt_of_lt_of_le (h.lt b hb) hs⟩
theorem RS.below (h : RS F p t w) (hb : Below w.heap.size w W) : RS F p t W := h.kept hb.size fun b hF => hb.block b (h.lt b hF)
theorem RS.other (h : RS F p t w) {G : Foot} (ho : Only G w W) (hd : ∀ b, F b → ¬ G b) : RS F p t W := h.kept ho.size fun b hF => ho.block b (h.lt b hF) (hd b hF)
theorem RS.more (h : RS F p t w) (hF : ∀ b, F b → F' b) (hl : ∀ b, F' b → b < w.heap.size) : RS F' p t w := by
  obtain ⟨cs, h1, h2, h3⟩ := h.head
  exact ⟨⟨cs, h1, h2, h3.more hF⟩, hF p h.mine, hl⟩
theorem RS.gr (h : RS F p t w) {n : Nat} : RS (Gr F n w.heap.size) p t w := h.more (fun b hb => .inl hb) (fun b hb => hb.elim (h.lt b) (fun e => e.2))
theorem RS.at_ (h : RS F p t w) {m : Nat} (hm : m < 32) : ∃ A c, w.cell? ⟨p, m, none⟩ = some (.slice A (t m).length c) ∧ OwnB w 0 (.slice A (t m).length c) (t m) := by
  obtain ⟨cs, h1, h2, h3⟩ := h.head
  obtain ⟨v, hv, ho, _⟩ := h3.tab m hm
  obtain ⟨A, c, rfl⟩ := ho.form
  exact ⟨A, c, (Bx.cell h1 hv).1, ho⟩
theorem RS.few (h : RS F p t w) (m : Nat) : (t m).length ≤ 100000 := by
  obtain ⟨cs, h1, h2, h3⟩ := h.head
  exact h3.few m
theorem CS.kept (h : CS F p t w) (hs : w.heap.size ≤ W.heap.size) (hk : ∀ b, F b → W.heap[b]? = w.heap[b]?) : CS F p t W := by
  obtain ⟨cs, mv, L, h1, h2, h3, h4, h5, h6⟩ := h.head
  exact ⟨⟨cs, mv, L, (hk p h.mine).trans h1, h2, h3.kept hk, h4, h5.kept hk, h6⟩, h.good, h.mine, fun b hb => Nat.lt_of_lt_of_le (h.lt b hb) hs⟩
theorem CS.below (h : CS F p t w) (hb : Below w.heap.size w W) : CS F p t W := h.kept hb.size fun b hF => hb.block b (h.lt b hF)
theorem CS.other (h : CS F p t w) {G : Foot} (ho : Only G w W) (hd : ∀ b, F b → ¬ G b) : CS F p t W := h.kept ho.size fun b hF => ho.block b (h.lt b hF) (hd b hF)
theorem CS.more (h : CS F p t w) (hF : ∀ b, F b → F' b) (hl : ∀ b, F' b → b < w.heap.size) : CS F' p t w := by
  obtain ⟨cs, mv, L, h1, h2, h3, h4, h5, h6⟩ := h.head
  exact ⟨⟨cs, mv, L, h1, h2, h3.more hF, h4, h5.more hF, h6⟩, h.good, hF p h.mine, hl⟩
theorem CS.gr (h : CS F p t w) {n : Nat} : CS (Gr F n w.heap.size) p t w := h.more (fun b hb => .inl hb) (fun b hb => hb.elim (h.lt b) (fun e => e.2))
theorem CS.at_ (h : CS F p t w) {m : Nat} (hm : m < 32) : ∃ A c, w.cell? ⟨p, m, none⟩ = some (.slice A (t m).length c) ∧ OwnB w 0 (.slice A (t m).length c) (t m) := by
  obtain ⟨cs, mv, L, h1, h2, h3, _⟩ := h.head
  obtain ⟨v, hv, ho, _⟩ := h3.tab m hm
  obtain ⟨A, c, rfl⟩ := ho.form
  exact ⟨A, c, (Bx.cell h1 hv).1, ho⟩
theorem CS.few (h : CS F p t w) (m : Nat) : (t m).length ≤ 100000 := by
  obtain ⟨cs, mv, L, h1, h2, h3, _⟩ := h.head
  exact h3.few m
/-- where a name stands, by the map -/
theorem CS.look (h : CS F p t w) : ∃ mv, w.cell? ⟨p, 32, none⟩ = some mv ∧ (∀ k, ∀ W, Below w.heap.size w W → (Instr.lookup MT mv (idV k) true).run Try.prog W = .ok (lookV (Ar.find t k)) W) ∧ ∀ ty W, Below w.heap.size w W → (Builtin.len_ #[MT] ty #[mv]).run Try.prog W = .ok (.int .i64 (total t : Int)) W := by
  obtain ⟨cs, mv, L, h1, h2, h3, h4, h5, h6⟩ := h.head
  refine ⟨mv, (Bx.cell h1 h4).1, fun k W hW => ?_, fun ty W hW => ?_⟩
  · rw [← h6.find k]
    exact (h5.kept fun b hF => hW.block b (h.lt b hF)).look h6.apart k
  · rw [← h6.len]
    exact (h5.kept fun b hF => hW.block b (h.lt b hF)).len ty
end
end Go.Proofs.Yteollbioeamciaa
namespace Go.Proofs.Yteollbioeamciaa
open Go.RowKit Pz
set_option linter.unusedVariables false
set_option linter.unusedSimpArgs false

namespace Ar
theorem rowOf_is {l : List Bn} {k : NK} {i : Nat} (hi : i < l.length) (he : l[i].id = k) (hn : ∀ (j : Nat) (hj : j < i), l[j].id ≠ k) : rowOf l k = some i :=
  List.findIdx?_eq_some_iff_getElem.2 ⟨hi, by simp [he], fun j hj => by simpa using hn j hj⟩
theorem rowOf_no {l : List Bn} {k : NK} (hn : ∀ (j : Nat) (hj : j < l.length), l[j].id ≠ k) : rowOf l k = none :=
  List.findIdx?_eq_none_iff.2 fun b hb => by
    obtain ⟨j, hj, rfl⟩ := List.getElem_of_mem hb
    simpa using hn j hj
theorem find_first {t : Tb} {k : NK} {m i : Nat} (hm : m < 32) (hn : ∀ a, a < m → rowOf (t a) k = none) (h : rowOf (t m) k = some i) : find t k = some (m, i) := by
  unfold find
  have e : List.range 32 = List.range m ++ m :: (List.range 32).drop (m + 1) := by
    have e1 := List.take_append_drop m (List.range 32)
    rw [List.take_range, Nat.min_eq_left (by omega), List.drop_eq_getElem_cons (by simpa using hm), List.getElem_range] at e1
    exact e1.symm
  rw [e, List.findSome?_append]
  have e2 : (List.range m).findSome? (fun m => (rowOf (t m) k).map (fun i => (m, i))) = none := List.findSome?_eq_none_iff.2 fun a ha => by rw [hn a (List.mem_range.1 ha)]; rfl
  rw [e2, List.findSome?_cons, h]
  rfl
theorem find_no {t : Tb} {k : NK} (hn : ∀ a, a < 32 → rowOf (t a) k = none) : find t k = none := by
  unfold find
  exact List.findSome?_eq_none_iff.2 fun a ha => by rw [hn a (List.mem_range.1 ha)]; rfl
/-- what the document's at answers -/
def atV (t : Tb) (k : NK) : Value := match find t k with | some (m, i) => .tuple #[.int .i64 (m : Int), .int .i64 (i : Int)] | none => .tuple #[.int .i64 (-1), .int .i64 (-1)]
end Ar
open Ar
/-- another row of its own for a table, its cell stored -/
theorem tabs_store {F F' : Foot} {cs : Array Value} {t : Tb} {w W : World} {p m : Nat} {X : TypeId} {v : Value} {l : List Bn} (hX : 36 ≠ X) (h : Tabs F cs t w) (hp : W.heap[p]? = some (.cells cs X (0, 0))) (hF : ∀ b, F b → F' b) (hm : m < 32)
    (hk : ∀ a u g, a < 32 → a ≠ m → cs[a]? = some u → u.ownBlock = some g → W.heap[g]? = w.heap[g]?) (ho : OwnB W 0 v l) (hl : l.length ≤ 100000)
    (hv : ∀ g, v.ownBlock = some g → F' g ∧ ∀ a u, a < 32 → a ≠ m → cs[a]? = some u → u.ownBlock ≠ some g) :
    (W.setCell ⟨p, m, none⟩ v).heap[p]? = some (.cells (cs.setIfInBounds m v) X (0, 0)) ∧ Tabs F' (cs.setIfInBounds m v) (up t m l) (W.setCell ⟨p, m, none⟩ v) := by
  refine ⟨Bx.set hp v, h.up hF hm (fun a u g ha hne hu hg => ?_) (ho.kept fun b hb => ?_) hl hv⟩
  · obtain ⟨_, cur, hc⟩ := h.other ha hu hg
    have e := hk a u g ha hne hu hg
    exact (Bx.ne (Bx.ne_type (e.trans hc) hp hX) _).trans e
  · obtain ⟨_, cur, hc⟩ := ho.blk hb
    exact Bx.ne (Bx.ne_type hc hp hX) _
/-- .. of the document's store: a new row -/
theorem RS.up {F : Foot} {p : Nat} {t : Tb} {w W : World} (h : RS F p t w) (hs : w.heap.size ≤ W.heap.size) (hk : ∀ k, k < w.heap.size → W.heap[k]? = w.heap[k]?) {m : Nat} (hm : m < 32) {v : Value} {l : List Bn} (ho : OwnB W 0 v l) (hl : l.length ≤ 100000) (hfr : ∀ g, v.ownBlock = some g → w.heap.size ≤ g) :
    RS (Gr F w.heap.size W.heap.size) p (Ar.up t m l) (W.setCell ⟨p, m, none⟩ v) := by
  obtain ⟨cs, h1, h2, h3⟩ := h.head
  have hp := h.lt p h.mine
  obtain ⟨a1, a2⟩ := tabs_store (F' := Gr F w.heap.size W.heap.size) (v := v) (l := l) (by decide) h3 ((hk p hp).trans h1) (fun b hb => .inl hb) hm (fun a u g ha _ hu hg => hk g (h.lt g (h3.other ha hu hg).1)) ho hl (fun g hg => by
    obtain ⟨_, cur, hc⟩ := ho.blk hg
    refine ⟨.inr ⟨hfr g hg, Bx.lt hc⟩, fun a u ha _ hu hg' => ?_⟩
    have := h.lt g (h3.other ha hu hg').1
    have := hfr g hg
    omega)
  exact ⟨⟨_, a1, by simpa using h2, a2⟩, .inl h.mine, fun b hb => by
    rw [World.size_setCell]
    rcases hb with hb | hb
    · have := h.lt b hb; omega
    · exact hb.2⟩
set_option maxHeartbeats 8000000 in
set_option maxRecDepth 100000 in
theorem rat_any {F : Foot} {p : Nat} {t : Tb} {w : World} (h : RS F p t w) (k1 k2 k3 : Int) : Calls Try.prog 51 #[.pointer (some ⟨p, 0, none⟩), .agg #[.int .i64 k1, .int .i64 k2, .int .i64 k3]] w fun e w' => e = .returned (atV t (k1, k2, k3)) ∧ Below w.heap.size w w' := by
  have T1 := Lib.hid (at1 w (.cells #[.int .i64 k1, .int .i64 k2, .int .i64 k3] 34))
  have HB := Lib.hid (bel1 w (.cells #[.int .i64 k1, .int .i64 k2, .int .i64 k3] 34))
  have HR := Lib.hid (h.below (bel1 w (.cells #[.int .i64 k1, .int .i64 k2, .int .i64 k3] 34)))
  have FIN : Hid (∀ m i, m < 32 → (∀ a, a < m → rowOf (t a) (k1, k2, k3) = none) → rowOf (t m) (k1, k2, k3) = some i → atV t (k1, k2, k3) = .tuple #[.int .i64 (m : Int), .int .i64 (i : Int)]) := Lib.hid fun m i hm hn hr => by unfold atV; rw [find_first hm hn hr]
  have NON : Hid ((∀ a, a < 32 → rowOf (t a) (k1, k2, k3) = none) → atV t (k1, k2, k3) = .tuple #[.int .i64 (-1), .int .i64 (-1)]) := Lib.hid fun hn => by unfold atV; rw [find_no hn]
  generalize atV t (k1, k2, k3) = RES at *
  clear h
  go_enter Try.func51, Try.ntmps51
  go_upto_region 1 with fail
  generalize w.alloc (.cells #[.int .i64 k1, .int .i64 k2, .int .i64 k3] 34) = w1 at *
  go_wp2
  go_loopw [6] (fun ix wr => ∃ m : Nat, m ≤ 32 ∧ ix = .int .i64 m ∧ Hid (Below w1.heap.size w1 wr) ∧ Hid (∀ a, a < m → rowOf (t a) (k1, k2, k3) = none)) (fun ix _ => 32 - (intOf ix).toNat)
  case atStart => exact ⟨0, by omega, rfl, Lib.hid (Below.refl _ _), Lib.hid (fun a ha => by omega)⟩
  case round =>
    obtain ⟨m, hm, rfl, HW, HN⟩ := hrel
    by_cases hlt : m < 32
    · have t1 : (m : Int) < 32 := by omega
      go_wp2
      go_loopw [7] (fun iy wq => ∃ i : Nat, i ≤ (t m).length ∧ iy = .int .i64 i ∧ Hid (Below w1.heap.size w1 wq) ∧ Hid (∀ (j : Nat) (hj : j < i) (hl : j < (t m).length), (t m)[j].id ≠ (k1, k2, k3))) (fun iy _ => (t m).length - (intOf iy).toNat)
      case atStart => exact ⟨0, by omega, rfl, HW, Lib.hid (fun j hj => by omega)⟩
      case round =>
        obtain ⟨i, hi, rfl, HQ, HJ⟩ := hrel
        obtain ⟨A, c, hc, ho⟩ := (HR.out.below HQ.out).at_ hlt
        have hfew : ((t m).length : Int) ≤ 100000 := by have := HR.out.few m; omega
        by_cases hil : i < (t m).length
        · have t2 : (i : Int) < ((t m).length : Int) := by omega
          obtain ⟨g, o, rfl, _, ⟨y0, y1, y2, y3, y4, y5, y6, y7, y8, y9, y10⟩, _⟩ := own_at ho (List.getElem?_eq_getElem hil)
          obtain ⟨⟨q0, q1, q2⟩, _⟩ := Bx.b3 ((HQ.out.block _ (Bx.lt T1.out)).trans T1.out)
          have EQ : ∀ V : World, (Op.equalIn 10000 34 (.agg #[.int .i64 (t m)[i].s, .int .i64 (t m)[i].i, .int .i64 (t m)[i].g]) (.agg #[.int .i64 k1, .int .i64 k2, .int .i64 k3])).run Try.prog V = .ok (decide ((t m)[i].id = (k1, k2, k3))) V := fun V => by
            rw [eq_id 9998]
            congr 1
            rw [Bool.eq_iff_iff, decide_eq_true_eq]
            simp [Bn.id]
          have NX : Hid (∀ n, Below w1.heap.size w1 (wr.drewN n)) := Lib.hid fun n => Below.dn' HQ.out n
          have YES : Hid ((t m)[i].id = (k1, k2, k3) → rowOf (t m) (k1, k2, k3) = some i) := Lib.hid fun e => rowOf_is hil e (fun j hj => HJ.out j hj (by omega))
          have NO : Hid (¬ (t m)[i].id = (k1, k2, k3) → ∀ (j : Nat) (hj : j < i + 1) (hl : j < (t m).length), (t m)[j].id ≠ (k1, k2, k3)) := Lib.hid fun e j hj hl => by
            by_cases he : j = i
            · subst he; exact e
            · exact HJ.out j (by omega) hl
          clear HJ ho T1 HQ NON y3 y4 y5 y6 y7 y8 y9 y10
          by_cases hid : (t m)[i].id = (k1, k2, k3)
          · have FF := FIN.out m i hlt HN.out (YES.out hid)
            rw [decide_eq_true hid] at EQ
            clear YES NO FIN HN hid HR
            generalize (t m)[i].s = z0 at *
            generalize (t m)[i].i = z1 at *
            generalize (t m)[i].g = z2 at *
            replace FF := Lib.hid FF
            go_wp2
            go_quiet (fail)
            go_wp2
            go_ret2
            rw [FF.out]
            exact ⟨rfl, HB.out.trans ((NX.out _).mono HB.out.size)⟩
          · have HJ2 := Lib.hid (NO.out hid)
            rw [decide_eq_false hid] at EQ
            clear YES NO FIN hid
            generalize (t m)[i].s = z0 at *
            generalize (t m)[i].i = z1 at *
            generalize (t m)[i].g = z2 at *
            go_wp2
            go_quiet (fail)
            go_wp2
            go_roundw
            case rel => exact ⟨i + 1, by omega, by go_num, Lib.hid (NX.out _), HJ2⟩
            case measure => simp [intOf]; omega
        · obtain rfl : i = (t m).length := by omega
          have t2 : ¬ ((t m).length : Int) < ((t m).length : Int) := by omega
          have HN2 : Hid (∀ a, a < m + 1 → rowOf (t a) (k1, k2, k3) = none) := Lib.hid fun a ha => by
            by_cases e : a = m
            · subst e; exact rowOf_no (fun j hj => HJ.out j hj hj)
            · exact HN.out a (by omega)
          clear HJ HN
          go_wp2
          go_roundw
          case rel => exact ⟨m + 1, by omega, by go_num, HQ, HN2⟩
          case measure => simp [intOf]; omega
    · obtain rfl : m = 32 := by omega
      have t1 : ¬ (32 : Int) < 32 := by omega
      have FF := Lib.hid (NON.out (fun a ha => HN.out a ha))
      clear NON FIN HN
      go_wp2
      go_ret2
      rw [FF.out]
      exact ⟨rfl, HB.out.trans (HW.out.mono HB.out.size)⟩
end Go.Proofs.Yteollbioeamciaa
namespace Go.Proofs.Yteollbioeamciaa
open Go.RowKit Pz Ar
set_option linter.unusedVariables false

theorem app_all {W : World} {B : Nat} {A : Option Addr} {c : Nat} {l : List Bn} (ho : OwnB W B (.slice A l.length c) l) (hl : l.length ≤ 1000000) (ty : TypeId) :
    ∃ v' w', (Builtin.append_ #[26, 26] ty #[.slice none 0 0, .slice A l.length c]).run Try.prog W = .ok v' w' ∧ OwnB w' W.heap.size v' l ∧ W.grownBy w' none := by
  by_cases h0 : 0 < l.length
  · obtain ⟨g, o, c', e, hB, hg, hc⟩ := ho.at_ (j := 0) (List.getElem?_eq_getElem h0)
    cases e
    obtain ⟨v', w', hr, ho', hgr, _⟩ := (rw_nil (enc := bnE) (T := 36) (s := 11) W W.heap.size).app (P := Try.prog) (t := 26) (ty := ty) Try.underlying26 bundle_info rfl (by decide) bnE_len bnE_one (Nat.le_refl _) l ⟨g, o, none⟩ c (fun j y hj c2 u hu => by
      obtain ⟨g2, o2, c3, e2, _, _, hc2⟩ := ho.at_ hj
      cases e2
      rw [Addr.add_mid]
      exact (hc2 c2 u hu).1) (by simpa using hl) (by decide) (.inl h0)
    exact ⟨v', w', hr, by simpa using ho', by simpa [Value.ownBlock] using hgr⟩
  · obtain rfl : l = [] := List.length_eq_zero_iff.1 (by omega)
    obtain ⟨i, hi, _, h2, _⟩ := info_parts (P := Try.prog) bundle_info
    have hs : Src Try.prog i.size 26 (.slice A 0 c) 0 [] W := by
      cases A with
      | none => exact Src.ofNil W Try.underlying26 c
      | some a => exact Src.ofSlice W Try.underlying26 a 0 c [] (by simp) (fun j u hj => by simp at hj) (by simp)
    exact ⟨_, W, run_append_nothing W _ _ ty _ i Try.underlying26 hi none 0 0 (Nat.le_refl _) _ hs, rw_nil _ _, World.grownBy.refl W _⟩
end Go.Proofs.Yteollbioeamciaa
namespace Go.Proofs.Yteollbioeamciaa
open Go.RowKit Pz Ar
set_option linter.unusedVariables false
set_option linter.unusedSimpArgs false

theorem app_one {W : World} {B0 : Nat} {v : Value} {l : List Bn} (h : OwnB W B0 v l) (hB : B0 ≤ W.heap.size) (x : Bn) (hn : l.length + 1 ≤ 1000000) (ty : TypeId) :
    ∃ v' w', (Builtin.append_ #[26, 26] ty #[v, .slice (some ⟨W.heap.size, 0, none⟩) 1 1]).run Try.prog (W.alloc (.cells #[.int .i64 x.s, .int .i64 x.i, .int .i64 x.g, .int .i64 x.m, .int .i64 x.x, .int .i64 x.y, .int .i64 x.vx, .int .i64 x.vy, .int .i64 x.h, .int .i64 x.p, .int .i64 x.l] 36)) = .ok v' w' ∧ OwnB w' B0 v' (l ++ [x]) ∧ (W.alloc (.cells #[.int .i64 x.s, .int .i64 x.i, .int .i64 x.g, .int .i64 x.m, .int .i64 x.x, .int .i64 x.y, .int .i64 x.vx, .int .i64 x.vy, .int .i64 x.h, .int .i64 x.p, .int .i64 x.l] 36)).grownBy w' v.ownBlock ∧ (∀ b, v.ownBlock = some b → B0 ≤ b) := by
  have hb := bel1 W (.cells #[.int .i64 x.s, .int .i64 x.i, .int .i64 x.g, .int .i64 x.m, .int .i64 x.x, .int .i64 x.y, .int .i64 x.vx, .int .i64 x.vy, .int .i64 x.h, .int .i64 x.p, .int .i64 x.l] 36)
  have ha := at1 W (.cells #[.int .i64 x.s, .int .i64 x.i, .int .i64 x.g, .int .i64 x.m, .int .i64 x.x, .int .i64 x.y, .int .i64 x.vx, .int .i64 x.vy, .int .i64 x.h, .int .i64 x.p, .int .i64 x.l] 36)
  have h2 := h.below hb
  obtain ⟨v', w', hr, ho, hg, _⟩ := h2.app (P := Try.prog) (t := 26) (ty := ty) Try.underlying26 bundle_info rfl (by decide) bnE_len bnE_one (Nat.le_trans hB hb.size) [x] ⟨W.heap.size, 0, none⟩ 1 (fun j y hj c u hu => by
    have hj0 : j = 0 := by
      have := (List.getElem?_eq_some_iff.1 hj).1
      simp at this
      exact this
    subst hj0
    have hy := Option.some.inj hj
    subst hy
    rw [Addr.add_mid, Nat.zero_mul, Nat.zero_add, Nat.zero_add]
    exact (Bx.cell ha (by simpa [bnE, Bn.row] using hu)).1) (by simpa using hn) (by decide) (.inl (by simp))
  exact ⟨v', w', hr, ho, hg, fun b hb' => (h.blk hb').1⟩
set_option maxHeartbeats 8000000 in
set_option maxRecDepth 100000 in
theorem rput_any {F : Foot} {p : Nat} {t : Tb} {w : World} (h : RS F p t w) (b : Bn) {m : Nat} (hm : m < 32) (hb : b.m = (m : Int)) (hl : (t m).length + 1 ≤ 100000) : Calls Try.prog 52 #[.pointer (some ⟨p, 0, none⟩), b.val] w fun e w' => e = .returned (.tuple #[]) ∧ RS (Gr F w.heap.size w'.heap.size) p (put0 t b) w' ∧ w.grownBy w' (some p) := by
  obtain ⟨A, c, hc, ho⟩ := h.at_ hm
  obtain ⟨bs, bi, bg, bm, bx, bY, bvx, bvy, bh, bp, bl⟩ := b
  simp only at hb
  subst hb
  simp only [Bn.val]
  have b1 := bel1 w (.cells #[.int .i64 bs, .int .i64 bi, .int .i64 bg, .int .i64 (m : Int), .int .i64 bx, .int .i64 bY, .int .i64 bvx, .int .i64 bvy, .int .i64 bh, .int .i64 bp, .int .i64 bl] 36)
  have T1 := Lib.hid (at1 w (.cells #[.int .i64 bs, .int .i64 bi, .int .i64 bg, .int .i64 (m : Int), .int .i64 bx, .int .i64 bY, .int .i64 bvx, .int .i64 bvy, .int .i64 bh, .int .i64 bp, .int .i64 bl] 36))
  have hp : p < w.heap.size := h.lt p h.mine
  go_enter Try.func52, Try.ntmps52
  go_upto_region 2 with fail
  generalize w.alloc (.cells #[.int .i64 bs, .int .i64 bi, .int .i64 bg, .int .i64 (m : Int), .int .i64 bx, .int .i64 bY, .int .i64 bvx, .int .i64 bvy, .int .i64 bh, .int .i64 bp, .int .i64 bl] 36) = w1 at *
  have hc1 : w1.cell? ⟨p, m, none⟩ = some (.slice A (t m).length c) := (b1.cell (p := ⟨p, m, none⟩) hp).trans hc
  obtain ⟨⟨k0, k1, k2, k3, k4, k5, k6, k7, k8, k9, k10⟩, _⟩ := Bx.b11 T1.out
  have ho1 := ho.below b1
  obtain ⟨v2, w2, hr2, ho2, hg2⟩ := app_all (W := w1.drew) (B := 0) (A := A) (c := c) (l := t m) ho1 (by omega) 26
  obtain ⟨A2, c2, rfl⟩ := ho2.form
  have HR := Lib.hid hr2
  clear hr2
  have hm2 : (m : Int) < 32 := by omega
  generalize hn : (t m).length = n at *
  replace hn := Lib.hid hn
  go_region_law (refine step_append rfl (.tmp 5) (.tmp 12) 26 26 rfl (.slice none 0 0) (.slice A n c) (by simp [Act.eval]) (by simp [Act.eval]) (.slice A2 n c2) w2 HR.out ?_)
  have g12 : w1.grownBy w2 none := ⟨hg2.os, hg2.tape, hg2.output, hg2.size, hg2.block⟩
  clear ho1
  have B2 : Below w1.heap.size w1 w2 := (Below.refl _ _).grown g12 (Nat.le_refl _) (fun k e => by cases e)
  have T2 := Lib.hid ((B2.block _ (Bx.lt T1.out)).trans T1.out)
  clear k0 k1 k2 k3 k4 k5 k6 k7 k8 k9 k10 HR
  obtain ⟨⟨k0, k1, k2, k3, k4, k5, k6, k7, k8, k9, k10⟩, _⟩ := Bx.b11 T2.out
  have ho2' : OwnB w2 w1.heap.size (.slice A2 n c2) (t m) := ho2
  obtain ⟨v3, w3, hr3, ho3, hg3, hrow3⟩ := app_one ho2' B2.size ⟨bs, bi, bg, (m : Int), bx, bY, bvx, bvy, bh, bp, bl⟩ (by have := hn.out; omega) 26
  obtain ⟨A3, c3, hv3⟩ := ho3.form
  generalize (t m ++ [(⟨bs, bi, bg, (m : Int), bx, bY, bvx, bvy, bh, bp, bl⟩ : Bn)]).length = n3 at hv3
  subst hv3
  have HR3 := Lib.hid hr3
  clear hr3
  go_upto_region 4 with (at_builtin; refine wpList_append _ rfl (.tmp 14) (.tmp 16) _ _ rfl _ _ rfl rfl _ _ HR3.out ?_)
  have g23 := hg3
  have b23 := bel1 w2 (.cells #[.int .i64 bs, .int .i64 bi, .int .i64 bg, .int .i64 (m : Int), .int .i64 bx, .int .i64 bY, .int .i64 bvx, .int .i64 bvy, .int .i64 bh, .int .i64 bp, .int .i64 bl] 36)
  have B3 : Below w1.heap.size w1 w3 := (B2.trans (b23.mono B2.size)).grown g23 (Nat.le_trans B2.size b23.size) (fun k e => hrow3 k e)
  have T3 := Lib.hid ((B3.block _ (Bx.lt T1.out)).trans T1.out)
  have HK : ∀ k, k < w.heap.size → w3.heap[k]? = w.heap[k]? := fun k hk => (B3.block k (by have := b1.size; omega)).trans (b1.block k hk)
  clear k0 k1 k2 k3 k4 k5 k6 k7 k8 k9 k10 HR3 T2 g23 b23
  obtain ⟨⟨k0, k1, k2, k3, k4, k5, k6, k7, k8, k9, k10⟩, _⟩ := Bx.b11 T3.out
  obtain ⟨cs, hcs, hsz, _⟩ := h.head
  have hcs3 := (HK p hp).trans hcs
  obtain ⟨u, hu⟩ : ∃ u, cs[m]? = some u := ⟨cs[m], Array.getElem?_eq_getElem (by omega)⟩
  have cm := (Bx.cell hcs3 hu).1
  have fm := (Bx.cell hcs3 hu).2
  have FIN : Hid (RS (Gr F w.heap.size (w3.setCell ⟨p, m, none⟩ (.slice A3 n3 c3)).heap.size) p (put0 t ⟨bs, bi, bg, (m : Int), bx, bY, bvx, bvy, bh, bp, bl⟩) (w3.setCell ⟨p, m, none⟩ (.slice A3 n3 c3))) := Lib.hid (by
    rw [World.size_setCell]
    have := h.up (Nat.le_trans b1.size B3.size) HK hm (ho3.base (Nat.zero_le _)) (by rw [List.length_append, hn.out]; simpa using hl) (fun g e => by have := (ho3.blk e).1; have := b1.size; omega)
    exact this)
  have G3 : Hid (w.grownBy (w3.setCell ⟨p, m, none⟩ (.slice A3 n3 c3)) (some p)) := Lib.hid (by
    have hb3 := (b1.trans (B3.mono b1.size))
    refine ⟨hb3.os, hb3.tape, hb3.output, by simpa using hb3.size, fun k hk hne => ?_⟩
    exact (Bx.ne (fun e => hne (by rw [e])) _).trans (hb3.block k hk))
  clear hu hcs hcs3 ho ho2 ho2' ho3 hg2 hg3 hrow3 g12 B2 B3 T1 T3 HK
  have k3' : w3.drew.cell? ⟨w.heap.size, 3, none⟩ = some (.int .i64 (m : Int)) := k3
  have cm' : w3.drew.cell? ⟨p, m, none⟩ = some u := cm
  have fm' : w3.drew.frozen? ⟨p, m, none⟩ = false := fm
  have FIN2 : Hid (RS (Gr F w.heap.size (w3.drew.setCell ⟨p, m, none⟩ (.slice A3 n3 c3)).heap.size) p (put0 t ⟨bs, bi, bg, (m : Int), bx, bY, bvx, bvy, bh, bp, bl⟩) (w3.drew.setCell ⟨p, m, none⟩ (.slice A3 n3 c3))) := Lib.hid (FIN.out.kept (Nat.le_refl _) (fun b _ => rfl))
  have G32 : Hid (w.grownBy (w3.drew.setCell ⟨p, m, none⟩ (.slice A3 n3 c3)) (some p)) := Lib.hid ⟨G3.out.os, G3.out.tape, G3.out.output, G3.out.size, G3.out.block⟩
  clear FIN G3 k0 k1 k2 k4 k5 k6 k7 k8 k9 k10 cm fm
  go_still_tail 7, (by kernel_rfl)
  change wpList _ _ _ _ _ w3.drew
  clear k3
  generalize w3.drew = w4 at *
  go_wp2
  go_end0
  exact ⟨rfl, FIN2.out, G32.out⟩
end Go.Proofs.Yteollbioeamciaa
namespace Go.Proofs.Yteollbioeamciaa
open Go.RowKit Pz Ar
set_option linter.unusedVariables false
set_option linter.unusedSimpArgs false

theorem grown_below {w W V : World} {row : Option Nat} (h : w.grownBy W row) (hb : Below W.heap.size W V) : w.grownBy V row :=
  ⟨hb.os.trans h.os, hb.tape.trans h.tape, hb.output.trans h.output, Nat.le_trans h.size hb.size, fun k hk hne => (hb.block k (Nat.lt_of_lt_of_le hk h.size)).trans (h.block k hk hne)⟩
theorem below_grown {w W : World} (hb : Below w.heap.size w W) (row : Option Nat) : w.grownBy W row := ⟨hb.os, hb.tape, hb.output, hb.size, fun k hk _ => hb.block k hk⟩
theorem grown_grown {w W V : World} {row : Option Nat} (h : w.grownBy W row) (k : W.grownBy V row) : w.grownBy V row :=
  ⟨k.os.trans h.os, k.tape.trans h.tape, k.output.trans h.output, Nat.le_trans h.size k.size, fun i hi hne => (k.block i (Nat.lt_of_lt_of_le hi h.size) hne).trans (h.block i hi hne)⟩
set_option maxHeartbeats 8000000 in
set_option maxRecDepth 100000 in
theorem rPut_any {F : Foot} {p : Nat} {t : Tb} {w : World} (h : RS F p t w) (b : Bn) (hf : Fit b.m) (hl : ∀ m, (t m).length + 1 ≤ 100000) : Calls Try.prog 30 #[.pointer (some ⟨p, 0, none⟩), b.val] w fun e w' => e = .returned (.int .i64 (Ar.put t b).2) ∧ RS (Gr F w.heap.size w'.heap.size) p (Ar.put t b).1 w' ∧ Only F w w' := by
  have MY := Lib.hid fun W => may_any b hf W
  have HA : Hid (∀ W, Below w.heap.size w W → Calls Try.prog 51 #[.pointer (some ⟨p, 0, none⟩), .agg #[.int .i64 b.s, .int .i64 b.i, .int .i64 b.g]] W fun e w' => e = .returned (atV t b.id) ∧ Below W.heap.size W w') := Lib.hid fun W hW => rat_any (h.below hW) _ _ _
  have PU : Hid (may b = true → ∀ W, Below w.heap.size w W → Calls Try.prog 52 #[.pointer (some ⟨p, 0, none⟩), b.val] W fun e w' => e = .returned (.tuple #[]) ∧ RS (Gr F w.heap.size w'.heap.size) p (put0 t b) w' ∧ Only F w w') := Lib.hid fun hm W hW => by
    have hr := may_mask hm
    refine (rput_any (h.below hW) b (m := b.m.toNat) (by omega) (by omega) (hl _)).mono ?_
    rintro e w' ⟨rfl, hr, hg⟩
    refine ⟨rfl, hr.more (fun x hx => hx.imp id fun hx => ⟨Nat.le_trans hW.size hx.1, hx.2⟩) (fun x hx => ?_), (Only.of_below hW).trans (.of_grown hg (.inl h.mine))⟩
    rcases hx with hx | hx
    · exact hr.lt x (.inl hx)
    · exact hx.2
  have RB : Hid (∀ W, Below w.heap.size w W → RS (Gr F w.heap.size W.heap.size) p t W ∧ Only F w W) := Lib.hid fun W hW => ⟨(h.below hW).gr, .of_below hW⟩
  have P1 : Hid (may b = false → Ar.put t b = (t, 1)) := Lib.hid fun hm => by unfold Ar.put; rw [hm]; rfl
  have P2 : Hid (may b = true → ∀ pr, find t b.id = some pr → Ar.put t b = (t, 7)) := Lib.hid fun hm pr hp => by unfold Ar.put; rw [hm, hp]; rfl
  have P3 : Hid (may b = true → find t b.id = none → Ar.put t b = (put0 t b, 0)) := Lib.hid fun hm hp => by unfold Ar.put; rw [hm, hp]; rfl
  generalize Ar.put t b = ANS at *
  clear h hf hl
  generalize put0 t b = t' at *
  unfold atV at HA
  generalize find t b.id = fd at *
  obtain ⟨my, hmy⟩ : ∃ x, may b = x := ⟨_, rfl⟩
  rw [hmy] at MY PU P1 P2 P3
  clear hmy
  obtain ⟨bs, bi, bg, bm, bx, bY, bvx, bvy, bh, bp, bl⟩ := b
  simp only [Bn.val] at *
  have T1 := Lib.hid (at1 w (.cells #[.int .i64 bs, .int .i64 bi, .int .i64 bg, .int .i64 bm, .int .i64 bx, .int .i64 bY, .int .i64 bvx, .int .i64 bvy, .int .i64 bh, .int .i64 bp, .int .i64 bl] 36))
  have BE := Lib.hid (bel1 w (.cells #[.int .i64 bs, .int .i64 bi, .int .i64 bg, .int .i64 bm, .int .i64 bx, .int .i64 bY, .int .i64 bvx, .int .i64 bvy, .int .i64 bh, .int .i64 bp, .int .i64 bl] 36))
  go_enter Try.func30, Try.ntmps30
  go_upto_region 1 with fail
  generalize w.alloc (.cells #[.int .i64 bs, .int .i64 bi, .int .i64 bg, .int .i64 bm, .int .i64 bx, .int .i64 bY, .int .i64 bvx, .int .i64 bvy, .int .i64 bh, .int .i64 bp, .int .i64 bl] 36) = w1 at *
  obtain ⟨⟨k0, k1, k2, k3, k4, k5, k6, k7, k8, k9, k10⟩, _⟩ := Bx.b11 T1.out
  go_wp2_with fail
  refine (MY.out w1).mono ?_
  rintro e w2 ⟨rfl, hb⟩
  replace BE := Lib.hid (BE.out.trans (hb.mono BE.out.size))
  replace T1 := Lib.hid ((hb.block _ (Bx.lt T1.out)).trans T1.out)
  clear hb MY k0 k1 k2 k3 k4 k5 k6 k7 k8 k9 k10
  cases my with
  | false =>
    obtain rfl := P1.out rfl
    go_wp2
    go_ret
    exact ⟨rfl, RB.out _ BE.out⟩
  | true =>
    obtain ⟨⟨k0, k1, k2, k3, k4, k5, k6, k7, k8, k9, k10⟩, _⟩ := Bx.b11 T1.out
    go_wp2_with fail
    refine (HA.out w2 BE.out).mono ?_
    rintro e w3 ⟨he, hb⟩
    replace BE := Lib.hid (BE.out.trans (hb.mono BE.out.size))
    replace T1 := Lib.hid ((hb.block _ (Bx.lt T1.out)).trans T1.out)
    clear hb HA k0 k1 k2 k3 k4 k5 k6 k7 k8 k9 k10
    cases fd with
    | some pr =>
      obtain ⟨m, i⟩ := pr
      subst he
      have t1 : (m : Int) ≥ 0 := by omega
      have t2 : decide ((m : Int) ≥ 0) = true := decide_eq_true t1
      obtain rfl := P2.out (by trivial) _ rfl
      go_wp2
      go_ret
      exact ⟨rfl, RB.out _ BE.out⟩
    | none =>
      subst he
      obtain rfl := P3.out (by trivial) rfl
      obtain ⟨⟨k0, k1, k2, k3, k4, k5, k6, k7, k8, k9, k10⟩, _⟩ := Bx.b11 T1.out
      go_wp2_with fail
      refine (PU.out (by trivial) w3 BE.out).mono ?_
      rintro e w4 ⟨rfl, hr, hg⟩
      go_wp2
      go_ret
      exact ⟨rfl, hr, hg⟩
end Go.Proofs.Yteollbioeamciaa
namespace Go.Proofs.Yteollbioeamciaa
open Go.RowKit Pz Ar
set_option linter.unusedVariables false
set_option linter.unusedSimpArgs false

theorem own_take {W : World} {B g o n c : Nat} {l : List Bn} (h : OwnB W B (.slice (some ⟨g, o, none⟩) n c) l) {k : Nat} (hk : k ≤ l.length) : OwnB W B (.slice (some ⟨g, o, none⟩) k c) (l.take k) := by
  rcases h with ⟨e, _⟩ | ⟨g', o', cap, cur, e, h1, h2, h3, h4, h5, h6⟩
  · cases e
  · cases e
    refine .inr ⟨g, o, c, cur, by rw [List.length_take, Nat.min_eq_left hk], h1, h2, by rw [List.length_take]; omega, h4, h5, fun j x hj c2 u hu => ?_⟩
    have hjk : j < k := by have := (List.getElem?_eq_some_iff.1 hj).1; rw [List.length_take] at this; omega
    rw [List.getElem?_take_of_lt hjk] at hj
    exact h6 j x hj c2 u hu
set_option maxHeartbeats 16000000 in
set_option maxRecDepth 100000 in
theorem rcut_any {F : Foot} {p : Nat} {t : Tb} {w : World} (h : RS F p t w) {m i : Nat} (hm : m < 32) (hi : i < (t m).length) : Calls Try.prog 53 #[.pointer (some ⟨p, 0, none⟩), .int .i64 (m : Int), .int .i64 (i : Int)] w fun e w' => e = .returned (.tuple #[]) ∧ RS (Gr F w.heap.size w'.heap.size) p (cut0 t m i) w' ∧ w.grownBy w' (some p) := by
  obtain ⟨A, c, hc, ho⟩ := h.at_ hm
  have hp : p < w.heap.size := h.lt p h.mine
  obtain ⟨v2, w2, hr2, ho2, hg2⟩ := app_all ho (by have := h.few m; omega) 26
  obtain ⟨g2, o2, c2, hv2, hgB, hgl, _⟩ := ho2.at_ (j := i) (List.getElem?_eq_getElem hi)
  subst hv2
  have hlast : (t m).length - 1 < (t m).length := by omega
  obtain ⟨g, o, e1, _, ⟨k0, k1, k2, k3, k4, k5, k6, k7, k8, k9, k10⟩, _⟩ := own_at ho2 (List.getElem?_eq_getElem hlast)
  cases e1
  obtain ⟨g', o', e2, _, ⟨h0, h1, h2, h3, h4, h5, h6, h7, h8, h9, h10⟩, ⟨f0, f1, f2, f3, f4, f5, f6, f7, f8, f9, f10⟩⟩ := own_at ho2 (List.getElem?_eq_getElem hi)
  cases e2
  have SET := own_set ho2 hi (t m)[(t m).length - 1]
  have HL : cutL (t m) i = ((t m).set i (t m)[(t m).length - 1]).take ((t m).length - 1) := by unfold cutL; rw [List.getElem?_eq_getElem hlast]
  have B2 : Below w.heap.size w w2 := (Below.refl _ _).grown hg2 (Nat.le_refl _) (fun k e => by cases e)
  have FIN : Hid (∀ W, w.heap.size ≤ W.heap.size → (∀ k, k < w.heap.size → W.heap[k]? = w.heap[k]?) → OwnB W w.heap.size (.slice (some ⟨g2, o2, none⟩) ((t m).length - 1) c2) (cutL (t m) i) → RS (Gr F w.heap.size (W.setCell ⟨p, m, none⟩ (.slice (some ⟨g2, o2, none⟩) ((t m).length - 1) c2)).heap.size) p (cut0 t m i) (W.setCell ⟨p, m, none⟩ (.slice (some ⟨g2, o2, none⟩) ((t m).length - 1) c2))) := Lib.hid fun W hs hk hO => by
    rw [World.size_setCell]
    exact h.up hs hk hm (hO.base (Nat.zero_le _)) (by rw [cutL_len]; have := h.few m; omega) (fun g e => (hO.blk e).1)
  obtain ⟨cs, hcs, hsz, _⟩ := h.head
  obtain ⟨u, hu⟩ : ∃ u, cs[m]? = some u := ⟨cs[m], Array.getElem?_eq_getElem (by omega)⟩
  have ho3 := own_take SET.1 (k := (t m).length - 1) (by simp)
  rw [← HL] at ho3
  have b3 := SET.2 w.heap.size hgB
  have hfew := h.few m
  have hcap : (t m).length ≤ c2 := by
    rcases ho2 with ⟨e, _⟩ | ⟨_, _, _, _, e, _, _, e3, _⟩
    · cases e
    · cases e; exact e3
  have HR := Lib.hid hr2
  have K3 : Hid (∀ k, k < w.heap.size → w2.heap[k]? = w.heap[k]?) := Lib.hid fun k hk => B2.block k hk
  have HB3 := b3
  have HO3 := ho3
  clear SET HL ho3 b3 hr2 ho2 hg2 hgl
  generalize (t m)[(t m).length - 1].s = zs at *
  generalize (t m)[(t m).length - 1].i = zi at *
  generalize (t m)[(t m).length - 1].g = zg at *
  generalize (t m)[(t m).length - 1].m = zm at *
  generalize (t m)[(t m).length - 1].x = zx at *
  generalize (t m)[(t m).length - 1].y = zy at *
  generalize (t m)[(t m).length - 1].vx = zvx at *
  generalize (t m)[(t m).length - 1].vy = zvy at *
  generalize (t m)[(t m).length - 1].h = zh at *
  generalize (t m)[(t m).length - 1].p = zp at *
  generalize (t m)[(t m).length - 1].l = zl at *
  obtain ⟨r, hr⟩ : ∃ r : Nat, (t m).length - 1 = r := ⟨_, rfl⟩
  have hr1 : (t m).length = r + 1 := by omega
  have s1 : IntKind.i64.wrap (((t m).length : Int) - 1) = (r : Int) := by rw [IntWalk.i64_in _ (by omega)]; omega
  have s2 : ((t m).length : Int) - 1 = (r : Int) := by omega
  have s3 : IntKind.i64.wrap (r : Int) = (r : Int) := IntWalk.i64_in _ (by omega)
  rw [hr] at k0 k1 k2 k3 k4 k5 k6 k7 k8 k9 k10 FIN HO3
  have hri : (r : Int) < ((t m).length : Int) := by omega
  have hii : (i : Int) < ((t m).length : Int) := by omega
  have hrc : (r : Int) ≤ (c2 : Int) := by omega
  have hm2 : (m : Int) < 32 := by omega
  clear hr hr1 hlast
  replace HB3 := Lib.hid HB3
  replace HO3 := Lib.hid HO3
  go_enter Try.func53, Try.ntmps53
  go_upto_region 2 with (at_builtin; refine wpList_append _ rfl (.tmp 7) (.tmp 13) _ _ rfl _ _ rfl rfl _ _ HR.out ?_)
  go_upto_region 3 with fail
  clear k0 h0 f0 k1 h1 f1 k2 h2 f2 k3 h3 f3 k4 h4 f4 k5 h5 f5 k6 h6 f6 k7 h7 f7 k8 h8 f8 k9 h9 f9 k10 h10 f10 HR hc ho
  generalize ((((((((((w2.setCell ⟨g2, o2 + i * 11, none⟩ (.int .i64 zs)).setCell ⟨g2, o2 + i * 11 + 1, none⟩ (.int .i64 zi)).setCell ⟨g2, o2 + i * 11 + 2, none⟩ (.int .i64 zg)).setCell ⟨g2, o2 + i * 11 + 3, none⟩ (.int .i64 zm)).setCell ⟨g2, o2 + i * 11 + 4, none⟩ (.int .i64 zx)).setCell ⟨g2, o2 + i * 11 + 5, none⟩ (.int .i64 zy)).setCell ⟨g2, o2 + i * 11 + 6, none⟩ (.int .i64 zvx)).setCell ⟨g2, o2 + i * 11 + 7, none⟩ (.int .i64 zvy)).setCell ⟨g2, o2 + i * 11 + 8, none⟩ (.int .i64 zh)).setCell ⟨g2, o2 + i * 11 + 9, none⟩ (.int .i64 zp)).setCell ⟨g2, o2 + i * 11 + 10, none⟩ (.int .i64 zl) = w3 at *
  have HK : ∀ k, k < w.heap.size → w3.heap[k]? = w.heap[k]? := fun k hk => (HB3.out.block k hk).trans (B2.block k hk)
  have hcs3 := (HK p hp).trans hcs
  have cm : w3.drew.cell? ⟨p, m, none⟩ = some u := (Bx.cell hcs3 hu).1
  have fm : w3.drew.frozen? ⟨p, m, none⟩ = false := (Bx.cell hcs3 hu).2
  have F3 := FIN.out w3 (Nat.le_trans B2.size HB3.out.size) HK HO3.out
  have FIN2 : Hid (RS (Gr F w.heap.size (w3.drew.setCell ⟨p, m, none⟩ (.slice (some ⟨g2, o2, none⟩) r c2)).heap.size) p (cut0 t m i) (w3.drew.setCell ⟨p, m, none⟩ (.slice (some ⟨g2, o2, none⟩) r c2))) := Lib.hid (F3.kept (Nat.le_refl _) (fun b _ => rfl))
  have hb3 := B2.trans HB3.out
  have G32 : Hid (w.grownBy (w3.drew.setCell ⟨p, m, none⟩ (.slice (some ⟨g2, o2, none⟩) r c2)) (some p)) := Lib.hid (by
    refine ⟨hb3.os, hb3.tape, hb3.output, by simpa using hb3.size, fun k hk hne => ?_⟩
    exact (Bx.ne (fun e => hne (by rw [e])) _).trans (hb3.block k hk))
  clear FIN F3 hb3 HB3 HO3 HK hcs3 hu hcs K3 h B2
  go_still_tail 10, (by kernel_rfl)
  change wpList _ _ _ _ _ w3.drew
  generalize w3.drew = w4 at *
  go_wp2
  go_end0
  exact ⟨rfl, FIN2.out, G32.out⟩
end Go.Proofs.Yteollbioeamciaa
namespace Go.Proofs.Yteollbioeamciaa
open Go.RowKit Pz Ar
set_option linter.unusedVariables false
set_option linter.unusedSimpArgs false

theorem rcut_of {F : Foot} {p : Nat} {t : Tb} {w W : World} (h : RS F p t w) (hW : Below w.heap.size w W) {m i : Nat} (hm : m < 32) (hi : i < (t m).length) : Calls Try.prog 53 #[.pointer (some ⟨p, 0, none⟩), .int .i64 (m : Int), .int .i64 (i : Int)] W fun e w' => e = .returned (.tuple #[]) ∧ RS (Gr F w.heap.size w'.heap.size) p (cut0 t m i) w' ∧ Only F w w' := by
  refine (rcut_any (h.below hW) hm hi).mono ?_
  rintro e w' ⟨rfl, hr, hg⟩
  refine ⟨rfl, hr.more (fun x hx => hx.imp id fun hx => ⟨Nat.le_trans hW.size hx.1, hx.2⟩) (fun x hx => ?_), (Only.of_below hW).trans (.of_grown hg (.inl h.mine))⟩
  rcases hx with hx | hx
  · exact hr.lt x (.inl hx)
  · exact hx.2
set_option maxHeartbeats 8000000 in
set_option maxRecDepth 100000 in
theorem rRemove_any {F : Foot} {p : Nat} {t : Tb} {w : World} (h : RS F p t w) (k1 k2 k3 : Int) : Calls Try.prog 32 #[.pointer (some ⟨p, 0, none⟩), .agg #[.int .i64 k1, .int .i64 k2, .int .i64 k3]] w fun e w' => e = .returned (.bool (Ar.remove t (k1, k2, k3)).2) ∧ RS (Gr F w.heap.size w'.heap.size) p (Ar.remove t (k1, k2, k3)).1 w' ∧ Only F w w' := by
  have HA : Hid (∀ W, Below w.heap.size w W → Calls Try.prog 51 #[.pointer (some ⟨p, 0, none⟩), .agg #[.int .i64 k1, .int .i64 k2, .int .i64 k3]] W fun e w' => e = .returned (atV t (k1, k2, k3)) ∧ Below W.heap.size W w') := Lib.hid fun W hW => rat_any (h.below hW) _ _ _
  have CU : Hid (∀ m i, find t (k1, k2, k3) = some (m, i) → ∀ W, Below w.heap.size w W → Calls Try.prog 53 #[.pointer (some ⟨p, 0, none⟩), .int .i64 (m : Int), .int .i64 (i : Int)] W fun e w' => e = .returned (.tuple #[]) ∧ RS (Gr F w.heap.size w'.heap.size) p (cut0 t m i) w' ∧ Only F w w') := Lib.hid fun m i hf W hW => by
    obtain ⟨hm, x, hx, _⟩ := find_at hf
    exact rcut_of h hW hm (List.getElem?_eq_some_iff.1 hx).1
  have RB : Hid (∀ W, Below w.heap.size w W → RS (Gr F w.heap.size W.heap.size) p t W ∧ Only F w W) := Lib.hid fun W hW => ⟨(h.below hW).gr, .of_below hW⟩
  have P1 : Hid (find t (k1, k2, k3) = none → Ar.remove t (k1, k2, k3) = (t, false)) := Lib.hid fun hm => by unfold Ar.remove; rw [hm]
  have P2 : Hid (∀ m i, find t (k1, k2, k3) = some (m, i) → Ar.remove t (k1, k2, k3) = (cut0 t m i, true)) := Lib.hid fun m i hm => by unfold Ar.remove; rw [hm]
  generalize Ar.remove t (k1, k2, k3) = ANS at *
  clear h
  unfold atV at HA
  generalize find t (k1, k2, k3) = fd at *
  have T1 := Lib.hid (at1 w (.cells #[.int .i64 k1, .int .i64 k2, .int .i64 k3] 34))
  have BE := Lib.hid (bel1 w (.cells #[.int .i64 k1, .int .i64 k2, .int .i64 k3] 34))
  go_enter Try.func32, Try.ntmps32
  go_upto_region 1 with fail
  generalize w.alloc (.cells #[.int .i64 k1, .int .i64 k2, .int .i64 k3] 34) = w1 at *
  obtain ⟨⟨q0, q1, q2⟩, _⟩ := Bx.b3 T1.out
  go_wp2_with fail
  refine (HA.out w1 BE.out).mono ?_
  rintro e w2 ⟨he, hb⟩
  replace BE := Lib.hid (BE.out.trans (hb.mono BE.out.size))
  clear hb HA q0 q1 q2 T1
  cases fd with
  | none =>
    subst he
    obtain rfl := P1.out rfl
    go_wp2
    go_ret
    exact ⟨rfl, RB.out _ BE.out⟩
  | some pr =>
    obtain ⟨m, i⟩ := pr
    subst he
    obtain rfl := P2.out m i rfl
    have t2 : decide ((m : Int) < 0) = false := decide_eq_false (by omega)
    have CU1 := Lib.hid (CU.out m i rfl)
    clear CU P1 P2
    go_wp2_with fail
    refine (CU1.out w2 BE.out).mono ?_
    rintro e w3 ⟨rfl, hr, hg⟩
    go_wp2
    go_ret
    exact ⟨rfl, hr, hg⟩
end Go.Proofs.Yteollbioeamciaa
namespace Go.Proofs.Yteollbioeamciaa
open Go.RowKit Pz Ar
set_option linter.unusedVariables false
set_option linter.unusedSimpArgs false

/-- what Get answers: the entity, its row, whether there is one -/
def Ar.getV (t : Tb) (k : NK) : Value :=
  match find t k with
  | some (m, i) => match (t m)[i]? with
    | some x => .tuple #[x.val, .int .i64 (i : Int), .bool true]
    | none => .tuple #[.int .i64 0]
  | none => .tuple #[.agg #[.int .i64 0, .int .i64 0, .int .i64 0, .int .i64 0, .int .i64 0, .int .i64 0, .int .i64 0, .int .i64 0, .int .i64 0, .int .i64 0, .int .i64 0], .int .i64 0, .bool false]
end Go.Proofs.Yteollbioeamciaa
namespace Go.Proofs.Yteollbioeamciaa
open Go.RowKit Pz Ar
set_option linter.unusedVariables false
set_option linter.unusedSimpArgs false

set_option maxHeartbeats 8000000 in
set_option maxRecDepth 100000 in
theorem rGet_any {F : Foot} {p : Nat} {t : Tb} {w : World} (h : RS F p t w) (k1 k2 k3 : Int) : Calls Try.prog 31 #[.pointer (some ⟨p, 0, none⟩), .agg #[.int .i64 k1, .int .i64 k2, .int .i64 k3]] w fun e w' => e = .returned (getV t (k1, k2, k3)) ∧ Below w.heap.size w w' := by
  have HA : Hid (∀ W, Below w.heap.size w W → Calls Try.prog 51 #[.pointer (some ⟨p, 0, none⟩), .agg #[.int .i64 k1, .int .i64 k2, .int .i64 k3]] W fun e w' => e = .returned (atV t (k1, k2, k3)) ∧ Below W.heap.size W w') := Lib.hid fun W hW => rat_any (h.below hW) _ _ _
  have RB : Hid (∀ m i, find t (k1, k2, k3) = some (m, i) → ∃ x, (t m)[i]? = some x ∧ getV t (k1, k2, k3) = .tuple #[x.val, .int .i64 (i : Int), .bool true] ∧ m < 32 ∧ i < (t m).length ∧ (t m).length ≤ 100000 ∧ ∀ W, Below w.heap.size w W → ∃ A c, W.cell? ⟨p, m, none⟩ = some (.slice A (t m).length c) ∧ OwnB W 0 (.slice A (t m).length c) (t m)) := Lib.hid fun m i hf => by
    obtain ⟨hm, x, hx, _⟩ := find_at hf
    exact ⟨x, hx, by unfold getV; rw [hf]; simp only [hx], hm, (List.getElem?_eq_some_iff.1 hx).1, h.few m, fun W hW => (h.below hW).at_ hm⟩
  have P1 : Hid (find t (k1, k2, k3) = none → getV t (k1, k2, k3) = .tuple #[.agg #[.int .i64 0, .int .i64 0, .int .i64 0, .int .i64 0, .int .i64 0, .int .i64 0, .int .i64 0, .int .i64 0, .int .i64 0, .int .i64 0, .int .i64 0], .int .i64 0, .bool false]) := Lib.hid fun hf => by unfold getV; rw [hf]
  clear h
  generalize getV t (k1, k2, k3) = ANS at *
  unfold atV at HA
  generalize find t (k1, k2, k3) = fd at *
  have T1 := Lib.hid (at2a w (.cells #[.int .i64 k1, .int .i64 k2, .int .i64 k3] 34) (.cells #[.int .i64 0, .int .i64 0, .int .i64 0, .int .i64 0, .int .i64 0, .int .i64 0, .int .i64 0, .int .i64 0, .int .i64 0, .int .i64 0, .int .i64 0] 36))
  have T2 := at2b w (.cells #[.int .i64 k1, .int .i64 k2, .int .i64 k3] 34) (.cells #[.int .i64 0, .int .i64 0, .int .i64 0, .int .i64 0, .int .i64 0, .int .i64 0, .int .i64 0, .int .i64 0, .int .i64 0, .int .i64 0, .int .i64 0] 36)
  have BE := Lib.hid (bel2 w (.cells #[.int .i64 k1, .int .i64 k2, .int .i64 k3] 34) (.cells #[.int .i64 0, .int .i64 0, .int .i64 0, .int .i64 0, .int .i64 0, .int .i64 0, .int .i64 0, .int .i64 0, .int .i64 0, .int .i64 0, .int .i64 0] 36))
  go_enter Try.func31, Try.ntmps31
  go_upto_region 1 with fail
  generalize (w.alloc (.cells #[.int .i64 k1, .int .i64 k2, .int .i64 k3] 34)).alloc (.cells #[.int .i64 0, .int .i64 0, .int .i64 0, .int .i64 0, .int .i64 0, .int .i64 0, .int .i64 0, .int .i64 0, .int .i64 0, .int .i64 0, .int .i64 0] 36) = w1 at *
  obtain ⟨o, ho⟩ : ∃ o, o = w.heap.size + 1 := ⟨_, rfl⟩
  rw [← ho] at T2 ⊢
  have hwo : Hid (w.heap.size ≤ o) := Lib.hid (by omega)
  clear ho
  replace T2 := Lib.hid T2
  obtain ⟨⟨q0, q1, q2⟩, _⟩ := Bx.b3 T1.out
  go_wp2_with fail
  refine (HA.out w1 BE.out).mono ?_
  rintro e w2 ⟨he, hb⟩
  replace BE := Lib.hid (BE.out.trans (hb.mono BE.out.size))
  replace T2 := Lib.hid ((hb.block _ (Bx.lt T2.out)).trans T2.out)
  clear hb HA q0 q1 q2 T1
  cases fd with
  | none =>
    subst he
    have hA := P1.out rfl
    subst hA
    obtain ⟨⟨l0, l1, l2, l3, l4, l5, l6, l7, l8, l9, l10⟩, ⟨f0, f1, f2, f3, f4, f5, f6, f7, f8, f9, f10⟩⟩ := Bx.b11 T2.out
    have HP := Lib.hid (Bx.b11 (Bx.set11 T2.out (.int .i64 0) (.int .i64 0) (.int .i64 0) (.int .i64 0) (.int .i64 0) (.int .i64 0) (.int .i64 0) (.int .i64 0) (.int .i64 0) (.int .i64 0) (.int .i64 0))).1
    have HQ := Lib.hid (((((((((((BE.out.setCell (p := ⟨o, 0, none⟩) hwo.out (.int .i64 0)).setCell (p := ⟨o, 1, none⟩) hwo.out (.int .i64 0)).setCell (p := ⟨o, 2, none⟩) hwo.out (.int .i64 0)).setCell (p := ⟨o, 3, none⟩) hwo.out (.int .i64 0)).setCell (p := ⟨o, 4, none⟩) hwo.out (.int .i64 0)).setCell (p := ⟨o, 5, none⟩) hwo.out (.int .i64 0)).setCell (p := ⟨o, 6, none⟩) hwo.out (.int .i64 0)).setCell (p := ⟨o, 7, none⟩) hwo.out (.int .i64 0)).setCell (p := ⟨o, 8, none⟩) hwo.out (.int .i64 0)).setCell (p := ⟨o, 9, none⟩) hwo.out (.int .i64 0)).setCell (p := ⟨o, 10, none⟩) hwo.out (.int .i64 0))
    clear BE T2 RB P1
    go_wp2
    obtain ⟨p0, p1, p2, p3, p4, p5, p6, p7, p8, p9, p10⟩ := HP.out
    exact bodyPost_ret (v := .tuple #[.agg #[.int .i64 0, .int .i64 0, .int .i64 0, .int .i64 0, .int .i64 0, .int .i64 0, .int .i64 0, .int .i64 0, .int .i64 0, .int .i64 0, .int .i64 0], .int .i64 0, .bool false]) (by simp [results, Try.results31, go_sem, p0, p1, p2, p3, p4, p5, p6, p7, p8, p9, p10]) rfl ⟨rfl, HQ.out⟩
  | some pr =>
    obtain ⟨m, i⟩ := pr
    subst he
    obtain ⟨x, hx, hA, hm, hi, hfew, HW⟩ := RB.out m i rfl
    subst hA
    obtain ⟨A, c, hc, how⟩ := HW w2 BE.out
    obtain ⟨g, og, rfl, _, ⟨k0, k1', k2', k3', k4, k5, k6, k7, k8, k9, k10⟩, _⟩ := own_at how hx
    obtain ⟨xs, xi, xg, xm, xx, xy, xvx, xvy, xh, xp, xl⟩ := x
    simp only [Bn.val] at *
    have t2 : decide ((m : Int) < 0) = false := decide_eq_false (by omega)
    have t3 : (m : Int) < 32 := by omega
    have t4 : (i : Int) < ((t m).length : Int) := by omega
    have t5 : ((t m).length : Int) ≤ 100000 := by omega
    obtain ⟨⟨l0, l1, l2, l3, l4, l5, l6, l7, l8, l9, l10⟩, ⟨f0, f1, f2, f3, f4, f5, f6, f7, f8, f9, f10⟩⟩ := Bx.b11 T2.out
    have HP := Lib.hid (Bx.b11 (Bx.set11 T2.out (.int .i64 xs) (.int .i64 xi) (.int .i64 xg) (.int .i64 xm) (.int .i64 xx) (.int .i64 xy) (.int .i64 xvx) (.int .i64 xvy) (.int .i64 xh) (.int .i64 xp) (.int .i64 xl))).1
    have HQ := Lib.hid (((((((((((BE.out.setCell (p := ⟨o, 0, none⟩) hwo.out (.int .i64 xs)).setCell (p := ⟨o, 1, none⟩) hwo.out (.int .i64 xi)).setCell (p := ⟨o, 2, none⟩) hwo.out (.int .i64 xg)).setCell (p := ⟨o, 3, none⟩) hwo.out (.int .i64 xm)).setCell (p := ⟨o, 4, none⟩) hwo.out (.int .i64 xx)).setCell (p := ⟨o, 5, none⟩) hwo.out (.int .i64 xy)).setCell (p := ⟨o, 6, none⟩) hwo.out (.int .i64 xvx)).setCell (p := ⟨o, 7, none⟩) hwo.out (.int .i64 xvy)).setCell (p := ⟨o, 8, none⟩) hwo.out (.int .i64 xh)).setCell (p := ⟨o, 9, none⟩) hwo.out (.int .i64 xp)).setCell (p := ⟨o, 10, none⟩) hwo.out (.int .i64 xl))
    clear BE T2 RB P1 HW how hx hm hi hfew
    go_wp2
    obtain ⟨p0, p1, p2, p3, p4, p5, p6, p7, p8, p9, p10⟩ := HP.out
    exact bodyPost_ret (v := .tuple #[.agg #[.int .i64 xs, .int .i64 xi, .int .i64 xg, .int .i64 xm, .int .i64 xx, .int .i64 xy, .int .i64 xvx, .int .i64 xvy, .int .i64 xh, .int .i64 xp, .int .i64 xl], .int .i64 (i : Int), .bool true]) (by simp [results, Try.results31, go_sem, p0, p1, p2, p3, p4, p5, p6, p7, p8, p9, p10]) rfl ⟨rfl, HQ.out⟩
end Go.Proofs.Yteollbioeamciaa
namespace Go.Proofs.Yteollbioeamciaa
open Go.RowKit Pz Ar
set_option linter.unusedVariables false
set_option linter.unusedSimpArgs false

section
variable {F : Foot} {cs : Array Value} {t : Tb} {w W : World} {p m : Nat} {v : Value} {l : List Bn}
theorem tabs_set (h : Tabs F cs t w) (hm : m < 32) (hv : cs[m]? = some v) (hk : ∀ g, v.ownBlock ≠ some g → W.heap[g]? = w.heap[g]?) (ho : OwnB W 0 v l) (hl : l.length ≤ 100000) : Tabs F cs (up t m l) W := by
  have e : cs.setIfInBounds m v = cs := by
    apply Array.ext_getElem?
    intro i
    by_cases hi : m = i
    · subst hi
      rw [Array.getElem?_setIfInBounds_self_of_lt (Array.getElem?_eq_some_iff.1 hv).1, hv]
    · rw [Array.getElem?_setIfInBounds_ne hi]
  have := h.up (F' := F) (W := W) (fun _ hb => hb) hm (v := v) (l := l) (fun a u g ha hne hu hg => hk g (fun e => h.apart a m u v g ha hm hne hu hv hg e)) ho hl (fun g hg => ⟨(h.other hm hv hg).1, fun a u ha hne hu e => h.apart a m u v g ha hm hne hu hv e hg⟩)
  rwa [e] at this
theorem RS.set (h : RS F p t w) (hm : m < 32) (hc : w.cell? ⟨p, m, none⟩ = some v) (hs : W.heap.size = w.heap.size) (hk : ∀ g, v.ownBlock ≠ some g → W.heap[g]? = w.heap[g]?) (ho : OwnB W 0 v l) (hl : l.length ≤ 100000) : RS F p (Ar.up t m l) W := by
  obtain ⟨cs, h1, h2, h3⟩ := h.head
  have hv : cs[m]? = some v := by rw [cellAt h1 m] at hc; exact hc
  have hp : v.ownBlock ≠ some p := fun e => by
    obtain ⟨_, cur, hc⟩ := h3.other hm hv e
    exact Bx.ne_type hc h1 (by decide) rfl
  exact ⟨⟨cs, (hk p hp).trans h1, h2, tabs_set h3 hm hv hk ho hl⟩, h.mine, fun b hb => by rw [hs]; exact h.lt b hb⟩
theorem RS.own_mine (h : RS F p t w) (hm : m < 32) (hc : w.cell? ⟨p, m, none⟩ = some v) {g : Nat} (hg : v.ownBlock = some g) : F g := by
  obtain ⟨cs, h1, h2, h3⟩ := h.head
  have hv : cs[m]? = some v := by rw [cellAt h1 m] at hc; exact hc
  exact (h3.other hm hv hg).1
theorem CS.set (h : CS F p t w) (hm : m < 32) (hc : w.cell? ⟨p, m, none⟩ = some v) (hs : W.heap.size = w.heap.size) (hk : ∀ g, v.ownBlock ≠ some g → W.heap[g]? = w.heap[g]?) {i : Nat} {b x : Bn} (hb : may b = true) (hx : (t m)[i]? = some x) (he : x.id = b.id) (hbm : (m : Int) = b.m) (ho : OwnB W 0 v ((t m).set i b)) : CS F p (Ar.up t m ((t m).set i b)) W := by
  obtain ⟨cs, mv, L, h1, h2, h3, h4, h5, h6⟩ := h.head
  have hv : cs[m]? = some v := by rw [cellAt h1 m] at hc; exact hc
  have hn : ∀ g, v.ownBlock = some g → ∃ cur, w.heap[g]? = some (.cells cur 36 (0, 0)) := fun g e => (h3.other hm hv e).2
  have hp : v.ownBlock ≠ some p := fun e => by
    obtain ⟨cur, hc⟩ := hn p e
    exact Bx.ne_type hc h1 (by decide) rfl
  refine ⟨⟨cs, mv, L, (hk p hp).trans h1, h2, tabs_set h3 hm hv hk ho (by rw [List.length_set]; exact h3.few m), h4, ?_, h6.write h.good hb hx he hbm⟩, set_good h.good hb hx he hbm, h.mine, fun b hb => by rw [hs]; exact h.lt b hb⟩
  rcases h5 with h5 | ⟨q, es, c, e1, e2, e3, e4⟩
  · exact .inl h5
  · refine .inr ⟨q, es, c, e1, e2, (hk q (fun e => ?_)).trans e3, e4⟩
    obtain ⟨cur, hc⟩ := hn q e
    rw [e3] at hc
    cases hc
theorem CS.own_mine (h : CS F p t w) (hm : m < 32) (hc : w.cell? ⟨p, m, none⟩ = some v) {g : Nat} (hg : v.ownBlock = some g) : F g := by
  obtain ⟨cs, mv, L, h1, h2, h3, _⟩ := h.head
  have hv : cs[m]? = some v := by rw [cellAt h1 m] at hc; exact hc
  exact (h3.other hm hv hg).1
end
/-- the world with one entity of a row another one -/
abbrev setRow11 (W : World) (g o : Nat) (x : Bn) : World :=
  ((((((((((W.setCell ⟨g, o, none⟩ (.int .i64 x.s)).setCell ⟨g, o + 1, none⟩ (.int .i64 x.i)).setCell ⟨g, o + 2, none⟩ (.int .i64 x.g)).setCell ⟨g, o + 3, none⟩ (.int .i64 x.m)).setCell ⟨g, o + 4, none⟩ (.int .i64 x.x)).setCell ⟨g, o + 5, none⟩ (.int .i64 x.y)).setCell ⟨g, o + 6, none⟩ (.int .i64 x.vx)).setCell ⟨g, o + 7, none⟩ (.int .i64 x.vy)).setCell ⟨g, o + 8, none⟩ (.int .i64 x.h)).setCell ⟨g, o + 9, none⟩ (.int .i64 x.p)).setCell ⟨g, o + 10, none⟩ (.int .i64 x.l)
theorem setRow11_size (W : World) (g o : Nat) (x : Bn) : (setRow11 W g o x).heap.size = W.heap.size := by simp [setRow11]
theorem setRow11_ne (W : World) {g k : Nat} (o : Nat) (x : Bn) (h : k ≠ g) : (setRow11 W g o x).heap[k]? = W.heap[k]? := by
  simp only [setRow11]
  repeat rw [Bx.ne h]
theorem setRow11_only {F : Foot} {w W : World} (h : Only F w W) {g : Nat} (hg : F g) (o : Nat) (x : Bn) : Only F w (setRow11 W g o x) :=
  (((((((((((h.set (a := ⟨g, o, none⟩) (.inl hg) (.int .i64 x.s)).set (a := ⟨g, o + 1, none⟩) (.inl hg) (.int .i64 x.i)).set (a := ⟨g, o + 2, none⟩) (.inl hg) (.int .i64 x.g)).set (a := ⟨g, o + 3, none⟩) (.inl hg) (.int .i64 x.m)).set (a := ⟨g, o + 4, none⟩) (.inl hg) (.int .i64 x.x)).set (a := ⟨g, o + 5, none⟩) (.inl hg) (.int .i64 x.y)).set (a := ⟨g, o + 6, none⟩) (.inl hg) (.int .i64 x.vx)).set (a := ⟨g, o + 7, none⟩) (.inl hg) (.int .i64 x.vy)).set (a := ⟨g, o + 8, none⟩) (.inl hg) (.int .i64 x.h)).set (a := ⟨g, o + 9, none⟩) (.inl hg) (.int .i64 x.p)).set (a := ⟨g, o + 10, none⟩) (.inl hg) (.int .i64 x.l))
end Go.Proofs.Yteollbioeamciaa
