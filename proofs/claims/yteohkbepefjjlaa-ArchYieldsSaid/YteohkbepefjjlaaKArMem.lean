/- Stores in memory: whose blocks, what a deed leaves alone; tables as rows of one's own; the map from names to places. -/
import Derived.Test.YteohkbepefjjlaaKAPu
import Derived.Test.YteohkbepefjjlaaKPz
import Derived.Test.YteohkbepefjjlaaKBase
import Derived.Deep.Upon
import Derived.Maps.OwnSet
namespace Go.Proofs.Yteohkbepefjjlaa
open Go.RowKit Pz Ar
set_option linter.unusedVariables false
set_option linter.unusedSimpArgs false

/-- whose blocks these are -/
abbrev Foot := Nat → Prop
/-- with all that was made since -/
def Gr (F : Foot) (n n' : Nat) : Foot := fun b => F b ∨ (n ≤ b ∧ b < n')
def Foot.no : Foot := fun _ => False
theorem Gr.self (F : Foot) (n : Nat) : Gr F n n = F := by
  funext b
  unfold Gr
  simp only [eq_iff_iff, or_iff_left_iff_imp]
  omega
theorem Gr.gr {F : Foot} {a b c : Nat} (h : a ≤ b) (h' : b ≤ c) : Gr (Gr F a b) b c = Gr F a c := by
  funext k
  unfold Gr
  simp only [eq_iff_iff]
  constructor
  · rintro ((h | h) | h)
    · exact .inl h
    · exact .inr (by omega)
    · exact .inr (by omega)
  · rintro (h | h)
    · exact .inl (.inl h)
    · by_cases k < b
      · exact .inl (.inr (by omega))
      · exact .inr (by omega)
theorem Gr.sub {F : Foot} {n n' b : Nat} (h : F b) : Gr F n n' b := .inl h
/-- of what was there nothing has turned but F's blocks -/
structure Only (F : Foot) (w W : World) : Prop where
  os : W.os = w.os
  tape : W.tape = w.tape
  output : W.output = w.output
  size : w.heap.size ≤ W.heap.size
  block : ∀ b, b < w.heap.size → ¬ F b → W.heap[b]? = w.heap[b]?
theorem Only.of_below {F : Foot} {w W : World} (h : Below w.heap.size w W) : Only F w W := ⟨h.os, h.tape, h.output, h.size, fun b hb _ => h.block b hb⟩
theorem Only.refl (F : Foot) (w : World) : Only F w w := ⟨rfl, rfl, rfl, Nat.le_refl _, fun _ _ _ => rfl⟩
theorem Only.trans {F : Foot} {w W V : World} (h : Only F w W) (k : Only (Gr F w.heap.size W.heap.size) W V) : Only F w V :=
  ⟨k.os.trans h.os, k.tape.trans h.tape, k.output.trans h.output, Nat.le_trans h.size k.size, fun b hb hn => (k.block b (Nat.lt_of_lt_of_le hb h.size) (fun e => e.elim hn (fun e => by omega))).trans (h.block b hb hn)⟩
theorem Only.tail {F : Foot} {w W V : World} (h : Only F w W) (k : Below W.heap.size W V) : Only F w V := h.trans (.of_below k)
theorem Only.below {F : Foot} {B : Nat} {w W : World} (h : Only F w W) (hF : ∀ b, F b → B ≤ b) (hB : B ≤ w.heap.size) : Below B w W :=
  ⟨h.os, h.tape, h.output, h.size, fun b hb => h.block b (by omega) (fun e => by have := hF b e; omega)⟩
theorem Only.of_grown {F : Foot} {w W : World} {p : Nat} (h : w.grownBy W (some p)) (hp : F p) : Only F w W := ⟨h.os, h.tape, h.output, h.size, fun b hb hn => h.block b hb (fun e => hn (by rw [Option.some.inj e]; exact hp))⟩
theorem Only.more {F F' : Foot} {w W : World} (h : Only F w W) (hF : ∀ b, F b → F' b) : Only F' w W := ⟨h.os, h.tape, h.output, h.size, fun b hb hn => h.block b hb (fun e => hn (hF b e))⟩
theorem Only.drew {F : Foot} {w W : World} (h : Only F w W) : Only F w W.drew := ⟨h.os, h.tape, h.output, h.size, h.block⟩
theorem Only.set {F : Foot} {w W : World} (h : Only F w W) {a : Addr} (ha : F a.block ∨ w.heap.size ≤ a.block) (v : Value) : Only F w (W.setCell a v) :=
  ⟨h.os, h.tape, h.output, by simpa using h.size, fun b hb hn => (Below.heap_setCell _ _ _ _ (fun e => by subst e; rcases ha with h | h; exact hn h; omega)).trans (h.block b hb hn)⟩

/-- tables: each a row of one's own, in F's blocks, no two in one -/
structure Tabs (F : Foot) (cs : Array Value) (t : Tb) (W : World) : Prop where
  tab : ∀ m, m < 32 → ∃ v, cs[m]? = some v ∧ OwnB W 0 v (t m) ∧ ∀ g, v.ownBlock = some g → F g
  apart : ∀ (m m' : Nat) (v v' : Value) (g : Nat), m < 32 → m' < 32 → m ≠ m' → cs[m]? = some v → cs[m']? = some v' → v.ownBlock = some g → v'.ownBlock ≠ some g
  few : ∀ m, (t m).length ≤ 100000
section
variable {F F' : Foot} {cs : Array Value} {t : Tb} {w W : World}
theorem Tabs.kept (h : Tabs F cs t w) (hk : ∀ b, F b → W.heap[b]? = w.heap[b]?) : Tabs F cs t W :=
  ⟨fun m hm => by
    obtain ⟨v, h1, h2, h3⟩ := h.tab m hm
    exact ⟨v, h1, h2.kept fun b hb => hk b (h3 b hb), h3⟩, h.apart, h.few⟩
theorem Tabs.more (h : Tabs F cs t w) (hF : ∀ b, F b → F' b) : Tabs F' cs t w :=
  ⟨fun m hm => by
    obtain ⟨v, h1, h2, h3⟩ := h.tab m hm
    exact ⟨v, h1, h2, fun g hg => hF g (h3 g hg)⟩, h.apart, h.few⟩
/-- another row for a table -/
theorem Tabs.up (h : Tabs F cs t w) (hF : ∀ b, F b → F' b) {m : Nat} (hm : m < 32) {v : Value} {l : List Bn}
    (hk : ∀ a u g, a < 32 → a ≠ m → cs[a]? = some u → u.ownBlock = some g → W.heap[g]? = w.heap[g]?) (ho : OwnB W 0 v l) (hl : l.length ≤ 100000)
    (hv : ∀ g, v.ownBlock = some g → F' g ∧ ∀ a u, a < 32 → a ≠ m → cs[a]? = some u → u.ownBlock ≠ some g) : Tabs F' (cs.setIfInBounds m v) (Ar.up t m l) W := by
  have hsz : m < cs.size := by obtain ⟨u, hu, _⟩ := h.tab m hm; exact (Array.getElem?_eq_some_iff.1 hu).1
  refine ⟨fun a ha => ?_, fun a a' x x' g ha ha' hne hx hx' hg hg' => ?_, fun a => ?_⟩
  · by_cases e : a = m
    · subst e
      rw [up_same]
      exact ⟨v, by simp [hsz], ho, fun g hg => (hv g hg).1⟩
    · rw [up_ne _ _ e]
      obtain ⟨u, hu, hou, hf⟩ := h.tab a ha
      exact ⟨u, by rw [Array.getElem?_setIfInBounds_ne (fun e' => e e'.symm)]; exact hu, hou.kept fun b hb => hk a u b ha e hu hb, fun g hg => hF g (hf g hg)⟩
  · by_cases e : a = m
    · subst e
      rw [Array.getElem?_setIfInBounds_self_of_lt hsz] at hx
      obtain rfl := Option.some.inj hx
      rw [Array.getElem?_setIfInBounds_ne hne] at hx'
      exact (hv g hg).2 a' x' ha' (fun e => hne e.symm) hx' hg'
    · rw [Array.getElem?_setIfInBounds_ne (fun e' => e e'.symm)] at hx
      by_cases e2 : a' = m
      · subst e2
        rw [Array.getElem?_setIfInBounds_self_of_lt hsz] at hx'
        obtain rfl := Option.some.inj hx'
        exact (hv g hg').2 a x ha hne hx hg
      · rw [Array.getElem?_setIfInBounds_ne (fun e' => e2 e'.symm)] at hx'
        exact h.apart a a' x x' g ha ha' hne hx hx' hg hg'
  · by_cases e : a = m
    · subst e; rw [up_same]; exact hl
    · rw [up_ne _ _ e]; exact h.few a
theorem Tabs.other (h : Tabs F cs t w) {q b : Nat} {u : Value} (hq : q < 32) (hu : cs[q]? = some u) (hb : u.ownBlock = some b) : F b ∧ ∃ cur, w.heap[b]? = some (.cells cur 35 (0, 0)) := by
  obtain ⟨v, h1, h2, h3⟩ := h.tab q hq
  rw [hu] at h1
  obtain rfl := Option.some.inj h1
  obtain ⟨_, cur, hc⟩ := h2.blk hb
  exact ⟨h3 b hb, cur, hc⟩
end

/-! ### the map -/
abbrev MT : TypeId := 66
abbrev idV (k : NK) : Value := .agg #[.int .i64 k.1, .int .i64 k.2.1, .int .i64 k.2.2]
abbrev plV (x : Nat × Nat) : Value := .agg #[.int .i64 (x.1 : Int), .int .i64 (x.2 : Int)]
/-- what a look for a name answers -/
def lookV : Option (Nat × Nat) → Value
  | some x => .tuple #[plV x, .bool true]
  | none => .tuple #[.agg #[.int .i64 0, .int .i64 0], .bool false]
abbrev kv (e : MapEntry) : Value × Value := (e.key, e.val)
abbrev encP (p : NK × Nat × Nat) : Value × Value := (idV p.1, plV p.2)
set_option maxRecDepth 100000 in
theorem check_id (em : Bool) (k : NK) (w : World) : (Instr.checkKey em 10000 33 (idV k)).run Try.prog w = .ok () w := by
  kernel_rfl
theorem stays_id (k : NK) (w : World) : (Instr.keyThatStays (idV k) (idV k)).run Try.prog w = .ok (idV k) w := by
  unfold Instr.keyThatStays
  have : Instr.sameBits 10000 (idV k) (idV k) = true := by simp [Instr.sameBits]
  rw [this]
  rfl
theorem eq_key (k k' : NK) (w : World) : (Op.equal 33 (idV k) (idV k')).run Try.prog w = .ok (decide (k = k')) w := by
  obtain ⟨a, b, c⟩ := k
  obtain ⟨d, e, f⟩ := k'
  have := eq_id 9998 a b c d e f w
  refine (show (Op.equal 33 (idV (a, b, c)) (idV (d, e, f))).run Try.prog w = _ from this).trans ?_
  congr 1
  rw [Bool.eq_iff_iff, decide_eq_true_eq]
  simp
theorem asking (k : NK) (w : World) : ∀ (es : List MapEntry) (L : List (NK × Nat × Nat)) (i : Nat), es.map kv = L.map encP →
    ((Instr.findAsking 33 (idV k) es i).run Try.prog w = .ok none w ∧ ∀ p ∈ L, p.1 ≠ k) ∨ ∃ j p, (Instr.findAsking 33 (idV k) es i).run Try.prog w = .ok (some (i + j, plV p.2)) w ∧ L[j]? = some p ∧ p.1 = k
  | [], L, i, h => by
    obtain rfl : L = [] := by cases L with | nil => rfl | cons _ _ => cases h
    exact .inl ⟨by simp [Instr.findAsking], by simp⟩
  | e :: es, L, i, h => by
    cases L with
    | nil => cases h
    | cons p L =>
      simp only [List.map_cons, List.cons.injEq, Prod.mk.injEq] at h
      obtain ⟨⟨hk, hv⟩, hr⟩ := h
      have hq := eq_key k p.1 w
      by_cases e1 : k = p.1
      · rw [decide_eq_true e1] at hq
        refine .inr ⟨0, p, ?_, rfl, e1.symm⟩
        simp [Instr.findAsking, hk, hq, hv]
      · rw [decide_eq_false e1] at hq
        rcases asking k w es L (i + 1) hr with ⟨h1, h2⟩ | ⟨j, q, h1, h2, h3⟩
        · refine .inl ⟨by simp [Instr.findAsking, hk, hq, h1], fun x hx => ?_⟩
          rcases List.mem_cons.1 hx with rfl | hx
          · exact fun e => e1 e.symm
          · exact h2 x hx
        · exact .inr ⟨j + 1, q, by simp [Instr.findAsking, hk, hq, h1, Nat.add_assoc, Nat.add_comm 1 j], h2, h3⟩
theorem finding (k : NK) (w : World) (es : Array MapEntry) (L : List (NK × Nat × Nat)) (h : es.toList.map kv = L.map encP) :
    ((Instr.findKey 33 (idV k) es.toList).run Try.prog w = .ok none w ∧ ∀ p ∈ L, p.1 ≠ k) ∨ ∃ j p, (Instr.findKey 33 (idV k) es.toList).run Try.prog w = .ok (some (j, plV p.2)) w ∧ L[j]? = some p ∧ p.1 = k := by
  have e : (Instr.findKey 33 (idV k) es.toList).run Try.prog w = (Instr.findAsking 33 (idV k) es.toList 0).run Try.prog w := by
    have hu : Try.prog.underlying 33 = some (.struct (Try.prog.fieldsOf 33)) := by kernel_rfl
    cases hl : es.toList with
    | nil => simp [Instr.findKey, run_underlying hu, Instr.findNow, Instr.findAsking]
    | cons x r => simp [Instr.findKey, run_underlying hu, Instr.findNow, Instr.sameNow]
  rw [e]
  rcases asking k w es.toList L 0 h with h | ⟨j, p, h1, h2⟩
  · exact .inl h
  · exact .inr ⟨j, p, by simpa using h1, h2⟩
/-- the map has these pairs -/
def MapIs (F : Foot) (W : World) (mv : Value) (L : List (NK × Nat × Nat)) : Prop :=
  (mv = .map none ∧ L = []) ∨ ∃ q es c, mv = .map (some q) ∧ F q ∧ W.heap[q]? = some (.map es c) ∧ es.toList.map kv = L.map encP
section
variable {F F' : Foot} {w W : World} {mv : Value} {L : List (NK × Nat × Nat)}
theorem MapIs.kept (h : MapIs F w mv L) (hk : ∀ b, F b → W.heap[b]? = w.heap[b]?) : MapIs F W mv L := by
  rcases h with h | ⟨q, es, c, h1, h2, h3, h4⟩
  · exact .inl h
  · exact .inr ⟨q, es, c, h1, h2, (hk q h2).trans h3, h4⟩
theorem MapIs.kept' (h : MapIs F w mv L) (hk : ∀ q, mv = .map (some q) → W.heap[q]? = w.heap[q]?) : MapIs F W mv L := by
  rcases h with h | ⟨q, es, c, h1, h2, h3, h4⟩
  · exact .inl h
  · exact .inr ⟨q, es, c, h1, h2, (hk q h1).trans h3, h4⟩
theorem MapIs.more (h : MapIs F w mv L) (hF : ∀ b, F b → F' b) : MapIs F' w mv L := by
  rcases h with h | ⟨q, es, c, h1, h2, h3, h4⟩
  · exact .inl h
  · exact .inr ⟨q, es, c, h1, hF q h2, h3, h4⟩
theorem find_none_of {k : NK} (h : ∀ p ∈ L, p.1 ≠ k) : (L.find? fun p => decide (p.1 = k)).map (·.2) = none := by
  rw [List.find?_eq_none.2 (fun p hp => by simpa using h p hp)]
  rfl
theorem find_some_of {k : NK} {j : Nat} {p : NK × Nat × Nat} (hn : (L.map (·.1)).Nodup) (hj : L[j]? = some p) (hp : p.1 = k) : (L.find? fun p => decide (p.1 = k)).map (·.2) = some p.2 := by
  cases hf : L.find? fun p => decide (p.1 = k) with
  | none =>
    have := List.find?_eq_none.1 hf p (List.mem_of_getElem? hj)
    simp [hp] at this
  | some q =>
    have h1 := List.mem_of_find?_eq_some hf
    have h2 : q.1 = k := of_decide_eq_true (List.find?_some (p := fun p : NK × Nat × Nat => decide (p.1 = k)) hf)
    obtain ⟨i, hi⟩ := List.mem_iff_getElem?.1 h1
    have : i = j := by
      have hi' := (List.getElem?_eq_some_iff.1 hi).1
      have hj' := (List.getElem?_eq_some_iff.1 hj).1
      refine (List.getElem?_inj (l := L.map (·.1)) (by simpa using hi') hn).1 ?_
      rw [List.getElem?_map, List.getElem?_map, hi, hj]
      simp [h2, hp]
    subst this
    rw [hi] at hj
    obtain rfl := Option.some.inj hj
    rfl
theorem zero_place (w : World) : (zeroValue 72).run Try.prog w = .ok (.agg #[.int .i64 0, .int .i64 0]) w := by kernel_rfl
theorem MapIs.look (h : MapIs F w mv L) (hn : (L.map (·.1)).Nodup) (k : NK) : (Instr.lookup MT mv (idV k) true).run Try.prog w = .ok (lookV ((L.find? fun p => decide (p.1 = k)).map (·.2))) w := by
  have ht : Try.prog.underlying MT = some (.map 33 72) := Try.underlying66
  rcases h with ⟨rfl, rfl⟩ | ⟨q, es, c, rfl, _, h3, h4⟩
  · rcases finding k w #[] [] rfl with ⟨h1, _⟩ | ⟨j, p, _, h2, _⟩
    · simp at h1
      simp [Instr.lookup, run_underlying ht, check_id, h1, zero_place, Result.andThen, lookV]
    · simp at h2
  · rcases finding k w es L h4 with ⟨h1, h2⟩ | ⟨j, p, h1, h2, h5⟩
    · rw [find_none_of h2]
      simp [Instr.lookup, run_underlying ht, MapKept.run_getObj_map h3, check_id, h1, zero_place, Result.andThen, lookV]
    · rw [find_some_of hn h2 h5]
      simp [Instr.lookup, run_underlying ht, MapKept.run_getObj_map h3, check_id, h1, Result.andThen, lookV]
theorem MapIs.len (h : MapIs F w mv L) (ty : TypeId) : (Builtin.len_ #[MT] ty #[mv]).run Try.prog w = .ok (.int .i64 (L.length : Int)) w := by
  have ht : Try.prog.underlying MT = some (.map 33 72) := Try.underlying66
  rcases h with ⟨rfl, rfl⟩ | ⟨q, es, c, rfl, _, h3, h4⟩
  · exact Maps.len_nil ht ty
  · have : es.size = L.length := by
      have := congrArg List.length h4
      simpa using this
    simp [Builtin.len_, run_underlying ht, MapKept.run_getObj_map h3, goInt, Result.andThen, this]
theorem set_is {k : NK} {j : Nat} {p : NK × Nat × Nat} (hn : (L.map (·.1)).Nodup) (hj : L[j]? = some p) (hp : p.1 = k) (x : Nat × Nat) : L.set j (k, x) = setK L k x ∧ L.eraseIdx j = delK L k := by
  have hj' := (List.getElem?_eq_some_iff.1 hj).1
  have key : ∀ (i : Nat) (q : NK × Nat × Nat), L[i]? = some q → (q.1 = k ↔ i = j) := fun i q hi => by
    constructor
    · intro e
      have hi' := (List.getElem?_eq_some_iff.1 hi).1
      refine (List.getElem?_inj (l := L.map (·.1)) (by simpa using hi') hn).1 ?_
      rw [List.getElem?_map, List.getElem?_map, hi, hj]
      simp [e, hp]
    · rintro rfl
      rw [hi] at hj
      rw [Option.some.inj hj]; exact hp
  constructor
  · apply List.ext_getElem?
    intro i
    unfold setK
    rw [List.getElem?_map, List.getElem?_set]
    by_cases e : j = i
    · subst e
      rw [if_pos rfl, if_pos hj', hj]
      simp [hp]
    · rw [if_neg e]
      cases hi : L[i]? with
      | none => rfl
      | some q =>
        have : ¬ q.1 = k := fun e2 => e ((key i q hi).1 e2).symm
        simp [this]
  · unfold delK
    refine (ChangeMaps.filter_eq_eraseIdx (fun q : NK × Nat × Nat => decide (q.1 = k)) L j p hj (by simp [hp]) ?_).symm
    have h2 : L.Pairwise (fun a b => a.1 ≠ b.1) := List.pairwise_map.1 hn
    refine h2.imp fun {a b} hne h => hne ?_
    rw [of_decide_eq_true h.1, of_decide_eq_true h.2]
end
end Go.Proofs.Yteohkbepefjjlaa
