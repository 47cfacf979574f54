/- The law IdsRow, over functions: the row, and what is had. Nothing of the program. -/
import Derived.Test.YtdanpdlbbgcidaaIdOnce
namespace Go.Proofs.Ytdanpdlbbgcidaa
set_option linter.unusedVariables false
namespace Ids
def nms (K : St) (l : List Nat) : List (Int × Int × Int) := l.map fun i : Nat => ((0 : Int), (i : Int), (K.gen 0 i : Int))
theorem nms_len (K : St) (l : List Nat) : (nms K l).length = l.length := List.length_map _
theorem nms_app (K : St) (l r : List Nat) : nms K (l ++ r) = nms K l ++ nms K r := List.map_append
theorem nms_eq {K J : St} {l : List Nat} (h : ∀ i ∈ l, J.gen 0 i = K.gen 0 i) : nms J l = nms K l := List.map_congr_left fun i hi => by rw [h i hi]
structure RowI (m j : Nat) (K : St) (L : List Nat) : Prop where
  kn : K.n = 1
  km : K.m = m
  few : ∀ i, i < m → K.gen 0 i ≤ j
  le : ∀ i, i < m → K.gen 0 i ≤ K.bnd 0 i
  nd : L.Nodup
  lt : ∀ i ∈ L, K.gen 0 i < K.bnd 0 i
  all : ∀ i, i ∈ L ↔ i < m ∧ i ∉ K.row 0
theorem RowI.new (m : Nat) : RowI m 0 (new 1 m) [] :=
  ⟨rfl, rfl, fun _ _ => Nat.le_refl _, fun _ _ => Nat.le_refl _, List.nodup_nil, fun i hi => absurd hi (by simp), fun i => ⟨fun h => absurd h (by simp), fun h => absurd (List.mem_range.2 h.1) h.2⟩⟩
section
variable {m j : Nat} {K : St} {L : List Nat}
theorem RowI.more (h : RowI m j K L) {j' : Nat} (hj : j ≤ j') : RowI m j' K L := ⟨h.kn, h.km, fun i hi => Nat.le_trans (h.few i hi) hj, h.le, h.nd, h.lt, h.all⟩
theorem RowI.next (h : RowI m j K L) (ok : Ok K) (hj : j ≤ 100) {i : Nat} {r : List Nat} (hr : K.row 0 = i :: r) :
    nextK K 0 = (N1 K 0 i, (0, i, K.gen 0 i), (if K.gen 0 i < K.bnd 0 i then -1 else (i : Int)), true) ∧ RowI m (j + 1) (N1 K 0 i) (L ++ [i]) ∧ (N1 K 0 i).row 0 = r ∧
      nms (N1 K 0 i) (L ++ [i]) = nms K L ++ [((0 : Int), (i : Int), (K.gen 0 i : Int))] ∧ nms (N1 K 0 i) r = nms K r := by
  have hn : 0 < K.n := by rw [h.kn]; decide
  have hm : i ∈ K.row 0 := by rw [hr]; simp
  have hi := ok.lt 0 hn i hm
  have him : i < m := by rw [← h.km]; exact hi
  have e := next_row hn hr hi
  have h1 := h.le i him
  have h2 := h.few i him
  have hl : K.gen 0 i < bd K 0 i := by
    unfold bd
    split
    · assumption
    · unfold MG; omega
  rw [if_pos hl] at e
  have hnd := ok.nodup 0 hn
  rw [hr] at hnd
  have hir : i ∉ r := (List.nodup_cons.1 hnd).1
  have hrow : (N1 K 0 i).row 0 = r := by
    rw [N1_row, hr, List.filter_cons]
    simp only [bne_self_eq_false, Bool.false_eq_true, if_false]
    exact List.filter_eq_self.2 fun x hx => by simp; intro e; exact hir (e ▸ hx)
  have hiL : i ∉ L := fun e => ((h.all i).1 e).2 hm
  refine ⟨e, ⟨h.kn, h.km, fun a ha => ?_, fun a ha => ?_, ?_, fun a ha => ?_, fun a => ?_⟩, hrow, ?_, nms_eq fun a _ => N1_gen K i 0 a⟩
  · rw [N1_gen]; have := h.few a ha; omega
  · rw [N1_gen, N1_bnd]
    have h3 := h.le a ha
    split
    · rename_i e; subst e; have := bd_ge K ok 0 a; omega
    · exact h3
  · rw [List.nodup_append]
    exact ⟨h.nd, by simp, fun a ha b hb => by
      rw [List.mem_singleton.1 hb]; exact fun e => hiL (e ▸ ha)⟩
  · rw [N1_gen, N1_bnd]
    split
    · rename_i e; subst e; exact hl
    · rename_i e
      rcases List.mem_append.1 ha with ha | ha
      · exact h.lt a ha
      · exact absurd (List.mem_singleton.1 ha) e
  · rw [hrow, List.mem_append, List.mem_singleton, h.all, hr, List.mem_cons]
    constructor
    · rintro (⟨a1, a2⟩ | rfl)
      · exact ⟨a1, fun e => a2 (.inr e)⟩
      · exact ⟨him, hir⟩
    · rintro ⟨a1, a2⟩
      by_cases ea : a = i
      · exact .inr ea
      · exact .inl ⟨a1, fun e => e.elim ea a2⟩
  · rw [nms_app, nms_eq fun a _ => N1_gen K i 0 a]
    show _ ++ [((0 : Int), (i : Int), ((N1 K 0 i).gen 0 i : Int))] = _
    rw [N1_gen]
theorem RowI.free (h : RowI m j K L) (ok : Ok K) (hj : j ≤ 100) {k : Nat} (hk : k < L.length) :
    free K 0 (L[k] : Int) (K.gen 0 L[k] : Int) = (freed K 0 L[k], 0) ∧ alive (freed K 0 L[k]) 0 (L[k] : Int) (K.gen 0 L[k] : Int) = false ∧ free (freed K 0 L[k]) 0 (L[k] : Int) (K.gen 0 L[k] : Int) = (freed K 0 L[k], 9) ∧
      RowI m (j + 1) (freed K 0 L[k]) (L.take k ++ L.drop (k + 1)) ∧ nms (freed K 0 L[k]) (L.take k ++ L.drop (k + 1)) = (nms K L).take k ++ (nms K L).drop (k + 1) ∧
      nms (freed K 0 L[k]) ((freed K 0 L[k]).row 0) = nms K (K.row 0) ++ [((0 : Int), (L[k] : Int), (K.gen 0 L[k] : Int) + 1)] := by
  obtain ⟨him, hir⟩ := (h.all L[k]).1 (List.getElem_mem hk)
  have h2 := h.few _ him
  have e0 : L = L.take k ++ L[k] :: L.drop (k + 1) := by
    conv => lhs; rw [← List.take_append_drop k L]
    rw [List.drop_eq_getElem_cons hk]
  have hnd := h.nd
  rw [e0] at hnd
  have hnd2 : L[k] ∉ L.take k ++ L.drop (k + 1) ∧ (L.take k ++ L.drop (k + 1)).Nodup := by
    rw [List.nodup_append] at hnd
    obtain ⟨n1, n2, n3⟩ := hnd
    obtain ⟨n4, n5⟩ := List.nodup_cons.1 n2
    refine ⟨fun e => ?_, ?_⟩
    · rcases List.mem_append.1 e with e | e
      · exact n3 _ e _ List.mem_cons_self rfl
      · exact n4 e
    · rw [List.nodup_append]
      exact ⟨n1, n5, fun a ha b hb => n3 a ha b (List.mem_cons_of_mem _ hb)⟩
  obtain ⟨hni, hnr⟩ := hnd2
  clear hnd
  have hmem : ∀ a, a ∈ L ↔ a = L[k] ∨ a ∈ L.take k ++ L.drop (k + 1) := fun a => by
    conv => lhs; rw [e0]
    simp only [List.mem_append, List.mem_cons]
    constructor
    · rintro (h | h | h)
      · exact .inr (.inl h)
      · exact .inl h
      · exact .inr (.inr h)
    · rintro (h | h | h)
      · exact .inr (.inl h)
      · exact .inl h
      · exact .inr (.inr h)
  have hne : (nms K L).take k ++ (nms K L).drop (k + 1) = nms K (L.take k ++ L.drop (k + 1)) := by
    unfold nms; rw [List.map_append, List.map_take, List.map_drop]
  rw [hne]
  generalize L.take k ++ L.drop (k + 1) = L' at *
  generalize L[k] = i at *
  have hw : K.gen 0 i + 1 < MG := by unfold MG; omega
  have hin : In K 0 (i : Int) := ⟨by omega, by rw [h.kn]; decide, by omega, by rw [h.km]; omega⟩
  have hin' : In (freed K 0 i) 0 (i : Int) := ⟨by omega, by rw [(freed_nm K i).1, h.kn]; decide, by omega, by rw [(freed_nm K i).2, h.km]; omega⟩
  have ha : alive K 0 (i : Int) (K.gen 0 i : Int) = true := by
    unfold alive
    rw [if_pos hin]
    show (decide ((K.gen 0 (i : Int).toNat : Int) = (K.gen 0 i : Int)) && (!(K.row 0).contains (i : Int).toNat && decide (K.gen 0 (i : Int).toNat < MG))) = true
    rw [Int.toNat_natCast, decide_eq_true rfl, decide_eq_true (show K.gen 0 i < MG by omega)]
    have : (K.row 0).contains i = false := by
      rw [← Bool.not_eq_true]
      exact fun e => hir (List.contains_iff_mem.1 e)
    rw [this]; rfl
  have ha' : alive (freed K 0 i) 0 (i : Int) (K.gen 0 i : Int) = false := by
    unfold alive
    rw [if_pos hin']
    show (decide (((freed K 0 i).gen 0 (i : Int).toNat : Int) = (K.gen 0 i : Int)) && _) = false
    rw [Int.toNat_natCast, freed_gen, if_pos rfl, decide_eq_false (by omega)]; rfl
  have hrow : (freed K 0 i).row 0 = K.row 0 ++ [i] := by
    unfold freed
    rw [if_pos hw]
    exact up1_same (setGen K 0 i (K.gen 0 i + 1)).row 0 (K.row 0 ++ [i])
  refine ⟨free_alive ha, ha', ?_, ⟨(freed_nm K i).1.trans h.kn, (freed_nm K i).2.trans h.km, fun a ha => ?_, fun a ha => ?_, hnr, fun a ha => ?_, fun a => ?_⟩, ?_, ?_⟩
  · unfold Ids.free
    rw [if_neg (by rintro (e | e); exact e hin'; omega), ha', if_pos rfl]
  · rw [freed_gen]
    split
    · omega
    · have := h.few a ha; omega
  · rw [freed_gen, freed_bnd]
    split
    · rename_i e
      subst e
      have := h.lt a ((hmem a).2 (.inl rfl))
      omega
    · exact h.le a ha
  · rw [freed_gen, freed_bnd, if_neg (fun e : a = i => hni (e ▸ ha))]
    exact h.lt a ((hmem a).2 (.inr ha))
  · rw [hrow, List.mem_append, List.mem_singleton]
    constructor
    · intro e
      have h5 := (h.all a).1 ((hmem a).2 (.inr e))
      exact ⟨h5.1, fun e2 => e2.elim h5.2 (fun e3 => hni (e3 ▸ e))⟩
    · rintro ⟨a1, a2⟩
      exact ((hmem a).1 ((h.all a).2 ⟨a1, fun e => a2 (.inl e)⟩)).resolve_left (fun e => a2 (.inr e))
  · exact nms_eq fun a hx => by
      rw [freed_gen, if_neg (fun e : a = i => hni (e ▸ hx))]
  · rw [hrow, nms_app, nms_eq (J := freed K 0 i) (K := K) (l := K.row 0) fun a hx => by rw [freed_gen, if_neg (fun e : a = i => hir (e ▸ hx))]]
    show _ ++ [((0 : Int), (i : Int), ((freed K 0 i).gen 0 i : Int))] = _
    rw [freed_gen, if_pos rfl]
    simp
theorem RowI.count (h : RowI m j K L) (hj : j ≤ 100) : (list K).length = L.length := by
  have e : list K = ((List.range m).filter fun i => taken K 0 i).map fun i => (0, i, K.gen 0 i) := by
    unfold list lst
    rw [h.kn, Nat.one_mul, h.km]
    have h0 : ∀ i, i < m → i / m = 0 ∧ i % m = i := fun i hi => ⟨Nat.div_eq_of_lt hi, Nat.mod_eq_of_lt hi⟩
    rw [List.filter_congr (q := fun i => taken K 0 i) fun i hi => by
      obtain ⟨e1, e2⟩ := h0 i (List.mem_range.1 hi)
      rw [e1, e2]]
    refine List.map_congr_left fun i hi => ?_
    obtain ⟨e1, e2⟩ := h0 i (List.mem_range.1 (List.mem_filter.1 hi).1)
    rw [e1, e2]
  rw [e, List.length_map]
  refine List.Perm.length_eq ((List.perm_ext_iff_of_nodup ((List.nodup_range).filter _) h.nd).2 fun i => ?_)
  rw [List.mem_filter, List.mem_range, h.all]
  constructor
  · rintro ⟨h1, h2⟩
    unfold taken at h2
    simp only [Bool.and_eq_true, Bool.not_eq_true'] at h2
    exact ⟨h1, fun e => by have := List.contains_iff_mem.2 e; rw [this] at h2; exact absurd h2.1 (by decide)⟩
  · rintro ⟨h1, h2⟩
    refine ⟨h1, ?_⟩
    have h3 := h.few i h1
    unfold taken
    rw [decide_eq_true (show K.gen 0 i < MG by unfold MG; omega)]
    have : (K.row 0).contains i = false := by
      rw [← Bool.not_eq_true]
      exact fun e => h2 (List.contains_iff_mem.1 e)
    rw [this]; rfl
end
end Ids
end Go.Proofs.Ytdanpdlbbgcidaa
