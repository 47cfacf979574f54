/- What was told of tables, written over: the rows' rooms stay. -/
import Derived.Test.YteohkbepefjjlaaKArRows
namespace Go.Proofs.Yteohkbepefjjlaa
open Go.RowKit Pz Ar
set_option linter.unusedVariables false
set_option linter.unusedSimpArgs false

abbrev NMT : TypeId := 33
/-- there is room for so many names -/
def RoomI (W : World) (B : Nat) (a : Option Addr) (n : Nat) : Prop := n = 0 ∨ ∃ g o cur, a = some ⟨g, o, none⟩ ∧ B ≤ g ∧ W.heap[g]? = some (.cells cur NMT (0, 0)) ∧ o + n * 3 ≤ cur.size
def RoomT (W : World) (B : Nat) (v : Value) (l : List TE) : Prop := OwnT W B v l ∧ ∀ x ∈ l, RoomI W B x.2.1 x.2.2.1
section
variable {W V : World} {B : Nat} {v : Value} {l : List TE} {T : List (Nat × List NK)}
theorem OwnI.room {a : Option Addr} {n c : Nat} {ks : List NK} (h : OwnI W B (.slice a n c) ks) (hn : n = ks.length) : RoomI W B a n := by
  rcases h with ⟨e, e2⟩ | ⟨g, o, cap, cur, e, h1, h2, h3, h4, h5, h6⟩
  · subst e2; exact .inl hn
  · cases e
    exact .inr ⟨g, o, cur, rfl, h1, h2, by have := Nat.mul_le_mul_right 3 h3; omega⟩
theorem TabsAt.room (h : TabsAt W B v T) (hk : ∀ y ∈ T, y.2.length ≤ 1000000) : ∃ l : List TE, l.length = T.length ∧ RoomT W B v l ∧ ∀ x ∈ l, x.2.2.1 ≤ 1000000 := by
  obtain ⟨l, h1, h2, h3⟩ := h
  refine ⟨l, h2, ⟨h1, fun x hx => ?_⟩, fun x hx => ?_⟩
  all_goals
    obtain ⟨j, hj, rfl⟩ := List.getElem_of_mem hx
    obtain ⟨_, e2, e3⟩ := h3 j _ _ (List.getElem?_eq_getElem hj) (List.getElem?_eq_getElem (by omega))
  · exact e3.room e2
  · rw [e2]; exact hk _ (List.getElem_mem _)
theorem RoomI.at_ {a : Option Addr} {n k : Nat} (h : RoomI W B a n) (hk : k < n) : ∃ g o, a = some ⟨g, o, none⟩ ∧ B ≤ g ∧ (∃ cur, W.heap[g]? = some (.cells cur NMT (0, 0))) ∧ (∃ v0 v1 v2, W.cell? ⟨g, o + k * 3, none⟩ = some v0 ∧ W.cell? ⟨g, o + k * 3 + 1, none⟩ = some v1 ∧ W.cell? ⟨g, o + k * 3 + 2, none⟩ = some v2) ∧ (W.frozen? ⟨g, o + k * 3, none⟩ = false ∧ W.frozen? ⟨g, o + k * 3 + 1, none⟩ = false ∧ W.frozen? ⟨g, o + k * 3 + 2, none⟩ = false) := by
  rcases h with h | ⟨g, o, cur, e, hB, hg, hs⟩
  · omega
  · have hk3 : k * 3 + 3 ≤ n * 3 := by omega
    have a0 := Bx.cell hg (Array.getElem?_eq_getElem (show o + k * 3 < cur.size by omega))
    have a1 := Bx.cell hg (Array.getElem?_eq_getElem (show o + k * 3 + 1 < cur.size by omega))
    have a2 := Bx.cell hg (Array.getElem?_eq_getElem (show o + k * 3 + 2 < cur.size by omega))
    exact ⟨g, o, e, hB, ⟨cur, hg⟩, ⟨_, _, _, a0.1, a1.1, a2.1⟩, a0.2, a1.2, a2.2⟩
theorem RoomT.set (h : RoomT W B v l) {g q : Nat} (hg : ∃ cur, W.heap[g]? = some (.cells cur NMT (0, 0))) (u : Value) : RoomT (W.setCell ⟨g, q, none⟩ u) B v l ∧ ∃ cur, (W.setCell ⟨g, q, none⟩ u).heap[g]? = some (.cells cur NMT (0, 0)) := by
  obtain ⟨cur, hc⟩ := hg
  refine ⟨⟨h.1.kept fun b hb => ?_, fun x hx => ?_⟩, _, Bx.set hc u⟩
  · obtain ⟨_, cur2, hc2⟩ := h.1.blk hb
    exact Bx.ne (Bx.ne_type hc2 hc (by decide)) u
  · rcases h.2 x hx with h0 | ⟨g', o, cur', e, hB, hg', hs⟩
    · exact .inl h0
    · by_cases hgg : g' = g
      · subst hgg
        rw [hg'] at hc
        cases hc
        exact .inr ⟨g', o, _, e, hB, Bx.set hg' u, by simpa using hs⟩
      · exact .inr ⟨g', o, cur', e, hB, (Bx.ne hgg u).trans hg', hs⟩
theorem RoomT.set3 (h : RoomT W B v l) {g q : Nat} (hg : ∃ cur, W.heap[g]? = some (.cells cur NMT (0, 0))) (u0 u1 u2 : Value) : RoomT (((W.setCell ⟨g, q, none⟩ u0).setCell ⟨g, q + 1, none⟩ u1).setCell ⟨g, q + 2, none⟩ u2) B v l := by
  obtain ⟨h1, g1⟩ := h.set hg u0 (q := q)
  obtain ⟨h2, g2⟩ := h1.set g1 u1 (q := q + 1)
  exact (h2.set g2 u2).1
theorem RoomT.at_ {A : Option Addr} {n c : Nat} (h : RoomT W B (.slice A n c) l) {j : Nat} {x : TE} (hx : l[j]? = some x) : ∃ g o, A = some ⟨g, o, none⟩ ∧ W.cell? ⟨g, o + j * 2 + 1, none⟩ = some (.slice x.2.1 x.2.2.1 x.2.2.2) ∧ RoomI W B x.2.1 x.2.2.1 := by
  obtain ⟨g, o, c', e, hB, hg, hc⟩ := h.1.at_ hx
  cases e
  exact ⟨g, o, rfl, (hc 1 _ rfl).1, h.2 x (List.mem_of_getElem? hx)⟩
end
end Go.Proofs.Yteohkbepefjjlaa
