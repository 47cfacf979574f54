/- The code's store: somebody is removed: what lies where meanwhile. -/
import Derived.Test.YteohkbepefjjlaaKArAdd
namespace Go.Proofs.Yteohkbepefjjlaa
open Go.RowKit Pz Ar
set_option linter.unusedVariables false
set_option linter.unusedSimpArgs false

/-- an entity's cells at a place -/
abbrev Cells11 (W : World) (g o : Nat) (x : Bn) : Prop := W.cell? ⟨g, o, none⟩ = some (.int .i64 x.s) ∧ W.cell? ⟨g, o + 1, none⟩ = some (.int .i64 x.i) ∧ W.cell? ⟨g, o + 2, none⟩ = some (.int .i64 x.g) ∧ W.cell? ⟨g, o + 3, none⟩ = some (.int .i64 x.m) ∧ W.cell? ⟨g, o + 4, none⟩ = some (.int .i64 x.x) ∧ W.cell? ⟨g, o + 5, none⟩ = some (.int .i64 x.y) ∧ W.cell? ⟨g, o + 6, none⟩ = some (.int .i64 x.vx) ∧ W.cell? ⟨g, o + 7, none⟩ = some (.int .i64 x.vy) ∧ W.cell? ⟨g, o + 8, none⟩ = some (.int .i64 x.h) ∧ W.cell? ⟨g, o + 9, none⟩ = some (.int .i64 x.p) ∧ W.cell? ⟨g, o + 10, none⟩ = some (.int .i64 x.l)
abbrev Froz11 (W : World) (g o : Nat) : Prop := W.frozen? ⟨g, o, none⟩ = false ∧ W.frozen? ⟨g, o + 1, none⟩ = false ∧ W.frozen? ⟨g, o + 2, none⟩ = false ∧ W.frozen? ⟨g, o + 3, none⟩ = false ∧ W.frozen? ⟨g, o + 4, none⟩ = false ∧ W.frozen? ⟨g, o + 5, none⟩ = false ∧ W.frozen? ⟨g, o + 6, none⟩ = false ∧ W.frozen? ⟨g, o + 7, none⟩ = false ∧ W.frozen? ⟨g, o + 8, none⟩ = false ∧ W.frozen? ⟨g, o + 9, none⟩ = false ∧ W.frozen? ⟨g, o + 10, none⟩ = false
/-- on the way -/
structure RemAt (F : Foot) (p : Nat) (t : Tb) (L : List (NK × Nat × Nat)) (w : World) (k1 k2 k3 : Int) (b2 m i : Nat) (q : Nat) (cs : Array Value) (W : World) : Prop where
  bel : Only F w W
  head : W.heap[p]? = some (.cells cs AT (0, 0))
  size : cs.size = 33
  tabs : Tabs F cs t W
  cell : cs[32]? = some (.map (some q))
  map : MapIs F W (.map (some q)) L
  idb : W.heap[w.heap.size]? = some (.cells #[.int .i64 k1, .int .i64 k2, .int .i64 k3] 33 (0, 0))
  plb : W.heap[b2]? = some (.cells #[.int .i64 (m : Int), .int .i64 (i : Int)] 72 (0, 0))
section
variable {F : Foot} {p : Nat} {t : Tb} {L L' : List (NK × Nat × Nat)} {w W V : World} {k1 k2 k3 : Int} {b2 m i q : Nat} {cs : Array Value}
theorem RemAt.heap (h : RemAt F p t L w k1 k2 k3 b2 m i q cs W) (e : V.heap = W.heap) (e1 : V.os = W.os) (e2 : V.tape = W.tape) (e3 : V.output = W.output) : RemAt F p t L w k1 k2 k3 b2 m i q cs V :=
  ⟨⟨e1.trans h.bel.os, e2.trans h.bel.tape, e3.trans h.bel.output, by rw [e]; exact h.bel.size, fun b hb hn => by rw [e]; exact h.bel.block b hb hn⟩, by rw [e]; exact h.head, h.size, h.tabs.kept (fun _ _ => by rw [e]), h.cell, h.map.kept (fun _ _ => by rw [e]), by rw [e]; exact h.idb, by rw [e]; exact h.plb⟩
theorem RemAt.drew (h : RemAt F p t L w k1 k2 k3 b2 m i q cs W) : RemAt F p t L w k1 k2 k3 b2 m i q cs W.drew := h.heap rfl rfl rfl rfl
theorem RemAt.ne_q (h : RemAt F p t L w k1 k2 k3 b2 m i q cs W) {k : Nat} {c : Array Value} {T : TypeId} (hk : W.heap[k]? = some (.cells c T (0, 0))) : k ≠ q := fun e => by
  obtain ⟨_, es, c', hq⟩ := h.map.own
  rw [e, hq] at hk
  cases hk
theorem RemAt.turn (h : RemAt F p t L w k1 k2 k3 b2 m i q cs W) (hT : Turned q W V) (hM : MapIs F V (.map (some q)) L') : RemAt F p t L' w k1 k2 k3 b2 m i q cs V := by
  have hq := h.map.own.1
  refine ⟨h.bel.trans ((hT.only hq).more fun b hb => .inl hb), (hT.block p (h.ne_q h.head)).trans h.head, h.size, ?_, h.cell, hM, (hT.block _ (h.ne_q h.idb)).trans h.idb, (hT.block _ (h.ne_q h.plb)).trans h.plb⟩
  refine ⟨fun m hm => ?_, h.tabs.apart, h.tabs.few⟩
  obtain ⟨v, h1, h2, h3⟩ := h.tabs.tab m hm
  refine ⟨v, h1, h2.kept fun g hg => hT.block g ?_, h3⟩
  obtain ⟨_, cur, hc⟩ := h.tabs.other hm h1 hg
  exact h.ne_q hc
theorem RemAt.row (h : RemAt F p t L w k1 k2 k3 b2 m i q cs W) {a : Nat} (ha : a < 32) {g o n c : Nat} (hv : cs[a]? = some (.slice (some ⟨g, o, none⟩) n c)) {j : Nat} (hj : j < (t a).length) (z : Bn) :
    RemAt F p (Ar.up t a ((t a).set j z)) L w k1 k2 k3 b2 m i q cs (setRow11 W g (o + j * 11) z) := by
  obtain ⟨u, hu, hou, huF⟩ := h.tabs.tab a ha
  rw [hv] at hu
  cases Option.some.inj hu
  obtain ⟨s1, _⟩ := own_set hou hj z
  obtain ⟨hgF, cur, hc⟩ := h.tabs.other ha hv (b := g) rfl
  have ne : ∀ k, k ≠ g → (setRow11 W g (o + j * 11) z).heap[k]? = W.heap[k]? := fun k hk => setRow11_ne _ _ _ hk
  refine ⟨setRow11_only h.bel hgF _ _, (ne p (Bx.ne_type h.head hc (by decide))).trans h.head, h.size, tabs_set h.tabs ha hv (fun k hk => ne k (fun e => hk (by rw [e]; rfl))) s1 (by rw [List.length_set]; exact h.tabs.few a), h.cell, h.map.kept' (fun k hk => ne k ?_), (ne _ (Bx.ne_type h.idb hc (by decide))).trans h.idb, (ne _ (Bx.ne_type h.plb hc (by decide))).trans h.plb⟩
  cases Option.some.inj (Value.map.inj hk)
  exact fun e => h.ne_q hc e.symm
theorem RemAt.cut (h : RemAt F p t L w k1 k2 k3 b2 m i q cs W) (hp : F p) {a : Nat} (ha : a < 32) {v : Value} {l : List Bn} (ho : OwnB W 0 v l) (hl : l.length ≤ 100000) (hv : ∀ g, v.ownBlock = some g → ∃ u, cs[a]? = some u ∧ u.ownBlock = some g) :
    RemAt F p (Ar.up t a l) L w k1 k2 k3 b2 m i q (cs.setIfInBounds a v) (W.setCell ⟨p, a, none⟩ v) := by
  obtain ⟨a1, a2⟩ := tabs_store (W := W) (v := v) (l := l) (by decide) h.tabs h.head (fun _ hb => hb) ha (fun _ _ _ _ _ _ _ => rfl) ho hl (fun g hg => by
    obtain ⟨u, hu, hug⟩ := hv g hg
    exact ⟨(h.tabs.other ha hu hug).1, fun x y hx hne hy e => h.tabs.apart x a y u g hx ha hne hy hu e hug⟩)
  refine ⟨h.bel.set (a := ⟨p, a, none⟩) (.inl hp) _, a1, by simpa using h.size, a2, ?_, h.map.kept' (fun k hk => Bx.ne ?_ _), (Bx.ne (Bx.ne_type h.idb h.head (by decide)) _).trans h.idb, (Bx.ne (Bx.ne_type h.plb h.head (by decide)) _).trans h.plb⟩
  · rw [Array.getElem?_setIfInBounds_ne (by omega)]
    exact h.cell
  · cases Option.some.inj (Value.map.inj hk)
    exact fun e => h.ne_q h.head e.symm
theorem RemAt.fin (h : RemAt F p t L w k1 k2 k3 b2 m i q cs W) (hp : F p) (hF : ∀ b, F b → b < w.heap.size) (hG : Ar.Good t) (hR : Rep L t) : CS (Gr F w.heap.size W.heap.size) p t W ∧ Only F w W := by
  refine ⟨⟨⟨cs, _, L, h.head, h.size, h.tabs.more (fun _ hb => .inl hb), h.cell, h.map.more (fun _ hb => .inl hb), hR⟩, hG, .inl hp, fun b hb => ?_⟩, h.bel⟩
  rcases hb with hb | hb
  · have := hF b hb; have := h.bel.size; omega
  · exact hb.2
end
end Go.Proofs.Yteohkbepefjjlaa
