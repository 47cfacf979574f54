/- Stores in memory: a row's own cells are written. -/
import Derived.Test.YteohkbepefjjlaaKArGet
namespace Go.Proofs.Yteohkbepefjjlaa
open Go.RowKit Pz Ar
set_option linter.unusedVariables false
set_option linter.unusedSimpArgs false

section
variable {F : Foot} {cs : Array Value} {t : Tb} {w W : World} {p m : Nat} {v : Value} {l : List Bn}
theorem tabs_set (h : Tabs F cs t w) (hm : m < 32) (hv : cs[m]? = some v) (hk : ∀ g, v.ownBlock ≠ some g → W.heap[g]? = w.heap[g]?) (ho : OwnB W 0 v l) (hl : l.length ≤ 100000) : Tabs F cs (up t m l) W := by
  have e : cs.setIfInBounds m v = cs := by
    apply Array.ext_getElem?
    intro i
    by_cases hi : m = i
    · subst hi
      rw [Array.getElem?_setIfInBounds_self_of_lt (Array.getElem?_eq_some_iff.1 hv).1, hv]
    · rw [Array.getElem?_setIfInBounds_ne hi]
  have := h.up (F' := F) (W := W) (fun _ hb => hb) hm (v := v) (l := l) (fun a u g ha hne hu hg => hk g (fun e => h.apart a m u v g ha hm hne hu hv hg e)) ho hl (fun g hg => ⟨(h.other hm hv hg).1, fun a u ha hne hu e => h.apart a m u v g ha hm hne hu hv e hg⟩)
  rwa [e] at this
theorem RS.set (h : RS F p t w) (hm : m < 32) (hc : w.cell? ⟨p, m, none⟩ = some v) (hs : W.heap.size = w.heap.size) (hk : ∀ g, v.ownBlock ≠ some g → W.heap[g]? = w.heap[g]?) (ho : OwnB W 0 v l) (hl : l.length ≤ 100000) : RS F p (Ar.up t m l) W := by
  obtain ⟨cs, h1, h2, h3⟩ := h.head
  have hv : cs[m]? = some v := by rw [cellAt h1 m] at hc; exact hc
  have hp : v.ownBlock ≠ some p := fun e => by
    obtain ⟨_, cur, hc⟩ := h3.other hm hv e
    exact Bx.ne_type hc h1 (by decide) rfl
  exact ⟨⟨cs, (hk p hp).trans h1, h2, tabs_set h3 hm hv hk ho hl⟩, h.mine, fun b hb => by rw [hs]; exact h.lt b hb⟩
theorem RS.own_mine (h : RS F p t w) (hm : m < 32) (hc : w.cell? ⟨p, m, none⟩ = some v) {g : Nat} (hg : v.ownBlock = some g) : F g := by
  obtain ⟨cs, h1, h2, h3⟩ := h.head
  have hv : cs[m]? = some v := by rw [cellAt h1 m] at hc; exact hc
  exact (h3.other hm hv hg).1
theorem CS.set (h : CS F p t w) (hm : m < 32) (hc : w.cell? ⟨p, m, none⟩ = some v) (hs : W.heap.size = w.heap.size) (hk : ∀ g, v.ownBlock ≠ some g → W.heap[g]? = w.heap[g]?) {i : Nat} {b x : Bn} (hb : may b = true) (hx : (t m)[i]? = some x) (he : x.id = b.id) (hbm : (m : Int) = b.m) (ho : OwnB W 0 v ((t m).set i b)) : CS F p (Ar.up t m ((t m).set i b)) W := by
  obtain ⟨cs, mv, L, h1, h2, h3, h4, h5, h6⟩ := h.head
  have hv : cs[m]? = some v := by rw [cellAt h1 m] at hc; exact hc
  have hn : ∀ g, v.ownBlock = some g → ∃ cur, w.heap[g]? = some (.cells cur 35 (0, 0)) := fun g e => (h3.other hm hv e).2
  have hp : v.ownBlock ≠ some p := fun e => by
    obtain ⟨cur, hc⟩ := hn p e
    exact Bx.ne_type hc h1 (by decide) rfl
  refine ⟨⟨cs, mv, L, (hk p hp).trans h1, h2, tabs_set h3 hm hv hk ho (by rw [List.length_set]; exact h3.few m), h4, ?_, h6.write h.good hb hx he hbm⟩, set_good h.good hb hx he hbm, h.mine, fun b hb => by rw [hs]; exact h.lt b hb⟩
  rcases h5 with h5 | ⟨q, es, c, e1, e2, e3, e4⟩
  · exact .inl h5
  · refine .inr ⟨q, es, c, e1, e2, (hk q (fun e => ?_)).trans e3, e4⟩
    obtain ⟨cur, hc⟩ := hn q e
    rw [e3] at hc
    cases hc
theorem CS.own_mine (h : CS F p t w) (hm : m < 32) (hc : w.cell? ⟨p, m, none⟩ = some v) {g : Nat} (hg : v.ownBlock = some g) : F g := by
  obtain ⟨cs, mv, L, h1, h2, h3, _⟩ := h.head
  have hv : cs[m]? = some v := by rw [cellAt h1 m] at hc; exact hc
  exact (h3.other hm hv hg).1
end
/-- the world with one entity of a row another one -/
abbrev setRow11 (W : World) (g o : Nat) (x : Bn) : World :=
  ((((((((((W.setCell ⟨g, o, none⟩ (.int .i64 x.s)).setCell ⟨g, o + 1, none⟩ (.int .i64 x.i)).setCell ⟨g, o + 2, none⟩ (.int .i64 x.g)).setCell ⟨g, o + 3, none⟩ (.int .i64 x.m)).setCell ⟨g, o + 4, none⟩ (.int .i64 x.x)).setCell ⟨g, o + 5, none⟩ (.int .i64 x.y)).setCell ⟨g, o + 6, none⟩ (.int .i64 x.vx)).setCell ⟨g, o + 7, none⟩ (.int .i64 x.vy)).setCell ⟨g, o + 8, none⟩ (.int .i64 x.h)).setCell ⟨g, o + 9, none⟩ (.int .i64 x.p)).setCell ⟨g, o + 10, none⟩ (.int .i64 x.l)
theorem setRow11_size (W : World) (g o : Nat) (x : Bn) : (setRow11 W g o x).heap.size = W.heap.size := by simp [setRow11]
theorem setRow11_ne (W : World) {g k : Nat} (o : Nat) (x : Bn) (h : k ≠ g) : (setRow11 W g o x).heap[k]? = W.heap[k]? := by
  simp only [setRow11]
  repeat rw [Bx.ne h]
theorem setRow11_only {F : Foot} {w W : World} (h : Only F w W) {g : Nat} (hg : F g) (o : Nat) (x : Bn) : Only F w (setRow11 W g o x) :=
  (((((((((((h.set (a := ⟨g, o, none⟩) (.inl hg) (.int .i64 x.s)).set (a := ⟨g, o + 1, none⟩) (.inl hg) (.int .i64 x.i)).set (a := ⟨g, o + 2, none⟩) (.inl hg) (.int .i64 x.g)).set (a := ⟨g, o + 3, none⟩) (.inl hg) (.int .i64 x.m)).set (a := ⟨g, o + 4, none⟩) (.inl hg) (.int .i64 x.x)).set (a := ⟨g, o + 5, none⟩) (.inl hg) (.int .i64 x.y)).set (a := ⟨g, o + 6, none⟩) (.inl hg) (.int .i64 x.vx)).set (a := ⟨g, o + 7, none⟩) (.inl hg) (.int .i64 x.vy)).set (a := ⟨g, o + 8, none⟩) (.inl hg) (.int .i64 x.h)).set (a := ⟨g, o + 9, none⟩) (.inl hg) (.int .i64 x.p)).set (a := ⟨g, o + 10, none⟩) (.inl hg) (.int .i64 x.l))
end Go.Proofs.Yteohkbepefjjlaa
