/- The code's store: an entity becomes the last row of its table: what lies where meanwhile. -/
import Derived.Test.YteohkbepefjjlaaKArCod2
namespace Go.Proofs.Yteohkbepefjjlaa
open Go.RowKit Pz Ar
set_option linter.unusedVariables false
set_option linter.unusedSimpArgs false

theorem app_one2 {W : World} {v : Value} {l : List Bn} (h : OwnB W 0 v l) (x : Bn) (hn : l.length + 1 ≤ 1000000) (ty : TypeId) :
    ∃ v' w', (Builtin.append_ #[26, 26] ty #[v, .slice (some ⟨W.heap.size, 0, none⟩) 1 1]).run Try.prog (W.alloc (.cells #[.int .i64 x.s, .int .i64 x.i, .int .i64 x.g, .int .i64 x.m, .int .i64 x.x, .int .i64 x.y, .int .i64 x.vx, .int .i64 x.vy, .int .i64 x.h, .int .i64 x.p, .int .i64 x.l] 35)) = .ok v' w' ∧ OwnB w' 0 v' (l ++ [x]) ∧ W.grownBy w' v.ownBlock ∧ (∀ g, v'.ownBlock = some g → v.ownBlock = some g ∨ W.heap.size ≤ g) := by
  have hb := bel1 W (.cells #[.int .i64 x.s, .int .i64 x.i, .int .i64 x.g, .int .i64 x.m, .int .i64 x.x, .int .i64 x.y, .int .i64 x.vx, .int .i64 x.vy, .int .i64 x.h, .int .i64 x.p, .int .i64 x.l] 35)
  have ha := at1 W (.cells #[.int .i64 x.s, .int .i64 x.i, .int .i64 x.g, .int .i64 x.m, .int .i64 x.x, .int .i64 x.y, .int .i64 x.vx, .int .i64 x.vy, .int .i64 x.h, .int .i64 x.p, .int .i64 x.l] 35)
  have h2 := h.below hb
  obtain ⟨v', w', hr, ho, hg, hf⟩ := h2.app (P := Try.prog) (t := 26) (ty := ty) Try.underlying26 bundle_info rfl (by decide) bnE_len bnE_one (Nat.zero_le _) [x] ⟨W.heap.size, 0, none⟩ 1 (fun j y hj c u hu => by
    have hj0 : j = 0 := by
      have := (List.getElem?_eq_some_iff.1 hj).1
      simp at this
      exact this
    subst hj0
    have hy := Option.some.inj hj
    subst hy
    rw [Addr.add_mid, Nat.zero_mul, Nat.zero_add, Nat.zero_add]
    exact (Bx.cell ha (by simpa [bnE, Bn.row] using hu)).1) (by simpa using hn) (by decide) (.inl (by simp))
  exact ⟨v', w', hr, ho, ⟨hg.os, hg.tape, hg.output, Nat.le_trans hb.size hg.size, fun k hk hne => (hg.block k (Nat.lt_of_lt_of_le hk hb.size) hne).trans (hb.block k hk)⟩, fun g e => (hf g e).imp id fun e => Nat.le_trans hb.size e⟩
/-- on the way -/
structure AddAt (F : Foot) (p : Nat) (t : Tb) (L : List (NK × Nat × Nat)) (w : World) (b : Bn) (q : Nat) (cs : Array Value) (W : World) : Prop where
  bel : Only F w W
  head : W.heap[p]? = some (.cells cs AT (0, 0))
  size : cs.size = 33
  tabs : Tabs F cs t W
  cell : cs[32]? = some (.map (some q))
  map : MapIs (Gr F w.heap.size W.heap.size) W (.map (some q)) L
  box : W.heap[w.heap.size]? = some (.cells #[.int .i64 b.s, .int .i64 b.i, .int .i64 b.g, .int .i64 b.m, .int .i64 b.x, .int .i64 b.y, .int .i64 b.vx, .int .i64 b.vy, .int .i64 b.h, .int .i64 b.p, .int .i64 b.l] 35 (0, 0))
section
variable {F : Foot} {p : Nat} {t : Tb} {L L' : List (NK × Nat × Nat)} {w W W3 : World} {b : Bn} {q : Nat} {cs : Array Value}
theorem AddAt.drew (h : AddAt F p t L w b q cs W) : AddAt F p t L w b q cs W.drew :=
  ⟨h.bel.drew, h.head, h.size, h.tabs.kept (fun _ _ => rfl), h.cell, h.map.kept (fun _ _ => rfl), h.box⟩
theorem AddAt.ne_q (h : AddAt F p t L w b q cs W) {k : Nat} {c : Array Value} {T : TypeId} (hk : W.heap[k]? = some (.cells c T (0, 0))) : k ≠ q := fun e => by
  obtain ⟨_, es, c', hq⟩ := h.map.own
  rw [e, hq] at hk
  cases hk
theorem AddAt.turn (h : AddAt F p t L w b q cs W) (hF : ∀ b, F b → b < w.heap.size) (hT : Turned q W W3) (hM : MapIs (Gr F w.heap.size W.heap.size) W3 (.map (some q)) L') : AddAt F p t L' w b q cs W3 := by
  have hq := h.map.own.1
  refine ⟨?_, (hT.block p (h.ne_q h.head)).trans h.head, h.size, ?_, h.cell, by rw [hT.size]; exact hM, (hT.block _ (h.ne_q h.box)).trans h.box⟩
  · exact h.bel.trans (hT.only hq)
  · refine ⟨fun m hm => ?_, h.tabs.apart, h.tabs.few⟩
    obtain ⟨v, h1, h2, h3⟩ := h.tabs.tab m hm
    refine ⟨v, h1, h2.kept fun g hg => hT.block g ?_, h3⟩
    obtain ⟨_, cur, hc⟩ := h.tabs.other hm h1 hg
    exact h.ne_q hc
theorem AddAt.fin (h : AddAt F p t L w b q cs W) (hp : F p) (hF : ∀ b, F b → b < w.heap.size) (hG : Ar.Good (put0 t b)) (hR : Rep L (put0 t b)) {m : Nat} (hm : m < 32) (hbm : b.m.toNat = m) {v v3 : Value} (hv : cs[m]? = some v) (ho : OwnB W3 0 v3 (t m ++ [b])) (hg : W.grownBy W3 v.ownBlock)
    (hrow : ∀ g, v3.ownBlock = some g → v.ownBlock = some g ∨ W.heap.size ≤ g) (hl : (t m).length + 1 ≤ 100000) :
    CS (Gr F w.heap.size (W3.setCell ⟨p, m, none⟩ v3).heap.size) p (put0 t b) (W3.setCell ⟨p, m, none⟩ v3) ∧ Only F w (W3.setCell ⟨p, m, none⟩ v3) := by
  rw [World.size_setCell]
  have hsz := h.bel.size
  have hpv : v.ownBlock ≠ some p := fun e => by
    obtain ⟨_, cur, hc⟩ := h.tabs.other hm hv e
    exact Bx.ne_type hc h.head (by decide) rfl
  have hp3 : W3.heap[p]? = some (.cells cs AT (0, 0)) := (hg.block p (Bx.lt h.head) (fun e => hpv e.symm)).trans h.head
  obtain ⟨hqF, es, c, hqh⟩ := h.map.own
  have hqv : v.ownBlock ≠ some q := fun e => by
    obtain ⟨_, cur, hc⟩ := h.tabs.other hm hv e
    rw [hqh] at hc; cases hc
  have hput : put0 t b = Ar.up t m (t m ++ [b]) := by unfold put0; rw [hbm]
  obtain ⟨a1, a2⟩ := tabs_store (W := W3) (F' := Gr F w.heap.size W3.heap.size) (v := v3) (l := t m ++ [b]) (by decide) h.tabs hp3 (fun b hb => .inl hb) hm (fun a u g ha hne hu hg' => by
    obtain ⟨_, cur, hc⟩ := h.tabs.other ha hu hg'
    exact hg.block g (Bx.lt hc) (fun e => h.tabs.apart a m u v g ha hm hne hu hv hg' e.symm)) ho (by simpa using hl) (fun g hg3 => by
      obtain ⟨_, cur, hc⟩ := ho.blk hg3
      rcases hrow g hg3 with e | e
      · exact ⟨.inl (h.tabs.other hm hv e).1, fun a u ha hne hu e2 => h.tabs.apart a m u v g ha hm hne hu hv e2 e⟩
      · refine ⟨.inr ⟨by omega, Bx.lt hc⟩, fun a u ha hne hu e2 => ?_⟩
        obtain ⟨_, cur, hc⟩ := h.tabs.other ha hu e2
        have := Bx.lt hc
        omega)
  refine ⟨⟨⟨_, .map (some q), L, a1, by simpa using h.size, by rw [hput]; exact a2, ?_, ?_, hR⟩, hG, .inl hp, fun b hb => ?_⟩, ?_⟩
  · rw [Array.getElem?_setIfInBounds_ne (by omega)]
    exact h.cell
  · refine (h.map.kept' (fun k hk => ?_)).more (fun k hk => hk.imp id fun hk => ⟨hk.1, Nat.lt_of_lt_of_le hk.2 hg.size⟩)
    cases Option.some.inj (Value.map.inj hk)
    rw [Bx.ne (fun e => ?_)]
    · exact hg.block q (Bx.lt hqh) (fun e => hqv e.symm)
    · subst e
      rw [h.head] at hqh
      cases hqh
  · rw [World.size_setCell]
    rcases hb with hb | hb
    · have := hF b hb; have := hg.size; omega
    · exact hb.2
  · refine Only.set ⟨hg.os.trans h.bel.os, hg.tape.trans h.bel.tape, hg.output.trans h.bel.output, Nat.le_trans hsz hg.size, fun k hk hn => ?_⟩ (.inl hp) _
    refine (hg.block k (by omega) (fun e => hn ?_)).trans (h.bel.block k hk hn)
    exact (h.tabs.other hm hv e.symm).1
end
end Go.Proofs.Yteohkbepefjjlaa
