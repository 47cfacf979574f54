/- The law IdsRow: two rows of names beside a pool, and what its appends and reslices make of them. -/
import Derived.Test.YtdanpdlbbgcidaaIdHold
import Derived.Test.YtdanpdlbbgcidaaIdLaw3
import Derived.Test.YtdanpdlbbgcidaaIdOnceW
import Derived.Test.YtdanpdlbbgcidaaIdRowP
namespace Go.Proofs.Ytdanpdlbbgcidaa
open Go.RowKit Ids
set_option linter.unusedVariables false

structure Two (W : World) (B : Nat) (v u : Value) (R H : List I3) : Prop where
  r : OwnI W B v R
  h : OwnI W B u H
  ne : ∀ b, v.ownBlock = some b → u.ownBlock ≠ some b
theorem kept_two' (B : Nat) (v u : Value) (R H : List I3) : Kept B (fun W => Two W B v u R H) := fun W W' h hs hk =>
  ⟨kept_rw B v R W W' h.r hs hk, kept_rw B u H W W' h.h hs hk, h.ne⟩
theorem run_push (W : World) {B : Nat} {v : Value} {l : List I3} (h : OwnI W B v l) (hB : B ≤ W.heap.size) (hl : l.length ≤ 1000) (x : I3) : ∃ v' w', (Builtin.append_ #[40, 40] 40 #[v, .slice (some ⟨W.heap.size, 0, none⟩) 1 1]).run Try.prog (W.alloc (ido x)) = .ok v' w' ∧
      OwnI w' B v' (l ++ [x]) ∧ W.grownBy w' v.ownBlock ∧ (∀ b, v'.ownBlock = some b → v.ownBlock = some b ∨ W.heap.size ≤ b) ∧ Below B W w' := push_id W h hB (by omega) x 40
section
variable {w W : World} {d : Nat} {p : Pl} {K : St} {v u : Value} {R H : List I3}
/-- one name more, in the row -/
theorem pushR (h : H1 w d p K (fun W => Two W p.hi v u R H) W) (hl : R.length ≤ 1000) (x : I3) :
    ∃ v' w', (∃ A c, v' = .slice A (R ++ [x]).length c) ∧ Hid ((Builtin.append_ #[40, 40] 40 #[v, .slice (some ⟨W.heap.size, 0, none⟩) 1 1]).run Try.prog (W.alloc (ido x)) = .ok v' w') ∧
      H1 w d p K (fun W => Two W p.hi v' u (R ++ [x]) H) w' := by
  obtain ⟨v', w', r1, o1, g1, b1, e1⟩ := run_push W h.own.r h.pa.top hl x
  obtain ⟨A, c, f1⟩ := o1.form
  have o2 : OwnI w' p.hi u H := h.own.h.kept fun b hb => by
    obtain ⟨_, cur, hc⟩ := h.own.h.blk hb
    exact g1.block b (heap_lt hc) fun e => h.own.ne b e.symm hb
  refine ⟨v', w', ⟨A, c, f1⟩, Lib.hid r1, h.put e1 ⟨o1, o2, fun b hb hu => ?_⟩ (kept_two' _ _ _ _ _)⟩
  obtain ⟨_, cur, hc⟩ := h.own.h.blk hu
  rcases b1 b hb with e | e
  · exact h.own.ne b e hu
  · have := heap_lt hc; omega
/-- one name more, in what is had -/
theorem pushH (h : H1 w d p K (fun W => Two W p.hi v u R H) W) (hl : H.length ≤ 1000) (x : I3) :
    ∃ u' w', (∃ A c, u' = .slice A (H ++ [x]).length c) ∧ Hid ((Builtin.append_ #[40, 40] 40 #[u, .slice (some ⟨W.heap.size, 0, none⟩) 1 1]).run Try.prog (W.alloc (ido x)) = .ok u' w') ∧
      H1 w d p K (fun W => Two W p.hi v u' R (H ++ [x])) w' := by
  obtain ⟨v', w', r1, o1, g1, b1, e1⟩ := run_push W h.own.h h.pa.top hl x
  obtain ⟨A, c, f1⟩ := o1.form
  have o2 : OwnI w' p.hi v R := h.own.r.kept fun b hb => by
    obtain ⟨_, cur, hc⟩ := h.own.r.blk hb
    exact g1.block b (heap_lt hc) fun e => h.own.ne b hb e.symm
  refine ⟨v', w', ⟨A, c, f1⟩, Lib.hid r1, h.put e1 ⟨o2, o1, fun b hb hu => ?_⟩ (kept_two' _ _ _ _ _)⟩
  obtain ⟨_, cur, hc⟩ := h.own.r.blk hb
  rcases b1 b hu with e | e
  · exact h.own.ne b hb e
  · have := heap_lt hc; omega
end
/-- without the first -/
theorem own_tail {W : World} {B g o n c : Nat} {x : I3} {l : List I3} (h : OwnI W B (.slice (some ⟨g, o, none⟩) n c) (x :: l)) : n = l.length + 1 ∧ n ≤ c ∧ OwnI W B (.slice (some ⟨g, if c = 1 then o else o + 3, none⟩) l.length (c - 1)) l := by
  rcases h with ⟨e, _⟩ | ⟨g', o', c', cur, e, h1, h2, h3, h4, h5, h6⟩
  · cases e
  · cases e
    rw [List.length_cons] at h3
    refine ⟨List.length_cons, by rw [List.length_cons]; exact h3, .inr ⟨g, _, _, cur, rfl, h1, h2, by omega, by omega, ?_, fun j y hj c2 z hz => ?_⟩⟩
    · split <;> omega
    · have hj' := (List.getElem?_eq_some_iff.1 hj).1
      rw [if_neg (by omega)]
      have := h6 (j + 1) y (by rw [List.getElem?_cons_succ]; exact hj) c2 z hz
      rwa [show o + 3 + (j * 3 + c2) = o + ((j + 1) * 3 + c2) by omega]
theorem own_none {W : World} {B : Nat} (hB : B ≤ W.heap.size) : OwnI (W.alloc (.cells #[] 33)) B (.slice (some ⟨W.heap.size, 0, none⟩) 0 0) [] :=
  .inr ⟨W.heap.size, 0, 0, #[], rfl, hB, at1 W _, Nat.le_refl _, by omega, by simp, fun j x hj => by simp at hj⟩
/-- all but one, in a row of its own -/
theorem run_cut (W : World) {B g o c : Nat} {H : List I3} (h : OwnI W B (.slice (some ⟨g, o, none⟩) H.length c) H) (hB : B ≤ W.heap.size) (hl : H.length ≤ 1000) {k : Nat} (hk : k < H.length) (AD : Addr) (hAD : AD = (if c = k + 1 then ⟨g, o, none⟩ else ⟨g, o + (k + 1) * 3, none⟩)) :
    ∃ v1 w1, (Builtin.append_ #[40, 40] 40 #[.slice (some ⟨W.heap.size, 0, none⟩) 0 0, .slice (some ⟨g, o, none⟩) k c]).run Try.prog (W.alloc (.cells #[] 33)) = .ok v1 w1 ∧
      ∃ v2 w2, (Builtin.append_ #[40, 40] 40 #[v1, .slice (some AD) (H.length - (k + 1)) (c - (k + 1))]).run Try.prog w1 = .ok v2 w2 ∧
        OwnI w2 W.heap.size v2 (H.take k ++ H.drop (k + 1)) ∧ Below W.heap.size W w2 := by
  rcases h with ⟨e, _⟩ | ⟨g', o', c', cur, e, h1, h2, h3, h4, h5, h6⟩
  · cases e
  cases e
  have hg := heap_lt h2
  have cellof : ∀ W' : World, Below W.heap.size W W' → ∀ (j : Nat) (y : I3), H[j]? = some y → ∀ (c2 : Nat) (z : Value), (idE y)[c2]? = some z → W'.cell? ⟨g, o + (j * 3 + c2), none⟩ = some z := fun W' hb j y hj c2 z hz => by
    have e1 := h6 j y hj c2 z hz
    have e2 : W'.heap[g]? = some (.cells cur 33 (0, 0)) := (hb.block g hg).trans h2
    simp [World.cell?, e2, e1]
  have b0 := bel1 W (.cells #[] 33)
  have o0 := own_none (W := W) (B := W.heap.size) (Nat.le_refl _)
  have ht : (H.take k).length = k := by rw [List.length_take]; omega
  obtain ⟨v1, w1, r1, o1, g1, b1⟩ := o0.app (P := Try.prog) (t := 40) (ty := 40) Try.underlying40 id_info rfl (by decide) idE_len idE_one (by rw [size1]; omega) (H.take k) ⟨g, o, none⟩ c (fun j y hj c2 z hz => by
    rw [Addr.add_mid]
    rw [List.getElem?_take] at hj
    split at hj
    · exact cellof _ b0 j y hj c2 z hz
    · cases hj) (by rw [ht]; simp; omega) (by decide) (.inr (by intro e; cases e))
  rw [ht] at r1
  have bel1' : Below W.heap.size W w1 := b0.trans ((Below.refl W.heap.size _).grown g1 (by rw [size1]; omega) (fun k hk => by cases hk; exact Nat.le_refl _))
  have hd : (H.drop (k + 1)).length = H.length - (k + 1) := List.length_drop
  obtain ⟨v2, w2, r2, o2, g2, b2⟩ := o1.app (P := Try.prog) (t := 40) (ty := 40) Try.underlying40 id_info rfl (by decide) idE_len idE_one (by have := bel1'.size; omega) (H.drop (k + 1)) AD (c - (k + 1)) (fun j y hj c2 z hz => by
    have hj' := (List.getElem?_eq_some_iff.1 hj).1
    rw [hd] at hj'
    rw [if_neg (by omega)] at hAD
    subst hAD
    rw [Addr.add_mid]
    rw [List.getElem?_drop] at hj
    have := cellof _ bel1' _ y hj c2 z hz
    rwa [show o + (k + 1) * 3 + (j * 3 + c2) = o + ((k + 1 + j) * 3 + c2) by omega]) (by simp only [List.nil_append, ht, hd]; omega) (by decide) (.inr (by
      intro e
      rcases o1 with ⟨_, e2⟩ | ⟨_, _, _, _, e1, _⟩
      · have hk0 : k = 0 := by rw [List.nil_append] at e2; rw [e2] at ht; exact ht.symm
        subst hk0
        obtain ⟨i, hi, _, _, _⟩ := info_parts id_info
        have hr := run_append_room_cells (P := Try.prog) (W.alloc (.cells #[] 33)) 40 40 33 i Try.underlying40 hi W.heap.size 0 0 0 ⟨g, o, none⟩ 0 c [] (by simp) (fun j u hj => by simp at hj) (fun u hu => by cases hu) (Nat.le_refl _) (fun j hj => absurd hj (Nat.not_lt_zero _)) (fun j hj => absurd hj (Nat.not_lt_zero _))
        rw [r1, e] at hr
        cases hr
      · rw [e] at e1; cases e1))
  rw [hd] at r2
  refine ⟨v1, w1, r1, v2, w2, r2, by simpa using o2, bel1'.trans ((Below.refl W.heap.size w1).grown g2 (by have := bel1'.size; omega) (fun b hb => (o1.blk hb).1))⟩
end Go.Proofs.Ytdanpdlbbgcidaa
