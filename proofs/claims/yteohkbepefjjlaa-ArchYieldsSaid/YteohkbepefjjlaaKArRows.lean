/- Rows of names, rows of tables: one's own; an element more. -/
import Derived.Test.YteohkbepefjjlaaKArCPut
import Derived.Test.YteohkbepefjjlaaKBase
namespace Go.Proofs.Yteohkbepefjjlaa
open Go.RowKit Pz Ar
set_option linter.unusedVariables false
set_option linter.unusedSimpArgs false

/-- an element more: its box is new -/
theorem app_x {α : Type} {enc : α → List Value} {T s : Nat} {W : World} {B : Nat} {v : Value} {l : List α} {t : TypeId} {z : Value} {bytes : Nat} (ht : Try.prog.underlying t = some (.slice T)) (hi : (Try.prog.info? T).map (fun i => (i.zero, i.size, i.bytes)) = some (some z, s, bytes)) (hzs : z.cells.size = s) (hs : 0 < s)
    (he : ∀ x, (enc x).length = s) (h1 : ∀ x, ∀ u ∈ enc x, u.oneCell' = true) (h : Rw enc T s W B v l) (hB : B ≤ W.heap.size) (x : α) (hn : l.length + 1 ≤ 1000000) (hby : bytes ≤ 1000) (ty : TypeId) :
    ∃ v' w', (Builtin.append_ #[t, t] ty #[v, .slice (some ⟨W.heap.size, 0, none⟩) 1 1]).run Try.prog (W.alloc (.cells (enc x).toArray T)) = .ok v' w' ∧ Rw enc T s w' B v' (l ++ [x]) ∧ W.grownBy w' v.ownBlock ∧ (∀ g, v'.ownBlock = some g → v.ownBlock = some g ∨ W.heap.size ≤ g) ∧ ∀ g, v.ownBlock = some g → B ≤ g := by
  have hb := bel1 W (.cells (enc x).toArray T)
  have ha := at1 W (.cells (enc x).toArray T)
  have h2 := h.below hb
  obtain ⟨v', w', hr, ho, hg, hf⟩ := h2.app (P := Try.prog) (t := t) (ty := ty) ht hi hzs hs he h1 (Nat.le_trans hB hb.size) [x] ⟨W.heap.size, 0, none⟩ 1 (fun j y hj c u hu => by
    have hj0 : j = 0 := by
      have := (List.getElem?_eq_some_iff.1 hj).1
      simp at this
      exact this
    subst hj0
    have hy := Option.some.inj hj
    subst hy
    rw [Addr.add_mid, Nat.zero_mul, Nat.zero_add, Nat.zero_add]
    exact (Bx.cell ha (by simpa using hu)).1) (by simpa using hn) hby (.inl (by simp))
  exact ⟨v', w', hr, ho, ⟨hg.os, hg.tape, hg.output, Nat.le_trans hb.size hg.size, fun k hk hne => (hg.block k (Nat.lt_of_lt_of_le hk hb.size) hne).trans (hb.block k hk)⟩, fun g e => (hf g e).imp id fun e => Nat.le_trans hb.size e, fun g e => (h.blk e).1⟩
/-- what a world made since B became, but for one's own row -/
theorem below_row {B : Nat} {w W V : World} {row : Option Nat} (h : Below B w W) (hg : W.grownBy V row) (hB : B ≤ W.heap.size) (hr : ∀ g, row = some g → B ≤ g) : Below B w V := h.grown hg hB hr
abbrev idE (k : NK) : List Value := [.int .i64 k.1, .int .i64 k.2.1, .int .i64 k.2.2]
abbrev OwnI (W : World) (B : Nat) (v : Value) (l : List NK) : Prop := Rw idE 33 3 W B v l
theorem idE_len (x : NK) : (idE x).length = 3 := rfl
theorem idE_one (x : NK) : ∀ u ∈ idE x, u.oneCell' = true := by
  intro u hu
  simp only [idE, List.mem_cons, List.not_mem_nil, or_false] at hu
  rcases hu with rfl | rfl | rfl <;> rfl
theorem id_info : (Try.prog.info? 33).map (fun i => (i.zero, i.size, i.bytes)) = some (some (.agg #[.int .i64 0, .int .i64 0, .int .i64 0]), 3, 24) := by kernel_rfl
theorem owni_at {W : World} {B c : Nat} {A : Option Addr} {l : List NK} (h : OwnI W B (.slice A l.length c) l) {j : Nat} {k : NK} (hk : l[j]? = some k) : ∃ g o, A = some ⟨g, o, none⟩ ∧ B ≤ g ∧ (W.cell? ⟨g, o + j * 3, none⟩ = some (.int .i64 k.1) ∧ W.cell? ⟨g, o + j * 3 + 1, none⟩ = some (.int .i64 k.2.1) ∧ W.cell? ⟨g, o + j * 3 + 2, none⟩ = some (.int .i64 k.2.2)) ∧ (W.frozen? ⟨g, o + j * 3, none⟩ = false ∧ W.frozen? ⟨g, o + j * 3 + 1, none⟩ = false ∧ W.frozen? ⟨g, o + j * 3 + 2, none⟩ = false) := by
  obtain ⟨g, o, c', e, hB, hg, hc⟩ := h.at_ hk
  cases e
  exact ⟨g, o, rfl, hB, ⟨(hc 0 _ rfl).1, (hc 1 _ rfl).1, (hc 2 _ rfl).1⟩, ⟨(hc 0 _ rfl).2, (hc 1 _ rfl).2, (hc 2 _ rfl).2⟩⟩
/-- a table: its mask, the slice of its names -/
abbrev TE := Nat × Option Addr × Nat × Nat
abbrev tbE (x : TE) : List Value := [.int .i64 (x.1 : Int), .slice x.2.1 x.2.2.1 x.2.2.2]
abbrev OwnT (W : World) (B : Nat) (v : Value) (l : List TE) : Prop := Rw tbE 50 2 W B v l
theorem tbE_len (x : TE) : (tbE x).length = 2 := rfl
theorem tbE_one (x : TE) : ∀ u ∈ tbE x, u.oneCell' = true := by
  intro u hu
  simp only [tbE, List.mem_cons, List.not_mem_nil, or_false] at hu
  rcases hu with rfl | rfl <;> rfl
theorem tb_info : (Try.prog.info? 50).map (fun i => (i.zero, i.size, i.bytes)) = some (some (.agg #[.int .i64 0, .slice none 0 0]), 2, 32) := by kernel_rfl
/-- what a call told of tables: the asker's own -/
def TabsAt (W : World) (B : Nat) (v : Value) (T : List (Nat × List NK)) : Prop :=
  ∃ l : List TE, OwnT W B v l ∧ l.length = T.length ∧ ∀ (j : Nat) (x : TE) (y : Nat × List NK), l[j]? = some x → T[j]? = some y → x.1 = y.1 ∧ x.2.2.1 = y.2.length ∧ OwnI W B (.slice x.2.1 x.2.2.1 x.2.2.2) y.2
section
variable {W V : World} {B : Nat} {v : Value} {T : List (Nat × List NK)}
theorem TabsAt.below (h : TabsAt W B v T) (hb : Below W.heap.size W V) : TabsAt V B v T := by
  obtain ⟨l, h1, h2, h3⟩ := h
  exact ⟨l, h1.below hb, h2, fun j x y hx hy => (h3 j x y hx hy).imp id (·.imp id fun h => h.below hb)⟩
theorem TabsAt.kept (h : TabsAt W B v T) (hk : ∀ b, B ≤ b → b < W.heap.size → V.heap[b]? = W.heap[b]?) : TabsAt V B v T := by
  obtain ⟨l, h1, h2, h3⟩ := h
  have ok : ∀ {α : Type} {enc : α → List Value} {T s : Nat} {u : Value} {r : List α}, Rw enc T s W B u r → Rw enc T s V B u r := fun hu => hu.kept fun b hb => by
    obtain ⟨hB, cur, hc⟩ := hu.blk hb
    exact hk b hB (Bx.lt hc)
  exact ⟨l, ok h1, h2, fun j x y hx hy => (h3 j x y hx hy).imp id (·.imp id fun h => ok h)⟩
theorem tabs_nil (W : World) (B : Nat) : TabsAt W B (.slice none 0 0) [] := ⟨[], .inl ⟨rfl, rfl⟩, rfl, fun j x y hx => by simp at hx⟩
theorem TabsAt.form (h : TabsAt W B v T) : ∃ A c, v = .slice A T.length c := by
  obtain ⟨l, h1, h2, _⟩ := h
  obtain ⟨A, c, rfl⟩ := h1.form
  exact ⟨A, c, by rw [h2]⟩
theorem TabsAt.at_ {A : Option Addr} {c : Nat} (h : TabsAt W B (.slice A T.length c) T) {j : Nat} {m : Nat} {ks : List NK} (hj : T[j]? = some (m, ks)) :
    ∃ g o, A = some ⟨g, o, none⟩ ∧ B ≤ g ∧ W.cell? ⟨g, o + j * 2, none⟩ = some (.int .i64 (m : Int)) ∧ ∃ A' c', W.cell? ⟨g, o + j * 2 + 1, none⟩ = some (.slice A' ks.length c') ∧ OwnI W B (.slice A' ks.length c') ks := by
  obtain ⟨l, h1, h2, h3⟩ := h
  have hjl := (List.getElem?_eq_some_iff.1 hj).1
  obtain ⟨x, hx⟩ : ∃ x, l[j]? = some x := ⟨l[j], List.getElem?_eq_getElem (by omega)⟩
  obtain ⟨e1, e2, h4⟩ := h3 j x _ hx hj
  obtain ⟨xm, xA, xn, xc⟩ := x
  simp only at e1 e2 h4
  subst e1
  obtain ⟨g, o, c', e, hB, hg, hc⟩ := h1.at_ hx
  rw [h2] at e
  cases e
  rw [← e2]
  exact ⟨g, o, rfl, hB, (hc 0 _ rfl).1, xA, xc, (hc 1 _ rfl).1, h4⟩
/-- a table more -/
theorem TabsAt.push (h : TabsAt W B v T) (hB : B ≤ W.heap.size) {m : Nat} {ks : List NK} {A : Option Addr} {c : Nat} (hks : OwnI W B (.slice A ks.length c) ks) (hn : T.length + 1 ≤ 1000000) (ty : TypeId) :
    ∃ A' n' c' w', (Builtin.append_ #[46, 46] ty #[v, .slice (some ⟨W.heap.size, 0, none⟩) 1 1]).run Try.prog (W.alloc (.cells #[.int .i64 (m : Int), .slice A ks.length c] 50)) = .ok (.slice A' n' c') w' ∧ TabsAt w' B (.slice A' n' c') (T ++ [(m, ks)]) ∧ W.grownBy w' v.ownBlock ∧ ∀ g, v.ownBlock = some g → B ≤ g := by
  obtain ⟨l, h1, h2, h3⟩ := h
  obtain ⟨v', w', hr, ho, hg, _, hf⟩ := app_x (enc := tbE) (T := 50) (s := 2) (t := 46) Try.underlying46 tb_info rfl (by decide) tbE_len tbE_one h1 hB (m, A, ks.length, c) (by omega) (by decide) ty
  obtain ⟨A', c', rfl⟩ := ho.form
  have keep : ∀ {u : Value} {r : List NK}, OwnI W B u r → OwnI w' B u r := fun hu => hu.kept fun b hb => by
    obtain ⟨_, cur, hc⟩ := hu.blk hb
    refine hg.block b (Bx.lt hc) (fun e => ?_)
    obtain ⟨_, cur2, hc2⟩ := h1.blk e.symm
    exact Bx.ne_type hc hc2 (by decide) rfl
  refine ⟨A', _, c', w', hr, ⟨l ++ [(m, A, ks.length, c)], ho, by simp [h2], fun j x y hx hy => ?_⟩, hg, hf⟩
  by_cases hj : j < l.length
  · rw [List.getElem?_append_left hj] at hx
    rw [List.getElem?_append_left (by omega)] at hy
    exact (h3 j x y hx hy).imp id (·.imp id keep)
  · rw [List.getElem?_append_right (by omega)] at hx
    rw [List.getElem?_append_right (by omega)] at hy
    have h0 := (List.getElem?_eq_some_iff.1 hx).1
    simp at h0
    have e1 : j - l.length = 0 := by omega
    have e2 : j - T.length = 0 := by omega
    rw [e1] at hx
    rw [e2] at hy
    cases Option.some.inj hx
    cases Option.some.inj hy
    exact ⟨rfl, rfl, keep hks⟩
end
end Go.Proofs.Yteohkbepefjjlaa
