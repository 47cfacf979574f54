/- Deeds that came in: how they are read; the first sixty. Written by wip/tools/genfew.py. -/
import Derived.Test.YteohkbepefjjlaaKPcOpen
import Derived.Test.YteohkbepefjjlaaKArStep
namespace Go.Proofs.Yteohkbepefjjlaa
open Go.ChangeShapes Go.WideShapes Go.ChangeAt Go.RowKit Pz Ar
set_option linter.unusedVariables false
set_option maxRecDepth 100000

/-- these deeds lie at A, below block B -/
def RdD (W : World) (B : Nat) (A : Option Addr) (l : List Dd) : Prop :=
  ∀ (j : Nat) (x : Dd), l[j]? = some x → ∃ g o, A = some ⟨g, o, none⟩ ∧ g < B ∧ (W.cell? ⟨g, o + j * 12, none⟩ = some (.int .i64 x.k) ∧ W.cell? ⟨g, o + j * 12 + 1, none⟩ = some (.int .i64 x.b.s) ∧ W.cell? ⟨g, o + j * 12 + 2, none⟩ = some (.int .i64 x.b.i) ∧ W.cell? ⟨g, o + j * 12 + 3, none⟩ = some (.int .i64 x.b.g) ∧ W.cell? ⟨g, o + j * 12 + 4, none⟩ = some (.int .i64 x.b.m) ∧ W.cell? ⟨g, o + j * 12 + 5, none⟩ = some (.int .i64 x.b.x) ∧ W.cell? ⟨g, o + j * 12 + 6, none⟩ = some (.int .i64 x.b.y) ∧ W.cell? ⟨g, o + j * 12 + 7, none⟩ = some (.int .i64 x.b.vx) ∧ W.cell? ⟨g, o + j * 12 + 8, none⟩ = some (.int .i64 x.b.vy) ∧ W.cell? ⟨g, o + j * 12 + 9, none⟩ = some (.int .i64 x.b.h) ∧ W.cell? ⟨g, o + j * 12 + 10, none⟩ = some (.int .i64 x.b.p) ∧ W.cell? ⟨g, o + j * 12 + 11, none⟩ = some (.int .i64 x.b.l))
section
variable {W W' : World} {B : Nat} {A : Option Addr} {l : List Dd}
theorem RdD.below (h : RdD W B A l) (hb : Below B W W') : RdD W' B A l := fun j x hx => by
  obtain ⟨g, o, e, hg, h0, h1, h2, h3, h4, h5, h6, h7, h8, h9, h10, h11⟩ := h j x hx
  exact ⟨g, o, e, hg, (hb.cell (p := ⟨g, _, none⟩) hg).trans h0, (hb.cell (p := ⟨g, _, none⟩) hg).trans h1, (hb.cell (p := ⟨g, _, none⟩) hg).trans h2, (hb.cell (p := ⟨g, _, none⟩) hg).trans h3, (hb.cell (p := ⟨g, _, none⟩) hg).trans h4, (hb.cell (p := ⟨g, _, none⟩) hg).trans h5, (hb.cell (p := ⟨g, _, none⟩) hg).trans h6, (hb.cell (p := ⟨g, _, none⟩) hg).trans h7, (hb.cell (p := ⟨g, _, none⟩) hg).trans h8, (hb.cell (p := ⟨g, _, none⟩) hg).trans h9, (hb.cell (p := ⟨g, _, none⟩) hg).trans h10, (hb.cell (p := ⟨g, _, none⟩) hg).trans h11⟩
theorem RdD.more (h : RdD W B A l) {B' : Nat} (hB : B ≤ B') : RdD W B' A l := fun j x hx => by
  obtain ⟨g, o, e, hg, h⟩ := h j x hx
  exact ⟨g, o, e, by omega, h⟩
theorem RdD.take (h : RdD W B A l) (n : Nat) : RdD W B A (l.take n) := fun j x hx => h j x (by
  by_cases hj : j < n
  · rwa [List.getElem?_take_of_lt hj] at hx
  · have := (List.getElem?_eq_some_iff.1 hx).1
    rw [List.length_take] at this
    omega)
theorem RdD.of_reads (h : ReadsK W B A 12 (l.map Dd.row)) : RdD W B A l := fun j x hx => by
  have hj := (List.getElem?_eq_some_iff.1 hx).1
  obtain ⟨g, o, e, hg, hc⟩ := h (by rw [List.length_map]; omega)
  have hr : (l.map Dd.row)[j]? = some x.row := by rw [List.getElem?_map, hx]; rfl
  exact ⟨g, o, e, hg, hc j _ hr 0 _ rfl, hc j _ hr 1 _ rfl, hc j _ hr 2 _ rfl, hc j _ hr 3 _ rfl, hc j _ hr 4 _ rfl, hc j _ hr 5 _ rfl, hc j _ hr 6 _ rfl, hc j _ hr 7 _ rfl, hc j _ hr 8 _ rfl, hc j _ hr 9 _ rfl, hc j _ hr 10 _ rfl, hc j _ hr 11 _ rfl⟩
end
theorem dd_of {l : List Int} (hl : l.length = 12) (hf : I64 l) : ∃ x : Dd, l.map (Value.int .i64) = x.row ∧ Fit x.b.m := by
  obtain ⟨k, l0, rfl, h0⟩ := list_succ hl
  obtain ⟨b, hb, hF⟩ := bn_of h0 (fun x hx => hf x (List.mem_cons_of_mem _ hx))
  exact ⟨⟨k, b⟩, by rw [List.map_cons, hb], hF.m⟩
theorem rows_dd : ∀ l : List (List Int), (∀ x ∈ l, x.length = 12 ∧ I64 x) → ∃ bs : List Dd, l.map ints = bs.map Dd.row ∧ bs.length = l.length ∧ ∀ x ∈ bs, Fit x.b.m
  | [], _ => ⟨[], rfl, rfl, fun x hx => by cases hx⟩
  | x :: r, h => by
    obtain ⟨b, hb, hF⟩ := dd_of (h x List.mem_cons_self).1 (h x List.mem_cons_self).2
    obtain ⟨bs, h1, h2, h3⟩ := rows_dd r (fun y hy => h y (List.mem_cons_of_mem _ hy))
    refine ⟨b :: bs, ?_, by simp [h2], fun y hy => ?_⟩
    · rw [List.map_cons, List.map_cons, h1]
      congr 1
    · rcases List.mem_cons.1 hy with rfl | hy
      · exact hF
      · exact h3 y hy
section
variable {H : Type} {enc : TypeId × Value → H} {w : World} {v : Value} {d : DataW H} {ps : List MemPlace} {b0 : Nat}
theorem in_deeds11 (hval : Value.okWide Try.prog w .any b0 22 v) (hd : DataW.Trod enc Try.prog w 0 (fun _ => true) true 22 v d ps) (hz : ∀ n ∈ DataW.weights Try.prog 22 d, n ≤ reachBytes) :
    ∃ (A : Option Addr) (cap : Nat) (l : List Dd), v = .slice A l.length cap ∧ l.length ≤ cap ∧ cap ≤ 140737488351232 ∧ (∀ x ∈ l, Fit x.b.m) ∧ RdD w w.heap.size A l := by
  obtain ⟨A, cap, l, rfl, h1, h2, h3, h4⟩ := in_flats (k := 12) 4 Try.underlying22 Try.underlying37 (by kernel_rfl) (by decide) (of_decide_eq_true (by kernel_rfl)) (by kernel_rfl) hval hd hz
  obtain ⟨bs, e1, e2, e3⟩ := rows_dd l h3
  rw [e1] at h4
  exact ⟨A, cap, bs, by rw [e2], by omega, h2, e3, RdD.of_reads h4⟩
end
set_option maxHeartbeats 8000000 in
theorem few_any {w : World} {A : Option Addr} {c : Nat} {l : List Dd} (R : RdD w w.heap.size A l) (hc : l.length ≤ c) (hcap : c ≤ 140737488351232) :
    Calls Try.prog 12 #[.slice A l.length c] w fun e w' => (∃ c', e = .returned (.slice A (l.take 60).length c')) ∧ w = w' := by
  rw [List.length_take]
  by_cases hl : 60 < l.length
  · obtain ⟨g, o, rfl, rest⟩ := R 0 l[0] (List.getElem?_eq_getElem (by omega))
    clear rest
    have t1 : (60 : Int) < (l.length : Int) := by omega
    have e1 : min 60 l.length = 60 := by omega
    have hc2 : 60 ≤ c := by omega
    rw [e1]
    clear R e1
    generalize l.length = n at *
    go_enter Try.func12, Try.ntmps12
    go_wp2
    go_ret
    exact ⟨⟨_, rfl⟩, rfl⟩
  · have t1 : ¬ (60 : Int) < (l.length : Int) := by omega
    have e1 : min 60 l.length = l.length := by omega
    rw [e1]
    clear R e1
    generalize l.length = n at *
    go_enter Try.func12, Try.ntmps12
    go_wp2
    go_ret
    exact ⟨⟨_, rfl⟩, rfl⟩
end Go.Proofs.Yteohkbepefjjlaa
