/- Two results side by side; how much a tick leaves. -/
import Derived.Test.YtljaahemlcaffaaGreatK38
namespace Go.Proofs.YtljaahemlcaffaaGreat
open Go.RowKit Pz Sp
set_option linter.unusedVariables false
set_option linter.unusedSimpArgs false

namespace Tk
theorem two_len {α : Type} {p q : α → Bool} (h : ∀ x, p x = true → q x = false) : ∀ l : List α, (l.filter p).length + (l.filter q).length ≤ l.length
  | [] => by simp
  | x :: l => by
    have ih := two_len h l
    have hx := h x
    rw [List.filter_cons, List.filter_cons]
    cases hp : p x with
    | true =>
      rw [hx hp]
      simp only [if_true, Bool.false_eq_true, if_false, List.length_cons]
      omega
    | false =>
      cases hq : q x with
      | true => simp only [if_true, Bool.false_eq_true, if_false, List.length_cons]; omega
      | false => simp only [Bool.false_eq_true, if_false, List.length_cons]; omega
theorem bury_len (d : List K3) (k : K3) : (bury d k).length ≤ d.length + 1 := by
  have := two_len (p := fun x => before x k) (q := fun x => before k x) (fun x h => before_asym h) d
  show (d.filter (fun x => before x k) ++ k :: d.filter (fun x => before k x)).length ≤ _
  rw [List.length_append, List.length_cons]
  exact Nat.succ_le_succ this
theorem put_len (l : List Bn) (b : Bn) : (put l b).length ≤ l.length + 1 := by
  have := two_len (p := fun x : Bn => before x.id b.id) (q := fun x => before b.id x.id) (fun x h => before_asym h) l
  unfold put
  rw [List.length_append, List.length_cons]
  omega
theorem each_len (f : Bn → Bn × Bool) (s : St) : (each f s).1.length + (each f s).2.length ≤ s.1.length + s.2.length := by
  obtain ⟨l, d⟩ := s
  unfold each
  dsimp only
  induction l generalizing d with
  | nil => simp
  | cons b l ih =>
    rw [List.filterMap_cons, List.foldl_cons]
    cases e : (f b).2 with
    | false =>
      have h1 := ih (bury d b.id)
      have h2 := bury_len d b.id
      simp only [Bool.false_eq_true, if_false, List.length_cons] at h1 ⊢
      omega
    | true =>
      have h1 := ih d
      simp only [if_true, List.length_cons] at h1 ⊢
      omega
theorem cmd_len (C R S z : Int) (s : St) (c : Cn) : (cmd C R S z s c).1.length + (cmd C R S z s c).2.length ≤ s.1.length + s.2.length + 1 := by
  unfold cmd
  split
  · split
    · have := put_len s.1 c.b
      dsimp only
      omega
    · omega
  · have := each_len (obeys c) s
    omega
theorem cmds_len (C R S z : Int) : ∀ (cs : List Cn) (s : St), (cmds C R S z s cs).1.length + (cmds C R S z s cs).2.length ≤ s.1.length + s.2.length + cs.length
  | [], s => by simp [cmds]
  | c :: cs, s => by
    have h1 := cmds_len C R S z cs (cmd C R S z s c)
    have h2 := cmd_len C R S z s c
    unfold cmds at h1 ⊢
    rw [List.foldl_cons, List.length_cons]
    omega
theorem runS_len (C R S D V z : Int) (own near : List Bn) (cs : List Cn) : (runS C R S D V z own near cs).1.length + (runS C R S D V z own near cs).2.length ≤ own.length + cs.length := by
  have h1 := each_len (ends C R S V) (cmds C R S z (start D own near) cs)
  have h2 := cmds_len C R S z cs (start D own near)
  have h3 := each_len (hurts (Sy.hits D own near)) (sortL Bn.id own, [])
  have h4 : (sortL Bn.id own).length = own.length := (Sy.sort_perm own).length_eq
  have h3' : (start D own near).1.length + (start D own near).2.length ≤ (sortL Bn.id own).length + 0 := h3
  show (each (ends C R S V) (cmds C R S z (start D own near) cs)).1.length + (each (ends C R S V) (cmds C R S z (start D own near) cs)).2.length ≤ _
  omega
theorem run_len (C R S D V z : Int) (own near : List Bn) (cs : List Cn) : (run C R S D V z own near cs).1.length ≤ own.length + cs.length ∧ (run C R S D V z own near cs).2.1.length ≤ own.length + cs.length ∧ (run C R S D V z own near cs).2.2.length ≤ own.length + cs.length := by
  have h := runS_len C R S D V z own near cs
  unfold run
  split
  · have h3 := List.length_filter_le (here C R S z) (runS C R S D V z own near cs).1
    have h4 := List.length_filter_le (fun b => !here C R S z b) (runS C R S D V z own near cs).1
    dsimp only
    omega
  · simp
end Tk
section
variable {α : Type} {enc : α → List Value} {T s : Nat} {W : World} {B : Nat} {v : Value} {l : List α}
theorem Rw.set_other (h : Rw enc T s W B v l) {b T' : Nat} {cur : Array Value} (hb : W.heap[b]? = some (.cells cur T' (0, 0))) (hT : T ≠ T') (o : Nat) (u : Value) : Rw enc T s (W.setCell ⟨b, o, none⟩ u) B v l := h.kept fun g hg => by
  obtain ⟨_, c2, h2⟩ := h.blk hg
  refine Bx.ne (fun e => ?_) u
  subst e
  rw [h2] at hb
  cases hb
  exact hT rfl
theorem Rw.set3_other (h : Rw enc T s W B v l) {b T' : Nat} {v0 v1 v2 : Value} (hb : W.heap[b]? = some (.cells #[v0, v1, v2] T' (0, 0))) (hT : T ≠ T') (u0 u1 u2 : Value) : Rw enc T s (((W.setCell ⟨b, 0, none⟩ u0).setCell ⟨b, 1, none⟩ u1).setCell ⟨b, 2, none⟩ u2) B v l :=
  (((h.set_other hb hT 0 u0).set_other (Bx.set hb u0) hT 1 u1).set_other (Bx.set (Bx.set hb u0) u1) hT 2 u2)
end
/-- the rows of a result -/
def ResAt (W : World) (B : Nat) (r : List Bn × List Bn × List K3) (B1 B2 B3 : Option Addr) (d1 d2 d3 : Nat) : Prop := OwnB W B (.slice B1 r.1.length d1) r.1 ∧ OwnB W B (.slice B2 r.2.1.length d2) r.2.1 ∧ OwnN W B (.slice B3 r.2.2.length d3) r.2.2
theorem ResAt.set3 {W : World} {B : Nat} {r : List Bn × List Bn × List K3} {B1 B2 B3 : Option Addr} {d1 d2 d3 : Nat} (h : ResAt W B r B1 B2 B3 d1 d2 d3) {b : Nat} {v0 v1 v2 : Value} (hb : W.heap[b]? = some (.cells #[v0, v1, v2] 35 (0, 0))) (u0 u1 u2 : Value) : ResAt (((W.setCell ⟨b, 0, none⟩ u0).setCell ⟨b, 1, none⟩ u1).setCell ⟨b, 2, none⟩ u2) B r B1 B2 B3 d1 d2 d3 :=
  ⟨h.1.set3_other hb (by decide) u0 u1 u2, h.2.1.set3_other hb (by decide) u0 u1 u2, h.2.2.set3_other hb (by decide) u0 u1 u2⟩
/-- two results in two boxes, or in one: what is in the first is a result of the same -/
theorem two_results {W : World} {B : Nat} {r : List Bn × List Bn × List K3} {C1 C2 C3 D1 D2 D3 : Option Addr} {c1 c2 c3 d1 d2 d3 : Nat} (hc : ResAt W B r C1 C2 C3 c1 c2 c3) (hd : ResAt W B r D1 D2 D3 d1 d2 d3) {b d : Nat} {v0 v1 v2 : Value} (hb : W.heap[b]? = some (.cells #[v0, v1, v2] 35 (0, 0))) (he : W.heap[d]? = some (.cells #[v0, v1, v2] 35 (0, 0))) {V X : World}
    (hV : V = ((W.setCell ⟨b, 0, none⟩ (.slice C1 r.1.length c1)).setCell ⟨b, 1, none⟩ (.slice C2 r.2.1.length c2)).setCell ⟨b, 2, none⟩ (.slice C3 r.2.2.length c3))
    (hX : X = ((V.setCell ⟨d, 0, none⟩ (.slice D1 r.1.length d1)).setCell ⟨d, 1, none⟩ (.slice D2 r.2.1.length d2)).setCell ⟨d, 2, none⟩ (.slice D3 r.2.2.length d3)) :
    (V.frozen? ⟨d, 0, none⟩ = false ∧ V.frozen? ⟨d, 1, none⟩ = false ∧ V.frozen? ⟨d, 2, none⟩ = false) ∧ ∃ (E1 E2 E3 : Option Addr) (e1 e2 e3 : Nat), X.heap[b]? = some (.cells #[.slice E1 r.1.length e1, .slice E2 r.2.1.length e2, .slice E3 r.2.2.length e3] 35 (0, 0)) ∧ X.heap[d]? = some (.cells #[.slice D1 r.1.length d1, .slice D2 r.2.1.length d2, .slice D3 r.2.2.length d3] 35 (0, 0)) ∧ ResAt X B r E1 E2 E3 e1 e2 e3 ∧ ResAt X B r D1 D2 D3 d1 d2 d3 := by
  have hv1 := Bx.set3 hb (.slice C1 r.1.length c1) (.slice C2 r.2.1.length c2) (.slice C3 r.2.2.length c3)
  rw [← hV] at hv1
  have rc := hc.set3 hb (.slice C1 r.1.length c1) (.slice C2 r.2.1.length c2) (.slice C3 r.2.2.length c3)
  have rd := hd.set3 hb (.slice C1 r.1.length c1) (.slice C2 r.2.1.length c2) (.slice C3 r.2.2.length c3)
  rw [← hV] at rc rd
  by_cases hbd : d = b
  · subst hbd
    have x1 := Bx.set3 hv1 (.slice D1 r.1.length d1) (.slice D2 r.2.1.length d2) (.slice D3 r.2.2.length d3)
    have r2 := rd.set3 hv1 (.slice D1 r.1.length d1) (.slice D2 r.2.1.length d2) (.slice D3 r.2.2.length d3)
    rw [← hX] at x1 r2
    exact ⟨(Bx.b3 hv1).2, D1, D2, D3, d1, d2, d3, x1, x1, r2, r2⟩
  · have hv : V.heap[d]? = some (.cells #[v0, v1, v2] 35 (0, 0)) := by
      rw [hV, Bx.ne hbd, Bx.ne hbd, Bx.ne hbd]
      exact he
    have x1 := Bx.set3 hv (.slice D1 r.1.length d1) (.slice D2 r.2.1.length d2) (.slice D3 r.2.2.length d3)
    have r1 := rc.set3 hv (.slice D1 r.1.length d1) (.slice D2 r.2.1.length d2) (.slice D3 r.2.2.length d3)
    have r2 := rd.set3 hv (.slice D1 r.1.length d1) (.slice D2 r.2.1.length d2) (.slice D3 r.2.2.length d3)
    have x2 : X.heap[b]? = V.heap[b]? := by rw [hX, Bx.ne (Ne.symm hbd), Bx.ne (Ne.symm hbd), Bx.ne (Ne.symm hbd)]
    rw [← hX] at x1 r1 r2
    exact ⟨(Bx.b3 hv).2, C1, C2, C3, c1, c2, c3, x2.trans hv1, x1, r1, r2⟩
end Go.Proofs.YtljaahemlcaffaaGreat
