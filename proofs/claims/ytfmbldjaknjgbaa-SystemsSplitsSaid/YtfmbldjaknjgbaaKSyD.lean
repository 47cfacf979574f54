/- SyPure3, SyMap, SyStay, in one text. -/
import Derived.Test.YtfmbldjaknjgbaaKSyA
import Derived.Test.YtfmbldjaknjgbaaKSyCt
import Derived.Test.YtfmbldjaknjgbaaKZn
namespace Go.Proofs.Ytfmbldjaknjgbaa
open Go Pz
set_option linter.unusedVariables false
set_option linter.unusedSimpArgs false

namespace Sy
theorem may_none : may bn0 = false := by decide
theorem inB_some {n lo hi : Int} (h : inB n lo hi true = true) : lo ≤ n ∧ n ≤ hi := by simpa [inB] using h
theorem hurt_may {b : Bn} (h : may b = true) (n : Int) : may (hurt b n).1 = (hurt b n).2 ∧ ((hurt b n).2 = true → (hurt b n).1.h ≤ b.h) := by
  unfold hurt
  by_cases c : bitB b.m 2 = true ∧ 0 < n
  · rw [if_pos c]
    by_cases d : b.h ≤ n
    · rw [if_pos d]
      exact ⟨may_none, fun e => by cases e⟩
    · rw [if_neg d]
      refine ⟨?_, fun _ => by show b.h - n ≤ b.h; omega⟩
      simp only [may, Bool.and_eq_true] at h ⊢
      obtain ⟨⟨h1, h2⟩, h3⟩ := h
      refine ⟨⟨h1, ?_⟩, h3⟩
      obtain ⟨p0, p1, p2, p3, p4, p5, p6, p7⟩ := right_parts h2
      refine right_of (a := { b with h := b.h - n }) p0 p1 p2 p3 p4 ?_ p6 p7
      rw [c.1] at p5
      have q := inB_some p5
      show inB (b.h - n) 1 1048576 (bitB b.m 2) = true
      rw [c.1]
      simp only [inB, if_true, Bool.and_eq_true, decide_eq_true_eq]
      omega
  · rw [if_neg c]
    exact ⟨h, fun _ => Int.le_refl _⟩
theorem age_may {b : Bn} (h : may b = true) : may (age b).1 = (age b).2 ∧ ((age b).2 = true → (age b).1.l ≤ b.l) := by
  unfold age
  by_cases c : bitB b.m 4 = true
  · rw [if_pos c]
    by_cases d : b.l < 2
    · rw [if_pos d]
      exact ⟨may_none, fun e => by cases e⟩
    · rw [if_neg d]
      refine ⟨?_, fun _ => by show b.l - 1 ≤ b.l; omega⟩
      simp only [may, Bool.and_eq_true] at h ⊢
      obtain ⟨⟨h1, h2⟩, h3⟩ := h
      refine ⟨⟨h1, ?_⟩, h3⟩
      obtain ⟨p0, p1, p2, p3, p4, p5, p6, p7⟩ := right_parts h2
      refine right_of (a := { b with l := b.l - 1 }) p0 p1 p2 p3 p4 p5 p6 ?_
      rw [c] at p7
      have q := inB_some p7
      show inB (b.l - 1) 1 1048576 (bitB b.m 4) = true
      rw [c]
      simp only [inB, if_true, Bool.and_eq_true, decide_eq_true_eq]
      omega
  · rw [if_neg c]
    exact ⟨h, fun _ => Int.le_refl _⟩
theorem obey_may {b : Bn} {c : Cn} (h : may b = true) (hc : mayCmd c = true) : may (obey b c.k b.id c.b c.m).1 = (obey b c.k b.id c.b c.m).2 := by
  unfold obey
  rw [if_pos rfl]
  by_cases k2 : c.k = 2
  · rw [if_pos k2]; exact may_none
  · rw [if_neg k2]
    by_cases k3 : c.k = 3
    · rw [if_pos k3]
      unfold mayCmd at hc
      rw [if_neg (by omega), if_neg k2, if_pos k3] at hc
      simp only [Bool.and_eq_true] at hc
      exact may_with h hc.2
    · rw [if_neg k3]
      by_cases k4 : c.k = 4
      · rw [if_pos k4]
        unfold mayCmd at hc
        rw [if_neg (by omega), if_neg k2, if_neg k3, if_pos k4] at hc
        simp only [Bool.and_eq_true, takesB] at hc
        show may (withoutB b c.m) = true
        rw [may_without h]
        exact hc.2.2
      · rw [if_neg k4]; exact h
theorem hurt_fit {b : Bn} (h : Fit b.m) (n : Int) : Fit (hurt b n).1.m := by
  unfold hurt
  split
  · split
    · exact (by unfold Fit; decide : Fit 0)
    · exact h
  · exact h
theorem age_fit {b : Bn} (h : Fit b.m) : Fit (age b).1.m := by
  unfold age
  split
  · split
    · exact (by unfold Fit; decide : Fit 0)
    · exact h
  · exact h
theorem obey_fit {b : Bn} (h : Fit b.m) (k : Int) (id : Int × Int × Int) (c : Bn) (m : Int) : Fit (obey b k id c m).1.m := by
  unfold obey
  split
  · split
    · exact (by unfold Fit; decide : Fit 0)
    · split
      · exact fit_or _ _
      · split
        · exact fit_andNot _ _
        · exact h
  · exact h
end Sy
end Go.Proofs.Ytfmbldjaknjgbaa
namespace Go.Proofs.Ytfmbldjaknjgbaa
open Go.RowKit Pz Sp
set_option linter.unusedVariables false
set_option linter.unusedSimpArgs false

theorem Sep.set7 {w W : World} {L : List Piece} {b : Nat} {v0 v1 v2 v3 v4 v5 v6 : Value} {T : Nat} (h : Sep w (box b (.cells #[v0, v1, v2, v3, v4, v5, v6] T) :: L) W) (u0 u1 u2 u3 u4 u5 u6 : Value) : Sep w (box b (.cells #[u0, u1, u2, u3, u4, u5, u6] T) :: L) (((((((W.setCell ⟨b, 0, none⟩ u0).setCell ⟨b, 1, none⟩ u1).setCell ⟨b, 2, none⟩ u2).setCell ⟨b, 3, none⟩ u3).setCell ⟨b, 4, none⟩ u4).setCell ⟨b, 5, none⟩ u5).setCell ⟨b, 6, none⟩ u6) := by
  have := (((((((h.cell (o := 0) u0).cell (o := 1) u1).cell (o := 2) u2).cell (o := 3) u3).cell (o := 4) u4).cell (o := 5) u5).cell (o := 6) u6)
  simpa using this
theorem sep_map {w W V : World} {L : List Piece} (h : Sep w L W) (hb : Below W.heap.size W V) {b : Nat} {o : Obj} (ho : V.heap[b]? = some o) (hl : W.heap.size ≤ b) : Sep w (box b o :: L) V :=
  h.add (P := box b o) (G := fun k => k = b) hb ⟨ho, fun k => Iff.rfl⟩ fun k hk => by rw [hk]; exact hl
end Go.Proofs.Ytfmbldjaknjgbaa
namespace Go.Proofs.Ytfmbldjaknjgbaa
open Go Pz Zn
set_option linter.unusedVariables false

namespace Sy
theorem near_bd {v n : Int} (h : 0 ≤ n) : -n ≤ near v n ∧ near v n ≤ n := by
  unfold near
  split
  · omega
  · split <;> omega
theorem into_self {x e : Int} (h0 : 0 ≤ x) (h1 : x < e) : Zn.into x e = x := by unfold Zn.into; omega
theorem clamp_id {x : Int} (h0 : -1073741824 ≤ x) (h1 : x ≤ 1073741824) : Rc.clamp x = x := by unfold Rc.clamp; omega
theorem stays {C R S D V : Int} (h : Zn.Ok C R S D V) (b : Bn) : (Zn.There C R (Zn.of C R S (move C R S V b).x (move C R S V b).y)) ∧ (Zn.of C R S b.x b.y < 0 ∨ Zn.of C R S b.x b.y = Zn.of C R S (move C R S V b).x (move C R S V b).y ∨ Zn.of C R S (move C R S V b).x (move C R S V b).y ∈ Zn.beside C R (Zn.of C R S b.x b.y)) := by
  have s0 := h.s0
  have s1 := h.s1
  have v0 := h.v0
  have v1 := h.v1
  have hc := side_bd (q := C) h.s0 h.s1 (by have := h.c0; omega) h.c1
  have hr := side_bd (q := R) h.s0 h.s1 (by have := h.r0; omega) h.r1
  have pc : 0 < C * S := Int.mul_pos (by have := h.c0; omega) (by omega)
  have pr : 0 < R * S := Int.mul_pos (by have := h.r0; omega) (by omega)
  have ix := fun x => Zn.into_in (x := x) pc
  have iy := fun x => Zn.into_in (x := x) pr
  refine ⟨Zn.of_in h (ix _).1 (ix _).2 (iy _).1 (iy _).2, ?_⟩
  rcases Zn.of_bd h b.x b.y with e | e
  · left; omega
  · right
    obtain ⟨_, _, x0, x1, y0, y1⟩ := Zn.of_yes h e
    unfold move push
    split
    · have n1 := near_bd (v := b.vx) v0
      have n2 := near_bd (v := b.vy) v0
      dsimp only
      rw [clamp_id (x := b.x) (by omega) (by omega), clamp_id (x := b.y) (by omega) (by omega), clamp_id (by omega) (by omega), clamp_id (by omega) (by omega)]
      rcases Zn.reach h x0 x1 y0 y1 n1.1 n1.2 n2.1 n2.2 with r | r
      · exact .inl r.symm
      · exact .inr r
    · dsimp only
      rw [into_self x0 x1, into_self y0 y1]
      exact .inl rfl
end Sy
end Go.Proofs.Ytfmbldjaknjgbaa
