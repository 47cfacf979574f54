/- The document's store: Get. -/
import Derived.Test.YteohkbepefjjlaaKArRem
namespace Go.Proofs.Yteohkbepefjjlaa
open Go.RowKit Pz Ar
set_option linter.unusedVariables false
set_option linter.unusedSimpArgs false

/-- what Get answers: the entity, its row, whether there is one -/
def Ar.getV (t : Tb) (k : NK) : Value :=
  match find t k with
  | some (m, i) => match (t m)[i]? with
    | some x => .tuple #[x.val, .int .i64 (i : Int), .bool true]
    | none => .tuple #[.int .i64 0]
  | none => .tuple #[.agg #[.int .i64 0, .int .i64 0, .int .i64 0, .int .i64 0, .int .i64 0, .int .i64 0, .int .i64 0, .int .i64 0, .int .i64 0, .int .i64 0, .int .i64 0], .int .i64 0, .bool false]
set_option maxHeartbeats 8000000 in
set_option maxRecDepth 100000 in
theorem rGet_any {F : Foot} {p : Nat} {t : Tb} {w : World} (h : RS F p t w) (k1 k2 k3 : Int) : Calls Try.prog 16 #[.pointer (some ⟨p, 0, none⟩), .agg #[.int .i64 k1, .int .i64 k2, .int .i64 k3]] w fun e w' => e = .returned (getV t (k1, k2, k3)) ∧ Below w.heap.size w w' := by
  have HA : Hid (∀ W, Below w.heap.size w W → Calls Try.prog 37 #[.pointer (some ⟨p, 0, none⟩), .agg #[.int .i64 k1, .int .i64 k2, .int .i64 k3]] W fun e w' => e = .returned (atV t (k1, k2, k3)) ∧ Below W.heap.size W w') := Lib.hid fun W hW => rat_any (h.below hW) _ _ _
  have RB : Hid (∀ m i, find t (k1, k2, k3) = some (m, i) → ∃ x, (t m)[i]? = some x ∧ getV t (k1, k2, k3) = .tuple #[x.val, .int .i64 (i : Int), .bool true] ∧ m < 32 ∧ i < (t m).length ∧ (t m).length ≤ 100000 ∧ ∀ W, Below w.heap.size w W → ∃ A c, W.cell? ⟨p, m, none⟩ = some (.slice A (t m).length c) ∧ OwnB W 0 (.slice A (t m).length c) (t m)) := Lib.hid fun m i hf => by
    obtain ⟨hm, x, hx, _⟩ := find_at hf
    exact ⟨x, hx, by unfold getV; rw [hf]; simp only [hx], hm, (List.getElem?_eq_some_iff.1 hx).1, h.few m, fun W hW => (h.below hW).at_ hm⟩
  have P1 : Hid (find t (k1, k2, k3) = none → getV t (k1, k2, k3) = .tuple #[.agg #[.int .i64 0, .int .i64 0, .int .i64 0, .int .i64 0, .int .i64 0, .int .i64 0, .int .i64 0, .int .i64 0, .int .i64 0, .int .i64 0, .int .i64 0], .int .i64 0, .bool false]) := Lib.hid fun hf => by unfold getV; rw [hf]
  clear h
  generalize getV t (k1, k2, k3) = ANS at *
  unfold atV at HA
  generalize find t (k1, k2, k3) = fd at *
  have T1 := Lib.hid (at2a w (.cells #[.int .i64 k1, .int .i64 k2, .int .i64 k3] 33) (.cells #[.int .i64 0, .int .i64 0, .int .i64 0, .int .i64 0, .int .i64 0, .int .i64 0, .int .i64 0, .int .i64 0, .int .i64 0, .int .i64 0, .int .i64 0] 35))
  have T2 := at2b w (.cells #[.int .i64 k1, .int .i64 k2, .int .i64 k3] 33) (.cells #[.int .i64 0, .int .i64 0, .int .i64 0, .int .i64 0, .int .i64 0, .int .i64 0, .int .i64 0, .int .i64 0, .int .i64 0, .int .i64 0, .int .i64 0] 35)
  have BE := Lib.hid (bel2 w (.cells #[.int .i64 k1, .int .i64 k2, .int .i64 k3] 33) (.cells #[.int .i64 0, .int .i64 0, .int .i64 0, .int .i64 0, .int .i64 0, .int .i64 0, .int .i64 0, .int .i64 0, .int .i64 0, .int .i64 0, .int .i64 0] 35))
  go_enter Try.func16, Try.ntmps16
  go_upto_region 1 with fail
  generalize (w.alloc (.cells #[.int .i64 k1, .int .i64 k2, .int .i64 k3] 33)).alloc (.cells #[.int .i64 0, .int .i64 0, .int .i64 0, .int .i64 0, .int .i64 0, .int .i64 0, .int .i64 0, .int .i64 0, .int .i64 0, .int .i64 0, .int .i64 0] 35) = w1 at *
  obtain ⟨o, ho⟩ : ∃ o, o = w.heap.size + 1 := ⟨_, rfl⟩
  rw [← ho] at T2 ⊢
  have hwo : Hid (w.heap.size ≤ o) := Lib.hid (by omega)
  clear ho
  replace T2 := Lib.hid T2
  obtain ⟨⟨q0, q1, q2⟩, _⟩ := Bx.b3 T1.out
  go_wp2_with fail
  refine (HA.out w1 BE.out).mono ?_
  rintro e w2 ⟨he, hb⟩
  replace BE := Lib.hid (BE.out.trans (hb.mono BE.out.size))
  replace T2 := Lib.hid ((hb.block _ (Bx.lt T2.out)).trans T2.out)
  clear hb HA q0 q1 q2 T1
  cases fd with
  | none =>
    subst he
    have hA := P1.out rfl
    subst hA
    obtain ⟨⟨l0, l1, l2, l3, l4, l5, l6, l7, l8, l9, l10⟩, ⟨f0, f1, f2, f3, f4, f5, f6, f7, f8, f9, f10⟩⟩ := Bx.b11 T2.out
    have HP := Lib.hid (Bx.b11 (Bx.set11 T2.out (.int .i64 0) (.int .i64 0) (.int .i64 0) (.int .i64 0) (.int .i64 0) (.int .i64 0) (.int .i64 0) (.int .i64 0) (.int .i64 0) (.int .i64 0) (.int .i64 0))).1
    have HQ := Lib.hid (((((((((((BE.out.setCell (p := ⟨o, 0, none⟩) hwo.out (.int .i64 0)).setCell (p := ⟨o, 1, none⟩) hwo.out (.int .i64 0)).setCell (p := ⟨o, 2, none⟩) hwo.out (.int .i64 0)).setCell (p := ⟨o, 3, none⟩) hwo.out (.int .i64 0)).setCell (p := ⟨o, 4, none⟩) hwo.out (.int .i64 0)).setCell (p := ⟨o, 5, none⟩) hwo.out (.int .i64 0)).setCell (p := ⟨o, 6, none⟩) hwo.out (.int .i64 0)).setCell (p := ⟨o, 7, none⟩) hwo.out (.int .i64 0)).setCell (p := ⟨o, 8, none⟩) hwo.out (.int .i64 0)).setCell (p := ⟨o, 9, none⟩) hwo.out (.int .i64 0)).setCell (p := ⟨o, 10, none⟩) hwo.out (.int .i64 0))
    clear BE T2 RB P1
    go_wp2
    obtain ⟨p0, p1, p2, p3, p4, p5, p6, p7, p8, p9, p10⟩ := HP.out
    exact bodyPost_ret (v := .tuple #[.agg #[.int .i64 0, .int .i64 0, .int .i64 0, .int .i64 0, .int .i64 0, .int .i64 0, .int .i64 0, .int .i64 0, .int .i64 0, .int .i64 0, .int .i64 0], .int .i64 0, .bool false]) (by simp [results, Try.results16, go_sem, p0, p1, p2, p3, p4, p5, p6, p7, p8, p9, p10]) rfl ⟨rfl, HQ.out⟩
  | some pr =>
    obtain ⟨m, i⟩ := pr
    subst he
    obtain ⟨x, hx, hA, hm, hi, hfew, HW⟩ := RB.out m i rfl
    subst hA
    obtain ⟨A, c, hc, how⟩ := HW w2 BE.out
    obtain ⟨g, og, rfl, _, ⟨k0, k1', k2', k3', k4, k5, k6, k7, k8, k9, k10⟩, _⟩ := own_at how hx
    obtain ⟨xs, xi, xg, xm, xx, xy, xvx, xvy, xh, xp, xl⟩ := x
    simp only [Bn.val] at *
    have t2 : decide ((m : Int) < 0) = false := decide_eq_false (by omega)
    have t3 : (m : Int) < 32 := by omega
    have t4 : (i : Int) < ((t m).length : Int) := by omega
    have t5 : ((t m).length : Int) ≤ 100000 := by omega
    obtain ⟨⟨l0, l1, l2, l3, l4, l5, l6, l7, l8, l9, l10⟩, ⟨f0, f1, f2, f3, f4, f5, f6, f7, f8, f9, f10⟩⟩ := Bx.b11 T2.out
    have HP := Lib.hid (Bx.b11 (Bx.set11 T2.out (.int .i64 xs) (.int .i64 xi) (.int .i64 xg) (.int .i64 xm) (.int .i64 xx) (.int .i64 xy) (.int .i64 xvx) (.int .i64 xvy) (.int .i64 xh) (.int .i64 xp) (.int .i64 xl))).1
    have HQ := Lib.hid (((((((((((BE.out.setCell (p := ⟨o, 0, none⟩) hwo.out (.int .i64 xs)).setCell (p := ⟨o, 1, none⟩) hwo.out (.int .i64 xi)).setCell (p := ⟨o, 2, none⟩) hwo.out (.int .i64 xg)).setCell (p := ⟨o, 3, none⟩) hwo.out (.int .i64 xm)).setCell (p := ⟨o, 4, none⟩) hwo.out (.int .i64 xx)).setCell (p := ⟨o, 5, none⟩) hwo.out (.int .i64 xy)).setCell (p := ⟨o, 6, none⟩) hwo.out (.int .i64 xvx)).setCell (p := ⟨o, 7, none⟩) hwo.out (.int .i64 xvy)).setCell (p := ⟨o, 8, none⟩) hwo.out (.int .i64 xh)).setCell (p := ⟨o, 9, none⟩) hwo.out (.int .i64 xp)).setCell (p := ⟨o, 10, none⟩) hwo.out (.int .i64 xl))
    clear BE T2 RB P1 HW how hx hm hi hfew
    go_wp2
    obtain ⟨p0, p1, p2, p3, p4, p5, p6, p7, p8, p9, p10⟩ := HP.out
    exact bodyPost_ret (v := .tuple #[.agg #[.int .i64 xs, .int .i64 xi, .int .i64 xg, .int .i64 xm, .int .i64 xx, .int .i64 xy, .int .i64 xvx, .int .i64 xvy, .int .i64 xh, .int .i64 xp, .int .i64 xl], .int .i64 (i : Int), .bool true]) (by simp [results, Try.results16, go_sem, p0, p1, p2, p3, p4, p5, p6, p7, p8, p9, p10]) rfl ⟨rfl, HQ.out⟩
end Go.Proofs.Yteohkbepefjjlaa
