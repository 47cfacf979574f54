/- The code's store: find of none, Row, Len, Get. -/
import Derived.Test.YteohkbepefjjlaaKArCod1
import Derived.BigRegion
namespace Go.Proofs.Yteohkbepefjjlaa
open Go.RowKit Pz Ar
set_option linter.unusedVariables false
set_option linter.unusedSimpArgs false

abbrev zeroB : Value := .agg #[.int .i64 0, .int .i64 0, .int .i64 0, .int .i64 0, .int .i64 0, .int .i64 0, .int .i64 0, .int .i64 0, .int .i64 0, .int .i64 0, .int .i64 0]
/-- what Row answers -/
def Ar.rowV : Option (Nat × Nat) → Value
  | some x => .tuple #[.int .i64 (x.2 : Int), .bool true]
  | none => .tuple #[.int .i64 0, .bool false]
/-- what the code's Get answers -/
def Ar.cgetV (t : Tb) (k : NK) : Value :=
  match Ar.find t k with
  | some (m, i) => match (t m)[i]? with
    | some x => .tuple #[x.val, .bool true]
    | none => .tuple #[.int .i64 0]
  | none => .tuple #[zeroB, .bool false]
set_option maxHeartbeats 8000000 in
set_option maxRecDepth 100000 in
theorem find_nil (w : World) (k1 k2 k3 : Int) : Calls Try.prog 36 #[.pointer none, .agg #[.int .i64 k1, .int .i64 k2, .int .i64 k3]] w fun e w' => e = .returned (lookV none) ∧ Below w.heap.size w w' := by
  have T2 := at2b w (.cells #[.int .i64 k1, .int .i64 k2, .int .i64 k3] 33) (.cells #[.int .i64 0, .int .i64 0] 72)
  have BE := Lib.hid (bel2 w (.cells #[.int .i64 k1, .int .i64 k2, .int .i64 k3] 33) (.cells #[.int .i64 0, .int .i64 0] 72))
  simp only [lookV]
  go_enter Try.func36, Try.ntmps36
  go_upto_region 1 with fail
  generalize (w.alloc (.cells #[.int .i64 k1, .int .i64 k2, .int .i64 k3] 33)).alloc (.cells #[.int .i64 0, .int .i64 0] 72) = w1 at *
  obtain ⟨o, ho⟩ : ∃ o, o = w.heap.size + 1 := ⟨_, rfl⟩
  rw [← ho] at T2 ⊢
  have hwo : w.heap.size ≤ o := by omega
  clear ho
  obtain ⟨⟨d0, d1⟩, ⟨e0, e1⟩⟩ := Bx.b2 T2
  have HP := Lib.hid (Bx.b2 (Bx.set2 T2 (.int .i64 0) (.int .i64 0))).1
  have HQ := Lib.hid (((BE.out).setCell (p := ⟨o, 0, none⟩) hwo (.int .i64 0)).setCell (p := ⟨o, 1, none⟩) hwo (.int .i64 0))
  clear T2 BE hwo
  go_wp2
  obtain ⟨p0, p1⟩ := HP.out
  exact bodyPost_ret (v := .tuple #[.agg #[.int .i64 0, .int .i64 0], .bool false]) (by simp [results, Try.results36, go_sem, p0, p1]) rfl ⟨rfl, HQ.out⟩
/-- a store, or none: what find says of it -/
def FindIs (P : Value) (fd : Option (Nat × Nat)) (k1 k2 k3 : Int) (w : World) : Prop := ∀ W, Below w.heap.size w W → Calls Try.prog 36 #[P, .agg #[.int .i64 k1, .int .i64 k2, .int .i64 k3]] W fun e w' => e = .returned (lookV fd) ∧ Below W.heap.size W w'
theorem CS.finds {F : Foot} {p : Nat} {t : Tb} {w : World} (h : CS F p t w) (k1 k2 k3 : Int) : FindIs (.pointer (some ⟨p, 0, none⟩)) (Ar.find t (k1, k2, k3)) k1 k2 k3 w := fun W hW => find_any (h.below hW) k1 k2 k3
theorem nil_finds (w : World) (k1 k2 k3 : Int) : FindIs (.pointer none) none k1 k2 k3 w := fun W _ => find_nil W k1 k2 k3
set_option maxHeartbeats 8000000 in
set_option maxRecDepth 100000 in
theorem row_of {P : Value} {fd : Option (Nat × Nat)} {w : World} {k1 k2 k3 : Int} (h : FindIs P fd k1 k2 k3 w) : Calls Try.prog 20 #[P, .agg #[.int .i64 k1, .int .i64 k2, .int .i64 k3]] w fun e w' => e = .returned (Ar.rowV fd) ∧ Below w.heap.size w w' := by
  have HF := Lib.hid h
  have T1 := Lib.hid (at1 w (.cells #[.int .i64 k1, .int .i64 k2, .int .i64 k3] 33))
  have BE := Lib.hid (bel1 w (.cells #[.int .i64 k1, .int .i64 k2, .int .i64 k3] 33))
  clear h
  go_enter Try.func20, Try.ntmps20
  go_upto_region 1 with fail
  generalize w.alloc (.cells #[.int .i64 k1, .int .i64 k2, .int .i64 k3] 33) = w1 at *
  obtain ⟨⟨q0, q1, q2⟩, _⟩ := Bx.b3 T1.out
  go_wp2_with fail
  refine (HF.out w1 BE.out).mono ?_
  rintro e w2 ⟨rfl, hb⟩
  replace BE := Lib.hid (BE.out.trans (hb.mono BE.out.size))
  clear hb HF q0 q1 q2 T1
  cases fd with
  | none =>
    simp only [lookV, Ar.rowV]
    have HQ := Lib.hid (BE.out.alloc BE.out.size (.cells #[.int .i64 0, .int .i64 0] 72))
    have c1 := (Bx.b2 (at1 w2 (.cells #[.int .i64 0, .int .i64 0] 72))).1.2
    clear BE
    go_wp2
    exact bodyPost_ret (v := .tuple #[.int .i64 0, .bool false]) (by simp [results, Try.results20, go_sem]) rfl ⟨rfl, HQ.out⟩
  | some x =>
    obtain ⟨m, i⟩ := x
    simp only [lookV, plV, Ar.rowV]
    have HQ := Lib.hid (BE.out.alloc BE.out.size (.cells #[.int .i64 (m : Int), .int .i64 (i : Int)] 72))
    have c1 := (Bx.b2 (at1 w2 (.cells #[.int .i64 (m : Int), .int .i64 (i : Int)] 72))).1.2
    clear BE
    go_wp2
    exact bodyPost_ret (v := .tuple #[.int .i64 (i : Int), .bool true]) (by simp [results, Try.results20, go_sem]) rfl ⟨rfl, HQ.out⟩
theorem row_any {F : Foot} {p : Nat} {t : Tb} {w : World} (h : CS F p t w) (k1 k2 k3 : Int) : Calls Try.prog 20 #[.pointer (some ⟨p, 0, none⟩), .agg #[.int .i64 k1, .int .i64 k2, .int .i64 k3]] w fun e w' => e = .returned (Ar.rowV (Ar.find t (k1, k2, k3))) ∧ Below w.heap.size w w' := row_of (h.finds k1 k2 k3)
theorem row_nil (w : World) (k1 k2 k3 : Int) : Calls Try.prog 20 #[.pointer none, .agg #[.int .i64 k1, .int .i64 k2, .int .i64 k3]] w fun e w' => e = .returned (Ar.rowV none) ∧ Below w.heap.size w w' := row_of (nil_finds w k1 k2 k3)
set_option maxHeartbeats 8000000 in
set_option maxRecDepth 100000 in
theorem len_any {F : Foot} {p : Nat} {t : Tb} {w : World} (h : CS F p t w) : Calls Try.prog 22 #[.pointer (some ⟨p, 0, none⟩)] w fun e w' => e = .returned (.int .i64 (total t : Int)) ∧ w = w' := by
  obtain ⟨mv, hmv, _, hlen⟩ := h.look
  have HL := hlen 3 w (Below.refl _ _)
  generalize (total t : Int) = n at *
  clear hlen h
  go_enter Try.func22, Try.ntmps22
  go_wp2
  go_ret
  exact ⟨rfl, rfl⟩
set_option maxHeartbeats 8000000 in
set_option maxRecDepth 100000 in
theorem len_nil (w : World) : Calls Try.prog 22 #[.pointer none] w fun e w' => e = .returned (.int .i64 0) ∧ w = w' := by
  go_enter Try.func22, Try.ntmps22
  go_wp2
  go_ret
  exact ⟨rfl, rfl⟩
set_option maxHeartbeats 8000000 in
set_option maxRecDepth 100000 in
theorem get_none {P : Value} {w : World} {k1 k2 k3 : Int} (h : FindIs P none k1 k2 k3 w) : Calls Try.prog 15 #[P, .agg #[.int .i64 k1, .int .i64 k2, .int .i64 k3]] w fun e w' => e = .returned (.tuple #[zeroB, .bool false]) ∧ Below w.heap.size w w' := by
  have HA := Lib.hid h
  clear h
  have T1 := Lib.hid (at2a w (.cells #[.int .i64 k1, .int .i64 k2, .int .i64 k3] 33) (bobj Bn.zero))
  have T2 := at2b w (.cells #[.int .i64 k1, .int .i64 k2, .int .i64 k3] 33) (bobj Bn.zero)
  have BE := Lib.hid (bel2 w (.cells #[.int .i64 k1, .int .i64 k2, .int .i64 k3] 33) (bobj Bn.zero))
  simp only [bobj, Bn.zero] at T1 T2 BE
  go_enter Try.func15, Try.ntmps15
  go_upto_region 1 with fail
  generalize (w.alloc (.cells #[.int .i64 k1, .int .i64 k2, .int .i64 k3] 33)).alloc (.cells #[.int .i64 0, .int .i64 0, .int .i64 0, .int .i64 0, .int .i64 0, .int .i64 0, .int .i64 0, .int .i64 0, .int .i64 0, .int .i64 0, .int .i64 0] 35) = w1 at *
  obtain ⟨o, ho⟩ : ∃ o, o = w.heap.size + 1 := ⟨_, rfl⟩
  rw [← ho] at T2 ⊢
  have hwo : Hid (w.heap.size ≤ o) := Lib.hid (by omega)
  clear ho
  replace T2 := Lib.hid T2
  obtain ⟨⟨q0, q1, q2⟩, _⟩ := Bx.b3 T1.out
  go_wp2_with fail
  refine (HA.out w1 BE.out).mono ?_
  rintro e w2 ⟨rfl, hb⟩
  have B3 := bel1 w2 (.cells #[.int .i64 0, .int .i64 0] 72)
  replace BE := Lib.hid ((BE.out.trans (hb.mono BE.out.size)).trans (B3.mono (BE.out.trans (hb.mono BE.out.size)).size))
  replace T2 := Lib.hid ((B3.block _ (by have := Bx.lt T2.out; have := hb.size; omega)).trans ((hb.block _ (Bx.lt T2.out)).trans T2.out))
  clear hb HA q0 q1 q2 T1 B3
  simp only [lookV]
  obtain ⟨⟨l0, l1, l2, l3, l4, l5, l6, l7, l8, l9, l10⟩, ⟨f0, f1, f2, f3, f4, f5, f6, f7, f8, f9, f10⟩⟩ := Bx.b11 T2.out
  have HP := Lib.hid (Bx.b11 (Bx.set11 T2.out (.int .i64 0) (.int .i64 0) (.int .i64 0) (.int .i64 0) (.int .i64 0) (.int .i64 0) (.int .i64 0) (.int .i64 0) (.int .i64 0) (.int .i64 0) (.int .i64 0))).1
  have HQ := Lib.hid (Bx.put11 BE.out hwo.out (.int .i64 0) (.int .i64 0) (.int .i64 0) (.int .i64 0) (.int .i64 0) (.int .i64 0) (.int .i64 0) (.int .i64 0) (.int .i64 0) (.int .i64 0) (.int .i64 0))
  clear BE T2
  go_wp2
  obtain ⟨p0, p1, p2, p3, p4, p5, p6, p7, p8, p9, p10⟩ := HP.out
  exact bodyPost_ret (v := .tuple #[.agg #[.int .i64 0, .int .i64 0, .int .i64 0, .int .i64 0, .int .i64 0, .int .i64 0, .int .i64 0, .int .i64 0, .int .i64 0, .int .i64 0, .int .i64 0], .bool false]) (by simp [results, Try.results15, go_sem, p0, p1, p2, p3, p4, p5, p6, p7, p8, p9, p10]) rfl ⟨rfl, HQ.out⟩
set_option maxHeartbeats 8000000 in
set_option maxRecDepth 100000 in
theorem get_some {F : Foot} {p : Nat} {t : Tb} {w : World} (h : CS F p t w) {k1 k2 k3 : Int} {m i : Nat} {x : Bn} (hf : Ar.find t (k1, k2, k3) = some (m, i)) (hx : (t m)[i]? = some x) : Calls Try.prog 15 #[.pointer (some ⟨p, 0, none⟩), .agg #[.int .i64 k1, .int .i64 k2, .int .i64 k3]] w fun e w' => e = .returned (.tuple #[x.val, .bool true]) ∧ Below w.heap.size w w' := by
  have HA := Lib.hid (h.finds k1 k2 k3)
  rw [hf] at HA
  have hm := (find_at hf).1
  have hi := (List.getElem?_eq_some_iff.1 hx).1
  have RB : Hid (∀ W, Below w.heap.size w W → ∃ g o c, W.cell? ⟨p, m, none⟩ = some (.slice (some ⟨g, o, none⟩) (t m).length c) ∧ _) := Lib.hid fun W hW => by
    obtain ⟨A, c, hc, ho⟩ := (h.below hW).at_ hm
    obtain ⟨g, o, rfl, _, hcells, _⟩ := own_at ho hx
    exact ⟨g, o, c, hc, hcells⟩
  have hfew := h.few m
  clear h hf hx
  generalize (t m).length = n at *
  have T1 := Lib.hid (at2a w (.cells #[.int .i64 k1, .int .i64 k2, .int .i64 k3] 33) (bobj Bn.zero))
  have T2 := at2b w (.cells #[.int .i64 k1, .int .i64 k2, .int .i64 k3] 33) (bobj Bn.zero)
  have BE := Lib.hid (bel2 w (.cells #[.int .i64 k1, .int .i64 k2, .int .i64 k3] 33) (bobj Bn.zero))
  simp only [bobj, Bn.zero] at T1 T2 BE
  go_enter Try.func15, Try.ntmps15
  go_upto_region 1 with fail
  generalize (w.alloc (.cells #[.int .i64 k1, .int .i64 k2, .int .i64 k3] 33)).alloc (.cells #[.int .i64 0, .int .i64 0, .int .i64 0, .int .i64 0, .int .i64 0, .int .i64 0, .int .i64 0, .int .i64 0, .int .i64 0, .int .i64 0, .int .i64 0] 35) = w1 at *
  obtain ⟨o, ho⟩ : ∃ o, o = w.heap.size + 1 := ⟨_, rfl⟩
  rw [← ho] at T2 ⊢
  have hwo : Hid (w.heap.size ≤ o) := Lib.hid (by omega)
  clear ho
  replace T2 := Lib.hid T2
  obtain ⟨⟨q0, q1, q2⟩, _⟩ := Bx.b3 T1.out
  go_wp2_with fail
  refine (HA.out w1 BE.out).mono ?_
  rintro e w2 ⟨rfl, hb⟩
  have B3 := bel1 w2 (.cells #[.int .i64 (m : Int), .int .i64 (i : Int)] 72)
  have T3 := at1 w2 (.cells #[.int .i64 (m : Int), .int .i64 (i : Int)] 72)
  replace BE := Lib.hid ((BE.out.trans (hb.mono BE.out.size)).trans (B3.mono (BE.out.trans (hb.mono BE.out.size)).size))
  replace T2 := Lib.hid ((B3.block _ (by have := Bx.lt T2.out; have := hb.size; omega)).trans ((hb.block _ (Bx.lt T2.out)).trans T2.out))
  clear hb HA q0 q1 q2 T1 B3
  obtain ⟨⟨r0, r1⟩, _⟩ := Bx.b2 T3
  clear T3
  simp only [lookV, plV]
  go_upto_region 2 with fail
  obtain ⟨b2, hb2⟩ : ∃ b2, b2 = w2.heap.size := ⟨_, rfl⟩
  rw [← hb2] at r0 r1 ⊢
  clear hb2
  generalize w2.alloc (.cells #[.int .i64 (m : Int), .int .i64 (i : Int)] 72) = w3 at *
  obtain ⟨g, og, c, hc, k0, k1', k2', k3', k4, k5, k6, k7, k8, k9, k10⟩ := RB.out w3 BE.out
  obtain ⟨xs, xi, xg, xm, xx, xy, xvx, xvy, xh, xp, xl⟩ := x
  simp only [Bn.val] at *
  have t3 : (m : Int) < 32 := by omega
  have t4 : (i : Int) < (n : Int) := by omega
  have t5 : (n : Int) ≤ 100000 := by omega
  obtain ⟨⟨l0, l1, l2, l3, l4, l5, l6, l7, l8, l9, l10⟩, ⟨f0, f1, f2, f3, f4, f5, f6, f7, f8, f9, f10⟩⟩ := Bx.b11 T2.out
  have HP := Lib.hid (Bx.b11 (Bx.set11 T2.out (.int .i64 xs) (.int .i64 xi) (.int .i64 xg) (.int .i64 xm) (.int .i64 xx) (.int .i64 xy) (.int .i64 xvx) (.int .i64 xvy) (.int .i64 xh) (.int .i64 xp) (.int .i64 xl))).1
  have HQ := Lib.hid (Bx.put11 BE.out hwo.out (.int .i64 xs) (.int .i64 xi) (.int .i64 xg) (.int .i64 xm) (.int .i64 xx) (.int .i64 xy) (.int .i64 xvx) (.int .i64 xvy) (.int .i64 xh) (.int .i64 xp) (.int .i64 xl)).drew
  clear BE T2 RB hwo hm hi hfew
  go_upto_region 4 with fail
  go_big_region
  go_wp2
  obtain ⟨p0, p1, p2, p3, p4, p5, p6, p7, p8, p9, p10⟩ := HP.out
  exact bodyPost_ret (v := .tuple #[.agg #[.int .i64 xs, .int .i64 xi, .int .i64 xg, .int .i64 xm, .int .i64 xx, .int .i64 xy, .int .i64 xvx, .int .i64 xvy, .int .i64 xh, .int .i64 xp, .int .i64 xl], .bool true]) (by simp [results, Try.results15, go_sem, p0, p1, p2, p3, p4, p5, p6, p7, p8, p9, p10]) rfl ⟨rfl, HQ.out⟩
theorem get_any {F : Foot} {p : Nat} {t : Tb} {w : World} (h : CS F p t w) (k1 k2 k3 : Int) : Calls Try.prog 15 #[.pointer (some ⟨p, 0, none⟩), .agg #[.int .i64 k1, .int .i64 k2, .int .i64 k3]] w fun e w' => e = .returned (Ar.cgetV t (k1, k2, k3)) ∧ Below w.heap.size w w' := by
  unfold Ar.cgetV
  cases hf : Ar.find t (k1, k2, k3) with
  | none => exact get_none (by have := h.finds k1 k2 k3; rwa [hf] at this)
  | some pr =>
    obtain ⟨m, i⟩ := pr
    obtain ⟨_, x, hx, _⟩ := find_at hf
    simp only [hx]
    exact get_some h hf hx
theorem get_nil (w : World) (k1 k2 k3 : Int) : Calls Try.prog 15 #[.pointer none, .agg #[.int .i64 k1, .int .i64 k2, .int .i64 k3]] w fun e w' => e = .returned (.tuple #[zeroB, .bool false]) ∧ Below w.heap.size w w' := get_none (nil_finds w k1 k2 k3)
end Go.Proofs.Yteohkbepefjjlaa
