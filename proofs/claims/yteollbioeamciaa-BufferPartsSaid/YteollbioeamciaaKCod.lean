/- ArCod1, ArCod2, ArAdd0, in one text. -/
import Derived.Test.YteollbioeamciaaKMem
import Derived.BigRegion
namespace Go.Proofs.Yteollbioeamciaa
open Go.RowKit Pz Ar
set_option linter.unusedVariables false
set_option linter.unusedSimpArgs false

theorem tabs_none {F : Foot} {cs : Array Value} {W : World} (h : ∀ m, m < 32 → cs[m]? = some (.slice none 0 0)) : Tabs F cs (fun _ => []) W :=
  ⟨fun m hm => ⟨_, h m hm, .inl ⟨rfl, rfl⟩, fun g hg => by cases hg⟩, fun m m' v v' g hm hm' _ hv hv' hg => (by
    rw [h m hm] at hv
    cases Option.some.inj hv
    cases hg), fun m => Nat.zero_le _⟩
theorem cs_new (w : World) : CS (Gr Foot.no w.heap.size (w.heap.size + 1)) w.heap.size (fun _ => []) (w.alloc (.cells (Array.replicate 32 (.slice none 0 0) ++ #[.map none]) AT)) := by
  refine ⟨⟨_, .map none, [], at1 w _, by decide, tabs_none fun m hm => ?_, by rfl, .inl ⟨rfl, rfl⟩, rep_none⟩, good_none, .inr ⟨Nat.le_refl _, Nat.lt_succ_self _⟩, fun b hb => ?_⟩
  · rw [Array.getElem?_append_left (by simpa using hm)]
    simp [hm]
  · rw [size1]
    rcases hb with hb | hb
    · cases hb
    · exact hb.2
set_option maxHeartbeats 4000000 in
set_option maxRecDepth 100000 in
theorem new_any (w : World) : Calls Try.prog 9 #[] w fun e w' => e = .returned (.pointer (some ⟨w.heap.size, 0, none⟩)) ∧ CS (Gr Foot.no w.heap.size w'.heap.size) w.heap.size (fun _ => []) w' ∧ Below w.heap.size w w' := by
  have HC := Lib.hid (cs_new w)
  have HB := Lib.hid (bel1 w (.cells (Array.replicate 32 (.slice none 0 0) ++ #[.map none]) AT))
  have hs := size1 w (.cells (Array.replicate 32 (.slice none 0 0) ++ #[.map none]) AT)
  rw [← hs] at HC
  clear hs
  go_enter Try.func9, Try.ntmps9
  go_wp2
  go_ret
  exact ⟨rfl, HC.out, HB.out⟩
set_option maxHeartbeats 8000000 in
set_option maxRecDepth 100000 in
theorem find_any {F : Foot} {p : Nat} {t : Tb} {w : World} (h : CS F p t w) (k1 k2 k3 : Int) : Calls Try.prog 42 #[.pointer (some ⟨p, 0, none⟩), .agg #[.int .i64 k1, .int .i64 k2, .int .i64 k3]] w fun e w' => e = .returned (lookV (Ar.find t (k1, k2, k3))) ∧ Below w.heap.size w w' := by
  obtain ⟨mv, hmv, hlk, _⟩ := h.look
  have hp := h.lt p h.mine
  have T1 := Lib.hid (at2a w (.cells #[.int .i64 k1, .int .i64 k2, .int .i64 k3] 34) (.cells #[.int .i64 0, .int .i64 0] 84))
  have T2 := at2b w (.cells #[.int .i64 k1, .int .i64 k2, .int .i64 k3] 34) (.cells #[.int .i64 0, .int .i64 0] 84)
  have BE := Lib.hid (bel2 w (.cells #[.int .i64 k1, .int .i64 k2, .int .i64 k3] 34) (.cells #[.int .i64 0, .int .i64 0] 84))
  have LK := Lib.hid (hlk (k1, k2, k3))
  clear hlk h
  simp only [idV] at LK
  generalize Ar.find t (k1, k2, k3) = fd at *
  go_enter Try.func42, Try.ntmps42
  go_upto_region 1 with fail
  generalize (w.alloc (.cells #[.int .i64 k1, .int .i64 k2, .int .i64 k3] 34)).alloc (.cells #[.int .i64 0, .int .i64 0] 84) = w1 at *
  obtain ⟨o, ho⟩ : ∃ o, o = w.heap.size + 1 := ⟨_, rfl⟩
  rw [← ho] at T2 ⊢
  have hwo : w.heap.size ≤ o := by omega
  clear ho
  obtain ⟨⟨q0, q1, q2⟩, _⟩ := Bx.b3 T1.out
  have hmv1 : w1.cell? ⟨p, 32, none⟩ = some mv := (BE.out.cell (p := ⟨p, 32, none⟩) hp).trans hmv
  go_upto_region 3 with fail
  have hsz := Bx.lt T2
  have LK1 := LK.out w1.drew BE.out.drew
  have LK2 := LK.out (w1.alloc (.cells #[.int .i64 0, .int .i64 0] 84)).drew ((BE.out.alloc BE.out.size _).drew)
  have AL := at1 w1 (.cells #[.int .i64 0, .int .i64 0] 84)
  have AB := bel1 w1 (.cells #[.int .i64 0, .int .i64 0] 84)
  obtain ⟨⟨q0', q1', q2'⟩, _⟩ := Bx.b3 ((AB.block _ (Bx.lt T1.out)).trans T1.out)
  have hmv2 := (AB.cell (p := ⟨p, 32, none⟩) (by have := BE.out.size; show p < w1.heap.size; omega)).trans hmv1
  obtain ⟨⟨a0, a1⟩, ⟨g0, g1⟩⟩ := Bx.b2 AL
  clear hmv LK T1 AL AB
  cases fd with
  | none =>
    simp only [lookV] at LK1 LK2 ⊢
    have B2 := bel1 w1 (.cells #[.int .i64 0, .int .i64 0] 84)
    obtain ⟨⟨c0, c1⟩, _⟩ := Bx.b2 (at1 w1 (.cells #[.int .i64 0, .int .i64 0] 84))
    have T3 := (B2.block _ hsz).trans T2
    obtain ⟨⟨d0, d1⟩, ⟨e0, e1⟩⟩ := Bx.b2 T3
    have HP := Lib.hid (Bx.b2 (Bx.set2 T3 (.int .i64 0) (.int .i64 0))).1
    have HQ := Lib.hid (((BE.out.trans (B2.mono BE.out.size)).setCell (p := ⟨o, 0, none⟩) hwo (.int .i64 0)).setCell (p := ⟨o, 1, none⟩) hwo (.int .i64 0)).drew
    clear T2 T3 B2 BE hwo hsz
    go_region
    all_goals (
      go_wp2
      obtain ⟨p0, p1⟩ := HP.out
      exact bodyPost_ret (v := .tuple #[.agg #[.int .i64 0, .int .i64 0], .bool false]) (by simp [results, Try.results42, go_sem, p0, p1]) rfl ⟨rfl, HQ.out⟩)
  | some x =>
    obtain ⟨m, i⟩ := x
    simp only [lookV, plV] at LK1 LK2 ⊢
    have B2 := bel1 w1 (.cells #[.int .i64 (m : Int), .int .i64 (i : Int)] 84)
    obtain ⟨⟨c0, c1⟩, _⟩ := Bx.b2 (at1 w1 (.cells #[.int .i64 (m : Int), .int .i64 (i : Int)] 84))
    have T3 := (B2.block _ hsz).trans T2
    obtain ⟨⟨d0, d1⟩, ⟨e0, e1⟩⟩ := Bx.b2 T3
    have HP := Lib.hid (Bx.b2 (Bx.set2 T3 (.int .i64 (m : Int)) (.int .i64 (i : Int)))).1
    have HQ := Lib.hid (((BE.out.trans (B2.mono BE.out.size)).setCell (p := ⟨o, 0, none⟩) hwo (.int .i64 (m : Int))).setCell (p := ⟨o, 1, none⟩) hwo (.int .i64 (i : Int))).drew
    clear T2 T3 B2 BE hwo hsz
    go_region
    all_goals (
      go_wp2
      obtain ⟨p0, p1⟩ := HP.out
      exact bodyPost_ret (v := .tuple #[.agg #[.int .i64 (m : Int), .int .i64 (i : Int)], .bool true]) (by simp [results, Try.results42, go_sem, p0, p1]) rfl ⟨rfl, HQ.out⟩)
end Go.Proofs.Yteollbioeamciaa
namespace Go.Proofs.Yteollbioeamciaa
open Go.RowKit Pz Ar
set_option linter.unusedVariables false
set_option linter.unusedSimpArgs false

abbrev zeroB : Value := .agg #[.int .i64 0, .int .i64 0, .int .i64 0, .int .i64 0, .int .i64 0, .int .i64 0, .int .i64 0, .int .i64 0, .int .i64 0, .int .i64 0, .int .i64 0]
/-- what Row answers -/
def Ar.rowV : Option (Nat × Nat) → Value
  | some x => .tuple #[.int .i64 (x.2 : Int), .bool true]
  | none => .tuple #[.int .i64 0, .bool false]
/-- what the code's Get answers -/
def Ar.cgetV (t : Tb) (k : NK) : Value :=
  match Ar.find t k with
  | some (m, i) => match (t m)[i]? with
    | some x => .tuple #[x.val, .bool true]
    | none => .tuple #[.int .i64 0]
  | none => .tuple #[zeroB, .bool false]
set_option maxHeartbeats 8000000 in
set_option maxRecDepth 100000 in
theorem find_nil (w : World) (k1 k2 k3 : Int) : Calls Try.prog 42 #[.pointer none, .agg #[.int .i64 k1, .int .i64 k2, .int .i64 k3]] w fun e w' => e = .returned (lookV none) ∧ Below w.heap.size w w' := by
  have T2 := at2b w (.cells #[.int .i64 k1, .int .i64 k2, .int .i64 k3] 34) (.cells #[.int .i64 0, .int .i64 0] 84)
  have BE := Lib.hid (bel2 w (.cells #[.int .i64 k1, .int .i64 k2, .int .i64 k3] 34) (.cells #[.int .i64 0, .int .i64 0] 84))
  simp only [lookV]
  go_enter Try.func42, Try.ntmps42
  go_upto_region 1 with fail
  generalize (w.alloc (.cells #[.int .i64 k1, .int .i64 k2, .int .i64 k3] 34)).alloc (.cells #[.int .i64 0, .int .i64 0] 84) = w1 at *
  obtain ⟨o, ho⟩ : ∃ o, o = w.heap.size + 1 := ⟨_, rfl⟩
  rw [← ho] at T2 ⊢
  have hwo : w.heap.size ≤ o := by omega
  clear ho
  obtain ⟨⟨d0, d1⟩, ⟨e0, e1⟩⟩ := Bx.b2 T2
  have HP := Lib.hid (Bx.b2 (Bx.set2 T2 (.int .i64 0) (.int .i64 0))).1
  have HQ := Lib.hid (((BE.out).setCell (p := ⟨o, 0, none⟩) hwo (.int .i64 0)).setCell (p := ⟨o, 1, none⟩) hwo (.int .i64 0))
  clear T2 BE hwo
  go_wp2
  obtain ⟨p0, p1⟩ := HP.out
  exact bodyPost_ret (v := .tuple #[.agg #[.int .i64 0, .int .i64 0], .bool false]) (by simp [results, Try.results42, go_sem, p0, p1]) rfl ⟨rfl, HQ.out⟩
/-- a store, or none: what find says of it -/
def FindIs (P : Value) (fd : Option (Nat × Nat)) (k1 k2 k3 : Int) (w : World) : Prop := ∀ W, Below w.heap.size w W → Calls Try.prog 42 #[P, .agg #[.int .i64 k1, .int .i64 k2, .int .i64 k3]] W fun e w' => e = .returned (lookV fd) ∧ Below W.heap.size W w'
theorem CS.finds {F : Foot} {p : Nat} {t : Tb} {w : World} (h : CS F p t w) (k1 k2 k3 : Int) : FindIs (.pointer (some ⟨p, 0, none⟩)) (Ar.find t (k1, k2, k3)) k1 k2 k3 w := fun W hW => find_any (h.below hW) k1 k2 k3
theorem nil_finds (w : World) (k1 k2 k3 : Int) : FindIs (.pointer none) none k1 k2 k3 w := fun W _ => find_nil W k1 k2 k3
set_option maxHeartbeats 8000000 in
set_option maxRecDepth 100000 in
theorem row_of {P : Value} {fd : Option (Nat × Nat)} {w : World} {k1 k2 k3 : Int} (h : FindIs P fd k1 k2 k3 w) : Calls Try.prog 39 #[P, .agg #[.int .i64 k1, .int .i64 k2, .int .i64 k3]] w fun e w' => e = .returned (Ar.rowV fd) ∧ Below w.heap.size w w' := by
  have HF := Lib.hid h
  have T1 := Lib.hid (at1 w (.cells #[.int .i64 k1, .int .i64 k2, .int .i64 k3] 34))
  have BE := Lib.hid (bel1 w (.cells #[.int .i64 k1, .int .i64 k2, .int .i64 k3] 34))
  clear h
  go_enter Try.func39, Try.ntmps39
  go_upto_region 1 with fail
  generalize w.alloc (.cells #[.int .i64 k1, .int .i64 k2, .int .i64 k3] 34) = w1 at *
  obtain ⟨⟨q0, q1, q2⟩, _⟩ := Bx.b3 T1.out
  go_wp2_with fail
  refine (HF.out w1 BE.out).mono ?_
  rintro e w2 ⟨rfl, hb⟩
  replace BE := Lib.hid (BE.out.trans (hb.mono BE.out.size))
  clear hb HF q0 q1 q2 T1
  cases fd with
  | none =>
    simp only [lookV, Ar.rowV]
    have HQ := Lib.hid (BE.out.alloc BE.out.size (.cells #[.int .i64 0, .int .i64 0] 84))
    have c1 := (Bx.b2 (at1 w2 (.cells #[.int .i64 0, .int .i64 0] 84))).1.2
    clear BE
    go_wp2
    exact bodyPost_ret (v := .tuple #[.int .i64 0, .bool false]) (by simp [results, Try.results39, go_sem]) rfl ⟨rfl, HQ.out⟩
  | some x =>
    obtain ⟨m, i⟩ := x
    simp only [lookV, plV, Ar.rowV]
    have HQ := Lib.hid (BE.out.alloc BE.out.size (.cells #[.int .i64 (m : Int), .int .i64 (i : Int)] 84))
    have c1 := (Bx.b2 (at1 w2 (.cells #[.int .i64 (m : Int), .int .i64 (i : Int)] 84))).1.2
    clear BE
    go_wp2
    exact bodyPost_ret (v := .tuple #[.int .i64 (i : Int), .bool true]) (by simp [results, Try.results39, go_sem]) rfl ⟨rfl, HQ.out⟩
theorem row_any {F : Foot} {p : Nat} {t : Tb} {w : World} (h : CS F p t w) (k1 k2 k3 : Int) : Calls Try.prog 39 #[.pointer (some ⟨p, 0, none⟩), .agg #[.int .i64 k1, .int .i64 k2, .int .i64 k3]] w fun e w' => e = .returned (Ar.rowV (Ar.find t (k1, k2, k3))) ∧ Below w.heap.size w w' := row_of (h.finds k1 k2 k3)
theorem row_nil (w : World) (k1 k2 k3 : Int) : Calls Try.prog 39 #[.pointer none, .agg #[.int .i64 k1, .int .i64 k2, .int .i64 k3]] w fun e w' => e = .returned (Ar.rowV none) ∧ Below w.heap.size w w' := row_of (nil_finds w k1 k2 k3)
set_option maxHeartbeats 8000000 in
set_option maxRecDepth 100000 in
theorem len_any {F : Foot} {p : Nat} {t : Tb} {w : World} (h : CS F p t w) : Calls Try.prog 24 #[.pointer (some ⟨p, 0, none⟩)] w fun e w' => e = .returned (.int .i64 (total t : Int)) ∧ w = w' := by
  obtain ⟨mv, hmv, _, hlen⟩ := h.look
  have HL := hlen 3 w (Below.refl _ _)
  generalize (total t : Int) = n at *
  clear hlen h
  go_enter Try.func24, Try.ntmps24
  go_wp2
  go_ret
  exact ⟨rfl, rfl⟩
set_option maxHeartbeats 8000000 in
set_option maxRecDepth 100000 in
theorem len_nil (w : World) : Calls Try.prog 24 #[.pointer none] w fun e w' => e = .returned (.int .i64 0) ∧ w = w' := by
  go_enter Try.func24, Try.ntmps24
  go_wp2
  go_ret
  exact ⟨rfl, rfl⟩
set_option maxHeartbeats 8000000 in
set_option maxRecDepth 100000 in
theorem get_none {P : Value} {w : World} {k1 k2 k3 : Int} (h : FindIs P none k1 k2 k3 w) : Calls Try.prog 25 #[P, .agg #[.int .i64 k1, .int .i64 k2, .int .i64 k3]] w fun e w' => e = .returned (.tuple #[zeroB, .bool false]) ∧ Below w.heap.size w w' := by
  have HA := Lib.hid h
  clear h
  have T1 := Lib.hid (at2a w (.cells #[.int .i64 k1, .int .i64 k2, .int .i64 k3] 34) (bobj Bn.zero))
  have T2 := at2b w (.cells #[.int .i64 k1, .int .i64 k2, .int .i64 k3] 34) (bobj Bn.zero)
  have BE := Lib.hid (bel2 w (.cells #[.int .i64 k1, .int .i64 k2, .int .i64 k3] 34) (bobj Bn.zero))
  simp only [bobj, Bn.zero] at T1 T2 BE
  go_enter Try.func25, Try.ntmps25
  go_upto_region 1 with fail
  generalize (w.alloc (.cells #[.int .i64 k1, .int .i64 k2, .int .i64 k3] 34)).alloc (.cells #[.int .i64 0, .int .i64 0, .int .i64 0, .int .i64 0, .int .i64 0, .int .i64 0, .int .i64 0, .int .i64 0, .int .i64 0, .int .i64 0, .int .i64 0] 36) = w1 at *
  obtain ⟨o, ho⟩ : ∃ o, o = w.heap.size + 1 := ⟨_, rfl⟩
  rw [← ho] at T2 ⊢
  have hwo : Hid (w.heap.size ≤ o) := Lib.hid (by omega)
  clear ho
  replace T2 := Lib.hid T2
  obtain ⟨⟨q0, q1, q2⟩, _⟩ := Bx.b3 T1.out
  go_wp2_with fail
  refine (HA.out w1 BE.out).mono ?_
  rintro e w2 ⟨rfl, hb⟩
  have B3 := bel1 w2 (.cells #[.int .i64 0, .int .i64 0] 84)
  replace BE := Lib.hid ((BE.out.trans (hb.mono BE.out.size)).trans (B3.mono (BE.out.trans (hb.mono BE.out.size)).size))
  replace T2 := Lib.hid ((B3.block _ (by have := Bx.lt T2.out; have := hb.size; omega)).trans ((hb.block _ (Bx.lt T2.out)).trans T2.out))
  clear hb HA q0 q1 q2 T1 B3
  simp only [lookV]
  obtain ⟨⟨l0, l1, l2, l3, l4, l5, l6, l7, l8, l9, l10⟩, ⟨f0, f1, f2, f3, f4, f5, f6, f7, f8, f9, f10⟩⟩ := Bx.b11 T2.out
  have HP := Lib.hid (Bx.b11 (Bx.set11 T2.out (.int .i64 0) (.int .i64 0) (.int .i64 0) (.int .i64 0) (.int .i64 0) (.int .i64 0) (.int .i64 0) (.int .i64 0) (.int .i64 0) (.int .i64 0) (.int .i64 0))).1
  have HQ := Lib.hid (Bx.put11 BE.out hwo.out (.int .i64 0) (.int .i64 0) (.int .i64 0) (.int .i64 0) (.int .i64 0) (.int .i64 0) (.int .i64 0) (.int .i64 0) (.int .i64 0) (.int .i64 0) (.int .i64 0))
  clear BE T2
  go_wp2
  obtain ⟨p0, p1, p2, p3, p4, p5, p6, p7, p8, p9, p10⟩ := HP.out
  exact bodyPost_ret (v := .tuple #[.agg #[.int .i64 0, .int .i64 0, .int .i64 0, .int .i64 0, .int .i64 0, .int .i64 0, .int .i64 0, .int .i64 0, .int .i64 0, .int .i64 0, .int .i64 0], .bool false]) (by simp [results, Try.results25, go_sem, p0, p1, p2, p3, p4, p5, p6, p7, p8, p9, p10]) rfl ⟨rfl, HQ.out⟩
set_option maxHeartbeats 8000000 in
set_option maxRecDepth 100000 in
theorem get_some {F : Foot} {p : Nat} {t : Tb} {w : World} (h : CS F p t w) {k1 k2 k3 : Int} {m i : Nat} {x : Bn} (hf : Ar.find t (k1, k2, k3) = some (m, i)) (hx : (t m)[i]? = some x) : Calls Try.prog 25 #[.pointer (some ⟨p, 0, none⟩), .agg #[.int .i64 k1, .int .i64 k2, .int .i64 k3]] w fun e w' => e = .returned (.tuple #[x.val, .bool true]) ∧ Below w.heap.size w w' := by
  have HA := Lib.hid (h.finds k1 k2 k3)
  rw [hf] at HA
  have hm := (find_at hf).1
  have hi := (List.getElem?_eq_some_iff.1 hx).1
  have RB : Hid (∀ W, Below w.heap.size w W → ∃ g o c, W.cell? ⟨p, m, none⟩ = some (.slice (some ⟨g, o, none⟩) (t m).length c) ∧ _) := Lib.hid fun W hW => by
    obtain ⟨A, c, hc, ho⟩ := (h.below hW).at_ hm
    obtain ⟨g, o, rfl, _, hcells, _⟩ := own_at ho hx
    exact ⟨g, o, c, hc, hcells⟩
  have hfew := h.few m
  clear h hf hx
  generalize (t m).length = n at *
  have T1 := Lib.hid (at2a w (.cells #[.int .i64 k1, .int .i64 k2, .int .i64 k3] 34) (bobj Bn.zero))
  have T2 := at2b w (.cells #[.int .i64 k1, .int .i64 k2, .int .i64 k3] 34) (bobj Bn.zero)
  have BE := Lib.hid (bel2 w (.cells #[.int .i64 k1, .int .i64 k2, .int .i64 k3] 34) (bobj Bn.zero))
  simp only [bobj, Bn.zero] at T1 T2 BE
  go_enter Try.func25, Try.ntmps25
  go_upto_region 1 with fail
  generalize (w.alloc (.cells #[.int .i64 k1, .int .i64 k2, .int .i64 k3] 34)).alloc (.cells #[.int .i64 0, .int .i64 0, .int .i64 0, .int .i64 0, .int .i64 0, .int .i64 0, .int .i64 0, .int .i64 0, .int .i64 0, .int .i64 0, .int .i64 0] 36) = w1 at *
  obtain ⟨o, ho⟩ : ∃ o, o = w.heap.size + 1 := ⟨_, rfl⟩
  rw [← ho] at T2 ⊢
  have hwo : Hid (w.heap.size ≤ o) := Lib.hid (by omega)
  clear ho
  replace T2 := Lib.hid T2
  obtain ⟨⟨q0, q1, q2⟩, _⟩ := Bx.b3 T1.out
  go_wp2_with fail
  refine (HA.out w1 BE.out).mono ?_
  rintro e w2 ⟨rfl, hb⟩
  have B3 := bel1 w2 (.cells #[.int .i64 (m : Int), .int .i64 (i : Int)] 84)
  have T3 := at1 w2 (.cells #[.int .i64 (m : Int), .int .i64 (i : Int)] 84)
  replace BE := Lib.hid ((BE.out.trans (hb.mono BE.out.size)).trans (B3.mono (BE.out.trans (hb.mono BE.out.size)).size))
  replace T2 := Lib.hid ((B3.block _ (by have := Bx.lt T2.out; have := hb.size; omega)).trans ((hb.block _ (Bx.lt T2.out)).trans T2.out))
  clear hb HA q0 q1 q2 T1 B3
  obtain ⟨⟨r0, r1⟩, _⟩ := Bx.b2 T3
  clear T3
  simp only [lookV, plV]
  go_upto_region 2 with fail
  obtain ⟨b2, hb2⟩ : ∃ b2, b2 = w2.heap.size := ⟨_, rfl⟩
  rw [← hb2] at r0 r1 ⊢
  clear hb2
  generalize w2.alloc (.cells #[.int .i64 (m : Int), .int .i64 (i : Int)] 84) = w3 at *
  obtain ⟨g, og, c, hc, k0, k1', k2', k3', k4, k5, k6, k7, k8, k9, k10⟩ := RB.out w3 BE.out
  obtain ⟨xs, xi, xg, xm, xx, xy, xvx, xvy, xh, xp, xl⟩ := x
  simp only [Bn.val] at *
  have t3 : (m : Int) < 32 := by omega
  have t4 : (i : Int) < (n : Int) := by omega
  have t5 : (n : Int) ≤ 100000 := by omega
  obtain ⟨⟨l0, l1, l2, l3, l4, l5, l6, l7, l8, l9, l10⟩, ⟨f0, f1, f2, f3, f4, f5, f6, f7, f8, f9, f10⟩⟩ := Bx.b11 T2.out
  have HP := Lib.hid (Bx.b11 (Bx.set11 T2.out (.int .i64 xs) (.int .i64 xi) (.int .i64 xg) (.int .i64 xm) (.int .i64 xx) (.int .i64 xy) (.int .i64 xvx) (.int .i64 xvy) (.int .i64 xh) (.int .i64 xp) (.int .i64 xl))).1
  have HQ := Lib.hid (Bx.put11 BE.out hwo.out (.int .i64 xs) (.int .i64 xi) (.int .i64 xg) (.int .i64 xm) (.int .i64 xx) (.int .i64 xy) (.int .i64 xvx) (.int .i64 xvy) (.int .i64 xh) (.int .i64 xp) (.int .i64 xl)).drew
  clear BE T2 RB hwo hm hi hfew
  go_upto_region 4 with fail
  go_big_region
  go_wp2
  obtain ⟨p0, p1, p2, p3, p4, p5, p6, p7, p8, p9, p10⟩ := HP.out
  exact bodyPost_ret (v := .tuple #[.agg #[.int .i64 xs, .int .i64 xi, .int .i64 xg, .int .i64 xm, .int .i64 xx, .int .i64 xy, .int .i64 xvx, .int .i64 xvy, .int .i64 xh, .int .i64 xp, .int .i64 xl], .bool true]) (by simp [results, Try.results25, go_sem, p0, p1, p2, p3, p4, p5, p6, p7, p8, p9, p10]) rfl ⟨rfl, HQ.out⟩
theorem get_any {F : Foot} {p : Nat} {t : Tb} {w : World} (h : CS F p t w) (k1 k2 k3 : Int) : Calls Try.prog 25 #[.pointer (some ⟨p, 0, none⟩), .agg #[.int .i64 k1, .int .i64 k2, .int .i64 k3]] w fun e w' => e = .returned (Ar.cgetV t (k1, k2, k3)) ∧ Below w.heap.size w w' := by
  unfold Ar.cgetV
  cases hf : Ar.find t (k1, k2, k3) with
  | none => exact get_none (by have := h.finds k1 k2 k3; rwa [hf] at this)
  | some pr =>
    obtain ⟨m, i⟩ := pr
    obtain ⟨_, x, hx, _⟩ := find_at hf
    simp only [hx]
    exact get_some h hf hx
theorem get_nil (w : World) (k1 k2 k3 : Int) : Calls Try.prog 25 #[.pointer none, .agg #[.int .i64 k1, .int .i64 k2, .int .i64 k3]] w fun e w' => e = .returned (.tuple #[zeroB, .bool false]) ∧ Below w.heap.size w w' := get_none (nil_finds w k1 k2 k3)
end Go.Proofs.Yteollbioeamciaa
namespace Go.Proofs.Yteollbioeamciaa
open Go.RowKit Pz Ar
set_option linter.unusedVariables false
set_option linter.unusedSimpArgs false

theorem app_one2 {W : World} {v : Value} {l : List Bn} (h : OwnB W 0 v l) (x : Bn) (hn : l.length + 1 ≤ 1000000) (ty : TypeId) :
    ∃ v' w', (Builtin.append_ #[26, 26] ty #[v, .slice (some ⟨W.heap.size, 0, none⟩) 1 1]).run Try.prog (W.alloc (.cells #[.int .i64 x.s, .int .i64 x.i, .int .i64 x.g, .int .i64 x.m, .int .i64 x.x, .int .i64 x.y, .int .i64 x.vx, .int .i64 x.vy, .int .i64 x.h, .int .i64 x.p, .int .i64 x.l] 36)) = .ok v' w' ∧ OwnB w' 0 v' (l ++ [x]) ∧ W.grownBy w' v.ownBlock ∧ (∀ g, v'.ownBlock = some g → v.ownBlock = some g ∨ W.heap.size ≤ g) := by
  have hb := bel1 W (.cells #[.int .i64 x.s, .int .i64 x.i, .int .i64 x.g, .int .i64 x.m, .int .i64 x.x, .int .i64 x.y, .int .i64 x.vx, .int .i64 x.vy, .int .i64 x.h, .int .i64 x.p, .int .i64 x.l] 36)
  have ha := at1 W (.cells #[.int .i64 x.s, .int .i64 x.i, .int .i64 x.g, .int .i64 x.m, .int .i64 x.x, .int .i64 x.y, .int .i64 x.vx, .int .i64 x.vy, .int .i64 x.h, .int .i64 x.p, .int .i64 x.l] 36)
  have h2 := h.below hb
  obtain ⟨v', w', hr, ho, hg, hf⟩ := h2.app (P := Try.prog) (t := 26) (ty := ty) Try.underlying26 bundle_info rfl (by decide) bnE_len bnE_one (Nat.zero_le _) [x] ⟨W.heap.size, 0, none⟩ 1 (fun j y hj c u hu => by
    have hj0 : j = 0 := by
      have := (List.getElem?_eq_some_iff.1 hj).1
      simp at this
      exact this
    subst hj0
    have hy := Option.some.inj hj
    subst hy
    rw [Addr.add_mid, Nat.zero_mul, Nat.zero_add, Nat.zero_add]
    exact (Bx.cell ha (by simpa [bnE, Bn.row] using hu)).1) (by simpa using hn) (by decide) (.inl (by simp))
  exact ⟨v', w', hr, ho, ⟨hg.os, hg.tape, hg.output, Nat.le_trans hb.size hg.size, fun k hk hne => (hg.block k (Nat.lt_of_lt_of_le hk hb.size) hne).trans (hb.block k hk)⟩, fun g e => (hf g e).imp id fun e => Nat.le_trans hb.size e⟩
/-- on the way -/
structure AddAt (F : Foot) (p : Nat) (t : Tb) (L : List (NK × Nat × Nat)) (w : World) (b : Bn) (q : Nat) (cs : Array Value) (W : World) : Prop where
  bel : Only F w W
  head : W.heap[p]? = some (.cells cs AT (0, 0))
  size : cs.size = 33
  tabs : Tabs F cs t W
  cell : cs[32]? = some (.map (some q))
  map : MapIs (Gr F w.heap.size W.heap.size) W (.map (some q)) L
  box : W.heap[w.heap.size]? = some (.cells #[.int .i64 b.s, .int .i64 b.i, .int .i64 b.g, .int .i64 b.m, .int .i64 b.x, .int .i64 b.y, .int .i64 b.vx, .int .i64 b.vy, .int .i64 b.h, .int .i64 b.p, .int .i64 b.l] 36 (0, 0))
section
variable {F : Foot} {p : Nat} {t : Tb} {L L' : List (NK × Nat × Nat)} {w W W3 : World} {b : Bn} {q : Nat} {cs : Array Value}
theorem AddAt.drew (h : AddAt F p t L w b q cs W) : AddAt F p t L w b q cs W.drew :=
  ⟨h.bel.drew, h.head, h.size, h.tabs.kept (fun _ _ => rfl), h.cell, h.map.kept (fun _ _ => rfl), h.box⟩
theorem AddAt.ne_q (h : AddAt F p t L w b q cs W) {k : Nat} {c : Array Value} {T : TypeId} (hk : W.heap[k]? = some (.cells c T (0, 0))) : k ≠ q := fun e => by
  obtain ⟨_, es, c', hq⟩ := h.map.own
  rw [e, hq] at hk
  cases hk
theorem AddAt.turn (h : AddAt F p t L w b q cs W) (hF : ∀ b, F b → b < w.heap.size) (hT : Turned q W W3) (hM : MapIs (Gr F w.heap.size W.heap.size) W3 (.map (some q)) L') : AddAt F p t L' w b q cs W3 := by
  have hq := h.map.own.1
  refine ⟨?_, (hT.block p (h.ne_q h.head)).trans h.head, h.size, ?_, h.cell, by rw [hT.size]; exact hM, (hT.block _ (h.ne_q h.box)).trans h.box⟩
  · exact h.bel.trans (hT.only hq)
  · refine ⟨fun m hm => ?_, h.tabs.apart, h.tabs.few⟩
    obtain ⟨v, h1, h2, h3⟩ := h.tabs.tab m hm
    refine ⟨v, h1, h2.kept fun g hg => hT.block g ?_, h3⟩
    obtain ⟨_, cur, hc⟩ := h.tabs.other hm h1 hg
    exact h.ne_q hc
theorem AddAt.fin (h : AddAt F p t L w b q cs W) (hp : F p) (hF : ∀ b, F b → b < w.heap.size) (hG : Ar.Good (put0 t b)) (hR : Rep L (put0 t b)) {m : Nat} (hm : m < 32) (hbm : b.m.toNat = m) {v v3 : Value} (hv : cs[m]? = some v) (ho : OwnB W3 0 v3 (t m ++ [b])) (hg : W.grownBy W3 v.ownBlock)
    (hrow : ∀ g, v3.ownBlock = some g → v.ownBlock = some g ∨ W.heap.size ≤ g) (hl : (t m).length + 1 ≤ 100000) :
    CS (Gr F w.heap.size (W3.setCell ⟨p, m, none⟩ v3).heap.size) p (put0 t b) (W3.setCell ⟨p, m, none⟩ v3) ∧ Only F w (W3.setCell ⟨p, m, none⟩ v3) := by
  rw [World.size_setCell]
  have hsz := h.bel.size
  have hpv : v.ownBlock ≠ some p := fun e => by
    obtain ⟨_, cur, hc⟩ := h.tabs.other hm hv e
    exact Bx.ne_type hc h.head (by decide) rfl
  have hp3 : W3.heap[p]? = some (.cells cs AT (0, 0)) := (hg.block p (Bx.lt h.head) (fun e => hpv e.symm)).trans h.head
  obtain ⟨hqF, es, c, hqh⟩ := h.map.own
  have hqv : v.ownBlock ≠ some q := fun e => by
    obtain ⟨_, cur, hc⟩ := h.tabs.other hm hv e
    rw [hqh] at hc; cases hc
  have hput : put0 t b = Ar.up t m (t m ++ [b]) := by unfold put0; rw [hbm]
  obtain ⟨a1, a2⟩ := tabs_store (W := W3) (F' := Gr F w.heap.size W3.heap.size) (v := v3) (l := t m ++ [b]) (by decide) h.tabs hp3 (fun b hb => .inl hb) hm (fun a u g ha hne hu hg' => by
    obtain ⟨_, cur, hc⟩ := h.tabs.other ha hu hg'
    exact hg.block g (Bx.lt hc) (fun e => h.tabs.apart a m u v g ha hm hne hu hv hg' e.symm)) ho (by simpa using hl) (fun g hg3 => by
      obtain ⟨_, cur, hc⟩ := ho.blk hg3
      rcases hrow g hg3 with e | e
      · exact ⟨.inl (h.tabs.other hm hv e).1, fun a u ha hne hu e2 => h.tabs.apart a m u v g ha hm hne hu hv e2 e⟩
      · refine ⟨.inr ⟨by omega, Bx.lt hc⟩, fun a u ha hne hu e2 => ?_⟩
        obtain ⟨_, cur, hc⟩ := h.tabs.other ha hu e2
        have := Bx.lt hc
        omega)
  refine ⟨⟨⟨_, .map (some q), L, a1, by simpa using h.size, by rw [hput]; exact a2, ?_, ?_, hR⟩, hG, .inl hp, fun b hb => ?_⟩, ?_⟩
  · rw [Array.getElem?_setIfInBounds_ne (by omega)]
    exact h.cell
  · refine (h.map.kept' (fun k hk => ?_)).more (fun k hk => hk.imp id fun hk => ⟨hk.1, Nat.lt_of_lt_of_le hk.2 hg.size⟩)
    cases Option.some.inj (Value.map.inj hk)
    rw [Bx.ne (fun e => ?_)]
    · exact hg.block q (Bx.lt hqh) (fun e => hqv e.symm)
    · subst e
      rw [h.head] at hqh
      cases hqh
  · rw [World.size_setCell]
    rcases hb with hb | hb
    · have := hF b hb; have := hg.size; omega
    · exact hb.2
  · refine Only.set ⟨hg.os.trans h.bel.os, hg.tape.trans h.bel.tape, hg.output.trans h.bel.output, Nat.le_trans hsz hg.size, fun k hk hn => ?_⟩ (.inl hp) _
    refine (hg.block k (by omega) (fun e => hn ?_)).trans (h.bel.block k hk hn)
    exact (h.tabs.other hm hv e.symm).1
end
end Go.Proofs.Yteollbioeamciaa
