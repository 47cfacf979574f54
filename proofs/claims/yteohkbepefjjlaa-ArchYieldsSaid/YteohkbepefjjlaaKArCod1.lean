/- The code's store: New, find. -/
import Derived.Test.YteohkbepefjjlaaKArMem3
namespace Go.Proofs.Yteohkbepefjjlaa
open Go.RowKit Pz Ar
set_option linter.unusedVariables false
set_option linter.unusedSimpArgs false

theorem tabs_none {F : Foot} {cs : Array Value} {W : World} (h : ∀ m, m < 32 → cs[m]? = some (.slice none 0 0)) : Tabs F cs (fun _ => []) W :=
  ⟨fun m hm => ⟨_, h m hm, .inl ⟨rfl, rfl⟩, fun g hg => by cases hg⟩, fun m m' v v' g hm hm' _ hv hv' hg => (by
    rw [h m hm] at hv
    cases Option.some.inj hv
    cases hg), fun m => Nat.zero_le _⟩
theorem cs_new (w : World) : CS (Gr Foot.no w.heap.size (w.heap.size + 1)) w.heap.size (fun _ => []) (w.alloc (.cells (Array.replicate 32 (.slice none 0 0) ++ #[.map none]) AT)) := by
  refine ⟨⟨_, .map none, [], at1 w _, by decide, tabs_none fun m hm => ?_, by rfl, .inl ⟨rfl, rfl⟩, rep_none⟩, good_none, .inr ⟨Nat.le_refl _, Nat.lt_succ_self _⟩, fun b hb => ?_⟩
  · rw [Array.getElem?_append_left (by simpa using hm)]
    simp [hm]
  · rw [size1]
    rcases hb with hb | hb
    · cases hb
    · exact hb.2
set_option maxHeartbeats 4000000 in
set_option maxRecDepth 100000 in
theorem new_any (w : World) : Calls Try.prog 11 #[] w fun e w' => e = .returned (.pointer (some ⟨w.heap.size, 0, none⟩)) ∧ CS (Gr Foot.no w.heap.size w'.heap.size) w.heap.size (fun _ => []) w' ∧ Below w.heap.size w w' := by
  have HC := Lib.hid (cs_new w)
  have HB := Lib.hid (bel1 w (.cells (Array.replicate 32 (.slice none 0 0) ++ #[.map none]) AT))
  have hs := size1 w (.cells (Array.replicate 32 (.slice none 0 0) ++ #[.map none]) AT)
  rw [← hs] at HC
  clear hs
  go_enter Try.func11, Try.ntmps11
  go_wp2
  go_ret
  exact ⟨rfl, HC.out, HB.out⟩
set_option maxHeartbeats 8000000 in
set_option maxRecDepth 100000 in
theorem find_any {F : Foot} {p : Nat} {t : Tb} {w : World} (h : CS F p t w) (k1 k2 k3 : Int) : Calls Try.prog 36 #[.pointer (some ⟨p, 0, none⟩), .agg #[.int .i64 k1, .int .i64 k2, .int .i64 k3]] w fun e w' => e = .returned (lookV (Ar.find t (k1, k2, k3))) ∧ Below w.heap.size w w' := by
  obtain ⟨mv, hmv, hlk, _⟩ := h.look
  have hp := h.lt p h.mine
  have T1 := Lib.hid (at2a w (.cells #[.int .i64 k1, .int .i64 k2, .int .i64 k3] 33) (.cells #[.int .i64 0, .int .i64 0] 72))
  have T2 := at2b w (.cells #[.int .i64 k1, .int .i64 k2, .int .i64 k3] 33) (.cells #[.int .i64 0, .int .i64 0] 72)
  have BE := Lib.hid (bel2 w (.cells #[.int .i64 k1, .int .i64 k2, .int .i64 k3] 33) (.cells #[.int .i64 0, .int .i64 0] 72))
  have LK := Lib.hid (hlk (k1, k2, k3))
  clear hlk h
  simp only [idV] at LK
  generalize Ar.find t (k1, k2, k3) = fd at *
  go_enter Try.func36, Try.ntmps36
  go_upto_region 1 with fail
  generalize (w.alloc (.cells #[.int .i64 k1, .int .i64 k2, .int .i64 k3] 33)).alloc (.cells #[.int .i64 0, .int .i64 0] 72) = w1 at *
  obtain ⟨o, ho⟩ : ∃ o, o = w.heap.size + 1 := ⟨_, rfl⟩
  rw [← ho] at T2 ⊢
  have hwo : w.heap.size ≤ o := by omega
  clear ho
  obtain ⟨⟨q0, q1, q2⟩, _⟩ := Bx.b3 T1.out
  have hmv1 : w1.cell? ⟨p, 32, none⟩ = some mv := (BE.out.cell (p := ⟨p, 32, none⟩) hp).trans hmv
  go_upto_region 3 with fail
  have hsz := Bx.lt T2
  have LK1 := LK.out w1.drew BE.out.drew
  have LK2 := LK.out (w1.alloc (.cells #[.int .i64 0, .int .i64 0] 72)).drew ((BE.out.alloc BE.out.size _).drew)
  have AL := at1 w1 (.cells #[.int .i64 0, .int .i64 0] 72)
  have AB := bel1 w1 (.cells #[.int .i64 0, .int .i64 0] 72)
  obtain ⟨⟨q0', q1', q2'⟩, _⟩ := Bx.b3 ((AB.block _ (Bx.lt T1.out)).trans T1.out)
  have hmv2 := (AB.cell (p := ⟨p, 32, none⟩) (by have := BE.out.size; show p < w1.heap.size; omega)).trans hmv1
  obtain ⟨⟨a0, a1⟩, ⟨g0, g1⟩⟩ := Bx.b2 AL
  clear hmv LK T1 AL AB
  cases fd with
  | none =>
    simp only [lookV] at LK1 LK2 ⊢
    have B2 := bel1 w1 (.cells #[.int .i64 0, .int .i64 0] 72)
    obtain ⟨⟨c0, c1⟩, _⟩ := Bx.b2 (at1 w1 (.cells #[.int .i64 0, .int .i64 0] 72))
    have T3 := (B2.block _ hsz).trans T2
    obtain ⟨⟨d0, d1⟩, ⟨e0, e1⟩⟩ := Bx.b2 T3
    have HP := Lib.hid (Bx.b2 (Bx.set2 T3 (.int .i64 0) (.int .i64 0))).1
    have HQ := Lib.hid (((BE.out.trans (B2.mono BE.out.size)).setCell (p := ⟨o, 0, none⟩) hwo (.int .i64 0)).setCell (p := ⟨o, 1, none⟩) hwo (.int .i64 0)).drew
    clear T2 T3 B2 BE hwo hsz
    go_region
    all_goals (
      go_wp2
      obtain ⟨p0, p1⟩ := HP.out
      exact bodyPost_ret (v := .tuple #[.agg #[.int .i64 0, .int .i64 0], .bool false]) (by simp [results, Try.results36, go_sem, p0, p1]) rfl ⟨rfl, HQ.out⟩)
  | some x =>
    obtain ⟨m, i⟩ := x
    simp only [lookV, plV] at LK1 LK2 ⊢
    have B2 := bel1 w1 (.cells #[.int .i64 (m : Int), .int .i64 (i : Int)] 72)
    obtain ⟨⟨c0, c1⟩, _⟩ := Bx.b2 (at1 w1 (.cells #[.int .i64 (m : Int), .int .i64 (i : Int)] 72))
    have T3 := (B2.block _ hsz).trans T2
    obtain ⟨⟨d0, d1⟩, ⟨e0, e1⟩⟩ := Bx.b2 T3
    have HP := Lib.hid (Bx.b2 (Bx.set2 T3 (.int .i64 (m : Int)) (.int .i64 (i : Int)))).1
    have HQ := Lib.hid (((BE.out.trans (B2.mono BE.out.size)).setCell (p := ⟨o, 0, none⟩) hwo (.int .i64 (m : Int))).setCell (p := ⟨o, 1, none⟩) hwo (.int .i64 (i : Int))).drew
    clear T2 T3 B2 BE hwo hsz
    go_region
    all_goals (
      go_wp2
      obtain ⟨p0, p1⟩ := HP.out
      exact bodyPost_ret (v := .tuple #[.agg #[.int .i64 (m : Int), .int .i64 (i : Int)], .bool true]) (by simp [results, Try.results36, go_sem, p0, p1]) rfl ⟨rfl, HQ.out⟩)
end Go.Proofs.Yteohkbepefjjlaa
