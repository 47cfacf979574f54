/- The code's order of names: cmp.Or, Compare. Written by wip/tools/genpc6.py. -/
import Derived.Test.YtookmjdnmmfkfaaPcCode1
import Derived.Test.YtookmjdnmmfkfaaOw
namespace Go.Proofs.Ytookmjdnmmfkfaa
open Go.RowKit Pz
set_option linter.unusedVariables false

set_option maxHeartbeats 8000000 in
/-- the first of three that is not 0 -/
theorem or_any {w : World} {b : Nat} {x y z : Int} (h0 : w.cell? ⟨b, 0, none⟩ = some (.int .i64 x)) (h1 : w.cell? ⟨b, 1, none⟩ = some (.int .i64 y)) (h2 : w.cell? ⟨b, 2, none⟩ = some (.int .i64 z)) :
    Calls Try.prog 38 #[.slice (some ⟨b, 0, none⟩) 3 3] w fun e w' => e = .returned (.int .i64 (orI x y z)) ∧ w = w' := by
  obtain ⟨r, hr⟩ : ∃ r, orI x y z = r := ⟨_, rfl⟩
  have R0 : Hid ((x != 0) = true → r = x) := Lib.hid fun h => by rw [← hr]; unfold orI; rw [if_pos (bne_iff_ne.1 h)]
  have R1 : Hid ((x != 0) = false → (y != 0) = true → r = y) := Lib.hid fun h h2 => by rw [← hr]; unfold orI; rw [if_neg (fun e => by rw [bne_iff_ne.2 e] at h; cases h), if_pos (bne_iff_ne.1 h2)]
  have R2 : Hid ((x != 0) = false → (y != 0) = false → r = z) := Lib.hid fun h h2 => by rw [← hr]; unfold orI; rw [if_neg (fun e => by rw [bne_iff_ne.2 e] at h; cases h), if_neg (fun e => by rw [bne_iff_ne.2 e] at h2; cases h2)]
  have R3 : Hid ((z != 0) = false → z = 0) := Lib.hid fun h => by simpa using h
  rw [hr]
  clear hr
  obtain ⟨tx, htx⟩ : ∃ t, (x != 0) = t := ⟨_, rfl⟩
  obtain ⟨ty, hty⟩ : ∃ t, (y != 0) = t := ⟨_, rfl⟩
  obtain ⟨tz, htz⟩ : ∃ t, (z != 0) = t := ⟨_, rfl⟩
  rw [htx, hty] at R1 R2
  rw [htx] at R0
  rw [htz] at R3
  go_enter Try.func38, Try.ntmps38
  go_wp2
  go_loopw [8] (fun ix wr => wr = w ∧ ((ix = .int .i64 0) ∨ (ix = .int .i64 1 ∧ tx = false) ∨ (ix = .int .i64 2 ∧ tx = false ∧ ty = false) ∨ (ix = .int .i64 3 ∧ tx = false ∧ ty = false ∧ tz = false))) (fun ix _ => 3 - (intOf ix).toNat)
  case atStart => exact ⟨rfl, .inl rfl⟩
  case round =>
    obtain ⟨rfl, rfl | ⟨rfl, rfl⟩ | ⟨rfl, rfl, rfl⟩ | ⟨rfl, rfl, rfl, rfl⟩⟩ := hrel
    · cases tx with
      | true =>
        have e := R0.out rfl
        subst e
        clear R0 R1 R2 R3
        go_wp2
        go_ret
        exact ⟨rfl, rfl⟩
      | false =>
        go_wp2
        go_roundw
        case rel => simp
        case measure => simp [intOf]
    · cases ty with
      | true =>
        have e := R1.out rfl rfl
        subst e
        clear R0 R1 R2 R3
        go_wp2
        go_ret
        exact ⟨rfl, rfl⟩
      | false =>
        go_wp2
        go_roundw
        case rel => simp
        case measure => simp [intOf]
    · cases tz with
      | true =>
        have e := R2.out rfl rfl
        subst e
        clear R0 R1 R2 R3
        go_wp2
        go_ret
        exact ⟨rfl, rfl⟩
      | false =>
        go_wp2
        go_roundw
        case rel => simp
        case measure => simp [intOf]
    · have e := (R2.out rfl rfl).trans (R3.out rfl)
      subst e
      clear R0 R1 R2 R3
      go_wp2
      go_ret
      exact ⟨rfl, rfl⟩
abbrev Trio (x y z : Int) : Og.Ph := Og.Fresh 0 #[.int .i64 x, .int .i64 y, .int .i64 z] 3 3
theorem or_trio {x y z r : Int} (hr : orI x y z = r) {W : World} {v : Value} (h : Trio x y z v W) : Calls Try.prog 38 #[v] W fun e w' => e = .returned (.int .i64 r) ∧ grows.r W w' := by
  obtain ⟨b, rfl, _, _, hb⟩ := h
  obtain ⟨⟨g0, g1, g2⟩, _⟩ := Bx.b3 hb
  subst hr
  exact Og.same (or_any g0 g1 g2)
set_option maxHeartbeats 16000000 in
set_option maxRecDepth 100000 in
theorem compare_any (a1 a2 a3 b1 b2 b3 : Int) (w : World) : Calls Try.prog 24 #[.agg #[.int .i64 a1, .int .i64 a2, .int .i64 a3], .agg #[.int .i64 b1, .int .i64 b2, .int .i64 b3]] w fun e w' => e = .returned (.int .i64 (cmpB (a1, a2, a3) (b1, b2, b3))) ∧ Below w.heap.size w w' := by
  have BE := Lib.hid (bel2 w (.cells #[.int .i64 a1, .int .i64 a2, .int .i64 a3] 23) (.cells #[.int .i64 b1, .int .i64 b2, .int .i64 b3] 23))
  have HA := at2a w (.cells #[.int .i64 a1, .int .i64 a2, .int .i64 a3] 23) (.cells #[.int .i64 b1, .int .i64 b2, .int .i64 b3] 23)
  have HB := at2b w (.cells #[.int .i64 a1, .int .i64 a2, .int .i64 a3] 23) (.cells #[.int .i64 b1, .int .i64 b2, .int .i64 b3] 23)
  have C1 : Hid (∀ W, Calls Try.prog 39 #[.int .i64 a1, .int .i64 b1] W fun e w' => e = .returned (.int .i64 (cmpI a1 b1)) ∧ W = w') := Lib.hid fun W => cmpi_any a1 b1 W
  have C2 : Hid (∀ W, Calls Try.prog 39 #[.int .i64 a2, .int .i64 b2] W fun e w' => e = .returned (.int .i64 (cmpI a2 b2)) ∧ W = w') := Lib.hid fun W => cmpi_any a2 b2 W
  have C3 : Hid (∀ W, Calls Try.prog 39 #[.int .i64 a3, .int .i64 b3] W fun e w' => e = .returned (.int .i64 (cmpI a3 b3)) ∧ W = w') := Lib.hid fun W => cmpi_any a3 b3 W
  unfold cmpB
  simp only
  generalize cmpI a1 b1 = x at *
  generalize cmpI a2 b2 = y at *
  generalize cmpI a3 b3 = z at *
  obtain ⟨r, hr⟩ : ∃ r, orI x y z = r := ⟨_, rfl⟩
  rw [hr]
  go_enter Try.func24, Try.ntmps24
  go_upto_region 1 with fail
  generalize (w.alloc (.cells #[.int .i64 a1, .int .i64 a2, .int .i64 a3] 23)).alloc (.cells #[.int .i64 b1, .int .i64 b2, .int .i64 b3] 23) = w1 at *
  have PA : ∀ p : Lat grows w1, p.W.cell? ⟨w.heap.size, 0, none⟩ = some (.int .i64 a1) ∧ p.W.cell? ⟨w.heap.size, 1, none⟩ = some (.int .i64 a2) ∧ p.W.cell? ⟨w.heap.size, 2, none⟩ = some (.int .i64 a3) := fun p => (Bx.b3 ((Below.block p.h _ (Bx.lt HA)).trans HA)).1
  have PB : ∀ p : Lat grows w1, p.W.cell? ⟨w.heap.size + 1, 0, none⟩ = some (.int .i64 b1) ∧ p.W.cell? ⟨w.heap.size + 1, 1, none⟩ = some (.int .i64 b2) ∧ p.W.cell? ⟨w.heap.size + 1, 2, none⟩ = some (.int .i64 b3) := fun p => (Bx.b3 ((Below.block p.h _ (Bx.lt HB)).trans HB)).1
  have k0 := fun p => (PA p).1
  have k1 := fun p => (PA p).2.1
  have k2 := fun p => (PA p).2.2
  have m0 := fun p => (PB p).1
  have m1 := fun p => (PB p).2.1
  have m2 := fun p => (PB p).2.2
  clear PA PB HA HB
  replace hr := Lib.hid hr
  refine Og.grow 18 (by kernel_rfl) (by kernel_rfl) fun hc hf => ?_
  clear hc hf
  simp only [List.take_succ_cons, List.take_zero, List.drop_succ_cons, List.drop_zero]
  iterate 4 (refine Og.det [] rfl (fun J hJ => ?_); go_simp; refine hJ _ _ ?_; clear hJ J)
  refine Og.det [] rfl (fun J hJ => ?_)
  go_simp
  with_reducible refine ⟨_, fun p => Og.same (C1.out p.W), hJ _ _ ?_⟩
  clear hJ J
  iterate 4 (refine Og.det [] rfl (fun J hJ => ?_); go_simp; refine hJ _ _ ?_; clear hJ J)
  refine Og.det [] rfl (fun J hJ => ?_)
  go_simp
  with_reducible refine ⟨_, fun p => Og.same (C2.out p.W), hJ _ _ ?_⟩
  clear hJ J
  iterate 4 (refine Og.det [] rfl (fun J hJ => ?_); go_simp; refine hJ _ _ ?_; clear hJ J)
  refine Og.det [] rfl (fun J hJ => ?_)
  go_simp
  with_reducible refine ⟨_, fun p => Og.same (C3.out p.W), hJ _ _ ?_⟩
  clear hJ J
  refine Og.such 20 (Trio x y z) [] rfl (Og.Fresh.lasts _ _ _ _) (Og.Fresh.noBool _ _ _ _) (fun J hJ => ?_)
  go_simp
  refine ⟨fun p => Og.Fresh.new p.W 0 (Nat.zero_le _) _ _ _, hJ _ _ ?_⟩
  clear hJ J
  refine Og.det [(20, Trio x y z)] rfl (fun J hJ => ?_)
  go_simp
  refine ⟨_, fun p v hv => or_trio hr.out hv, hJ _ _ ?_⟩
  clear hJ J
  refine Og.det [] rfl (fun J hJ => ?_); go_simp; refine hJ _ _ ?_; clear hJ J
  refine Og.fin fun W hW => ?_
  simp only [Og.opened_cons, Og.opened_nil]
  intro v20 hv20
  clear hv20
  have FIN := BE.out.trans (hW.mono BE.out.size)
  go_wp2
  go_ret
  exact ⟨rfl, FIN⟩
end Go.Proofs.Ytookmjdnmmfkfaa
