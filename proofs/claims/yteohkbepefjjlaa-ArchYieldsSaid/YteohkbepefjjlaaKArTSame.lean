/- The document's SameTables of two rows of the same tables. -/
import Derived.Test.YteohkbepefjjlaaKArRows
import Derived.Test.YteohkbepefjjlaaKPz
namespace Go.Proofs.Yteohkbepefjjlaa
open Go.RowKit Pz Ar
set_option linter.unusedVariables false
set_option linter.unusedSimpArgs false

set_option maxHeartbeats 16000000 in
set_option maxRecDepth 100000 in
theorem tsame_yes {w : World} {A1 A2 : Option Addr} {c1 c2 B1 B2 : Nat} {T : List (Nat × List NK)} (H1 : TabsAt w B1 (.slice A1 T.length c1) T) (H2 : TabsAt w B2 (.slice A2 T.length c2) T) (hl : T.length ≤ 1000000) (hk : ∀ x ∈ T, x.2.length ≤ 1000000) :
    Calls Try.prog 28 #[.slice A1 T.length c1, .slice A2 T.length c2] w fun e w' => e = .returned (.bool true) ∧ Below w.heap.size w w' := by
  have AT : Hid (∀ W, Below w.heap.size w W → ∀ j (hj : j < T.length), ∃ g o g2 o2, A1 = some ⟨g, o, none⟩ ∧ A2 = some ⟨g2, o2, none⟩ ∧ W.cell? ⟨g, o + j * 2, none⟩ = some (.int .i64 (T[j].1 : Int)) ∧ W.cell? ⟨g2, o2 + j * 2, none⟩ = some (.int .i64 (T[j].1 : Int)) ∧ ∃ a c a2 c2, W.cell? ⟨g, o + j * 2 + 1, none⟩ = some (.slice a T[j].2.length c) ∧ W.cell? ⟨g2, o2 + j * 2 + 1, none⟩ = some (.slice a2 T[j].2.length c2) ∧
      Hid (∀ k (hk : k < T[j].2.length), ∃ d e d2 e2, a = some ⟨d, e, none⟩ ∧ a2 = some ⟨d2, e2, none⟩ ∧ (W.cell? ⟨d, e + k * 3, none⟩ = some (.int .i64 T[j].2[k].1) ∧ W.cell? ⟨d, e + k * 3 + 1, none⟩ = some (.int .i64 T[j].2[k].2.1) ∧ W.cell? ⟨d, e + k * 3 + 2, none⟩ = some (.int .i64 T[j].2[k].2.2)) ∧ (W.cell? ⟨d2, e2 + k * 3, none⟩ = some (.int .i64 T[j].2[k].1) ∧ W.cell? ⟨d2, e2 + k * 3 + 1, none⟩ = some (.int .i64 T[j].2[k].2.1) ∧ W.cell? ⟨d2, e2 + k * 3 + 2, none⟩ = some (.int .i64 T[j].2[k].2.2)))) := Lib.hid fun W hW j hj => by
    obtain ⟨g, o, e1, _, k1, a, c, s1, o1⟩ := (H1.below hW).at_ (List.getElem?_eq_getElem hj)
    obtain ⟨g2, o2, e2, _, k2, a2, c2, s2, o2'⟩ := (H2.below hW).at_ (List.getElem?_eq_getElem hj)
    refine ⟨g, o, g2, o2, e1, e2, k1, k2, a, c, a2, c2, s1, s2, Lib.hid fun k hk => ?_⟩
    obtain ⟨d, e, f1, _, x1, _⟩ := owni_at o1 (List.getElem?_eq_getElem hk)
    obtain ⟨d2, e2, f2, _, x2, _⟩ := owni_at o2' (List.getElem?_eq_getElem hk)
    exact ⟨d, e, d2, e2, f1, f2, x1, x2⟩
  have LK : Hid (∀ j (hj : j < T.length), T[j].2.length ≤ 1000000) := Lib.hid fun j hj => hk _ (List.getElem_mem hj)
  clear H1 H2 hk
  have hn : (T.length : Int) ≤ 1000000 := by omega
  have hnn : ((T.length : Int) != (T.length : Int)) = false := by simp
  go_enter Try.func28, Try.ntmps28
  go_wp2
  go_loopw [5] (fun i wr => ∃ j : Nat, j ≤ T.length ∧ i = .int .i64 j ∧ Hid (Below w.heap.size w wr)) (fun i _ => T.length - (intOf i).toNat)
  case atStart => exact ⟨0, Nat.zero_le _, rfl, Lib.hid (Below.refl _ _)⟩
  case round =>
    obtain ⟨j, hj, rfl, HB⟩ := hrel
    by_cases hjn : j < T.length
    · have t1 : (j : Int) < (T.length : Int) := by omega
      obtain ⟨g, o, g2, o2, rfl, rfl, k1, k2, a, c, a2, c2, s1, s2, _⟩ := AT.out wr HB.out j hjn
      have NX : Hid (∀ m, Below w.heap.size w (wr.drewN m)) := Lib.hid fun m => Below.dn' HB.out m
      have l1 := LK.out j hjn
      have nm : ((T[j].1 : Int) != (T[j].1 : Int)) = false := by simp
      have nm2 : ((T[j].2.length : Int) != (T[j].2.length : Int)) = false := by simp
      have d1 : decide ((T[j].1 : Int) = (T[j].1 : Int)) = true := by simp
      have d2 : decide ((T[j].2.length : Int) = (T[j].2.length : Int)) = true := by simp
      obtain ⟨mj, hmj⟩ : ∃ m : Int, m = (T[j].1 : Int) := ⟨_, rfl⟩
      rw [← hmj] at k1 k2 nm d1
      clear hmj
      go_wp2
      go_quiet (fail)
      clear k1 k2 s1 s2 nm nm2 d1 d2 HB
      go_wp2
      go_loopw [6] (fun ix wq => ∃ k : Nat, k ≤ T[j].2.length ∧ ix = .int .i64 k ∧ Hid (Below w.heap.size w wq)) (fun ix _ => T[j].2.length - (intOf ix).toNat)
      case atStart => exact ⟨0, Nat.zero_le _, rfl, Lib.hid (NX.out _)⟩
      case round =>
        obtain ⟨k, hk, rfl, HB⟩ := hrel
        clear NX
        obtain ⟨g', o', g2', o2', eg, eg2, k1, k2, a, c, a2, c2, s1, s2, KS⟩ := AT.out wr HB.out j hjn
        cases eg
        cases eg2
        clear k1 k2
        by_cases hkl : k < T[j].2.length
        · have t3 : (k : Int) < (T[j].2.length : Int) := by omega
          have hk4 : (T[j].2.length : Int) ≤ 1000000 := by omega
          obtain ⟨d, e, d2, e2, rfl, rfl, ⟨y0, y1, y2⟩, ⟨z0, z1, z2⟩⟩ := KS.out k hkl
          have NX : Hid (∀ m, Below w.heap.size w (wr.drewN m)) := Lib.hid fun m => Below.dn' HB.out m
          have EQ : ∀ V : World, (Op.equalIn 10000 33 (.agg #[.int .i64 T[j].2[k].1, .int .i64 T[j].2[k].2.1, .int .i64 T[j].2[k].2.2]) (.agg #[.int .i64 T[j].2[k].1, .int .i64 T[j].2[k].2.1, .int .i64 T[j].2[k].2.2])).run Try.prog V = .ok true V := fun V => by
            have := eq_id 9998 T[j].2[k].1 T[j].2[k].2.1 T[j].2[k].2.2 T[j].2[k].1 T[j].2[k].2.1 T[j].2[k].2.2 V
            simpa using this
          clear KS AT LK HB
          generalize T[j].2[k].1 = q0 at *
          generalize T[j].2[k].2.1 = q1 at *
          generalize T[j].2[k].2.2 = q2 at *
          go_wp2
          go_quiet (fail)
          go_wp2
          go_roundw
          case rel => exact ⟨k + 1, by omega, by go_num, Lib.hid (NX.out _)⟩
          case measure => simp [intOf]; omega
        · have t3 : ¬ (k : Int) < (T[j].2.length : Int) := by omega
          clear KS AT LK
          go_wp2
          go_roundw
          case rel => exact ⟨j + 1, by omega, by go_num, HB⟩
          case measure => simp [intOf]; omega
    · obtain rfl : j = T.length := by omega
      have t1 : ¬ (T.length : Int) < (T.length : Int) := by omega
      clear AT LK
      generalize T.length = n at *
      go_wp2
      go_ret
      exact ⟨rfl, HB.out⟩
end Go.Proofs.Yteohkbepefjjlaa
