/- CdSame, CdSame2, in one text. -/
import Derived.Test.YtdhlebmgeiiejaaGreatKPz
import Derived.Test.YtdhlebmgeiiejaaGreatKCdFits
namespace Go.Proofs.YtdhlebmgeiiejaaGreat
open Go.RowKit Pz Cd
set_option linter.unusedVariables false

set_option maxRecDepth 100000 in
set_option maxHeartbeats 4000000 in
theorem eq_bundle9  (p0 p1 p2 p3 p4 p5 p6 p7 p8 p9 p10 q0 q1 q2 q3 q4 q5 q6 q7 q8 q9 q10 : Int) (w : World) : (Op.equalIn (9998 + 1) 34 (.agg #[.int .i64 p0, .int .i64 p1, .int .i64 p2, .int .i64 p3, .int .i64 p4, .int .i64 p5, .int .i64 p6, .int .i64 p7, .int .i64 p8, .int .i64 p9, .int .i64 p10]) (.agg #[.int .i64 q0, .int .i64 q1, .int .i64 q2, .int .i64 q3, .int .i64 q4, .int .i64 q5, .int .i64 q6, .int .i64 q7, .int .i64 q8, .int .i64 q9, .int .i64 q10])).run Tryz.prog w = .ok (((p0 == q0) && ((p1 == q1) && (p2 == q2))) && ((p3 == q3) && ((p4 == q4) && ((p5 == q5) && ((p6 == q6) && ((p7 == q7) && ((p8 == q8) && ((p9 == q9) && (p10 == q10))))))))) w := by
  have u3 := Tryz.underlying3
  have a3 := Tryz.isAgg3
  have z3 := Tryz.sizeOf3
  have hS : Tryz.prog.underlying 34 = some (.struct (Tryz.prog.fieldsOf 34)) := by kernel_rfl
  have hp : Tryz.prog.stoodInHeld 34 = false := by kernel_rfl
  have E := fun W => eq_id 9996 p0 p1 p2 q0 q1 q2 W
  have u23 := Tryz.underlying29
  have a23 := Tryz.isAgg29
  have z23 := Tryz.sizeOf29
  generalize ((p0 == q0) && ((p1 == q1) && (p2 == q2))) = b at *
  rw [run_equalIn_agg w _ 34 _ _ hS hp]
  simp only [Program.fieldsOf, Tryz.underlying34]
  go_simp
  cases b with
  | false => rfl
  | true => exact (ite_and (ite_and (ite_and (ite_and (ite_and (ite_and (ite_and ite_end)))))))
set_option maxRecDepth 100000 in
set_option maxHeartbeats 4000000 in
theorem same_cmd (p0 p1 p2 p3 p4 p5 p6 p7 p8 p9 p10 p11 p12 p13 p14 p15 : Int) (w : World) : (Op.equalIn (9999 + 1) 38 (.agg #[.int .i64 p0, .int .i64 p1, .int .i64 p2, .int .i64 p3, .int .i64 p4, .int .i64 p5, .int .i64 p6, .int .i64 p7, .int .i64 p8, .int .i64 p9, .int .i64 p10, .int .i64 p11, .int .i64 p12, .int .i64 p13, .int .i64 p14, .int .i64 p15]) (.agg #[.int .i64 p0, .int .i64 p1, .int .i64 p2, .int .i64 p3, .int .i64 p4, .int .i64 p5, .int .i64 p6, .int .i64 p7, .int .i64 p8, .int .i64 p9, .int .i64 p10, .int .i64 p11, .int .i64 p12, .int .i64 p13, .int .i64 p14, .int .i64 p15])).run Tryz.prog w = .ok true w := by
  have E1 : ∀ W, (Op.equalIn (9997 + 2) 29 (.agg #[.int .i64 p1, .int .i64 p2, .int .i64 p3]) (.agg #[.int .i64 p1, .int .i64 p2, .int .i64 p3])).run Tryz.prog W = .ok true W := fun W => by
    have := eq_id 9997 p1 p2 p3 p1 p2 p3 W
    simpa using this
  have E2 : ∀ W, (Op.equalIn (9998 + 1) 34 (.agg #[.int .i64 p4, .int .i64 p5, .int .i64 p6, .int .i64 p7, .int .i64 p8, .int .i64 p9, .int .i64 p10, .int .i64 p11, .int .i64 p12, .int .i64 p13, .int .i64 p14]) (.agg #[.int .i64 p4, .int .i64 p5, .int .i64 p6, .int .i64 p7, .int .i64 p8, .int .i64 p9, .int .i64 p10, .int .i64 p11, .int .i64 p12, .int .i64 p13, .int .i64 p14])).run Tryz.prog W = .ok true W := fun W => by
    have := eq_bundle9 p4 p5 p6 p7 p8 p9 p10 p11 p12 p13 p14 p4 p5 p6 p7 p8 p9 p10 p11 p12 p13 p14 W
    simpa using this
  have u3 := Tryz.underlying3
  have a3 := Tryz.isAgg3
  have z3 := Tryz.sizeOf3
  have u23 := Tryz.underlying29
  have a23 := Tryz.isAgg29
  have z23 := Tryz.sizeOf29
  have u25 := Tryz.underlying34
  have a25 := Tryz.isAgg34
  have z25 := Tryz.sizeOf34
  have hS : Tryz.prog.underlying 38 = some (.struct (Tryz.prog.fieldsOf 38)) := by kernel_rfl
  have hp : Tryz.prog.stoodInHeld 38 = false := by kernel_rfl
  rw [run_equalIn_agg w _ 38 _ _ hS hp]
  simp only [Program.fieldsOf, Tryz.underlying38]
  go_simp
set_option maxHeartbeats 16000000 in
set_option maxRecDepth 100000 in
theorem rsameids_yes {w : World} {A1 A2 : Option Addr} {c1 c2 : Nat} {l : List NKy} (R1 : RdI3 w w.heap.size A1 l) (R2 : RdI3 w w.heap.size A2 l) (hl : l.length ≤ 140737488351232) :
    Calls Tryz.prog 25 #[.slice A1 l.length c1, .slice A2 l.length c2] w fun e w' => e = .returned (.bool true) ∧ Below w.heap.size w w' := by
  have AT : Hid (∀ W, Below w.heap.size w W → ∀ j (hj : j < l.length), ∃ g o g2 o2, A1 = some ⟨g, o, none⟩ ∧ A2 = some ⟨g2, o2, none⟩ ∧ (W.cell? ⟨g, o + j * 3, none⟩ = some (.int .i64 l[j].1) ∧ W.cell? ⟨g, o + j * 3 + 1, none⟩ = some (.int .i64 l[j].2.1) ∧ W.cell? ⟨g, o + j * 3 + 2, none⟩ = some (.int .i64 l[j].2.2)) ∧ (W.cell? ⟨g2, o2 + j * 3, none⟩ = some (.int .i64 l[j].1) ∧ W.cell? ⟨g2, o2 + j * 3 + 1, none⟩ = some (.int .i64 l[j].2.1) ∧ W.cell? ⟨g2, o2 + j * 3 + 2, none⟩ = some (.int .i64 l[j].2.2)) ∧
      ∀ V : World, (Op.equalIn 10000 29 (.agg #[.int .i64 l[j].1, .int .i64 l[j].2.1, .int .i64 l[j].2.2]) (.agg #[.int .i64 l[j].1, .int .i64 l[j].2.1, .int .i64 l[j].2.2])).run Tryz.prog V = .ok true V) := Lib.hid fun W hW j hj => by
    obtain ⟨g, o, e1, _, k1⟩ := (R1.below hW) j _ (List.getElem?_eq_getElem hj)
    obtain ⟨g2, o2, e2, _, k2⟩ := (R2.below hW) j _ (List.getElem?_eq_getElem hj)
    refine ⟨g, o, g2, o2, e1, e2, k1, k2, fun V => ?_⟩
    have := eq_id 9998 l[j].1 l[j].2.1 l[j].2.2 l[j].1 l[j].2.1 l[j].2.2 V
    simpa using this
  clear R1 R2
  have hnn : ((l.length : Int) != (l.length : Int)) = false := by simp
  have hn : (l.length : Int) ≤ 140737488351232 := by omega
  go_enter Tryz.func25, Tryz.ntmps25
  go_wp2
  go_loopw [5] (fun i wr => ∃ j : Nat, j ≤ l.length ∧ i = .int .i64 j ∧ Hid (Below w.heap.size w wr)) (fun i _ => l.length - (intOf i).toNat)
  case atStart => exact ⟨0, Nat.zero_le _, rfl, Lib.hid (Below.refl _ _)⟩
  case round =>
    obtain ⟨j, hj, rfl, HB⟩ := hrel
    by_cases hjn : j < l.length
    · have t1 : (j : Int) < (l.length : Int) := by omega
      obtain ⟨g, o, g2, o2, rfl, rfl, ⟨h0, h1, h2⟩, ⟨m0, m1, m2⟩, EQ⟩ := AT.out wr HB.out j hjn
      have NX : Hid (∀ m, Below w.heap.size w (wr.drewN m)) := Lib.hid fun m => Below.dn' HB.out m
      clear AT HB
      generalize l[j].1 = y0 at *
      generalize l[j].2.1 = y1 at *
      generalize l[j].2.2 = y2 at *
      generalize l.length = n at *
      go_wp2
      go_quiet (fail)
      go_wp2
      go_roundw
      case rel => exact ⟨j + 1, by omega, by go_num, Lib.hid (NX.out _)⟩
      case measure => simp [intOf]; omega
    · obtain rfl : j = l.length := by omega
      have t1 : ¬ (l.length : Int) < (l.length : Int) := by omega
      clear AT
      generalize l.length = n at *
      go_wp2
      go_ret
      exact ⟨rfl, HB.out⟩
set_option maxHeartbeats 16000000 in
set_option maxRecDepth 100000 in
theorem rsamecmds_yes {w : World} {A1 A2 : Option Addr} {c1 c2 : Nat} {l : List Cn} (R1 : RdC w w.heap.size A1 l) (R2 : RdC w w.heap.size A2 l) (hl : l.length ≤ 140737488351232) :
    Calls Tryz.prog 22 #[.slice A1 l.length c1, .slice A2 l.length c2] w fun e w' => e = .returned (.bool true) ∧ Below w.heap.size w w' := by
  have AT : Hid (∀ W, Below w.heap.size w W → ∀ j (hj : j < l.length), ∃ g o g2 o2, A1 = some ⟨g, o, none⟩ ∧ A2 = some ⟨g2, o2, none⟩ ∧ (W.cell? ⟨g, o + j * 16, none⟩ = some (.int .i64 l[j].k) ∧ W.cell? ⟨g, o + j * 16 + 1, none⟩ = some (.int .i64 l[j].s) ∧ W.cell? ⟨g, o + j * 16 + 2, none⟩ = some (.int .i64 l[j].i) ∧ W.cell? ⟨g, o + j * 16 + 3, none⟩ = some (.int .i64 l[j].g) ∧ W.cell? ⟨g, o + j * 16 + 4, none⟩ = some (.int .i64 l[j].b.s) ∧ W.cell? ⟨g, o + j * 16 + 5, none⟩ = some (.int .i64 l[j].b.i) ∧ W.cell? ⟨g, o + j * 16 + 6, none⟩ = some (.int .i64 l[j].b.g) ∧ W.cell? ⟨g, o + j * 16 + 7, none⟩ = some (.int .i64 l[j].b.m) ∧ W.cell? ⟨g, o + j * 16 + 8, none⟩ = some (.int .i64 l[j].b.x) ∧ W.cell? ⟨g, o + j * 16 + 9, none⟩ = some (.int .i64 l[j].b.y) ∧ W.cell? ⟨g, o + j * 16 + 10, none⟩ = some (.int .i64 l[j].b.vx) ∧ W.cell? ⟨g, o + j * 16 + 11, none⟩ = some (.int .i64 l[j].b.vy) ∧ W.cell? ⟨g, o + j * 16 + 12, none⟩ = some (.int .i64 l[j].b.h) ∧ W.cell? ⟨g, o + j * 16 + 13, none⟩ = some (.int .i64 l[j].b.p) ∧ W.cell? ⟨g, o + j * 16 + 14, none⟩ = some (.int .i64 l[j].b.l) ∧ W.cell? ⟨g, o + j * 16 + 15, none⟩ = some (.int .i64 l[j].m)) ∧ (W.cell? ⟨g2, o2 + j * 16, none⟩ = some (.int .i64 l[j].k) ∧ W.cell? ⟨g2, o2 + j * 16 + 1, none⟩ = some (.int .i64 l[j].s) ∧ W.cell? ⟨g2, o2 + j * 16 + 2, none⟩ = some (.int .i64 l[j].i) ∧ W.cell? ⟨g2, o2 + j * 16 + 3, none⟩ = some (.int .i64 l[j].g) ∧ W.cell? ⟨g2, o2 + j * 16 + 4, none⟩ = some (.int .i64 l[j].b.s) ∧ W.cell? ⟨g2, o2 + j * 16 + 5, none⟩ = some (.int .i64 l[j].b.i) ∧ W.cell? ⟨g2, o2 + j * 16 + 6, none⟩ = some (.int .i64 l[j].b.g) ∧ W.cell? ⟨g2, o2 + j * 16 + 7, none⟩ = some (.int .i64 l[j].b.m) ∧ W.cell? ⟨g2, o2 + j * 16 + 8, none⟩ = some (.int .i64 l[j].b.x) ∧ W.cell? ⟨g2, o2 + j * 16 + 9, none⟩ = some (.int .i64 l[j].b.y) ∧ W.cell? ⟨g2, o2 + j * 16 + 10, none⟩ = some (.int .i64 l[j].b.vx) ∧ W.cell? ⟨g2, o2 + j * 16 + 11, none⟩ = some (.int .i64 l[j].b.vy) ∧ W.cell? ⟨g2, o2 + j * 16 + 12, none⟩ = some (.int .i64 l[j].b.h) ∧ W.cell? ⟨g2, o2 + j * 16 + 13, none⟩ = some (.int .i64 l[j].b.p) ∧ W.cell? ⟨g2, o2 + j * 16 + 14, none⟩ = some (.int .i64 l[j].b.l) ∧ W.cell? ⟨g2, o2 + j * 16 + 15, none⟩ = some (.int .i64 l[j].m)) ∧
      ∀ V : World, (Op.equalIn 10000 38 (.agg #[.int .i64 l[j].k, .int .i64 l[j].s, .int .i64 l[j].i, .int .i64 l[j].g, .int .i64 l[j].b.s, .int .i64 l[j].b.i, .int .i64 l[j].b.g, .int .i64 l[j].b.m, .int .i64 l[j].b.x, .int .i64 l[j].b.y, .int .i64 l[j].b.vx, .int .i64 l[j].b.vy, .int .i64 l[j].b.h, .int .i64 l[j].b.p, .int .i64 l[j].b.l, .int .i64 l[j].m]) (.agg #[.int .i64 l[j].k, .int .i64 l[j].s, .int .i64 l[j].i, .int .i64 l[j].g, .int .i64 l[j].b.s, .int .i64 l[j].b.i, .int .i64 l[j].b.g, .int .i64 l[j].b.m, .int .i64 l[j].b.x, .int .i64 l[j].b.y, .int .i64 l[j].b.vx, .int .i64 l[j].b.vy, .int .i64 l[j].b.h, .int .i64 l[j].b.p, .int .i64 l[j].b.l, .int .i64 l[j].m])).run Tryz.prog V = .ok true V) := Lib.hid fun W hW j hj => by
    obtain ⟨g, o, e1, _, k1⟩ := (R1.below hW) j _ (List.getElem?_eq_getElem hj)
    obtain ⟨g2, o2, e2, _, k2⟩ := (R2.below hW) j _ (List.getElem?_eq_getElem hj)
    refine ⟨g, o, g2, o2, e1, e2, k1, k2, fun V => ?_⟩
    exact same_cmd l[j].k l[j].s l[j].i l[j].g l[j].b.s l[j].b.i l[j].b.g l[j].b.m l[j].b.x l[j].b.y l[j].b.vx l[j].b.vy l[j].b.h l[j].b.p l[j].b.l l[j].m V
  clear R1 R2
  have hnn : ((l.length : Int) != (l.length : Int)) = false := by simp
  have hn : (l.length : Int) ≤ 140737488351232 := by omega
  go_enter Tryz.func22, Tryz.ntmps22
  go_wp2
  go_loopw [5] (fun i wr => ∃ j : Nat, j ≤ l.length ∧ i = .int .i64 j ∧ Hid (Below w.heap.size w wr)) (fun i _ => l.length - (intOf i).toNat)
  case atStart => exact ⟨0, Nat.zero_le _, rfl, Lib.hid (Below.refl _ _)⟩
  case round =>
    obtain ⟨j, hj, rfl, HB⟩ := hrel
    by_cases hjn : j < l.length
    · have t1 : (j : Int) < (l.length : Int) := by omega
      obtain ⟨g, o, g2, o2, rfl, rfl, ⟨h0, h1, h2, h3, h4, h5, h6, h7, h8, h9, h10, h11, h12, h13, h14, h15⟩, ⟨m0, m1, m2, m3, m4, m5, m6, m7, m8, m9, m10, m11, m12, m13, m14, m15⟩, EQ⟩ := AT.out wr HB.out j hjn
      have NX : Hid (∀ m, Below w.heap.size w (wr.drewN m)) := Lib.hid fun m => Below.dn' HB.out m
      clear AT HB
      generalize l[j].k = y0 at *
      generalize l[j].s = y1 at *
      generalize l[j].i = y2 at *
      generalize l[j].g = y3 at *
      generalize l[j].b.s = y4 at *
      generalize l[j].b.i = y5 at *
      generalize l[j].b.g = y6 at *
      generalize l[j].b.m = y7 at *
      generalize l[j].b.x = y8 at *
      generalize l[j].b.y = y9 at *
      generalize l[j].b.vx = y10 at *
      generalize l[j].b.vy = y11 at *
      generalize l[j].b.h = y12 at *
      generalize l[j].b.p = y13 at *
      generalize l[j].b.l = y14 at *
      generalize l[j].m = y15 at *
      generalize l.length = n at *
      go_wp2
      go_quiet (fail)
      go_wp2
      go_roundw
      case rel => exact ⟨j + 1, by omega, by go_num, Lib.hid (NX.out _)⟩
      case measure => simp [intOf]; omega
    · obtain rfl : j = l.length := by omega
      have t1 : ¬ (l.length : Int) < (l.length : Int) := by omega
      clear AT
      generalize l.length = n at *
      go_wp2
      go_ret
      exact ⟨rfl, HB.out⟩
end Go.Proofs.YtdhlebmgeiiejaaGreat
namespace Go.Proofs.YtdhlebmgeiiejaaGreat
open Go.RowKit Pz Cd
set_option linter.unusedVariables false

set_option maxHeartbeats 16000000 in
set_option maxRecDepth 100000 in
theorem rsame_msg {m : Mn} {A1 A2 A3 D1 D2 D3 : Option Addr} {c1 c2 c3 e1 e2 e3 : Nat} {w : World} (M1 : MsgAt m A1 A2 A3 w) (M2 : MsgAt m D1 D2 D3 w) :
    Calls Tryz.prog 34 #[msgV m A1 c1 A2 c2 A3 c3, msgV m D1 e1 D2 e2 D3 e3] w fun e w' => e = .returned (.bool true) ∧ Below w.heap.size w w' := by
  have S1 : Hid (∀ W, Below w.heap.size w W → Calls Tryz.prog 22 #[.slice A1 m.c.length c1, .slice D1 m.c.length e1] W fun e w' => e = .returned (.bool true) ∧ Below W.heap.size W w') := Lib.hid fun W hW => rsamecmds_yes (M1.below hW).c (M2.below hW).c M1.lc
  have S2 : Hid (∀ W, Below w.heap.size w W → Calls Tryz.prog 19 #[.slice A2 m.b.length c2, .slice D2 m.b.length e2] W fun e w' => e = .returned (.bool true) ∧ Below W.heap.size W w') := Lib.hid fun W hW => rsame_yes (M1.below hW).b (M2.below hW).b M1.lb
  have S3 : Hid (∀ W, Below w.heap.size w W → Calls Tryz.prog 25 #[.slice A3 m.i.length c3, .slice D3 m.i.length e3] W fun e w' => e = .returned (.bool true) ∧ Below W.heap.size W w') := Lib.hid fun W hW => rsameids_yes (M1.below hW).i (M2.below hW).i M1.li
  clear M1 M2
  obtain ⟨k, t, n, lc, lb, li⟩ := m
  simp only [msgV] at *
  generalize lc.length = l1 at *
  generalize lb.length = l2 at *
  generalize li.length = l3 at *
  have T1 := Lib.hid (at2a w (.cells #[.int .i64 k, .int .i64 t, .int .i64 n, .slice A1 l1 c1, .slice A2 l2 c2, .slice A3 l3 c3] MT) (.cells #[.int .i64 k, .int .i64 t, .int .i64 n, .slice D1 l1 e1, .slice D2 l2 e2, .slice D3 l3 e3] MT))
  have T2 := Lib.hid (at2b w (.cells #[.int .i64 k, .int .i64 t, .int .i64 n, .slice A1 l1 c1, .slice A2 l2 c2, .slice A3 l3 c3] MT) (.cells #[.int .i64 k, .int .i64 t, .int .i64 n, .slice D1 l1 e1, .slice D2 l2 e2, .slice D3 l3 e3] MT))
  have HB := Lib.hid (bel2 w (.cells #[.int .i64 k, .int .i64 t, .int .i64 n, .slice A1 l1 c1, .slice A2 l2 c2, .slice A3 l3 c3] MT) (.cells #[.int .i64 k, .int .i64 t, .int .i64 n, .slice D1 l1 e1, .slice D2 l2 e2, .slice D3 l3 e3] MT))
  go_enter Tryz.func34, Tryz.ntmps34
  go_upto_region 1 with fail
  generalize (w.alloc (.cells #[.int .i64 k, .int .i64 t, .int .i64 n, .slice A1 l1 c1, .slice A2 l2 c2, .slice A3 l3 c3] MT)).alloc (.cells #[.int .i64 k, .int .i64 t, .int .i64 n, .slice D1 l1 e1, .slice D2 l2 e2, .slice D3 l3 e3] MT) = w1 at *
  obtain ⟨⟨k0, k1, k2, k3, k4, k5⟩, _⟩ := Bx.b6 T1.out
  obtain ⟨⟨n0, n1, n2, n3, n4, n5⟩, _⟩ := Bx.b6 T2.out
  go_wp2_with fail
  refine (S1.out w1 HB.out).mono ?_
  rintro e w2 ⟨rfl, hb⟩
  replace T1 := Lib.hid ((hb.block _ (lt_of_row T1.out)).trans T1.out)
  replace T2 := Lib.hid ((hb.block _ (lt_of_row T2.out)).trans T2.out)
  replace HB := Lib.hid (HB.out.trans (hb.mono HB.out.size))
  clear hb S1 k0 k1 k2 k3 k4 k5 n0 n1 n2 n3 n4 n5
  obtain ⟨⟨k0, k1, k2, k3, k4, k5⟩, _⟩ := Bx.b6 T1.out
  obtain ⟨⟨n0, n1, n2, n3, n4, n5⟩, _⟩ := Bx.b6 T2.out
  go_wp2_with fail
  refine (S2.out w2 HB.out).mono ?_
  rintro e w3 ⟨rfl, hb⟩
  replace T1 := Lib.hid ((hb.block _ (lt_of_row T1.out)).trans T1.out)
  replace T2 := Lib.hid ((hb.block _ (lt_of_row T2.out)).trans T2.out)
  replace HB := Lib.hid (HB.out.trans (hb.mono HB.out.size))
  clear hb S2 k0 k1 k2 k3 k4 k5 n0 n1 n2 n3 n4 n5
  obtain ⟨⟨k0, k1, k2, k3, k4, k5⟩, _⟩ := Bx.b6 T1.out
  obtain ⟨⟨n0, n1, n2, n3, n4, n5⟩, _⟩ := Bx.b6 T2.out
  go_wp2_with fail
  refine (S3.out w3 HB.out).mono ?_
  rintro e w4 ⟨rfl, hb⟩
  replace T1 := Lib.hid ((hb.block _ (lt_of_row T1.out)).trans T1.out)
  replace T2 := Lib.hid ((hb.block _ (lt_of_row T2.out)).trans T2.out)
  replace HB := Lib.hid (HB.out.trans (hb.mono HB.out.size))
  clear hb S3 k0 k1 k2 k3 k4 k5 n0 n1 n2 n3 n4 n5
  obtain ⟨⟨k0, k1, k2, k3, k4, k5⟩, _⟩ := Bx.b6 T1.out
  obtain ⟨⟨n0, n1, n2, n3, n4, n5⟩, _⟩ := Bx.b6 T2.out
  go_wp2
  go_ret
  exact ⟨rfl, HB.out⟩
end Go.Proofs.YtdhlebmgeiiejaaGreat
