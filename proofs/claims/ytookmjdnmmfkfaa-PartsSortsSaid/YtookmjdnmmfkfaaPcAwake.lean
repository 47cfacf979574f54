/- The chapter's examples, as the laws ask them. Written by wip/tools/genlawp.py. -/
import Derived.Test.YtookmjdnmmfkfaaPcCode4
import Derived.Test.YtookmjdnmmfkfaaPcCode8
namespace Go.Proofs.Ytookmjdnmmfkfaa
open Go.RowKit Pz
set_option linter.unusedVariables false

theorem same_refl (b : Bn) (W : World) : (Op.equalIn 10000 25 b.val b.val).run Try.prog W = .ok true W := by
  have := eq_bundle b.s b.i b.g b.m b.x b.y b.vx b.vy b.h b.p b.l b.s b.i b.g b.m b.x b.y b.vx b.vy b.h b.p b.l W
  simpa using this
set_option maxHeartbeats 16000000 in
set_option maxRecDepth 100000 in
theorem awake_any (w : World) : Calls Try.prog 16 #[] w fun e w' => e = .returned (.bool true) ∧ Below w.heap.size w w' := by
  have C1 : Hid (∀ W, Calls Try.prog 21 #[.agg #[.int .i64 0, .int .i64 0, .int .i64 0, .int .i64 5, .int .i64 1, .int .i64 2, .int .i64 0, .int .i64 0, .int .i64 3, .int .i64 0, .int .i64 0], .int .i64 4] W fun e w' => e = .returned (.agg #[.int .i64 0, .int .i64 0, .int .i64 0, .int .i64 1, .int .i64 1, .int .i64 2, .int .i64 0, .int .i64 0, .int .i64 0, .int .i64 0, .int .i64 0]) ∧ Below W.heap.size W w') := Lib.hid fun W => cwithout_any ⟨0, 0, 0, 5, 1, 2, 0, 0, 3, 0, 0⟩ 4 W
  have C2 : Hid (∀ W, Calls Try.prog 19 #[.agg #[.int .i64 0, .int .i64 0, .int .i64 0, .int .i64 1, .int .i64 1, .int .i64 0, .int .i64 0, .int .i64 0, .int .i64 0, .int .i64 0, .int .i64 0], .agg #[.int .i64 0, .int .i64 0, .int .i64 0, .int .i64 4, .int .i64 0, .int .i64 0, .int .i64 0, .int .i64 0, .int .i64 9, .int .i64 0, .int .i64 0]] W fun e w' => e = .returned (.agg #[.int .i64 0, .int .i64 0, .int .i64 0, .int .i64 5, .int .i64 1, .int .i64 0, .int .i64 0, .int .i64 0, .int .i64 9, .int .i64 0, .int .i64 0]) ∧ Below W.heap.size W w') := Lib.hid fun W => cwith_any ⟨0, 0, 0, 1, 1, 0, 0, 0, 0, 0, 0⟩ ⟨0, 0, 0, 4, 0, 0, 0, 0, 9, 0, 0⟩ W
  have C3 : Hid (∀ W, Calls Try.prog 11 #[.agg #[.int .i64 0, .int .i64 0, .int .i64 0, .int .i64 5, .int .i64 1, .int .i64 0, .int .i64 0, .int .i64 0, .int .i64 9, .int .i64 0, .int .i64 0]] W fun e w' => e = .returned (.int .i64 0) ∧ Below W.heap.size W w') := Lib.hid fun W => check_any ⟨0, 0, 0, 5, 1, 0, 0, 0, 9, 0, 0⟩ W
  have C4 : Hid (∀ W, Calls Try.prog 11 #[.agg #[.int .i64 0, .int .i64 0, .int .i64 0, .int .i64 4, .int .i64 0, .int .i64 0, .int .i64 0, .int .i64 0, .int .i64 9, .int .i64 0, .int .i64 0]] W fun e w' => e = .returned (.int .i64 1) ∧ Below W.heap.size W w') := Lib.hid fun W => check_any ⟨0, 0, 0, 4, 0, 0, 0, 0, 9, 0, 0⟩ W
  have C5 : Hid (∀ W, Calls Try.prog 11 #[.agg #[.int .i64 0, .int .i64 0, .int .i64 0, .int .i64 1, .int .i64 0, .int .i64 0, .int .i64 0, .int .i64 0, .int .i64 9, .int .i64 0, .int .i64 0]] W fun e w' => e = .returned (.int .i64 1) ∧ Below W.heap.size W w') := Lib.hid fun W => check_any ⟨0, 0, 0, 1, 0, 0, 0, 0, 9, 0, 0⟩ W
  have C6 : Hid (∀ W, Calls Try.prog 17 #[.agg #[.int .i64 2, .int .i64 0, .int .i64 0, .int .i64 0, .int .i64 0, .int .i64 0, .int .i64 0, .int .i64 0, .int .i64 0, .int .i64 0, .int .i64 0, .int .i64 0, .int .i64 0, .int .i64 0, .int .i64 0, .int .i64 0]] W fun e w' => e = .returned (.int .i64 0) ∧ Below W.heap.size W w') := Lib.hid fun W => checkcmd_any ⟨2, 0, 0, 0, ⟨0, 0, 0, 0, 0, 0, 0, 0, 0, 0, 0⟩, 0⟩ W
  have E1 : ∀ W : World, (Op.equalIn 10000 25 (.agg #[.int .i64 0, .int .i64 0, .int .i64 0, .int .i64 1, .int .i64 1, .int .i64 2, .int .i64 0, .int .i64 0, .int .i64 0, .int .i64 0, .int .i64 0]) (.agg #[.int .i64 0, .int .i64 0, .int .i64 0, .int .i64 1, .int .i64 1, .int .i64 2, .int .i64 0, .int .i64 0, .int .i64 0, .int .i64 0, .int .i64 0])).run Try.prog W = .ok true W := fun W => same_refl ⟨0, 0, 0, 1, 1, 2, 0, 0, 0, 0, 0⟩ W
  have E2 : ∀ W : World, (Op.equalIn 10000 25 (.agg #[.int .i64 0, .int .i64 0, .int .i64 0, .int .i64 5, .int .i64 1, .int .i64 0, .int .i64 0, .int .i64 0, .int .i64 9, .int .i64 0, .int .i64 0]) (.agg #[.int .i64 0, .int .i64 0, .int .i64 0, .int .i64 5, .int .i64 1, .int .i64 0, .int .i64 0, .int .i64 0, .int .i64 9, .int .i64 0, .int .i64 0])).run Try.prog W = .ok true W := fun W => same_refl ⟨0, 0, 0, 5, 1, 0, 0, 0, 9, 0, 0⟩ W
  have HB := Lib.hid (Below.refl w.heap.size w)
  go_enter Try.func16, Try.ntmps16
  go_upto_region 2 with (go_at_call 21; with_reducible refine (C1.out _).mono ?_; rintro e w2 ⟨rfl, hb2⟩; replace HB := Lib.hid (HB.out.trans (hb2.mono HB.out.size)); clear hb2)
  have T1 := at1 w2 (.cells #[.int .i64 0, .int .i64 0, .int .i64 0, .int .i64 1, .int .i64 1, .int .i64 2, .int .i64 0, .int .i64 0, .int .i64 0, .int .i64 0, .int .i64 0] 25)
  have B1 := bel1 w2 (.cells #[.int .i64 0, .int .i64 0, .int .i64 0, .int .i64 1, .int .i64 1, .int .i64 2, .int .i64 0, .int .i64 0, .int .i64 0, .int .i64 0, .int .i64 0] 25)
  replace HB := Lib.hid (HB.out.trans (B1.mono HB.out.size))
  generalize hb1 : w2.heap.size = b1 at *
  clear hb1
  generalize w2.alloc (.cells #[.int .i64 0, .int .i64 0, .int .i64 0, .int .i64 1, .int .i64 1, .int .i64 2, .int .i64 0, .int .i64 0, .int .i64 0, .int .i64 0, .int .i64 0] 25) = w3 at *
  have CA : Hid (∀ W, Below w3.heap.size w3 W → (W.cell? ⟨b1, 0, none⟩ = some (.int .i64 0) ∧ W.cell? ⟨b1, 1, none⟩ = some (.int .i64 0) ∧ W.cell? ⟨b1, 2, none⟩ = some (.int .i64 0) ∧ W.cell? ⟨b1, 3, none⟩ = some (.int .i64 1) ∧ W.cell? ⟨b1, 4, none⟩ = some (.int .i64 1) ∧ W.cell? ⟨b1, 5, none⟩ = some (.int .i64 2) ∧ W.cell? ⟨b1, 6, none⟩ = some (.int .i64 0) ∧ W.cell? ⟨b1, 7, none⟩ = some (.int .i64 0) ∧ W.cell? ⟨b1, 8, none⟩ = some (.int .i64 0) ∧ W.cell? ⟨b1, 9, none⟩ = some (.int .i64 0) ∧ W.cell? ⟨b1, 10, none⟩ = some (.int .i64 0))) := Lib.hid fun W hW => (Bx.b11 ((hW.block _ (Bx.lt T1)).trans T1)).1
  clear B1 T1
  have HC := Lib.hid (Below.refl w3.heap.size w3)
  go_upto_region 3 with (go_at_call 19; with_reducible refine (C2.out _).mono ?_; rintro e w4 ⟨rfl, hb2⟩; replace HB := Lib.hid (HB.out.trans (hb2.mono HB.out.size)); replace HC := Lib.hid hb2; clear hb2)
  have T1 := at1 w4 (.cells #[.int .i64 0, .int .i64 0, .int .i64 0, .int .i64 5, .int .i64 1, .int .i64 0, .int .i64 0, .int .i64 0, .int .i64 9, .int .i64 0, .int .i64 0] 25)
  have B1 := bel1 w4 (.cells #[.int .i64 0, .int .i64 0, .int .i64 0, .int .i64 5, .int .i64 1, .int .i64 0, .int .i64 0, .int .i64 0, .int .i64 9, .int .i64 0, .int .i64 0] 25)
  replace HB := Lib.hid (HB.out.trans (B1.mono HB.out.size))
  replace HC := Lib.hid (HC.out.trans (B1.mono HC.out.size))
  generalize hb1 : w4.heap.size = b2 at *
  clear hb1
  generalize w4.alloc (.cells #[.int .i64 0, .int .i64 0, .int .i64 0, .int .i64 5, .int .i64 1, .int .i64 0, .int .i64 0, .int .i64 0, .int .i64 9, .int .i64 0, .int .i64 0] 25) = w5 at *
  have CB : Hid (∀ W, Below w5.heap.size w5 W → (W.cell? ⟨b1, 0, none⟩ = some (.int .i64 0) ∧ W.cell? ⟨b1, 1, none⟩ = some (.int .i64 0) ∧ W.cell? ⟨b1, 2, none⟩ = some (.int .i64 0) ∧ W.cell? ⟨b1, 3, none⟩ = some (.int .i64 1) ∧ W.cell? ⟨b1, 4, none⟩ = some (.int .i64 1) ∧ W.cell? ⟨b1, 5, none⟩ = some (.int .i64 2) ∧ W.cell? ⟨b1, 6, none⟩ = some (.int .i64 0) ∧ W.cell? ⟨b1, 7, none⟩ = some (.int .i64 0) ∧ W.cell? ⟨b1, 8, none⟩ = some (.int .i64 0) ∧ W.cell? ⟨b1, 9, none⟩ = some (.int .i64 0) ∧ W.cell? ⟨b1, 10, none⟩ = some (.int .i64 0)) ∧ (W.cell? ⟨b2, 0, none⟩ = some (.int .i64 0) ∧ W.cell? ⟨b2, 1, none⟩ = some (.int .i64 0) ∧ W.cell? ⟨b2, 2, none⟩ = some (.int .i64 0) ∧ W.cell? ⟨b2, 3, none⟩ = some (.int .i64 5) ∧ W.cell? ⟨b2, 4, none⟩ = some (.int .i64 1) ∧ W.cell? ⟨b2, 5, none⟩ = some (.int .i64 0) ∧ W.cell? ⟨b2, 6, none⟩ = some (.int .i64 0) ∧ W.cell? ⟨b2, 7, none⟩ = some (.int .i64 0) ∧ W.cell? ⟨b2, 8, none⟩ = some (.int .i64 9) ∧ W.cell? ⟨b2, 9, none⟩ = some (.int .i64 0) ∧ W.cell? ⟨b2, 10, none⟩ = some (.int .i64 0))) := Lib.hid fun W hW => ⟨CA.out W (HC.out.trans (hW.mono HC.out.size)), (Bx.b11 ((hW.block _ (Bx.lt T1)).trans T1)).1⟩
  clear B1 T1 CA HC
  have HC := Lib.hid (Below.refl w5.heap.size w5)
  obtain ⟨⟨k0, k1, k2, k3, k4, k5, k6, k7, k8, k9, k10⟩, ⟨m0, m1, m2, m3, m4, m5, m6, m7, m8, m9, m10⟩⟩ := CB.out w5 HC.out
  go_wp2_with (first
    | (go_at_call 17; with_reducible refine (C6.out _).mono ?_; rintro e w6 ⟨rfl, hb2⟩; clear k0 k1 k2 k3 k4 k5 k6 k7 k8 k9 k10 m0 m1 m2 m3 m4 m5 m6 m7 m8 m9 m10; replace HB := Lib.hid (HB.out.trans (hb2.mono HB.out.size)); replace HC := Lib.hid (HC.out.trans (hb2.mono HC.out.size)); clear hb2; obtain ⟨⟨k0, k1, k2, k3, k4, k5, k6, k7, k8, k9, k10⟩, ⟨m0, m1, m2, m3, m4, m5, m6, m7, m8, m9, m10⟩⟩ := CB.out w6 HC.out)
    | (go_at_call 11; with_reducible refine (C3.out _).mono ?_; rintro e w6 ⟨rfl, hb2⟩; clear k0 k1 k2 k3 k4 k5 k6 k7 k8 k9 k10 m0 m1 m2 m3 m4 m5 m6 m7 m8 m9 m10; replace HB := Lib.hid (HB.out.trans (hb2.mono HB.out.size)); replace HC := Lib.hid (HC.out.trans (hb2.mono HC.out.size)); clear hb2; obtain ⟨⟨k0, k1, k2, k3, k4, k5, k6, k7, k8, k9, k10⟩, ⟨m0, m1, m2, m3, m4, m5, m6, m7, m8, m9, m10⟩⟩ := CB.out w6 HC.out)
    | (go_at_call 11; with_reducible refine (C4.out _).mono ?_; rintro e w6 ⟨rfl, hb2⟩; clear k0 k1 k2 k3 k4 k5 k6 k7 k8 k9 k10 m0 m1 m2 m3 m4 m5 m6 m7 m8 m9 m10; replace HB := Lib.hid (HB.out.trans (hb2.mono HB.out.size)); replace HC := Lib.hid (HC.out.trans (hb2.mono HC.out.size)); clear hb2; obtain ⟨⟨k0, k1, k2, k3, k4, k5, k6, k7, k8, k9, k10⟩, ⟨m0, m1, m2, m3, m4, m5, m6, m7, m8, m9, m10⟩⟩ := CB.out w6 HC.out)
    | (go_at_call 11; with_reducible refine (C5.out _).mono ?_; rintro e w6 ⟨rfl, hb2⟩; clear k0 k1 k2 k3 k4 k5 k6 k7 k8 k9 k10 m0 m1 m2 m3 m4 m5 m6 m7 m8 m9 m10; replace HB := Lib.hid (HB.out.trans (hb2.mono HB.out.size)); replace HC := Lib.hid (HC.out.trans (hb2.mono HC.out.size)); clear hb2; obtain ⟨⟨k0, k1, k2, k3, k4, k5, k6, k7, k8, k9, k10⟩, ⟨m0, m1, m2, m3, m4, m5, m6, m7, m8, m9, m10⟩⟩ := CB.out w6 HC.out))
  go_ret
  exact ⟨rfl, HB.out⟩
end Go.Proofs.Ytookmjdnmmfkfaa
