/- The code: Move of no map; chapter 14's examples. Written by wip/tools/gensy.py. -/
import Derived.Test.YtfmbldjaknjgbaaKScB
import Derived.Test.YtfmbldjaknjgbaaKScO
import Derived.Test.YtfmbldjaknjgbaaKScH
import Derived.Test.YtfmbldjaknjgbaaKScM
import Derived.Test.YtfmbldjaknjgbaaKSyB
namespace Go.Proofs.Ytfmbldjaknjgbaa
open Go.RowKit Pz Sp
set_option linter.unusedVariables false
set_option linter.unusedSimpArgs false

set_option maxHeartbeats 4000000 in
set_option maxRecDepth 100000 in
theorem cmove_nil (qs qi qg qm qx qy qvx qvy qh qp ql : Int) (w : World) : Calls Try.prog 25 #[.pointer none, .agg #[.int .i64 qs, .int .i64 qi, .int .i64 qg, .int .i64 qm, .int .i64 qx, .int .i64 qy, .int .i64 qvx, .int .i64 qvy, .int .i64 qh, .int .i64 qp, .int .i64 ql]] w fun e w' => e = .returned (.agg #[.int .i64 qs, .int .i64 qi, .int .i64 qg, .int .i64 qm, .int .i64 qx, .int .i64 qy, .int .i64 qvx, .int .i64 qvy, .int .i64 qh, .int .i64 qp, .int .i64 ql]) ∧ Below w.heap.size w w' := by
  have H0 : Hid (Sep w [box (w.heap.size + 1) (.cells #[.int .i64 0, .int .i64 0, .int .i64 0, .int .i64 0, .int .i64 0, .int .i64 0, .int .i64 0, .int .i64 0, .int .i64 0, .int .i64 0, .int .i64 0] 34), box w.heap.size (.cells #[.int .i64 qs, .int .i64 qi, .int .i64 qg, .int .i64 qm, .int .i64 qx, .int .i64 qy, .int .i64 qvx, .int .i64 qvy, .int .i64 qh, .int .i64 qp, .int .i64 ql] 34)] ((w.alloc (.cells #[.int .i64 qs, .int .i64 qi, .int .i64 qg, .int .i64 qm, .int .i64 qx, .int .i64 qy, .int .i64 qvx, .int .i64 qvy, .int .i64 qh, .int .i64 qp, .int .i64 ql] 34)).alloc (.cells #[.int .i64 0, .int .i64 0, .int .i64 0, .int .i64 0, .int .i64 0, .int .i64 0, .int .i64 0, .int .i64 0, .int .i64 0, .int .i64 0, .int .i64 0] 34))) := Lib.hid (by
    have := sep_box (sep_box (sep_new w) (.cells #[.int .i64 qs, .int .i64 qi, .int .i64 qg, .int .i64 qm, .int .i64 qx, .int .i64 qy, .int .i64 qvx, .int .i64 qvy, .int .i64 qh, .int .i64 qp, .int .i64 ql] 34)) (.cells #[.int .i64 0, .int .i64 0, .int .i64 0, .int .i64 0, .int .i64 0, .int .i64 0, .int .i64 0, .int .i64 0, .int .i64 0, .int .i64 0, .int .i64 0] 34)
    rw [size1] at this
    exact this)
  go_enter Try.func25, Try.ntmps25
  go_upto_region 1 with fail
  generalize (w.alloc (.cells #[.int .i64 qs, .int .i64 qi, .int .i64 qg, .int .i64 qm, .int .i64 qx, .int .i64 qy, .int .i64 qvx, .int .i64 qvy, .int .i64 qh, .int .i64 qp, .int .i64 ql] 34)).alloc (.cells #[.int .i64 0, .int .i64 0, .int .i64 0, .int .i64 0, .int .i64 0, .int .i64 0, .int .i64 0, .int .i64 0, .int .i64 0, .int .i64 0, .int .i64 0] 34) = w0 at *
  obtain ⟨⟨k0, k1, k2, k3, k4, k5, k6, k7, k8, k9, k10⟩, ⟨f0, f1, f2, f3, f4, f5, f6, f7, f8, f9, f10⟩⟩ := Bx.b11 (H0.out.held 1 rfl)
  obtain ⟨_, ⟨z0, z1, z2, z3, z4, z5, z6, z7, z8, z9, z10⟩⟩ := Bx.b11 (H0.out.held 0 rfl)
  have HF := Lib.hid (H0.out.set11 (.int .i64 qs) (.int .i64 qi) (.int .i64 qg) (.int .i64 qm) (.int .i64 qx) (.int .i64 qy) (.int .i64 qvx) (.int .i64 qvy) (.int .i64 qh) (.int .i64 qp) (.int .i64 ql))
  go_wp2
  generalize (((((((((((w0.setCell ⟨w.heap.size + 1, 0, none⟩ (.int .i64 qs)).setCell ⟨w.heap.size + 1, 1, none⟩ (.int .i64 qi)).setCell ⟨w.heap.size + 1, 2, none⟩ (.int .i64 qg)).setCell ⟨w.heap.size + 1, 3, none⟩ (.int .i64 qm)).setCell ⟨w.heap.size + 1, 4, none⟩ (.int .i64 qx)).setCell ⟨w.heap.size + 1, 5, none⟩ (.int .i64 qy)).setCell ⟨w.heap.size + 1, 6, none⟩ (.int .i64 qvx)).setCell ⟨w.heap.size + 1, 7, none⟩ (.int .i64 qvy)).setCell ⟨w.heap.size + 1, 8, none⟩ (.int .i64 qh)).setCell ⟨w.heap.size + 1, 9, none⟩ (.int .i64 qp)).setCell ⟨w.heap.size + 1, 10, none⟩ (.int .i64 ql)) = V at *
  obtain ⟨r0, r1, r2, r3, r4, r5, r6, r7, r8, r9, r10⟩ := (Bx.b11 (HF.out.held 0 rfl)).1
  exact bodyPost_ret (v := .agg #[.int .i64 qs, .int .i64 qi, .int .i64 qg, .int .i64 qm, .int .i64 qx, .int .i64 qy, .int .i64 qvx, .int .i64 qvy, .int .i64 qh, .int .i64 qp, .int .i64 ql]) (by simp [results, Try.results25, go_sem, r0, r1, r2, r3, r4, r5, r6, r7, r8, r9, r10]) rfl ⟨rfl, HF.out.bel⟩
theorem ab0 (V : World) : (Instr.build 34 #[(1, .int .i64 5), (6, .int .i64 3)]).run Try.prog V = .ok (.agg #[.int .i64 0, .int .i64 0, .int .i64 0, .int .i64 5, .int .i64 0, .int .i64 0, .int .i64 0, .int .i64 0, .int .i64 3, .int .i64 0, .int .i64 0]) V := by kernel_rfl
theorem ab1 (V : World) : (Instr.build 32 #[(1, .int .i64 1)]).run Try.prog V = .ok (.agg #[.int .i64 0, .int .i64 1, .int .i64 0]) V := by kernel_rfl
theorem ab2 (V : World) : (Instr.build 34 #[(0, .agg #[.int .i64 0, .int .i64 1, .int .i64 0]), (1, .int .i64 9), (2, .int .i64 2), (7, .int .i64 3)]).run Try.prog V = .ok (.agg #[.int .i64 0, .int .i64 1, .int .i64 0, .int .i64 9, .int .i64 2, .int .i64 0, .int .i64 0, .int .i64 0, .int .i64 0, .int .i64 3, .int .i64 0]) V := by kernel_rfl
theorem ab3 (V : World) : (Instr.build 32 #[(1, .int .i64 2)]).run Try.prog V = .ok (.agg #[.int .i64 0, .int .i64 2, .int .i64 0]) V := by kernel_rfl
theorem ab4 (V : World) : (Instr.build 34 #[(0, .agg #[.int .i64 0, .int .i64 2, .int .i64 0]), (1, .int .i64 9), (2, .int .i64 9), (7, .int .i64 4)]).run Try.prog V = .ok (.agg #[.int .i64 0, .int .i64 2, .int .i64 0, .int .i64 9, .int .i64 9, .int .i64 0, .int .i64 0, .int .i64 0, .int .i64 0, .int .i64 4, .int .i64 0]) V := by kernel_rfl
theorem ab5 (V : World) : (Instr.build 34 #[(1, .int .i64 17), (8, .int .i64 2)]).run Try.prog V = .ok (.agg #[.int .i64 0, .int .i64 0, .int .i64 0, .int .i64 17, .int .i64 0, .int .i64 0, .int .i64 0, .int .i64 0, .int .i64 0, .int .i64 0, .int .i64 2]) V := by kernel_rfl
theorem ab6 (V : World) : (Instr.build 44 #[(0, .int .i64 2), (1, .int .i64 1), (2, .int .i64 256), (4, .int .i64 10), (5, .int .i64 1), (6, .int .i64 1)]).run Try.prog V = .ok (.agg #[.int .i64 2, .int .i64 1, .int .i64 256, .int .i64 0, .int .i64 10, .int .i64 1, .int .i64 1]) V := by kernel_rfl
theorem ab7 (V : World) : (Instr.build 63 #[(1, .int .i64 7)]).run Try.prog V = .ok (.agg #[.int .i64 0, .int .i64 0, .int .i64 0, .int .i64 7]) V := by kernel_rfl
theorem ab8 (V : World) : (Instr.build 34 #[(1, .int .i64 3), (2, .int .i64 500), (4, .int .i64 40)]).run Try.prog V = .ok (.agg #[.int .i64 0, .int .i64 0, .int .i64 0, .int .i64 3, .int .i64 500, .int .i64 0, .int .i64 40, .int .i64 0, .int .i64 0, .int .i64 0, .int .i64 0]) V := by kernel_rfl
theorem ab9 (V : World) : (Instr.field 34 (.agg #[.int .i64 0, .int .i64 0, .int .i64 0, .int .i64 3, .int .i64 510, .int .i64 0, .int .i64 40, .int .i64 0, .int .i64 0, .int .i64 0, .int .i64 0]) 2).run Try.prog V = .ok (.int .i64 510) V := by kernel_rfl
theorem as1 (V : World) : (Instr.buildSlice 22 1 #[(0, .agg #[.int .i64 0, .int .i64 0, .int .i64 0, .int .i64 5, .int .i64 0, .int .i64 0, .int .i64 0, .int .i64 0, .int .i64 3, .int .i64 0, .int .i64 0])]).run Try.prog V = .ok (.slice (some ⟨V.heap.size, 0, none⟩) 1 1) (V.alloc (.cells #[.int .i64 0, .int .i64 0, .int .i64 0, .int .i64 5, .int .i64 0, .int .i64 0, .int .i64 0, .int .i64 0, .int .i64 3, .int .i64 0, .int .i64 0] 34)) := by kernel_rfl
theorem as2 (V : World) : (Instr.buildSlice 22 2 #[(0, .agg #[.int .i64 0, .int .i64 1, .int .i64 0, .int .i64 9, .int .i64 2, .int .i64 0, .int .i64 0, .int .i64 0, .int .i64 0, .int .i64 3, .int .i64 0]), (1, .agg #[.int .i64 0, .int .i64 2, .int .i64 0, .int .i64 9, .int .i64 9, .int .i64 0, .int .i64 0, .int .i64 0, .int .i64 0, .int .i64 4, .int .i64 0])]).run Try.prog V = .ok (.slice (some ⟨V.heap.size, 0, none⟩) 2 2) (V.alloc (.cells #[.int .i64 0, .int .i64 1, .int .i64 0, .int .i64 9, .int .i64 2, .int .i64 0, .int .i64 0, .int .i64 0, .int .i64 0, .int .i64 3, .int .i64 0, .int .i64 0, .int .i64 2, .int .i64 0, .int .i64 9, .int .i64 9, .int .i64 0, .int .i64 0, .int .i64 0, .int .i64 0, .int .i64 4, .int .i64 0] 34)) := by kernel_rfl
theorem aw_hits : Sy.hits 9 [⟨0, 0, 0, 5, 0, 0, 0, 0, 3, 0, 0⟩] [⟨0, 1, 0, 9, 2, 0, 0, 0, 0, 3, 0⟩, ⟨0, 2, 0, 9, 9, 0, 0, 0, 0, 4, 0⟩] = [((0, 0, 0), 7)] := by kernel_rfl
theorem aw_hurt : Sy.hurt ⟨0, 0, 0, 5, 0, 0, 0, 0, 3, 0, 0⟩ 3 = (Sy.bn0, false) := by kernel_rfl
theorem aw_age : Sy.age ⟨0, 0, 0, 17, 0, 0, 0, 0, 0, 0, 2⟩ = (⟨0, 0, 0, 17, 0, 0, 0, 0, 0, 0, 1⟩, true) := by kernel_rfl
theorem aw_move : Sy.move 2 1 256 10 ⟨0, 0, 0, 3, 500, 0, 40, 0, 0, 0, 0⟩ = ⟨0, 0, 0, 3, 510, 0, 40, 0, 0, 0, 0⟩ := by kernel_rfl
theorem aw_ok : Zn.okB 2 1 256 0 10 1 1 = true := by kernel_rfl
theorem rd1_cells {V : World} {q B : Nat} {l : List Bn} (h : V.heap[q]? = some (.cells (l.flatMap bnE).toArray 34 (0, 0))) (hB : q < B) : RdB V B (some ⟨q, 0, none⟩) l := fun j x hx => by
  have key : ∀ c, c < 11 → ∀ u, (bnE x)[c]? = some u → V.cell? ⟨q, 0 + j * 11 + c, none⟩ = some u := fun c hc u hu => by
    have := flat_at bnE_len l j x hx c hc
    rw [hu] at this
    refine (Bx.cell h ?_).1
    rw [List.getElem?_toArray, Nat.zero_add]
    exact this
  exact ⟨q, 0, rfl, hB, key 0 (by decide) _ rfl, key 1 (by decide) _ rfl, key 2 (by decide) _ rfl, key 3 (by decide) _ rfl, key 4 (by decide) _ rfl, key 5 (by decide) _ rfl, key 6 (by decide) _ rfl, key 7 (by decide) _ rfl, key 8 (by decide) _ rfl, key 9 (by decide) _ rfl, key 10 (by decide) _ rfl⟩
set_option maxHeartbeats 4000000 in
set_option maxRecDepth 100000 in
theorem cawake_any (w : World) : Calls Try.prog 16 #[] w fun e w' => e = .returned (.bool true) ∧ Below w.heap.size w w' := by
  have HITS : Hid (∀ V : World, Calls Try.prog 13 #[.int .i64 9, .slice (some ⟨V.heap.size, 0, none⟩) 1 1, .slice (some ⟨V.heap.size + 1, 0, none⟩) 2 2] ((V.alloc (.cells #[.int .i64 0, .int .i64 0, .int .i64 0, .int .i64 5, .int .i64 0, .int .i64 0, .int .i64 0, .int .i64 0, .int .i64 3, .int .i64 0, .int .i64 0] 34)).alloc (.cells #[.int .i64 0, .int .i64 1, .int .i64 0, .int .i64 9, .int .i64 2, .int .i64 0, .int .i64 0, .int .i64 0, .int .i64 0, .int .i64 3, .int .i64 0, .int .i64 0, .int .i64 2, .int .i64 0, .int .i64 9, .int .i64 9, .int .i64 0, .int .i64 0, .int .i64 0, .int .i64 0, .int .i64 4, .int .i64 0] 34)) fun e V' => ∃ g o c, e = .returned (.slice (some ⟨g, o, none⟩) 1 c) ∧ (V'.cell? ⟨g, o, none⟩ = some (.int .i64 0) ∧ V'.cell? ⟨g, o + 1, none⟩ = some (.int .i64 0) ∧ V'.cell? ⟨g, o + 2, none⟩ = some (.int .i64 0) ∧ V'.cell? ⟨g, o + 3, none⟩ = some (.int .i64 7)) ∧ g < V'.heap.size ∧ Below V.heap.size V V') := Lib.hid fun V => by
    have b2 := bel2 V (.cells #[.int .i64 0, .int .i64 0, .int .i64 0, .int .i64 5, .int .i64 0, .int .i64 0, .int .i64 0, .int .i64 0, .int .i64 3, .int .i64 0, .int .i64 0] 34) (.cells #[.int .i64 0, .int .i64 1, .int .i64 0, .int .i64 9, .int .i64 2, .int .i64 0, .int .i64 0, .int .i64 0, .int .i64 0, .int .i64 3, .int .i64 0, .int .i64 0, .int .i64 2, .int .i64 0, .int .i64 9, .int .i64 9, .int .i64 0, .int .i64 0, .int .i64 0, .int .i64 0, .int .i64 4, .int .i64 0] 34)
    have hz : ((V.alloc (.cells #[.int .i64 0, .int .i64 0, .int .i64 0, .int .i64 5, .int .i64 0, .int .i64 0, .int .i64 0, .int .i64 0, .int .i64 3, .int .i64 0, .int .i64 0] 34)).alloc (.cells #[.int .i64 0, .int .i64 1, .int .i64 0, .int .i64 9, .int .i64 2, .int .i64 0, .int .i64 0, .int .i64 0, .int .i64 0, .int .i64 3, .int .i64 0, .int .i64 0, .int .i64 2, .int .i64 0, .int .i64 9, .int .i64 9, .int .i64 0, .int .i64 0, .int .i64 0, .int .i64 0, .int .i64 4, .int .i64 0] 34)).heap.size = V.heap.size + 2 := size2 V _ _
    have r1 : RdB ((V.alloc (.cells #[.int .i64 0, .int .i64 0, .int .i64 0, .int .i64 5, .int .i64 0, .int .i64 0, .int .i64 0, .int .i64 0, .int .i64 3, .int .i64 0, .int .i64 0] 34)).alloc (.cells #[.int .i64 0, .int .i64 1, .int .i64 0, .int .i64 9, .int .i64 2, .int .i64 0, .int .i64 0, .int .i64 0, .int .i64 0, .int .i64 3, .int .i64 0, .int .i64 0, .int .i64 2, .int .i64 0, .int .i64 9, .int .i64 9, .int .i64 0, .int .i64 0, .int .i64 0, .int .i64 0, .int .i64 4, .int .i64 0] 34)) ((V.alloc (.cells #[.int .i64 0, .int .i64 0, .int .i64 0, .int .i64 5, .int .i64 0, .int .i64 0, .int .i64 0, .int .i64 0, .int .i64 3, .int .i64 0, .int .i64 0] 34)).alloc (.cells #[.int .i64 0, .int .i64 1, .int .i64 0, .int .i64 9, .int .i64 2, .int .i64 0, .int .i64 0, .int .i64 0, .int .i64 0, .int .i64 3, .int .i64 0, .int .i64 0, .int .i64 2, .int .i64 0, .int .i64 9, .int .i64 9, .int .i64 0, .int .i64 0, .int .i64 0, .int .i64 0, .int .i64 4, .int .i64 0] 34)).heap.size (some ⟨V.heap.size, 0, none⟩) [⟨0, 0, 0, 5, 0, 0, 0, 0, 3, 0, 0⟩] := rd1_cells (at2a V _ _) (by rw [hz]; omega)
    have r2 : RdB ((V.alloc (.cells #[.int .i64 0, .int .i64 0, .int .i64 0, .int .i64 5, .int .i64 0, .int .i64 0, .int .i64 0, .int .i64 0, .int .i64 3, .int .i64 0, .int .i64 0] 34)).alloc (.cells #[.int .i64 0, .int .i64 1, .int .i64 0, .int .i64 9, .int .i64 2, .int .i64 0, .int .i64 0, .int .i64 0, .int .i64 0, .int .i64 3, .int .i64 0, .int .i64 0, .int .i64 2, .int .i64 0, .int .i64 9, .int .i64 9, .int .i64 0, .int .i64 0, .int .i64 0, .int .i64 0, .int .i64 4, .int .i64 0] 34)) ((V.alloc (.cells #[.int .i64 0, .int .i64 0, .int .i64 0, .int .i64 5, .int .i64 0, .int .i64 0, .int .i64 0, .int .i64 0, .int .i64 3, .int .i64 0, .int .i64 0] 34)).alloc (.cells #[.int .i64 0, .int .i64 1, .int .i64 0, .int .i64 9, .int .i64 2, .int .i64 0, .int .i64 0, .int .i64 0, .int .i64 0, .int .i64 3, .int .i64 0, .int .i64 0, .int .i64 2, .int .i64 0, .int .i64 9, .int .i64 9, .int .i64 0, .int .i64 0, .int .i64 0, .int .i64 0, .int .i64 4, .int .i64 0] 34)).heap.size (some ⟨V.heap.size + 1, 0, none⟩) [⟨0, 1, 0, 9, 2, 0, 0, 0, 0, 3, 0⟩, ⟨0, 2, 0, 9, 9, 0, 0, 0, 0, 4, 0⟩] := rd1_cells (at2b V _ _) (by rw [hz]; omega)
    have C := chits_any (c := 1) (c2 := 2) r1 r2 (by decide) (by decide) 9
    rw [aw_hits] at C
    refine C.mono fun e V' ⟨A', c', e1, e2, e3⟩ => ?_
    obtain ⟨g, o, rfl, hg, k0, k1, k2, k3⟩ := hit_at e2 (j := 0) (x := ((0, 0, 0), 7)) rfl
    rw [Nat.zero_mul, Nat.add_zero] at k0 k1 k2 k3
    exact ⟨g, o, c', e1, ⟨k0, k1, k2, k3⟩, hg, b2.trans (e3.mono (by rw [hz]; omega))⟩
  have NEW := Lib.hid fun W => new_yes 2 1 256 0 10 1 1 W aw_ok
  have HURT : Hid (∀ W, Calls Try.prog 17 #[.agg #[.int .i64 0, .int .i64 0, .int .i64 0, .int .i64 5, .int .i64 0, .int .i64 0, .int .i64 0, .int .i64 0, .int .i64 3, .int .i64 0, .int .i64 0], .int .i64 3] W fun e w' => e = .returned (.tuple #[.agg #[.int .i64 0, .int .i64 0, .int .i64 0, .int .i64 0, .int .i64 0, .int .i64 0, .int .i64 0, .int .i64 0, .int .i64 0, .int .i64 0, .int .i64 0], .bool false]) ∧ Below W.heap.size W w') := Lib.hid fun W => by
    have := churt_any 0 0 0 5 0 0 0 0 3 0 0 3 (by unfold Fit; decide) (by unfold Fit; decide) W
    rw [aw_hurt] at this
    exact this
  have AGE : Hid (∀ W, Calls Try.prog 19 #[.agg #[.int .i64 0, .int .i64 0, .int .i64 0, .int .i64 17, .int .i64 0, .int .i64 0, .int .i64 0, .int .i64 0, .int .i64 0, .int .i64 0, .int .i64 2]] W fun e w' => e = .returned (.tuple #[.agg #[.int .i64 0, .int .i64 0, .int .i64 0, .int .i64 17, .int .i64 0, .int .i64 0, .int .i64 0, .int .i64 0, .int .i64 0, .int .i64 0, .int .i64 1], .bool true]) ∧ Below W.heap.size W w') := Lib.hid fun W => by
    have := cage_any 0 0 0 17 0 0 0 0 0 0 2 (by unfold Fit; decide) W
    rw [aw_age] at this
    exact this
  have OK2 : Zn.Ok 2 1 256 0 10 := by constructor <;> decide
  have MOVE : Hid (∀ W q, MapAt W q 2 1 256 0 10 1 1 → Calls Try.prog 25 #[.pointer (some ⟨q, 0, none⟩), .agg #[.int .i64 0, .int .i64 0, .int .i64 0, .int .i64 3, .int .i64 500, .int .i64 0, .int .i64 40, .int .i64 0, .int .i64 0, .int .i64 0, .int .i64 0]] W fun e w' => e = .returned (.agg #[.int .i64 0, .int .i64 0, .int .i64 0, .int .i64 3, .int .i64 510, .int .i64 0, .int .i64 40, .int .i64 0, .int .i64 0, .int .i64 0, .int .i64 0]) ∧ Below W.heap.size W w') := Lib.hid fun W q h => by
    have := cmove_any 2 1 256 0 10 1 1 h OK2 0 0 0 3 500 0 40 0 0 0 0 (by unfold Fit; decide) (by unfold Fit; decide) (by unfold Fit; decide) (by unfold Fit; decide)
    rw [aw_move] at this
    exact this
  clear OK2
  go_enter Try.func16, Try.ntmps16
  have e0 := ab0
  have e1 := ab1
  have e2 := ab2
  have e3 := ab3
  have e4 := ab4
  have e5 := ab5
  have e6 := ab6
  have e7 := ab7
  have e8 := ab8
  have e9 := ab9
  have s1 := as1
  have s2 := as2
  have HS : Hid (Sep w [box (w.heap.size + 2) (.cells #[.int .i64 0, .int .i64 2, .int .i64 0, .int .i64 9, .int .i64 9, .int .i64 0, .int .i64 0, .int .i64 0, .int .i64 0, .int .i64 4, .int .i64 0] 34), box (w.heap.size + 1) (.cells #[.int .i64 0, .int .i64 1, .int .i64 0, .int .i64 9, .int .i64 2, .int .i64 0, .int .i64 0, .int .i64 0, .int .i64 0, .int .i64 3, .int .i64 0] 34), box w.heap.size (.cells #[.int .i64 0, .int .i64 0, .int .i64 0, .int .i64 5, .int .i64 0, .int .i64 0, .int .i64 0, .int .i64 0, .int .i64 3, .int .i64 0, .int .i64 0] 34)] (((w.alloc (.cells #[.int .i64 0, .int .i64 0, .int .i64 0, .int .i64 5, .int .i64 0, .int .i64 0, .int .i64 0, .int .i64 0, .int .i64 3, .int .i64 0, .int .i64 0] 34)).alloc (.cells #[.int .i64 0, .int .i64 1, .int .i64 0, .int .i64 9, .int .i64 2, .int .i64 0, .int .i64 0, .int .i64 0, .int .i64 0, .int .i64 3, .int .i64 0] 34)).alloc (.cells #[.int .i64 0, .int .i64 2, .int .i64 0, .int .i64 9, .int .i64 9, .int .i64 0, .int .i64 0, .int .i64 0, .int .i64 0, .int .i64 4, .int .i64 0] 34))) := Lib.hid (by
    have := sep_box (sep_box (sep_box (sep_new w) (.cells #[.int .i64 0, .int .i64 0, .int .i64 0, .int .i64 5, .int .i64 0, .int .i64 0, .int .i64 0, .int .i64 0, .int .i64 3, .int .i64 0, .int .i64 0] 34)) (.cells #[.int .i64 0, .int .i64 1, .int .i64 0, .int .i64 9, .int .i64 2, .int .i64 0, .int .i64 0, .int .i64 0, .int .i64 0, .int .i64 3, .int .i64 0] 34)) (.cells #[.int .i64 0, .int .i64 2, .int .i64 0, .int .i64 9, .int .i64 9, .int .i64 0, .int .i64 0, .int .i64 0, .int .i64 0, .int .i64 4, .int .i64 0] 34)
    rw [size2, size1] at this
    exact this)
  go_upto_region 4 with fail
  generalize ((w.alloc (.cells #[.int .i64 0, .int .i64 0, .int .i64 0, .int .i64 5, .int .i64 0, .int .i64 0, .int .i64 0, .int .i64 0, .int .i64 3, .int .i64 0, .int .i64 0] 34)).alloc (.cells #[.int .i64 0, .int .i64 1, .int .i64 0, .int .i64 9, .int .i64 2, .int .i64 0, .int .i64 0, .int .i64 0, .int .i64 0, .int .i64 3, .int .i64 0] 34)).alloc (.cells #[.int .i64 0, .int .i64 2, .int .i64 0, .int .i64 9, .int .i64 9, .int .i64 0, .int .i64 0, .int .i64 0, .int .i64 0, .int .i64 4, .int .i64 0] 34) = w3 at *
  obtain ⟨x0, x1, x2, x3, x4, x5, x6, x7, x8, x9, x10⟩ := (Bx.b11 (HS.out.held 2 rfl)).1
  obtain ⟨y0, y1, y2, y3, y4, y5, y6, y7, y8, y9, y10⟩ := (Bx.b11 (HS.out.held 1 rfl)).1
  obtain ⟨z0, z1, z2, z3, z4, z5, z6, z7, z8, z9, z10⟩ := (Bx.b11 (HS.out.held 0 rfl)).1
  have hz0 : w.heap.size < w3.heap.size := Bx.lt (HS.out.held 2 rfl)
  have hz1 : w.heap.size + 1 < w3.heap.size := Bx.lt (HS.out.held 1 rfl)
  have hz2 : w.heap.size + 2 < w3.heap.size := Bx.lt (HS.out.held 0 rfl)
  have HIT := Lib.hid (HITS.out w3)
  clear HITS e0 e1 e2 e3 e4
  go_upto_region 5 with (go_at_call 13; with_reducible refine HIT.out.mono ?_; rintro e w4 ⟨g, o, c, rfl, ⟨k0, k1, k2, k3⟩, hg, b4⟩; clear HIT x0 y0 z0 x1 y1 z1 x2 y2 z2 x3 y3 z3 x4 y4 z4 x5 y5 z5 x6 y6 z6 x7 y7 z7 x8 y8 z8 x9 y9 z9 x10 y10 z10; have H4 := Lib.hid (HS.out.below b4); clear HS b4)
  clear s1 s2 hz0 hz1 hz2
  have KP : Hid (∀ V, Below w4.heap.size w4 V → V.cell? ⟨g, o, none⟩ = some (.int .i64 0) ∧ V.cell? ⟨g, o + 1, none⟩ = some (.int .i64 0) ∧ V.cell? ⟨g, o + 2, none⟩ = some (.int .i64 0) ∧ V.cell? ⟨g, o + 3, none⟩ = some (.int .i64 7)) := Lib.hid fun V hV => ⟨(hV.cell (p := ⟨g, _, none⟩) hg).trans k0, (hV.cell (p := ⟨g, _, none⟩) hg).trans k1, (hV.cell (p := ⟨g, _, none⟩) hg).trans k2, (hV.cell (p := ⟨g, _, none⟩) hg).trans k3⟩
  clear k0 k1 k2 k3 hg
  go_upto_region 6 with (go_at_call 24; with_reducible refine (NEW.out _).mono ?_; rintro e w5 ⟨q, rfl, _, hq, b5⟩; have HQ := Lib.hid hq; have H5 := Lib.hid (H4.out.below b5); have B5 := Lib.hid b5; clear NEW hq b5 H4)
  clear e6
  obtain ⟨x0, x1, x2, x3, x4, x5, x6, x7, x8, x9, x10⟩ := (Bx.b11 (H5.out.held 2 rfl)).1
  go_upto_region 7 with (go_at_call 17; with_reducible refine (HURT.out _).mono ?_; rintro e w6 ⟨rfl, b6⟩; have HQ6 := Lib.hid (HQ.out.below b6); have H6 := Lib.hid (H5.out.below b6); have B6 := Lib.hid (B5.out.trans (b6.mono B5.out.size)); clear HURT HQ B5 H5 b6 x0 x1 x2 x3 x4 x5 x6 x7 x8 x9 x10)
  have HQ7 := Lib.hid (HQ6.out.below (bel1 w6 (.cells #[.int .i64 0, .int .i64 0, .int .i64 0, .int .i64 0, .int .i64 0, .int .i64 0, .int .i64 0, .int .i64 0, .int .i64 0, .int .i64 0, .int .i64 0] 34)))
  have H7 := Lib.hid (H6.out.below (bel1 w6 (.cells #[.int .i64 0, .int .i64 0, .int .i64 0, .int .i64 0, .int .i64 0, .int .i64 0, .int .i64 0, .int .i64 0, .int .i64 0, .int .i64 0, .int .i64 0] 34)))
  have B7 := Lib.hid (B6.out.trans ((bel1 w6 (.cells #[.int .i64 0, .int .i64 0, .int .i64 0, .int .i64 0, .int .i64 0, .int .i64 0, .int .i64 0, .int .i64 0, .int .i64 0, .int .i64 0, .int .i64 0] 34)).mono B6.out.size))
  clear HQ6 H6 B6
  generalize w6.alloc (.cells #[.int .i64 0, .int .i64 0, .int .i64 0, .int .i64 0, .int .i64 0, .int .i64 0, .int .i64 0, .int .i64 0, .int .i64 0, .int .i64 0, .int .i64 0] 34) = w7 at *
  go_upto_region 8 with (go_at_call 19; with_reducible refine (AGE.out _).mono ?_; rintro e w8 ⟨rfl, b8⟩; have HQ8 := Lib.hid (HQ7.out.below b8); have H8 := Lib.hid (H7.out.below b8); have B8 := Lib.hid (B7.out.trans (b8.mono B7.out.size)); clear AGE HQ7 B7 H7 b8)
  clear e5
  have HQ9 := Lib.hid (HQ8.out.below (bel1 w8 (.cells #[.int .i64 0, .int .i64 0, .int .i64 0, .int .i64 17, .int .i64 0, .int .i64 0, .int .i64 0, .int .i64 0, .int .i64 0, .int .i64 0, .int .i64 1] 34)))
  have H9 := Lib.hid (H8.out.below (bel1 w8 (.cells #[.int .i64 0, .int .i64 0, .int .i64 0, .int .i64 17, .int .i64 0, .int .i64 0, .int .i64 0, .int .i64 0, .int .i64 0, .int .i64 0, .int .i64 1] 34)))
  have B9 := Lib.hid (B8.out.trans ((bel1 w8 (.cells #[.int .i64 0, .int .i64 0, .int .i64 0, .int .i64 17, .int .i64 0, .int .i64 0, .int .i64 0, .int .i64 0, .int .i64 0, .int .i64 0, .int .i64 1] 34)).mono B8.out.size))
  obtain ⟨x0, x1, x2, x3, x4, x5, x6, x7, x8, x9, x10⟩ := (Bx.b11 (at1 w8 (.cells #[.int .i64 0, .int .i64 0, .int .i64 0, .int .i64 17, .int .i64 0, .int .i64 0, .int .i64 0, .int .i64 0, .int .i64 0, .int .i64 0, .int .i64 1] 34))).1
  clear HQ8 H8 B8
  generalize w8.alloc (.cells #[.int .i64 0, .int .i64 0, .int .i64 0, .int .i64 17, .int .i64 0, .int .i64 0, .int .i64 0, .int .i64 0, .int .i64 0, .int .i64 0, .int .i64 1] 34) = w9 at *
  obtain ⟨k0, k1, k2, k3⟩ := KP.out _ B9.out
  have EQ := fun V => eq_hit 0 0 0 7 0 0 0 7 V
  simp at EQ
  clear KP B9
  have MV := Lib.hid (MOVE.out w9 q HQ9.out)
  clear MOVE
  go_wp2_with (go_at_call 25; with_reducible refine MV.out.mono ?_; rintro e w10 ⟨rfl, b10⟩; have H10 := Lib.hid (H9.out.below b10).bel; clear MV b10 H9)
  go_ret
  exact ⟨rfl, H10.out⟩
end Go.Proofs.Ytfmbldjaknjgbaa
