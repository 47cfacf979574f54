/- The code's tick of whatever zone. The code: Move of no map; chapter 14's examples. Written by wip/tools/gensy.py. -/
import Derived.Test.YtljaahemlcaffaaGreatK34
import Derived.Test.YtljaahemlcaffaaGreatK17
import Derived.Test.YtljaahemlcaffaaGreatK28
import Derived.Test.YtljaahemlcaffaaGreatK18
import Derived.Test.YtljaahemlcaffaaGreatK32
namespace Go.Proofs.YtljaahemlcaffaaGreat
open Go.RowKit Pz Sp
set_option linter.unusedVariables false
theorem crun_any (C R S D V N Q z : Int) (W : World) (q : Nat) (A A2 A3 : Option Addr) (c c2 c3 : Nat) (own near : List Bn) (cs : List Cn) (hq : MapAt W q C R S D V N Q) (ok : Zn.Ok C R S D V) (H : Hand W A A2 A3 own near cs) (hu : Tk.Un own ∨ ¬ (-1 ≤ z ∧ z < C * R)) :
    Calls Tryz.prog 13 #[.pointer (some ⟨q, 0, none⟩), .int .i64 z, .slice A own.length c, .slice A2 near.length c2, .slice A3 cs.length c3] W (Left W (Tk.run C R S D V z own near cs)) := by
  by_cases hz : -1 ≤ z ∧ z < C * R
  · rcases hu with hu | hu
    · exact crun_in C R S D V N Q z W q hq ok hz.1 hz.2 A A2 A3 c c2 c3 own near cs H hu
    · exact absurd hz hu
  · have e : Tk.run C R S D V z own near cs = ([], [], []) := by unfold Tk.run; rw [if_neg hz]
    rw [e]
    exact crun_out C R S D V N Q z W q hq ok hz A A2 A3 own.length near.length cs.length c c2 c3
end Go.Proofs.YtljaahemlcaffaaGreat
namespace Go.Proofs.YtljaahemlcaffaaGreat
open Go.RowKit Pz Sp
set_option linter.unusedVariables false
set_option linter.unusedSimpArgs false

set_option maxHeartbeats 4000000 in
set_option maxRecDepth 100000 in
theorem cmove_nil (qs qi qg qm qx qy qvx qvy qh qp ql : Int) (w : World) : Calls Tryz.prog 39 #[.pointer none, .agg #[.int .i64 qs, .int .i64 qi, .int .i64 qg, .int .i64 qm, .int .i64 qx, .int .i64 qy, .int .i64 qvx, .int .i64 qvy, .int .i64 qh, .int .i64 qp, .int .i64 ql]] w fun e w' => e = .returned (.agg #[.int .i64 qs, .int .i64 qi, .int .i64 qg, .int .i64 qm, .int .i64 qx, .int .i64 qy, .int .i64 qvx, .int .i64 qvy, .int .i64 qh, .int .i64 qp, .int .i64 ql]) ∧ Below w.heap.size w w' := by
  have H0 : Hid (Sep w [box (w.heap.size + 1) (.cells #[.int .i64 0, .int .i64 0, .int .i64 0, .int .i64 0, .int .i64 0, .int .i64 0, .int .i64 0, .int .i64 0, .int .i64 0, .int .i64 0, .int .i64 0] 42), box w.heap.size (.cells #[.int .i64 qs, .int .i64 qi, .int .i64 qg, .int .i64 qm, .int .i64 qx, .int .i64 qy, .int .i64 qvx, .int .i64 qvy, .int .i64 qh, .int .i64 qp, .int .i64 ql] 42)] ((w.alloc (.cells #[.int .i64 qs, .int .i64 qi, .int .i64 qg, .int .i64 qm, .int .i64 qx, .int .i64 qy, .int .i64 qvx, .int .i64 qvy, .int .i64 qh, .int .i64 qp, .int .i64 ql] 42)).alloc (.cells #[.int .i64 0, .int .i64 0, .int .i64 0, .int .i64 0, .int .i64 0, .int .i64 0, .int .i64 0, .int .i64 0, .int .i64 0, .int .i64 0, .int .i64 0] 42))) := Lib.hid (by
    have := sep_box (sep_box (sep_new w) (.cells #[.int .i64 qs, .int .i64 qi, .int .i64 qg, .int .i64 qm, .int .i64 qx, .int .i64 qy, .int .i64 qvx, .int .i64 qvy, .int .i64 qh, .int .i64 qp, .int .i64 ql] 42)) (.cells #[.int .i64 0, .int .i64 0, .int .i64 0, .int .i64 0, .int .i64 0, .int .i64 0, .int .i64 0, .int .i64 0, .int .i64 0, .int .i64 0, .int .i64 0] 42)
    rw [size1] at this
    exact this)
  go_enter Tryz.func39, Tryz.ntmps39
  go_upto_region 1 with fail
  generalize (w.alloc (.cells #[.int .i64 qs, .int .i64 qi, .int .i64 qg, .int .i64 qm, .int .i64 qx, .int .i64 qy, .int .i64 qvx, .int .i64 qvy, .int .i64 qh, .int .i64 qp, .int .i64 ql] 42)).alloc (.cells #[.int .i64 0, .int .i64 0, .int .i64 0, .int .i64 0, .int .i64 0, .int .i64 0, .int .i64 0, .int .i64 0, .int .i64 0, .int .i64 0, .int .i64 0] 42) = w0 at *
  obtain ⟨⟨k0, k1, k2, k3, k4, k5, k6, k7, k8, k9, k10⟩, ⟨f0, f1, f2, f3, f4, f5, f6, f7, f8, f9, f10⟩⟩ := Bx.b11 (H0.out.held 1 rfl)
  obtain ⟨_, ⟨z0, z1, z2, z3, z4, z5, z6, z7, z8, z9, z10⟩⟩ := Bx.b11 (H0.out.held 0 rfl)
  have HF := Lib.hid (H0.out.set11 (.int .i64 qs) (.int .i64 qi) (.int .i64 qg) (.int .i64 qm) (.int .i64 qx) (.int .i64 qy) (.int .i64 qvx) (.int .i64 qvy) (.int .i64 qh) (.int .i64 qp) (.int .i64 ql))
  go_wp2
  generalize (((((((((((w0.setCell ⟨w.heap.size + 1, 0, none⟩ (.int .i64 qs)).setCell ⟨w.heap.size + 1, 1, none⟩ (.int .i64 qi)).setCell ⟨w.heap.size + 1, 2, none⟩ (.int .i64 qg)).setCell ⟨w.heap.size + 1, 3, none⟩ (.int .i64 qm)).setCell ⟨w.heap.size + 1, 4, none⟩ (.int .i64 qx)).setCell ⟨w.heap.size + 1, 5, none⟩ (.int .i64 qy)).setCell ⟨w.heap.size + 1, 6, none⟩ (.int .i64 qvx)).setCell ⟨w.heap.size + 1, 7, none⟩ (.int .i64 qvy)).setCell ⟨w.heap.size + 1, 8, none⟩ (.int .i64 qh)).setCell ⟨w.heap.size + 1, 9, none⟩ (.int .i64 qp)).setCell ⟨w.heap.size + 1, 10, none⟩ (.int .i64 ql)) = V at *
  obtain ⟨r0, r1, r2, r3, r4, r5, r6, r7, r8, r9, r10⟩ := (Bx.b11 (HF.out.held 0 rfl)).1
  exact bodyPost_ret (v := .agg #[.int .i64 qs, .int .i64 qi, .int .i64 qg, .int .i64 qm, .int .i64 qx, .int .i64 qy, .int .i64 qvx, .int .i64 qvy, .int .i64 qh, .int .i64 qp, .int .i64 ql]) (by simp [results, Tryz.results39, go_sem, r0, r1, r2, r3, r4, r5, r6, r7, r8, r9, r10]) rfl ⟨rfl, HF.out.bel⟩
theorem ab0 (V : World) : (Instr.build 42 #[(1, .int .i64 5), (6, .int .i64 3)]).run Tryz.prog V = .ok (.agg #[.int .i64 0, .int .i64 0, .int .i64 0, .int .i64 5, .int .i64 0, .int .i64 0, .int .i64 0, .int .i64 0, .int .i64 3, .int .i64 0, .int .i64 0]) V := by kernel_rfl
theorem ab1 (V : World) : (Instr.build 40 #[(1, .int .i64 1)]).run Tryz.prog V = .ok (.agg #[.int .i64 0, .int .i64 1, .int .i64 0]) V := by kernel_rfl
theorem ab2 (V : World) : (Instr.build 42 #[(0, .agg #[.int .i64 0, .int .i64 1, .int .i64 0]), (1, .int .i64 9), (2, .int .i64 2), (7, .int .i64 3)]).run Tryz.prog V = .ok (.agg #[.int .i64 0, .int .i64 1, .int .i64 0, .int .i64 9, .int .i64 2, .int .i64 0, .int .i64 0, .int .i64 0, .int .i64 0, .int .i64 3, .int .i64 0]) V := by kernel_rfl
theorem ab3 (V : World) : (Instr.build 40 #[(1, .int .i64 2)]).run Tryz.prog V = .ok (.agg #[.int .i64 0, .int .i64 2, .int .i64 0]) V := by kernel_rfl
theorem ab4 (V : World) : (Instr.build 42 #[(0, .agg #[.int .i64 0, .int .i64 2, .int .i64 0]), (1, .int .i64 9), (2, .int .i64 9), (7, .int .i64 4)]).run Tryz.prog V = .ok (.agg #[.int .i64 0, .int .i64 2, .int .i64 0, .int .i64 9, .int .i64 9, .int .i64 0, .int .i64 0, .int .i64 0, .int .i64 0, .int .i64 4, .int .i64 0]) V := by kernel_rfl
theorem ab5 (V : World) : (Instr.build 42 #[(1, .int .i64 17), (8, .int .i64 2)]).run Tryz.prog V = .ok (.agg #[.int .i64 0, .int .i64 0, .int .i64 0, .int .i64 17, .int .i64 0, .int .i64 0, .int .i64 0, .int .i64 0, .int .i64 0, .int .i64 0, .int .i64 2]) V := by kernel_rfl
theorem ab6 (V : World) : (Instr.build 23 #[(0, .int .i64 2), (1, .int .i64 1), (2, .int .i64 256), (4, .int .i64 10), (5, .int .i64 1), (6, .int .i64 1)]).run Tryz.prog V = .ok (.agg #[.int .i64 2, .int .i64 1, .int .i64 256, .int .i64 0, .int .i64 10, .int .i64 1, .int .i64 1]) V := by kernel_rfl
theorem ab7 (V : World) : (Instr.build 104 #[(1, .int .i64 7)]).run Tryz.prog V = .ok (.agg #[.int .i64 0, .int .i64 0, .int .i64 0, .int .i64 7]) V := by kernel_rfl
theorem ab8 (V : World) : (Instr.build 42 #[(1, .int .i64 3), (2, .int .i64 500), (4, .int .i64 40)]).run Tryz.prog V = .ok (.agg #[.int .i64 0, .int .i64 0, .int .i64 0, .int .i64 3, .int .i64 500, .int .i64 0, .int .i64 40, .int .i64 0, .int .i64 0, .int .i64 0, .int .i64 0]) V := by kernel_rfl
theorem ab9 (V : World) : (Instr.field 42 (.agg #[.int .i64 0, .int .i64 0, .int .i64 0, .int .i64 3, .int .i64 510, .int .i64 0, .int .i64 40, .int .i64 0, .int .i64 0, .int .i64 0, .int .i64 0]) 2).run Tryz.prog V = .ok (.int .i64 510) V := by kernel_rfl
theorem as1 (V : World) : (Instr.buildSlice 24 1 #[(0, .agg #[.int .i64 0, .int .i64 0, .int .i64 0, .int .i64 5, .int .i64 0, .int .i64 0, .int .i64 0, .int .i64 0, .int .i64 3, .int .i64 0, .int .i64 0])]).run Tryz.prog V = .ok (.slice (some ⟨V.heap.size, 0, none⟩) 1 1) (V.alloc (.cells #[.int .i64 0, .int .i64 0, .int .i64 0, .int .i64 5, .int .i64 0, .int .i64 0, .int .i64 0, .int .i64 0, .int .i64 3, .int .i64 0, .int .i64 0] 42)) := by kernel_rfl
theorem as2 (V : World) : (Instr.buildSlice 24 2 #[(0, .agg #[.int .i64 0, .int .i64 1, .int .i64 0, .int .i64 9, .int .i64 2, .int .i64 0, .int .i64 0, .int .i64 0, .int .i64 0, .int .i64 3, .int .i64 0]), (1, .agg #[.int .i64 0, .int .i64 2, .int .i64 0, .int .i64 9, .int .i64 9, .int .i64 0, .int .i64 0, .int .i64 0, .int .i64 0, .int .i64 4, .int .i64 0])]).run Tryz.prog V = .ok (.slice (some ⟨V.heap.size, 0, none⟩) 2 2) (V.alloc (.cells #[.int .i64 0, .int .i64 1, .int .i64 0, .int .i64 9, .int .i64 2, .int .i64 0, .int .i64 0, .int .i64 0, .int .i64 0, .int .i64 3, .int .i64 0, .int .i64 0, .int .i64 2, .int .i64 0, .int .i64 9, .int .i64 9, .int .i64 0, .int .i64 0, .int .i64 0, .int .i64 0, .int .i64 4, .int .i64 0] 42)) := by kernel_rfl
theorem aw_hits : Sy.hits 9 [⟨0, 0, 0, 5, 0, 0, 0, 0, 3, 0, 0⟩] [⟨0, 1, 0, 9, 2, 0, 0, 0, 0, 3, 0⟩, ⟨0, 2, 0, 9, 9, 0, 0, 0, 0, 4, 0⟩] = [((0, 0, 0), 7)] := by kernel_rfl
theorem aw_hurt : Sy.hurt ⟨0, 0, 0, 5, 0, 0, 0, 0, 3, 0, 0⟩ 3 = (Sy.bn0, false) := by kernel_rfl
theorem aw_age : Sy.age ⟨0, 0, 0, 17, 0, 0, 0, 0, 0, 0, 2⟩ = (⟨0, 0, 0, 17, 0, 0, 0, 0, 0, 0, 1⟩, true) := by kernel_rfl
theorem aw_move : Sy.move 2 1 256 10 ⟨0, 0, 0, 3, 500, 0, 40, 0, 0, 0, 0⟩ = ⟨0, 0, 0, 3, 510, 0, 40, 0, 0, 0, 0⟩ := by kernel_rfl
theorem aw_ok : Zn.okB 2 1 256 0 10 1 1 = true := by kernel_rfl
theorem rd1_cells {V : World} {q B : Nat} {l : List Bn} (h : V.heap[q]? = some (.cells (l.flatMap bnE).toArray 42 (0, 0))) (hB : q < B) : RdB V B (some ⟨q, 0, none⟩) l := fun j x hx => by
  have key : ∀ c, c < 11 → ∀ u, (bnE x)[c]? = some u → V.cell? ⟨q, 0 + j * 11 + c, none⟩ = some u := fun c hc u hu => by
    have := flat_at bnE_len l j x hx c hc
    rw [hu] at this
    refine (Bx.cell h ?_).1
    rw [List.getElem?_toArray, Nat.zero_add]
    exact this
  exact ⟨q, 0, rfl, hB, key 0 (by decide) _ rfl, key 1 (by decide) _ rfl, key 2 (by decide) _ rfl, key 3 (by decide) _ rfl, key 4 (by decide) _ rfl, key 5 (by decide) _ rfl, key 6 (by decide) _ rfl, key 7 (by decide) _ rfl, key 8 (by decide) _ rfl, key 9 (by decide) _ rfl, key 10 (by decide) _ rfl⟩
end Go.Proofs.YtljaahemlcaffaaGreat
