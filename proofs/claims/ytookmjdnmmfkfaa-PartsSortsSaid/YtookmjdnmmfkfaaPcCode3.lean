/- The code's componentsMayBe. Written by wip/tools/genpc3.py. -/
import Derived.Test.YtookmjdnmmfkfaaPcCode2
namespace Go.Proofs.Ytookmjdnmmfkfaa
open Go.RowKit Pz
set_option linter.unusedVariables false

namespace Pz
/-- may the k-th number, and all behind it, and the mask be? -/
def restB (b : Bn) : Nat → Bool
  | 0 => (inB b.x (-1073741824) 1073741824 (bitB b.m 0) && (inB b.y (-1073741824) 1073741824 (bitB b.m 0) && (inB b.vx (-1073741824) 1073741824 (bitB b.m 1) && (inB b.vy (-1073741824) 1073741824 (bitB b.m 1) && (inB b.h 1 1048576 (bitB b.m 2) && (inB b.p 0 1024 (bitB b.m 3) && (inB b.l 1 1048576 (bitB b.m 4) && within b.m 0 31)))))))
  | 1 => (inB b.y (-1073741824) 1073741824 (bitB b.m 0) && (inB b.vx (-1073741824) 1073741824 (bitB b.m 1) && (inB b.vy (-1073741824) 1073741824 (bitB b.m 1) && (inB b.h 1 1048576 (bitB b.m 2) && (inB b.p 0 1024 (bitB b.m 3) && (inB b.l 1 1048576 (bitB b.m 4) && within b.m 0 31))))))
  | 2 => (inB b.vx (-1073741824) 1073741824 (bitB b.m 1) && (inB b.vy (-1073741824) 1073741824 (bitB b.m 1) && (inB b.h 1 1048576 (bitB b.m 2) && (inB b.p 0 1024 (bitB b.m 3) && (inB b.l 1 1048576 (bitB b.m 4) && within b.m 0 31)))))
  | 3 => (inB b.vy (-1073741824) 1073741824 (bitB b.m 1) && (inB b.h 1 1048576 (bitB b.m 2) && (inB b.p 0 1024 (bitB b.m 3) && (inB b.l 1 1048576 (bitB b.m 4) && within b.m 0 31))))
  | 4 => (inB b.h 1 1048576 (bitB b.m 2) && (inB b.p 0 1024 (bitB b.m 3) && (inB b.l 1 1048576 (bitB b.m 4) && within b.m 0 31)))
  | 5 => (inB b.p 0 1024 (bitB b.m 3) && (inB b.l 1 1048576 (bitB b.m 4) && within b.m 0 31))
  | 6 => (inB b.l 1 1048576 (bitB b.m 4) && within b.m 0 31)
  | _ => within b.m 0 31
theorem right_is (b : Bn) : right b = restB b 0 := by
  unfold right
  simp only [restB]
  have e : within b.m 0 31 = !(decide (b.m < 0) || decide (b.m > 31)) := by
    unfold within
    by_cases h1 : b.m < 0
    · rw [decide_eq_true h1, decide_eq_false (by omega : ¬ 0 ≤ b.m)]; rfl
    · rw [decide_eq_false h1, decide_eq_true (by omega : 0 ≤ b.m)]
      by_cases h2 : b.m > 31
      · rw [decide_eq_true h2, decide_eq_false (by omega : ¬ b.m ≤ 31)]; rfl
      · rw [decide_eq_false h2, decide_eq_true (by omega : b.m ≤ 31)]; rfl
  rw [e]
  simp only [Bool.and_assoc, Bool.and_comm, Bool.and_left_comm]
end Pz
set_option maxRecDepth 100000 in
theorem index_0 (n0 n1 n2 n3 n4 n5 n6 : Int) (w : World) : (Instr.index 68 (.agg #[.int .i64 n0, .int .i64 1, .int .i64 (-1073741824), .int .i64 1073741824, .int .i64 n1, .int .i64 1, .int .i64 (-1073741824), .int .i64 1073741824, .int .i64 n2, .int .i64 2, .int .i64 (-1073741824), .int .i64 1073741824, .int .i64 n3, .int .i64 2, .int .i64 (-1073741824), .int .i64 1073741824, .int .i64 n4, .int .i64 4, .int .i64 1, .int .i64 1048576, .int .i64 n5, .int .i64 8, .int .i64 0, .int .i64 1024, .int .i64 n6, .int .i64 16, .int .i64 1, .int .i64 1048576]) (.int .i64 0)).run Try.prog w = .ok (.agg #[.int .i64 n0, .int .i64 1, .int .i64 (-1073741824), .int .i64 1073741824]) w := by
  unfold Instr.index
  go_simp
set_option maxRecDepth 100000 in
theorem index_1 (n0 n1 n2 n3 n4 n5 n6 : Int) (w : World) : (Instr.index 68 (.agg #[.int .i64 n0, .int .i64 1, .int .i64 (-1073741824), .int .i64 1073741824, .int .i64 n1, .int .i64 1, .int .i64 (-1073741824), .int .i64 1073741824, .int .i64 n2, .int .i64 2, .int .i64 (-1073741824), .int .i64 1073741824, .int .i64 n3, .int .i64 2, .int .i64 (-1073741824), .int .i64 1073741824, .int .i64 n4, .int .i64 4, .int .i64 1, .int .i64 1048576, .int .i64 n5, .int .i64 8, .int .i64 0, .int .i64 1024, .int .i64 n6, .int .i64 16, .int .i64 1, .int .i64 1048576]) (.int .i64 1)).run Try.prog w = .ok (.agg #[.int .i64 n1, .int .i64 1, .int .i64 (-1073741824), .int .i64 1073741824]) w := by
  unfold Instr.index
  go_simp
set_option maxRecDepth 100000 in
theorem index_2 (n0 n1 n2 n3 n4 n5 n6 : Int) (w : World) : (Instr.index 68 (.agg #[.int .i64 n0, .int .i64 1, .int .i64 (-1073741824), .int .i64 1073741824, .int .i64 n1, .int .i64 1, .int .i64 (-1073741824), .int .i64 1073741824, .int .i64 n2, .int .i64 2, .int .i64 (-1073741824), .int .i64 1073741824, .int .i64 n3, .int .i64 2, .int .i64 (-1073741824), .int .i64 1073741824, .int .i64 n4, .int .i64 4, .int .i64 1, .int .i64 1048576, .int .i64 n5, .int .i64 8, .int .i64 0, .int .i64 1024, .int .i64 n6, .int .i64 16, .int .i64 1, .int .i64 1048576]) (.int .i64 2)).run Try.prog w = .ok (.agg #[.int .i64 n2, .int .i64 2, .int .i64 (-1073741824), .int .i64 1073741824]) w := by
  unfold Instr.index
  go_simp
set_option maxRecDepth 100000 in
theorem index_3 (n0 n1 n2 n3 n4 n5 n6 : Int) (w : World) : (Instr.index 68 (.agg #[.int .i64 n0, .int .i64 1, .int .i64 (-1073741824), .int .i64 1073741824, .int .i64 n1, .int .i64 1, .int .i64 (-1073741824), .int .i64 1073741824, .int .i64 n2, .int .i64 2, .int .i64 (-1073741824), .int .i64 1073741824, .int .i64 n3, .int .i64 2, .int .i64 (-1073741824), .int .i64 1073741824, .int .i64 n4, .int .i64 4, .int .i64 1, .int .i64 1048576, .int .i64 n5, .int .i64 8, .int .i64 0, .int .i64 1024, .int .i64 n6, .int .i64 16, .int .i64 1, .int .i64 1048576]) (.int .i64 3)).run Try.prog w = .ok (.agg #[.int .i64 n3, .int .i64 2, .int .i64 (-1073741824), .int .i64 1073741824]) w := by
  unfold Instr.index
  go_simp
set_option maxRecDepth 100000 in
theorem index_4 (n0 n1 n2 n3 n4 n5 n6 : Int) (w : World) : (Instr.index 68 (.agg #[.int .i64 n0, .int .i64 1, .int .i64 (-1073741824), .int .i64 1073741824, .int .i64 n1, .int .i64 1, .int .i64 (-1073741824), .int .i64 1073741824, .int .i64 n2, .int .i64 2, .int .i64 (-1073741824), .int .i64 1073741824, .int .i64 n3, .int .i64 2, .int .i64 (-1073741824), .int .i64 1073741824, .int .i64 n4, .int .i64 4, .int .i64 1, .int .i64 1048576, .int .i64 n5, .int .i64 8, .int .i64 0, .int .i64 1024, .int .i64 n6, .int .i64 16, .int .i64 1, .int .i64 1048576]) (.int .i64 4)).run Try.prog w = .ok (.agg #[.int .i64 n4, .int .i64 4, .int .i64 1, .int .i64 1048576]) w := by
  unfold Instr.index
  go_simp
set_option maxRecDepth 100000 in
theorem index_5 (n0 n1 n2 n3 n4 n5 n6 : Int) (w : World) : (Instr.index 68 (.agg #[.int .i64 n0, .int .i64 1, .int .i64 (-1073741824), .int .i64 1073741824, .int .i64 n1, .int .i64 1, .int .i64 (-1073741824), .int .i64 1073741824, .int .i64 n2, .int .i64 2, .int .i64 (-1073741824), .int .i64 1073741824, .int .i64 n3, .int .i64 2, .int .i64 (-1073741824), .int .i64 1073741824, .int .i64 n4, .int .i64 4, .int .i64 1, .int .i64 1048576, .int .i64 n5, .int .i64 8, .int .i64 0, .int .i64 1024, .int .i64 n6, .int .i64 16, .int .i64 1, .int .i64 1048576]) (.int .i64 5)).run Try.prog w = .ok (.agg #[.int .i64 n5, .int .i64 8, .int .i64 0, .int .i64 1024]) w := by
  unfold Instr.index
  go_simp
set_option maxRecDepth 100000 in
theorem index_6 (n0 n1 n2 n3 n4 n5 n6 : Int) (w : World) : (Instr.index 68 (.agg #[.int .i64 n0, .int .i64 1, .int .i64 (-1073741824), .int .i64 1073741824, .int .i64 n1, .int .i64 1, .int .i64 (-1073741824), .int .i64 1073741824, .int .i64 n2, .int .i64 2, .int .i64 (-1073741824), .int .i64 1073741824, .int .i64 n3, .int .i64 2, .int .i64 (-1073741824), .int .i64 1073741824, .int .i64 n4, .int .i64 4, .int .i64 1, .int .i64 1048576, .int .i64 n5, .int .i64 8, .int .i64 0, .int .i64 1024, .int .i64 n6, .int .i64 16, .int .i64 1, .int .i64 1048576]) (.int .i64 6)).run Try.prog w = .ok (.agg #[.int .i64 n6, .int .i64 16, .int .i64 1, .int .i64 1048576]) w := by
  unfold Instr.index
  go_simp
set_option maxHeartbeats 16000000 in
set_option maxRecDepth 100000 in
theorem comps_any (b : Bn) (w : World) : Calls Try.prog 46 #[b.val] w fun e w' => e = .returned (.bool (right b)) ∧ Below w.heap.size w w' := by
  have NB := Lib.hid fun W => numbers_any b W
  have HS : Hid (∀ j : Nat, j ≤ 4 → ∀ V, Calls Try.prog 23 #[b.val, .int .i64 ((2 : Int) ^ j)] V fun e w' => e = .returned (.bool (bitB b.m j)) ∧ Below V.heap.size V w') := Lib.hid fun j hj V => has_one b hj V
  have WI := Lib.hid fun W => within_any b.m 0 31 W
  have R8 : Hid (restB b 7 = within b.m 0 31) := Lib.hid rfl
  have RG := Lib.hid (right_is b)
  have RS0 : Hid (restB b 0 = (inB b.x (-1073741824) 1073741824 (bitB b.m 0) && restB b 1)) := Lib.hid rfl
  have RS1 : Hid (restB b 1 = (inB b.y (-1073741824) 1073741824 (bitB b.m 0) && restB b 2)) := Lib.hid rfl
  have RS2 : Hid (restB b 2 = (inB b.vx (-1073741824) 1073741824 (bitB b.m 1) && restB b 3)) := Lib.hid rfl
  have RS3 : Hid (restB b 3 = (inB b.vy (-1073741824) 1073741824 (bitB b.m 1) && restB b 4)) := Lib.hid rfl
  have RS4 : Hid (restB b 4 = (inB b.h 1 1048576 (bitB b.m 2) && restB b 5)) := Lib.hid rfl
  have RS5 : Hid (restB b 5 = (inB b.p 0 1024 (bitB b.m 3) && restB b 6)) := Lib.hid rfl
  have RS6 : Hid (restB b 6 = (inB b.l 1 1048576 (bitB b.m 4) && restB b 7)) := Lib.hid rfl
  generalize right b = res at *
  obtain ⟨s, i, g, m, x, y, vx, vy, h, p, l⟩ := b
  simp only [Bn.val, numsOf] at *
  have H0 := at1 w (.cells #[.int .i64 s, .int .i64 i, .int .i64 g, .int .i64 m, .int .i64 x, .int .i64 y, .int .i64 vx, .int .i64 vy, .int .i64 h, .int .i64 p, .int .i64 l] 25)
  have B1 := bel1 w (.cells #[.int .i64 s, .int .i64 i, .int .i64 g, .int .i64 m, .int .i64 x, .int .i64 y, .int .i64 vx, .int .i64 vy, .int .i64 h, .int .i64 p, .int .i64 l] 25)
  have CE : Hid (∀ W, Below (w.alloc (.cells #[.int .i64 s, .int .i64 i, .int .i64 g, .int .i64 m, .int .i64 x, .int .i64 y, .int .i64 vx, .int .i64 vy, .int .i64 h, .int .i64 p, .int .i64 l] 25)).heap.size (w.alloc (.cells #[.int .i64 s, .int .i64 i, .int .i64 g, .int .i64 m, .int .i64 x, .int .i64 y, .int .i64 vx, .int .i64 vy, .int .i64 h, .int .i64 p, .int .i64 l] 25)) W → (W.cell? ⟨w.heap.size, 0, none⟩ = some (.int .i64 s) ∧ W.cell? ⟨w.heap.size, 1, none⟩ = some (.int .i64 i) ∧ W.cell? ⟨w.heap.size, 2, none⟩ = some (.int .i64 g) ∧ W.cell? ⟨w.heap.size, 3, none⟩ = some (.int .i64 m) ∧ W.cell? ⟨w.heap.size, 4, none⟩ = some (.int .i64 x) ∧ W.cell? ⟨w.heap.size, 5, none⟩ = some (.int .i64 y) ∧ W.cell? ⟨w.heap.size, 6, none⟩ = some (.int .i64 vx) ∧ W.cell? ⟨w.heap.size, 7, none⟩ = some (.int .i64 vy) ∧ W.cell? ⟨w.heap.size, 8, none⟩ = some (.int .i64 h) ∧ W.cell? ⟨w.heap.size, 9, none⟩ = some (.int .i64 p) ∧ W.cell? ⟨w.heap.size, 10, none⟩ = some (.int .i64 l)) ∧ Below w.heap.size w W) := Lib.hid fun W hW => ⟨(Bx.b11 ((hW.block _ (Bx.lt H0)).trans H0)).1, B1.trans (hW.mono B1.size)⟩
  obtain ⟨⟨k0, k1, k2, k3, k4, k5, k6, k7, k8, k9, k10⟩, _⟩ := CE.out _ (Below.refl _ _)
  have BB := Lib.hid (Below.refl (w.alloc (.cells #[.int .i64 s, .int .i64 i, .int .i64 g, .int .i64 m, .int .i64 x, .int .i64 y, .int .i64 vx, .int .i64 vy, .int .i64 h, .int .i64 p, .int .i64 l] 25)).heap.size (w.alloc (.cells #[.int .i64 s, .int .i64 i, .int .i64 g, .int .i64 m, .int .i64 x, .int .i64 y, .int .i64 vx, .int .i64 vy, .int .i64 h, .int .i64 p, .int .i64 l] 25)))
  clear H0 B1
  have IX0 : Hid (∀ W : World, (Instr.index 68 (.agg #[.int .i64 x, .int .i64 1, .int .i64 (-1073741824), .int .i64 1073741824, .int .i64 y, .int .i64 1, .int .i64 (-1073741824), .int .i64 1073741824, .int .i64 vx, .int .i64 2, .int .i64 (-1073741824), .int .i64 1073741824, .int .i64 vy, .int .i64 2, .int .i64 (-1073741824), .int .i64 1073741824, .int .i64 h, .int .i64 4, .int .i64 1, .int .i64 1048576, .int .i64 p, .int .i64 8, .int .i64 0, .int .i64 1024, .int .i64 l, .int .i64 16, .int .i64 1, .int .i64 1048576]) (.int .i64 0)).run Try.prog W = .ok (.agg #[.int .i64 x, .int .i64 1, .int .i64 (-1073741824), .int .i64 1073741824]) W) := Lib.hid fun W => index_0 x y vx vy h p l W
  have IX1 : Hid (∀ W : World, (Instr.index 68 (.agg #[.int .i64 x, .int .i64 1, .int .i64 (-1073741824), .int .i64 1073741824, .int .i64 y, .int .i64 1, .int .i64 (-1073741824), .int .i64 1073741824, .int .i64 vx, .int .i64 2, .int .i64 (-1073741824), .int .i64 1073741824, .int .i64 vy, .int .i64 2, .int .i64 (-1073741824), .int .i64 1073741824, .int .i64 h, .int .i64 4, .int .i64 1, .int .i64 1048576, .int .i64 p, .int .i64 8, .int .i64 0, .int .i64 1024, .int .i64 l, .int .i64 16, .int .i64 1, .int .i64 1048576]) (.int .i64 1)).run Try.prog W = .ok (.agg #[.int .i64 y, .int .i64 1, .int .i64 (-1073741824), .int .i64 1073741824]) W) := Lib.hid fun W => index_1 x y vx vy h p l W
  have IX2 : Hid (∀ W : World, (Instr.index 68 (.agg #[.int .i64 x, .int .i64 1, .int .i64 (-1073741824), .int .i64 1073741824, .int .i64 y, .int .i64 1, .int .i64 (-1073741824), .int .i64 1073741824, .int .i64 vx, .int .i64 2, .int .i64 (-1073741824), .int .i64 1073741824, .int .i64 vy, .int .i64 2, .int .i64 (-1073741824), .int .i64 1073741824, .int .i64 h, .int .i64 4, .int .i64 1, .int .i64 1048576, .int .i64 p, .int .i64 8, .int .i64 0, .int .i64 1024, .int .i64 l, .int .i64 16, .int .i64 1, .int .i64 1048576]) (.int .i64 2)).run Try.prog W = .ok (.agg #[.int .i64 vx, .int .i64 2, .int .i64 (-1073741824), .int .i64 1073741824]) W) := Lib.hid fun W => index_2 x y vx vy h p l W
  have IX3 : Hid (∀ W : World, (Instr.index 68 (.agg #[.int .i64 x, .int .i64 1, .int .i64 (-1073741824), .int .i64 1073741824, .int .i64 y, .int .i64 1, .int .i64 (-1073741824), .int .i64 1073741824, .int .i64 vx, .int .i64 2, .int .i64 (-1073741824), .int .i64 1073741824, .int .i64 vy, .int .i64 2, .int .i64 (-1073741824), .int .i64 1073741824, .int .i64 h, .int .i64 4, .int .i64 1, .int .i64 1048576, .int .i64 p, .int .i64 8, .int .i64 0, .int .i64 1024, .int .i64 l, .int .i64 16, .int .i64 1, .int .i64 1048576]) (.int .i64 3)).run Try.prog W = .ok (.agg #[.int .i64 vy, .int .i64 2, .int .i64 (-1073741824), .int .i64 1073741824]) W) := Lib.hid fun W => index_3 x y vx vy h p l W
  have IX4 : Hid (∀ W : World, (Instr.index 68 (.agg #[.int .i64 x, .int .i64 1, .int .i64 (-1073741824), .int .i64 1073741824, .int .i64 y, .int .i64 1, .int .i64 (-1073741824), .int .i64 1073741824, .int .i64 vx, .int .i64 2, .int .i64 (-1073741824), .int .i64 1073741824, .int .i64 vy, .int .i64 2, .int .i64 (-1073741824), .int .i64 1073741824, .int .i64 h, .int .i64 4, .int .i64 1, .int .i64 1048576, .int .i64 p, .int .i64 8, .int .i64 0, .int .i64 1024, .int .i64 l, .int .i64 16, .int .i64 1, .int .i64 1048576]) (.int .i64 4)).run Try.prog W = .ok (.agg #[.int .i64 h, .int .i64 4, .int .i64 1, .int .i64 1048576]) W) := Lib.hid fun W => index_4 x y vx vy h p l W
  have IX5 : Hid (∀ W : World, (Instr.index 68 (.agg #[.int .i64 x, .int .i64 1, .int .i64 (-1073741824), .int .i64 1073741824, .int .i64 y, .int .i64 1, .int .i64 (-1073741824), .int .i64 1073741824, .int .i64 vx, .int .i64 2, .int .i64 (-1073741824), .int .i64 1073741824, .int .i64 vy, .int .i64 2, .int .i64 (-1073741824), .int .i64 1073741824, .int .i64 h, .int .i64 4, .int .i64 1, .int .i64 1048576, .int .i64 p, .int .i64 8, .int .i64 0, .int .i64 1024, .int .i64 l, .int .i64 16, .int .i64 1, .int .i64 1048576]) (.int .i64 5)).run Try.prog W = .ok (.agg #[.int .i64 p, .int .i64 8, .int .i64 0, .int .i64 1024]) W) := Lib.hid fun W => index_5 x y vx vy h p l W
  have IX6 : Hid (∀ W : World, (Instr.index 68 (.agg #[.int .i64 x, .int .i64 1, .int .i64 (-1073741824), .int .i64 1073741824, .int .i64 y, .int .i64 1, .int .i64 (-1073741824), .int .i64 1073741824, .int .i64 vx, .int .i64 2, .int .i64 (-1073741824), .int .i64 1073741824, .int .i64 vy, .int .i64 2, .int .i64 (-1073741824), .int .i64 1073741824, .int .i64 h, .int .i64 4, .int .i64 1, .int .i64 1048576, .int .i64 p, .int .i64 8, .int .i64 0, .int .i64 1024, .int .i64 l, .int .i64 16, .int .i64 1, .int .i64 1048576]) (.int .i64 6)).run Try.prog W = .ok (.agg #[.int .i64 l, .int .i64 16, .int .i64 1, .int .i64 1048576]) W) := Lib.hid fun W => index_6 x y vx vy h p l W
  generalize (Value.agg #[.int .i64 x, .int .i64 1, .int .i64 (-1073741824), .int .i64 1073741824, .int .i64 y, .int .i64 1, .int .i64 (-1073741824), .int .i64 1073741824, .int .i64 vx, .int .i64 2, .int .i64 (-1073741824), .int .i64 1073741824, .int .i64 vy, .int .i64 2, .int .i64 (-1073741824), .int .i64 1073741824, .int .i64 h, .int .i64 4, .int .i64 1, .int .i64 1048576, .int .i64 p, .int .i64 8, .int .i64 0, .int .i64 1024, .int .i64 l, .int .i64 16, .int .i64 1, .int .i64 1048576]) = A at *
  go_enter Try.func46, Try.ntmps46
  go_upto_region 1 with fail
  generalize w.alloc (.cells #[.int .i64 s, .int .i64 i, .int .i64 g, .int .i64 m, .int .i64 x, .int .i64 y, .int .i64 vx, .int .i64 vy, .int .i64 h, .int .i64 p, .int .i64 l] 25) = w1 at *
  go_wp2_with (go_at_call 52; with_reducible refine (NB.out _).mono ?_; rintro e w2 ⟨rfl, hb2⟩; replace BB := Lib.hid hb2; clear hb2 k0 k1 k2 k3 k4 k5 k6 k7 k8 k9 k10)
  go_loopw [7] (fun ix wr => ∃ k : Nat, k ≤ 7 ∧ ix = .int .i64 k ∧ Hid (Below w1.heap.size w1 wr) ∧ Hid (res = restB ⟨s, i, g, m, x, y, vx, vy, h, p, l⟩ k)) (fun ix _ => 7 - (intOf ix).toNat)
  case atStart => exact ⟨0, by omega, rfl, BB, RG⟩
  case round =>
    obtain ⟨k, hk, rfl, HR, HQ⟩ := hrel
    clear BB RG NB
    have : k = 0 ∨ k = 1 ∨ k = 2 ∨ k = 3 ∨ k = 4 ∨ k = 5 ∨ k = 6 ∨ k = 7 := by omega
    clear hk
    rcases this with rfl | rfl | rfl | rfl | rfl | rfl | rfl | rfl
    · have A1 : ∀ V, Calls Try.prog 23 #[.agg #[.int .i64 s, .int .i64 i, .int .i64 g, .int .i64 m, .int .i64 x, .int .i64 y, .int .i64 vx, .int .i64 vy, .int .i64 h, .int .i64 p, .int .i64 l], .int .i64 1] V fun e w' => e = .returned (.bool (bitB m 0)) ∧ Below V.heap.size V w' := HS.out 0 (by decide)
      have A2 := fun V => number_any x 1 (-1073741824) 1073741824 (bitB m 0) V
      have Q := HQ.out.trans RS0.out
      try simp only at Q
      generalize bitB m 0 = tb at *
      generalize hin : inB x (-1073741824) 1073741824 tb = rb at *
      replace A1 := Lib.hid A1
      replace A2 := Lib.hid A2
      replace Q := Lib.hid Q
      clear HS RS0 RS1 RS2 RS3 RS4 RS5 RS6 HQ hin
      have IX := IX0.out
      clear IX0 IX1 IX2 IX3 IX4 IX5 IX6
      have CQ : Hid (∀ W, Below (wr.alloc (.cells #[.int .i64 x, .int .i64 1, .int .i64 (-1073741824), .int .i64 1073741824] 67)).heap.size (wr.alloc (.cells #[.int .i64 x, .int .i64 1, .int .i64 (-1073741824), .int .i64 1073741824] 67)) W → ((W.cell? ⟨w.heap.size, 0, none⟩ = some (.int .i64 s) ∧ W.cell? ⟨w.heap.size, 1, none⟩ = some (.int .i64 i) ∧ W.cell? ⟨w.heap.size, 2, none⟩ = some (.int .i64 g) ∧ W.cell? ⟨w.heap.size, 3, none⟩ = some (.int .i64 m) ∧ W.cell? ⟨w.heap.size, 4, none⟩ = some (.int .i64 x) ∧ W.cell? ⟨w.heap.size, 5, none⟩ = some (.int .i64 y) ∧ W.cell? ⟨w.heap.size, 6, none⟩ = some (.int .i64 vx) ∧ W.cell? ⟨w.heap.size, 7, none⟩ = some (.int .i64 vy) ∧ W.cell? ⟨w.heap.size, 8, none⟩ = some (.int .i64 h) ∧ W.cell? ⟨w.heap.size, 9, none⟩ = some (.int .i64 p) ∧ W.cell? ⟨w.heap.size, 10, none⟩ = some (.int .i64 l)) ∧ (W.cell? ⟨wr.heap.size, 0, none⟩ = some (.int .i64 x) ∧ W.cell? ⟨wr.heap.size, 1, none⟩ = some (.int .i64 1) ∧ W.cell? ⟨wr.heap.size, 2, none⟩ = some (.int .i64 (-1073741824)) ∧ W.cell? ⟨wr.heap.size, 3, none⟩ = some (.int .i64 1073741824))) ∧ Below w1.heap.size w1 W ∧ Below w.heap.size w W) := Lib.hid fun W hW => by
        have h1 : Below w1.heap.size w1 W := (HR.out.trans ((bel1 wr (.cells #[.int .i64 x, .int .i64 1, .int .i64 (-1073741824), .int .i64 1073741824] 67)).mono HR.out.size)).trans (hW.mono (by rw [size1]; have := HR.out.size; omega))
        exact ⟨⟨(CE.out W h1).1, (box4 ((hW.block _ (by rw [size1]; omega)).trans (at1 wr (.cells #[.int .i64 x, .int .i64 1, .int .i64 (-1073741824), .int .i64 1073741824] 67)))).1⟩, h1, (CE.out W h1).2⟩
      go_upto_region 4 with fail
      generalize wr.alloc (.cells #[.int .i64 x, .int .i64 1, .int .i64 (-1073741824), .int .i64 1073741824] 67) = wq at *
      have PC := fun p : Lat grows wq => (CQ.out p.W p.h).1
      obtain ⟨p0, p1⟩ : (∀ p : Lat grows wq, _) ∧ (∀ p : Lat grows wq, _) := ⟨fun p => (PC p).1, fun p => (PC p).2⟩
      have g0 := fun p => (p0 p).1
      have g1 := fun p => (p0 p).2.1
      have g2 := fun p => (p0 p).2.2.1
      have g3 := fun p => (p0 p).2.2.2.1
      have g4 := fun p => (p0 p).2.2.2.2.1
      have g5 := fun p => (p0 p).2.2.2.2.2.1
      have g6 := fun p => (p0 p).2.2.2.2.2.2.1
      have g7 := fun p => (p0 p).2.2.2.2.2.2.2.1
      have g8 := fun p => (p0 p).2.2.2.2.2.2.2.2.1
      have g9 := fun p => (p0 p).2.2.2.2.2.2.2.2.2.1
      have g10 := fun p => (p0 p).2.2.2.2.2.2.2.2.2.2
      have n0 := fun p => (p1 p).1
      have n1 := fun p => (p1 p).2.1
      have n2 := fun p => (p1 p).2.2.1
      have n3 := fun p => (p1 p).2.2.2
      clear PC p0 p1
      refine Og.grow 7 (by kernel_rfl) (by kernel_rfl) fun hc hf => ?_
      clear hc hf
      simp only [List.take_succ_cons, List.take_zero, List.drop_succ_cons, List.drop_zero]
      iterate 4 (refine Og.det [] rfl (fun J hJ => ?_); go_simp; refine hJ _ _ ?_; clear hJ J)
      refine Og.det [] rfl (fun J hJ => ?_)
      go_simp
      with_reducible refine ⟨_, fun p => Og.lays (A1.out p.W), hJ _ _ ?_⟩
      clear hJ J
      refine Og.det [] rfl (fun J hJ => ?_)
      go_simp
      with_reducible refine ⟨_, fun p => Og.lays (A2.out p.W), hJ _ _ ?_⟩
      clear hJ J
      (refine Og.det [] rfl (fun J hJ => ?_); go_simp; refine hJ _ _ ?_; clear hJ J)
      refine Og.fin fun W hW => ?_
      simp only [Og.opened_nil]
      obtain ⟨⟨⟨k0, k1, k2, k3, k4, k5, k6, k7, k8, k9, k10⟩, _⟩, NB1, NB2⟩ := CQ.out W hW
      replace NB1 := Lib.hid NB1
      replace NB2 := Lib.hid NB2
      clear g0  g1  g2  g3  g4  g5  g6  g7  g8  g9  g10 n0 n1 n2 n3 hW CQ A1 A2 IX CE HR WI
      cases rb with
      | true =>
        have Q2 : Hid (res = restB ⟨s, i, g, m, x, y, vx, vy, h, p, l⟩ 1) := Lib.hid (by rw [Q.out, Bool.true_and])
        clear Q
        go_wp2
        go_roundw
        case rel => exact ⟨1, by omega, rfl, NB1, Q2⟩
        case measure => simp [intOf]
      | false =>
        have Q2 : Hid (res = false) := Lib.hid (by rw [Q.out, Bool.false_and])
        clear Q
        go_wp2
        go_ret
        rw [Q2.out]
        exact ⟨rfl, NB2.out⟩
    · have A1 : ∀ V, Calls Try.prog 23 #[.agg #[.int .i64 s, .int .i64 i, .int .i64 g, .int .i64 m, .int .i64 x, .int .i64 y, .int .i64 vx, .int .i64 vy, .int .i64 h, .int .i64 p, .int .i64 l], .int .i64 1] V fun e w' => e = .returned (.bool (bitB m 0)) ∧ Below V.heap.size V w' := HS.out 0 (by decide)
      have A2 := fun V => number_any y 1 (-1073741824) 1073741824 (bitB m 0) V
      have Q := HQ.out.trans RS1.out
      try simp only at Q
      generalize bitB m 0 = tb at *
      generalize hin : inB y (-1073741824) 1073741824 tb = rb at *
      replace A1 := Lib.hid A1
      replace A2 := Lib.hid A2
      replace Q := Lib.hid Q
      clear HS RS0 RS1 RS2 RS3 RS4 RS5 RS6 HQ hin
      have IX := IX1.out
      clear IX0 IX1 IX2 IX3 IX4 IX5 IX6
      have CQ : Hid (∀ W, Below (wr.alloc (.cells #[.int .i64 y, .int .i64 1, .int .i64 (-1073741824), .int .i64 1073741824] 67)).heap.size (wr.alloc (.cells #[.int .i64 y, .int .i64 1, .int .i64 (-1073741824), .int .i64 1073741824] 67)) W → ((W.cell? ⟨w.heap.size, 0, none⟩ = some (.int .i64 s) ∧ W.cell? ⟨w.heap.size, 1, none⟩ = some (.int .i64 i) ∧ W.cell? ⟨w.heap.size, 2, none⟩ = some (.int .i64 g) ∧ W.cell? ⟨w.heap.size, 3, none⟩ = some (.int .i64 m) ∧ W.cell? ⟨w.heap.size, 4, none⟩ = some (.int .i64 x) ∧ W.cell? ⟨w.heap.size, 5, none⟩ = some (.int .i64 y) ∧ W.cell? ⟨w.heap.size, 6, none⟩ = some (.int .i64 vx) ∧ W.cell? ⟨w.heap.size, 7, none⟩ = some (.int .i64 vy) ∧ W.cell? ⟨w.heap.size, 8, none⟩ = some (.int .i64 h) ∧ W.cell? ⟨w.heap.size, 9, none⟩ = some (.int .i64 p) ∧ W.cell? ⟨w.heap.size, 10, none⟩ = some (.int .i64 l)) ∧ (W.cell? ⟨wr.heap.size, 0, none⟩ = some (.int .i64 y) ∧ W.cell? ⟨wr.heap.size, 1, none⟩ = some (.int .i64 1) ∧ W.cell? ⟨wr.heap.size, 2, none⟩ = some (.int .i64 (-1073741824)) ∧ W.cell? ⟨wr.heap.size, 3, none⟩ = some (.int .i64 1073741824))) ∧ Below w1.heap.size w1 W ∧ Below w.heap.size w W) := Lib.hid fun W hW => by
        have h1 : Below w1.heap.size w1 W := (HR.out.trans ((bel1 wr (.cells #[.int .i64 y, .int .i64 1, .int .i64 (-1073741824), .int .i64 1073741824] 67)).mono HR.out.size)).trans (hW.mono (by rw [size1]; have := HR.out.size; omega))
        exact ⟨⟨(CE.out W h1).1, (box4 ((hW.block _ (by rw [size1]; omega)).trans (at1 wr (.cells #[.int .i64 y, .int .i64 1, .int .i64 (-1073741824), .int .i64 1073741824] 67)))).1⟩, h1, (CE.out W h1).2⟩
      go_upto_region 4 with fail
      generalize wr.alloc (.cells #[.int .i64 y, .int .i64 1, .int .i64 (-1073741824), .int .i64 1073741824] 67) = wq at *
      have PC := fun p : Lat grows wq => (CQ.out p.W p.h).1
      obtain ⟨p0, p1⟩ : (∀ p : Lat grows wq, _) ∧ (∀ p : Lat grows wq, _) := ⟨fun p => (PC p).1, fun p => (PC p).2⟩
      have g0 := fun p => (p0 p).1
      have g1 := fun p => (p0 p).2.1
      have g2 := fun p => (p0 p).2.2.1
      have g3 := fun p => (p0 p).2.2.2.1
      have g4 := fun p => (p0 p).2.2.2.2.1
      have g5 := fun p => (p0 p).2.2.2.2.2.1
      have g6 := fun p => (p0 p).2.2.2.2.2.2.1
      have g7 := fun p => (p0 p).2.2.2.2.2.2.2.1
      have g8 := fun p => (p0 p).2.2.2.2.2.2.2.2.1
      have g9 := fun p => (p0 p).2.2.2.2.2.2.2.2.2.1
      have g10 := fun p => (p0 p).2.2.2.2.2.2.2.2.2.2
      have n0 := fun p => (p1 p).1
      have n1 := fun p => (p1 p).2.1
      have n2 := fun p => (p1 p).2.2.1
      have n3 := fun p => (p1 p).2.2.2
      clear PC p0 p1
      refine Og.grow 7 (by kernel_rfl) (by kernel_rfl) fun hc hf => ?_
      clear hc hf
      simp only [List.take_succ_cons, List.take_zero, List.drop_succ_cons, List.drop_zero]
      iterate 4 (refine Og.det [] rfl (fun J hJ => ?_); go_simp; refine hJ _ _ ?_; clear hJ J)
      refine Og.det [] rfl (fun J hJ => ?_)
      go_simp
      with_reducible refine ⟨_, fun p => Og.lays (A1.out p.W), hJ _ _ ?_⟩
      clear hJ J
      refine Og.det [] rfl (fun J hJ => ?_)
      go_simp
      with_reducible refine ⟨_, fun p => Og.lays (A2.out p.W), hJ _ _ ?_⟩
      clear hJ J
      (refine Og.det [] rfl (fun J hJ => ?_); go_simp; refine hJ _ _ ?_; clear hJ J)
      refine Og.fin fun W hW => ?_
      simp only [Og.opened_nil]
      obtain ⟨⟨⟨k0, k1, k2, k3, k4, k5, k6, k7, k8, k9, k10⟩, _⟩, NB1, NB2⟩ := CQ.out W hW
      replace NB1 := Lib.hid NB1
      replace NB2 := Lib.hid NB2
      clear g0  g1  g2  g3  g4  g5  g6  g7  g8  g9  g10 n0 n1 n2 n3 hW CQ A1 A2 IX CE HR WI
      cases rb with
      | true =>
        have Q2 : Hid (res = restB ⟨s, i, g, m, x, y, vx, vy, h, p, l⟩ 2) := Lib.hid (by rw [Q.out, Bool.true_and])
        clear Q
        go_wp2
        go_roundw
        case rel => exact ⟨2, by omega, rfl, NB1, Q2⟩
        case measure => simp [intOf]
      | false =>
        have Q2 : Hid (res = false) := Lib.hid (by rw [Q.out, Bool.false_and])
        clear Q
        go_wp2
        go_ret
        rw [Q2.out]
        exact ⟨rfl, NB2.out⟩
    · have A1 : ∀ V, Calls Try.prog 23 #[.agg #[.int .i64 s, .int .i64 i, .int .i64 g, .int .i64 m, .int .i64 x, .int .i64 y, .int .i64 vx, .int .i64 vy, .int .i64 h, .int .i64 p, .int .i64 l], .int .i64 2] V fun e w' => e = .returned (.bool (bitB m 1)) ∧ Below V.heap.size V w' := HS.out 1 (by decide)
      have A2 := fun V => number_any vx 2 (-1073741824) 1073741824 (bitB m 1) V
      have Q := HQ.out.trans RS2.out
      try simp only at Q
      generalize bitB m 1 = tb at *
      generalize hin : inB vx (-1073741824) 1073741824 tb = rb at *
      replace A1 := Lib.hid A1
      replace A2 := Lib.hid A2
      replace Q := Lib.hid Q
      clear HS RS0 RS1 RS2 RS3 RS4 RS5 RS6 HQ hin
      have IX := IX2.out
      clear IX0 IX1 IX2 IX3 IX4 IX5 IX6
      have CQ : Hid (∀ W, Below (wr.alloc (.cells #[.int .i64 vx, .int .i64 2, .int .i64 (-1073741824), .int .i64 1073741824] 67)).heap.size (wr.alloc (.cells #[.int .i64 vx, .int .i64 2, .int .i64 (-1073741824), .int .i64 1073741824] 67)) W → ((W.cell? ⟨w.heap.size, 0, none⟩ = some (.int .i64 s) ∧ W.cell? ⟨w.heap.size, 1, none⟩ = some (.int .i64 i) ∧ W.cell? ⟨w.heap.size, 2, none⟩ = some (.int .i64 g) ∧ W.cell? ⟨w.heap.size, 3, none⟩ = some (.int .i64 m) ∧ W.cell? ⟨w.heap.size, 4, none⟩ = some (.int .i64 x) ∧ W.cell? ⟨w.heap.size, 5, none⟩ = some (.int .i64 y) ∧ W.cell? ⟨w.heap.size, 6, none⟩ = some (.int .i64 vx) ∧ W.cell? ⟨w.heap.size, 7, none⟩ = some (.int .i64 vy) ∧ W.cell? ⟨w.heap.size, 8, none⟩ = some (.int .i64 h) ∧ W.cell? ⟨w.heap.size, 9, none⟩ = some (.int .i64 p) ∧ W.cell? ⟨w.heap.size, 10, none⟩ = some (.int .i64 l)) ∧ (W.cell? ⟨wr.heap.size, 0, none⟩ = some (.int .i64 vx) ∧ W.cell? ⟨wr.heap.size, 1, none⟩ = some (.int .i64 2) ∧ W.cell? ⟨wr.heap.size, 2, none⟩ = some (.int .i64 (-1073741824)) ∧ W.cell? ⟨wr.heap.size, 3, none⟩ = some (.int .i64 1073741824))) ∧ Below w1.heap.size w1 W ∧ Below w.heap.size w W) := Lib.hid fun W hW => by
        have h1 : Below w1.heap.size w1 W := (HR.out.trans ((bel1 wr (.cells #[.int .i64 vx, .int .i64 2, .int .i64 (-1073741824), .int .i64 1073741824] 67)).mono HR.out.size)).trans (hW.mono (by rw [size1]; have := HR.out.size; omega))
        exact ⟨⟨(CE.out W h1).1, (box4 ((hW.block _ (by rw [size1]; omega)).trans (at1 wr (.cells #[.int .i64 vx, .int .i64 2, .int .i64 (-1073741824), .int .i64 1073741824] 67)))).1⟩, h1, (CE.out W h1).2⟩
      go_upto_region 4 with fail
      generalize wr.alloc (.cells #[.int .i64 vx, .int .i64 2, .int .i64 (-1073741824), .int .i64 1073741824] 67) = wq at *
      have PC := fun p : Lat grows wq => (CQ.out p.W p.h).1
      obtain ⟨p0, p1⟩ : (∀ p : Lat grows wq, _) ∧ (∀ p : Lat grows wq, _) := ⟨fun p => (PC p).1, fun p => (PC p).2⟩
      have g0 := fun p => (p0 p).1
      have g1 := fun p => (p0 p).2.1
      have g2 := fun p => (p0 p).2.2.1
      have g3 := fun p => (p0 p).2.2.2.1
      have g4 := fun p => (p0 p).2.2.2.2.1
      have g5 := fun p => (p0 p).2.2.2.2.2.1
      have g6 := fun p => (p0 p).2.2.2.2.2.2.1
      have g7 := fun p => (p0 p).2.2.2.2.2.2.2.1
      have g8 := fun p => (p0 p).2.2.2.2.2.2.2.2.1
      have g9 := fun p => (p0 p).2.2.2.2.2.2.2.2.2.1
      have g10 := fun p => (p0 p).2.2.2.2.2.2.2.2.2.2
      have n0 := fun p => (p1 p).1
      have n1 := fun p => (p1 p).2.1
      have n2 := fun p => (p1 p).2.2.1
      have n3 := fun p => (p1 p).2.2.2
      clear PC p0 p1
      refine Og.grow 7 (by kernel_rfl) (by kernel_rfl) fun hc hf => ?_
      clear hc hf
      simp only [List.take_succ_cons, List.take_zero, List.drop_succ_cons, List.drop_zero]
      iterate 4 (refine Og.det [] rfl (fun J hJ => ?_); go_simp; refine hJ _ _ ?_; clear hJ J)
      refine Og.det [] rfl (fun J hJ => ?_)
      go_simp
      with_reducible refine ⟨_, fun p => Og.lays (A1.out p.W), hJ _ _ ?_⟩
      clear hJ J
      refine Og.det [] rfl (fun J hJ => ?_)
      go_simp
      with_reducible refine ⟨_, fun p => Og.lays (A2.out p.W), hJ _ _ ?_⟩
      clear hJ J
      (refine Og.det [] rfl (fun J hJ => ?_); go_simp; refine hJ _ _ ?_; clear hJ J)
      refine Og.fin fun W hW => ?_
      simp only [Og.opened_nil]
      obtain ⟨⟨⟨k0, k1, k2, k3, k4, k5, k6, k7, k8, k9, k10⟩, _⟩, NB1, NB2⟩ := CQ.out W hW
      replace NB1 := Lib.hid NB1
      replace NB2 := Lib.hid NB2
      clear g0  g1  g2  g3  g4  g5  g6  g7  g8  g9  g10 n0 n1 n2 n3 hW CQ A1 A2 IX CE HR WI
      cases rb with
      | true =>
        have Q2 : Hid (res = restB ⟨s, i, g, m, x, y, vx, vy, h, p, l⟩ 3) := Lib.hid (by rw [Q.out, Bool.true_and])
        clear Q
        go_wp2
        go_roundw
        case rel => exact ⟨3, by omega, rfl, NB1, Q2⟩
        case measure => simp [intOf]
      | false =>
        have Q2 : Hid (res = false) := Lib.hid (by rw [Q.out, Bool.false_and])
        clear Q
        go_wp2
        go_ret
        rw [Q2.out]
        exact ⟨rfl, NB2.out⟩
    · have A1 : ∀ V, Calls Try.prog 23 #[.agg #[.int .i64 s, .int .i64 i, .int .i64 g, .int .i64 m, .int .i64 x, .int .i64 y, .int .i64 vx, .int .i64 vy, .int .i64 h, .int .i64 p, .int .i64 l], .int .i64 2] V fun e w' => e = .returned (.bool (bitB m 1)) ∧ Below V.heap.size V w' := HS.out 1 (by decide)
      have A2 := fun V => number_any vy 2 (-1073741824) 1073741824 (bitB m 1) V
      have Q := HQ.out.trans RS3.out
      try simp only at Q
      generalize bitB m 1 = tb at *
      generalize hin : inB vy (-1073741824) 1073741824 tb = rb at *
      replace A1 := Lib.hid A1
      replace A2 := Lib.hid A2
      replace Q := Lib.hid Q
      clear HS RS0 RS1 RS2 RS3 RS4 RS5 RS6 HQ hin
      have IX := IX3.out
      clear IX0 IX1 IX2 IX3 IX4 IX5 IX6
      have CQ : Hid (∀ W, Below (wr.alloc (.cells #[.int .i64 vy, .int .i64 2, .int .i64 (-1073741824), .int .i64 1073741824] 67)).heap.size (wr.alloc (.cells #[.int .i64 vy, .int .i64 2, .int .i64 (-1073741824), .int .i64 1073741824] 67)) W → ((W.cell? ⟨w.heap.size, 0, none⟩ = some (.int .i64 s) ∧ W.cell? ⟨w.heap.size, 1, none⟩ = some (.int .i64 i) ∧ W.cell? ⟨w.heap.size, 2, none⟩ = some (.int .i64 g) ∧ W.cell? ⟨w.heap.size, 3, none⟩ = some (.int .i64 m) ∧ W.cell? ⟨w.heap.size, 4, none⟩ = some (.int .i64 x) ∧ W.cell? ⟨w.heap.size, 5, none⟩ = some (.int .i64 y) ∧ W.cell? ⟨w.heap.size, 6, none⟩ = some (.int .i64 vx) ∧ W.cell? ⟨w.heap.size, 7, none⟩ = some (.int .i64 vy) ∧ W.cell? ⟨w.heap.size, 8, none⟩ = some (.int .i64 h) ∧ W.cell? ⟨w.heap.size, 9, none⟩ = some (.int .i64 p) ∧ W.cell? ⟨w.heap.size, 10, none⟩ = some (.int .i64 l)) ∧ (W.cell? ⟨wr.heap.size, 0, none⟩ = some (.int .i64 vy) ∧ W.cell? ⟨wr.heap.size, 1, none⟩ = some (.int .i64 2) ∧ W.cell? ⟨wr.heap.size, 2, none⟩ = some (.int .i64 (-1073741824)) ∧ W.cell? ⟨wr.heap.size, 3, none⟩ = some (.int .i64 1073741824))) ∧ Below w1.heap.size w1 W ∧ Below w.heap.size w W) := Lib.hid fun W hW => by
        have h1 : Below w1.heap.size w1 W := (HR.out.trans ((bel1 wr (.cells #[.int .i64 vy, .int .i64 2, .int .i64 (-1073741824), .int .i64 1073741824] 67)).mono HR.out.size)).trans (hW.mono (by rw [size1]; have := HR.out.size; omega))
        exact ⟨⟨(CE.out W h1).1, (box4 ((hW.block _ (by rw [size1]; omega)).trans (at1 wr (.cells #[.int .i64 vy, .int .i64 2, .int .i64 (-1073741824), .int .i64 1073741824] 67)))).1⟩, h1, (CE.out W h1).2⟩
      go_upto_region 4 with fail
      generalize wr.alloc (.cells #[.int .i64 vy, .int .i64 2, .int .i64 (-1073741824), .int .i64 1073741824] 67) = wq at *
      have PC := fun p : Lat grows wq => (CQ.out p.W p.h).1
      obtain ⟨p0, p1⟩ : (∀ p : Lat grows wq, _) ∧ (∀ p : Lat grows wq, _) := ⟨fun p => (PC p).1, fun p => (PC p).2⟩
      have g0 := fun p => (p0 p).1
      have g1 := fun p => (p0 p).2.1
      have g2 := fun p => (p0 p).2.2.1
      have g3 := fun p => (p0 p).2.2.2.1
      have g4 := fun p => (p0 p).2.2.2.2.1
      have g5 := fun p => (p0 p).2.2.2.2.2.1
      have g6 := fun p => (p0 p).2.2.2.2.2.2.1
      have g7 := fun p => (p0 p).2.2.2.2.2.2.2.1
      have g8 := fun p => (p0 p).2.2.2.2.2.2.2.2.1
      have g9 := fun p => (p0 p).2.2.2.2.2.2.2.2.2.1
      have g10 := fun p => (p0 p).2.2.2.2.2.2.2.2.2.2
      have n0 := fun p => (p1 p).1
      have n1 := fun p => (p1 p).2.1
      have n2 := fun p => (p1 p).2.2.1
      have n3 := fun p => (p1 p).2.2.2
      clear PC p0 p1
      refine Og.grow 7 (by kernel_rfl) (by kernel_rfl) fun hc hf => ?_
      clear hc hf
      simp only [List.take_succ_cons, List.take_zero, List.drop_succ_cons, List.drop_zero]
      iterate 4 (refine Og.det [] rfl (fun J hJ => ?_); go_simp; refine hJ _ _ ?_; clear hJ J)
      refine Og.det [] rfl (fun J hJ => ?_)
      go_simp
      with_reducible refine ⟨_, fun p => Og.lays (A1.out p.W), hJ _ _ ?_⟩
      clear hJ J
      refine Og.det [] rfl (fun J hJ => ?_)
      go_simp
      with_reducible refine ⟨_, fun p => Og.lays (A2.out p.W), hJ _ _ ?_⟩
      clear hJ J
      (refine Og.det [] rfl (fun J hJ => ?_); go_simp; refine hJ _ _ ?_; clear hJ J)
      refine Og.fin fun W hW => ?_
      simp only [Og.opened_nil]
      obtain ⟨⟨⟨k0, k1, k2, k3, k4, k5, k6, k7, k8, k9, k10⟩, _⟩, NB1, NB2⟩ := CQ.out W hW
      replace NB1 := Lib.hid NB1
      replace NB2 := Lib.hid NB2
      clear g0  g1  g2  g3  g4  g5  g6  g7  g8  g9  g10 n0 n1 n2 n3 hW CQ A1 A2 IX CE HR WI
      cases rb with
      | true =>
        have Q2 : Hid (res = restB ⟨s, i, g, m, x, y, vx, vy, h, p, l⟩ 4) := Lib.hid (by rw [Q.out, Bool.true_and])
        clear Q
        go_wp2
        go_roundw
        case rel => exact ⟨4, by omega, rfl, NB1, Q2⟩
        case measure => simp [intOf]
      | false =>
        have Q2 : Hid (res = false) := Lib.hid (by rw [Q.out, Bool.false_and])
        clear Q
        go_wp2
        go_ret
        rw [Q2.out]
        exact ⟨rfl, NB2.out⟩
    · have A1 : ∀ V, Calls Try.prog 23 #[.agg #[.int .i64 s, .int .i64 i, .int .i64 g, .int .i64 m, .int .i64 x, .int .i64 y, .int .i64 vx, .int .i64 vy, .int .i64 h, .int .i64 p, .int .i64 l], .int .i64 4] V fun e w' => e = .returned (.bool (bitB m 2)) ∧ Below V.heap.size V w' := HS.out 2 (by decide)
      have A2 := fun V => number_any h 4 1 1048576 (bitB m 2) V
      have Q := HQ.out.trans RS4.out
      try simp only at Q
      generalize bitB m 2 = tb at *
      generalize hin : inB h 1 1048576 tb = rb at *
      replace A1 := Lib.hid A1
      replace A2 := Lib.hid A2
      replace Q := Lib.hid Q
      clear HS RS0 RS1 RS2 RS3 RS4 RS5 RS6 HQ hin
      have IX := IX4.out
      clear IX0 IX1 IX2 IX3 IX4 IX5 IX6
      have CQ : Hid (∀ W, Below (wr.alloc (.cells #[.int .i64 h, .int .i64 4, .int .i64 1, .int .i64 1048576] 67)).heap.size (wr.alloc (.cells #[.int .i64 h, .int .i64 4, .int .i64 1, .int .i64 1048576] 67)) W → ((W.cell? ⟨w.heap.size, 0, none⟩ = some (.int .i64 s) ∧ W.cell? ⟨w.heap.size, 1, none⟩ = some (.int .i64 i) ∧ W.cell? ⟨w.heap.size, 2, none⟩ = some (.int .i64 g) ∧ W.cell? ⟨w.heap.size, 3, none⟩ = some (.int .i64 m) ∧ W.cell? ⟨w.heap.size, 4, none⟩ = some (.int .i64 x) ∧ W.cell? ⟨w.heap.size, 5, none⟩ = some (.int .i64 y) ∧ W.cell? ⟨w.heap.size, 6, none⟩ = some (.int .i64 vx) ∧ W.cell? ⟨w.heap.size, 7, none⟩ = some (.int .i64 vy) ∧ W.cell? ⟨w.heap.size, 8, none⟩ = some (.int .i64 h) ∧ W.cell? ⟨w.heap.size, 9, none⟩ = some (.int .i64 p) ∧ W.cell? ⟨w.heap.size, 10, none⟩ = some (.int .i64 l)) ∧ (W.cell? ⟨wr.heap.size, 0, none⟩ = some (.int .i64 h) ∧ W.cell? ⟨wr.heap.size, 1, none⟩ = some (.int .i64 4) ∧ W.cell? ⟨wr.heap.size, 2, none⟩ = some (.int .i64 1) ∧ W.cell? ⟨wr.heap.size, 3, none⟩ = some (.int .i64 1048576))) ∧ Below w1.heap.size w1 W ∧ Below w.heap.size w W) := Lib.hid fun W hW => by
        have h1 : Below w1.heap.size w1 W := (HR.out.trans ((bel1 wr (.cells #[.int .i64 h, .int .i64 4, .int .i64 1, .int .i64 1048576] 67)).mono HR.out.size)).trans (hW.mono (by rw [size1]; have := HR.out.size; omega))
        exact ⟨⟨(CE.out W h1).1, (box4 ((hW.block _ (by rw [size1]; omega)).trans (at1 wr (.cells #[.int .i64 h, .int .i64 4, .int .i64 1, .int .i64 1048576] 67)))).1⟩, h1, (CE.out W h1).2⟩
      go_upto_region 4 with fail
      generalize wr.alloc (.cells #[.int .i64 h, .int .i64 4, .int .i64 1, .int .i64 1048576] 67) = wq at *
      have PC := fun p : Lat grows wq => (CQ.out p.W p.h).1
      obtain ⟨p0, p1⟩ : (∀ p : Lat grows wq, _) ∧ (∀ p : Lat grows wq, _) := ⟨fun p => (PC p).1, fun p => (PC p).2⟩
      have g0 := fun p => (p0 p).1
      have g1 := fun p => (p0 p).2.1
      have g2 := fun p => (p0 p).2.2.1
      have g3 := fun p => (p0 p).2.2.2.1
      have g4 := fun p => (p0 p).2.2.2.2.1
      have g5 := fun p => (p0 p).2.2.2.2.2.1
      have g6 := fun p => (p0 p).2.2.2.2.2.2.1
      have g7 := fun p => (p0 p).2.2.2.2.2.2.2.1
      have g8 := fun p => (p0 p).2.2.2.2.2.2.2.2.1
      have g9 := fun p => (p0 p).2.2.2.2.2.2.2.2.2.1
      have g10 := fun p => (p0 p).2.2.2.2.2.2.2.2.2.2
      have n0 := fun p => (p1 p).1
      have n1 := fun p => (p1 p).2.1
      have n2 := fun p => (p1 p).2.2.1
      have n3 := fun p => (p1 p).2.2.2
      clear PC p0 p1
      refine Og.grow 7 (by kernel_rfl) (by kernel_rfl) fun hc hf => ?_
      clear hc hf
      simp only [List.take_succ_cons, List.take_zero, List.drop_succ_cons, List.drop_zero]
      iterate 4 (refine Og.det [] rfl (fun J hJ => ?_); go_simp; refine hJ _ _ ?_; clear hJ J)
      refine Og.det [] rfl (fun J hJ => ?_)
      go_simp
      with_reducible refine ⟨_, fun p => Og.lays (A1.out p.W), hJ _ _ ?_⟩
      clear hJ J
      refine Og.det [] rfl (fun J hJ => ?_)
      go_simp
      with_reducible refine ⟨_, fun p => Og.lays (A2.out p.W), hJ _ _ ?_⟩
      clear hJ J
      (refine Og.det [] rfl (fun J hJ => ?_); go_simp; refine hJ _ _ ?_; clear hJ J)
      refine Og.fin fun W hW => ?_
      simp only [Og.opened_nil]
      obtain ⟨⟨⟨k0, k1, k2, k3, k4, k5, k6, k7, k8, k9, k10⟩, _⟩, NB1, NB2⟩ := CQ.out W hW
      replace NB1 := Lib.hid NB1
      replace NB2 := Lib.hid NB2
      clear g0  g1  g2  g3  g4  g5  g6  g7  g8  g9  g10 n0 n1 n2 n3 hW CQ A1 A2 IX CE HR WI
      cases rb with
      | true =>
        have Q2 : Hid (res = restB ⟨s, i, g, m, x, y, vx, vy, h, p, l⟩ 5) := Lib.hid (by rw [Q.out, Bool.true_and])
        clear Q
        go_wp2
        go_roundw
        case rel => exact ⟨5, by omega, rfl, NB1, Q2⟩
        case measure => simp [intOf]
      | false =>
        have Q2 : Hid (res = false) := Lib.hid (by rw [Q.out, Bool.false_and])
        clear Q
        go_wp2
        go_ret
        rw [Q2.out]
        exact ⟨rfl, NB2.out⟩
    · have A1 : ∀ V, Calls Try.prog 23 #[.agg #[.int .i64 s, .int .i64 i, .int .i64 g, .int .i64 m, .int .i64 x, .int .i64 y, .int .i64 vx, .int .i64 vy, .int .i64 h, .int .i64 p, .int .i64 l], .int .i64 8] V fun e w' => e = .returned (.bool (bitB m 3)) ∧ Below V.heap.size V w' := HS.out 3 (by decide)
      have A2 := fun V => number_any p 8 0 1024 (bitB m 3) V
      have Q := HQ.out.trans RS5.out
      try simp only at Q
      generalize bitB m 3 = tb at *
      generalize hin : inB p 0 1024 tb = rb at *
      replace A1 := Lib.hid A1
      replace A2 := Lib.hid A2
      replace Q := Lib.hid Q
      clear HS RS0 RS1 RS2 RS3 RS4 RS5 RS6 HQ hin
      have IX := IX5.out
      clear IX0 IX1 IX2 IX3 IX4 IX5 IX6
      have CQ : Hid (∀ W, Below (wr.alloc (.cells #[.int .i64 p, .int .i64 8, .int .i64 0, .int .i64 1024] 67)).heap.size (wr.alloc (.cells #[.int .i64 p, .int .i64 8, .int .i64 0, .int .i64 1024] 67)) W → ((W.cell? ⟨w.heap.size, 0, none⟩ = some (.int .i64 s) ∧ W.cell? ⟨w.heap.size, 1, none⟩ = some (.int .i64 i) ∧ W.cell? ⟨w.heap.size, 2, none⟩ = some (.int .i64 g) ∧ W.cell? ⟨w.heap.size, 3, none⟩ = some (.int .i64 m) ∧ W.cell? ⟨w.heap.size, 4, none⟩ = some (.int .i64 x) ∧ W.cell? ⟨w.heap.size, 5, none⟩ = some (.int .i64 y) ∧ W.cell? ⟨w.heap.size, 6, none⟩ = some (.int .i64 vx) ∧ W.cell? ⟨w.heap.size, 7, none⟩ = some (.int .i64 vy) ∧ W.cell? ⟨w.heap.size, 8, none⟩ = some (.int .i64 h) ∧ W.cell? ⟨w.heap.size, 9, none⟩ = some (.int .i64 p) ∧ W.cell? ⟨w.heap.size, 10, none⟩ = some (.int .i64 l)) ∧ (W.cell? ⟨wr.heap.size, 0, none⟩ = some (.int .i64 p) ∧ W.cell? ⟨wr.heap.size, 1, none⟩ = some (.int .i64 8) ∧ W.cell? ⟨wr.heap.size, 2, none⟩ = some (.int .i64 0) ∧ W.cell? ⟨wr.heap.size, 3, none⟩ = some (.int .i64 1024))) ∧ Below w1.heap.size w1 W ∧ Below w.heap.size w W) := Lib.hid fun W hW => by
        have h1 : Below w1.heap.size w1 W := (HR.out.trans ((bel1 wr (.cells #[.int .i64 p, .int .i64 8, .int .i64 0, .int .i64 1024] 67)).mono HR.out.size)).trans (hW.mono (by rw [size1]; have := HR.out.size; omega))
        exact ⟨⟨(CE.out W h1).1, (box4 ((hW.block _ (by rw [size1]; omega)).trans (at1 wr (.cells #[.int .i64 p, .int .i64 8, .int .i64 0, .int .i64 1024] 67)))).1⟩, h1, (CE.out W h1).2⟩
      go_upto_region 4 with fail
      generalize wr.alloc (.cells #[.int .i64 p, .int .i64 8, .int .i64 0, .int .i64 1024] 67) = wq at *
      have PC := fun p : Lat grows wq => (CQ.out p.W p.h).1
      obtain ⟨p0, p1⟩ : (∀ p : Lat grows wq, _) ∧ (∀ p : Lat grows wq, _) := ⟨fun p => (PC p).1, fun p => (PC p).2⟩
      have g0 := fun p => (p0 p).1
      have g1 := fun p => (p0 p).2.1
      have g2 := fun p => (p0 p).2.2.1
      have g3 := fun p => (p0 p).2.2.2.1
      have g4 := fun p => (p0 p).2.2.2.2.1
      have g5 := fun p => (p0 p).2.2.2.2.2.1
      have g6 := fun p => (p0 p).2.2.2.2.2.2.1
      have g7 := fun p => (p0 p).2.2.2.2.2.2.2.1
      have g8 := fun p => (p0 p).2.2.2.2.2.2.2.2.1
      have g9 := fun p => (p0 p).2.2.2.2.2.2.2.2.2.1
      have g10 := fun p => (p0 p).2.2.2.2.2.2.2.2.2.2
      have n0 := fun p => (p1 p).1
      have n1 := fun p => (p1 p).2.1
      have n2 := fun p => (p1 p).2.2.1
      have n3 := fun p => (p1 p).2.2.2
      clear PC p0 p1
      refine Og.grow 7 (by kernel_rfl) (by kernel_rfl) fun hc hf => ?_
      clear hc hf
      simp only [List.take_succ_cons, List.take_zero, List.drop_succ_cons, List.drop_zero]
      iterate 4 (refine Og.det [] rfl (fun J hJ => ?_); go_simp; refine hJ _ _ ?_; clear hJ J)
      refine Og.det [] rfl (fun J hJ => ?_)
      go_simp
      with_reducible refine ⟨_, fun p => Og.lays (A1.out p.W), hJ _ _ ?_⟩
      clear hJ J
      refine Og.det [] rfl (fun J hJ => ?_)
      go_simp
      with_reducible refine ⟨_, fun p => Og.lays (A2.out p.W), hJ _ _ ?_⟩
      clear hJ J
      (refine Og.det [] rfl (fun J hJ => ?_); go_simp; refine hJ _ _ ?_; clear hJ J)
      refine Og.fin fun W hW => ?_
      simp only [Og.opened_nil]
      obtain ⟨⟨⟨k0, k1, k2, k3, k4, k5, k6, k7, k8, k9, k10⟩, _⟩, NB1, NB2⟩ := CQ.out W hW
      replace NB1 := Lib.hid NB1
      replace NB2 := Lib.hid NB2
      clear g0  g1  g2  g3  g4  g5  g6  g7  g8  g9  g10 n0 n1 n2 n3 hW CQ A1 A2 IX CE HR WI
      cases rb with
      | true =>
        have Q2 : Hid (res = restB ⟨s, i, g, m, x, y, vx, vy, h, p, l⟩ 6) := Lib.hid (by rw [Q.out, Bool.true_and])
        clear Q
        go_wp2
        go_roundw
        case rel => exact ⟨6, by omega, rfl, NB1, Q2⟩
        case measure => simp [intOf]
      | false =>
        have Q2 : Hid (res = false) := Lib.hid (by rw [Q.out, Bool.false_and])
        clear Q
        go_wp2
        go_ret
        rw [Q2.out]
        exact ⟨rfl, NB2.out⟩
    · have A1 : ∀ V, Calls Try.prog 23 #[.agg #[.int .i64 s, .int .i64 i, .int .i64 g, .int .i64 m, .int .i64 x, .int .i64 y, .int .i64 vx, .int .i64 vy, .int .i64 h, .int .i64 p, .int .i64 l], .int .i64 16] V fun e w' => e = .returned (.bool (bitB m 4)) ∧ Below V.heap.size V w' := HS.out 4 (by decide)
      have A2 := fun V => number_any l 16 1 1048576 (bitB m 4) V
      have Q := HQ.out.trans RS6.out
      try simp only at Q
      generalize bitB m 4 = tb at *
      generalize hin : inB l 1 1048576 tb = rb at *
      replace A1 := Lib.hid A1
      replace A2 := Lib.hid A2
      replace Q := Lib.hid Q
      clear HS RS0 RS1 RS2 RS3 RS4 RS5 RS6 HQ hin
      have IX := IX6.out
      clear IX0 IX1 IX2 IX3 IX4 IX5 IX6
      have CQ : Hid (∀ W, Below (wr.alloc (.cells #[.int .i64 l, .int .i64 16, .int .i64 1, .int .i64 1048576] 67)).heap.size (wr.alloc (.cells #[.int .i64 l, .int .i64 16, .int .i64 1, .int .i64 1048576] 67)) W → ((W.cell? ⟨w.heap.size, 0, none⟩ = some (.int .i64 s) ∧ W.cell? ⟨w.heap.size, 1, none⟩ = some (.int .i64 i) ∧ W.cell? ⟨w.heap.size, 2, none⟩ = some (.int .i64 g) ∧ W.cell? ⟨w.heap.size, 3, none⟩ = some (.int .i64 m) ∧ W.cell? ⟨w.heap.size, 4, none⟩ = some (.int .i64 x) ∧ W.cell? ⟨w.heap.size, 5, none⟩ = some (.int .i64 y) ∧ W.cell? ⟨w.heap.size, 6, none⟩ = some (.int .i64 vx) ∧ W.cell? ⟨w.heap.size, 7, none⟩ = some (.int .i64 vy) ∧ W.cell? ⟨w.heap.size, 8, none⟩ = some (.int .i64 h) ∧ W.cell? ⟨w.heap.size, 9, none⟩ = some (.int .i64 p) ∧ W.cell? ⟨w.heap.size, 10, none⟩ = some (.int .i64 l)) ∧ (W.cell? ⟨wr.heap.size, 0, none⟩ = some (.int .i64 l) ∧ W.cell? ⟨wr.heap.size, 1, none⟩ = some (.int .i64 16) ∧ W.cell? ⟨wr.heap.size, 2, none⟩ = some (.int .i64 1) ∧ W.cell? ⟨wr.heap.size, 3, none⟩ = some (.int .i64 1048576))) ∧ Below w1.heap.size w1 W ∧ Below w.heap.size w W) := Lib.hid fun W hW => by
        have h1 : Below w1.heap.size w1 W := (HR.out.trans ((bel1 wr (.cells #[.int .i64 l, .int .i64 16, .int .i64 1, .int .i64 1048576] 67)).mono HR.out.size)).trans (hW.mono (by rw [size1]; have := HR.out.size; omega))
        exact ⟨⟨(CE.out W h1).1, (box4 ((hW.block _ (by rw [size1]; omega)).trans (at1 wr (.cells #[.int .i64 l, .int .i64 16, .int .i64 1, .int .i64 1048576] 67)))).1⟩, h1, (CE.out W h1).2⟩
      go_upto_region 4 with fail
      generalize wr.alloc (.cells #[.int .i64 l, .int .i64 16, .int .i64 1, .int .i64 1048576] 67) = wq at *
      have PC := fun p : Lat grows wq => (CQ.out p.W p.h).1
      obtain ⟨p0, p1⟩ : (∀ p : Lat grows wq, _) ∧ (∀ p : Lat grows wq, _) := ⟨fun p => (PC p).1, fun p => (PC p).2⟩
      have g0 := fun p => (p0 p).1
      have g1 := fun p => (p0 p).2.1
      have g2 := fun p => (p0 p).2.2.1
      have g3 := fun p => (p0 p).2.2.2.1
      have g4 := fun p => (p0 p).2.2.2.2.1
      have g5 := fun p => (p0 p).2.2.2.2.2.1
      have g6 := fun p => (p0 p).2.2.2.2.2.2.1
      have g7 := fun p => (p0 p).2.2.2.2.2.2.2.1
      have g8 := fun p => (p0 p).2.2.2.2.2.2.2.2.1
      have g9 := fun p => (p0 p).2.2.2.2.2.2.2.2.2.1
      have g10 := fun p => (p0 p).2.2.2.2.2.2.2.2.2.2
      have n0 := fun p => (p1 p).1
      have n1 := fun p => (p1 p).2.1
      have n2 := fun p => (p1 p).2.2.1
      have n3 := fun p => (p1 p).2.2.2
      clear PC p0 p1
      refine Og.grow 7 (by kernel_rfl) (by kernel_rfl) fun hc hf => ?_
      clear hc hf
      simp only [List.take_succ_cons, List.take_zero, List.drop_succ_cons, List.drop_zero]
      iterate 4 (refine Og.det [] rfl (fun J hJ => ?_); go_simp; refine hJ _ _ ?_; clear hJ J)
      refine Og.det [] rfl (fun J hJ => ?_)
      go_simp
      with_reducible refine ⟨_, fun p => Og.lays (A1.out p.W), hJ _ _ ?_⟩
      clear hJ J
      refine Og.det [] rfl (fun J hJ => ?_)
      go_simp
      with_reducible refine ⟨_, fun p => Og.lays (A2.out p.W), hJ _ _ ?_⟩
      clear hJ J
      (refine Og.det [] rfl (fun J hJ => ?_); go_simp; refine hJ _ _ ?_; clear hJ J)
      refine Og.fin fun W hW => ?_
      simp only [Og.opened_nil]
      obtain ⟨⟨⟨k0, k1, k2, k3, k4, k5, k6, k7, k8, k9, k10⟩, _⟩, NB1, NB2⟩ := CQ.out W hW
      replace NB1 := Lib.hid NB1
      replace NB2 := Lib.hid NB2
      clear g0  g1  g2  g3  g4  g5  g6  g7  g8  g9  g10 n0 n1 n2 n3 hW CQ A1 A2 IX CE HR WI
      cases rb with
      | true =>
        have Q2 : Hid (res = restB ⟨s, i, g, m, x, y, vx, vy, h, p, l⟩ 7) := Lib.hid (by rw [Q.out, Bool.true_and])
        clear Q
        go_wp2
        go_roundw
        case rel => exact ⟨7, by omega, rfl, NB1, Q2⟩
        case measure => simp [intOf]
      | false =>
        have Q2 : Hid (res = false) := Lib.hid (by rw [Q.out, Bool.false_and])
        clear Q
        go_wp2
        go_ret
        rw [Q2.out]
        exact ⟨rfl, NB2.out⟩
    · have WIX := WI.out
      have Q2 : Hid (res = within m 0 31) := Lib.hid (HQ.out.trans R8.out)
      clear WI HQ R8 HS RS0 IX0 RS1 IX1 RS2 IX2 RS3 IX3 RS4 IX4 RS5 IX5 RS6 IX6
      try simp only at WIX
      replace WIX := Lib.hid WIX
      generalize within m 0 31 = rb at *
      obtain ⟨⟨k0, k1, k2, k3, k4, k5, k6, k7, k8, k9, k10⟩, NB2⟩ := CE.out wr HR.out
      replace NB2 := Lib.hid NB2
      clear CE HR
      go_wp2_with (go_at_call 48; with_reducible refine (WIX.out _).mono ?_; rintro e w' ⟨rfl, rfl⟩)
      go_ret
      rw [Q2.out]
      exact ⟨rfl, NB2.out⟩
end Go.Proofs.Ytookmjdnmmfkfaa
