/- The code's codec: what messages of a kind have. Written by wip/tools/gencdsh.py. -/
import Derived.Test.YtdhlebmgeiiejaaGreatKPure
import Derived.Test.YtdhlebmgeiiejaaGreatKBase
import Derived.Test.YtdhlebmgeiiejaaGreatKRdr
import Derived.Deep.DeepCutAuto
import Derived.Deep.QuietTactic
namespace Go.Proofs.YtdhlebmgeiiejaaGreat
open Go.RowKit Pz Cd
set_option linter.unusedVariables false
set_option linter.unusedSimpArgs false

namespace Cd
def nC (k : Int) : Int := if k = 1 then 64 else 0
def nB (k : Int) : Int := if k = 7 then 1 else if k = 12 then 1024 else 0
def nI (k : Int) : Int := if k = 4 then 1024 else 0
def isK (k : Int) : Bool := decide (1 ≤ k) && decide (k ≤ 12)
end Cd
abbrev shV (k : Int) : Value := .agg #[.bool (hasT k), .bool (hasN k), .int .i64 (nC k), .int .i64 (nB k), .int .i64 (nI k)]
abbrev SHT : TypeId := 104
set_option maxHeartbeats 8000000 in
set_option maxRecDepth 100000 in
theorem shape_1 (w : World) : Calls Tryz.prog 64 #[.int .i64 1] w fun e w' => e = .returned (.tuple #[.agg #[.bool true, .bool false, .int .i64 64, .int .i64 0, .int .i64 0], .bool true]) ∧ Below w.heap.size w w' := by
  have T0 := at1 w (.cells #[.bool false, .bool false, .int .i64 0, .int .i64 0, .int .i64 0] SHT)
  have BE := bel1 w (.cells #[.bool false, .bool false, .int .i64 0, .int .i64 0, .int .i64 0] SHT)
  obtain ⟨⟨k0, k1, k2, k3, k4⟩, ⟨f0, f1, f2, f3, f4⟩⟩ := Bx.b5 T0
  have HP := Lib.hid (Bx.b5 (Bx.set5 T0 (.bool true) (.bool false) (.int .i64 64) (.int .i64 0) (.int .i64 0))).1
  have HQ := Lib.hid (((((BE.setCell (p := ⟨w.heap.size, 0, none⟩) (Nat.le_refl _) (.bool true)).setCell (p := ⟨w.heap.size, 1, none⟩) (Nat.le_refl _) (.bool false)).setCell (p := ⟨w.heap.size, 2, none⟩) (Nat.le_refl _) (.int .i64 64)).setCell (p := ⟨w.heap.size, 3, none⟩) (Nat.le_refl _) (.int .i64 0)).setCell (p := ⟨w.heap.size, 4, none⟩) (Nat.le_refl _) (.int .i64 0))
  clear T0 BE
  go_enter Tryz.func64, Tryz.ntmps64
  go_upto_region 1 with fail
  generalize w.alloc (.cells #[.bool false, .bool false, .int .i64 0, .int .i64 0, .int .i64 0] SHT) = w1 at *
  go_wp2
  obtain ⟨p0, p1, p2, p3, p4⟩ := HP.out
  exact bodyPost_ret (v := .tuple #[.agg #[.bool true, .bool false, .int .i64 64, .int .i64 0, .int .i64 0], .bool true]) (by simp [results, Tryz.results64, go_sem, p0, p1, p2, p3, p4]) rfl ⟨rfl, HQ.out⟩
set_option maxHeartbeats 8000000 in
set_option maxRecDepth 100000 in
theorem shape_2 (w : World) : Calls Tryz.prog 64 #[.int .i64 2] w fun e w' => e = .returned (.tuple #[.agg #[.bool true, .bool false, .int .i64 0, .int .i64 0, .int .i64 0], .bool true]) ∧ Below w.heap.size w w' := by
  have T0 := at1 w (.cells #[.bool false, .bool false, .int .i64 0, .int .i64 0, .int .i64 0] SHT)
  have BE := bel1 w (.cells #[.bool false, .bool false, .int .i64 0, .int .i64 0, .int .i64 0] SHT)
  obtain ⟨⟨k0, k1, k2, k3, k4⟩, ⟨f0, f1, f2, f3, f4⟩⟩ := Bx.b5 T0
  have HP := Lib.hid (Bx.b5 (Bx.set5 T0 (.bool true) (.bool false) (.int .i64 0) (.int .i64 0) (.int .i64 0))).1
  have HQ := Lib.hid (((((BE.setCell (p := ⟨w.heap.size, 0, none⟩) (Nat.le_refl _) (.bool true)).setCell (p := ⟨w.heap.size, 1, none⟩) (Nat.le_refl _) (.bool false)).setCell (p := ⟨w.heap.size, 2, none⟩) (Nat.le_refl _) (.int .i64 0)).setCell (p := ⟨w.heap.size, 3, none⟩) (Nat.le_refl _) (.int .i64 0)).setCell (p := ⟨w.heap.size, 4, none⟩) (Nat.le_refl _) (.int .i64 0))
  clear T0 BE
  go_enter Tryz.func64, Tryz.ntmps64
  go_upto_region 1 with fail
  generalize w.alloc (.cells #[.bool false, .bool false, .int .i64 0, .int .i64 0, .int .i64 0] SHT) = w1 at *
  go_wp2
  obtain ⟨p0, p1, p2, p3, p4⟩ := HP.out
  exact bodyPost_ret (v := .tuple #[.agg #[.bool true, .bool false, .int .i64 0, .int .i64 0, .int .i64 0], .bool true]) (by simp [results, Tryz.results64, go_sem, p0, p1, p2, p3, p4]) rfl ⟨rfl, HQ.out⟩
set_option maxHeartbeats 8000000 in
set_option maxRecDepth 100000 in
theorem shape_3 (w : World) : Calls Tryz.prog 64 #[.int .i64 3] w fun e w' => e = .returned (.tuple #[.agg #[.bool true, .bool false, .int .i64 0, .int .i64 0, .int .i64 0], .bool true]) ∧ Below w.heap.size w w' := by
  have T0 := at1 w (.cells #[.bool false, .bool false, .int .i64 0, .int .i64 0, .int .i64 0] SHT)
  have BE := bel1 w (.cells #[.bool false, .bool false, .int .i64 0, .int .i64 0, .int .i64 0] SHT)
  obtain ⟨⟨k0, k1, k2, k3, k4⟩, ⟨f0, f1, f2, f3, f4⟩⟩ := Bx.b5 T0
  have HP := Lib.hid (Bx.b5 (Bx.set5 T0 (.bool true) (.bool false) (.int .i64 0) (.int .i64 0) (.int .i64 0))).1
  have HQ := Lib.hid (((((BE.setCell (p := ⟨w.heap.size, 0, none⟩) (Nat.le_refl _) (.bool true)).setCell (p := ⟨w.heap.size, 1, none⟩) (Nat.le_refl _) (.bool false)).setCell (p := ⟨w.heap.size, 2, none⟩) (Nat.le_refl _) (.int .i64 0)).setCell (p := ⟨w.heap.size, 3, none⟩) (Nat.le_refl _) (.int .i64 0)).setCell (p := ⟨w.heap.size, 4, none⟩) (Nat.le_refl _) (.int .i64 0))
  clear T0 BE
  go_enter Tryz.func64, Tryz.ntmps64
  go_upto_region 1 with fail
  generalize w.alloc (.cells #[.bool false, .bool false, .int .i64 0, .int .i64 0, .int .i64 0] SHT) = w1 at *
  go_wp2
  obtain ⟨p0, p1, p2, p3, p4⟩ := HP.out
  exact bodyPost_ret (v := .tuple #[.agg #[.bool true, .bool false, .int .i64 0, .int .i64 0, .int .i64 0], .bool true]) (by simp [results, Tryz.results64, go_sem, p0, p1, p2, p3, p4]) rfl ⟨rfl, HQ.out⟩
set_option maxHeartbeats 8000000 in
set_option maxRecDepth 100000 in
theorem shape_4 (w : World) : Calls Tryz.prog 64 #[.int .i64 4] w fun e w' => e = .returned (.tuple #[.agg #[.bool true, .bool false, .int .i64 0, .int .i64 0, .int .i64 1024], .bool true]) ∧ Below w.heap.size w w' := by
  have T0 := at1 w (.cells #[.bool false, .bool false, .int .i64 0, .int .i64 0, .int .i64 0] SHT)
  have BE := bel1 w (.cells #[.bool false, .bool false, .int .i64 0, .int .i64 0, .int .i64 0] SHT)
  obtain ⟨⟨k0, k1, k2, k3, k4⟩, ⟨f0, f1, f2, f3, f4⟩⟩ := Bx.b5 T0
  have HP := Lib.hid (Bx.b5 (Bx.set5 T0 (.bool true) (.bool false) (.int .i64 0) (.int .i64 0) (.int .i64 1024))).1
  have HQ := Lib.hid (((((BE.setCell (p := ⟨w.heap.size, 0, none⟩) (Nat.le_refl _) (.bool true)).setCell (p := ⟨w.heap.size, 1, none⟩) (Nat.le_refl _) (.bool false)).setCell (p := ⟨w.heap.size, 2, none⟩) (Nat.le_refl _) (.int .i64 0)).setCell (p := ⟨w.heap.size, 3, none⟩) (Nat.le_refl _) (.int .i64 0)).setCell (p := ⟨w.heap.size, 4, none⟩) (Nat.le_refl _) (.int .i64 1024))
  clear T0 BE
  go_enter Tryz.func64, Tryz.ntmps64
  go_upto_region 1 with fail
  generalize w.alloc (.cells #[.bool false, .bool false, .int .i64 0, .int .i64 0, .int .i64 0] SHT) = w1 at *
  go_wp2
  obtain ⟨p0, p1, p2, p3, p4⟩ := HP.out
  exact bodyPost_ret (v := .tuple #[.agg #[.bool true, .bool false, .int .i64 0, .int .i64 0, .int .i64 1024], .bool true]) (by simp [results, Tryz.results64, go_sem, p0, p1, p2, p3, p4]) rfl ⟨rfl, HQ.out⟩
set_option maxHeartbeats 8000000 in
set_option maxRecDepth 100000 in
theorem shape_5 (w : World) : Calls Tryz.prog 64 #[.int .i64 5] w fun e w' => e = .returned (.tuple #[.agg #[.bool true, .bool false, .int .i64 0, .int .i64 0, .int .i64 0], .bool true]) ∧ Below w.heap.size w w' := by
  have T0 := at1 w (.cells #[.bool false, .bool false, .int .i64 0, .int .i64 0, .int .i64 0] SHT)
  have BE := bel1 w (.cells #[.bool false, .bool false, .int .i64 0, .int .i64 0, .int .i64 0] SHT)
  obtain ⟨⟨k0, k1, k2, k3, k4⟩, ⟨f0, f1, f2, f3, f4⟩⟩ := Bx.b5 T0
  have HP := Lib.hid (Bx.b5 (Bx.set5 T0 (.bool true) (.bool false) (.int .i64 0) (.int .i64 0) (.int .i64 0))).1
  have HQ := Lib.hid (((((BE.setCell (p := ⟨w.heap.size, 0, none⟩) (Nat.le_refl _) (.bool true)).setCell (p := ⟨w.heap.size, 1, none⟩) (Nat.le_refl _) (.bool false)).setCell (p := ⟨w.heap.size, 2, none⟩) (Nat.le_refl _) (.int .i64 0)).setCell (p := ⟨w.heap.size, 3, none⟩) (Nat.le_refl _) (.int .i64 0)).setCell (p := ⟨w.heap.size, 4, none⟩) (Nat.le_refl _) (.int .i64 0))
  clear T0 BE
  go_enter Tryz.func64, Tryz.ntmps64
  go_upto_region 1 with fail
  generalize w.alloc (.cells #[.bool false, .bool false, .int .i64 0, .int .i64 0, .int .i64 0] SHT) = w1 at *
  go_wp2
  obtain ⟨p0, p1, p2, p3, p4⟩ := HP.out
  exact bodyPost_ret (v := .tuple #[.agg #[.bool true, .bool false, .int .i64 0, .int .i64 0, .int .i64 0], .bool true]) (by simp [results, Tryz.results64, go_sem, p0, p1, p2, p3, p4]) rfl ⟨rfl, HQ.out⟩
set_option maxHeartbeats 8000000 in
set_option maxRecDepth 100000 in
theorem shape_6 (w : World) : Calls Tryz.prog 64 #[.int .i64 6] w fun e w' => e = .returned (.tuple #[.agg #[.bool true, .bool false, .int .i64 0, .int .i64 0, .int .i64 0], .bool true]) ∧ Below w.heap.size w w' := by
  have T0 := at1 w (.cells #[.bool false, .bool false, .int .i64 0, .int .i64 0, .int .i64 0] SHT)
  have BE := bel1 w (.cells #[.bool false, .bool false, .int .i64 0, .int .i64 0, .int .i64 0] SHT)
  obtain ⟨⟨k0, k1, k2, k3, k4⟩, ⟨f0, f1, f2, f3, f4⟩⟩ := Bx.b5 T0
  have HP := Lib.hid (Bx.b5 (Bx.set5 T0 (.bool true) (.bool false) (.int .i64 0) (.int .i64 0) (.int .i64 0))).1
  have HQ := Lib.hid (((((BE.setCell (p := ⟨w.heap.size, 0, none⟩) (Nat.le_refl _) (.bool true)).setCell (p := ⟨w.heap.size, 1, none⟩) (Nat.le_refl _) (.bool false)).setCell (p := ⟨w.heap.size, 2, none⟩) (Nat.le_refl _) (.int .i64 0)).setCell (p := ⟨w.heap.size, 3, none⟩) (Nat.le_refl _) (.int .i64 0)).setCell (p := ⟨w.heap.size, 4, none⟩) (Nat.le_refl _) (.int .i64 0))
  clear T0 BE
  go_enter Tryz.func64, Tryz.ntmps64
  go_upto_region 1 with fail
  generalize w.alloc (.cells #[.bool false, .bool false, .int .i64 0, .int .i64 0, .int .i64 0] SHT) = w1 at *
  go_wp2
  obtain ⟨p0, p1, p2, p3, p4⟩ := HP.out
  exact bodyPost_ret (v := .tuple #[.agg #[.bool true, .bool false, .int .i64 0, .int .i64 0, .int .i64 0], .bool true]) (by simp [results, Tryz.results64, go_sem, p0, p1, p2, p3, p4]) rfl ⟨rfl, HQ.out⟩
set_option maxHeartbeats 8000000 in
set_option maxRecDepth 100000 in
theorem shape_7 (w : World) : Calls Tryz.prog 64 #[.int .i64 7] w fun e w' => e = .returned (.tuple #[.agg #[.bool false, .bool true, .int .i64 0, .int .i64 1, .int .i64 0], .bool true]) ∧ Below w.heap.size w w' := by
  have T0 := at1 w (.cells #[.bool false, .bool false, .int .i64 0, .int .i64 0, .int .i64 0] SHT)
  have BE := bel1 w (.cells #[.bool false, .bool false, .int .i64 0, .int .i64 0, .int .i64 0] SHT)
  obtain ⟨⟨k0, k1, k2, k3, k4⟩, ⟨f0, f1, f2, f3, f4⟩⟩ := Bx.b5 T0
  have HP := Lib.hid (Bx.b5 (Bx.set5 T0 (.bool false) (.bool true) (.int .i64 0) (.int .i64 1) (.int .i64 0))).1
  have HQ := Lib.hid (((((BE.setCell (p := ⟨w.heap.size, 0, none⟩) (Nat.le_refl _) (.bool false)).setCell (p := ⟨w.heap.size, 1, none⟩) (Nat.le_refl _) (.bool true)).setCell (p := ⟨w.heap.size, 2, none⟩) (Nat.le_refl _) (.int .i64 0)).setCell (p := ⟨w.heap.size, 3, none⟩) (Nat.le_refl _) (.int .i64 1)).setCell (p := ⟨w.heap.size, 4, none⟩) (Nat.le_refl _) (.int .i64 0))
  clear T0 BE
  go_enter Tryz.func64, Tryz.ntmps64
  go_upto_region 1 with fail
  generalize w.alloc (.cells #[.bool false, .bool false, .int .i64 0, .int .i64 0, .int .i64 0] SHT) = w1 at *
  go_wp2
  obtain ⟨p0, p1, p2, p3, p4⟩ := HP.out
  exact bodyPost_ret (v := .tuple #[.agg #[.bool false, .bool true, .int .i64 0, .int .i64 1, .int .i64 0], .bool true]) (by simp [results, Tryz.results64, go_sem, p0, p1, p2, p3, p4]) rfl ⟨rfl, HQ.out⟩
set_option maxHeartbeats 8000000 in
set_option maxRecDepth 100000 in
theorem shape_8 (w : World) : Calls Tryz.prog 64 #[.int .i64 8] w fun e w' => e = .returned (.tuple #[.agg #[.bool false, .bool true, .int .i64 0, .int .i64 0, .int .i64 0], .bool true]) ∧ Below w.heap.size w w' := by
  have T0 := at1 w (.cells #[.bool false, .bool false, .int .i64 0, .int .i64 0, .int .i64 0] SHT)
  have BE := bel1 w (.cells #[.bool false, .bool false, .int .i64 0, .int .i64 0, .int .i64 0] SHT)
  obtain ⟨⟨k0, k1, k2, k3, k4⟩, ⟨f0, f1, f2, f3, f4⟩⟩ := Bx.b5 T0
  have HP := Lib.hid (Bx.b5 (Bx.set5 T0 (.bool false) (.bool true) (.int .i64 0) (.int .i64 0) (.int .i64 0))).1
  have HQ := Lib.hid (((((BE.setCell (p := ⟨w.heap.size, 0, none⟩) (Nat.le_refl _) (.bool false)).setCell (p := ⟨w.heap.size, 1, none⟩) (Nat.le_refl _) (.bool true)).setCell (p := ⟨w.heap.size, 2, none⟩) (Nat.le_refl _) (.int .i64 0)).setCell (p := ⟨w.heap.size, 3, none⟩) (Nat.le_refl _) (.int .i64 0)).setCell (p := ⟨w.heap.size, 4, none⟩) (Nat.le_refl _) (.int .i64 0))
  clear T0 BE
  go_enter Tryz.func64, Tryz.ntmps64
  go_upto_region 1 with fail
  generalize w.alloc (.cells #[.bool false, .bool false, .int .i64 0, .int .i64 0, .int .i64 0] SHT) = w1 at *
  go_wp2
  obtain ⟨p0, p1, p2, p3, p4⟩ := HP.out
  exact bodyPost_ret (v := .tuple #[.agg #[.bool false, .bool true, .int .i64 0, .int .i64 0, .int .i64 0], .bool true]) (by simp [results, Tryz.results64, go_sem, p0, p1, p2, p3, p4]) rfl ⟨rfl, HQ.out⟩
set_option maxHeartbeats 8000000 in
set_option maxRecDepth 100000 in
theorem shape_9 (w : World) : Calls Tryz.prog 64 #[.int .i64 9] w fun e w' => e = .returned (.tuple #[.agg #[.bool false, .bool true, .int .i64 0, .int .i64 0, .int .i64 0], .bool true]) ∧ Below w.heap.size w w' := by
  have T0 := at1 w (.cells #[.bool false, .bool false, .int .i64 0, .int .i64 0, .int .i64 0] SHT)
  have BE := bel1 w (.cells #[.bool false, .bool false, .int .i64 0, .int .i64 0, .int .i64 0] SHT)
  obtain ⟨⟨k0, k1, k2, k3, k4⟩, ⟨f0, f1, f2, f3, f4⟩⟩ := Bx.b5 T0
  have HP := Lib.hid (Bx.b5 (Bx.set5 T0 (.bool false) (.bool true) (.int .i64 0) (.int .i64 0) (.int .i64 0))).1
  have HQ := Lib.hid (((((BE.setCell (p := ⟨w.heap.size, 0, none⟩) (Nat.le_refl _) (.bool false)).setCell (p := ⟨w.heap.size, 1, none⟩) (Nat.le_refl _) (.bool true)).setCell (p := ⟨w.heap.size, 2, none⟩) (Nat.le_refl _) (.int .i64 0)).setCell (p := ⟨w.heap.size, 3, none⟩) (Nat.le_refl _) (.int .i64 0)).setCell (p := ⟨w.heap.size, 4, none⟩) (Nat.le_refl _) (.int .i64 0))
  clear T0 BE
  go_enter Tryz.func64, Tryz.ntmps64
  go_upto_region 1 with fail
  generalize w.alloc (.cells #[.bool false, .bool false, .int .i64 0, .int .i64 0, .int .i64 0] SHT) = w1 at *
  go_wp2
  obtain ⟨p0, p1, p2, p3, p4⟩ := HP.out
  exact bodyPost_ret (v := .tuple #[.agg #[.bool false, .bool true, .int .i64 0, .int .i64 0, .int .i64 0], .bool true]) (by simp [results, Tryz.results64, go_sem, p0, p1, p2, p3, p4]) rfl ⟨rfl, HQ.out⟩
set_option maxHeartbeats 8000000 in
set_option maxRecDepth 100000 in
theorem shape_10 (w : World) : Calls Tryz.prog 64 #[.int .i64 10] w fun e w' => e = .returned (.tuple #[.agg #[.bool false, .bool true, .int .i64 0, .int .i64 0, .int .i64 0], .bool true]) ∧ Below w.heap.size w w' := by
  have T0 := at1 w (.cells #[.bool false, .bool false, .int .i64 0, .int .i64 0, .int .i64 0] SHT)
  have BE := bel1 w (.cells #[.bool false, .bool false, .int .i64 0, .int .i64 0, .int .i64 0] SHT)
  obtain ⟨⟨k0, k1, k2, k3, k4⟩, ⟨f0, f1, f2, f3, f4⟩⟩ := Bx.b5 T0
  have HP := Lib.hid (Bx.b5 (Bx.set5 T0 (.bool false) (.bool true) (.int .i64 0) (.int .i64 0) (.int .i64 0))).1
  have HQ := Lib.hid (((((BE.setCell (p := ⟨w.heap.size, 0, none⟩) (Nat.le_refl _) (.bool false)).setCell (p := ⟨w.heap.size, 1, none⟩) (Nat.le_refl _) (.bool true)).setCell (p := ⟨w.heap.size, 2, none⟩) (Nat.le_refl _) (.int .i64 0)).setCell (p := ⟨w.heap.size, 3, none⟩) (Nat.le_refl _) (.int .i64 0)).setCell (p := ⟨w.heap.size, 4, none⟩) (Nat.le_refl _) (.int .i64 0))
  clear T0 BE
  go_enter Tryz.func64, Tryz.ntmps64
  go_upto_region 1 with fail
  generalize w.alloc (.cells #[.bool false, .bool false, .int .i64 0, .int .i64 0, .int .i64 0] SHT) = w1 at *
  go_wp2
  obtain ⟨p0, p1, p2, p3, p4⟩ := HP.out
  exact bodyPost_ret (v := .tuple #[.agg #[.bool false, .bool true, .int .i64 0, .int .i64 0, .int .i64 0], .bool true]) (by simp [results, Tryz.results64, go_sem, p0, p1, p2, p3, p4]) rfl ⟨rfl, HQ.out⟩
set_option maxHeartbeats 8000000 in
set_option maxRecDepth 100000 in
theorem shape_11 (w : World) : Calls Tryz.prog 64 #[.int .i64 11] w fun e w' => e = .returned (.tuple #[.agg #[.bool true, .bool false, .int .i64 0, .int .i64 0, .int .i64 0], .bool true]) ∧ Below w.heap.size w w' := by
  have T0 := at1 w (.cells #[.bool false, .bool false, .int .i64 0, .int .i64 0, .int .i64 0] SHT)
  have BE := bel1 w (.cells #[.bool false, .bool false, .int .i64 0, .int .i64 0, .int .i64 0] SHT)
  obtain ⟨⟨k0, k1, k2, k3, k4⟩, ⟨f0, f1, f2, f3, f4⟩⟩ := Bx.b5 T0
  have HP := Lib.hid (Bx.b5 (Bx.set5 T0 (.bool true) (.bool false) (.int .i64 0) (.int .i64 0) (.int .i64 0))).1
  have HQ := Lib.hid (((((BE.setCell (p := ⟨w.heap.size, 0, none⟩) (Nat.le_refl _) (.bool true)).setCell (p := ⟨w.heap.size, 1, none⟩) (Nat.le_refl _) (.bool false)).setCell (p := ⟨w.heap.size, 2, none⟩) (Nat.le_refl _) (.int .i64 0)).setCell (p := ⟨w.heap.size, 3, none⟩) (Nat.le_refl _) (.int .i64 0)).setCell (p := ⟨w.heap.size, 4, none⟩) (Nat.le_refl _) (.int .i64 0))
  clear T0 BE
  go_enter Tryz.func64, Tryz.ntmps64
  go_upto_region 1 with fail
  generalize w.alloc (.cells #[.bool false, .bool false, .int .i64 0, .int .i64 0, .int .i64 0] SHT) = w1 at *
  go_wp2
  obtain ⟨p0, p1, p2, p3, p4⟩ := HP.out
  exact bodyPost_ret (v := .tuple #[.agg #[.bool true, .bool false, .int .i64 0, .int .i64 0, .int .i64 0], .bool true]) (by simp [results, Tryz.results64, go_sem, p0, p1, p2, p3, p4]) rfl ⟨rfl, HQ.out⟩
set_option maxHeartbeats 8000000 in
set_option maxRecDepth 100000 in
theorem shape_12 (w : World) : Calls Tryz.prog 64 #[.int .i64 12] w fun e w' => e = .returned (.tuple #[.agg #[.bool true, .bool false, .int .i64 0, .int .i64 1024, .int .i64 0], .bool true]) ∧ Below w.heap.size w w' := by
  have T0 := at1 w (.cells #[.bool false, .bool false, .int .i64 0, .int .i64 0, .int .i64 0] SHT)
  have BE := bel1 w (.cells #[.bool false, .bool false, .int .i64 0, .int .i64 0, .int .i64 0] SHT)
  obtain ⟨⟨k0, k1, k2, k3, k4⟩, ⟨f0, f1, f2, f3, f4⟩⟩ := Bx.b5 T0
  have HP := Lib.hid (Bx.b5 (Bx.set5 T0 (.bool true) (.bool false) (.int .i64 0) (.int .i64 1024) (.int .i64 0))).1
  have HQ := Lib.hid (((((BE.setCell (p := ⟨w.heap.size, 0, none⟩) (Nat.le_refl _) (.bool true)).setCell (p := ⟨w.heap.size, 1, none⟩) (Nat.le_refl _) (.bool false)).setCell (p := ⟨w.heap.size, 2, none⟩) (Nat.le_refl _) (.int .i64 0)).setCell (p := ⟨w.heap.size, 3, none⟩) (Nat.le_refl _) (.int .i64 1024)).setCell (p := ⟨w.heap.size, 4, none⟩) (Nat.le_refl _) (.int .i64 0))
  clear T0 BE
  go_enter Tryz.func64, Tryz.ntmps64
  go_upto_region 1 with fail
  generalize w.alloc (.cells #[.bool false, .bool false, .int .i64 0, .int .i64 0, .int .i64 0] SHT) = w1 at *
  go_wp2
  obtain ⟨p0, p1, p2, p3, p4⟩ := HP.out
  exact bodyPost_ret (v := .tuple #[.agg #[.bool true, .bool false, .int .i64 0, .int .i64 1024, .int .i64 0], .bool true]) (by simp [results, Tryz.results64, go_sem, p0, p1, p2, p3, p4]) rfl ⟨rfl, HQ.out⟩
set_option maxHeartbeats 8000000 in
set_option maxRecDepth 100000 in
theorem shape_no (k : Int) (h1 : ¬ k = 1) (h2 : ¬ k = 2) (h3 : ¬ k = 3) (h4 : ¬ k = 4) (h5 : ¬ k = 5) (h6 : ¬ k = 6) (h7 : ¬ k = 7) (h8 : ¬ k = 8) (h9 : ¬ k = 9) (h10 : ¬ k = 10) (h11 : ¬ k = 11) (h12 : ¬ k = 12) (w : World) : Calls Tryz.prog 64 #[.int .i64 k] w fun e w' => e = .returned (.tuple #[.agg #[.bool false, .bool false, .int .i64 0, .int .i64 0, .int .i64 0], .bool false]) ∧ Below w.heap.size w w' := by
  have e1 : (k == 1) = false := by simpa using h1
  have e2 : (k == 2) = false := by simpa using h2
  have e3 : (k == 3) = false := by simpa using h3
  have e4 : (k == 4) = false := by simpa using h4
  have e5 : (k == 5) = false := by simpa using h5
  have e6 : (k == 6) = false := by simpa using h6
  have e7 : (k == 7) = false := by simpa using h7
  have e8 : (k == 8) = false := by simpa using h8
  have e9 : (k == 9) = false := by simpa using h9
  have e10 : (k == 10) = false := by simpa using h10
  have e11 : (k == 11) = false := by simpa using h11
  have e12 : (k == 12) = false := by simpa using h12
  clear h1 h2 h3 h4 h5 h6 h7 h8 h9 h10 h11 h12
  have T0 := at1 w (.cells #[.bool false, .bool false, .int .i64 0, .int .i64 0, .int .i64 0] SHT)
  have BE := bel1 w (.cells #[.bool false, .bool false, .int .i64 0, .int .i64 0, .int .i64 0] SHT)
  obtain ⟨⟨k0, k1, k2, k3, k4⟩, ⟨f0, f1, f2, f3, f4⟩⟩ := Bx.b5 T0
  have HP := Lib.hid (Bx.b5 (Bx.set5 T0 (.bool false) (.bool false) (.int .i64 0) (.int .i64 0) (.int .i64 0))).1
  have HQ := Lib.hid (((((BE.setCell (p := ⟨w.heap.size, 0, none⟩) (Nat.le_refl _) (.bool false)).setCell (p := ⟨w.heap.size, 1, none⟩) (Nat.le_refl _) (.bool false)).setCell (p := ⟨w.heap.size, 2, none⟩) (Nat.le_refl _) (.int .i64 0)).setCell (p := ⟨w.heap.size, 3, none⟩) (Nat.le_refl _) (.int .i64 0)).setCell (p := ⟨w.heap.size, 4, none⟩) (Nat.le_refl _) (.int .i64 0))
  clear T0 BE
  go_enter Tryz.func64, Tryz.ntmps64
  go_upto_region 1 with fail
  generalize w.alloc (.cells #[.bool false, .bool false, .int .i64 0, .int .i64 0, .int .i64 0] SHT) = w1 at *
  go_wp2
  obtain ⟨p0, p1, p2, p3, p4⟩ := HP.out
  exact bodyPost_ret (v := .tuple #[.agg #[.bool false, .bool false, .int .i64 0, .int .i64 0, .int .i64 0], .bool false]) (by simp [results, Tryz.results64, go_sem, p0, p1, p2, p3, p4]) rfl ⟨rfl, HQ.out⟩
theorem shape_any (k : Int) (w : World) : Calls Tryz.prog 64 #[.int .i64 k] w fun e w' => e = .returned (.tuple #[shV k, .bool (isK k)]) ∧ Below w.heap.size w w' := by
  by_cases h1 : k = 1
  · subst h1; exact shape_1 w
  by_cases h2 : k = 2
  · subst h2; exact shape_2 w
  by_cases h3 : k = 3
  · subst h3; exact shape_3 w
  by_cases h4 : k = 4
  · subst h4; exact shape_4 w
  by_cases h5 : k = 5
  · subst h5; exact shape_5 w
  by_cases h6 : k = 6
  · subst h6; exact shape_6 w
  by_cases h7 : k = 7
  · subst h7; exact shape_7 w
  by_cases h8 : k = 8
  · subst h8; exact shape_8 w
  by_cases h9 : k = 9
  · subst h9; exact shape_9 w
  by_cases h10 : k = 10
  · subst h10; exact shape_10 w
  by_cases h11 : k = 11
  · subst h11; exact shape_11 w
  by_cases h12 : k = 12
  · subst h12; exact shape_12 w
  have h : shV k = .agg #[.bool false, .bool false, .int .i64 0, .int .i64 0, .int .i64 0] ∧ isK k = false := by
    unfold shV hasT hasN nC nB nI isK
    have e1 : (decide (k ≥ 1) && decide (k ≤ 6)) = false := by rw [Bool.and_eq_false_iff, decide_eq_false_iff_not, decide_eq_false_iff_not]; omega
    have e2 : (decide (k ≥ 7) && decide (k ≤ 10)) = false := by rw [Bool.and_eq_false_iff, decide_eq_false_iff_not, decide_eq_false_iff_not]; omega
    have e3 : (decide (1 ≤ k) && decide (k ≤ 12)) = false := by rw [Bool.and_eq_false_iff, decide_eq_false_iff_not, decide_eq_false_iff_not]; omega
    rw [e1, e2, e3, decide_eq_false h11, decide_eq_false h12, if_neg h1, if_neg h7, if_neg h12, if_neg h4]
    exact ⟨rfl, rfl⟩
  rw [h.1, h.2]
  exact shape_no k h1 h2 h3 h4 h5 h6 h7 h8 h9 h10 h11 h12 w
set_option maxHeartbeats 8000000 in
set_option maxRecDepth 100000 in
theorem number_may (n : Int) (has : Bool) (w : World) : Calls Tryz.prog 101 #[.int .i64 n, .bool has] w fun e w' => e = .returned (.bool (timeB has n)) ∧ w = w' := by
  unfold timeB
  cases has with
  | false =>
    rw [if_neg (by decide)]
    obtain ⟨r, hr⟩ : ∃ r, decide (n = 0) = r := ⟨_, rfl⟩
    have h2 : (n == 0) = r := by rw [← hr]; rfl
    rw [hr]
    clear hr
    go_enter Tryz.func101, Tryz.ntmps101
    go_wp2
    go_ret
    exact ⟨rfl, rfl⟩
  | true =>
    rw [if_pos rfl]
    obtain ⟨r, hr⟩ : ∃ r, decide (1 ≤ n) = r := ⟨_, rfl⟩
    obtain ⟨s, hs⟩ : ∃ s, decide (n ≤ 1099511627776) = s := ⟨_, rfl⟩
    have hr2 : decide (n ≥ 1) = r := hr
    rw [hr2, hs]
    clear hr2
    cases r with
    | false =>
      go_enter Tryz.func101, Tryz.ntmps101
      go_wp2
      go_ret
      exact ⟨rfl, rfl⟩
    | true =>
      go_enter Tryz.func101, Tryz.ntmps101
      go_wp2
      go_ret
      exact ⟨rfl, rfl⟩
end Go.Proofs.YtdhlebmgeiiejaaGreat
