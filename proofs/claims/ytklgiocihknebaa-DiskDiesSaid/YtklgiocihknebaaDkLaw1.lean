/- DiskNone, DiskNames. -/
import Derived.Test.YtklgiocihknebaaDkAt
import Derived.Test.YtklgiocihknebaaDkLawP
namespace Go.Proofs.Ytklgiocihknebaa
open Go.RowKit Go.Maps Dk
set_option linter.unusedVariables false

section
variable (w : World) (s t : Str)
set_option maxHeartbeats 4000000
set_option maxRecDepth 100000
theorem none_find (hs : s.length ≤ 140737488351232) : Calls Try.prog 39 #[.pointer none, .string ⟨s.toArray⟩] w fun e w' => e = .returned (.tuple #[.pointer none, .int .i64 1]) ∧ w = w' := by
  go_enter Try.func39, Try.ntmps39
  go_wp2
  go_ret2
  exact ⟨rfl, rfl⟩
theorem none_open (hs : s.length ≤ 140737488351232) : Calls Try.prog 41 #[.pointer none, .string ⟨s.toArray⟩] w fun e w' => e = .returned (.tuple #[.pointer none, .int .i64 1]) ∧ w = w' := by
  have F := Lib.hid (none_find w s hs)
  go_enter Try.func41, Try.ntmps41
  go_wp2_with (go_at_call 39; refine F.out.mono ?_; rintro e w' ⟨rfl, rfl⟩)
  go_ret2
  exact ⟨rfl, rfl⟩
theorem none_append (hs : s.length ≤ 140737488351232) : Calls Try.prog 21 #[.pointer none, .string ⟨s.toArray⟩, .string ⟨t.toArray⟩] w fun e w' => e = .returned (.int .i64 1) ∧ w = w' := by
  have O := Lib.hid (none_open w s hs)
  go_enter Try.func21, Try.ntmps21
  go_wp2_with (go_at_call 41; refine O.out.mono ?_; rintro e w' ⟨rfl, rfl⟩)
  go_ret
  exact ⟨rfl, rfl⟩
theorem none_sync (hs : s.length ≤ 140737488351232) : Calls Try.prog 22 #[.pointer none, .string ⟨s.toArray⟩] w fun e w' => e = .returned (.int .i64 1) ∧ w = w' := by
  have O := Lib.hid (none_open w s hs)
  go_enter Try.func22, Try.ntmps22
  go_wp2_with (go_at_call 41; refine O.out.mono ?_; rintro e w' ⟨rfl, rfl⟩)
  go_ret
  exact ⟨rfl, rfl⟩
theorem none_trunc (n : Int) (hs : s.length ≤ 140737488351232) : Calls Try.prog 26 #[.pointer none, .string ⟨s.toArray⟩, .int .i64 n] w fun e w' => e = .returned (.int .i64 1) ∧ w = w' := by
  have O := Lib.hid (none_open w s hs)
  go_enter Try.func26, Try.ntmps26
  go_wp2_with (go_at_call 41; refine O.out.mono ?_; rintro e w' ⟨rfl, rfl⟩)
  go_ret
  exact ⟨rfl, rfl⟩
theorem none_rename (hs : s.length ≤ 140737488351232) : Calls Try.prog 25 #[.pointer none, .string ⟨s.toArray⟩, .string ⟨t.toArray⟩] w fun e w' => e = .returned (.int .i64 1) ∧ w = w' := by
  have O := Lib.hid (none_open w s hs)
  go_enter Try.func25, Try.ntmps25
  go_wp2_with (go_at_call 41; refine O.out.mono ?_; rintro e w' ⟨rfl, rfl⟩)
  go_ret
  exact ⟨rfl, rfl⟩
theorem none_remove (hs : s.length ≤ 140737488351232) : Calls Try.prog 29 #[.pointer none, .string ⟨s.toArray⟩] w fun e w' => e = .returned (.int .i64 1) ∧ w = w' := by
  have O := Lib.hid (none_open w s hs)
  go_enter Try.func29, Try.ntmps29
  go_wp2_with (go_at_call 41; refine O.out.mono ?_; rintro e w' ⟨rfl, rfl⟩)
  go_ret
  exact ⟨rfl, rfl⟩
theorem none_read (hs : s.length ≤ 140737488351232) : Calls Try.prog 17 #[.pointer none, .string ⟨s.toArray⟩] w fun e w' => e = .returned (.tuple #[.string ⟨#[]⟩, .int .i64 1]) ∧ w = w' := by
  have O := Lib.hid (none_find w s hs)
  go_enter Try.func17, Try.ntmps17
  go_wp2_with (go_at_call 39; refine O.out.mono ?_; rintro e w' ⟨rfl, rfl⟩)
  go_ret2
  exact ⟨rfl, rfl⟩
theorem none_size (hs : s.length ≤ 140737488351232) : Calls Try.prog 19 #[.pointer none, .string ⟨s.toArray⟩] w fun e w' => e = .returned (.tuple #[.int .i64 0, .int .i64 0, .int .i64 1]) ∧ w = w' := by
  have O := Lib.hid (none_find w s hs)
  go_enter Try.func19, Try.ntmps19
  go_wp2_with (go_at_call 39; refine O.out.mono ?_; rintro e w' ⟨rfl, rfl⟩)
  go_ret3
  exact ⟨rfl, rfl⟩
theorem none_dead : Calls Try.prog 31 #[.pointer none] w fun e w' => e = .returned (.bool false) ∧ w = w' := by
  go_enter Try.func31, Try.ntmps31
  go_wp2
  go_ret
  exact ⟨rfl, rfl⟩
theorem none_cut (n : Int) : Calls Try.prog 30 #[.pointer none, .int .i64 n] w fun e w' => e = .returned (.tuple #[]) ∧ w = w' := by
  go_enter Try.func30, Try.ntmps30
  go_wp2
  (try simp only [Exit.inBlock, Exit.then])
  refine bodyPost_ret (results_none rfl _ _ _) rfl ?_
  exact ⟨rfl, rfl⟩
theorem none_crash (n : Int) : Calls Try.prog 23 #[.pointer none, .int .i64 n] w fun e w' => e = .returned (.tuple #[]) ∧ w = w' := by
  go_enter Try.func23, Try.ntmps23
  go_wp2
  (try simp only [Exit.inBlock, Exit.then])
  refine bodyPost_ret (results_none rfl _ _ _) rfl ?_
  exact ⟨rfl, rfl⟩
theorem none_files : Calls Try.prog 24 #[.pointer none] w fun e w' => e = .returned (.slice none 0 0) ∧ w = w' := by
  go_enter Try.func24, Try.ntmps24
  go_wp2
  go_ret
  exact ⟨rfl, rfl⟩
end

set_option maxHeartbeats 8000000 in
set_option maxRecDepth 100000 in
theorem law_none (w : World) (kd n : Int) (nm to s : Str) (hkd : -9223372036854775808 ≤ kd ∧ kd ≤ 9223372036854775807) (hn : -9223372036854775808 ≤ n ∧ n ≤ 9223372036854775807) (h1 : nm.length ≤ 140737488351232) (h2 : to.length ≤ 140737488351232) (h3 : s.length ≤ 140737488351232) :
    Calls Try.prog 11 #[.agg #[.int .i64 kd, .int .i64 n, .string ⟨nm.toArray⟩, .string ⟨to.toArray⟩, .string ⟨s.toArray⟩]] w fun e w' => e = .returned (.bool true) ∧ Below w.heap.size w w' := by
  have hal := bel1 w (.cells #[.int .i64 kd, .int .i64 n, .string ⟨nm.toArray⟩, .string ⟨to.toArray⟩, .string ⟨s.toArray⟩] 32)
  have hbx := at1 w (.cells #[.int .i64 kd, .int .i64 n, .string ⟨nm.toArray⟩, .string ⟨to.toArray⟩, .string ⟨s.toArray⟩] 32)
  obtain ⟨w1, hw1⟩ : ∃ w1, w.alloc (.cells #[.int .i64 kd, .int .i64 n, .string ⟨nm.toArray⟩, .string ⟨to.toArray⟩, .string ⟨s.toArray⟩] 32) = w1 := ⟨_, rfl⟩
  rw [hw1] at hal hbx
  have x1 : w1.cell? ⟨w.heap.size, 1, none⟩ = some (.int .i64 n) := cellAt hbx 1
  have x2 : w1.cell? ⟨w.heap.size, 2, none⟩ = some (.string ⟨nm.toArray⟩) := cellAt hbx 2
  have x3 : w1.cell? ⟨w.heap.size, 3, none⟩ = some (.string ⟨to.toArray⟩) := cellAt hbx 3
  have x4 : w1.cell? ⟨w.heap.size, 4, none⟩ = some (.string ⟨s.toArray⟩) := cellAt hbx 4
  have CP := copy_none w1
  have HAL := Lib.hid hal
  have hlt := heap_lt hbx
  have HCP : Hid (Calls Try.prog 27 #[.pointer none] w1 fun e w' => ∃ c, e = .returned (.pointer (some ⟨c, 0, none⟩)) ∧ At w1 w1.heap.size c Dk.new w' ∧ w'.cell? ⟨w.heap.size, 1, none⟩ = some (.int .i64 n) ∧ w'.cell? ⟨w.heap.size, 2, none⟩ = some (.string ⟨nm.toArray⟩) ∧ w'.cell? ⟨w.heap.size, 3, none⟩ = some (.string ⟨to.toArray⟩) ∧ w'.cell? ⟨w.heap.size, 4, none⟩ = some (.string ⟨s.toArray⟩)) := Lib.hid (CP.mono fun e w' ⟨⟨c, k1, k2⟩, k3⟩ =>
    ⟨c, k1, Lib.hid ⟨k2, Nat.le_refl _, k3, Kp.below k3⟩, (k3.cell (p := ⟨w.heap.size, 1, none⟩) hlt).trans x1, (k3.cell (p := ⟨w.heap.size, 2, none⟩) hlt).trans x2, (k3.cell (p := ⟨w.heap.size, 3, none⟩) hlt).trans x3, (k3.cell (p := ⟨w.heap.size, 4, none⟩) hlt).trans x4⟩)
  clear hal hbx CP hlt x1 x2 x3 x4
  subst hw1
  go_enter Try.func11, Try.ntmps11
  go_wp2_with (first
    | (go_at_call 23; refine (none_crash _ _).mono ?_; rintro e w' ⟨rfl, rfl⟩)
    | (go_at_call 30; refine (none_cut _ _).mono ?_; rintro e w' ⟨rfl, rfl⟩)
    | (go_at_call 17; refine (none_read _ nm h1).mono ?_; rintro e w' ⟨rfl, rfl⟩)
    | (go_at_call 19; refine (none_size _ nm h1).mono ?_; rintro e w' ⟨rfl, rfl⟩)
    | (go_at_call 27; refine HCP.out.mono ?_; rintro e w2 ⟨c, rfl, H1, y1, y2, y3, y4⟩)
    | (go_at_call 31; refine (none_dead _).mono ?_; rintro e w' ⟨rfl, rfl⟩)
    | (go_at_call 21; refine (none_append _ nm s h1).mono ?_; rintro e w' ⟨rfl, rfl⟩)
    | (go_at_call 22; refine (none_sync _ nm h1).mono ?_; rintro e w' ⟨rfl, rfl⟩)
    | (go_at_call 26; refine (none_trunc _ nm n h1).mono ?_; rintro e w' ⟨rfl, rfl⟩)
    | (go_at_call 25; refine (none_rename _ nm to h1).mono ?_; rintro e w' ⟨rfl, rfl⟩)
    | (go_at_call 29; refine (none_remove _ nm h1).mono ?_; rintro e w' ⟨rfl, rfl⟩)
    | (go_at_call 24; with_reducible refine (none_files _).mono ?_; rintro e w' ⟨rfl, rfl⟩)
    | (go_at_call 24; refine (at_files H1 (m := 0) rfl).mono ?_; rintro e w3 ⟨⟨A, cc, rfl⟩, H2⟩)
    | (go_at_call 16; refine (awake_any _).mono ?_; rintro e w4 ⟨rfl, hb4⟩; have HB4 := Lib.hid hb4; clear hb4))
  go_ret
  have b1 := HAL.out.trans (H2.bel.mono HAL.out.size)
  exact ⟨rfl, b1.trans (HB4.out.mono b1.size)⟩
end Go.Proofs.Ytklgiocihknebaa
