/- awake: chapter 3's examples; the program's calls and the document's, held against each other. -/
import Derived.Test.YteagndjoppnbgaaRcRCut
import Derived.Test.YteagndjoppnbgaaRcGrow
namespace Go.Proofs.Yteagndjoppnbgaa
open Go.RowKit

theorem has_same (a b c d x y : Int) : hasB a b c d x y = Rc.hasR a b c d x y := by
  unfold hasB Rc.hasR
  rw [decide_eq_decide]
  exact Rc.gap_has a b c d x y

abbrev TenRow : Array Value := #[.int .i64 0, .int .i64 0, .int .i64 10, .int .i64 10, .int .i64 5, .int .i64 5, .int .i64 20, .int .i64 20]
theorem reads_ten (W : World) : ReadsK (W.alloc (.cells TenRow 23)) (W.alloc (.cells TenRow 23)).heap.size (some ⟨W.heap.size, 0, none⟩) 4 ([((0 : Int), (0 : Int), (10 : Int), (10 : Int)), (5, 5, 20, 20)].map rectRow) := by
  intro _
  refine ⟨W.heap.size, 0, rfl, by simp, fun i row hr j v hv => ?_⟩
  have hh := heap_alloc_new W (.cells TenRow 23)
  match i, hr with
  | 0, hr =>
    obtain rfl : rectRow (0, 0, 10, 10) = row := by simpa using hr
    match j, hv with
    | 0, hv => obtain rfl : Value.int .i64 0 = v := by simpa [rectRow] using hv
               exact (cellAt hh _).trans rfl
    | 1, hv => obtain rfl : Value.int .i64 0 = v := by simpa [rectRow] using hv
               exact (cellAt hh _).trans rfl
    | 2, hv => obtain rfl : Value.int .i64 10 = v := by simpa [rectRow] using hv
               exact (cellAt hh _).trans rfl
    | 3, hv => obtain rfl : Value.int .i64 10 = v := by simpa [rectRow] using hv
               exact (cellAt hh _).trans rfl
    | j + 4, hv => simp [rectRow] at hv
  | 1, hr =>
    obtain rfl : rectRow (5, 5, 20, 20) = row := by simpa using hr
    match j, hv with
    | 0, hv => obtain rfl : Value.int .i64 5 = v := by simpa [rectRow] using hv
               exact (cellAt hh _).trans rfl
    | 1, hv => obtain rfl : Value.int .i64 5 = v := by simpa [rectRow] using hv
               exact (cellAt hh _).trans rfl
    | 2, hv => obtain rfl : Value.int .i64 20 = v := by simpa [rectRow] using hv
               exact (cellAt hh _).trans rfl
    | 3, hv => obtain rfl : Value.int .i64 20 = v := by simpa [rectRow] using hv
               exact (cellAt hh _).trans rfl
    | j + 4, hv => simp [rectRow] at hv
  | i + 2, hr => simp at hr
theorem ten_in : ∀ y ∈ [((0 : Int), (0 : Int), (10 : Int), (10 : Int)), (5, 5, 20, 20)], I y.1 ∧ I y.2.1 ∧ I y.2.2.1 ∧ I y.2.2.2 := by
  intro y hy
  simp only [List.mem_cons, List.not_mem_nil, or_false] at hy
  rcases hy with rfl | rfl <;> (refine ⟨⟨?_, ?_⟩, ⟨?_, ?_⟩, ⟨?_, ?_⟩, ⟨?_, ?_⟩⟩ <;> decide)
theorem ex_cut : Rc.ctd (Rc.fold ((0 : Int), (0 : Int), (10 : Int), (10 : Int)) [(5, 5, 20, 20)]).1 (Rc.fold ((0 : Int), (0 : Int), (10 : Int), (10 : Int)) [(5, 5, 20, 20)]).2.1 (Rc.fold ((0 : Int), (0 : Int), (10 : Int), (10 : Int)) [(5, 5, 20, 20)]).2.2.1 (Rc.fold ((0 : Int), (0 : Int), (10 : Int), (10 : Int)) [(5, 5, 20, 20)]).2.2.2 = ⟨5, 5, 10, 10⟩ := by decide
theorem cut_ten (W : World) : Calls Try.prog 15 #[.slice (some ⟨W.heap.size, 0, none⟩) 2 2] (W.alloc (.cells TenRow 23)) fun e w' => e = .returned (.agg #[.int .i64 5, .int .i64 5, .int .i64 10, .int .i64 10]) ∧ Below W.heap.size W w' :=
  (cut_some (some ⟨W.heap.size, 0, none⟩) 2 (0, 0, 10, 10) [(5, 5, 20, 20)] _ _ (Nat.le_refl _) (by decide) (by decide) (reads_ten W) ten_in 5 5 10 10 ex_cut).mono fun _ _ h => ⟨h.1, (bel1 W _).trans (h.2.mono (by simp))⟩

theorem has_yes (W : World) : Calls Try.prog 10 #[.agg #[.int .i64 0, .int .i64 0, .int .i64 10, .int .i64 10], .int .i64 9, .int .i64 9] W fun e w' => e = .returned (.bool true) ∧ Below W.heap.size W w' := by
  have := has_any 0 0 10 10 9 9 W (by decide) (by decide) (by decide) (by decide) (by decide) (by decide)
  rwa [show hasB 0 0 10 10 9 9 = true by decide] at this
theorem has_no (W : World) : Calls Try.prog 10 #[.agg #[.int .i64 0, .int .i64 0, .int .i64 10, .int .i64 10], .int .i64 10, .int .i64 0] W fun e w' => e = .returned (.bool false) ∧ Below W.heap.size W w' := by
  have := has_any 0 0 10 10 10 0 W (by decide) (by decide) (by decide) (by decide) (by decide) (by decide)
  rwa [show hasB 0 0 10 10 10 0 = false by decide] at this
theorem gap_three (W : World) : Calls Try.prog 21 #[.agg #[.int .i64 0, .int .i64 0, .int .i64 10, .int .i64 10], .int .i64 12, .int .i64 5] W fun e w' => e = .returned (.int .i64 3) ∧ Below W.heap.size W w' := by
  have := gap_any 0 0 10 10 12 5 W (by decide) (by decide) (by decide) (by decide) (by decide) (by decide)
  rwa [show Rc.gap 0 0 10 10 12 5 = 3 by decide] at this
theorem gap_eleven (W : World) : Calls Try.prog 21 #[.agg #[.int .i64 0, .int .i64 0, .int .i64 10, .int .i64 10], .int .i64 (-2), .int .i64 20] W fun e w' => e = .returned (.int .i64 11) ∧ Below W.heap.size W w' := by
  have := gap_any 0 0 10 10 (-2) 20 W (by decide) (by decide) (by decide) (by decide) (by decide) (by decide)
  rwa [show Rc.gap 0 0 10 10 (-2) 20 = 11 by decide] at this
theorem far_three (W : World) : Calls Try.prog 13 #[.int .i64 1, .int .i64 2, .int .i64 4, .int .i64 0] W fun e w' => e = .returned (.int .i64 3) ∧ W = w' := by
  have := far_any 1 2 4 0 W (by decide) (by decide) (by decide) (by decide)
  rwa [show Rc.far 1 2 4 0 = 3 by decide] at this
theorem grow_ten (W : World) : Calls Try.prog 17 #[.agg #[.int .i64 0, .int .i64 0, .int .i64 10, .int .i64 10], .int .i64 2] W fun e w' => e = .returned (.agg #[.int .i64 (-2), .int .i64 (-2), .int .i64 12, .int .i64 12]) ∧ Below W.heap.size W w' := by
  have := grow_any 0 0 10 10 2 W (by decide) (by decide) (by decide) (by decide) (by decide)
  rwa [show Rc.grown 0 0 10 10 2 = ⟨-2, -2, 12, 12⟩ by decide] at this

set_option maxHeartbeats 2000000 in
set_option maxRecDepth 100000 in
theorem awake_any (w : World) : Calls Try.prog 12 #[] w fun e w' => e = .returned (.bool true) ∧ Below w.heap.size w w' := by
  go_enter Try.func12, Try.ntmps12
  go_wp2_with fail
  refine (has_yes _).mono ?_
  rintro e w1 ⟨rfl, h1⟩
  have b1 := (bel1 w _).trans (h1.mono (by simp))
  have z1 : w.heap.size < w1.heap.size := by have := h1.size; rw [size1] at this; omega
  have q1 := Lib.hid ((h1.block w.heap.size (by simp)).trans (by exact at1 w _))
  clear h1
  obtain ⟨⟨k0, k1, k2, k3⟩, f0, f1, f2, f3⟩ := box4 q1.out
  go_wp2_with fail
  refine (has_no _).mono ?_
  rintro e w2 ⟨rfl, h2⟩
  have b2 := b1.trans (h2.mono b1.size)
  have z2 : w.heap.size < w2.heap.size := Nat.lt_of_lt_of_le z1 h2.size
  have q2 := Lib.hid ((h2.block w.heap.size z1).trans q1.out)
  clear h2 q1 b1 z1 k0 k1 k2 k3 f0 f1 f2 f3
  obtain ⟨⟨k0, k1, k2, k3⟩, f0, f1, f2, f3⟩ := box4 q2.out
  go_wp2_with fail
  refine (gap_three _).mono ?_
  rintro e w3 ⟨rfl, h3⟩
  have b3 := b2.trans (h3.mono b2.size)
  have z3 : w.heap.size < w3.heap.size := Nat.lt_of_lt_of_le z2 h3.size
  have q3 := Lib.hid ((h3.block w.heap.size z2).trans q2.out)
  clear h3 q2 b2 z2 k0 k1 k2 k3 f0 f1 f2 f3
  obtain ⟨⟨k0, k1, k2, k3⟩, f0, f1, f2, f3⟩ := box4 q3.out
  go_wp2_with fail
  refine (gap_eleven _).mono ?_
  rintro e w4 ⟨rfl, h4⟩
  have b4 := b3.trans (h4.mono b3.size)
  have z4 : w.heap.size < w4.heap.size := Nat.lt_of_lt_of_le z3 h4.size
  have q4 := Lib.hid ((h4.block w.heap.size z3).trans q3.out)
  clear h4 q3 b3 z3 k0 k1 k2 k3 f0 f1 f2 f3
  obtain ⟨⟨k0, k1, k2, k3⟩, f0, f1, f2, f3⟩ := box4 q4.out
  go_wp2_with fail
  refine (far_three _).mono ?_
  rintro e w' ⟨rfl, rfl⟩
  go_wp2_with fail
  refine (cut_ten _).mono ?_
  rintro e w5 ⟨rfl, h5⟩
  have b5 := b4.trans (h5.mono b4.size)
  have z5 : w.heap.size < w5.heap.size := Nat.lt_of_lt_of_le z4 h5.size
  have q5 := Lib.hid ((h5.block w.heap.size z4).trans q4.out)
  clear h5 q4 b4 z4 k0 k1 k2 k3 f0 f1 f2 f3
  obtain ⟨⟨k0, k1, k2, k3⟩, f0, f1, f2, f3⟩ := box4 q5.out
  go_wp2_with fail
  refine (grow_ten _).mono ?_
  rintro e w6 ⟨rfl, h6⟩
  have b6 := b5.trans (h6.mono b5.size)
  have z6 : w.heap.size < w6.heap.size := Nat.lt_of_lt_of_le z5 h6.size
  have q6 := Lib.hid ((h6.block w.heap.size z5).trans q5.out)
  clear h6 q5 b5 z5 k0 k1 k2 k3 f0 f1 f2 f3
  obtain ⟨⟨k0, k1, k2, k3⟩, f0, f1, f2, f3⟩ := box4 q6.out
  go_wp2
  go_ret
  exact ⟨rfl, b6⟩
theorem awake_hid : Hid (∀ W, Calls Try.prog 12 #[] W fun e w' => e = .returned (.bool true) ∧ Below W.heap.size W w') := Lib.hid awake_any
end Go.Proofs.Yteagndjoppnbgaa
