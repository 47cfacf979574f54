/- awake: chapter 2's examples. -/
import Derived.Test.YtoogfjndkecdfaaDoorFxRead
import Derived.Test.YtoogfjndkecdfaaDoorFxAdd
namespace Go.Proofs.YtoogfjndkecdfaaDoor
open Go.RowKit

theorem reads_new (w : World) (cs : Array Value) (T : TypeId) : Reads (w.alloc (.cells cs T)) (w.alloc (.cells cs T)).heap.size (some ⟨w.heap.size, 0, none⟩) cs.toList := by
  intro _
  refine ⟨w.heap.size, 0, rfl, by simp, fun k v hv => ?_⟩
  rw [Lib.cell_of_heap (heap_alloc_new w _), Nat.zero_add]
  simpa using hv
theorem below_alloc {w w' : World} {o : Obj} (hb : Below (w.alloc o).heap.size (w.alloc o) w') : Below w.heap.size w w' := ((Below.refl _ _).alloc (Nat.le_refl _) o).trans (hb.mono (by simp))
theorem i64s (l : List Int) (h : l.all (fun x => decide (-9223372036854775808 ≤ x ∧ x ≤ 9223372036854775807)) = true) : I64 l := by
  intro x hx
  have := List.all_eq_true.1 h x hx
  simpa using this
/-- a sum of numbers that the call lists -/
def SaysAdd (l : List Int) (out : Int) : Prop := ∀ W : World, Calls Tryd.prog 16 #[.slice (some ⟨W.heap.size, 0, none⟩) l.length l.length] (W.alloc (.cells (ints l).toArray 3)) fun e w' => e = .returned (.int .i64 out) ∧ Below W.heap.size W w'
theorem says_add (l : List Int) (h1 : l.length ≤ 1000) (h2 : I64 l) : SaysAdd l (Fx.add l) := fun W =>
  (add_any _ l.length l _ _ (by omega) h2 (by have := reads_new W (ints l).toArray 3; simpa using this)).mono fun _ _ h => ⟨h.1, h.2 ▸ (Below.refl _ _).alloc (Nat.le_refl _) _⟩
theorem ex_sum : SaysAdd [1073741824, 1, -1] 1073741823 := says_add [1073741824, 1, -1] (by decide) (i64s _ (by decide))
theorem ex_mul : Fx.mul 384 (-384) = -576 := by decide
theorem ex_quo : Fx.quo (-1) 512 = -1 := by decide

theorem read_back (W : World) (hg : Good W) : Calls Tryd.prog 24 #[.string ⟨#[45, 50, 46, 53]⟩] W fun e w' => e = .returned (.tuple #[.int .i64 (-640), .int .i64 0]) ∧ Below W.heap.size W w' := by
  refine (read_any [45, 50, 46, 53] W (by decide) hg).mono ?_
  rintro e w' ⟨n, bad, hr, rfl, hb⟩
  rw [← Fx.ex_back] at hr
  obtain ⟨rfl, rfl⟩ := Fx.reads_back hr
  exact ⟨rfl, hb⟩
theorem read_none (W : World) (hg : Good W) : Calls Tryd.prog 24 #[.string ⟨#[50, 46, 53, 48]⟩] W fun e w' => ∃ n, e = .returned (.tuple #[.int .i64 n, .int .i64 2]) ∧ Below W.heap.size W w' := by
  refine (read_any [50, 46, 53, 48] W (by decide) hg).mono ?_
  rintro e w' ⟨n, bad, hr, rfl, hb⟩
  obtain rfl := Fx.ex_bad hr
  exact ⟨n, rfl, hb⟩

set_option maxHeartbeats 2000000 in
set_option maxRecDepth 100000 in
theorem awake_any (w : World) (hg : Good w) : Calls Tryd.prog 15 #[] w fun e w' => e = .returned (.bool true) ∧ Below w.heap.size w w' := by
  have D := Lib.hid (fun W => show Calls Tryd.prog 20 #[.int .i64 (-1), .int .i64 512] W fun e w' => (e = .returned (.tuple #[.int .i64 (-1), .int .i64 0]) ∧ Below W.heap.size W w') by have := div_any (-1) 512 W (by omega) (by omega) (by omega) (by omega) (by omega); rwa [ex_quo] at this)
  have M := Lib.hid (fun W => show Calls Tryd.prog 18 #[.int .i64 384, .int .i64 (-384)] W fun e w' => (e = .returned (.int .i64 (-576)) ∧ Below W.heap.size W w') by have := mul_any 384 (-384) W (by omega) (by omega) (by omega) (by omega); rwa [ex_mul] at this)
  have S := Lib.hid (fun W (hW : Good W) => show Calls Tryd.prog 22 #[.int .i64 1] W fun e w' => (e = .returned (.string ⟨#[48, 46, 48, 48, 51, 57, 48, 54, 50, 53]⟩) ∧ Below W.heap.size W w') by have := show_any 1 W (by omega) (by omega) hW; rwa [Fx.ex_one] at this)
  go_enter Tryd.func15, Tryd.ntmps15
  go_wp2_with fail
  refine (D.out _).mono ?_
  rintro e w1 ⟨rfl, b1⟩
  go_wp2_with fail
  refine (div_zero 1 _).mono ?_
  rintro e w2 ⟨rfl, h2⟩
  have b2 := b1.trans (h2.mono b1.size)
  clear b1 h2
  have G2 : Good w2 := hg.below b2 (Nat.le_refl _)
  go_wp2_with fail
  refine (read_back _ G2).mono ?_
  rintro e w3 ⟨rfl, h3⟩
  have b3 := b2.trans (h3.mono b2.size)
  clear b2 h3 G2
  have G3 : Good w3 := hg.below b3 (Nat.le_refl _)
  go_wp2_with fail
  refine (read_none _ G3).mono ?_
  rintro e w4 ⟨n4, rfl, h4⟩
  have b4 := b3.trans (h4.mono b3.size)
  clear b3 h4 G3
  go_wp2_with fail
  refine (ex_sum _).mono ?_
  rintro e w5 ⟨rfl, h5⟩
  have b5 := b4.trans (h5.mono b4.size)
  clear b4 h5
  go_wp2_with fail
  refine (M.out _).mono ?_
  rintro e w6 ⟨rfl, h6⟩
  have b6 := b5.trans (h6.mono b5.size)
  clear b5 h6
  have G6 : Good w6 := hg.below b6 (Nat.le_refl _)
  go_wp2_with fail
  refine (S.out _ G6).mono ?_
  rintro e w7 ⟨rfl, h7⟩
  have b7 := b6.trans (h7.mono b6.size)
  clear b6 h7 G6
  go_wp2
  go_ret
  exact ⟨rfl, b7⟩
end Go.Proofs.YtoogfjndkecdfaaDoor
