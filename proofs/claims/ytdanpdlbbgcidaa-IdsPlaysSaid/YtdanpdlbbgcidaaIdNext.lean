/- mod, next; Issue of a pool that is none. -/
import Derived.Test.YtdanpdlbbgcidaaIdAwake
import Derived.IntWalk
namespace Go.Proofs.Ytdanpdlbbgcidaa
open Go.RowKit Ids
set_option linter.unusedVariables false

theorem mod_lo (k : Int) {n : Int} (hn : 0 < n) : 0 ≤ k.tmod n + n ∧ k.tmod n + n ≤ 2 * n := by
  have h2 := Int.emod_lt_of_pos k hn
  have h3 := Int.emod_nonneg k (show n ≠ 0 by omega)
  rcases Int.le_total 0 k with h | h
  · rw [Int.tmod_eq_emod_of_nonneg h]; omega
  · have h4 := Int.emod_lt_of_pos (-k) hn
    have h5 := Int.emod_nonneg (-k) (show n ≠ 0 by omega)
    have : k.tmod n = -((-k) % n) := by rw [← Int.tmod_eq_emod_of_nonneg (show 0 ≤ -k by omega), Int.neg_tmod, Int.neg_neg]
    rw [this]
    omega
theorem mod_is (k : Int) {n : Int} (hn : 0 < n) : (k.tmod n + n).tmod n = k % n := by
  rw [Int.tmod_eq_emod_of_nonneg (mod_lo k hn).1, Int.add_emod_right, Int.tmod_def, Int.sub_eq_add_neg, ← Int.mul_neg, Int.add_mul_emod_self_left]
set_option maxHeartbeats 400000 in
theorem mod_any (k n : Int) (w : World) (hn : 0 < n) (hn' : n ≤ 4294967296) :
    Calls Try.prog 14 #[.int .i64 k, .int .i64 n] w fun e w' => e = .returned (.int .i64 (k % n)) ∧ w = w' := by
  have hm := mod_lo k hn
  have e1 := mod_is k hn
  have h0 : n ≠ 0 := by omega
  have s0 : IntKind.i64.wrap (k.tmod n + n) = k.tmod n + n := IntWalk.i64_in _ ⟨by omega, by omega⟩
  clear hm hn hn'
  go_enter Try.func14, Try.ntmps14
  go_wp2
  go_ret
  exact ⟨rfl, rfl⟩
section
variable {w : World} {p : Pl} {K : St}
set_option maxHeartbeats 4000000 in
theorem issue_none {pv : Option Addr} {k : Int} (h : Gap w pv k none) :
    Calls Try.prog 23 #[.pointer pv, .int .i64 k] w fun e w' => e = .returned (.tuple #[.agg #[.int .i64 0, .int .i64 0, .int .i64 0], .int .i64 1]) ∧ Below w.heap.size w w' := by
  have b1 := bel1 w (.cells #[.int .i64 0, .int .i64 0, .int .i64 0] 33)
  have a1 := at1 w (.cells #[.int .i64 0, .int .i64 0, .int .i64 0] 33)
  have H := Lib.hid (head_none (w := w.alloc (.cells #[.int .i64 0, .int .i64 0, .int .i64 0] 33)) (fun W hW => h W (b1.trans (hW.mono b1.size))))
  have R : Hid (∀ W, Below (w.alloc (.cells #[.int .i64 0, .int .i64 0, .int .i64 0] 33)).heap.size (w.alloc (.cells #[.int .i64 0, .int .i64 0, .int .i64 0] 33)) W →
      (W.cell? ⟨w.heap.size, 0, none⟩ = some (.int .i64 0) ∧ W.cell? ⟨w.heap.size, 1, none⟩ = some (.int .i64 0) ∧ W.cell? ⟨w.heap.size, 2, none⟩ = some (.int .i64 0)) ∧ (W.frozen? ⟨w.heap.size, 0, none⟩ = false ∧ W.frozen? ⟨w.heap.size, 1, none⟩ = false ∧ W.frozen? ⟨w.heap.size, 2, none⟩ = false) ∧
      Hid (((((W.setCell ⟨w.heap.size, 0, none⟩ (.int .i64 0)).setCell ⟨w.heap.size, 1, none⟩ (.int .i64 0)).setCell ⟨w.heap.size, 2, none⟩ (.int .i64 0)).cell? ⟨w.heap.size, 0, none⟩ = some (.int .i64 0) ∧ (((W.setCell ⟨w.heap.size, 0, none⟩ (.int .i64 0)).setCell ⟨w.heap.size, 1, none⟩ (.int .i64 0)).setCell ⟨w.heap.size, 2, none⟩ (.int .i64 0)).cell? ⟨w.heap.size, 1, none⟩ = some (.int .i64 0) ∧ (((W.setCell ⟨w.heap.size, 0, none⟩ (.int .i64 0)).setCell ⟨w.heap.size, 1, none⟩ (.int .i64 0)).setCell ⟨w.heap.size, 2, none⟩ (.int .i64 0)).cell? ⟨w.heap.size, 2, none⟩ = some (.int .i64 0)) ∧
        Below w.heap.size w (((W.setCell ⟨w.heap.size, 0, none⟩ (.int .i64 0)).setCell ⟨w.heap.size, 1, none⟩ (.int .i64 0)).setCell ⟨w.heap.size, 2, none⟩ (.int .i64 0)))) := Lib.hid fun W hW => by
    have hh := (hW.block _ (heap_lt a1)).trans a1
    exact ⟨(box3 hh).1, (box3 hh).2, Lib.hid ⟨(box3 (set3_same hh _ _ _)).1, (((b1.trans (hW.mono b1.size)).setCell (Nat.le_refl _) _).setCell (Nat.le_refl _) _).setCell (Nat.le_refl _) _⟩⟩
  clear h b1 a1
  go_enter Try.func23, Try.ntmps23
  go_wp2_with (go_at_call 22; refine H.out.mono ?_; rintro e w2 ⟨rfl, hb⟩; obtain ⟨⟨c0, c1, c2⟩, ⟨f0, f1, f2⟩, HR⟩ := R.out w2 hb; clear hb R)
  obtain ⟨⟨k0, k1, k2⟩, hB⟩ := HR.out
  exact bodyPost_ret (v := .tuple #[.agg #[.int .i64 0, .int .i64 0, .int .i64 0], .int .i64 1]) (by simp [results, Try.results23, go_sem, k0, k1, k2]) rfl ⟨rfl, hB⟩
end
end Go.Proofs.Ytdanpdlbbgcidaa
