/- same: two rows of the same names. -/
import Derived.Test.YtdanpdlbbgcidaaIdDu
namespace Go.Proofs.Ytdanpdlbbgcidaa
open Go.RowKit Ids
set_option linter.unusedVariables false

set_option maxHeartbeats 8000000 in
set_option maxRecDepth 100000 in
theorem same_any {w : World} {B B' : Nat} {v u : Value} {l : List I3} (h1 : OwnI w B v l) (h2 : OwnI w B' u l) (hl : l.length ≤ 256) :
    Calls Try.prog 32 #[v, u] w fun e w' => e = .returned (.bool true) ∧ Below w.heap.size w w' := by
  obtain ⟨A1, c1, rfl⟩ := h1.form
  obtain ⟨A2, c2, rfl⟩ := h2.form
  have AT : Hid (∀ W, Below w.heap.size w W → ∀ j, j < l.length → ∃ g o g2 o2, ∃ x0 x1 x2 : Int, A1 = some ⟨g, o, none⟩ ∧ A2 = some ⟨g2, o2, none⟩ ∧ (W.cell? ⟨g, o + j * 3, none⟩ = some (.int .i64 x0) ∧ W.cell? ⟨g, o + j * 3 + 1, none⟩ = some (.int .i64 x1) ∧ W.cell? ⟨g, o + j * 3 + 2, none⟩ = some (.int .i64 x2)) ∧
      (W.cell? ⟨g2, o2 + j * 3, none⟩ = some (.int .i64 x0) ∧ W.cell? ⟨g2, o2 + j * 3 + 1, none⟩ = some (.int .i64 x1) ∧ W.cell? ⟨g2, o2 + j * 3 + 2, none⟩ = some (.int .i64 x2))) := Lib.hid fun W hW j hj => by
    obtain ⟨g, o, c, e1, _, _, k1, _⟩ := id_at (h1.below hW) hj
    obtain ⟨g2, o2, c', e2, _, _, k2, _⟩ := id_at (h2.below hW) hj
    cases e1
    cases e2
    exact ⟨g, o, g2, o2, _, _, _, rfl, rfl, k1, k2⟩
  clear h1 h2
  generalize l.length = n at *
  have hn : (n : Int) ≤ 256 := by omega
  have hnn : ((n : Int) != (n : Int)) = false := by simp
  go_enter Try.func32, Try.ntmps32
  go_wp2
  go_loopw [5] (fun i wr => ∃ j : Nat, j ≤ n ∧ i = .int .i64 j ∧ Hid (Below w.heap.size w wr)) (fun i _ => n - (intOf i).toNat)
  case atStart => exact ⟨0, Nat.zero_le _, rfl, Lib.hid (Below.refl _ _)⟩
  case round =>
    obtain ⟨j, hj, rfl, HB⟩ := hrel
    by_cases hjn : j < n
    · have t1 : (j : Int) < (n : Int) := by omega
      obtain ⟨g, o, g2, o2, x0, x1, x2, rfl, rfl, ⟨a0, a1, a2⟩, ⟨b0, b1, b2⟩⟩ := AT.out wr HB.out j hjn
      have NX : Hid (∀ m, Below w.heap.size w (wr.drewN m)) := Lib.hid fun m => Below.dn' HB.out m
      have q0 : (x0 == x0) = true := by simp
      have q1 : (x1 == x1) = true := by simp
      have q2 : (x2 == x2) = true := by simp
      clear AT HB
      go_wp2
      go_quiet (fail)
      go_wp2
      go_roundw
      case rel => exact ⟨j + 1, by omega, by go_num, Lib.hid (NX.out _)⟩
      case measure => simp [intOf]; omega
    · obtain rfl : j = n := by omega
      have t1 : ¬ (j : Int) < (j : Int) := by omega
      clear AT
      go_wp2
      go_ret
      exact ⟨rfl, HB.out⟩
end Go.Proofs.Ytdanpdlbbgcidaa
