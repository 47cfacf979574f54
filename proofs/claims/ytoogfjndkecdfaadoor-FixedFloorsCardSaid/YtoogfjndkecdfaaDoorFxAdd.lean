/- Both sums. -/
import Derived.Test.YtoogfjndkecdfaaDoorFxRef
namespace Go.Proofs.YtoogfjndkecdfaaDoor
open Go.RowKit

namespace Fx
def add (l : List Int) : Int := l.foldl (fun s x => clamp (s + clamp x)) 0
theorem add_bd (l : List Int) : -1073741824 ≤ add l ∧ add l ≤ 1073741824 := by
  unfold add
  suffices h : ∀ s : Int, -1073741824 ≤ s ∧ s ≤ 1073741824 → -1073741824 ≤ l.foldl (fun s x => clamp (s + clamp x)) s ∧ l.foldl (fun s x => clamp (s + clamp x)) s ≤ 1073741824 from h 0 (by omega)
  induction l with
  | nil => intro s hs; exact hs
  | cons a l ih => intro s _; exact ih _ (clamp_bd _)
theorem add_snoc (l : List Int) (x : Int) : add (l ++ [x]) = clamp (add l + clamp x) := by unfold add; rw [List.foldl_append]; rfl
end Fx

set_option maxHeartbeats 1000000 in
set_option maxRecDepth 100000 in
theorem add_any (A : Option Addr) (cap : Nat) (l : List Int) (w : World) (B : Nat) (hl : l.length ≤ 1000000000000) (hi : I64 l) (hr : Reads w B A (ints l)) :
    Calls Tryd.prog 16 #[.slice A l.length cap] w fun e w' => e = .returned (.int .i64 (Fx.add l)) ∧ w = w' := by
  go_enter Tryd.func16, Tryd.ntmps16
  go_wp2
  go_loop [3, 8] (fun s i => ∃ k : Nat, k ≤ l.length ∧ i = .int .i64 k ∧ s = .int .i64 (Fx.add (l.take k))) (fun _ i => l.length - (intOf i).toNat)
  case atStart => exact ⟨0, Nat.zero_le _, rfl, rfl⟩
  case round =>
    obtain ⟨k, hk, rfl, rfl⟩ := hrel
    obtain ⟨s0, s1⟩ := Fx.add_bd (l.take k)
    by_cases hlt : k < l.length
    · obtain ⟨x, hx⟩ : ∃ x, x = l[k] := ⟨_, rfl⟩
      obtain ⟨b, off, rfl, hbB, hc⟩ := hr.at_ (k := k) (by simpa [ints] using hlt)
      have hcw : w.cell? ⟨b, off + k, none⟩ = some (.int .i64 x) := by rw [hc, hx]; simp [ints]
      obtain ⟨x0, x1⟩ := hi x (by rw [hx]; exact List.getElem_mem _)
      obtain ⟨c0, c1⟩ := clamp_bd x
      have HN := Lib.hid (show Fx.clamp (Fx.add (l.take k) + Fx.clamp x) = Fx.add (l.take (k + 1)) by rw [hx, List.take_succ_eq_append_getElem hlt, Fx.add_snoc])
      clear hx hc
      go_wp2_with (go_at_call 13; refine (clamp_any _ _ (by omega) (by omega)).mono ?_; rintro e w' ⟨rfl, rfl⟩)
      go_round
      case rel => exact ⟨k + 1, by omega, by go_num, by rw [HN.out]⟩
      case measure => simp [intOf]; omega
    · have HB := Lib.hid (show l.take k = l by rw [show k = l.length by omega, List.take_length])
      go_wp2
      go_ret
      exact ⟨ret_int (by rw [HB.out]), rfl⟩

set_option maxHeartbeats 1000000 in
set_option maxRecDepth 100000 in
theorem radd_any (A : Option Addr) (cap : Nat) (l : List Int) (w : World) (B : Nat) (hl : l.length ≤ 1000000000000) (hi : I64 l) (hr : Reads w B A (ints l)) :
    Calls Tryd.prog 17 #[.slice A l.length cap] w fun e w' => e = .returned (.int .i64 (Fx.add l)) ∧ w = w' := by
  go_enter Tryd.func17, Tryd.ntmps17
  go_wp2
  go_loop [3, 4] (fun s i => ∃ k : Nat, k ≤ l.length ∧ i = .int .i64 k ∧ s = .int .i64 (Fx.add (l.take k))) (fun _ i => l.length - (intOf i).toNat)
  case atStart => exact ⟨0, Nat.zero_le _, rfl, rfl⟩
  case round =>
    obtain ⟨k, hk, rfl, rfl⟩ := hrel
    obtain ⟨s0, s1⟩ := Fx.add_bd (l.take k)
    by_cases hlt : k < l.length
    · obtain ⟨x, hx⟩ : ∃ x, x = l[k] := ⟨_, rfl⟩
      obtain ⟨b, off, rfl, hbB, hc⟩ := hr.at_ (k := k) (by simpa [ints] using hlt)
      have hcw : w.cell? ⟨b, off + k, none⟩ = some (.int .i64 x) := by rw [hc, hx]; simp [ints]
      obtain ⟨x0, x1⟩ := hi x (by rw [hx]; exact List.getElem_mem _)
      obtain ⟨c0, c1⟩ := clamp_bd x
      have HN := Lib.hid (show Fx.clamp (Fx.add (l.take k) + Fx.clamp x) = Fx.add (l.take (k + 1)) by rw [hx, List.take_succ_eq_append_getElem hlt, Fx.add_snoc])
      clear hx hc
      go_wp2_with (go_at_call 14; refine (rclamp_any _ _ (by omega) (by omega)).mono ?_; rintro e w' ⟨rfl, rfl⟩)
      go_round
      case rel => exact ⟨k + 1, by omega, by go_num, by rw [HN.out]⟩
      case measure => simp [intOf]; omega
    · have HB := Lib.hid (show l.take k = l by rw [show k = l.length by omega, List.take_length])
      go_wp2
      go_ret
      exact ⟨ret_int (by rw [HB.out]), rfl⟩
end Go.Proofs.YtoogfjndkecdfaaDoor
