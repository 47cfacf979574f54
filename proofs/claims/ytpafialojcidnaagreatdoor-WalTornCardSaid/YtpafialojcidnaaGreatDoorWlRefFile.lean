/- The document's name of a segment's file. -/
import Derived.Test.YtpafialojcidnaaGreatDoorWlTop
namespace Go.Proofs.YtpafialojcidnaaGreatDoor
open Go.RowKit Go.Maps Dk
set_option linter.unusedVariables false

def DigSaid (n : Nat) : Prop := ∀ (m k : Int) (w : World), 0 ≤ m → m ≤ 99999999 → 0 ≤ k → k ≤ n →
    Calls Tryz.prog 47 #[.int .i64 m, .int .i64 k] w fun e w' => e = .returned (.string ⟨(Wl.dg k.toNat m.toNat).toArray⟩) ∧ Below w.heap.size w w'
set_option maxHeartbeats 400000 in
set_option maxRecDepth 100000 in
theorem dig_zero (m : Int) (w : World) : Calls Tryz.prog 47 #[.int .i64 m, .int .i64 0] w fun e w' => e = .returned (.string ⟨#[]⟩) ∧ Below w.heap.size w w' := by
  go_enter Tryz.func47, Tryz.ntmps47
  go_wp2
  go_ret
  exact ⟨rfl, Below.refl _ _⟩
theorem one_digit (r : Int) (h0 : 0 ≤ r) (h1 : r < 10) : (ByteArray.mk #[48, 49, 50, 51, 52, 53, 54, 55, 56, 57]).extract r.toNat (r + 1).toNat = ⟨#[UInt8.ofNat (48 + r.toNat)]⟩ := by
  have : r = 0 ∨ r = 1 ∨ r = 2 ∨ r = 3 ∨ r = 4 ∨ r = 5 ∨ r = 6 ∨ r = 7 ∨ r = 8 ∨ r = 9 := by omega
  rcases this with rfl | rfl | rfl | rfl | rfl | rfl | rfl | rfl | rfl | rfl <;> rfl
set_option maxHeartbeats 2000000 in
set_option maxRecDepth 100000 in
theorem dig_succ (n : Nat) (IH : DigSaid n) (hn : n ≤ 7) (m k : Int) (w : World) (h0 : 0 ≤ m) (hm : m ≤ 99999999) (hk0 : 1 ≤ k) (hk : k ≤ n + 1) :
    Calls Tryz.prog 47 #[.int .i64 m, .int .i64 k] w fun e w' => e = .returned (.string ⟨(Wl.dg k.toNat m.toNat).toArray⟩) ∧ Below w.heap.size w w' := by
  have hne : (k == 0) = false := by simp; omega
  have e1 : IntKind.i64.wrap (m.tdiv 10) = m / 10 := by rw [Int.tdiv_eq_ediv_of_nonneg h0]; exact IntWalk.i64_in _ (by omega)
  have e2 : IntKind.i64.wrap (k - 1) = k - 1 := IntWalk.i64_in _ (by omega)
  have IH1 := Lib.hid (fun W => IH (m / 10) (k - 1) W (by omega) (by omega) (by omega) (by omega))
  have hsum : ∀ W : World, (Op.stringOp .add ⟨(Wl.dg (k - 1).toNat (m / 10).toNat).toArray⟩ ⟨#[UInt8.ofNat (48 + (m % 10).toNat)]⟩).run Tryz.prog W = .ok (.string ⟨(Wl.dg k.toNat m.toNat).toArray⟩) W := by
    intro W
    rw [run_string_add_sum _ _ _ (by simp [ByteArray.size, Wl.dg_len]; omega)]
    obtain ⟨j, hj⟩ : ∃ j, k.toNat = j + 1 := ⟨k.toNat - 1, by omega⟩
    have hq : (m / 10).toNat = m.toNat / 10 := by omega
    have hr : (m % 10).toNat = m.toNat % 10 := by omega
    have := ByteArray.mk_append_mk (Wl.dg (k - 1).toNat (m / 10).toNat) [UInt8.ofNat (48 + (m % 10).toNat)]
    rw [show (#[UInt8.ofNat (48 + (m % 10).toNat)] : Array UInt8) = [UInt8.ofNat (48 + (m % 10).toNat)].toArray from rfl, this, hj, show (k - 1).toNat = j by omega, Wl.dg, hq, hr]
  obtain ⟨r, hr⟩ : ∃ r, m % 10 = r := ⟨_, rfl⟩
  have e3 : m.tmod 10 = r := by rw [Int.tmod_eq_emod_of_nonneg h0]; exact hr
  have r0 : 0 ≤ r := by omega
  have r1 : r < 10 := by omega
  have e4 : IntKind.i64.wrap r = r := IntWalk.i64_in _ (by omega)
  have e5 : IntKind.i64.wrap (r + 1) = r + 1 := IntWalk.i64_in _ (by omega)
  have r2 : r ≤ r + 1 := by omega
  have r3 : r + 1 ≤ 10 := by omega
  have r4 : 0 ≤ r + 1 := by omega
  have hx := one_digit r r0 r1
  rw [hr] at hsum
  clear hr
  generalize UInt8.ofNat (48 + r.toNat) = dgt at *
  generalize Wl.dg (k - 1).toNat (m / 10).toNat = d0 at *
  generalize Wl.dg k.toNat m.toNat = d1 at *
  clear h0 hm hk0 hk IH
  go_enter Tryz.func47, Tryz.ntmps47
  go_wp2
  refine Og.grow 12 (by kernel_rfl) (by kernel_rfl) fun hc hf => ?_
  simp only [List.take_succ_cons, List.take_zero, List.drop_succ_cons, List.drop_zero]
  repeat (refine Og.det [] rfl (fun K hK => ?_); go_simp; first | (refine hK _ _ ?_; clear hK K) | (with_reducible refine ⟨_, fun p => Og.lays (IH1.out _), hK _ _ ?_⟩; clear hK K))
  refine Og.fin fun W hW => ?_
  simp only [Og.opened_nil]
  clear hc hf
  go_wp2
  go_ret
  exact ⟨rfl, hW⟩
theorem dig_said : ∀ n : Nat, n ≤ 8 → DigSaid n
  | 0, _ => fun m k w h0 hm hk0 hk => by
    obtain rfl : k = 0 := by omega
    exact dig_zero m w
  | n + 1, hn => fun m k w h0 hm hk0 hk => by
    by_cases hz : k = 0
    · subst hz
      exact dig_zero m w
    · exact dig_succ n (dig_said n (by omega)) (by omega) m k w h0 hm (by omega) (by omega)
set_option maxHeartbeats 2000000 in
set_option maxRecDepth 100000 in
theorem rfile_any (n : Nat) (hn : n ≤ 99999999) (w : World) :
    Calls Tryz.prog 23 #[.string ⟨#[119]⟩, .int .i64 (n : Int)] w fun e w' => e = .returned (.string ⟨(Wl.file [119] n).toArray⟩) ∧ Below w.heap.size w w' := by
  have D := dig_said 8 (Nat.le_refl _) n 8 w (by omega) (by omega) (by decide) (by decide)
  have e1 : ∀ W : World, (Op.stringOp .add ⟨#[119]⟩ ⟨#[46]⟩).run Tryz.prog W = .ok (.string ⟨#[119, 46]⟩) W := sum_two [119] [46] (by decide)
  have hl : (Wl.dg 8 n).length = 8 := Wl.dg_len 8 n
  have e2 : ∀ W : World, (Op.stringOp .add ⟨#[119, 46]⟩ ⟨(Wl.dg 8 n).toArray⟩).run Tryz.prog W = .ok (.string ⟨(Wl.file [119] n).toArray⟩) W := sum_two [119, 46] (Wl.dg 8 n) (by rw [hl]; decide)
  rw [show (8 : Int).toNat = 8 from rfl, Int.toNat_natCast] at D
  have D := Lib.hid D
  generalize Wl.dg 8 n = ds at *
  generalize Wl.file [119] n = fl at *
  go_enter Tryz.func23, Tryz.ntmps23
  go_wp2_with fail
  refine D.out.mono ?_
  rintro e w1 ⟨rfl, b1⟩
  go_wp2
  go_ret
  exact ⟨rfl, b1⟩
end Go.Proofs.YtpafialojcidnaaGreatDoor
