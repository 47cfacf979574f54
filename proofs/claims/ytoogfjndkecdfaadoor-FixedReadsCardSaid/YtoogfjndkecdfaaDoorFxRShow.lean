/- The document's digits and Show. -/
import Derived.Test.YtoogfjndkecdfaaDoorFxCore
import Derived.LoopTactic
import Derived.Lib.Strings
namespace Go.Proofs.YtoogfjndkecdfaaDoor
open Go.RowKit

theorem r_bytes_ext {a b : ByteArray} (h : a.data.toList = b.data.toList) : a = b := by
  obtain ⟨⟨x⟩⟩ := a
  obtain ⟨⟨y⟩⟩ := b
  simp at h
  rw [h]
theorem r_cat (a b : List UInt8) : ByteArray.mk a.toArray ++ ByteArray.mk b.toArray = ⟨(a ++ b).toArray⟩ := by
  apply r_bytes_ext
  rw [ByteArray.data_append, Array.toList_append]
theorem one_digit : ∀ d : Nat, d < 10 → ((ByteArray.mk #[48, 49, 50, 51, 52, 53, 54, 55, 56, 57]).extract d (d + 1)).data.toList = [UInt8.ofNat (48 + d)] := by
  intro d hd
  rw [Lib.extract_data]
  revert d
  decide

set_option maxHeartbeats 1000000 in
set_option maxRecDepth 100000 in
theorem digits_any : ∀ (k n : Nat) (w : World), n < 10 ^ (k + 1) → n ≤ 1000000000000000000 → k ≤ 900 →
    Calls Tryd.prog 33 #[.int .i64 n] w fun e w' => e = .returned (.string ⟨(Fx.digF (k + 1) n).toArray⟩) ∧ w = w' := by
  have small : ∀ (k n : Nat) (w : World), n < 10 → Calls Tryd.prog 33 #[.int .i64 n] w fun e w' => e = .returned (.string ⟨(Fx.digF (k + 1) n).toArray⟩) ∧ w = w' := by
    intro k n w h
    rcases (show n = 0 ∨ n = 1 ∨ n = 2 ∨ n = 3 ∨ n = 4 ∨ n = 5 ∨ n = 6 ∨ n = 7 ∨ n = 8 ∨ n = 9 by omega) with rfl | rfl | rfl | rfl | rfl | rfl | rfl | rfl | rfl | rfl
    all_goals
      go_enter Tryd.func33, Tryd.ntmps33
      go_wp2_with fail
      go_ret
      exact ⟨rfl, rfl⟩
  intro k
  induction k with
  | zero => intro n w h _ _; exact small 0 n w (by simpa using h)
  | succ k ih =>
    intro n w h hn hk
    by_cases h10 : n < 10
    · exact small _ n w h10
    · have HI : Hid (∀ W, Calls Tryd.prog 33 #[.int .i64 ((n : Int) / 10)] W fun e w' => e = .returned (.string ⟨(Fx.digF (k + 1) (n / 10)).toArray⟩) ∧ W = w') := Lib.hid (fun W => by
        have := ih (n / 10) W (by rw [Nat.pow_succ] at h; omega) (by omega) (by omega)
        rwa [show ((n / 10 : Nat) : Int) = (n : Int) / 10 by omega] at this)
      have HJ : Hid (∀ W, Calls Tryd.prog 33 #[.int .i64 ((n : Int) % 10)] W fun e w' => e = .returned (.string ⟨[UInt8.ofNat (48 + n % 10)].toArray⟩) ∧ W = w') := Lib.hid (fun W => by
        have := small 0 (n % 10) W (by omega)
        rw [Fx.digF, if_pos (by omega)] at this
        rwa [show ((n % 10 : Nat) : Int) = (n : Int) % 10 by omega] at this)
      have E := Lib.hid (show Fx.digF (k + 1 + 1) n = Fx.digF (k + 1) (n / 10) ++ [UInt8.ofNat (48 + n % 10)] by rw [Fx.digF, if_neg h10])
      clear ih small h
      have ll : (Fx.digF (k + 1) (n / 10)).length + [UInt8.ofNat (48 + n % 10)].length ≤ 1000 := by
        have := Fx.digF_len (k + 1) (n / 10)
        simp only [List.length_cons, List.length_nil]
        omega
      generalize Fx.digF (k + 1) (n / 10) = ds at *
      generalize [UInt8.ofNat (48 + n % 10)] = d1 at *
      go_enter Tryd.func33, Tryd.ntmps33
      go_wp2_with fail
      refine (HI.out _).mono ?_
      rintro e w' ⟨rfl, rfl⟩
      go_wp2_with fail
      refine (HJ.out _).mono ?_
      rintro e w' ⟨rfl, rfl⟩
      go_wp2_with fail
      go_ret
      exact ⟨by rw [E.out]; rfl, rfl⟩

namespace Fx
/-- behind each digit the rest is a multiple of a higher power of two -/
theorem rest_step : ∀ j : Nat, j < 8 → ∀ r : Nat, r < 256 → r % 2 ^ j = 0 → r * 10 % 256 % 2 ^ (j + 1) = 0 := by decide +kernel
theorem rest_end : ∀ r : Nat, r < 256 → r % 2 ^ 8 = 0 → r = 0 := by decide +kernel
theorem tailF_zero (k : Nat) : tailF k 0 = [] := by cases k <;> simp [tailF]
theorem tailF_pos (k r : Nat) (h : 0 < r) : tailF (k + 1) r = UInt8.ofNat (48 + r * 10 / 256) :: tailF k (r * 10 % 256) := by rw [tailF, if_neg (by omega)]
end Fx

set_option maxHeartbeats 2000000 in
set_option maxRecDepth 100000 in
theorem rshow_pos (n : Int) (m : Nat) (w : World) (h0 : -9223372036854775808 ≤ n) (h1 : n ≤ 9223372036854775807) (hc : Fx.clamp n = m) (hm : m ≤ 1073741824) :
    Calls Tryd.prog 23 #[.int .i64 n] w fun e w' => e = .returned (.string ⟨(Fx.showP m).toArray⟩) ∧ w = w' := by
  have C : Hid (∀ W, Calls Tryd.prog 14 #[.int .i64 n] W fun e w' => (e = .returned (.int .i64 m) ∧ W = w')) := Lib.hid (fun W => by
    have := rclamp_any n W h0 h1
    rwa [hc] at this)
  clear hc
  obtain ⟨ds, hds⟩ : ∃ ds, ds = Fx.digF 7 (m / 256) := ⟨_, rfl⟩
  have dl : ds.length ≤ 7 := by rw [hds]; exact Fx.digF_len 7 _
  have D : Hid (∀ W, Calls Tryd.prog 33 #[.int .i64 ((m : Int) / 256)] W fun e w' => e = .returned (.string ⟨ds.toArray⟩) ∧ W = w') := Lib.hid (fun W => by
    have := digits_any 6 (m / 256) W (by omega) (by omega) (by omega)
    rwa [show ((m / 256 : Nat) : Int) = (m : Int) / 256 by omega, ← hds] at this)
  have O : Hid (∀ (r : Nat) W, r < 256 → Calls Tryd.prog 33 #[.int .i64 ((r : Int) * 10 / 256)] W fun e w' => e = .returned (.string ⟨[UInt8.ofNat (48 + r * 10 / 256)].toArray⟩) ∧ W = w') := Lib.hid (fun r W hr => by
    have := digits_any 0 (r * 10 / 256) W (by omega) (by omega) (by omega)
    rw [show ((r * 10 / 256 : Nat) : Int) = (r : Int) * 10 / 256 by omega, Fx.digF, if_pos (by omega)] at this
    exact this)
  obtain ⟨full, hfull⟩ : ∃ f, f = Fx.showP m := ⟨_, rfl⟩
  have fl : full.length ≤ 16 := by rw [hfull]; exact (Fx.showP_len m).1
  obtain ⟨pre, hpre, hpl, hcase⟩ : ∃ pre, Hid (pre ++ Fx.tailF 8 (m % 256) = full) ∧ pre.length ≤ 8 ∧ ((Hid ((m : Int) % 256 = 0) ∧ pre = ds) ∨ (0 < (m : Int) % 256 ∧ pre = ds ++ [46])) := by
    by_cases h : m % 256 = 0
    · refine ⟨ds, Lib.hid ?_, by omega, .inl ⟨Lib.hid (by omega), rfl⟩⟩
      rw [hfull, hds, h, Fx.tailF_zero, List.append_nil]
      unfold Fx.showP
      rw [if_pos h, List.append_nil]
    · refine ⟨ds ++ [46], Lib.hid ?_, by simp; omega, .inr ⟨by omega, rfl⟩⟩
      rw [hfull, hds]
      unfold Fx.showP
      rw [if_neg h, List.append_assoc]
      rfl
  have HF := Lib.hid hfull
  rw [← hfull]
  clear hds hfull
  rcases hcase with ⟨hz, rfl⟩ | ⟨hz, rfl⟩
  · have hz' := hz.out
    have hn0 : decide ((m : Int) < 0) = false := by simp
    have hn1 : decide (0 < (m : Int) % 256) = false := by simp; omega
    go_enter Tryd.func23, Tryd.ntmps23
    go_wp2_with (first | (go_at_call 14; refine (C.out _).mono ?_; rintro e w' ⟨rfl, rfl⟩) | (go_at_call 33; refine (D.out _).mono ?_; rintro e w' ⟨rfl, rfl⟩))
    go_loop [3, 4] (fun s r => ∃ (j k : Nat) (l : List UInt8), j ≤ 8 ∧ k < 256 ∧ l.length ≤ 16 ∧ s = .string ⟨l.toArray⟩ ∧ r = .int .i64 k ∧ Hid (k % 2 ^ j = 0) ∧ Hid (l ++ Fx.tailF (8 - j) k = full)) (fun s _ => 100 - Lib.strSize s)
    case atStart => exact ⟨0, m % 256, _, by omega, by omega, by first | omega | (simp; omega), rfl, by rw [show ((m % 256 : Nat) : Int) = (m : Int) % 256 by omega], Lib.hid (by rw [Nat.pow_zero, Nat.mod_one]), hpre⟩
    case round =>
      clear hpre hpl hz'
      obtain ⟨j, k, l, hj, hk, hl, rfl, rfl, h2, hL⟩ := hrel
      by_cases hk0 : 0 < k
      · have hj8 : j < 8 := by
          rcases Nat.lt_or_ge j 8 with h | h
          · exact h
          · have := h2.out
            rw [show j = 8 by omega] at this
            have := Fx.rest_end k hk this
            omega
        have H2 := Lib.hid (Fx.rest_step j hj8 k hk h2.out)
        obtain ⟨c, hc⟩ : ∃ c, c = UInt8.ofNat (48 + k * 10 / 256) := ⟨_, rfl⟩
        have hS : l ++ [c] ++ Fx.tailF (8 - (j + 1)) (k * 10 % 256) = full := by
          have := hL.out
          rw [show 8 - j = (8 - (j + 1)) + 1 by omega, Fx.tailF_pos _ _ hk0, ← hc] at this
          rw [← this]; simp
        have hl1 : l.length + 1 ≤ 16 := by
          have := congrArg List.length hS
          simp only [List.length_append, List.length_cons, List.length_nil] at this
          omega
        have HS := Lib.hid hS
        have OC := Lib.hid (fun W => O.out k W hk)
        rw [← hc] at OC
        clear hc hS h2 hL
        go_wp2_with (go_at_call 33; refine (OC.out _).mono ?_; rintro e w' ⟨rfl, rfl⟩)
        go_round
        case rel => exact ⟨j + 1, k * 10 % 256, l ++ [c], by omega, by omega, by simp; omega, by rw [← r_cat], by rw [show ((k * 10 % 256 : Nat) : Int) = (k : Int) * 10 % 256 by omega], H2, HS⟩
        case measure => simp [Lib.strSize, ByteArray.size_append]; show 100 - (l.length + 1) < 100 - l.length; omega
      · have HE := Lib.hid (show l = full by
          have := hL.out
          rwa [show k = 0 by omega, Fx.tailF_zero, List.append_nil] at this)
        clear h2 hL
        go_wp2
        go_ret
        exact ⟨by rw [← HE.out]; rfl, rfl⟩
  · have hz' := hz
    have hn0 : decide ((m : Int) < 0) = false := by simp
    have hn1 : decide (0 < (m : Int) % 256) = true := by simp; omega
    go_enter Tryd.func23, Tryd.ntmps23
    go_wp2_with (first | (go_at_call 14; refine (C.out _).mono ?_; rintro e w' ⟨rfl, rfl⟩) | (go_at_call 33; refine (D.out _).mono ?_; rintro e w' ⟨rfl, rfl⟩))
    go_loop [3, 4] (fun s r => ∃ (j k : Nat) (l : List UInt8), j ≤ 8 ∧ k < 256 ∧ l.length ≤ 16 ∧ s = .string ⟨l.toArray⟩ ∧ r = .int .i64 k ∧ Hid (k % 2 ^ j = 0) ∧ Hid (l ++ Fx.tailF (8 - j) k = full)) (fun s _ => 100 - Lib.strSize s)
    case atStart => exact ⟨0, m % 256, ds ++ [46], by omega, by omega, by first | omega | (simp; omega), rfl, by rw [show ((m % 256 : Nat) : Int) = (m : Int) % 256 by omega], Lib.hid (by rw [Nat.pow_zero, Nat.mod_one]), hpre⟩
    case round =>
      clear hpre hpl hz'
      obtain ⟨j, k, l, hj, hk, hl, rfl, rfl, h2, hL⟩ := hrel
      by_cases hk0 : 0 < k
      · have hj8 : j < 8 := by
          rcases Nat.lt_or_ge j 8 with h | h
          · exact h
          · have := h2.out
            rw [show j = 8 by omega] at this
            have := Fx.rest_end k hk this
            omega
        have H2 := Lib.hid (Fx.rest_step j hj8 k hk h2.out)
        obtain ⟨c, hc⟩ : ∃ c, c = UInt8.ofNat (48 + k * 10 / 256) := ⟨_, rfl⟩
        have hS : l ++ [c] ++ Fx.tailF (8 - (j + 1)) (k * 10 % 256) = full := by
          have := hL.out
          rw [show 8 - j = (8 - (j + 1)) + 1 by omega, Fx.tailF_pos _ _ hk0, ← hc] at this
          rw [← this]; simp
        have hl1 : l.length + 1 ≤ 16 := by
          have := congrArg List.length hS
          simp only [List.length_append, List.length_cons, List.length_nil] at this
          omega
        have HS := Lib.hid hS
        have OC := Lib.hid (fun W => O.out k W hk)
        rw [← hc] at OC
        clear hc hS h2 hL
        go_wp2_with (go_at_call 33; refine (OC.out _).mono ?_; rintro e w' ⟨rfl, rfl⟩)
        go_round
        case rel => exact ⟨j + 1, k * 10 % 256, l ++ [c], by omega, by omega, by simp; omega, by rw [← r_cat], by rw [show ((k * 10 % 256 : Nat) : Int) = (k : Int) * 10 % 256 by omega], H2, HS⟩
        case measure => simp [Lib.strSize, ByteArray.size_append]; show 100 - (l.length + 1) < 100 - l.length; omega
      · have HE := Lib.hid (show l = full by
          have := hL.out
          rwa [show k = 0 by omega, Fx.tailF_zero, List.append_nil] at this)
        clear h2 hL
        go_wp2
        go_ret
        exact ⟨by rw [← HE.out]; rfl, rfl⟩

set_option maxHeartbeats 1000000 in
set_option maxRecDepth 100000 in
theorem rshow_any (n : Int) (w : World) (h0 : -9223372036854775808 ≤ n) (h1 : n ≤ 9223372036854775807) :
    Calls Tryd.prog 23 #[.int .i64 n] w fun e w' => e = .returned (.string ⟨(Fx.showL n).toArray⟩) ∧ w = w' := by
  obtain ⟨c0, c1⟩ := clamp_bd n
  by_cases hn : Fx.clamp n < 0
  · have C := Lib.hid (fun W => show Calls Tryd.prog 14 #[.int .i64 n] W fun e w' => (e = .returned (.int .i64 (Fx.clamp n)) ∧ W = w') from rclamp_any n W h0 h1)
    obtain ⟨m, hm⟩ := Int.eq_ofNat_of_zero_le (show 0 ≤ -Fx.clamp n by omega)
    have S : Hid (∀ W, Calls Tryd.prog 23 #[.int .i64 (-Fx.clamp n)] W fun e w' => e = .returned (.string ⟨(Fx.showP m).toArray⟩) ∧ W = w') := Lib.hid (fun W => by rw [hm]; exact rshow_pos m m W (by omega) (by omega) (Fx.clamp_of ⟨by omega, by omega⟩) (by omega))
    have L := Lib.hid (show Fx.showL n = [45] ++ Fx.showP m by unfold Fx.showL; rw [if_pos hn, hm]; rfl)
    have ll := (Fx.showP_len m).1
    generalize Fx.showP m = p at *
    have lb : [(45 : UInt8)].length + p.length ≤ 1000 := by simp; omega
    have lb2 : 1 + p.length ≤ 1000 := by omega
    clear hm
    go_enter Tryd.func23, Tryd.ntmps23
    go_wp2_with (first | (go_at_call 14; refine (C.out _).mono ?_; rintro e w' ⟨rfl, rfl⟩) | (go_at_call 23; refine (S.out _).mono ?_; rintro e w' ⟨rfl, rfl⟩))
    go_ret
    exact ⟨by rw [L.out, ← r_cat]; rfl, rfl⟩
  · obtain ⟨m, hm⟩ := Int.eq_ofNat_of_zero_le (show 0 ≤ Fx.clamp n by omega)
    have L := show Fx.showL n = Fx.showP m by unfold Fx.showL; rw [if_neg hn, hm]; rfl
    rw [L]
    exact rshow_pos n m w h0 h1 hm (by omega)
end Go.Proofs.YtoogfjndkecdfaaDoor
