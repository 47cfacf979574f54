/- The document's own answers of chapter 5 (package hedgerowref05): Sum, high, Frame. -/
import Derived.Test.YtpafialojcidnaaGreatDoorFrFrame
import Derived.Deep.RegionWith
import Derived.Deep.DeepMust
import Derived.Laws.IdiomStrings
namespace Go.Proofs.YtpafialojcidnaaGreatDoor
open Go.RowKit
set_option linter.unusedVariables false

/-- one step, as the document writes it -/
theorem step_even {d : Nat} (h : d % 2 = 0) : Fr.step d = d / 2 := by unfold Fr.step; rw [if_neg (by omega)]
theorem step_odd {d : Nat} (h : d % 2 = 1) (hd : d < 4294967296) : bits .xor .u32 ((d / 2 : Nat) : Int) 3988292384 = (Fr.step d : Int) := by
  unfold Fr.step
  rw [if_pos h]
  exact u32_xor_nat (d / 2) 3988292384 (by omega) (by decide)
theorem xor_byte (c : Nat) (x : UInt8) (h : c < 4294967296) : ∃ d : Nat, d < 4294967296 ∧ bits .xor .u32 (c : Int) (x.toNat : Int) = (d : Int) ∧ Fr.stepN 8 d = Fr.feed c x := by
  have hx := Fr.byte_lt x
  exact ⟨c ^^^ x.toNat, Fr.xor_lt h (by omega), u32_xor_nat _ _ h (by omega), rfl⟩

set_option maxHeartbeats 2000000 in
set_option maxRecDepth 100000 in
theorem rsum_any (s : List UInt8) (w : World) (hs : s.length ≤ 140737488351232) :
    Calls Tryz.prog 45 #[.string ⟨s.toArray⟩] w fun e w' => e = .returned (.int .u32 (Fr.sum s : Nat)) ∧ w = w' := by
  go_enter Tryz.func45, Tryz.ntmps45
  go_wp2
  go_loop [3, 4] (fun r i => ∃ k c : Nat, k ≤ s.length ∧ i = .int .i64 k ∧ r = .int .u32 c ∧ c < 4294967296 ∧ Hid (Fr.reg 4294967295 (s.take k) = c)) (fun _ i => s.length - (intOf i).toNat)
  case atStart => exact ⟨0, 4294967295, Nat.zero_le _, rfl, rfl, by decide, Lib.hid rfl⟩
  case round =>
    obtain ⟨k, c, hk, rfl, rfl, hc, hreg⟩ := hrel
    by_cases hlt : k < s.length
    · obtain ⟨y, hy⟩ : ∃ y, y = s[k] := ⟨_, rfl⟩
      have iy : ∀ h, (ByteArray.mk s.toArray)[k]'h = y := fun h => by rw [hy]; rfl
      have hyb : (y.toNat : Int) < 256 := by have := y.toNat_lt; omega
      obtain ⟨d, hd, hxor, hff⟩ := xor_byte c y hc
      have HN : Hid (Fr.reg 4294967295 (s.take (k + 1)) = Fr.feed c y) := Lib.hid (by rw [reg_take s 4294967295 k hlt, hreg.out, hy])
      have hfl : Fr.feed c y < 4294967296 := Fr.feed_lt y hc
      have HF := Lib.hid hff
      clear hy hreg hff
      generalize Fr.feed c y = d2 at *
      go_wp2
      go_loop [3, 5] (fun r i => ∃ j x : Nat, j ≤ 8 ∧ i = .int .i64 j ∧ r = .int .u32 x ∧ x < 4294967296 ∧ Hid (Fr.stepN (8 - j) x = d2)) (fun _ i => 8 - (intOf i).toNat)
      case atStart => exact ⟨0, d, Nat.zero_le _, rfl, rfl, hd, HF⟩
      case round =>
        obtain ⟨j, x, hj, rfl, rfl, hx, hst⟩ := hrel
        by_cases hlt2 : j < 8
        · have HS : Hid (Fr.stepN (8 - (j + 1)) (Fr.step x) = d2) := Lib.hid (by rw [← hst.out, show 8 - j = 8 - (j + 1) + 1 by omega]; rfl)
          have hsl := Fr.step_lt hx
          have m2 : x % 2 = 0 ∨ x % 2 = 1 := by omega
          clear hst HF
          have hq : (x : Int) / 2 = ((x / 2 : Nat) : Int) := by omega
          rcases m2 with m2 | m2
          · have hm : (x : Int) % 2 = 0 := by omega
            rw [step_even m2] at HS hsl
            clear m2
            generalize x / 2 = q at *
            go_wp2
            go_round
            case rel => exact ⟨j + 1, q, by omega, by go_num, rfl, hsl, HS⟩
            case measure => simp [intOf]; omega
          · have hm : (x : Int) % 2 = 1 := by omega
            have hxx := step_odd m2 hx
            clear m2
            generalize Fr.step x = e at *
            generalize x / 2 = q at *
            go_wp2
            go_round
            case rel => exact ⟨j + 1, e, by omega, by go_num, rfl, hsl, HS⟩
            case measure => simp [intOf]; omega
        · obtain rfl : j = 8 := by omega
          have hst := hst.out
          simp only [Nat.sub_self, Fr.stepN] at hst
          subst hst
          clear HF
          go_wp2
          go_round
          case rel => exact ⟨k + 1, x, by omega, by go_num, rfl, hx, HN⟩
          case measure => simp [intOf]; omega
    · have HE : Hid (Fr.reg 4294967295 s = c) := Lib.hid (by rw [← hreg.out, show k = s.length by omega, List.take_length])
      have hn : IntKind.u32.wrap (4294967295 - (c : Int)) = ((4294967295 - c : Nat) : Int) := by rw [IntWalk.u32_in _ ⟨by omega, by omega⟩]; omega
      clear hreg
      go_wp2
      go_ret
      exact ⟨ret_int (by unfold Fr.sum; rw [HE.out]), rfl⟩
/-- string of one byte that lies in a new row of its own -/
theorem conv_one (x : Int) : ∀ (W : World) (g : Nat), W.cell? ⟨g, 0, none⟩ = some (.int .u8 x) → 0 ≤ x ∧ x ≤ 255 →
    (convert 48 9 (.slice (some ⟨g, 0, none⟩) 1 1)).run Tryz.prog W = .ok (.string ⟨#[UInt8.ofNat x.toNat]⟩) W := by
  intro W g hc hx
  have h := run_convert_bytes_back (P := Tryz.prog) W 48 9 5 ⟨g, 0, none⟩ 1 [UInt8.ofNat x.toNat] Tryz.underlying48 Tryz.underlying5 Tryz.underlying9 (by
    intro j hj
    match j, hj with
    | 0, _ =>
      have e : (UInt8.ofNat x.toNat).toNat = x.toNat := by rw [UInt8.toNat_ofNat']; omega
      have e2 : ((x.toNat : Nat) : Int) = x := by omega
      simp [Addr.add, hc]
      omega)
  simpa using h

/-- a one-byte row that lay there ahead of a call that makes memory lies there behind it -/
theorem keep_new {w w1 : World} {v : Value} {e : TypeId} (hb : Below (w.alloc (.cells #[v] e)).drew.heap.size (w.alloc (.cells #[v] e)).drew w1) : w1.cell? ⟨w.heap.size, 0, none⟩ = some v :=
  (hb.cell (p := ⟨w.heap.size, 0, none⟩) (by simp)).trans (by simp)

def HighSaid (n : Nat) : Prop := ∀ (m k : Int) (w : World), 0 ≤ m → m ≤ 9223372036854775807 → 0 ≤ k → k ≤ n →
    Calls Tryz.prog 44 #[.int .i64 m, .int .i64 k] w fun e w' => e = .returned (.string ⟨(Fr.hi m.toNat k.toNat).toArray⟩) ∧ Below w.heap.size w w'

set_option maxHeartbeats 400000 in
set_option maxRecDepth 100000 in
theorem high_zero (m : Int) (w : World) : Calls Tryz.prog 44 #[.int .i64 m, .int .i64 0] w fun e w' => e = .returned (.string ⟨#[]⟩) ∧ Below w.heap.size w w' := by
  go_enter Tryz.func44, Tryz.ntmps44
  go_wp2
  go_ret
  exact ⟨rfl, Below.refl _ _⟩

set_option maxHeartbeats 400000 in
set_option maxRecDepth 100000 in
theorem high_succ (n : Nat) (IH : HighSaid n) (hn : n ≤ 7) (m k : Int) (w : World) (h0 : 0 ≤ m) (hm : m ≤ 9223372036854775807) (hk0 : 1 ≤ k) (hk : k ≤ n + 1) :
    Calls Tryz.prog 44 #[.int .i64 m, .int .i64 k] w fun e w' => e = .returned (.string ⟨(Fr.hi m.toNat k.toNat).toArray⟩) ∧ Below w.heap.size w w' := by
  have hne : (k == 0) = false := by simp; omega
  go_enter Tryz.func44, Tryz.ntmps44
  go_wp2
  have e1 : IntKind.i64.wrap (m.tdiv 256) = m / 256 := by rw [Int.tdiv_eq_ediv_of_nonneg h0]; exact IntWalk.i64_in _ (by omega)
  have e2 : IntKind.i64.wrap (k - 1) = k - 1 := IntWalk.i64_in _ (by omega)
  have e3 : m.tmod 256 = m % 256 := Int.tmod_eq_emod_of_nonneg h0
  have e4 : IntKind.u8.wrap (m % 256) = m % 256 := IntWalk.u8_in _ (by omega)
  have hcv : ∀ (W : World) (g : Nat), W.cell? ⟨g, 0, none⟩ = some (.int .u8 (m % 256)) → (convert 48 9 (.slice (some ⟨g, 0, none⟩) 1 1)).run Tryz.prog W = .ok (.string ⟨#[UInt8.ofNat (m % 256).toNat]⟩) W := fun W g h => conv_one (m % 256) W g h (by omega)
  have hsum : ∀ W : World, (Op.stringOp .add ⟨(Fr.hi (m / 256).toNat (k.toNat - 1)).toArray⟩ ⟨#[UInt8.ofNat (m % 256).toNat]⟩).run Tryz.prog W = .ok (.string ⟨(Fr.hi m.toNat k.toNat).toArray⟩) W := by
    intro W
    rw [run_string_add_sum _ _ _ (by simp [ByteArray.size, Fr.hi_len]; omega)]
    obtain ⟨j, hj⟩ : ∃ j, k.toNat = j + 1 := ⟨k.toNat - 1, by omega⟩
    have hq : (m / 256).toNat = m.toNat / 256 := by omega
    have hr : (m % 256).toNat = m.toNat % 256 := by omega
    have := ByteArray.mk_append_mk (Fr.hi (m / 256).toNat (k.toNat - 1)) [UInt8.ofNat (m % 256).toNat]
    rw [show (#[UInt8.ofNat (m % 256).toNat] : Array UInt8) = [UInt8.ofNat (m % 256).toNat].toArray from rfl, this, hj, Nat.add_sub_cancel, Fr.hi, hq, hr]
  go_region_with (go_at_call 44; go_must (refine (IH _ _ _ (by omega) (by omega) (by omega) (by omega)).mono ?_; rintro e w1 ⟨rfl, hb1⟩); try (have hcc := keep_new hb1))
  all_goals (go_wp2; go_ret; refine ⟨rfl, ?_⟩)
  · exact (((Below.refl _ _).drew).trans hb1).alloc hb1.size _
  · exact (((Below.refl _ _).alloc (Nat.le_refl _) _).drew).trans (hb1.mono (by simp))
  · exact (((Below.refl _ _).alloc (Nat.le_refl _) _).drew).trans (hb1.mono (by simp))

theorem high_said : ∀ n : Nat, n ≤ 8 → HighSaid n
  | 0, _ => fun m k w h0 hm hk0 hk => by
    obtain rfl : k = 0 := by omega
    exact high_zero m w
  | n + 1, hn => fun m k w h0 hm hk0 hk => by
    by_cases hz : k = 0
    · subst hz
      exact high_zero m w
    · exact high_succ n (high_said n (by omega)) (by omega) m k w h0 hm (by omega) (by omega)
theorem rhigh_any (m k : Int) (w : World) (h0 : 0 ≤ m) (hm : m ≤ 9223372036854775807) (hk0 : 0 ≤ k) (hk : k ≤ 8) :
    Calls Tryz.prog 44 #[.int .i64 m, .int .i64 k] w fun e w' => e = .returned (.string ⟨(Fr.hi m.toNat k.toNat).toArray⟩) ∧ Below w.heap.size w w' :=
  high_said 8 (Nat.le_refl _) m k w h0 hm hk0 hk


set_option maxHeartbeats 1000000 in
set_option maxRecDepth 100000 in
theorem rframe_big (s : List UInt8) (w : World) (hs : s.length ≤ 140737488351232) (h : 65536 < s.length) :
    Calls Tryz.prog 21 #[.string ⟨s.toArray⟩] w fun e w' => e = .returned (.tuple #[.string ⟨#[]⟩, .int .i64 1]) ∧ Below w.heap.size w w' := by
  have h' : (65536 : Int) < (s.length : Int) := by omega
  go_enter Tryz.func21, Tryz.ntmps21
  go_wp2
  go_ret2
  exact ⟨rfl, Below.refl _ _⟩

set_option maxHeartbeats 2000000 in
set_option maxRecDepth 100000 in
theorem rframe_small (s : List UInt8) (w : World) (h : s.length ≤ 65536) :
    Calls Tryz.prog 21 #[.string ⟨s.toArray⟩] w fun e w' => e = .returned (.tuple #[.string ⟨(Fr.frame s).toArray⟩, .int .i64 0]) ∧ Below w.heap.size w w' := by
  have h' : decide ((65536 : Int) < (s.length : Int)) = false := by simp; omega
  have L3 := Lib.hid (fun W => rhigh_any s.length 3 W (by omega) (by omega) (by omega) (by omega))
  simp only [Int.toNat_natCast, show (3 : Int).toNat = 3 from rfl] at L3
  obtain ⟨d, hd⟩ : ∃ d, d = Fr.hi s.length 3 := ⟨_, rfl⟩
  have hdl : d.length = 3 := by rw [hd, Fr.hi_len]
  rw [← hd] at L3
  have e1 := sum_two d s (by omega)
  have hn := Fr.sum_lt (d ++ s)
  obtain ⟨t, ht⟩ : ∃ t, t = Fr.hi (Fr.sum (d ++ s)) 4 := ⟨_, rfl⟩
  have htl : t.length = 4 := by rw [ht, Fr.hi_len]
  have L4 := Lib.hid (fun W => rhigh_any (Fr.sum (d ++ s) : Nat) 4 W (by omega) (by omega) (by omega) (by omega))
  simp only [Int.toNat_natCast, show (4 : Int).toNat = 4 from rfl] at L4
  rw [← ht] at L4
  have e2 := sum_two (d ++ s) t (by rw [List.length_append]; omega)
  have HF : Hid (Fr.frame s = d ++ s ++ t) := Lib.hid (by unfold Fr.frame Fr.body; rw [ht, hd])
  have S := Lib.hid (fun W => rsum_any (d ++ s) W (by rw [List.length_append]; omega))
  generalize Fr.sum (d ++ s) = n at *
  clear hd ht
  go_enter Tryz.func21, Tryz.ntmps21
  go_wp2_with fail
  refine (L3.out _).mono ?_
  rintro e w1 ⟨rfl, b1⟩
  go_wp2_with fail
  refine (S.out _).mono ?_
  rintro e w' ⟨rfl, rfl⟩
  go_wp2_with fail
  refine (L4.out _).mono ?_
  rintro e w3 ⟨rfl, b4⟩
  go_wp2
  go_ret2
  exact ⟨by rw [HF.out, List.append_assoc]; rfl, b1.trans (b4.mono b1.size)⟩

theorem rframe_any (s : List UInt8) (w : World) (hs : s.length ≤ 140737488351232) :
    Calls Tryz.prog 21 #[.string ⟨s.toArray⟩] w fun e w' => e = .returned (.tuple #[.string ⟨(frameText s).toArray⟩, .int .i64 (frameErr s : Nat)]) ∧ Below w.heap.size w w' := by
  unfold frameText frameErr
  by_cases h : 65536 < s.length
  · rw [if_pos h, if_pos h]
    exact rframe_big s w hs h
  · rw [if_neg h, if_neg h]
    exact rframe_small s w (by omega)
end Go.Proofs.YtpafialojcidnaaGreatDoor
