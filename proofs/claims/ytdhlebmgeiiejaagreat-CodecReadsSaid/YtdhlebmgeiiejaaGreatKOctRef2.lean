/- The document's own answers of chapter 1 (package hedgerowref01): what size, high, Int, Text and Ints return. -/
import Derived.Test.YtdhlebmgeiiejaaGreatRows
import Derived.Test.YtdhlebmgeiiejaaGreatKPure
import Derived.WalkKit
import Derived.WalkSpells
import Derived.WalkLawsBesides
import Derived.BigQuiet
import Derived.Deep.QuietTactic
import Derived.Deep.RegionWith
import Derived.Lib.Hide
import Derived.IntWalk
import Derived.Laws.IdiomStrings
import Derived.Laws.Concat
import Derived.Deep.DeepMust
namespace Go.Proofs.YtdhlebmgeiiejaaGreat
open Go.RowKit

theorem ret_int {k : IntKind} {a b : Int} (h : a = b) : Ending.returned (.int k a) = .returned (.int k b) := by rw [h]

theorem szF_step (f m : Nat) (h : m ≠ 0) : Oct.szF (f + 1) m = Oct.szF f (m / 256) + 1 := by rw [Oct.szF, if_neg h]

theorem szF_zero (f : Nat) : Oct.szF f 0 = 0 := by cases f <;> simp [Oct.szF]
def SzAt (m j x : Nat) : Prop := ∃ f, f + j = 8 ∧ Oct.sz m = Oct.szF f x + j ∧ x < 256 ^ f
theorem SzAt.start {m : Nat} (h : m < 18446744073709551616) : SzAt m 0 m := ⟨8, rfl, rfl, by simpa using h⟩
theorem SzAt.step {m j x : Nat} (h : SzAt m j x) (h0 : x ≠ 0) : SzAt m (j + 1) (x / 256) := by
  obtain ⟨f, hf, hs, hx⟩ := h
  match f, hf, hs, hx with
  | 0, _, _, hx => exact absurd (by simpa using hx) h0
  | f + 1, hf, hs, hx =>
    refine ⟨f, by omega, ?_, Nat.div_lt_of_lt_mul (by rw [Nat.mul_comm]; rwa [Nat.pow_succ] at hx)⟩
    rw [hs, szF_step f x h0]; omega
theorem SzAt.le {m j x : Nat} (h : SzAt m j x) : j ≤ 8 := by obtain ⟨f, hf, _⟩ := h; omega
theorem SzAt.done {m j : Nat} (h : SzAt m j 0) : Oct.sz m = j := by
  obtain ⟨f, hf, hs, hx⟩ := h
  rw [hs, szF_zero]; omega

set_option maxHeartbeats 400000 in
theorem rsize_any (m : Int) (w : World) (h0 : 0 ≤ m) (hm : m ≤ 9223372036854775807) :
    Calls Tryz.prog 91 #[.int .i64 m] w fun e w' => e = .returned (.int .i64 (Oct.sz m.toNat)) ∧ w = w' := by
  obtain ⟨m, rfl⟩ := Int.eq_ofNat_of_zero_le h0
  rw [Int.toNat_natCast]
  have hs : SzAt m 0 m := SzAt.start (by omega)
  go_enter Tryz.func91, Tryz.ntmps91
  go_wp2
  go_loop [0, 3] (fun t k => ∃ j x : Nat, t = .int .i64 x ∧ k = .int .i64 j ∧ x ≤ 9223372036854775807 ∧ SzAt m j x) (fun t _ => (intOf t).toNat)
  case atStart => exact ⟨0, m, rfl, rfl, by omega, hs⟩
  case round =>
    obtain ⟨j, x, rfl, rfl, hx, hr⟩ := hrel
    have hj := hr.le
    by_cases hz : x = 0
    · subst hz
      have HE := Lib.hid hr.done
      clear hr
      go_wp2
      go_ret
      exact ⟨ret_int (by rw [HE.out]), rfl⟩
    · have hpos : 0 < x := by omega
      have HR := Lib.hid (hr.step hz)
      clear hr hz
      go_wp2
      go_round
      case rel => exact ⟨j + 1, x / 256, by go_num, by go_num, by omega, HR.out⟩
      case measure => simp [intOf]; omega

theorem ret_str {a b : ByteArray} (h : a = b) : Ending.returned (.string a) = .returned (.string b) := by rw [h]
theorem byte_of (m : Nat) : UInt8.ofNat (m % 256) = UInt8.ofNat ((m : Int) % 256).toNat := by
  have : ((m : Int) % 256).toNat = m % 256 := by omega
  rw [this]

/-- string of one byte that lies in a new row of its own -/
theorem conv_one (x : Int) : ∀ (W : World) (g : Nat), W.cell? ⟨g, 0, none⟩ = some (.int .u8 x) → 0 ≤ x ∧ x ≤ 255 →
    (convert 88 9 (.slice (some ⟨g, 0, none⟩) 1 1)).run Tryz.prog W = .ok (.string ⟨#[UInt8.ofNat x.toNat]⟩) W := by
  intro W g hc hx
  have h := run_convert_bytes_back (P := Tryz.prog) W 88 9 5 ⟨g, 0, none⟩ 1 [UInt8.ofNat x.toNat] Tryz.underlying88 Tryz.underlying5 Tryz.underlying9 (by
    intro j hj
    match j, hj with
    | 0, _ =>
      have e : (UInt8.ofNat x.toNat).toNat = x.toNat := by rw [UInt8.toNat_ofNat']; omega
      have e2 : ((x.toNat : Nat) : Int) = x := by omega
      simp [Addr.add, hc]
      omega)
  simpa using h

/-- a one-byte row that lay there ahead of a call that makes memory lies there behind it -/
theorem keep_new {w w1 : World} {v : Value} {e : TypeId} (hb : Below (w.alloc (.cells #[v] e)).drew.heap.size (w.alloc (.cells #[v] e)).drew w1) : w1.cell? ⟨w.heap.size, 0, none⟩ = some v :=
  (hb.cell (p := ⟨w.heap.size, 0, none⟩) (by simp)).trans (by simp)

def HighSaid (n : Nat) : Prop := ∀ (m k : Int) (w : World), 0 ≤ m → m ≤ 9223372036854775807 → 0 ≤ k → k ≤ n →
    Calls Tryz.prog 92 #[.int .i64 m, .int .i64 k] w fun e w' => e = .returned (.string ⟨(Oct.hi m.toNat k.toNat).toArray⟩) ∧ Below w.heap.size w w'

set_option maxHeartbeats 400000 in
set_option maxRecDepth 100000 in
theorem high_zero (m : Int) (w : World) : Calls Tryz.prog 92 #[.int .i64 m, .int .i64 0] w fun e w' => e = .returned (.string ⟨#[]⟩) ∧ Below w.heap.size w w' := by
  go_enter Tryz.func92, Tryz.ntmps92
  go_wp2
  go_ret
  exact ⟨rfl, Below.refl _ _⟩

set_option maxHeartbeats 400000 in
set_option maxRecDepth 100000 in
theorem high_succ (n : Nat) (IH : HighSaid n) (hn : n ≤ 7) (m k : Int) (w : World) (h0 : 0 ≤ m) (hm : m ≤ 9223372036854775807) (hk0 : 1 ≤ k) (hk : k ≤ n + 1) :
    Calls Tryz.prog 92 #[.int .i64 m, .int .i64 k] w fun e w' => e = .returned (.string ⟨(Oct.hi m.toNat k.toNat).toArray⟩) ∧ Below w.heap.size w w' := by
  have hne : (k == 0) = false := by simp; omega
  go_enter Tryz.func92, Tryz.ntmps92
  go_wp2
  have e1 : IntKind.i64.wrap (m.tdiv 256) = m / 256 := by rw [Int.tdiv_eq_ediv_of_nonneg h0]; exact IntWalk.i64_in _ (by omega)
  have e2 : IntKind.i64.wrap (k - 1) = k - 1 := IntWalk.i64_in _ (by omega)
  have e3 : m.tmod 256 = m % 256 := Int.tmod_eq_emod_of_nonneg h0
  have e4 : IntKind.u8.wrap (m % 256) = m % 256 := IntWalk.u8_in _ (by omega)
  have hcv : ∀ (W : World) (g : Nat), W.cell? ⟨g, 0, none⟩ = some (.int .u8 (m % 256)) → (convert 88 9 (.slice (some ⟨g, 0, none⟩) 1 1)).run Tryz.prog W = .ok (.string ⟨#[UInt8.ofNat (m % 256).toNat]⟩) W := fun W g h => conv_one (m % 256) W g h (by omega)
  have hsum : ∀ W : World, (Op.stringOp .add ⟨(Oct.hi (m / 256).toNat (k.toNat - 1)).toArray⟩ ⟨#[UInt8.ofNat (m % 256).toNat]⟩).run Tryz.prog W = .ok (.string ⟨(Oct.hi m.toNat k.toNat).toArray⟩) W := by
    intro W
    rw [run_string_add_sum _ _ _ (by simp [ByteArray.size, Oct.hi_length]; omega)]
    obtain ⟨j, hj⟩ : ∃ j, k.toNat = j + 1 := ⟨k.toNat - 1, by omega⟩
    have hq : (m / 256).toNat = m.toNat / 256 := by omega
    have hr : (m % 256).toNat = m.toNat % 256 := by omega
    have := ByteArray.mk_append_mk (Oct.hi (m / 256).toNat (k.toNat - 1)) [UInt8.ofNat (m % 256).toNat]
    rw [show (#[UInt8.ofNat (m % 256).toNat] : Array UInt8) = [UInt8.ofNat (m % 256).toNat].toArray from rfl, this, hj, Nat.add_sub_cancel, Oct.hi, hq, hr]
  go_region_with (go_at_call 92; go_must (refine (IH _ _ _ (by omega) (by omega) (by omega) (by omega)).mono ?_; rintro e w1 ⟨rfl, hb1⟩); try (have hcc := keep_new hb1))
  all_goals (go_wp2; go_ret; refine ⟨rfl, ?_⟩)
  · exact (((Below.refl _ _).drew).trans hb1).alloc hb1.size _
  · exact (((Below.refl _ _).alloc (Nat.le_refl _) _).drew).trans (hb1.mono (by simp))
  · exact (((Below.refl _ _).alloc (Nat.le_refl _) _).drew).trans (hb1.mono (by simp))

theorem high_said : ∀ n : Nat, n ≤ 8 → HighSaid n
  | 0, _ => fun m k w h0 hm hk0 hk => by
    obtain rfl : k = 0 := by omega
    exact high_zero m w
  | n + 1, hn => fun m k w h0 hm hk0 hk => by
    by_cases hz : k = 0
    · subst hz
      exact high_zero m w
    · exact high_succ n (high_said n (by omega)) (by omega) m k w h0 hm (by omega) (by omega)
theorem rhigh_any (m k : Int) (w : World) (h0 : 0 ≤ m) (hm : m ≤ 9223372036854775807) (hk0 : 0 ≤ k) (hk : k ≤ 8) :
    Calls Tryz.prog 92 #[.int .i64 m, .int .i64 k] w fun e w' => e = .returned (.string ⟨(Oct.hi m.toNat k.toNat).toArray⟩) ∧ Below w.heap.size w w' :=
  high_said 8 (Nat.le_refl _) m k w h0 hm hk0 hk

end Go.Proofs.YtdhlebmgeiiejaaGreat
