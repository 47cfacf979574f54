/- frame.number, laid: what they answer. -/
import Derived.Test.YtpafialojcidnaaGreatDoorFrCode
namespace Go.Proofs.YtpafialojcidnaaGreatDoor
open Go.RowKit

theorem or_u32 (m : Nat) (x : UInt8) (h : m < 16777216) : bits .or .u32 ((m : Int) * 256) (x.toNat : Int) = ((256 * m + x.toNat : Nat) : Int) := by
  have hx := Fr.byte_lt x
  have h1 := u32_or_nat (m * 256) x.toNat (by omega) (by omega)
  rw [nat_join 8 (m * 256) x.toNat (by omega) (by omega), show m * 256 + x.toNat = 256 * m + x.toNat by omega] at h1
  rwa [Int.natCast_mul] at h1
theorem be_take (l : List UInt8) (k : Nat) (h : k < l.length) : Fr.be (l.take (k + 1)) = 256 * Fr.be (l.take k) + l[k].toNat := by
  rw [List.take_succ_eq_append_getElem h, Fr.be_snoc]

set_option maxHeartbeats 1000000 in
set_option maxRecDepth 100000 in
theorem number_any (l : List UInt8) (w : World) (hl : l.length ≤ 4) :
    Calls Tryz.prog 93 #[.string ⟨l.toArray⟩] w fun e w' => e = .returned (.int .u32 (Fr.be l : Nat)) ∧ w = w' := by
  go_enter Tryz.func93, Tryz.ntmps93
  go_wp2
  go_loop [3, 7] (fun n i => ∃ k m : Nat, k ≤ l.length ∧ i = .int .i64 k ∧ n = .int .u32 m ∧ Hid (Fr.be (l.take k) = m)) (fun _ i => l.length - (intOf i).toNat)
  case atStart => exact ⟨0, 0, Nat.zero_le _, rfl, rfl, Lib.hid rfl⟩
  case round =>
    obtain ⟨k, m, hk, rfl, rfl, hm⟩ := hrel
    by_cases hlt : k < l.length
    · obtain ⟨x, hx⟩ : ∃ x, x = l[k] := ⟨_, rfl⟩
      have ix : ∀ h, (ByteArray.mk l.toArray)[k]'h = x := fun h => by rw [hx]; rfl
      have hxb : (x.toNat : Int) < 256 := by have := x.toNat_lt; omega
      have hm3 : m < 16777216 := by
        have h1 := Fr.be_lt k (l.take k) (by rw [List.length_take]; omega)
        rw [hm.out] at h1
        have h2 : 256 ^ k ≤ 256 ^ 3 := Nat.pow_le_pow_right (by decide) (by omega)
        omega
      have hor := or_u32 m x hm3
      have HN : Hid (Fr.be (l.take (k + 1)) = 256 * m + x.toNat) := Lib.hid (by rw [be_take l k hlt, hm.out, hx])
      clear hx hm
      generalize 256 * m + x.toNat = m2 at *
      go_wp2
      go_round
      case rel => exact ⟨k + 1, m2, by omega, by go_num, rfl, HN⟩
      case measure => simp [intOf]; omega
    · have HE : Hid (Fr.be l = m) := Lib.hid (by rw [← hm.out, show k = l.length by omega, List.take_length])
      clear hm
      go_wp2
      go_ret
      exact ⟨ret_int (by rw [HE.out]), rfl⟩

def Bld (B b : Nat) (l : List UInt8) (w : World) : Prop := Hid (Lib.IsBuilder 126 5 B b (Lib.byteCells l) w)
theorem bld_new (w : World) : Bld w.heap.size w.heap.size [] (w.alloc (.cells #[.pointer none, .slice none 0 0] 126)) := Lib.hid (Lib.fresh_isBuilder _ _ w)
theorem wb_any (B b : Nat) (l : List UInt8) (c : UInt8) (w : World) (h : Bld B b l w) (hlen : l.length ≤ 1000) (hBw : B ≤ w.heap.size) :
    Calls Tryz.prog 90 #[.pointer (some ⟨b, 0, none⟩), .int .u8 (c.toNat : Int)] w fun e w' => e = .returned .nilIface ∧ Bld B b (l ++ [c]) w' ∧ Below B w w' := by
  refine (writeByte_any B b _ _ w h.out (by rw [Lib.byteCells_length]; omega) hBw).mono ?_
  rintro e w' ⟨rfl, h1, h2⟩
  exact ⟨rfl, Lib.hid (by rw [Lib.byteCells_append]; exact h1), h2⟩
theorem lay_byte (m i : Nat) : (m : Int) / 2 ^ (8 * i) % 256 = ((UInt8.ofNat (m / 256 ^ i % 256)).toNat : Int) := by
  have hp : (2 : Int) ^ (8 * i) = ((256 ^ i : Nat) : Int) := by
    have : (256 : Nat) ^ i = 2 ^ (8 * i) := by rw [Nat.pow_mul]
    rw [this]; norm_cast
  rw [hp]
  have : (UInt8.ofNat (m / 256 ^ i % 256)).toNat = m / 256 ^ i % 256 := by rw [UInt8.toNat_ofNat']; omega
  rw [this, Int.natCast_emod, Int.natCast_ediv]
  rfl
theorem hi_take : ∀ (k m i : Nat), i < k → (Fr.hi m k).take (k - (i + 1) + 1) = (Fr.hi m k).take (k - (i + 1)) ++ [UInt8.ofNat (m / 256 ^ i % 256)]
  | 0, _, _, h => absurd h (by omega)
  | k + 1, m, 0, _ => by
    rw [show k + 1 - (0 + 1) = k by omega, Fr.hi]
    rw [List.take_of_length_le (by simp [Fr.hi_len]), List.take_append_of_le_length (by rw [Fr.hi_len]; omega), List.take_of_length_le (by rw [Fr.hi_len]; omega)]
    simp
  | k + 1, m, i + 1, h => by
    have ih := hi_take k (m / 256) i (by omega)
    rw [Nat.div_div_eq_div_mul, show 256 * 256 ^ i = 256 ^ (i + 1) by rw [Nat.pow_succ, Nat.mul_comm]] at ih
    rw [show k + 1 - (i + 1 + 1) = k - (i + 1) by omega, Fr.hi]
    rw [List.take_append_of_le_length (by rw [Fr.hi_len]; omega), List.take_append_of_le_length (by rw [Fr.hi_len]; omega)]
    exact ih

set_option maxHeartbeats 1000000 in
set_option maxRecDepth 100000 in
theorem laid_any (n k : Nat) (w : World) (hk : k ≤ 4) :
    Calls Tryz.prog 67 #[.int .u32 n, .int .i64 k] w fun e w' => e = .returned (.string ⟨(Fr.hi n k).toArray⟩) ∧ Below w.heap.size w w' := by
  have hnew := bld_new w
  have hb0 : Below w.heap.size w (w.alloc (.cells #[.pointer none, .slice none 0 0] 126)) := (Below.refl _ _).alloc (Nat.le_refl _) _
  obtain ⟨l, hl⟩ : ∃ l, l = Fr.hi n k := ⟨_, rfl⟩
  have hll : l.length = k := by rw [hl, Fr.hi_len]
  have HP := Lib.hid (fun (p : Nat) (hp : p < k) => show (n : Int) / 2 ^ (8 * p) % 256 = ((UInt8.ofNat (n / 256 ^ p % 256)).toNat : Int) ∧ l.take (k - p) = l.take (k - (p + 1)) ++ [UInt8.ofNat (n / 256 ^ p % 256)] from ⟨lay_byte n p, by rw [hl]; have := hi_take k n p hp; rwa [show k - (p + 1) + 1 = k - p by omega] at this⟩)
  rw [← hl]
  clear hl
  go_enter Tryz.func67, Tryz.ntmps67
  go_wp2
  go_loopw [6] (fun i wr => ∃ x : Int, i = .int .i64 x ∧ -1 ≤ x ∧ x < k ∧ Bld w.heap.size w.heap.size (l.take (k - (x + 1).toNat)) wr ∧ Below w.heap.size w wr) (fun i _ => (intOf i + 1).toNat)
  case atStart => exact ⟨(k : Int) - 1, rfl, by omega, by omega, by rw [show k - ((k : Int) - 1 + 1).toNat = 0 by omega]; exact hnew, hb0⟩
  case round =>
    obtain ⟨x, rfl, hx0, hxk, hbl, hbw⟩ := hrel
    have hsw := hbw.size
    clear hnew hb0
    by_cases hx : 0 ≤ x
    · obtain ⟨p, rfl⟩ := Int.eq_ofNat_of_zero_le hx
      obtain ⟨hv, ht⟩ := HP.out p (by omega)
      have hlen : (l.take (k - ((p : Int) + 1).toNat)).length ≤ 1000 := by rw [List.length_take]; omega
      have HT := Lib.hid ht
      have W := Lib.hid (fun W (h : Bld w.heap.size w.heap.size (l.take (k - ((p : Int) + 1).toNat)) W) (hB : w.heap.size ≤ W.heap.size) => wb_any _ _ _ (UInt8.ofNat (n / 256 ^ p % 256)) W h hlen hB)
      rw [← hv] at W
      clear ht HP hv
      go_wp2_with fail
      refine (W.out _ hbl hsw).mono ?_
      rintro e w2 ⟨rfl, h2, hb2⟩
      have H2 : Bld w.heap.size w.heap.size (l.take (k - p)) w2 := by
        rw [HT.out, show p + 1 = ((p : Int) + 1).toNat by omega]
        exact h2
      clear h2 hbl W
      go_wp2
      go_roundw
      case rel => exact ⟨(p : Int) - 1, rfl, by omega, by omega, by rw [show ((p : Int) - 1 + 1).toNat = p by omega]; exact H2, hbw.trans hb2⟩
      case measure => simp [intOf]
    · have hxe : x = -1 := by omega
      subst hxe
      have HF : Bld w.heap.size w.heap.size l wr := by rwa [show k - ((-1 : Int) + 1).toNat = k by omega, List.take_of_length_le (by omega)] at hbl
      clear hbl
      go_wp2_with fail
      refine (Tryz.Builder_String_any _ _ _ _ HF.out hsw).mono ?_
      rintro e w4 ⟨rfl, hb4⟩
      go_wp2
      go_ret
      exact ⟨rfl, hbw.trans hb4⟩
end Go.Proofs.YtpafialojcidnaaGreatDoor
