/- octet.layInt, Int and Text: what they lay. -/
import Derived.Test.YtjkjomnnpfbiiaaOctBld
import Derived.Test.YtjkjomnnpfbiiaaOctRef4
import Derived.Laws.BitsAllLaws
namespace Go.Proofs.Ytjkjomnnpfbiiaa
open Go.RowKit

/-- ^n of an int below 0 -/
theorem not_neg (n : Int) (h0 : n < 0) (h1 : -9223372036854775808 ≤ n) : bits .xor .i64 (-1) n = -n - 1 := by
  show IntKind.i64.wrap ((BitVec.ofInt 64 (-1) ^^^ BitVec.ofInt 64 n).toNat : Int) = _
  have e1 : BitVec.ofInt 64 (-1) = BitVec.allOnes 64 := by decide
  rw [e1, BitVec.allOnes_xor, BitVec.toNat_not, BitVec.toNat_ofInt]
  simp [IntKind.wrap, IntKind.bits, IntKind.signed]
  omega

/-- the byte that is laid for place i of m -/
theorem lay_byte (m i : Nat) (_hi : i < 8) : (m : Int) / 2 ^ (8 * i) % 256 = ((UInt8.ofNat (m / 256 ^ i % 256)).toNat : Int) := by
  have hp : (2 : Int) ^ (8 * i) = ((256 ^ i : Nat) : Int) := by
    have : (256 : Nat) ^ i = 2 ^ (8 * i) := by rw [Nat.pow_mul]
    rw [this]; norm_cast
  rw [hp]
  have : (UInt8.ofNat (m / 256 ^ i % 256)).toNat = m / 256 ^ i % 256 := by rw [UInt8.toNat_ofNat']; omega
  rw [this, Int.natCast_emod, Int.natCast_ediv]
  rfl

/-- of m's bytes in k, those that are laid when the place i is next: the first k - i -/
theorem hi_take : ∀ (k m i : Nat), i < k → (Oct.hi m k).take (k - (i + 1) + 1) = (Oct.hi m k).take (k - (i + 1)) ++ [UInt8.ofNat (m / 256 ^ i % 256)]
  | 0, _, _, h => absurd h (by omega)
  | k + 1, m, 0, _ => by
    rw [show k + 1 - (0 + 1) = k by omega, Oct.hi]
    rw [List.take_of_length_le (by simp [Oct.hi_length]), List.take_append_of_le_length (by rw [Oct.hi_length]; omega), List.take_of_length_le (by rw [Oct.hi_length]; omega)]
    simp
  | k + 1, m, i + 1, h => by
    have ih := hi_take k (m / 256) i (by omega)
    rw [Nat.div_div_eq_div_mul, show 256 * 256 ^ i = 256 ^ (i + 1) by rw [Nat.pow_succ, Nat.mul_comm]] at ih
    rw [show k + 1 - (i + 1 + 1) = k - (i + 1) by omega, Oct.hi]
    rw [List.take_append_of_le_length (by rw [Oct.hi_length]; omega), List.take_append_of_le_length (by rw [Oct.hi_length]; omega)]
    exact ih

def Bld (B b : Nat) (l : List Value) (w : World) : Prop := Hid (Lib.IsBuilder 59 5 B b l w)
theorem Bld.len {B b : Nat} {l : List Value} {w : World} (h : Bld B b l w) : b < w.heap.size := by
  rcases (Hid.out h : Lib.IsBuilder _ _ _ _ _ _) with h | h <;> exact h.lt
def LenSaid (q L : Nat) : Prop := ∀ W, Calls Try.prog 36 #[.int .u64 (q : Int)] W fun e w' => e = .returned (.int .i64 (L : Int)) ∧ W = w'
theorem len_said (q : Nat) (h : q < 18446744073709551616) : LenSaid q (Lib.bitLen q) := fun W => by
  refine (Try.bits_Len q W (by omega) (by omega)).mono ?_
  rintro e w' ⟨rfl, rfl⟩
  exact ⟨by rw [Int.toNat_natCast], rfl⟩
theorem byteCells_one (c : UInt8) : Lib.byteCells [c] = [.int .u8 (c.toNat : Int)] := rfl
theorem byteCells_nil : Lib.byteCells [] = [] := rfl

set_option maxHeartbeats 1000000 in
set_option maxRecDepth 100000 in
theorem layInt_any (B b : Nat) (bs : List Value) (n : Int) (w : World) (hlo : -9223372036854775808 ≤ n) (hup : n ≤ 9223372036854775807) (hbld : Bld B b bs w) (hlen : bs.length + 9 ≤ 140737488355328) (hBw : B ≤ w.heap.size) :
    Calls Try.prog 27 #[.pointer (some ⟨b, 0, none⟩), .int .i64 n] w fun e w' => e = .returned (.tuple #[]) ∧ (Bld B b (bs ++ Lib.byteCells (Oct.enc n)) w' ∧ Below B w w') := by
  obtain ⟨q, k, L, hd, c0, l, hq, hk8, hL, hLk, hLs, hl, hln, hc0, henc, hcase⟩ : ∃ (q k L hd : Nat) (c0 : UInt8) (l : List UInt8), q < 9223372036854775808 ∧ k ≤ 8 ∧ L ≤ 64 ∧ Hid (((L : Int) + 7) / 8 = (k : Int)) ∧ LenSaid q L ∧ Hid (l = Oct.hi q k) ∧ l.length = k ∧ Hid ((c0.toNat : Int) = hd + k) ∧ Hid (Oct.enc n = c0 :: l) ∧
      ((n < 0 ∧ hd = 128 ∧ Hid (bits .xor .i64 (-1) n = (q : Int))) ∨ (n = (q : Int) ∧ hd = 0)) := by
    have hm := Oct.mag_lt n hlo hup
    refine ⟨Oct.mag n, Oct.sz (Oct.mag n), Lib.bitLen (Oct.mag n), if n < 0 then 128 else 0, _, _, hm, Oct.sz_le _, Lib.bitLen_le _ 64 (by omega) (by omega), ?_, len_said _ (by omega), rfl, Oct.hi_length _ _, ?_, rfl, ?_⟩
    · have := Oct.sz_bits (Oct.mag n) (by omega)
      show ((Lib.bitLen (Oct.mag n) : Int) + 7) / 8 = (Oct.sz (Oct.mag n) : Int)
      omega
    · have := Oct.sz_le (Oct.mag n)
      show ((UInt8.ofNat (Oct.head n)).toNat : Int) = ((if n < 0 then 128 else 0 : Nat) : Int) + (Oct.sz (Oct.mag n) : Int)
      unfold Oct.head
      rw [UInt8.toNat_ofNat', Nat.mod_eq_of_lt (by split <;> omega)]
      omega
    · by_cases hn : n < 0
      · refine .inl ⟨hn, by rw [if_pos hn], ?_⟩
        show bits .xor .i64 (-1) n = (Oct.mag n : Int)
        rw [not_neg n hn hlo]; unfold Oct.mag; rw [if_pos hn]; omega
      · refine .inr ⟨?_, by rw [if_neg hn]⟩
        unfold Oct.mag; rw [if_neg hn]; omega
  clear hlo hup
  have hLk' := hLk.out
  have hu : IntKind.u64.wrap (q : Int) = q := IntWalk.u64_in _ (by omega)
  have hd0 : decide ((q : Int) < 0) = false := by simp
  rcases hcase with ⟨hn, rfl, hnot⟩ | ⟨rfl, rfl⟩
  all_goals (first | have hnot' := hnot.out | skip)
  all_goals
    go_enter Try.func27, Try.ntmps27
    go_wp2_with (go_at_call 36; refine (hLs _).mono ?_; rintro e w1 ⟨rfl, rfl⟩)
    rw [hLk.out]
    clear hLk'
    refine (writeByte_any B b bs _ w hbld.out (by omega) hBw).mono ?_
    rintro e w1 ⟨rfl, h1, hb1⟩
    have hs1 := hb1.size
    have H1 : Bld B b (bs ++ Lib.byteCells [c0]) w1 := Lib.hid (by rw [byteCells_one, hc0.out]; simpa using h1)
    clear h1
    have hlb : bs.length + 9 ≤ 140737488355328 := hlen
    have HP : Hid (∀ p : Nat, p < k → (q : Int) / 2 ^ (8 * p) % 256 = ((UInt8.ofNat (q / 256 ^ p % 256)).toNat : Int) ∧ l.take (k - p) = l.take (k - (p + 1)) ++ [UInt8.ofNat (q / 256 ^ p % 256)]) := Lib.hid (fun p hp => ⟨lay_byte q p (by omega), by rw [hl.out]; have := hi_take k q p hp; rwa [show k - (p + 1) + 1 = k - p by omega] at this⟩)
    go_wp2
    go_loopw [6] (fun i wr => ∃ x : Int, i = .int .i64 x ∧ -1 ≤ x ∧ x < k ∧ Bld B b (bs ++ Lib.byteCells (c0 :: l.take (k - (x + 1).toNat))) wr ∧ Below B w wr) (fun i _ => (intOf i + 1).toNat)
    case atStart => exact ⟨(k : Int) - 1, rfl, by omega, by omega, by rw [show k - ((k : Int) - 1 + 1).toNat = 0 by omega]; exact H1, hb1⟩
    case round =>
      obtain ⟨x, rfl, hx0, hxk, hbl, hbw⟩ := hrel
      have hsw := hbw.size
      by_cases hx : 0 ≤ x
      · obtain ⟨p, rfl⟩ := Int.eq_ofNat_of_zero_le hx
        obtain ⟨hv, ht⟩ := HP.out p (by omega)
        have hll : (bs ++ Lib.byteCells (c0 :: l.take (k - ((p : Int) + 1).toNat))).length + 1 ≤ 140737488355328 := by
          simp [Lib.byteCells_length]; omega
        have HV := Lib.hid hv
        have HT := Lib.hid ht
        clear hv ht
        go_wp2_with fail
        refine (writeByte_any B b _ _ _ hbl.out hll (by omega)).mono ?_
        rintro e w2 ⟨rfl, h2, hb2⟩
        have H2 : Bld B b (bs ++ Lib.byteCells (c0 :: l.take (k - p))) w2 := Lib.hid (by
          rw [HT.out, ← List.cons_append, Lib.byteCells_append, byteCells_one, ← HV.out, ← List.append_assoc, show p + 1 = ((p : Int) + 1).toNat by omega]
          exact h2)
        clear h2 hbl hll
        go_wp2
        go_roundw
        case rel => exact ⟨(p : Int) - 1, rfl, by omega, by omega, by rw [show ((p : Int) - 1 + 1).toNat = p by omega]; exact H2, hbw.trans hb2⟩
        case measure => simp [intOf]
      · have hxe : x = -1 := by omega
        subst hxe
        have HF : Bld B b (bs ++ Lib.byteCells (c0 :: l)) wr := Lib.hid (by
          have := hbl.out
          rwa [show k - ((-1 : Int) + 1).toNat = k by omega, List.take_of_length_le (by omega)] at this)
        clear hbl
        go_wp2
        go_end0
        exact ⟨rfl, by rw [henc.out]; exact HF, hbw⟩

end Go.Proofs.Ytjkjomnnpfbiiaa
