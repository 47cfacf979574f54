/- octet.fewest and octet.number: the number with which a text begins. -/
import Derived.Test.YtjkjomnnpfbiiaaOctInt
namespace Go.Proofs.Ytjkjomnnpfbiiaa
open Go.RowKit

def fewB : List UInt8 → Bool
  | [] => true
  | c :: t => (c.toNat != 0) && (t.length != 7 || c.toNat ≤ 127)

set_option maxHeartbeats 400000 in
theorem few_nil (w : World) : Calls Try.prog 40 #[.string ⟨#[]⟩] w fun e w' => e = .returned (.bool true) ∧ w = w' := by
  go_enter Try.func40, Try.ntmps40
  go_wp2
  go_ret
  exact ⟨rfl, rfl⟩

theorem idx0 (c : UInt8) (t : List UInt8) : ∀ h, (ByteArray.mk (c :: t).toArray)[0]'h = c := fun _ => rfl
theorem fewB_eight (c : UInt8) (t : List UInt8) (ht : t.length = 7) (hz : ¬ c.toNat = 0) : fewB (c :: t) = decide ((c.toNat : Int) ≤ 127) := by
  show ((c.toNat != 0) && (t.length != 7 || decide (c.toNat ≤ 127))) = _
  rw [ht]
  generalize c.toNat = x at hz ⊢
  have : (x != 0) = true := by rw [bne_iff_ne]; exact hz
  rw [this]
  have e : ((x : Int) ≤ 127) ↔ x ≤ 127 := by omega
  simp [e]
theorem fewB_other (c : UInt8) (t : List UInt8) (ht : t.length ≠ 7) : fewB (c :: t) = ((c.toNat : Int) != 0) := by
  show ((c.toNat != 0) && (t.length != 7 || decide (c.toNat ≤ 127))) = _
  have : (t.length != 7) = true := by rw [bne_iff_ne]; exact ht
  rw [this]
  generalize c.toNat = x
  simp only [Bool.true_or, Bool.and_true]
  rw [Bool.eq_iff_iff, bne_iff_ne, bne_iff_ne]
  omega
theorem bool_ret {a b : Bool} (h : a = b) : Ending.returned (.bool a) = .returned (.bool b) := by rw [h]

set_option maxHeartbeats 400000 in
theorem few_eight (c : UInt8) (t : List UInt8) (ht : t.length = 7) (w : World) : Calls Try.prog 40 #[.string ⟨(c :: t).toArray⟩] w fun e w' => e = .returned (.bool (fewB (c :: t))) ∧ w = w' := by
  have i0 := idx0 c t
  by_cases hz : c.toNat = 0
  · have HF := Lib.hid (show fewB (c :: t) = false by simp [fewB, hz])
    go_enter Try.func40, Try.ntmps40
    go_wp2
    go_ret
    exact ⟨bool_ret (by rw [HF.out]), rfl⟩
  · have hb : ((c.toNat : Int) != 0) = true := by rw [bne_iff_ne]; omega
    have HF := Lib.hid (show fewB (c :: t) = decide ((c.toNat : Int) ≤ 127) by
      exact fewB_eight c t ht hz)
    go_enter Try.func40, Try.ntmps40
    go_wp2
    go_ret
    exact ⟨bool_ret (by rw [HF.out]), rfl⟩

set_option maxHeartbeats 400000 in
theorem few_other (c : UInt8) (t : List UInt8) (ht : t.length ≠ 7) (w : World) (hl : t.length ≤ 100) : Calls Try.prog 40 #[.string ⟨(c :: t).toArray⟩] w fun e w' => e = .returned (.bool (fewB (c :: t))) ∧ w = w' := by
  have i0 := idx0 c t
  have h8 : (((t.length : Int) + 1) == 8) = false := by simp; omega
  have h0 : (((t.length : Int) + 1) == 0) = false := by simp; omega
  have HF := Lib.hid (show fewB (c :: t) = ((c.toNat : Int) != 0) by
    exact fewB_other c t ht)
  go_enter Try.func40, Try.ntmps40
  go_wp2
  go_ret
  exact ⟨bool_ret (by rw [HF.out]), rfl⟩

theorem few_any (d : List UInt8) (w : World) (hl : d.length ≤ 100) : Calls Try.prog 40 #[.string ⟨d.toArray⟩] w fun e w' => e = .returned (.bool (fewB d)) ∧ w = w' := by
  match d, hl with
  | [], _ => exact few_nil w
  | c :: t, hl =>
    by_cases h : t.length = 7
    · exact few_eight c t h w
    · exact few_other c t h w (by simp at hl; omega)
def low (c : UInt8) : Nat := c.toNat % 128
theorem low_bits (c : UInt8) : bits .andNot .u8 c.toNat 128 = (low c : Int) := by
  have : ∀ n : Fin 256, bits .andNot .u8 (n.val : Int) 128 = ((n.val % 128 : Nat) : Int) := by decide +kernel
  exact this ⟨c.toNat, c.toNat_lt⟩

/-- the number with which a text begins, and in how many bytes it stands -/
def rd : List UInt8 → Option (Int × Nat)
  | [] => none
  | c :: t => if low c > 8 ∨ low c > t.length then none else if fewB (t.take (low c)) = false then none else
      some (if 128 ≤ c.toNat then -(Oct.val (t.take (low c)) : Int) - 1 else (Oct.val (t.take (low c)) : Int), 1 + low c)
def rdN (s : List UInt8) : Int := (rd s).elim 0 (·.1)
def rdS (s : List UInt8) : Nat := (rd s).elim 0 (·.2)


set_option maxHeartbeats 400000 in
theorem num_nil (w : World) : Calls Try.prog 31 #[.string ⟨#[]⟩] w fun e w' => e = .returned (.tuple #[.int .i64 0, .int .i64 0]) ∧ w = w' := by
  go_enter Try.func31, Try.ntmps31
  go_wp2
  go_ret2
  exact ⟨rfl, rfl⟩

set_option maxHeartbeats 400000 in
theorem num_head (c : UInt8) (t : List UInt8) (w : World) (hl : t.length ≤ 9223372036854775800) (h : low c > 8 ∨ low c > t.length) : Calls Try.prog 31 #[.string ⟨(c :: t).toArray⟩] w fun e w' => e = .returned (.tuple #[.int .i64 0, .int .i64 0]) ∧ w = w' := by
  have i0 := idx0 c t
  have hb := low_bits c
  have hl8 : low c < 128 := Nat.mod_lt _ (by decide)
  by_cases h8 : low c > 8
  · go_enter Try.func31, Try.ntmps31
    go_wp2
    go_ret2
    exact ⟨rfl, rfl⟩
  · have h9 : low c > t.length := by omega
    clear h
    go_enter Try.func31, Try.ntmps31
    go_wp2
    go_ret2
    exact ⟨rfl, rfl⟩

end Go.Proofs.Ytjkjomnnpfbiiaa
