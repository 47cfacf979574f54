/- frame.turned, Sum, number, laid: what they answer. -/
import Derived.Test.YtpafialojcidnaaGreatDoorFrPure2
import Derived.Test.YtpafialojcidnaaGreatDoorFrBld
import Derived.Test.YtpafialojcidnaaGreatDoorWb
import Derived.Test.YtpafialojcidnaaGreatDoorOpen
import Derived.LoopTactic
import Derived.Lib.LaidTab
import Derived.Lib.SmallJoins
import Derived.Laws.BitsAllLaws
namespace Go.Proofs.YtpafialojcidnaaGreatDoor
open Go.RowKit

/-- the table as the row lists it -/
def tab : List Int := Fr.table.map fun n : Nat => (n : Int)
def Good (w : World) : Prop := Hid (Lib.TabIs Tryz.prog w "hedgerow/frame.turns" .u32 tab)
theorem gTab : Tryz.prog.globalNamed "hedgerow/frame.turns" = some 0 := by kernel_rfl
theorem Good.below {w w' : World} {B : Nat} (h : Good w) (hb : Below B w w') (hB : w.heap.size ≤ B) : Good w' := Lib.hid (Joins.tab_stays gTab h.out hb hB)
theorem tab_at : ∀ i : Nat, i < 16 → tab.getD i 0 = ((Fr.table.getD i 0 : Nat) : Int) := by decide
theorem Good.at_ {w : World} (h : Good w) (i : Nat) (hi : i < 16) : w.cell? ⟨0, i, none⟩ = some (.int .u32 (Fr.table.getD i 0 : Nat)) := by
  have := h.out.cell gTab i (by simpa [tab, Fr.table] using hi)
  rw [this, tab_at i hi]

set_option maxHeartbeats 1000000 in
set_option maxRecDepth 100000 in
theorem turned_any (c : Nat) (w : World) (h : c < 4294967296) (hg : Good w) :
    Calls Tryz.prog 92 #[.int .u32 c] w fun e w' => e = .returned (.int .u32 (Fr.four c : Nat)) ∧ w = w' := by
  have hc := hg.at_ (c % 16) (by omega)
  have hx : bits .and .u32 (c : Int) 15 = ((c % 16 : Nat) : Int) := by
    have := u32_and_nat c 15 h (by decide)
    rw [nat_mask4] at this
    exact this
  have hm : (c % 16 : Nat) < 16 := by omega
  have ht : Fr.table.getD (c % 16) 0 < 4294967296 := by
    have : ∀ r : Nat, r < 16 → Fr.table.getD r 0 < 4294967296 := by decide
    exact this _ hm
  have hy : bits .xor .u32 ((c / 16 : Nat) : Int) ((Fr.table.getD (c % 16) 0 : Nat) : Int) = (Fr.four c : Nat) := u32_xor_nat _ _ (by omega) ht
  have hs : (c : Int) / 16 = ((c / 16 : Nat) : Int) := by omega
  generalize Fr.four c = r at *
  generalize Fr.table.getD (c % 16) 0 = tb at *
  generalize c % 16 = m at *
  generalize c / 16 = q at *
  have hm' : (m : Int) < 16 := by omega
  clear hg h ht hm
  go_enter Tryz.func92, Tryz.ntmps92
  go_wp2
  go_ret
  exact ⟨rfl, rfl⟩

theorem xor_of (c : Nat) (x : UInt8) (h : c < 4294967296) : ∃ d : Nat, d < 4294967296 ∧ bits .xor .u32 (c : Int) (x.toNat : Int) = (d : Int) ∧ Fr.four (Fr.four d) = Fr.feed c x := by
  have hx := Fr.byte_lt x
  exact ⟨c ^^^ x.toNat, Fr.xor_lt h (by omega), u32_xor_nat _ _ h (by omega), Fr.feed_four c x⟩
theorem reg_take (l : List UInt8) (c k : Nat) (h : k < l.length) : Fr.reg c (l.take (k + 1)) = Fr.feed (Fr.reg c (l.take k)) l[k] := by
  rw [List.take_succ_eq_append_getElem h, Fr.reg_append]
  rfl
theorem reg_flat (l : List (List UInt8)) (c k : Nat) (h : k < l.length) : Fr.reg c (l.take (k + 1)).flatten = Fr.reg (Fr.reg c (l.take k).flatten) l[k] := by
  rw [List.take_succ_eq_append_getElem h, List.flatten_append, Fr.reg_append]
  simp
theorem not_u32 (c : Nat) (h : c < 4294967296) : bits .xor .u32 4294967295 (c : Int) = ((4294967295 - c : Nat) : Int) := by
  have := u32_andNot_nat 4294967295 c (by decide) h
  have e : (4294967295 : Nat) &&& (4294967295 - c) = 4294967295 - c := by
    rw [Nat.and_comm]
    have := Nat.and_two_pow_sub_one_eq_mod (4294967295 - c) 32
    rw [show (2 : Nat) ^ 32 - 1 = 4294967295 from rfl] at this
    rw [this]
    omega
  have h2 := u32_xor_nat 4294967295 c (by decide) h
  rw [show ((4294967295 : Nat) : Int) = 4294967295 from rfl] at h2
  rw [h2]
  congr 1
  have h3 : (4294967295 - c) ^^^ c = 4294967295 := by
    apply Nat.eq_of_testBit_eq
    intro i
    have := Nat.testBit_two_pow_sub_succ (x := c) (n := 32) h i
    rw [show 2 ^ 32 - (c + 1) = 4294967295 - c by omega] at this
    rw [Nat.testBit_xor, this, show (4294967295 : Nat) = 2 ^ 32 - 1 from rfl, Nat.testBit_two_pow_sub_one]
    by_cases hi : i < 32
    · simp [hi]
    · have : c.testBit i = false := Nat.testBit_lt_two_pow (Nat.lt_of_lt_of_le h (Nat.pow_le_pow_right (n := 2) (i := 32) (by decide) (by omega)))
      simp [hi, this]
  have h4 := congrArg (· ^^^ c) h3
  simp only [Nat.xor_assoc, Nat.xor_self, Nat.xor_zero] at h4
  exact h4.symm

set_option maxHeartbeats 2000000 in
set_option maxRecDepth 100000 in
theorem sum_any (A : Option Addr) (cap : Nat) (l : List (List UInt8)) (w : World) (B : Nat) (hl : l.length ≤ 140737488351232) (hs : ∀ s ∈ l, s.length ≤ 140737488351232) (hr : Reads w B A (strings l)) (hg : Good w) :
    Calls Tryz.prog 68 #[.slice A l.length cap] w fun e w' => e = .returned (.int .u32 (Fr.sum l.flatten : Nat)) ∧ w = w' := by
  have T := Lib.hid (fun c (h : c < 4294967296) => turned_any c w h hg)
  clear hg
  go_enter Tryz.func68, Tryz.ntmps68
  go_wp2
  go_loop [3, 9] (fun r i => ∃ k c : Nat, k ≤ l.length ∧ i = .int .i64 k ∧ r = .int .u32 c ∧ c < 4294967296 ∧ Hid (Fr.reg 4294967295 (l.take k).flatten = c)) (fun _ i => l.length - (intOf i).toNat)
  case atStart => exact ⟨0, 4294967295, Nat.zero_le _, rfl, rfl, by decide, Lib.hid rfl⟩
  case round =>
    obtain ⟨k, c, hk, rfl, rfl, hc, hreg⟩ := hrel
    by_cases hlt : k < l.length
    · obtain ⟨x, hx⟩ : ∃ x, x = l[k] := ⟨_, rfl⟩
      obtain ⟨b, off, rfl, hbB, hcell⟩ := hr.at_ (k := k) (by simpa [strings] using hlt)
      have hcw : w.cell? ⟨b, off + k, none⟩ = some (.string ⟨x.toArray⟩) := by rw [hcell, hx]; simp [strings]
      have hxl : x.length ≤ 140737488351232 := hs x (by rw [hx]; exact List.getElem_mem _)
      have HN := Lib.hid (reg_flat l 4294967295 k hlt)
      rw [hreg.out, ← hx] at HN
      clear hx hcell hreg hr hs
      go_wp2
      go_loop [3, 15] (fun r i => ∃ j d : Nat, j ≤ x.length ∧ i = .int .i64 j ∧ r = .int .u32 d ∧ d < 4294967296 ∧ Hid (Fr.reg c (x.take j) = d)) (fun _ i => x.length - (intOf i).toNat)
      case atStart => exact ⟨0, c, Nat.zero_le _, rfl, rfl, hc, Lib.hid rfl⟩
      case round =>
        obtain ⟨j, d, hj, rfl, rfl, hd, hrd⟩ := hrel
        by_cases hlt2 : j < x.length
        · obtain ⟨y, hy⟩ : ∃ y, y = x[j] := ⟨_, rfl⟩
          have iy : ∀ h, (ByteArray.mk x.toArray)[j]'h = y := fun h => by rw [hy]; rfl
          have hyb : (y.toNat : Int) < 256 := by have := y.toNat_lt; omega
          obtain ⟨d', hd', hxor, hff⟩ := xor_of d y hd
          have T1 := Lib.hid (T.out d' hd')
          have T2 := Lib.hid (T.out (Fr.four d') (Fr.four_lt hd'))
          rw [hff] at T2
          have HN2 : Hid (Fr.reg c (x.take (j + 1)) = Fr.feed d y) := Lib.hid (by rw [reg_take x c j hlt2, hrd.out, hy])
          have hfl : Fr.feed d y < 4294967296 := Fr.feed_lt y hd
          clear hy hff T hrd
          generalize Fr.feed d y = d2 at *
          generalize Fr.four d' = d1 at *
          go_wp2_with (go_at_call 92; (first | (with_reducible refine T1.out.mono ?_) | (with_reducible refine T2.out.mono ?_)); rintro e w' ⟨rfl, rfl⟩)
          go_round
          case rel => exact ⟨j + 1, d2, by omega, by go_num, rfl, hfl, HN2⟩
          case measure => simp [intOf]; omega
        · obtain rfl : j = x.length := by omega
          have HD : Hid (Fr.reg 4294967295 (l.take (k + 1)).flatten = d) := Lib.hid (by rw [HN.out, ← hrd.out, List.take_length])
          clear hrd HN T
          go_wp2
          go_round
          case rel => exact ⟨k + 1, d, by omega, by go_num, rfl, hd, HD⟩
          case measure => simp [intOf]; omega
    · have HE : Hid (Fr.reg 4294967295 l.flatten = c) := Lib.hid (by rw [← hreg.out, show k = l.length by omega, List.take_length])
      have hn : bits .xor .u32 IntKind.u32.max (c : Int) = ((4294967295 - c : Nat) : Int) := not_u32 c hc
      clear hreg T hr hs
      go_wp2
      go_ret
      exact ⟨ret_int (by unfold Fr.sum; rw [HE.out]), rfl⟩
end Go.Proofs.YtpafialojcidnaaGreatDoor
