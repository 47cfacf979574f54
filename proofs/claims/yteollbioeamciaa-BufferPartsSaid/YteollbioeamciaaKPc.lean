/- PcCode1, PcCode2, PcCode3, PcCode4, PcAlg, in one text. -/
import Derived.Test.YteollbioeamciaaKPz
import Derived.Deep.DeepCutAuto
import Derived.Laws.IdiomCopy
import Derived.Laws.Cells
import Derived.Test.YteollbioeamciaaKBase
namespace Go.Proofs.Yteollbioeamciaa
open Go.RowKit Pz
set_option linter.unusedVariables false

namespace Pz
def within (n lo hi : Int) : Bool := decide (lo ≤ n) && decide (n ≤ hi)
/-- has a mask all bits of another one? -/
def hasB (m k : Int) : Bool := bits .and .i64 m k == k
theorem rightID_is (s i g : Int) : rightID s i g = ((within s 0 15 && within i 0 15) && within g 0 1048575) := by
  unfold rightID within
  rw [show decide (g < 1048576) = decide (g ≤ 1048575) from decide_eq_decide.2 (by omega)]
  simp only [ge_iff_le, Bool.and_assoc]
theorem inB_is (n lo hi : Int) (b : Bool) : inB n lo hi b = if b then within n lo hi else decide (n = 0) := rfl
theorem and_pow (m : Int) {j : Nat} (hj : j ≤ 4) : bits .and .i64 m ((2 : Int) ^ j) = if bitB m j then (2 : Int) ^ j else 0 := by
  have e : BitVec.ofInt 64 ((2 : Int) ^ j) = BitVec.twoPow 64 j := by
    have : j = 0 ∨ j = 1 ∨ j = 2 ∨ j = 3 ∨ j = 4 := by omega
    rcases this with rfl | rfl | rfl | rfl | rfl <;> rfl
  rw [bits_and, e, BitVec.and_twoPow, getLsb_of hj]
  split
  · have : j = 0 ∨ j = 1 ∨ j = 2 ∨ j = 3 ∨ j = 4 := by omega
    rcases this with rfl | rfl | rfl | rfl | rfl <;> rfl
  · rfl
theorem has_bit (m : Int) {j : Nat} (hj : j ≤ 4) : hasB m ((2 : Int) ^ j) = bitB m j := by
  have h0 : (2 : Int) ^ j ≠ 0 := by
    have : j = 0 ∨ j = 1 ∨ j = 2 ∨ j = 3 ∨ j = 4 := by omega
    rcases this with rfl | rfl | rfl | rfl | rfl <;> decide
  unfold hasB
  rw [and_pow m hj]
  cases bitB m j with
  | true => rw [if_pos rfl]; exact beq_self_eq_true _
  | false =>
    rw [if_neg (by decide)]
    exact beq_eq_false_iff_ne.2 fun e => h0 e.symm
theorem takes_is (m : Int) : takesB m = (within m 1 31 && (bits .and .i64 m 1 == 0)) := by
  have := and_pow m (j := 0) (by decide)
  rw [show (2 : Int) ^ 0 = 1 from rfl] at this
  unfold takesB within
  rw [this]
  cases bitB m 0 <;> rfl
def cmpI (x y : Int) : Int := if x < y then -1 else if x > y then 1 else 0
/-- the first one that is not 0 -/
def orI (x y z : Int) : Int := if x ≠ 0 then x else if y ≠ 0 then y else z
def cmpB (a b : Int × Int × Int) : Int := orI (cmpI a.1 b.1) (cmpI a.2.1 b.2.1) (cmpI a.2.2 b.2.2)
end Pz
set_option maxHeartbeats 4000000 in
theorem within_any (n lo hi : Int) (w : World) : Calls Try.prog 64 #[.int .i64 n, .int .i64 lo, .int .i64 hi] w fun e w' => e = .returned (.bool (within n lo hi)) ∧ w = w' := by
  unfold within
  obtain ⟨b1, t1⟩ : ∃ b, decide (lo ≤ n) = b := ⟨_, rfl⟩
  obtain ⟨b2, t2⟩ : ∃ b, decide (n ≤ hi) = b := ⟨_, rfl⟩
  rw [t1, t2]
  cases b1 with
  | false =>
    go_enter Try.func64, Try.ntmps64
    go_wp2
    go_ret
    exact ⟨rfl, rfl⟩
  | true =>
    go_enter Try.func64, Try.ntmps64
    go_wp2
    go_ret
    exact ⟨rfl, rfl⟩
set_option maxHeartbeats 4000000 in
theorem unless_any (b : Bool) (w : World) : Calls Try.prog 56 #[.bool b] w fun e w' => e = .returned (.int .i64 (errB b)) ∧ w = w' := by
  cases b with
  | false =>
    go_enter Try.func56, Try.ntmps56
    go_wp2
    go_ret
    exact ⟨rfl, rfl⟩
  | true =>
    go_enter Try.func56, Try.ntmps56
    go_wp2
    go_ret
    exact ⟨rfl, rfl⟩
set_option maxHeartbeats 8000000 in
theorem name_any (s i g : Int) (w : World) : Calls Try.prog 61 #[.agg #[.int .i64 s, .int .i64 i, .int .i64 g]] w fun e w' => e = .returned (.bool (rightID s i g)) ∧ Below w.heap.size w w' := by
  have FIN := Lib.hid (bel1 w (.cells #[.int .i64 s, .int .i64 i, .int .i64 g] 34))
  obtain ⟨⟨c0, c1, c2⟩, _⟩ := Bx.b3 (at1 w (.cells #[.int .i64 s, .int .i64 i, .int .i64 g] 34))
  rw [rightID_is]
  have H1 := Lib.hid fun W => within_any s 0 15 W
  have H2 := Lib.hid fun W => within_any i 0 15 W
  have H3 := Lib.hid fun W => within_any g 0 1048575 W
  generalize within s 0 15 = b1 at *
  generalize within i 0 15 = b2 at *
  generalize within g 0 1048575 = b3 at *
  generalize hww : w.alloc (.cells #[.int .i64 s, .int .i64 i, .int .i64 g] 34) = w1 at *
  cases b1 with
  | false =>
    go_enter Try.func61, Try.ntmps61
    go_wp2_with (first | (go_at_call 64; with_reducible refine (H1.out _).mono ?_; rintro e w' ⟨rfl, rfl⟩) | (go_at_call 64; with_reducible refine (H2.out _).mono ?_; rintro e w' ⟨rfl, rfl⟩) | (go_at_call 64; with_reducible refine (H3.out _).mono ?_; rintro e w' ⟨rfl, rfl⟩))
    go_ret
    exact ⟨rfl, FIN.out⟩
  | true =>
    cases b2 with
    | false =>
      go_enter Try.func61, Try.ntmps61
      go_wp2_with (first | (go_at_call 64; with_reducible refine (H1.out _).mono ?_; rintro e w' ⟨rfl, rfl⟩) | (go_at_call 64; with_reducible refine (H2.out _).mono ?_; rintro e w' ⟨rfl, rfl⟩) | (go_at_call 64; with_reducible refine (H3.out _).mono ?_; rintro e w' ⟨rfl, rfl⟩))
      go_ret
      exact ⟨rfl, FIN.out⟩
    | true =>
      go_enter Try.func61, Try.ntmps61
      go_wp2_with (first | (go_at_call 64; with_reducible refine (H1.out _).mono ?_; rintro e w' ⟨rfl, rfl⟩) | (go_at_call 64; with_reducible refine (H2.out _).mono ?_; rintro e w' ⟨rfl, rfl⟩) | (go_at_call 64; with_reducible refine (H3.out _).mono ?_; rintro e w' ⟨rfl, rfl⟩))
      go_ret
      exact ⟨rfl, FIN.out⟩
set_option maxHeartbeats 8000000 in
theorem has_any (b : Bn) (k : Int) (w : World) : Calls Try.prog 58 #[b.val, .int .i64 k] w fun e w' => e = .returned (.bool (hasB b.m k)) ∧ Below w.heap.size w w' := by
  obtain ⟨s, i, g, m, x, y, vx, vy, h, p, l⟩ := b
  unfold hasB
  simp only [Bn.val]
  obtain ⟨r, hr⟩ : ∃ r, bits .and .i64 m k = r := ⟨_, rfl⟩
  obtain ⟨t, ht⟩ : ∃ t, (r == k) = t := ⟨_, rfl⟩
  rw [hr, ht]
  have FIN := Lib.hid (bel1 w (.cells #[.int .i64 s, .int .i64 i, .int .i64 g, .int .i64 m, .int .i64 x, .int .i64 y, .int .i64 vx, .int .i64 vy, .int .i64 h, .int .i64 p, .int .i64 l] 36))
  obtain ⟨⟨k0, k1, k2, k3, k4, k5, k6, k7, k8, k9, k10⟩, _⟩ := Bx.b11 (at1 w (.cells #[.int .i64 s, .int .i64 i, .int .i64 g, .int .i64 m, .int .i64 x, .int .i64 y, .int .i64 vx, .int .i64 vy, .int .i64 h, .int .i64 p, .int .i64 l] 36))
  generalize hww : w.alloc (.cells #[.int .i64 s, .int .i64 i, .int .i64 g, .int .i64 m, .int .i64 x, .int .i64 y, .int .i64 vx, .int .i64 vy, .int .i64 h, .int .i64 p, .int .i64 l] 36) = w1 at *
  go_enter Try.func58, Try.ntmps58
  go_wp2
  go_ret
  exact ⟨rfl, FIN.out⟩

/-- of one component -/
theorem has_one (b : Bn) {j : Nat} (hj : j ≤ 4) (w : World) : Calls Try.prog 58 #[b.val, .int .i64 ((2 : Int) ^ j)] w fun e w' => e = .returned (.bool (bitB b.m j)) ∧ Below w.heap.size w w' := by
  have := has_any b ((2 : Int) ^ j) w
  rw [has_bit _ hj] at this
  exact this
set_option maxHeartbeats 8000000 in
theorem number_any (n c lo hi : Int) (there : Bool) (w : World) : Calls Try.prog 66 #[.agg #[.int .i64 n, .int .i64 c, .int .i64 lo, .int .i64 hi], .bool there] w fun e w' => e = .returned (.bool (inB n lo hi there)) ∧ Below w.heap.size w w' := by
  have FIN := Lib.hid (bel1 w (.cells #[.int .i64 n, .int .i64 c, .int .i64 lo, .int .i64 hi] 102))
  obtain ⟨⟨c0, c1, c2, c3⟩, _⟩ := box4 (at1 w (.cells #[.int .i64 n, .int .i64 c, .int .i64 lo, .int .i64 hi] 102))
  rw [inB_is]
  have H := Lib.hid fun W => within_any n lo hi W
  generalize within n lo hi = r at *
  obtain ⟨d, hd⟩ : ∃ d, (n == 0) = d := ⟨_, rfl⟩
  have hd' : decide (n = 0) = d := by rw [← hd]; rfl
  rw [hd']
  clear hd'
  generalize hww : w.alloc (.cells #[.int .i64 n, .int .i64 c, .int .i64 lo, .int .i64 hi] 102) = w1 at *
  cases there with
  | false =>
    rw [if_neg (by decide)]
    go_enter Try.func66, Try.ntmps66
    go_wp2
    go_ret
    exact ⟨rfl, FIN.out⟩
  | true =>
    rw [if_pos rfl]
    go_enter Try.func66, Try.ntmps66
    go_wp2_with ((go_at_call 64; with_reducible refine (H.out _).mono ?_; rintro e w' ⟨rfl, rfl⟩))
    go_ret
    exact ⟨rfl, FIN.out⟩

end Go.Proofs.Yteollbioeamciaa
namespace Go.Proofs.Yteollbioeamciaa
open Go.RowKit Pz
set_option linter.unusedVariables false

theorem fill4 {place : Nat → Option (Nat × Nat)} {cells : Array Value} {i off : Nat} {a b c d : Value} {rest : List (Nat × Value)} (hp : place i = some (off, 4)) (hs : off + 4 ≤ cells.size) :
    Instr.fill place cells ((i, .agg #[a, b, c, d]) :: rest) = Instr.fill place ((((cells.setIfInBounds off a).setIfInBounds (off + 1) b).setIfInBounds (off + 2) c).setIfInBounds (off + 3) d) rest := by
  rw [Instr.fill]
  rw [hp]
  have h2 : ¬ (off + 4 > cells.size) := by omega
  simp [Value.cells, h2]
theorem fill_nums (n0 n1 n2 n3 n4 n5 n6 : Int) : Instr.fill (fun i => some (i * 4, 4)) #[.int .i64 0, .int .i64 0, .int .i64 0, .int .i64 0, .int .i64 0, .int .i64 0, .int .i64 0, .int .i64 0, .int .i64 0, .int .i64 0, .int .i64 0, .int .i64 0, .int .i64 0, .int .i64 0, .int .i64 0, .int .i64 0, .int .i64 0, .int .i64 0, .int .i64 0, .int .i64 0, .int .i64 0, .int .i64 0, .int .i64 0, .int .i64 0, .int .i64 0, .int .i64 0, .int .i64 0, .int .i64 0] [(0, .agg #[.int .i64 n0, .int .i64 1, .int .i64 (-1073741824), .int .i64 1073741824]), (1, .agg #[.int .i64 n1, .int .i64 1, .int .i64 (-1073741824), .int .i64 1073741824]), (2, .agg #[.int .i64 n2, .int .i64 2, .int .i64 (-1073741824), .int .i64 1073741824]), (3, .agg #[.int .i64 n3, .int .i64 2, .int .i64 (-1073741824), .int .i64 1073741824]), (4, .agg #[.int .i64 n4, .int .i64 4, .int .i64 1, .int .i64 1048576]), (5, .agg #[.int .i64 n5, .int .i64 8, .int .i64 0, .int .i64 1024]), (6, .agg #[.int .i64 n6, .int .i64 16, .int .i64 1, .int .i64 1048576])] = some #[.int .i64 n0, .int .i64 1, .int .i64 (-1073741824), .int .i64 1073741824, .int .i64 n1, .int .i64 1, .int .i64 (-1073741824), .int .i64 1073741824, .int .i64 n2, .int .i64 2, .int .i64 (-1073741824), .int .i64 1073741824, .int .i64 n3, .int .i64 2, .int .i64 (-1073741824), .int .i64 1073741824, .int .i64 n4, .int .i64 4, .int .i64 1, .int .i64 1048576, .int .i64 n5, .int .i64 8, .int .i64 0, .int .i64 1024, .int .i64 n6, .int .i64 16, .int .i64 1, .int .i64 1048576] := by
  rw [fill4 (off := 0) rfl (by show 0 + 4 ≤ 28; decide)]
  rw [show ∀ x y z u : Value, (((( (#[.int .i64 0, .int .i64 0, .int .i64 0, .int .i64 0, .int .i64 0, .int .i64 0, .int .i64 0, .int .i64 0, .int .i64 0, .int .i64 0, .int .i64 0, .int .i64 0, .int .i64 0, .int .i64 0, .int .i64 0, .int .i64 0, .int .i64 0, .int .i64 0, .int .i64 0, .int .i64 0, .int .i64 0, .int .i64 0, .int .i64 0, .int .i64 0, .int .i64 0, .int .i64 0, .int .i64 0, .int .i64 0] : Array Value).setIfInBounds 0 x).setIfInBounds (0 + 1) y).setIfInBounds (0 + 2) z).setIfInBounds (0 + 3) u) = #[x, y, z, u, .int .i64 0, .int .i64 0, .int .i64 0, .int .i64 0, .int .i64 0, .int .i64 0, .int .i64 0, .int .i64 0, .int .i64 0, .int .i64 0, .int .i64 0, .int .i64 0, .int .i64 0, .int .i64 0, .int .i64 0, .int .i64 0, .int .i64 0, .int .i64 0, .int .i64 0, .int .i64 0, .int .i64 0, .int .i64 0, .int .i64 0, .int .i64 0] from fun _ _ _ _ => rfl]
  rw [fill4 (off := 4) rfl (by show 4 + 4 ≤ 28; decide)]
  rw [show ∀ x y z u : Value, (((( (#[.int .i64 n0, .int .i64 1, .int .i64 (-1073741824), .int .i64 1073741824, .int .i64 0, .int .i64 0, .int .i64 0, .int .i64 0, .int .i64 0, .int .i64 0, .int .i64 0, .int .i64 0, .int .i64 0, .int .i64 0, .int .i64 0, .int .i64 0, .int .i64 0, .int .i64 0, .int .i64 0, .int .i64 0, .int .i64 0, .int .i64 0, .int .i64 0, .int .i64 0, .int .i64 0, .int .i64 0, .int .i64 0, .int .i64 0] : Array Value).setIfInBounds 4 x).setIfInBounds (4 + 1) y).setIfInBounds (4 + 2) z).setIfInBounds (4 + 3) u) = #[.int .i64 n0, .int .i64 1, .int .i64 (-1073741824), .int .i64 1073741824, x, y, z, u, .int .i64 0, .int .i64 0, .int .i64 0, .int .i64 0, .int .i64 0, .int .i64 0, .int .i64 0, .int .i64 0, .int .i64 0, .int .i64 0, .int .i64 0, .int .i64 0, .int .i64 0, .int .i64 0, .int .i64 0, .int .i64 0, .int .i64 0, .int .i64 0, .int .i64 0, .int .i64 0] from fun _ _ _ _ => rfl]
  rw [fill4 (off := 8) rfl (by show 8 + 4 ≤ 28; decide)]
  rw [show ∀ x y z u : Value, (((( (#[.int .i64 n0, .int .i64 1, .int .i64 (-1073741824), .int .i64 1073741824, .int .i64 n1, .int .i64 1, .int .i64 (-1073741824), .int .i64 1073741824, .int .i64 0, .int .i64 0, .int .i64 0, .int .i64 0, .int .i64 0, .int .i64 0, .int .i64 0, .int .i64 0, .int .i64 0, .int .i64 0, .int .i64 0, .int .i64 0, .int .i64 0, .int .i64 0, .int .i64 0, .int .i64 0, .int .i64 0, .int .i64 0, .int .i64 0, .int .i64 0] : Array Value).setIfInBounds 8 x).setIfInBounds (8 + 1) y).setIfInBounds (8 + 2) z).setIfInBounds (8 + 3) u) = #[.int .i64 n0, .int .i64 1, .int .i64 (-1073741824), .int .i64 1073741824, .int .i64 n1, .int .i64 1, .int .i64 (-1073741824), .int .i64 1073741824, x, y, z, u, .int .i64 0, .int .i64 0, .int .i64 0, .int .i64 0, .int .i64 0, .int .i64 0, .int .i64 0, .int .i64 0, .int .i64 0, .int .i64 0, .int .i64 0, .int .i64 0, .int .i64 0, .int .i64 0, .int .i64 0, .int .i64 0] from fun _ _ _ _ => rfl]
  rw [fill4 (off := 12) rfl (by show 12 + 4 ≤ 28; decide)]
  rw [show ∀ x y z u : Value, (((( (#[.int .i64 n0, .int .i64 1, .int .i64 (-1073741824), .int .i64 1073741824, .int .i64 n1, .int .i64 1, .int .i64 (-1073741824), .int .i64 1073741824, .int .i64 n2, .int .i64 2, .int .i64 (-1073741824), .int .i64 1073741824, .int .i64 0, .int .i64 0, .int .i64 0, .int .i64 0, .int .i64 0, .int .i64 0, .int .i64 0, .int .i64 0, .int .i64 0, .int .i64 0, .int .i64 0, .int .i64 0, .int .i64 0, .int .i64 0, .int .i64 0, .int .i64 0] : Array Value).setIfInBounds 12 x).setIfInBounds (12 + 1) y).setIfInBounds (12 + 2) z).setIfInBounds (12 + 3) u) = #[.int .i64 n0, .int .i64 1, .int .i64 (-1073741824), .int .i64 1073741824, .int .i64 n1, .int .i64 1, .int .i64 (-1073741824), .int .i64 1073741824, .int .i64 n2, .int .i64 2, .int .i64 (-1073741824), .int .i64 1073741824, x, y, z, u, .int .i64 0, .int .i64 0, .int .i64 0, .int .i64 0, .int .i64 0, .int .i64 0, .int .i64 0, .int .i64 0, .int .i64 0, .int .i64 0, .int .i64 0, .int .i64 0] from fun _ _ _ _ => rfl]
  rw [fill4 (off := 16) rfl (by show 16 + 4 ≤ 28; decide)]
  rw [show ∀ x y z u : Value, (((( (#[.int .i64 n0, .int .i64 1, .int .i64 (-1073741824), .int .i64 1073741824, .int .i64 n1, .int .i64 1, .int .i64 (-1073741824), .int .i64 1073741824, .int .i64 n2, .int .i64 2, .int .i64 (-1073741824), .int .i64 1073741824, .int .i64 n3, .int .i64 2, .int .i64 (-1073741824), .int .i64 1073741824, .int .i64 0, .int .i64 0, .int .i64 0, .int .i64 0, .int .i64 0, .int .i64 0, .int .i64 0, .int .i64 0, .int .i64 0, .int .i64 0, .int .i64 0, .int .i64 0] : Array Value).setIfInBounds 16 x).setIfInBounds (16 + 1) y).setIfInBounds (16 + 2) z).setIfInBounds (16 + 3) u) = #[.int .i64 n0, .int .i64 1, .int .i64 (-1073741824), .int .i64 1073741824, .int .i64 n1, .int .i64 1, .int .i64 (-1073741824), .int .i64 1073741824, .int .i64 n2, .int .i64 2, .int .i64 (-1073741824), .int .i64 1073741824, .int .i64 n3, .int .i64 2, .int .i64 (-1073741824), .int .i64 1073741824, x, y, z, u, .int .i64 0, .int .i64 0, .int .i64 0, .int .i64 0, .int .i64 0, .int .i64 0, .int .i64 0, .int .i64 0] from fun _ _ _ _ => rfl]
  rw [fill4 (off := 20) rfl (by show 20 + 4 ≤ 28; decide)]
  rw [show ∀ x y z u : Value, (((( (#[.int .i64 n0, .int .i64 1, .int .i64 (-1073741824), .int .i64 1073741824, .int .i64 n1, .int .i64 1, .int .i64 (-1073741824), .int .i64 1073741824, .int .i64 n2, .int .i64 2, .int .i64 (-1073741824), .int .i64 1073741824, .int .i64 n3, .int .i64 2, .int .i64 (-1073741824), .int .i64 1073741824, .int .i64 n4, .int .i64 4, .int .i64 1, .int .i64 1048576, .int .i64 0, .int .i64 0, .int .i64 0, .int .i64 0, .int .i64 0, .int .i64 0, .int .i64 0, .int .i64 0] : Array Value).setIfInBounds 20 x).setIfInBounds (20 + 1) y).setIfInBounds (20 + 2) z).setIfInBounds (20 + 3) u) = #[.int .i64 n0, .int .i64 1, .int .i64 (-1073741824), .int .i64 1073741824, .int .i64 n1, .int .i64 1, .int .i64 (-1073741824), .int .i64 1073741824, .int .i64 n2, .int .i64 2, .int .i64 (-1073741824), .int .i64 1073741824, .int .i64 n3, .int .i64 2, .int .i64 (-1073741824), .int .i64 1073741824, .int .i64 n4, .int .i64 4, .int .i64 1, .int .i64 1048576, x, y, z, u, .int .i64 0, .int .i64 0, .int .i64 0, .int .i64 0] from fun _ _ _ _ => rfl]
  rw [fill4 (off := 24) rfl (by show 24 + 4 ≤ 28; decide)]
  rw [show ∀ x y z u : Value, (((( (#[.int .i64 n0, .int .i64 1, .int .i64 (-1073741824), .int .i64 1073741824, .int .i64 n1, .int .i64 1, .int .i64 (-1073741824), .int .i64 1073741824, .int .i64 n2, .int .i64 2, .int .i64 (-1073741824), .int .i64 1073741824, .int .i64 n3, .int .i64 2, .int .i64 (-1073741824), .int .i64 1073741824, .int .i64 n4, .int .i64 4, .int .i64 1, .int .i64 1048576, .int .i64 n5, .int .i64 8, .int .i64 0, .int .i64 1024, .int .i64 0, .int .i64 0, .int .i64 0, .int .i64 0] : Array Value).setIfInBounds 24 x).setIfInBounds (24 + 1) y).setIfInBounds (24 + 2) z).setIfInBounds (24 + 3) u) = #[.int .i64 n0, .int .i64 1, .int .i64 (-1073741824), .int .i64 1073741824, .int .i64 n1, .int .i64 1, .int .i64 (-1073741824), .int .i64 1073741824, .int .i64 n2, .int .i64 2, .int .i64 (-1073741824), .int .i64 1073741824, .int .i64 n3, .int .i64 2, .int .i64 (-1073741824), .int .i64 1073741824, .int .i64 n4, .int .i64 4, .int .i64 1, .int .i64 1048576, .int .i64 n5, .int .i64 8, .int .i64 0, .int .i64 1024, x, y, z, u] from fun _ _ _ _ => rfl]
  rfl
theorem build_nums (n0 n1 n2 n3 n4 n5 n6 : Int) (w : World) : (Instr.build 103 #[(0, .agg #[.int .i64 n0, .int .i64 1, .int .i64 (-1073741824), .int .i64 1073741824]), (1, .agg #[.int .i64 n1, .int .i64 1, .int .i64 (-1073741824), .int .i64 1073741824]), (2, .agg #[.int .i64 n2, .int .i64 2, .int .i64 (-1073741824), .int .i64 1073741824]), (3, .agg #[.int .i64 n3, .int .i64 2, .int .i64 (-1073741824), .int .i64 1073741824]), (4, .agg #[.int .i64 n4, .int .i64 4, .int .i64 1, .int .i64 1048576]), (5, .agg #[.int .i64 n5, .int .i64 8, .int .i64 0, .int .i64 1024]), (6, .agg #[.int .i64 n6, .int .i64 16, .int .i64 1, .int .i64 1048576])]).run Try.prog w = .ok (.agg #[.int .i64 n0, .int .i64 1, .int .i64 (-1073741824), .int .i64 1073741824, .int .i64 n1, .int .i64 1, .int .i64 (-1073741824), .int .i64 1073741824, .int .i64 n2, .int .i64 2, .int .i64 (-1073741824), .int .i64 1073741824, .int .i64 n3, .int .i64 2, .int .i64 (-1073741824), .int .i64 1073741824, .int .i64 n4, .int .i64 4, .int .i64 1, .int .i64 1048576, .int .i64 n5, .int .i64 8, .int .i64 0, .int .i64 1024, .int .i64 n6, .int .i64 16, .int .i64 1, .int .i64 1048576]) w := by
  have F := fill_nums n0 n1 n2 n3 n4 n5 n6
  unfold Instr.build
  go_simp
theorem wpList_build7 {P : Program} (w : World) {ops : Array Oper} {rest : List Oper} {o : Oper} {a : Act} {Q : Exit → Act → World → Prop} (hg : o.guard = none) (x0 x1 x2 x3 x4 x5 x6 : Operand) (t : TypeId) (hop : o.op = Op.build t #[(0, x0), (1, x1), (2, x2), (3, x3), (4, x4), (5, x5), (6, x6)])
    (v0 v1 v2 v3 v4 v5 v6 : Value) (h0 : a.eval x0 = v0) (h1 : a.eval x1 = v1) (h2 : a.eval x2 = v2) (h3 : a.eval x3 = v3) (h4 : a.eval x4 = v4) (h5 : a.eval x5 = v5) (h6 : a.eval x6 = v6) (v : Value) (hrun : (Instr.build t #[(0, v0), (1, v1), (2, v2), (3, v3), (4, v4), (5, v5), (6, v6)]).run P w = .ok v w) (hK : wpList P ops Q rest (a.put o.dst v) w) :
    wpList P ops Q (o :: rest) a w := by
  refine wpList_plain hg fun K' hK' => ?_
  unfold Oper.wp
  simp [execOp, hop, h0, h1, h2, h3, h4, h5, h6, hrun, Result.andThen]
  exact hK' _ _ hK
theorem results_cell {P : Program} {fn : Func} {tmps : Array Value} {W : World} {sl n : Nat} {t : TypeId} {ad : Addr} {L : List Value} (hr : fn.results = #[.cell sl t]) (hp : tmps[sl]? = some (.pointer (some ad))) (ha : ∀ w, (isAgg t).run P w = .ok true w) (hz : ∀ w, (Go.sizeOf t).run P w = .ok n w) (hn : L.length = n)
    (hc : ∀ (j : Nat) (u : Value), L[j]? = some u → W.cell? (ad.add j) = some u) : (results fn tmps).run P W = .ok (.agg L.toArray) W := by
  have HL : (loadCellsFrom ad 0 n #[]).run P W = .ok L.toArray W := by
    have := run_loadCells (P := P) W ad n (fun j => L[j]?.getD undef) (fun j hj => by
      have hj' : j < L.length := by omega
      rw [hc j _ (List.getElem?_eq_getElem hj'), List.getElem?_eq_getElem hj']
      rfl)
    unfold loadCells at this
    rw [this]
    congr 1
    congr 1
    apply List.ext_getElem?
    intro i
    rw [List.getElem?_map]
    by_cases h : i < n
    · rw [List.getElem?_range h, List.getElem?_eq_getElem (by omega)]
      simp [show i < L.length by omega]
    · rw [List.getElem?_eq_none (by simpa using h), List.getElem?_eq_none (by omega)]
      rfl
  simp [results, hr, go_sem, hp, ha, hz, HL]
abbrev numsOf (b : Bn) : Value := .agg #[.int .i64 b.x, .int .i64 1, .int .i64 (-1073741824), .int .i64 1073741824, .int .i64 b.y, .int .i64 1, .int .i64 (-1073741824), .int .i64 1073741824, .int .i64 b.vx, .int .i64 2, .int .i64 (-1073741824), .int .i64 1073741824, .int .i64 b.vy, .int .i64 2, .int .i64 (-1073741824), .int .i64 1073741824, .int .i64 b.h, .int .i64 4, .int .i64 1, .int .i64 1048576, .int .i64 b.p, .int .i64 8, .int .i64 0, .int .i64 1024, .int .i64 b.l, .int .i64 16, .int .i64 1, .int .i64 1048576]
set_option maxHeartbeats 16000000 in
set_option maxRecDepth 100000 in
theorem numbers_any (b : Bn) (w : World) : Calls Try.prog 65 #[b.val] w fun e w' => e = .returned (numsOf b) ∧ Below w.heap.size w w' := by
  obtain ⟨s, i, g, m, x, y, vx, vy, h, p, l⟩ := b
  simp only [Bn.val, numsOf]
  have FIN := bel2 w (.cells #[.int .i64 s, .int .i64 i, .int .i64 g, .int .i64 m, .int .i64 x, .int .i64 y, .int .i64 vx, .int .i64 vy, .int .i64 h, .int .i64 p, .int .i64 l] 36) (.cells #[.int .i64 0, .int .i64 0, .int .i64 0, .int .i64 0, .int .i64 0, .int .i64 0, .int .i64 0, .int .i64 0, .int .i64 0, .int .i64 0, .int .i64 0, .int .i64 0, .int .i64 0, .int .i64 0, .int .i64 0, .int .i64 0, .int .i64 0, .int .i64 0, .int .i64 0, .int .i64 0, .int .i64 0, .int .i64 0, .int .i64 0, .int .i64 0, .int .i64 0, .int .i64 0, .int .i64 0, .int .i64 0] 103)
  obtain ⟨⟨k0, k1, k2, k3, k4, k5, k6, k7, k8, k9, k10⟩, _⟩ := Bx.b11 (at2a w (.cells #[.int .i64 s, .int .i64 i, .int .i64 g, .int .i64 m, .int .i64 x, .int .i64 y, .int .i64 vx, .int .i64 vy, .int .i64 h, .int .i64 p, .int .i64 l] 36) (.cells #[.int .i64 0, .int .i64 0, .int .i64 0, .int .i64 0, .int .i64 0, .int .i64 0, .int .i64 0, .int .i64 0, .int .i64 0, .int .i64 0, .int .i64 0, .int .i64 0, .int .i64 0, .int .i64 0, .int .i64 0, .int .i64 0, .int .i64 0, .int .i64 0, .int .i64 0, .int .i64 0, .int .i64 0, .int .i64 0, .int .i64 0, .int .i64 0, .int .i64 0, .int .i64 0, .int .i64 0, .int .i64 0] 103))
  have H2 := at2b w (.cells #[.int .i64 s, .int .i64 i, .int .i64 g, .int .i64 m, .int .i64 x, .int .i64 y, .int .i64 vx, .int .i64 vy, .int .i64 h, .int .i64 p, .int .i64 l] 36) (.cells #[.int .i64 0, .int .i64 0, .int .i64 0, .int .i64 0, .int .i64 0, .int .i64 0, .int .i64 0, .int .i64 0, .int .i64 0, .int .i64 0, .int .i64 0, .int .i64 0, .int .i64 0, .int .i64 0, .int .i64 0, .int .i64 0, .int .i64 0, .int .i64 0, .int .i64 0, .int .i64 0, .int .i64 0, .int .i64 0, .int .i64 0, .int .i64 0, .int .i64 0, .int .i64 0, .int .i64 0, .int .i64 0] 103)
  have BE := build_nums x y vx vy h p l
  obtain ⟨L, hL⟩ : ∃ L : List Value, L = [.int .i64 x, .int .i64 1, .int .i64 (-1073741824), .int .i64 1073741824, .int .i64 y, .int .i64 1, .int .i64 (-1073741824), .int .i64 1073741824, .int .i64 vx, .int .i64 2, .int .i64 (-1073741824), .int .i64 1073741824, .int .i64 vy, .int .i64 2, .int .i64 (-1073741824), .int .i64 1073741824, .int .i64 h, .int .i64 4, .int .i64 1, .int .i64 1048576, .int .i64 p, .int .i64 8, .int .i64 0, .int .i64 1024, .int .i64 l, .int .i64 16, .int .i64 1, .int .i64 1048576] := ⟨_, rfl⟩
  have hA : #[.int .i64 x, .int .i64 1, .int .i64 (-1073741824), .int .i64 1073741824, .int .i64 y, .int .i64 1, .int .i64 (-1073741824), .int .i64 1073741824, .int .i64 vx, .int .i64 2, .int .i64 (-1073741824), .int .i64 1073741824, .int .i64 vy, .int .i64 2, .int .i64 (-1073741824), .int .i64 1073741824, .int .i64 h, .int .i64 4, .int .i64 1, .int .i64 1048576, .int .i64 p, .int .i64 8, .int .i64 0, .int .i64 1024, .int .i64 l, .int .i64 16, .int .i64 1, .int .i64 1048576] = L.toArray := by rw [hL]
  rw [hA] at BE ⊢
  have hlen : L.length = 28 := by rw [hL]; rfl
  have h1c : ∀ v ∈ L, v.oneCell' = true := by
    rw [hL]
    intro v hv
    simp only [List.mem_cons, List.not_mem_nil, or_false] at hv
    rcases hv with rfl | rfl | rfl | rfl | rfl | rfl | rfl | rfl | rfl | rfl | rfl | rfl | rfl | rfl | rfl | rfl | rfl | rfl | rfl | rfl | rfl | rfl | rfl | rfl | rfl | rfl | rfl | rfl <;> rfl
  have S1 := fun (W : World) (hW : W.heap[w.heap.size + 1]? = some (.cells #[.int .i64 0, .int .i64 0, .int .i64 0, .int .i64 0, .int .i64 0, .int .i64 0, .int .i64 0, .int .i64 0, .int .i64 0, .int .i64 0, .int .i64 0, .int .i64 0, .int .i64 0, .int .i64 0, .int .i64 0, .int .i64 0, .int .i64 0, .int .i64 0, .int .i64 0, .int .i64 0, .int .i64 0, .int .i64 0, .int .i64 0, .int .i64 0, .int .i64 0, .int .i64 0, .int .i64 0, .int .i64 0] 103 (0, 0))) => run_storeCells_cells (P := Try.prog) (w.heap.size + 1) 0 L 0 W (fun j hj => by
    rw [hlen] at hj
    have hj' : 0 + 0 + j < (#[.int .i64 0, .int .i64 0, .int .i64 0, .int .i64 0, .int .i64 0, .int .i64 0, .int .i64 0, .int .i64 0, .int .i64 0, .int .i64 0, .int .i64 0, .int .i64 0, .int .i64 0, .int .i64 0, .int .i64 0, .int .i64 0, .int .i64 0, .int .i64 0, .int .i64 0, .int .i64 0, .int .i64 0, .int .i64 0, .int .i64 0, .int .i64 0, .int .i64 0, .int .i64 0, .int .i64 0, .int .i64 0] : Array Value).size := by show _ < 28; omega
    rw [(Bx.cell hW (o := 0 + 0 + j) (Array.getElem?_eq_getElem hj')).1]
    rfl) (fun j hj => by
    rw [hlen] at hj
    have hj' : 0 + 0 + j < (#[.int .i64 0, .int .i64 0, .int .i64 0, .int .i64 0, .int .i64 0, .int .i64 0, .int .i64 0, .int .i64 0, .int .i64 0, .int .i64 0, .int .i64 0, .int .i64 0, .int .i64 0, .int .i64 0, .int .i64 0, .int .i64 0, .int .i64 0, .int .i64 0, .int .i64 0, .int .i64 0, .int .i64 0, .int .i64 0, .int .i64 0, .int .i64 0, .int .i64 0, .int .i64 0, .int .i64 0, .int .i64 0] : Array Value).size := by show _ < 28; omega
    exact (Bx.cell hW (o := 0 + 0 + j) (Array.getElem?_eq_getElem hj')).2) h1c
  go_enter Try.func65, Try.ntmps65
  go_upto_region 1 with fail
  generalize (w.alloc (.cells #[.int .i64 s, .int .i64 i, .int .i64 g, .int .i64 m, .int .i64 x, .int .i64 y, .int .i64 vx, .int .i64 vy, .int .i64 h, .int .i64 p, .int .i64 l] 36)).alloc (.cells #[.int .i64 0, .int .i64 0, .int .i64 0, .int .i64 0, .int .i64 0, .int .i64 0, .int .i64 0, .int .i64 0, .int .i64 0, .int .i64 0, .int .i64 0, .int .i64 0, .int .i64 0, .int .i64 0, .int .i64 0, .int .i64 0, .int .i64 0, .int .i64 0, .int .i64 0, .int .i64 0, .int .i64 0, .int .i64 0, .int .i64 0, .int .i64 0, .int .i64 0, .int .i64 0, .int .i64 0, .int .i64 0] 103) = W at *
  replace S1 := S1 W H2
  obtain ⟨cur', q1, q2, q3, q4⟩ := setCells_same (w.heap.size + 1) L (0 + 0) W _ H2
  have q5 := (setCells_size (w.heap.size + 1) L (0 + 0) W)
  have q6 := fun k hk => setCells_other (w.heap.size + 1) L (0 + 0) W k hk
  have HF : Hid (Below w.heap.size w (W.setCells (w.heap.size + 1) (0 + 0) L) ∧ ∀ (j : Nat) (u : Value), L[j]? = some u → (W.setCells (w.heap.size + 1) (0 + 0) L).cell? ⟨w.heap.size + 1, j, none⟩ = some u) := Lib.hid ⟨⟨q5.2.1.trans FIN.os, q5.2.2.1.trans FIN.tape, q5.2.2.2.trans FIN.output, by rw [q5.1]; exact FIN.size, fun k hk => (q6 k (by omega)).trans (FIN.block k hk)⟩, fun j u hu => by
    have hj := (List.getElem?_eq_some_iff.1 hu).1
    have := q4 j u hu (by rw [hlen] at hj; show 0 + 0 + j < 28; omega)
    simp only [Nat.zero_add] at this
    exact (Bx.cell q1 this).1⟩
  obtain ⟨W2, hW2⟩ : ∃ W2, W2 = W.setCells (w.heap.size + 1) (0 + 0) L := ⟨_, rfl⟩
  rw [← hW2] at S1 HF
  clear q1 q2 q3 q4 q5 q6 hW2 H2 FIN hA h1c
  replace hL := Lib.hid hL
  replace BE := Lib.hid BE
  refine wp_region_lit ?_
  iterate 21 (refine wpList_plain rfl (fun K hK0 => ?_); (have hK := Lib.hid hK0); clear hK0; go_simp; refine hK.out _ _ ?_; clear hK K)
  refine wpList_build7 _ rfl (.tmp 5) (.tmp 8) (.tmp 11) (.tmp 14) (.tmp 17) (.tmp 20) (.tmp 23) 103 rfl _ _ _ _ _ _ _ rfl rfl rfl rfl rfl rfl rfl _ (BE.out _) ?_
  refine wpList_plain rfl (fun K hK0 => ?_)
  have hK := Lib.hid hK0
  clear hK0
  go_simp
  refine hK.out _ _ ?_
  clear hK K
  refine wpList_nil ?_
  go_wp2
  obtain ⟨hbel, HC⟩ := HF.out
  exact bodyPost_ret (v := .agg L.toArray) (results_cell (sl := 2) (t := 103) (ad := ⟨w.heap.size + 1, 0, none⟩) (n := 28) Try.results65 rfl Try.isAgg103 Try.sizeOf103 hlen (fun j u hu => by rw [Addr.add_mid, Nat.zero_add]; exact HC j u hu)) rfl ⟨rfl, hbel⟩
end Go.Proofs.Yteollbioeamciaa
namespace Go.Proofs.Yteollbioeamciaa
open Go.RowKit Pz
set_option linter.unusedVariables false

namespace Pz
/-- may the k-th number, and all behind it, and the mask be? -/
def restB (b : Bn) : Nat → Bool
  | 0 => (inB b.x (-1073741824) 1073741824 (bitB b.m 0) && (inB b.y (-1073741824) 1073741824 (bitB b.m 0) && (inB b.vx (-1073741824) 1073741824 (bitB b.m 1) && (inB b.vy (-1073741824) 1073741824 (bitB b.m 1) && (inB b.h 1 1048576 (bitB b.m 2) && (inB b.p 0 1024 (bitB b.m 3) && (inB b.l 1 1048576 (bitB b.m 4) && within b.m 0 31)))))))
  | 1 => (inB b.y (-1073741824) 1073741824 (bitB b.m 0) && (inB b.vx (-1073741824) 1073741824 (bitB b.m 1) && (inB b.vy (-1073741824) 1073741824 (bitB b.m 1) && (inB b.h 1 1048576 (bitB b.m 2) && (inB b.p 0 1024 (bitB b.m 3) && (inB b.l 1 1048576 (bitB b.m 4) && within b.m 0 31))))))
  | 2 => (inB b.vx (-1073741824) 1073741824 (bitB b.m 1) && (inB b.vy (-1073741824) 1073741824 (bitB b.m 1) && (inB b.h 1 1048576 (bitB b.m 2) && (inB b.p 0 1024 (bitB b.m 3) && (inB b.l 1 1048576 (bitB b.m 4) && within b.m 0 31)))))
  | 3 => (inB b.vy (-1073741824) 1073741824 (bitB b.m 1) && (inB b.h 1 1048576 (bitB b.m 2) && (inB b.p 0 1024 (bitB b.m 3) && (inB b.l 1 1048576 (bitB b.m 4) && within b.m 0 31))))
  | 4 => (inB b.h 1 1048576 (bitB b.m 2) && (inB b.p 0 1024 (bitB b.m 3) && (inB b.l 1 1048576 (bitB b.m 4) && within b.m 0 31)))
  | 5 => (inB b.p 0 1024 (bitB b.m 3) && (inB b.l 1 1048576 (bitB b.m 4) && within b.m 0 31))
  | 6 => (inB b.l 1 1048576 (bitB b.m 4) && within b.m 0 31)
  | _ => within b.m 0 31
theorem right_is (b : Bn) : right b = restB b 0 := by
  unfold right
  simp only [restB]
  have e : within b.m 0 31 = !(decide (b.m < 0) || decide (b.m > 31)) := by
    unfold within
    by_cases h1 : b.m < 0
    · rw [decide_eq_true h1, decide_eq_false (by omega : ¬ 0 ≤ b.m)]; rfl
    · rw [decide_eq_false h1, decide_eq_true (by omega : 0 ≤ b.m)]
      by_cases h2 : b.m > 31
      · rw [decide_eq_true h2, decide_eq_false (by omega : ¬ b.m ≤ 31)]; rfl
      · rw [decide_eq_false h2, decide_eq_true (by omega : b.m ≤ 31)]; rfl
  rw [e]
  simp only [Bool.and_assoc, Bool.and_comm, Bool.and_left_comm]
end Pz
set_option maxRecDepth 100000 in
theorem index_0 (n0 n1 n2 n3 n4 n5 n6 : Int) (w : World) : (Instr.index 103 (.agg #[.int .i64 n0, .int .i64 1, .int .i64 (-1073741824), .int .i64 1073741824, .int .i64 n1, .int .i64 1, .int .i64 (-1073741824), .int .i64 1073741824, .int .i64 n2, .int .i64 2, .int .i64 (-1073741824), .int .i64 1073741824, .int .i64 n3, .int .i64 2, .int .i64 (-1073741824), .int .i64 1073741824, .int .i64 n4, .int .i64 4, .int .i64 1, .int .i64 1048576, .int .i64 n5, .int .i64 8, .int .i64 0, .int .i64 1024, .int .i64 n6, .int .i64 16, .int .i64 1, .int .i64 1048576]) (.int .i64 0)).run Try.prog w = .ok (.agg #[.int .i64 n0, .int .i64 1, .int .i64 (-1073741824), .int .i64 1073741824]) w := by
  unfold Instr.index
  go_simp
set_option maxRecDepth 100000 in
theorem index_1 (n0 n1 n2 n3 n4 n5 n6 : Int) (w : World) : (Instr.index 103 (.agg #[.int .i64 n0, .int .i64 1, .int .i64 (-1073741824), .int .i64 1073741824, .int .i64 n1, .int .i64 1, .int .i64 (-1073741824), .int .i64 1073741824, .int .i64 n2, .int .i64 2, .int .i64 (-1073741824), .int .i64 1073741824, .int .i64 n3, .int .i64 2, .int .i64 (-1073741824), .int .i64 1073741824, .int .i64 n4, .int .i64 4, .int .i64 1, .int .i64 1048576, .int .i64 n5, .int .i64 8, .int .i64 0, .int .i64 1024, .int .i64 n6, .int .i64 16, .int .i64 1, .int .i64 1048576]) (.int .i64 1)).run Try.prog w = .ok (.agg #[.int .i64 n1, .int .i64 1, .int .i64 (-1073741824), .int .i64 1073741824]) w := by
  unfold Instr.index
  go_simp
set_option maxRecDepth 100000 in
theorem index_2 (n0 n1 n2 n3 n4 n5 n6 : Int) (w : World) : (Instr.index 103 (.agg #[.int .i64 n0, .int .i64 1, .int .i64 (-1073741824), .int .i64 1073741824, .int .i64 n1, .int .i64 1, .int .i64 (-1073741824), .int .i64 1073741824, .int .i64 n2, .int .i64 2, .int .i64 (-1073741824), .int .i64 1073741824, .int .i64 n3, .int .i64 2, .int .i64 (-1073741824), .int .i64 1073741824, .int .i64 n4, .int .i64 4, .int .i64 1, .int .i64 1048576, .int .i64 n5, .int .i64 8, .int .i64 0, .int .i64 1024, .int .i64 n6, .int .i64 16, .int .i64 1, .int .i64 1048576]) (.int .i64 2)).run Try.prog w = .ok (.agg #[.int .i64 n2, .int .i64 2, .int .i64 (-1073741824), .int .i64 1073741824]) w := by
  unfold Instr.index
  go_simp
set_option maxRecDepth 100000 in
theorem index_3 (n0 n1 n2 n3 n4 n5 n6 : Int) (w : World) : (Instr.index 103 (.agg #[.int .i64 n0, .int .i64 1, .int .i64 (-1073741824), .int .i64 1073741824, .int .i64 n1, .int .i64 1, .int .i64 (-1073741824), .int .i64 1073741824, .int .i64 n2, .int .i64 2, .int .i64 (-1073741824), .int .i64 1073741824, .int .i64 n3, .int .i64 2, .int .i64 (-1073741824), .int .i64 1073741824, .int .i64 n4, .int .i64 4, .int .i64 1, .int .i64 1048576, .int .i64 n5, .int .i64 8, .int .i64 0, .int .i64 1024, .int .i64 n6, .int .i64 16, .int .i64 1, .int .i64 1048576]) (.int .i64 3)).run Try.prog w = .ok (.agg #[.int .i64 n3, .int .i64 2, .int .i64 (-1073741824), .int .i64 1073741824]) w := by
  unfold Instr.index
  go_simp
set_option maxRecDepth 100000 in
theorem index_4 (n0 n1 n2 n3 n4 n5 n6 : Int) (w : World) : (Instr.index 103 (.agg #[.int .i64 n0, .int .i64 1, .int .i64 (-1073741824), .int .i64 1073741824, .int .i64 n1, .int .i64 1, .int .i64 (-1073741824), .int .i64 1073741824, .int .i64 n2, .int .i64 2, .int .i64 (-1073741824), .int .i64 1073741824, .int .i64 n3, .int .i64 2, .int .i64 (-1073741824), .int .i64 1073741824, .int .i64 n4, .int .i64 4, .int .i64 1, .int .i64 1048576, .int .i64 n5, .int .i64 8, .int .i64 0, .int .i64 1024, .int .i64 n6, .int .i64 16, .int .i64 1, .int .i64 1048576]) (.int .i64 4)).run Try.prog w = .ok (.agg #[.int .i64 n4, .int .i64 4, .int .i64 1, .int .i64 1048576]) w := by
  unfold Instr.index
  go_simp
set_option maxRecDepth 100000 in
theorem index_5 (n0 n1 n2 n3 n4 n5 n6 : Int) (w : World) : (Instr.index 103 (.agg #[.int .i64 n0, .int .i64 1, .int .i64 (-1073741824), .int .i64 1073741824, .int .i64 n1, .int .i64 1, .int .i64 (-1073741824), .int .i64 1073741824, .int .i64 n2, .int .i64 2, .int .i64 (-1073741824), .int .i64 1073741824, .int .i64 n3, .int .i64 2, .int .i64 (-1073741824), .int .i64 1073741824, .int .i64 n4, .int .i64 4, .int .i64 1, .int .i64 1048576, .int .i64 n5, .int .i64 8, .int .i64 0, .int .i64 1024, .int .i64 n6, .int .i64 16, .int .i64 1, .int .i64 1048576]) (.int .i64 5)).run Try.prog w = .ok (.agg #[.int .i64 n5, .int .i64 8, .int .i64 0, .int .i64 1024]) w := by
  unfold Instr.index
  go_simp
set_option maxRecDepth 100000 in
theorem index_6 (n0 n1 n2 n3 n4 n5 n6 : Int) (w : World) : (Instr.index 103 (.agg #[.int .i64 n0, .int .i64 1, .int .i64 (-1073741824), .int .i64 1073741824, .int .i64 n1, .int .i64 1, .int .i64 (-1073741824), .int .i64 1073741824, .int .i64 n2, .int .i64 2, .int .i64 (-1073741824), .int .i64 1073741824, .int .i64 n3, .int .i64 2, .int .i64 (-1073741824), .int .i64 1073741824, .int .i64 n4, .int .i64 4, .int .i64 1, .int .i64 1048576, .int .i64 n5, .int .i64 8, .int .i64 0, .int .i64 1024, .int .i64 n6, .int .i64 16, .int .i64 1, .int .i64 1048576]) (.int .i64 6)).run Try.prog w = .ok (.agg #[.int .i64 n6, .int .i64 16, .int .i64 1, .int .i64 1048576]) w := by
  unfold Instr.index
  go_simp
set_option maxHeartbeats 16000000 in
set_option maxRecDepth 100000 in
theorem comps_any (b : Bn) (w : World) : Calls Try.prog 62 #[b.val] w fun e w' => e = .returned (.bool (right b)) ∧ Below w.heap.size w w' := by
  have NB := Lib.hid fun W => numbers_any b W
  have HS : Hid (∀ j : Nat, j ≤ 4 → ∀ V, Calls Try.prog 58 #[b.val, .int .i64 ((2 : Int) ^ j)] V fun e w' => e = .returned (.bool (bitB b.m j)) ∧ Below V.heap.size V w') := Lib.hid fun j hj V => has_one b hj V
  have WI := Lib.hid fun W => within_any b.m 0 31 W
  have R8 : Hid (restB b 7 = within b.m 0 31) := Lib.hid rfl
  have RG := Lib.hid (right_is b)
  have RS0 : Hid (restB b 0 = (inB b.x (-1073741824) 1073741824 (bitB b.m 0) && restB b 1)) := Lib.hid rfl
  have RS1 : Hid (restB b 1 = (inB b.y (-1073741824) 1073741824 (bitB b.m 0) && restB b 2)) := Lib.hid rfl
  have RS2 : Hid (restB b 2 = (inB b.vx (-1073741824) 1073741824 (bitB b.m 1) && restB b 3)) := Lib.hid rfl
  have RS3 : Hid (restB b 3 = (inB b.vy (-1073741824) 1073741824 (bitB b.m 1) && restB b 4)) := Lib.hid rfl
  have RS4 : Hid (restB b 4 = (inB b.h 1 1048576 (bitB b.m 2) && restB b 5)) := Lib.hid rfl
  have RS5 : Hid (restB b 5 = (inB b.p 0 1024 (bitB b.m 3) && restB b 6)) := Lib.hid rfl
  have RS6 : Hid (restB b 6 = (inB b.l 1 1048576 (bitB b.m 4) && restB b 7)) := Lib.hid rfl
  generalize right b = res at *
  obtain ⟨s, i, g, m, x, y, vx, vy, h, p, l⟩ := b
  simp only [Bn.val, numsOf] at *
  have H0 := at1 w (.cells #[.int .i64 s, .int .i64 i, .int .i64 g, .int .i64 m, .int .i64 x, .int .i64 y, .int .i64 vx, .int .i64 vy, .int .i64 h, .int .i64 p, .int .i64 l] 36)
  have B1 := bel1 w (.cells #[.int .i64 s, .int .i64 i, .int .i64 g, .int .i64 m, .int .i64 x, .int .i64 y, .int .i64 vx, .int .i64 vy, .int .i64 h, .int .i64 p, .int .i64 l] 36)
  have CE : Hid (∀ W, Below (w.alloc (.cells #[.int .i64 s, .int .i64 i, .int .i64 g, .int .i64 m, .int .i64 x, .int .i64 y, .int .i64 vx, .int .i64 vy, .int .i64 h, .int .i64 p, .int .i64 l] 36)).heap.size (w.alloc (.cells #[.int .i64 s, .int .i64 i, .int .i64 g, .int .i64 m, .int .i64 x, .int .i64 y, .int .i64 vx, .int .i64 vy, .int .i64 h, .int .i64 p, .int .i64 l] 36)) W → (W.cell? ⟨w.heap.size, 0, none⟩ = some (.int .i64 s) ∧ W.cell? ⟨w.heap.size, 1, none⟩ = some (.int .i64 i) ∧ W.cell? ⟨w.heap.size, 2, none⟩ = some (.int .i64 g) ∧ W.cell? ⟨w.heap.size, 3, none⟩ = some (.int .i64 m) ∧ W.cell? ⟨w.heap.size, 4, none⟩ = some (.int .i64 x) ∧ W.cell? ⟨w.heap.size, 5, none⟩ = some (.int .i64 y) ∧ W.cell? ⟨w.heap.size, 6, none⟩ = some (.int .i64 vx) ∧ W.cell? ⟨w.heap.size, 7, none⟩ = some (.int .i64 vy) ∧ W.cell? ⟨w.heap.size, 8, none⟩ = some (.int .i64 h) ∧ W.cell? ⟨w.heap.size, 9, none⟩ = some (.int .i64 p) ∧ W.cell? ⟨w.heap.size, 10, none⟩ = some (.int .i64 l)) ∧ Below w.heap.size w W) := Lib.hid fun W hW => ⟨(Bx.b11 ((hW.block _ (Bx.lt H0)).trans H0)).1, B1.trans (hW.mono B1.size)⟩
  obtain ⟨⟨k0, k1, k2, k3, k4, k5, k6, k7, k8, k9, k10⟩, _⟩ := CE.out _ (Below.refl _ _)
  have BB := Lib.hid (Below.refl (w.alloc (.cells #[.int .i64 s, .int .i64 i, .int .i64 g, .int .i64 m, .int .i64 x, .int .i64 y, .int .i64 vx, .int .i64 vy, .int .i64 h, .int .i64 p, .int .i64 l] 36)).heap.size (w.alloc (.cells #[.int .i64 s, .int .i64 i, .int .i64 g, .int .i64 m, .int .i64 x, .int .i64 y, .int .i64 vx, .int .i64 vy, .int .i64 h, .int .i64 p, .int .i64 l] 36)))
  clear H0 B1
  have IX0 : Hid (∀ W : World, (Instr.index 103 (.agg #[.int .i64 x, .int .i64 1, .int .i64 (-1073741824), .int .i64 1073741824, .int .i64 y, .int .i64 1, .int .i64 (-1073741824), .int .i64 1073741824, .int .i64 vx, .int .i64 2, .int .i64 (-1073741824), .int .i64 1073741824, .int .i64 vy, .int .i64 2, .int .i64 (-1073741824), .int .i64 1073741824, .int .i64 h, .int .i64 4, .int .i64 1, .int .i64 1048576, .int .i64 p, .int .i64 8, .int .i64 0, .int .i64 1024, .int .i64 l, .int .i64 16, .int .i64 1, .int .i64 1048576]) (.int .i64 0)).run Try.prog W = .ok (.agg #[.int .i64 x, .int .i64 1, .int .i64 (-1073741824), .int .i64 1073741824]) W) := Lib.hid fun W => index_0 x y vx vy h p l W
  have IX1 : Hid (∀ W : World, (Instr.index 103 (.agg #[.int .i64 x, .int .i64 1, .int .i64 (-1073741824), .int .i64 1073741824, .int .i64 y, .int .i64 1, .int .i64 (-1073741824), .int .i64 1073741824, .int .i64 vx, .int .i64 2, .int .i64 (-1073741824), .int .i64 1073741824, .int .i64 vy, .int .i64 2, .int .i64 (-1073741824), .int .i64 1073741824, .int .i64 h, .int .i64 4, .int .i64 1, .int .i64 1048576, .int .i64 p, .int .i64 8, .int .i64 0, .int .i64 1024, .int .i64 l, .int .i64 16, .int .i64 1, .int .i64 1048576]) (.int .i64 1)).run Try.prog W = .ok (.agg #[.int .i64 y, .int .i64 1, .int .i64 (-1073741824), .int .i64 1073741824]) W) := Lib.hid fun W => index_1 x y vx vy h p l W
  have IX2 : Hid (∀ W : World, (Instr.index 103 (.agg #[.int .i64 x, .int .i64 1, .int .i64 (-1073741824), .int .i64 1073741824, .int .i64 y, .int .i64 1, .int .i64 (-1073741824), .int .i64 1073741824, .int .i64 vx, .int .i64 2, .int .i64 (-1073741824), .int .i64 1073741824, .int .i64 vy, .int .i64 2, .int .i64 (-1073741824), .int .i64 1073741824, .int .i64 h, .int .i64 4, .int .i64 1, .int .i64 1048576, .int .i64 p, .int .i64 8, .int .i64 0, .int .i64 1024, .int .i64 l, .int .i64 16, .int .i64 1, .int .i64 1048576]) (.int .i64 2)).run Try.prog W = .ok (.agg #[.int .i64 vx, .int .i64 2, .int .i64 (-1073741824), .int .i64 1073741824]) W) := Lib.hid fun W => index_2 x y vx vy h p l W
  have IX3 : Hid (∀ W : World, (Instr.index 103 (.agg #[.int .i64 x, .int .i64 1, .int .i64 (-1073741824), .int .i64 1073741824, .int .i64 y, .int .i64 1, .int .i64 (-1073741824), .int .i64 1073741824, .int .i64 vx, .int .i64 2, .int .i64 (-1073741824), .int .i64 1073741824, .int .i64 vy, .int .i64 2, .int .i64 (-1073741824), .int .i64 1073741824, .int .i64 h, .int .i64 4, .int .i64 1, .int .i64 1048576, .int .i64 p, .int .i64 8, .int .i64 0, .int .i64 1024, .int .i64 l, .int .i64 16, .int .i64 1, .int .i64 1048576]) (.int .i64 3)).run Try.prog W = .ok (.agg #[.int .i64 vy, .int .i64 2, .int .i64 (-1073741824), .int .i64 1073741824]) W) := Lib.hid fun W => index_3 x y vx vy h p l W
  have IX4 : Hid (∀ W : World, (Instr.index 103 (.agg #[.int .i64 x, .int .i64 1, .int .i64 (-1073741824), .int .i64 1073741824, .int .i64 y, .int .i64 1, .int .i64 (-1073741824), .int .i64 1073741824, .int .i64 vx, .int .i64 2, .int .i64 (-1073741824), .int .i64 1073741824, .int .i64 vy, .int .i64 2, .int .i64 (-1073741824), .int .i64 1073741824, .int .i64 h, .int .i64 4, .int .i64 1, .int .i64 1048576, .int .i64 p, .int .i64 8, .int .i64 0, .int .i64 1024, .int .i64 l, .int .i64 16, .int .i64 1, .int .i64 1048576]) (.int .i64 4)).run Try.prog W = .ok (.agg #[.int .i64 h, .int .i64 4, .int .i64 1, .int .i64 1048576]) W) := Lib.hid fun W => index_4 x y vx vy h p l W
  have IX5 : Hid (∀ W : World, (Instr.index 103 (.agg #[.int .i64 x, .int .i64 1, .int .i64 (-1073741824), .int .i64 1073741824, .int .i64 y, .int .i64 1, .int .i64 (-1073741824), .int .i64 1073741824, .int .i64 vx, .int .i64 2, .int .i64 (-1073741824), .int .i64 1073741824, .int .i64 vy, .int .i64 2, .int .i64 (-1073741824), .int .i64 1073741824, .int .i64 h, .int .i64 4, .int .i64 1, .int .i64 1048576, .int .i64 p, .int .i64 8, .int .i64 0, .int .i64 1024, .int .i64 l, .int .i64 16, .int .i64 1, .int .i64 1048576]) (.int .i64 5)).run Try.prog W = .ok (.agg #[.int .i64 p, .int .i64 8, .int .i64 0, .int .i64 1024]) W) := Lib.hid fun W => index_5 x y vx vy h p l W
  have IX6 : Hid (∀ W : World, (Instr.index 103 (.agg #[.int .i64 x, .int .i64 1, .int .i64 (-1073741824), .int .i64 1073741824, .int .i64 y, .int .i64 1, .int .i64 (-1073741824), .int .i64 1073741824, .int .i64 vx, .int .i64 2, .int .i64 (-1073741824), .int .i64 1073741824, .int .i64 vy, .int .i64 2, .int .i64 (-1073741824), .int .i64 1073741824, .int .i64 h, .int .i64 4, .int .i64 1, .int .i64 1048576, .int .i64 p, .int .i64 8, .int .i64 0, .int .i64 1024, .int .i64 l, .int .i64 16, .int .i64 1, .int .i64 1048576]) (.int .i64 6)).run Try.prog W = .ok (.agg #[.int .i64 l, .int .i64 16, .int .i64 1, .int .i64 1048576]) W) := Lib.hid fun W => index_6 x y vx vy h p l W
  generalize (Value.agg #[.int .i64 x, .int .i64 1, .int .i64 (-1073741824), .int .i64 1073741824, .int .i64 y, .int .i64 1, .int .i64 (-1073741824), .int .i64 1073741824, .int .i64 vx, .int .i64 2, .int .i64 (-1073741824), .int .i64 1073741824, .int .i64 vy, .int .i64 2, .int .i64 (-1073741824), .int .i64 1073741824, .int .i64 h, .int .i64 4, .int .i64 1, .int .i64 1048576, .int .i64 p, .int .i64 8, .int .i64 0, .int .i64 1024, .int .i64 l, .int .i64 16, .int .i64 1, .int .i64 1048576]) = A at *
  go_enter Try.func62, Try.ntmps62
  go_upto_region 1 with fail
  generalize w.alloc (.cells #[.int .i64 s, .int .i64 i, .int .i64 g, .int .i64 m, .int .i64 x, .int .i64 y, .int .i64 vx, .int .i64 vy, .int .i64 h, .int .i64 p, .int .i64 l] 36) = w1 at *
  go_wp2_with (go_at_call 65; with_reducible refine (NB.out _).mono ?_; rintro e w2 ⟨rfl, hb2⟩; replace BB := Lib.hid hb2; clear hb2 k0 k1 k2 k3 k4 k5 k6 k7 k8 k9 k10)
  go_loopw [7] (fun ix wr => ∃ k : Nat, k ≤ 7 ∧ ix = .int .i64 k ∧ Hid (Below w1.heap.size w1 wr) ∧ Hid (res = restB ⟨s, i, g, m, x, y, vx, vy, h, p, l⟩ k)) (fun ix _ => 7 - (intOf ix).toNat)
  case atStart => exact ⟨0, by omega, rfl, BB, RG⟩
  case round =>
    obtain ⟨k, hk, rfl, HR, HQ⟩ := hrel
    clear BB RG NB
    have : k = 0 ∨ k = 1 ∨ k = 2 ∨ k = 3 ∨ k = 4 ∨ k = 5 ∨ k = 6 ∨ k = 7 := by omega
    clear hk
    rcases this with rfl | rfl | rfl | rfl | rfl | rfl | rfl | rfl
    · have A1 : ∀ V, Calls Try.prog 58 #[.agg #[.int .i64 s, .int .i64 i, .int .i64 g, .int .i64 m, .int .i64 x, .int .i64 y, .int .i64 vx, .int .i64 vy, .int .i64 h, .int .i64 p, .int .i64 l], .int .i64 1] V fun e w' => e = .returned (.bool (bitB m 0)) ∧ Below V.heap.size V w' := HS.out 0 (by decide)
      have A2 := fun V => number_any x 1 (-1073741824) 1073741824 (bitB m 0) V
      have Q := HQ.out.trans RS0.out
      try simp only at Q
      generalize bitB m 0 = tb at *
      generalize hin : inB x (-1073741824) 1073741824 tb = rb at *
      replace A1 := Lib.hid A1
      replace A2 := Lib.hid A2
      replace Q := Lib.hid Q
      clear HS RS0 RS1 RS2 RS3 RS4 RS5 RS6 HQ hin
      have IX := IX0.out
      clear IX0 IX1 IX2 IX3 IX4 IX5 IX6
      have CQ : Hid (∀ W, Below (wr.alloc (.cells #[.int .i64 x, .int .i64 1, .int .i64 (-1073741824), .int .i64 1073741824] 102)).heap.size (wr.alloc (.cells #[.int .i64 x, .int .i64 1, .int .i64 (-1073741824), .int .i64 1073741824] 102)) W → ((W.cell? ⟨w.heap.size, 0, none⟩ = some (.int .i64 s) ∧ W.cell? ⟨w.heap.size, 1, none⟩ = some (.int .i64 i) ∧ W.cell? ⟨w.heap.size, 2, none⟩ = some (.int .i64 g) ∧ W.cell? ⟨w.heap.size, 3, none⟩ = some (.int .i64 m) ∧ W.cell? ⟨w.heap.size, 4, none⟩ = some (.int .i64 x) ∧ W.cell? ⟨w.heap.size, 5, none⟩ = some (.int .i64 y) ∧ W.cell? ⟨w.heap.size, 6, none⟩ = some (.int .i64 vx) ∧ W.cell? ⟨w.heap.size, 7, none⟩ = some (.int .i64 vy) ∧ W.cell? ⟨w.heap.size, 8, none⟩ = some (.int .i64 h) ∧ W.cell? ⟨w.heap.size, 9, none⟩ = some (.int .i64 p) ∧ W.cell? ⟨w.heap.size, 10, none⟩ = some (.int .i64 l)) ∧ (W.cell? ⟨wr.heap.size, 0, none⟩ = some (.int .i64 x) ∧ W.cell? ⟨wr.heap.size, 1, none⟩ = some (.int .i64 1) ∧ W.cell? ⟨wr.heap.size, 2, none⟩ = some (.int .i64 (-1073741824)) ∧ W.cell? ⟨wr.heap.size, 3, none⟩ = some (.int .i64 1073741824))) ∧ Below w1.heap.size w1 W ∧ Below w.heap.size w W) := Lib.hid fun W hW => by
        have h1 : Below w1.heap.size w1 W := (HR.out.trans ((bel1 wr (.cells #[.int .i64 x, .int .i64 1, .int .i64 (-1073741824), .int .i64 1073741824] 102)).mono HR.out.size)).trans (hW.mono (by rw [size1]; have := HR.out.size; omega))
        exact ⟨⟨(CE.out W h1).1, (box4 ((hW.block _ (by rw [size1]; omega)).trans (at1 wr (.cells #[.int .i64 x, .int .i64 1, .int .i64 (-1073741824), .int .i64 1073741824] 102)))).1⟩, h1, (CE.out W h1).2⟩
      go_upto_region 4 with fail
      generalize wr.alloc (.cells #[.int .i64 x, .int .i64 1, .int .i64 (-1073741824), .int .i64 1073741824] 102) = wq at *
      have PC := fun p : Lat grows wq => (CQ.out p.W p.h).1
      obtain ⟨p0, p1⟩ : (∀ p : Lat grows wq, _) ∧ (∀ p : Lat grows wq, _) := ⟨fun p => (PC p).1, fun p => (PC p).2⟩
      have g0 := fun p => (p0 p).1
      have g1 := fun p => (p0 p).2.1
      have g2 := fun p => (p0 p).2.2.1
      have g3 := fun p => (p0 p).2.2.2.1
      have g4 := fun p => (p0 p).2.2.2.2.1
      have g5 := fun p => (p0 p).2.2.2.2.2.1
      have g6 := fun p => (p0 p).2.2.2.2.2.2.1
      have g7 := fun p => (p0 p).2.2.2.2.2.2.2.1
      have g8 := fun p => (p0 p).2.2.2.2.2.2.2.2.1
      have g9 := fun p => (p0 p).2.2.2.2.2.2.2.2.2.1
      have g10 := fun p => (p0 p).2.2.2.2.2.2.2.2.2.2
      have n0 := fun p => (p1 p).1
      have n1 := fun p => (p1 p).2.1
      have n2 := fun p => (p1 p).2.2.1
      have n3 := fun p => (p1 p).2.2.2
      clear PC p0 p1
      refine Og.grow 7 (by kernel_rfl) (by kernel_rfl) fun hc hf => ?_
      clear hc hf
      simp only [List.take_succ_cons, List.take_zero, List.drop_succ_cons, List.drop_zero]
      iterate 4 (refine Og.det [] rfl (fun J hJ => ?_); go_simp; refine hJ _ _ ?_; clear hJ J)
      refine Og.det [] rfl (fun J hJ => ?_)
      go_simp
      with_reducible refine ⟨_, fun p => Og.lays (A1.out p.W), hJ _ _ ?_⟩
      clear hJ J
      refine Og.det [] rfl (fun J hJ => ?_)
      go_simp
      with_reducible refine ⟨_, fun p => Og.lays (A2.out p.W), hJ _ _ ?_⟩
      clear hJ J
      (refine Og.det [] rfl (fun J hJ => ?_); go_simp; refine hJ _ _ ?_; clear hJ J)
      refine Og.fin fun W hW => ?_
      simp only [Og.opened_nil]
      obtain ⟨⟨⟨k0, k1, k2, k3, k4, k5, k6, k7, k8, k9, k10⟩, _⟩, NB1, NB2⟩ := CQ.out W hW
      replace NB1 := Lib.hid NB1
      replace NB2 := Lib.hid NB2
      clear g0  g1  g2  g3  g4  g5  g6  g7  g8  g9  g10 n0 n1 n2 n3 hW CQ A1 A2 IX CE HR WI
      cases rb with
      | true =>
        have Q2 : Hid (res = restB ⟨s, i, g, m, x, y, vx, vy, h, p, l⟩ 1) := Lib.hid (by rw [Q.out, Bool.true_and])
        clear Q
        go_wp2
        go_roundw
        case rel => exact ⟨1, by omega, rfl, NB1, Q2⟩
        case measure => simp [intOf]
      | false =>
        have Q2 : Hid (res = false) := Lib.hid (by rw [Q.out, Bool.false_and])
        clear Q
        go_wp2
        go_ret
        rw [Q2.out]
        exact ⟨rfl, NB2.out⟩
    · have A1 : ∀ V, Calls Try.prog 58 #[.agg #[.int .i64 s, .int .i64 i, .int .i64 g, .int .i64 m, .int .i64 x, .int .i64 y, .int .i64 vx, .int .i64 vy, .int .i64 h, .int .i64 p, .int .i64 l], .int .i64 1] V fun e w' => e = .returned (.bool (bitB m 0)) ∧ Below V.heap.size V w' := HS.out 0 (by decide)
      have A2 := fun V => number_any y 1 (-1073741824) 1073741824 (bitB m 0) V
      have Q := HQ.out.trans RS1.out
      try simp only at Q
      generalize bitB m 0 = tb at *
      generalize hin : inB y (-1073741824) 1073741824 tb = rb at *
      replace A1 := Lib.hid A1
      replace A2 := Lib.hid A2
      replace Q := Lib.hid Q
      clear HS RS0 RS1 RS2 RS3 RS4 RS5 RS6 HQ hin
      have IX := IX1.out
      clear IX0 IX1 IX2 IX3 IX4 IX5 IX6
      have CQ : Hid (∀ W, Below (wr.alloc (.cells #[.int .i64 y, .int .i64 1, .int .i64 (-1073741824), .int .i64 1073741824] 102)).heap.size (wr.alloc (.cells #[.int .i64 y, .int .i64 1, .int .i64 (-1073741824), .int .i64 1073741824] 102)) W → ((W.cell? ⟨w.heap.size, 0, none⟩ = some (.int .i64 s) ∧ W.cell? ⟨w.heap.size, 1, none⟩ = some (.int .i64 i) ∧ W.cell? ⟨w.heap.size, 2, none⟩ = some (.int .i64 g) ∧ W.cell? ⟨w.heap.size, 3, none⟩ = some (.int .i64 m) ∧ W.cell? ⟨w.heap.size, 4, none⟩ = some (.int .i64 x) ∧ W.cell? ⟨w.heap.size, 5, none⟩ = some (.int .i64 y) ∧ W.cell? ⟨w.heap.size, 6, none⟩ = some (.int .i64 vx) ∧ W.cell? ⟨w.heap.size, 7, none⟩ = some (.int .i64 vy) ∧ W.cell? ⟨w.heap.size, 8, none⟩ = some (.int .i64 h) ∧ W.cell? ⟨w.heap.size, 9, none⟩ = some (.int .i64 p) ∧ W.cell? ⟨w.heap.size, 10, none⟩ = some (.int .i64 l)) ∧ (W.cell? ⟨wr.heap.size, 0, none⟩ = some (.int .i64 y) ∧ W.cell? ⟨wr.heap.size, 1, none⟩ = some (.int .i64 1) ∧ W.cell? ⟨wr.heap.size, 2, none⟩ = some (.int .i64 (-1073741824)) ∧ W.cell? ⟨wr.heap.size, 3, none⟩ = some (.int .i64 1073741824))) ∧ Below w1.heap.size w1 W ∧ Below w.heap.size w W) := Lib.hid fun W hW => by
        have h1 : Below w1.heap.size w1 W := (HR.out.trans ((bel1 wr (.cells #[.int .i64 y, .int .i64 1, .int .i64 (-1073741824), .int .i64 1073741824] 102)).mono HR.out.size)).trans (hW.mono (by rw [size1]; have := HR.out.size; omega))
        exact ⟨⟨(CE.out W h1).1, (box4 ((hW.block _ (by rw [size1]; omega)).trans (at1 wr (.cells #[.int .i64 y, .int .i64 1, .int .i64 (-1073741824), .int .i64 1073741824] 102)))).1⟩, h1, (CE.out W h1).2⟩
      go_upto_region 4 with fail
      generalize wr.alloc (.cells #[.int .i64 y, .int .i64 1, .int .i64 (-1073741824), .int .i64 1073741824] 102) = wq at *
      have PC := fun p : Lat grows wq => (CQ.out p.W p.h).1
      obtain ⟨p0, p1⟩ : (∀ p : Lat grows wq, _) ∧ (∀ p : Lat grows wq, _) := ⟨fun p => (PC p).1, fun p => (PC p).2⟩
      have g0 := fun p => (p0 p).1
      have g1 := fun p => (p0 p).2.1
      have g2 := fun p => (p0 p).2.2.1
      have g3 := fun p => (p0 p).2.2.2.1
      have g4 := fun p => (p0 p).2.2.2.2.1
      have g5 := fun p => (p0 p).2.2.2.2.2.1
      have g6 := fun p => (p0 p).2.2.2.2.2.2.1
      have g7 := fun p => (p0 p).2.2.2.2.2.2.2.1
      have g8 := fun p => (p0 p).2.2.2.2.2.2.2.2.1
      have g9 := fun p => (p0 p).2.2.2.2.2.2.2.2.2.1
      have g10 := fun p => (p0 p).2.2.2.2.2.2.2.2.2.2
      have n0 := fun p => (p1 p).1
      have n1 := fun p => (p1 p).2.1
      have n2 := fun p => (p1 p).2.2.1
      have n3 := fun p => (p1 p).2.2.2
      clear PC p0 p1
      refine Og.grow 7 (by kernel_rfl) (by kernel_rfl) fun hc hf => ?_
      clear hc hf
      simp only [List.take_succ_cons, List.take_zero, List.drop_succ_cons, List.drop_zero]
      iterate 4 (refine Og.det [] rfl (fun J hJ => ?_); go_simp; refine hJ _ _ ?_; clear hJ J)
      refine Og.det [] rfl (fun J hJ => ?_)
      go_simp
      with_reducible refine ⟨_, fun p => Og.lays (A1.out p.W), hJ _ _ ?_⟩
      clear hJ J
      refine Og.det [] rfl (fun J hJ => ?_)
      go_simp
      with_reducible refine ⟨_, fun p => Og.lays (A2.out p.W), hJ _ _ ?_⟩
      clear hJ J
      (refine Og.det [] rfl (fun J hJ => ?_); go_simp; refine hJ _ _ ?_; clear hJ J)
      refine Og.fin fun W hW => ?_
      simp only [Og.opened_nil]
      obtain ⟨⟨⟨k0, k1, k2, k3, k4, k5, k6, k7, k8, k9, k10⟩, _⟩, NB1, NB2⟩ := CQ.out W hW
      replace NB1 := Lib.hid NB1
      replace NB2 := Lib.hid NB2
      clear g0  g1  g2  g3  g4  g5  g6  g7  g8  g9  g10 n0 n1 n2 n3 hW CQ A1 A2 IX CE HR WI
      cases rb with
      | true =>
        have Q2 : Hid (res = restB ⟨s, i, g, m, x, y, vx, vy, h, p, l⟩ 2) := Lib.hid (by rw [Q.out, Bool.true_and])
        clear Q
        go_wp2
        go_roundw
        case rel => exact ⟨2, by omega, rfl, NB1, Q2⟩
        case measure => simp [intOf]
      | false =>
        have Q2 : Hid (res = false) := Lib.hid (by rw [Q.out, Bool.false_and])
        clear Q
        go_wp2
        go_ret
        rw [Q2.out]
        exact ⟨rfl, NB2.out⟩
    · have A1 : ∀ V, Calls Try.prog 58 #[.agg #[.int .i64 s, .int .i64 i, .int .i64 g, .int .i64 m, .int .i64 x, .int .i64 y, .int .i64 vx, .int .i64 vy, .int .i64 h, .int .i64 p, .int .i64 l], .int .i64 2] V fun e w' => e = .returned (.bool (bitB m 1)) ∧ Below V.heap.size V w' := HS.out 1 (by decide)
      have A2 := fun V => number_any vx 2 (-1073741824) 1073741824 (bitB m 1) V
      have Q := HQ.out.trans RS2.out
      try simp only at Q
      generalize bitB m 1 = tb at *
      generalize hin : inB vx (-1073741824) 1073741824 tb = rb at *
      replace A1 := Lib.hid A1
      replace A2 := Lib.hid A2
      replace Q := Lib.hid Q
      clear HS RS0 RS1 RS2 RS3 RS4 RS5 RS6 HQ hin
      have IX := IX2.out
      clear IX0 IX1 IX2 IX3 IX4 IX5 IX6
      have CQ : Hid (∀ W, Below (wr.alloc (.cells #[.int .i64 vx, .int .i64 2, .int .i64 (-1073741824), .int .i64 1073741824] 102)).heap.size (wr.alloc (.cells #[.int .i64 vx, .int .i64 2, .int .i64 (-1073741824), .int .i64 1073741824] 102)) W → ((W.cell? ⟨w.heap.size, 0, none⟩ = some (.int .i64 s) ∧ W.cell? ⟨w.heap.size, 1, none⟩ = some (.int .i64 i) ∧ W.cell? ⟨w.heap.size, 2, none⟩ = some (.int .i64 g) ∧ W.cell? ⟨w.heap.size, 3, none⟩ = some (.int .i64 m) ∧ W.cell? ⟨w.heap.size, 4, none⟩ = some (.int .i64 x) ∧ W.cell? ⟨w.heap.size, 5, none⟩ = some (.int .i64 y) ∧ W.cell? ⟨w.heap.size, 6, none⟩ = some (.int .i64 vx) ∧ W.cell? ⟨w.heap.size, 7, none⟩ = some (.int .i64 vy) ∧ W.cell? ⟨w.heap.size, 8, none⟩ = some (.int .i64 h) ∧ W.cell? ⟨w.heap.size, 9, none⟩ = some (.int .i64 p) ∧ W.cell? ⟨w.heap.size, 10, none⟩ = some (.int .i64 l)) ∧ (W.cell? ⟨wr.heap.size, 0, none⟩ = some (.int .i64 vx) ∧ W.cell? ⟨wr.heap.size, 1, none⟩ = some (.int .i64 2) ∧ W.cell? ⟨wr.heap.size, 2, none⟩ = some (.int .i64 (-1073741824)) ∧ W.cell? ⟨wr.heap.size, 3, none⟩ = some (.int .i64 1073741824))) ∧ Below w1.heap.size w1 W ∧ Below w.heap.size w W) := Lib.hid fun W hW => by
        have h1 : Below w1.heap.size w1 W := (HR.out.trans ((bel1 wr (.cells #[.int .i64 vx, .int .i64 2, .int .i64 (-1073741824), .int .i64 1073741824] 102)).mono HR.out.size)).trans (hW.mono (by rw [size1]; have := HR.out.size; omega))
        exact ⟨⟨(CE.out W h1).1, (box4 ((hW.block _ (by rw [size1]; omega)).trans (at1 wr (.cells #[.int .i64 vx, .int .i64 2, .int .i64 (-1073741824), .int .i64 1073741824] 102)))).1⟩, h1, (CE.out W h1).2⟩
      go_upto_region 4 with fail
      generalize wr.alloc (.cells #[.int .i64 vx, .int .i64 2, .int .i64 (-1073741824), .int .i64 1073741824] 102) = wq at *
      have PC := fun p : Lat grows wq => (CQ.out p.W p.h).1
      obtain ⟨p0, p1⟩ : (∀ p : Lat grows wq, _) ∧ (∀ p : Lat grows wq, _) := ⟨fun p => (PC p).1, fun p => (PC p).2⟩
      have g0 := fun p => (p0 p).1
      have g1 := fun p => (p0 p).2.1
      have g2 := fun p => (p0 p).2.2.1
      have g3 := fun p => (p0 p).2.2.2.1
      have g4 := fun p => (p0 p).2.2.2.2.1
      have g5 := fun p => (p0 p).2.2.2.2.2.1
      have g6 := fun p => (p0 p).2.2.2.2.2.2.1
      have g7 := fun p => (p0 p).2.2.2.2.2.2.2.1
      have g8 := fun p => (p0 p).2.2.2.2.2.2.2.2.1
      have g9 := fun p => (p0 p).2.2.2.2.2.2.2.2.2.1
      have g10 := fun p => (p0 p).2.2.2.2.2.2.2.2.2.2
      have n0 := fun p => (p1 p).1
      have n1 := fun p => (p1 p).2.1
      have n2 := fun p => (p1 p).2.2.1
      have n3 := fun p => (p1 p).2.2.2
      clear PC p0 p1
      refine Og.grow 7 (by kernel_rfl) (by kernel_rfl) fun hc hf => ?_
      clear hc hf
      simp only [List.take_succ_cons, List.take_zero, List.drop_succ_cons, List.drop_zero]
      iterate 4 (refine Og.det [] rfl (fun J hJ => ?_); go_simp; refine hJ _ _ ?_; clear hJ J)
      refine Og.det [] rfl (fun J hJ => ?_)
      go_simp
      with_reducible refine ⟨_, fun p => Og.lays (A1.out p.W), hJ _ _ ?_⟩
      clear hJ J
      refine Og.det [] rfl (fun J hJ => ?_)
      go_simp
      with_reducible refine ⟨_, fun p => Og.lays (A2.out p.W), hJ _ _ ?_⟩
      clear hJ J
      (refine Og.det [] rfl (fun J hJ => ?_); go_simp; refine hJ _ _ ?_; clear hJ J)
      refine Og.fin fun W hW => ?_
      simp only [Og.opened_nil]
      obtain ⟨⟨⟨k0, k1, k2, k3, k4, k5, k6, k7, k8, k9, k10⟩, _⟩, NB1, NB2⟩ := CQ.out W hW
      replace NB1 := Lib.hid NB1
      replace NB2 := Lib.hid NB2
      clear g0  g1  g2  g3  g4  g5  g6  g7  g8  g9  g10 n0 n1 n2 n3 hW CQ A1 A2 IX CE HR WI
      cases rb with
      | true =>
        have Q2 : Hid (res = restB ⟨s, i, g, m, x, y, vx, vy, h, p, l⟩ 3) := Lib.hid (by rw [Q.out, Bool.true_and])
        clear Q
        go_wp2
        go_roundw
        case rel => exact ⟨3, by omega, rfl, NB1, Q2⟩
        case measure => simp [intOf]
      | false =>
        have Q2 : Hid (res = false) := Lib.hid (by rw [Q.out, Bool.false_and])
        clear Q
        go_wp2
        go_ret
        rw [Q2.out]
        exact ⟨rfl, NB2.out⟩
    · have A1 : ∀ V, Calls Try.prog 58 #[.agg #[.int .i64 s, .int .i64 i, .int .i64 g, .int .i64 m, .int .i64 x, .int .i64 y, .int .i64 vx, .int .i64 vy, .int .i64 h, .int .i64 p, .int .i64 l], .int .i64 2] V fun e w' => e = .returned (.bool (bitB m 1)) ∧ Below V.heap.size V w' := HS.out 1 (by decide)
      have A2 := fun V => number_any vy 2 (-1073741824) 1073741824 (bitB m 1) V
      have Q := HQ.out.trans RS3.out
      try simp only at Q
      generalize bitB m 1 = tb at *
      generalize hin : inB vy (-1073741824) 1073741824 tb = rb at *
      replace A1 := Lib.hid A1
      replace A2 := Lib.hid A2
      replace Q := Lib.hid Q
      clear HS RS0 RS1 RS2 RS3 RS4 RS5 RS6 HQ hin
      have IX := IX3.out
      clear IX0 IX1 IX2 IX3 IX4 IX5 IX6
      have CQ : Hid (∀ W, Below (wr.alloc (.cells #[.int .i64 vy, .int .i64 2, .int .i64 (-1073741824), .int .i64 1073741824] 102)).heap.size (wr.alloc (.cells #[.int .i64 vy, .int .i64 2, .int .i64 (-1073741824), .int .i64 1073741824] 102)) W → ((W.cell? ⟨w.heap.size, 0, none⟩ = some (.int .i64 s) ∧ W.cell? ⟨w.heap.size, 1, none⟩ = some (.int .i64 i) ∧ W.cell? ⟨w.heap.size, 2, none⟩ = some (.int .i64 g) ∧ W.cell? ⟨w.heap.size, 3, none⟩ = some (.int .i64 m) ∧ W.cell? ⟨w.heap.size, 4, none⟩ = some (.int .i64 x) ∧ W.cell? ⟨w.heap.size, 5, none⟩ = some (.int .i64 y) ∧ W.cell? ⟨w.heap.size, 6, none⟩ = some (.int .i64 vx) ∧ W.cell? ⟨w.heap.size, 7, none⟩ = some (.int .i64 vy) ∧ W.cell? ⟨w.heap.size, 8, none⟩ = some (.int .i64 h) ∧ W.cell? ⟨w.heap.size, 9, none⟩ = some (.int .i64 p) ∧ W.cell? ⟨w.heap.size, 10, none⟩ = some (.int .i64 l)) ∧ (W.cell? ⟨wr.heap.size, 0, none⟩ = some (.int .i64 vy) ∧ W.cell? ⟨wr.heap.size, 1, none⟩ = some (.int .i64 2) ∧ W.cell? ⟨wr.heap.size, 2, none⟩ = some (.int .i64 (-1073741824)) ∧ W.cell? ⟨wr.heap.size, 3, none⟩ = some (.int .i64 1073741824))) ∧ Below w1.heap.size w1 W ∧ Below w.heap.size w W) := Lib.hid fun W hW => by
        have h1 : Below w1.heap.size w1 W := (HR.out.trans ((bel1 wr (.cells #[.int .i64 vy, .int .i64 2, .int .i64 (-1073741824), .int .i64 1073741824] 102)).mono HR.out.size)).trans (hW.mono (by rw [size1]; have := HR.out.size; omega))
        exact ⟨⟨(CE.out W h1).1, (box4 ((hW.block _ (by rw [size1]; omega)).trans (at1 wr (.cells #[.int .i64 vy, .int .i64 2, .int .i64 (-1073741824), .int .i64 1073741824] 102)))).1⟩, h1, (CE.out W h1).2⟩
      go_upto_region 4 with fail
      generalize wr.alloc (.cells #[.int .i64 vy, .int .i64 2, .int .i64 (-1073741824), .int .i64 1073741824] 102) = wq at *
      have PC := fun p : Lat grows wq => (CQ.out p.W p.h).1
      obtain ⟨p0, p1⟩ : (∀ p : Lat grows wq, _) ∧ (∀ p : Lat grows wq, _) := ⟨fun p => (PC p).1, fun p => (PC p).2⟩
      have g0 := fun p => (p0 p).1
      have g1 := fun p => (p0 p).2.1
      have g2 := fun p => (p0 p).2.2.1
      have g3 := fun p => (p0 p).2.2.2.1
      have g4 := fun p => (p0 p).2.2.2.2.1
      have g5 := fun p => (p0 p).2.2.2.2.2.1
      have g6 := fun p => (p0 p).2.2.2.2.2.2.1
      have g7 := fun p => (p0 p).2.2.2.2.2.2.2.1
      have g8 := fun p => (p0 p).2.2.2.2.2.2.2.2.1
      have g9 := fun p => (p0 p).2.2.2.2.2.2.2.2.2.1
      have g10 := fun p => (p0 p).2.2.2.2.2.2.2.2.2.2
      have n0 := fun p => (p1 p).1
      have n1 := fun p => (p1 p).2.1
      have n2 := fun p => (p1 p).2.2.1
      have n3 := fun p => (p1 p).2.2.2
      clear PC p0 p1
      refine Og.grow 7 (by kernel_rfl) (by kernel_rfl) fun hc hf => ?_
      clear hc hf
      simp only [List.take_succ_cons, List.take_zero, List.drop_succ_cons, List.drop_zero]
      iterate 4 (refine Og.det [] rfl (fun J hJ => ?_); go_simp; refine hJ _ _ ?_; clear hJ J)
      refine Og.det [] rfl (fun J hJ => ?_)
      go_simp
      with_reducible refine ⟨_, fun p => Og.lays (A1.out p.W), hJ _ _ ?_⟩
      clear hJ J
      refine Og.det [] rfl (fun J hJ => ?_)
      go_simp
      with_reducible refine ⟨_, fun p => Og.lays (A2.out p.W), hJ _ _ ?_⟩
      clear hJ J
      (refine Og.det [] rfl (fun J hJ => ?_); go_simp; refine hJ _ _ ?_; clear hJ J)
      refine Og.fin fun W hW => ?_
      simp only [Og.opened_nil]
      obtain ⟨⟨⟨k0, k1, k2, k3, k4, k5, k6, k7, k8, k9, k10⟩, _⟩, NB1, NB2⟩ := CQ.out W hW
      replace NB1 := Lib.hid NB1
      replace NB2 := Lib.hid NB2
      clear g0  g1  g2  g3  g4  g5  g6  g7  g8  g9  g10 n0 n1 n2 n3 hW CQ A1 A2 IX CE HR WI
      cases rb with
      | true =>
        have Q2 : Hid (res = restB ⟨s, i, g, m, x, y, vx, vy, h, p, l⟩ 4) := Lib.hid (by rw [Q.out, Bool.true_and])
        clear Q
        go_wp2
        go_roundw
        case rel => exact ⟨4, by omega, rfl, NB1, Q2⟩
        case measure => simp [intOf]
      | false =>
        have Q2 : Hid (res = false) := Lib.hid (by rw [Q.out, Bool.false_and])
        clear Q
        go_wp2
        go_ret
        rw [Q2.out]
        exact ⟨rfl, NB2.out⟩
    · have A1 : ∀ V, Calls Try.prog 58 #[.agg #[.int .i64 s, .int .i64 i, .int .i64 g, .int .i64 m, .int .i64 x, .int .i64 y, .int .i64 vx, .int .i64 vy, .int .i64 h, .int .i64 p, .int .i64 l], .int .i64 4] V fun e w' => e = .returned (.bool (bitB m 2)) ∧ Below V.heap.size V w' := HS.out 2 (by decide)
      have A2 := fun V => number_any h 4 1 1048576 (bitB m 2) V
      have Q := HQ.out.trans RS4.out
      try simp only at Q
      generalize bitB m 2 = tb at *
      generalize hin : inB h 1 1048576 tb = rb at *
      replace A1 := Lib.hid A1
      replace A2 := Lib.hid A2
      replace Q := Lib.hid Q
      clear HS RS0 RS1 RS2 RS3 RS4 RS5 RS6 HQ hin
      have IX := IX4.out
      clear IX0 IX1 IX2 IX3 IX4 IX5 IX6
      have CQ : Hid (∀ W, Below (wr.alloc (.cells #[.int .i64 h, .int .i64 4, .int .i64 1, .int .i64 1048576] 102)).heap.size (wr.alloc (.cells #[.int .i64 h, .int .i64 4, .int .i64 1, .int .i64 1048576] 102)) W → ((W.cell? ⟨w.heap.size, 0, none⟩ = some (.int .i64 s) ∧ W.cell? ⟨w.heap.size, 1, none⟩ = some (.int .i64 i) ∧ W.cell? ⟨w.heap.size, 2, none⟩ = some (.int .i64 g) ∧ W.cell? ⟨w.heap.size, 3, none⟩ = some (.int .i64 m) ∧ W.cell? ⟨w.heap.size, 4, none⟩ = some (.int .i64 x) ∧ W.cell? ⟨w.heap.size, 5, none⟩ = some (.int .i64 y) ∧ W.cell? ⟨w.heap.size, 6, none⟩ = some (.int .i64 vx) ∧ W.cell? ⟨w.heap.size, 7, none⟩ = some (.int .i64 vy) ∧ W.cell? ⟨w.heap.size, 8, none⟩ = some (.int .i64 h) ∧ W.cell? ⟨w.heap.size, 9, none⟩ = some (.int .i64 p) ∧ W.cell? ⟨w.heap.size, 10, none⟩ = some (.int .i64 l)) ∧ (W.cell? ⟨wr.heap.size, 0, none⟩ = some (.int .i64 h) ∧ W.cell? ⟨wr.heap.size, 1, none⟩ = some (.int .i64 4) ∧ W.cell? ⟨wr.heap.size, 2, none⟩ = some (.int .i64 1) ∧ W.cell? ⟨wr.heap.size, 3, none⟩ = some (.int .i64 1048576))) ∧ Below w1.heap.size w1 W ∧ Below w.heap.size w W) := Lib.hid fun W hW => by
        have h1 : Below w1.heap.size w1 W := (HR.out.trans ((bel1 wr (.cells #[.int .i64 h, .int .i64 4, .int .i64 1, .int .i64 1048576] 102)).mono HR.out.size)).trans (hW.mono (by rw [size1]; have := HR.out.size; omega))
        exact ⟨⟨(CE.out W h1).1, (box4 ((hW.block _ (by rw [size1]; omega)).trans (at1 wr (.cells #[.int .i64 h, .int .i64 4, .int .i64 1, .int .i64 1048576] 102)))).1⟩, h1, (CE.out W h1).2⟩
      go_upto_region 4 with fail
      generalize wr.alloc (.cells #[.int .i64 h, .int .i64 4, .int .i64 1, .int .i64 1048576] 102) = wq at *
      have PC := fun p : Lat grows wq => (CQ.out p.W p.h).1
      obtain ⟨p0, p1⟩ : (∀ p : Lat grows wq, _) ∧ (∀ p : Lat grows wq, _) := ⟨fun p => (PC p).1, fun p => (PC p).2⟩
      have g0 := fun p => (p0 p).1
      have g1 := fun p => (p0 p).2.1
      have g2 := fun p => (p0 p).2.2.1
      have g3 := fun p => (p0 p).2.2.2.1
      have g4 := fun p => (p0 p).2.2.2.2.1
      have g5 := fun p => (p0 p).2.2.2.2.2.1
      have g6 := fun p => (p0 p).2.2.2.2.2.2.1
      have g7 := fun p => (p0 p).2.2.2.2.2.2.2.1
      have g8 := fun p => (p0 p).2.2.2.2.2.2.2.2.1
      have g9 := fun p => (p0 p).2.2.2.2.2.2.2.2.2.1
      have g10 := fun p => (p0 p).2.2.2.2.2.2.2.2.2.2
      have n0 := fun p => (p1 p).1
      have n1 := fun p => (p1 p).2.1
      have n2 := fun p => (p1 p).2.2.1
      have n3 := fun p => (p1 p).2.2.2
      clear PC p0 p1
      refine Og.grow 7 (by kernel_rfl) (by kernel_rfl) fun hc hf => ?_
      clear hc hf
      simp only [List.take_succ_cons, List.take_zero, List.drop_succ_cons, List.drop_zero]
      iterate 4 (refine Og.det [] rfl (fun J hJ => ?_); go_simp; refine hJ _ _ ?_; clear hJ J)
      refine Og.det [] rfl (fun J hJ => ?_)
      go_simp
      with_reducible refine ⟨_, fun p => Og.lays (A1.out p.W), hJ _ _ ?_⟩
      clear hJ J
      refine Og.det [] rfl (fun J hJ => ?_)
      go_simp
      with_reducible refine ⟨_, fun p => Og.lays (A2.out p.W), hJ _ _ ?_⟩
      clear hJ J
      (refine Og.det [] rfl (fun J hJ => ?_); go_simp; refine hJ _ _ ?_; clear hJ J)
      refine Og.fin fun W hW => ?_
      simp only [Og.opened_nil]
      obtain ⟨⟨⟨k0, k1, k2, k3, k4, k5, k6, k7, k8, k9, k10⟩, _⟩, NB1, NB2⟩ := CQ.out W hW
      replace NB1 := Lib.hid NB1
      replace NB2 := Lib.hid NB2
      clear g0  g1  g2  g3  g4  g5  g6  g7  g8  g9  g10 n0 n1 n2 n3 hW CQ A1 A2 IX CE HR WI
      cases rb with
      | true =>
        have Q2 : Hid (res = restB ⟨s, i, g, m, x, y, vx, vy, h, p, l⟩ 5) := Lib.hid (by rw [Q.out, Bool.true_and])
        clear Q
        go_wp2
        go_roundw
        case rel => exact ⟨5, by omega, rfl, NB1, Q2⟩
        case measure => simp [intOf]
      | false =>
        have Q2 : Hid (res = false) := Lib.hid (by rw [Q.out, Bool.false_and])
        clear Q
        go_wp2
        go_ret
        rw [Q2.out]
        exact ⟨rfl, NB2.out⟩
    · have A1 : ∀ V, Calls Try.prog 58 #[.agg #[.int .i64 s, .int .i64 i, .int .i64 g, .int .i64 m, .int .i64 x, .int .i64 y, .int .i64 vx, .int .i64 vy, .int .i64 h, .int .i64 p, .int .i64 l], .int .i64 8] V fun e w' => e = .returned (.bool (bitB m 3)) ∧ Below V.heap.size V w' := HS.out 3 (by decide)
      have A2 := fun V => number_any p 8 0 1024 (bitB m 3) V
      have Q := HQ.out.trans RS5.out
      try simp only at Q
      generalize bitB m 3 = tb at *
      generalize hin : inB p 0 1024 tb = rb at *
      replace A1 := Lib.hid A1
      replace A2 := Lib.hid A2
      replace Q := Lib.hid Q
      clear HS RS0 RS1 RS2 RS3 RS4 RS5 RS6 HQ hin
      have IX := IX5.out
      clear IX0 IX1 IX2 IX3 IX4 IX5 IX6
      have CQ : Hid (∀ W, Below (wr.alloc (.cells #[.int .i64 p, .int .i64 8, .int .i64 0, .int .i64 1024] 102)).heap.size (wr.alloc (.cells #[.int .i64 p, .int .i64 8, .int .i64 0, .int .i64 1024] 102)) W → ((W.cell? ⟨w.heap.size, 0, none⟩ = some (.int .i64 s) ∧ W.cell? ⟨w.heap.size, 1, none⟩ = some (.int .i64 i) ∧ W.cell? ⟨w.heap.size, 2, none⟩ = some (.int .i64 g) ∧ W.cell? ⟨w.heap.size, 3, none⟩ = some (.int .i64 m) ∧ W.cell? ⟨w.heap.size, 4, none⟩ = some (.int .i64 x) ∧ W.cell? ⟨w.heap.size, 5, none⟩ = some (.int .i64 y) ∧ W.cell? ⟨w.heap.size, 6, none⟩ = some (.int .i64 vx) ∧ W.cell? ⟨w.heap.size, 7, none⟩ = some (.int .i64 vy) ∧ W.cell? ⟨w.heap.size, 8, none⟩ = some (.int .i64 h) ∧ W.cell? ⟨w.heap.size, 9, none⟩ = some (.int .i64 p) ∧ W.cell? ⟨w.heap.size, 10, none⟩ = some (.int .i64 l)) ∧ (W.cell? ⟨wr.heap.size, 0, none⟩ = some (.int .i64 p) ∧ W.cell? ⟨wr.heap.size, 1, none⟩ = some (.int .i64 8) ∧ W.cell? ⟨wr.heap.size, 2, none⟩ = some (.int .i64 0) ∧ W.cell? ⟨wr.heap.size, 3, none⟩ = some (.int .i64 1024))) ∧ Below w1.heap.size w1 W ∧ Below w.heap.size w W) := Lib.hid fun W hW => by
        have h1 : Below w1.heap.size w1 W := (HR.out.trans ((bel1 wr (.cells #[.int .i64 p, .int .i64 8, .int .i64 0, .int .i64 1024] 102)).mono HR.out.size)).trans (hW.mono (by rw [size1]; have := HR.out.size; omega))
        exact ⟨⟨(CE.out W h1).1, (box4 ((hW.block _ (by rw [size1]; omega)).trans (at1 wr (.cells #[.int .i64 p, .int .i64 8, .int .i64 0, .int .i64 1024] 102)))).1⟩, h1, (CE.out W h1).2⟩
      go_upto_region 4 with fail
      generalize wr.alloc (.cells #[.int .i64 p, .int .i64 8, .int .i64 0, .int .i64 1024] 102) = wq at *
      have PC := fun p : Lat grows wq => (CQ.out p.W p.h).1
      obtain ⟨p0, p1⟩ : (∀ p : Lat grows wq, _) ∧ (∀ p : Lat grows wq, _) := ⟨fun p => (PC p).1, fun p => (PC p).2⟩
      have g0 := fun p => (p0 p).1
      have g1 := fun p => (p0 p).2.1
      have g2 := fun p => (p0 p).2.2.1
      have g3 := fun p => (p0 p).2.2.2.1
      have g4 := fun p => (p0 p).2.2.2.2.1
      have g5 := fun p => (p0 p).2.2.2.2.2.1
      have g6 := fun p => (p0 p).2.2.2.2.2.2.1
      have g7 := fun p => (p0 p).2.2.2.2.2.2.2.1
      have g8 := fun p => (p0 p).2.2.2.2.2.2.2.2.1
      have g9 := fun p => (p0 p).2.2.2.2.2.2.2.2.2.1
      have g10 := fun p => (p0 p).2.2.2.2.2.2.2.2.2.2
      have n0 := fun p => (p1 p).1
      have n1 := fun p => (p1 p).2.1
      have n2 := fun p => (p1 p).2.2.1
      have n3 := fun p => (p1 p).2.2.2
      clear PC p0 p1
      refine Og.grow 7 (by kernel_rfl) (by kernel_rfl) fun hc hf => ?_
      clear hc hf
      simp only [List.take_succ_cons, List.take_zero, List.drop_succ_cons, List.drop_zero]
      iterate 4 (refine Og.det [] rfl (fun J hJ => ?_); go_simp; refine hJ _ _ ?_; clear hJ J)
      refine Og.det [] rfl (fun J hJ => ?_)
      go_simp
      with_reducible refine ⟨_, fun p => Og.lays (A1.out p.W), hJ _ _ ?_⟩
      clear hJ J
      refine Og.det [] rfl (fun J hJ => ?_)
      go_simp
      with_reducible refine ⟨_, fun p => Og.lays (A2.out p.W), hJ _ _ ?_⟩
      clear hJ J
      (refine Og.det [] rfl (fun J hJ => ?_); go_simp; refine hJ _ _ ?_; clear hJ J)
      refine Og.fin fun W hW => ?_
      simp only [Og.opened_nil]
      obtain ⟨⟨⟨k0, k1, k2, k3, k4, k5, k6, k7, k8, k9, k10⟩, _⟩, NB1, NB2⟩ := CQ.out W hW
      replace NB1 := Lib.hid NB1
      replace NB2 := Lib.hid NB2
      clear g0  g1  g2  g3  g4  g5  g6  g7  g8  g9  g10 n0 n1 n2 n3 hW CQ A1 A2 IX CE HR WI
      cases rb with
      | true =>
        have Q2 : Hid (res = restB ⟨s, i, g, m, x, y, vx, vy, h, p, l⟩ 6) := Lib.hid (by rw [Q.out, Bool.true_and])
        clear Q
        go_wp2
        go_roundw
        case rel => exact ⟨6, by omega, rfl, NB1, Q2⟩
        case measure => simp [intOf]
      | false =>
        have Q2 : Hid (res = false) := Lib.hid (by rw [Q.out, Bool.false_and])
        clear Q
        go_wp2
        go_ret
        rw [Q2.out]
        exact ⟨rfl, NB2.out⟩
    · have A1 : ∀ V, Calls Try.prog 58 #[.agg #[.int .i64 s, .int .i64 i, .int .i64 g, .int .i64 m, .int .i64 x, .int .i64 y, .int .i64 vx, .int .i64 vy, .int .i64 h, .int .i64 p, .int .i64 l], .int .i64 16] V fun e w' => e = .returned (.bool (bitB m 4)) ∧ Below V.heap.size V w' := HS.out 4 (by decide)
      have A2 := fun V => number_any l 16 1 1048576 (bitB m 4) V
      have Q := HQ.out.trans RS6.out
      try simp only at Q
      generalize bitB m 4 = tb at *
      generalize hin : inB l 1 1048576 tb = rb at *
      replace A1 := Lib.hid A1
      replace A2 := Lib.hid A2
      replace Q := Lib.hid Q
      clear HS RS0 RS1 RS2 RS3 RS4 RS5 RS6 HQ hin
      have IX := IX6.out
      clear IX0 IX1 IX2 IX3 IX4 IX5 IX6
      have CQ : Hid (∀ W, Below (wr.alloc (.cells #[.int .i64 l, .int .i64 16, .int .i64 1, .int .i64 1048576] 102)).heap.size (wr.alloc (.cells #[.int .i64 l, .int .i64 16, .int .i64 1, .int .i64 1048576] 102)) W → ((W.cell? ⟨w.heap.size, 0, none⟩ = some (.int .i64 s) ∧ W.cell? ⟨w.heap.size, 1, none⟩ = some (.int .i64 i) ∧ W.cell? ⟨w.heap.size, 2, none⟩ = some (.int .i64 g) ∧ W.cell? ⟨w.heap.size, 3, none⟩ = some (.int .i64 m) ∧ W.cell? ⟨w.heap.size, 4, none⟩ = some (.int .i64 x) ∧ W.cell? ⟨w.heap.size, 5, none⟩ = some (.int .i64 y) ∧ W.cell? ⟨w.heap.size, 6, none⟩ = some (.int .i64 vx) ∧ W.cell? ⟨w.heap.size, 7, none⟩ = some (.int .i64 vy) ∧ W.cell? ⟨w.heap.size, 8, none⟩ = some (.int .i64 h) ∧ W.cell? ⟨w.heap.size, 9, none⟩ = some (.int .i64 p) ∧ W.cell? ⟨w.heap.size, 10, none⟩ = some (.int .i64 l)) ∧ (W.cell? ⟨wr.heap.size, 0, none⟩ = some (.int .i64 l) ∧ W.cell? ⟨wr.heap.size, 1, none⟩ = some (.int .i64 16) ∧ W.cell? ⟨wr.heap.size, 2, none⟩ = some (.int .i64 1) ∧ W.cell? ⟨wr.heap.size, 3, none⟩ = some (.int .i64 1048576))) ∧ Below w1.heap.size w1 W ∧ Below w.heap.size w W) := Lib.hid fun W hW => by
        have h1 : Below w1.heap.size w1 W := (HR.out.trans ((bel1 wr (.cells #[.int .i64 l, .int .i64 16, .int .i64 1, .int .i64 1048576] 102)).mono HR.out.size)).trans (hW.mono (by rw [size1]; have := HR.out.size; omega))
        exact ⟨⟨(CE.out W h1).1, (box4 ((hW.block _ (by rw [size1]; omega)).trans (at1 wr (.cells #[.int .i64 l, .int .i64 16, .int .i64 1, .int .i64 1048576] 102)))).1⟩, h1, (CE.out W h1).2⟩
      go_upto_region 4 with fail
      generalize wr.alloc (.cells #[.int .i64 l, .int .i64 16, .int .i64 1, .int .i64 1048576] 102) = wq at *
      have PC := fun p : Lat grows wq => (CQ.out p.W p.h).1
      obtain ⟨p0, p1⟩ : (∀ p : Lat grows wq, _) ∧ (∀ p : Lat grows wq, _) := ⟨fun p => (PC p).1, fun p => (PC p).2⟩
      have g0 := fun p => (p0 p).1
      have g1 := fun p => (p0 p).2.1
      have g2 := fun p => (p0 p).2.2.1
      have g3 := fun p => (p0 p).2.2.2.1
      have g4 := fun p => (p0 p).2.2.2.2.1
      have g5 := fun p => (p0 p).2.2.2.2.2.1
      have g6 := fun p => (p0 p).2.2.2.2.2.2.1
      have g7 := fun p => (p0 p).2.2.2.2.2.2.2.1
      have g8 := fun p => (p0 p).2.2.2.2.2.2.2.2.1
      have g9 := fun p => (p0 p).2.2.2.2.2.2.2.2.2.1
      have g10 := fun p => (p0 p).2.2.2.2.2.2.2.2.2.2
      have n0 := fun p => (p1 p).1
      have n1 := fun p => (p1 p).2.1
      have n2 := fun p => (p1 p).2.2.1
      have n3 := fun p => (p1 p).2.2.2
      clear PC p0 p1
      refine Og.grow 7 (by kernel_rfl) (by kernel_rfl) fun hc hf => ?_
      clear hc hf
      simp only [List.take_succ_cons, List.take_zero, List.drop_succ_cons, List.drop_zero]
      iterate 4 (refine Og.det [] rfl (fun J hJ => ?_); go_simp; refine hJ _ _ ?_; clear hJ J)
      refine Og.det [] rfl (fun J hJ => ?_)
      go_simp
      with_reducible refine ⟨_, fun p => Og.lays (A1.out p.W), hJ _ _ ?_⟩
      clear hJ J
      refine Og.det [] rfl (fun J hJ => ?_)
      go_simp
      with_reducible refine ⟨_, fun p => Og.lays (A2.out p.W), hJ _ _ ?_⟩
      clear hJ J
      (refine Og.det [] rfl (fun J hJ => ?_); go_simp; refine hJ _ _ ?_; clear hJ J)
      refine Og.fin fun W hW => ?_
      simp only [Og.opened_nil]
      obtain ⟨⟨⟨k0, k1, k2, k3, k4, k5, k6, k7, k8, k9, k10⟩, _⟩, NB1, NB2⟩ := CQ.out W hW
      replace NB1 := Lib.hid NB1
      replace NB2 := Lib.hid NB2
      clear g0  g1  g2  g3  g4  g5  g6  g7  g8  g9  g10 n0 n1 n2 n3 hW CQ A1 A2 IX CE HR WI
      cases rb with
      | true =>
        have Q2 : Hid (res = restB ⟨s, i, g, m, x, y, vx, vy, h, p, l⟩ 7) := Lib.hid (by rw [Q.out, Bool.true_and])
        clear Q
        go_wp2
        go_roundw
        case rel => exact ⟨7, by omega, rfl, NB1, Q2⟩
        case measure => simp [intOf]
      | false =>
        have Q2 : Hid (res = false) := Lib.hid (by rw [Q.out, Bool.false_and])
        clear Q
        go_wp2
        go_ret
        rw [Q2.out]
        exact ⟨rfl, NB2.out⟩
    · have WIX := WI.out
      have Q2 : Hid (res = within m 0 31) := Lib.hid (HQ.out.trans R8.out)
      clear WI HQ R8 HS RS0 IX0 RS1 IX1 RS2 IX2 RS3 IX3 RS4 IX4 RS5 IX5 RS6 IX6
      try simp only at WIX
      replace WIX := Lib.hid WIX
      generalize within m 0 31 = rb at *
      obtain ⟨⟨k0, k1, k2, k3, k4, k5, k6, k7, k8, k9, k10⟩, NB2⟩ := CE.out wr HR.out
      replace NB2 := Lib.hid NB2
      clear CE HR
      go_wp2_with (go_at_call 64; with_reducible refine (WIX.out _).mono ?_; rintro e w' ⟨rfl, rfl⟩)
      go_ret
      rw [Q2.out]
      exact ⟨rfl, NB2.out⟩
end Go.Proofs.Yteollbioeamciaa
namespace Go.Proofs.Yteollbioeamciaa
open Go.RowKit Pz
set_option linter.unusedVariables false

set_option maxHeartbeats 16000000 in
set_option maxRecDepth 100000 in
theorem entity_any (b : Bn) (w : World) : Calls Try.prog 57 #[b.val] w fun e w' => e = .returned (.bool (may b)) ∧ Below w.heap.size w w' := by
  have R1 : Hid (∀ W, Calls Try.prog 61 #[.agg #[.int .i64 b.s, .int .i64 b.i, .int .i64 b.g]] W fun e w' => e = .returned (.bool (rightID b.s b.i b.g)) ∧ Below W.heap.size W w') := Lib.hid fun W => name_any _ _ _ W
  have R2 : Hid (∀ W, Calls Try.prog 62 #[b.val] W fun e w' => e = .returned (.bool (right b)) ∧ Below W.heap.size W w') := Lib.hid fun W => comps_any b W
  have R3 : Hid (∀ W, Calls Try.prog 58 #[b.val, .int .i64 1] W fun e w' => e = .returned (.bool (bitB b.m 0)) ∧ Below W.heap.size W w') := Lib.hid fun W => has_one b (j := 0) (by decide) W
  unfold may
  generalize rightID b.s b.i b.g = d1 at *
  generalize right b = d2 at *
  obtain ⟨s, i, g, m, x, y, vx, vy, h, p, l⟩ := b
  simp only [Bn.val] at *
  generalize bitB m 0 = d3 at *
  have H0 := at1 w (.cells #[.int .i64 s, .int .i64 i, .int .i64 g, .int .i64 m, .int .i64 x, .int .i64 y, .int .i64 vx, .int .i64 vy, .int .i64 h, .int .i64 p, .int .i64 l] 36)
  have B1 := bel1 w (.cells #[.int .i64 s, .int .i64 i, .int .i64 g, .int .i64 m, .int .i64 x, .int .i64 y, .int .i64 vx, .int .i64 vy, .int .i64 h, .int .i64 p, .int .i64 l] 36)
  have CE : Hid (∀ W, Below (w.alloc (.cells #[.int .i64 s, .int .i64 i, .int .i64 g, .int .i64 m, .int .i64 x, .int .i64 y, .int .i64 vx, .int .i64 vy, .int .i64 h, .int .i64 p, .int .i64 l] 36)).heap.size (w.alloc (.cells #[.int .i64 s, .int .i64 i, .int .i64 g, .int .i64 m, .int .i64 x, .int .i64 y, .int .i64 vx, .int .i64 vy, .int .i64 h, .int .i64 p, .int .i64 l] 36)) W → (W.cell? ⟨w.heap.size, 0, none⟩ = some (.int .i64 s) ∧ W.cell? ⟨w.heap.size, 1, none⟩ = some (.int .i64 i) ∧ W.cell? ⟨w.heap.size, 2, none⟩ = some (.int .i64 g) ∧ W.cell? ⟨w.heap.size, 3, none⟩ = some (.int .i64 m) ∧ W.cell? ⟨w.heap.size, 4, none⟩ = some (.int .i64 x) ∧ W.cell? ⟨w.heap.size, 5, none⟩ = some (.int .i64 y) ∧ W.cell? ⟨w.heap.size, 6, none⟩ = some (.int .i64 vx) ∧ W.cell? ⟨w.heap.size, 7, none⟩ = some (.int .i64 vy) ∧ W.cell? ⟨w.heap.size, 8, none⟩ = some (.int .i64 h) ∧ W.cell? ⟨w.heap.size, 9, none⟩ = some (.int .i64 p) ∧ W.cell? ⟨w.heap.size, 10, none⟩ = some (.int .i64 l)) ∧ Below w.heap.size w W) := Lib.hid fun W hW => ⟨(Bx.b11 ((hW.block _ (Bx.lt H0)).trans H0)).1, B1.trans (hW.mono B1.size)⟩
  obtain ⟨⟨k0, k1, k2, k3, k4, k5, k6, k7, k8, k9, k10⟩, HB⟩ := CE.out _ (Below.refl _ _)
  replace HB := Lib.hid HB
  have BB := Lib.hid (Below.refl (w.alloc (.cells #[.int .i64 s, .int .i64 i, .int .i64 g, .int .i64 m, .int .i64 x, .int .i64 y, .int .i64 vx, .int .i64 vy, .int .i64 h, .int .i64 p, .int .i64 l] 36)).heap.size (w.alloc (.cells #[.int .i64 s, .int .i64 i, .int .i64 g, .int .i64 m, .int .i64 x, .int .i64 y, .int .i64 vx, .int .i64 vy, .int .i64 h, .int .i64 p, .int .i64 l] 36)))
  clear H0 B1
  generalize hww : w.alloc (.cells #[.int .i64 s, .int .i64 i, .int .i64 g, .int .i64 m, .int .i64 x, .int .i64 y, .int .i64 vx, .int .i64 vy, .int .i64 h, .int .i64 p, .int .i64 l] 36) = w1 at *
  cases d1 with
  | false =>
    go_enter Try.func57, Try.ntmps57
    go_wp2_with (first
      | (go_at_call 61; with_reducible refine (R1.out _).mono ?_; rintro e w2 ⟨rfl, hb2⟩; clear k0 k1 k2 k3 k4 k5 k6 k7 k8 k9 k10; replace BB := Lib.hid (BB.out.trans (hb2.mono BB.out.size)); clear hb2; obtain ⟨⟨k0, k1, k2, k3, k4, k5, k6, k7, k8, k9, k10⟩, HB⟩ := CE.out w2 BB.out; replace HB := Lib.hid HB)
      | (go_at_call 62; with_reducible refine (R2.out _).mono ?_; rintro e w2 ⟨rfl, hb2⟩; clear k0 k1 k2 k3 k4 k5 k6 k7 k8 k9 k10; replace BB := Lib.hid (BB.out.trans (hb2.mono BB.out.size)); clear hb2; obtain ⟨⟨k0, k1, k2, k3, k4, k5, k6, k7, k8, k9, k10⟩, HB⟩ := CE.out w2 BB.out; replace HB := Lib.hid HB)
      | (go_at_call 58; with_reducible refine (R3.out _).mono ?_; rintro e w2 ⟨rfl, hb2⟩; clear k0 k1 k2 k3 k4 k5 k6 k7 k8 k9 k10; replace BB := Lib.hid (BB.out.trans (hb2.mono BB.out.size)); clear hb2; obtain ⟨⟨k0, k1, k2, k3, k4, k5, k6, k7, k8, k9, k10⟩, HB⟩ := CE.out w2 BB.out; replace HB := Lib.hid HB))
    go_ret
    exact ⟨rfl, HB.out⟩
  | true =>
    cases d2 with
    | false =>
      go_enter Try.func57, Try.ntmps57
      go_wp2_with (first
        | (go_at_call 61; with_reducible refine (R1.out _).mono ?_; rintro e w2 ⟨rfl, hb2⟩; clear k0 k1 k2 k3 k4 k5 k6 k7 k8 k9 k10; replace BB := Lib.hid (BB.out.trans (hb2.mono BB.out.size)); clear hb2; obtain ⟨⟨k0, k1, k2, k3, k4, k5, k6, k7, k8, k9, k10⟩, HB⟩ := CE.out w2 BB.out; replace HB := Lib.hid HB)
        | (go_at_call 62; with_reducible refine (R2.out _).mono ?_; rintro e w2 ⟨rfl, hb2⟩; clear k0 k1 k2 k3 k4 k5 k6 k7 k8 k9 k10; replace BB := Lib.hid (BB.out.trans (hb2.mono BB.out.size)); clear hb2; obtain ⟨⟨k0, k1, k2, k3, k4, k5, k6, k7, k8, k9, k10⟩, HB⟩ := CE.out w2 BB.out; replace HB := Lib.hid HB)
        | (go_at_call 58; with_reducible refine (R3.out _).mono ?_; rintro e w2 ⟨rfl, hb2⟩; clear k0 k1 k2 k3 k4 k5 k6 k7 k8 k9 k10; replace BB := Lib.hid (BB.out.trans (hb2.mono BB.out.size)); clear hb2; obtain ⟨⟨k0, k1, k2, k3, k4, k5, k6, k7, k8, k9, k10⟩, HB⟩ := CE.out w2 BB.out; replace HB := Lib.hid HB))
      go_ret
      exact ⟨rfl, HB.out⟩
    | true =>
      go_enter Try.func57, Try.ntmps57
      go_wp2_with (first
        | (go_at_call 61; with_reducible refine (R1.out _).mono ?_; rintro e w2 ⟨rfl, hb2⟩; clear k0 k1 k2 k3 k4 k5 k6 k7 k8 k9 k10; replace BB := Lib.hid (BB.out.trans (hb2.mono BB.out.size)); clear hb2; obtain ⟨⟨k0, k1, k2, k3, k4, k5, k6, k7, k8, k9, k10⟩, HB⟩ := CE.out w2 BB.out; replace HB := Lib.hid HB)
        | (go_at_call 62; with_reducible refine (R2.out _).mono ?_; rintro e w2 ⟨rfl, hb2⟩; clear k0 k1 k2 k3 k4 k5 k6 k7 k8 k9 k10; replace BB := Lib.hid (BB.out.trans (hb2.mono BB.out.size)); clear hb2; obtain ⟨⟨k0, k1, k2, k3, k4, k5, k6, k7, k8, k9, k10⟩, HB⟩ := CE.out w2 BB.out; replace HB := Lib.hid HB)
        | (go_at_call 58; with_reducible refine (R3.out _).mono ?_; rintro e w2 ⟨rfl, hb2⟩; clear k0 k1 k2 k3 k4 k5 k6 k7 k8 k9 k10; replace BB := Lib.hid (BB.out.trans (hb2.mono BB.out.size)); clear hb2; obtain ⟨⟨k0, k1, k2, k3, k4, k5, k6, k7, k8, k9, k10⟩, HB⟩ := CE.out w2 BB.out; replace HB := Lib.hid HB))
      go_ret
      exact ⟨rfl, HB.out⟩
set_option maxHeartbeats 16000000 in
set_option maxRecDepth 100000 in
theorem check_any (b : Bn) (w : World) : Calls Try.prog 44 #[b.val] w fun e w' => e = .returned (.int .i64 (errB (may b))) ∧ Below w.heap.size w w' := by
  have H1 := Lib.hid fun W => entity_any b W
  generalize (may b) = r at *
  have H2 := Lib.hid fun W => unless_any r W
  obtain ⟨s, i, g, m, x, y, vx, vy, h, p, l⟩ := b
  simp only [Bn.val] at *
  have FIN := Lib.hid (bel1 w (.cells #[.int .i64 s, .int .i64 i, .int .i64 g, .int .i64 m, .int .i64 x, .int .i64 y, .int .i64 vx, .int .i64 vy, .int .i64 h, .int .i64 p, .int .i64 l] 36))
  obtain ⟨⟨k0, k1, k2, k3, k4, k5, k6, k7, k8, k9, k10⟩, _⟩ := Bx.b11 (at1 w (.cells #[.int .i64 s, .int .i64 i, .int .i64 g, .int .i64 m, .int .i64 x, .int .i64 y, .int .i64 vx, .int .i64 vy, .int .i64 h, .int .i64 p, .int .i64 l] 36))
  have BB := Lib.hid (bel1 w (.cells #[.int .i64 s, .int .i64 i, .int .i64 g, .int .i64 m, .int .i64 x, .int .i64 y, .int .i64 vx, .int .i64 vy, .int .i64 h, .int .i64 p, .int .i64 l] 36))
  generalize hww : w.alloc (.cells #[.int .i64 s, .int .i64 i, .int .i64 g, .int .i64 m, .int .i64 x, .int .i64 y, .int .i64 vx, .int .i64 vy, .int .i64 h, .int .i64 p, .int .i64 l] 36) = w1 at *
  go_enter Try.func44, Try.ntmps44
  go_wp2_with (first
    | (go_at_call 57; with_reducible refine (H1.out _).mono ?_; rintro e w2 ⟨rfl, hb2⟩; clear k0 k1 k2 k3 k4 k5 k6 k7 k8 k9 k10; replace BB := Lib.hid (BB.out.trans (hb2.mono BB.out.size)))
    | (go_at_call 56; with_reducible refine (H2.out _).mono ?_; rintro e w' ⟨rfl, rfl⟩))
  go_ret
  exact ⟨rfl, BB.out⟩
end Go.Proofs.Yteollbioeamciaa
namespace Go.Proofs.Yteollbioeamciaa
open Go Pz
set_option linter.unusedVariables false

namespace Pz
theorem ite_two (p q : Bool) (x y z : Int) : (if q = true then z else if p = true then y else x) = (if (p || q) = true then (if q = true then z else y) else x) := by
  cases p <;> cases q <;> rfl
theorem ite_zero (p q : Bool) (x : Int) : (if q = true then 0 else if p = true then 0 else x) = (if (p || q) = true then 0 else x) := by
  cases p <;> cases q <;> rfl
theorem ite_back (p : Bool) (x y : Int) : (if p = true then 0 else if p = true then y else x) = (if p = true then 0 else x) := by
  cases p <;> rfl
theorem with_two (a b c : Bn) : withB (withB a b) c = withB a (withB b c) := by
  simp only [withB, bit_or _ _ (show 0 ≤ 4 by decide), bit_or _ _ (show 1 ≤ 4 by decide), bit_or _ _ (show 2 ≤ 4 by decide), bit_or _ _ (show 3 ≤ 4 by decide), bit_or _ _ (show 4 ≤ 4 by decide), ite_two, or_assoc']
theorem without_two (a : Bn) (m n : Int) : withoutB (withoutB a m) n = withoutB a (bits .or .i64 m n) := by
  simp only [withoutB, bit_or _ _ (show 0 ≤ 4 by decide), bit_or _ _ (show 1 ≤ 4 by decide), bit_or _ _ (show 2 ≤ 4 by decide), bit_or _ _ (show 3 ≤ 4 by decide), bit_or _ _ (show 4 ≤ 4 by decide), ite_zero, andNot_two]
theorem with_self {a : Bn} (h : a.Fits) : withB a a = a := by
  simp only [withB, ite_self, or_self' h.m]
theorem without_none {a : Bn} (h : a.Fits) : withoutB a 0 = a := by
  have e : ∀ k, k ≤ 4 → bitB 0 k = false := fun k hk => by
    have : k = 0 ∨ k = 1 ∨ k = 2 ∨ k = 3 ∨ k = 4 := by omega
    rcases this with rfl | rfl | rfl | rfl | rfl <;> rfl
  simp only [withoutB, e 0 (by decide), e 1 (by decide), e 2 (by decide), e 3 (by decide), e 4 (by decide), andNot_zero' h.m, Bool.false_eq_true, if_false]
theorem without_with (a b : Bn) : withoutB (withB a b) b.m = withoutB a b.m := by
  simp only [withoutB, withB, ite_back, andNot_or]
theorem inB_none {n lo hi : Int} (h : inB n lo hi false = true) : n = 0 := by
  simpa [inB] using h
theorem right_parts {a : Bn} (h : right a = true) : (0 ≤ a.m ∧ a.m ≤ 31) ∧ inB a.x (-1073741824) 1073741824 (bitB a.m 0) = true ∧ inB a.y (-1073741824) 1073741824 (bitB a.m 0) = true ∧ inB a.vx (-1073741824) 1073741824 (bitB a.m 1) = true ∧ inB a.vy (-1073741824) 1073741824 (bitB a.m 1) = true ∧ inB a.h 1 1048576 (bitB a.m 2) = true ∧ inB a.p 0 1024 (bitB a.m 3) = true ∧ inB a.l 1 1048576 (bitB a.m 4) = true := by
  unfold right at h
  simp only [Bool.and_eq_true, Bool.not_eq_true', Bool.or_eq_false_iff, decide_eq_false_iff_not] at h
  obtain ⟨⟨⟨⟨h1, h2⟩, h3, h4⟩, h5, h6⟩, ⟨h7, h8⟩, h9⟩ := h
  exact ⟨⟨by omega, by omega⟩, h3, h4, h5, h6, h7, h8, h9⟩
theorem right_of {a : Bn} (h0 : 0 ≤ a.m ∧ a.m ≤ 31) (h1 : inB a.x (-1073741824) 1073741824 (bitB a.m 0) = true) (h2 : inB a.y (-1073741824) 1073741824 (bitB a.m 0) = true) (h3 : inB a.vx (-1073741824) 1073741824 (bitB a.m 1) = true) (h4 : inB a.vy (-1073741824) 1073741824 (bitB a.m 1) = true) (h5 : inB a.h 1 1048576 (bitB a.m 2) = true) (h6 : inB a.p 0 1024 (bitB a.m 3) = true) (h7 : inB a.l 1 1048576 (bitB a.m 4) = true) : right a = true := by
  unfold right
  rw [h1, h2, h3, h4, h5, h6, h7, decide_eq_false (by omega : ¬ a.m < 0), decide_eq_false (by omega : ¬ a.m > 31)]
  rfl
theorem ite_again {p q : Bool} {x lo hi : Int} (h : inB x lo hi p = true) : (if p = true then x else if q = true then 0 else x) = x := by
  cases p with
  | true => rfl
  | false =>
    have := inB_none h
    subst this
    cases q <;> rfl
theorem with_back {a : Bn} (hf : a.Fits) (h : right a = true) (n : Int) : withB (withoutB a n) a = a := by
  obtain ⟨_, h1, h2, h3, h4, h5, h6, h7⟩ := right_parts h
  simp only [withB, withoutB, ite_again h1, ite_again h2, ite_again h3, ite_again h4, ite_again h5, ite_again h6, ite_again h7, or_andNot hf.m]
/-! ### masks -/
theorem small_or {x y : Int} (hx : 0 ≤ x ∧ x ≤ 31) (hy : 0 ≤ y ∧ y ≤ 31) : 0 ≤ bits .or .i64 x y ∧ bits .or .i64 x y ≤ 31 := by
  obtain ⟨m, rfl⟩ : ∃ m : Nat, x = m := ⟨x.toNat, by omega⟩
  obtain ⟨n, rfl⟩ : ∃ n : Nat, y = n := ⟨y.toNat, by omega⟩
  have h1 : (m : Nat) < 2 ^ 5 := by omega
  have h2 : (n : Nat) < 2 ^ 5 := by omega
  have h3 := Nat.or_lt_two_pow h1 h2
  have e : (BitVec.ofInt 64 (m : Int) ||| BitVec.ofInt 64 (n : Int)) = BitVec.ofNat 64 (m ||| n) := by
    apply BitVec.eq_of_toNat_eq
    rw [BitVec.toNat_or, BitVec.toNat_ofNat, BitVec.toNat_ofInt, BitVec.toNat_ofInt]
    have e1 : ((m : Int) % ((2 ^ 64 : Nat) : Int)).toNat = m := by omega
    have e2 : ((n : Int) % ((2 ^ 64 : Nat) : Int)).toNat = n := by omega
    rw [e1, e2, Nat.mod_eq_of_lt (by omega)]
  rw [bits_or, e, BitVec.toInt_eq_toNat_of_lt (by rw [BitVec.toNat_ofNat, Nat.mod_eq_of_lt (by omega)]; omega), BitVec.toNat_ofNat, Nat.mod_eq_of_lt (by omega)]
  omega
theorem small_andNot {x : Int} (hx : 0 ≤ x ∧ x ≤ 31) (y : Int) : 0 ≤ bits .andNot .i64 x y ∧ bits .andNot .i64 x y ≤ 31 := by
  obtain ⟨m, rfl⟩ : ∃ m : Nat, x = m := ⟨x.toNat, by omega⟩
  have h1 : (m : Nat) < 2 ^ 5 := by omega
  have h3 : (BitVec.ofInt 64 (m : Int) &&& ~~~ BitVec.ofInt 64 y).toNat ≤ m := by
    rw [BitVec.toNat_and, BitVec.toNat_ofInt]
    have e1 : ((m : Int) % ((2 ^ 64 : Nat) : Int)).toNat = m := by omega
    rw [e1]
    exact Nat.and_le_left
  rw [bits_andNot, BitVec.toInt_eq_toNat_of_lt (by omega)]
  omega
/-! ### what leaves one that may be -/
theorem inB_pick {p q : Bool} {x y lo hi : Int} (h1 : inB x lo hi p = true) (h2 : inB y lo hi q = true) : inB (if q = true then y else x) lo hi (p || q) = true := by
  cases q with
  | true => rw [if_pos rfl, Bool.or_true]; exact h2
  | false => rw [if_neg (by decide), Bool.or_false]; exact h1
theorem inB_drop {p q : Bool} {x lo hi : Int} (h1 : inB x lo hi p = true) : inB (if q = true then 0 else x) lo hi (p && !q) = true := by
  cases q with
  | true => rw [if_pos rfl, Bool.not_true, Bool.and_false]; rfl
  | false => rw [if_neg (by decide), Bool.not_false, Bool.and_true]; exact h1
theorem right_with {b c : Bn} (hb : right b = true) (hc : right c = true) : right (withB b c) = true := by
  obtain ⟨b0, b1, b2, b3, b4, b5, b6, b7⟩ := right_parts hb
  obtain ⟨c0, c1, c2, c3, c4, c5, c6, c7⟩ := right_parts hc
  have e : ∀ k, k ≤ 4 → bitB (withB b c).m k = (bitB b.m k || bitB c.m k) := fun k hk => bit_or _ _ hk
  refine right_of (small_or b0 c0) ?_ ?_ ?_ ?_ ?_ ?_ ?_
  · rw [e 0 (by decide)]; exact inB_pick b1 c1
  · rw [e 0 (by decide)]; exact inB_pick b2 c2
  · rw [e 1 (by decide)]; exact inB_pick b3 c3
  · rw [e 1 (by decide)]; exact inB_pick b4 c4
  · rw [e 2 (by decide)]; exact inB_pick b5 c5
  · rw [e 3 (by decide)]; exact inB_pick b6 c6
  · rw [e 4 (by decide)]; exact inB_pick b7 c7
theorem right_without {b : Bn} (hb : right b = true) (n : Int) : right (withoutB b n) = true := by
  obtain ⟨b0, b1, b2, b3, b4, b5, b6, b7⟩ := right_parts hb
  have e : ∀ k, k ≤ 4 → bitB (withoutB b n).m k = (bitB b.m k && !bitB n k) := fun k hk => bit_andNot _ _ hk
  refine right_of (small_andNot b0 n) ?_ ?_ ?_ ?_ ?_ ?_ ?_
  · rw [e 0 (by decide)]; exact inB_drop b1
  · rw [e 0 (by decide)]; exact inB_drop b2
  · rw [e 1 (by decide)]; exact inB_drop b3
  · rw [e 1 (by decide)]; exact inB_drop b4
  · rw [e 2 (by decide)]; exact inB_drop b5
  · rw [e 3 (by decide)]; exact inB_drop b6
  · rw [e 4 (by decide)]; exact inB_drop b7
theorem may_with {b c : Bn} (hb : may b = true) (hc : right c = true) : may (withB b c) = true := by
  unfold may at hb ⊢
  simp only [Bool.and_eq_true] at hb ⊢
  refine ⟨⟨hb.1.1, right_with hb.1.2 hc⟩, ?_⟩
  rw [show (withB b c).m = bits .or .i64 b.m c.m from rfl, bit_or _ _ (by decide), hb.2, Bool.true_or]
theorem may_without {b : Bn} (hb : may b = true) (n : Int) : may (withoutB b n) = !bitB n 0 := by
  unfold may at hb ⊢
  simp only [Bool.and_eq_true] at hb
  have h1 : rightID (withoutB b n).s (withoutB b n).i (withoutB b n).g = true := hb.1.1
  rw [h1, right_without hb.1.2 n, show (withoutB b n).m = bits .andNot .i64 b.m n from rfl, bit_andNot _ _ (by decide), hb.2]
  simp
theorem has_left {b c : Bn} (hb : Fit b.m) : hasB (withB b c).m b.m = true := by
  unfold hasB
  rw [show (withB b c).m = bits .or .i64 b.m c.m from rfl, and_or_left, and_self' hb]
  exact beq_self_eq_true _
theorem has_right {b c : Bn} (hc : Fit c.m) : hasB (withB b c).m c.m = true := by
  unfold hasB
  rw [show (withB b c).m = bits .or .i64 b.m c.m from rfl, and_or_right, and_self' hc]
  exact beq_self_eq_true _
theorem pos_bit (n : Int) : (bits .and .i64 n 1 == 0) = !bitB n 0 := by
  have := and_pow n (j := 0) (by decide)
  rw [show (2 : Int) ^ 0 = 1 from rfl] at this
  rw [this]
  cases bitB n 0 <;> rfl
/-! ### the order of names -/
theorem cmpB_neg (a b : Int × Int × Int) : cmpB b a = - cmpB a b := by
  obtain ⟨a1, a2, a3⟩ := a
  obtain ⟨b1, b2, b3⟩ := b
  unfold cmpB orI cmpI
  simp only
  repeat' split
  all_goals first | rfl | omega
end Pz
end Go.Proofs.Yteollbioeamciaa
