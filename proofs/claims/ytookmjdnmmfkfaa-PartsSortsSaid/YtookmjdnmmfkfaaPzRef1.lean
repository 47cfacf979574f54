/- The document's parts: half, Bit, in, RightID, takes, Error. Written by wip/tools/genpz1.py. -/
import Derived.Test.YtookmjdnmmfkfaaPzMod
import Derived.Test.YtookmjdnmmfkfaaBx
import Derived.Test.YtookmjdnmmfkfaaOpen
import Derived.Test.YtookmjdnmmfkfaaOw
import Derived.BigQuiet
import Derived.LoopTactic
import Derived.Lib.Hide
namespace Go.Proofs.Ytookmjdnmmfkfaa
open Go.RowKit Pz
set_option linter.unusedVariables false

theorem half_even (q : Int) : (2 * q).tdiv 2 = q := Int.mul_tdiv_cancel_left q (by decide)
theorem tmod_two (n : Int) : (n.tmod 2 != 0) = decide (n % 2 = 1) := by
  have h1 := Int.emod_emod_of_dvd n (Int.dvd_refl 2)
  by_cases h : n % 2 = 1
  · rw [decide_eq_true h, bne_iff_ne]
    intro e
    have := Int.dvd_of_tmod_eq_zero e
    omega
  · rw [decide_eq_false h]
    have e : n.tmod 2 = 0 := Int.tmod_eq_zero_of_dvd (by omega)
    rw [e]; rfl
set_option maxHeartbeats 4000000 in
theorem half_any (n : Int) (hn : Fit n) (w : World) : Calls Try.prog 47 #[.int .i64 n] w fun e w' => e = .returned (.int .i64 (n / 2)) ∧ w = w' := by
  obtain ⟨h1, h2⟩ := hn
  have q1 := tmod_two n
  by_cases h : n < 0
  · by_cases h3 : n % 2 = 1
    · rw [decide_eq_true h3] at q1
      obtain ⟨y, hy⟩ : ∃ y, n - 1 = y := ⟨_, rfl⟩
      have e1 : IntKind.i64.wrap (n - 1) = y := by rw [← hy]; exact IntWalk.i64_in _ (by omega)
      have e2 : y.tdiv 2 = n / 2 := by
        have : y = 2 * (n / 2) := by omega
        rw [this, half_even]
      have e3 : IntKind.i64.wrap (n / 2) = n / 2 := IntWalk.i64_in _ (by omega)
      have t1 : decide (n < 0) = true := decide_eq_true h
      clear h h3 hy
      generalize n / 2 = z at *
      go_enter Try.func47, Try.ntmps47
      go_wp2
      go_ret
      exact ⟨rfl, rfl⟩
    · rw [decide_eq_false h3] at q1
      have e2 : n.tdiv 2 = n / 2 := by
        have : n = 2 * (n / 2) := by omega
        generalize n / 2 = z at *
        rw [this, half_even]
      have e3 : IntKind.i64.wrap (n / 2) = n / 2 := IntWalk.i64_in _ (by omega)
      have t1 : decide (n < 0) = true := decide_eq_true h
      clear h h3
      generalize n / 2 = z at *
      go_enter Try.func47, Try.ntmps47
      go_wp2
      go_ret
      exact ⟨rfl, rfl⟩
  · have e2 : n.tdiv 2 = n / 2 := Int.tdiv_eq_ediv_of_nonneg (by omega)
    have e3 : IntKind.i64.wrap (n / 2) = n / 2 := IntWalk.i64_in _ (by omega)
    have t1 : decide (n < 0) = false := decide_eq_false h
    clear h
    generalize n / 2 = z at *
    go_enter Try.func47, Try.ntmps47
    go_wp2
    go_ret
    exact ⟨rfl, rfl⟩
set_option maxHeartbeats 4000000 in
theorem bit_any (m : Int) (hm : Fit m) (k : Nat) (hk : k ≤ 4) (w : World) : Calls Try.prog 34 #[.int .i64 m, .int .i64 ((2 : Int) ^ k)] w fun e w' => e = .returned (.bool (bitB m k)) ∧ w = w' := by
  have POW : Hid (∀ j : Nat, j ≤ 4 → 1 ≤ (2 : Int) ^ j ∧ (2 : Int) ^ j ≤ 16 ∧ (2 : Int) ^ (j + 1) = 2 * 2 ^ j) := Lib.hid fun j hj => by
    have : j = 0 ∨ j = 1 ∨ j = 2 ∨ j = 3 ∨ j = 4 := by omega
    rcases this with rfl | rfl | rfl | rfl | rfl <;> decide
  have FITQ : Hid (∀ j : Nat, j ≤ 4 → Fit (m / (2 : Int) ^ j)) := Lib.hid fun j hj => by
    obtain ⟨h1, h2⟩ := hm
    have : j = 0 ∨ j = 1 ∨ j = 2 ∨ j = 3 ∨ j = 4 := by omega
    unfold Fit
    rcases this with rfl | rfl | rfl | rfl | rfl <;> simp only [Int.reducePow] <;> omega
  have DIV : Hid (∀ j : Nat, j ≤ 4 → m / (2 : Int) ^ j / 2 = m / (2 : Int) ^ (j + 1)) := Lib.hid fun j hj => by
    have : j = 0 ∨ j = 1 ∨ j = 2 ∨ j = 3 ∨ j = 4 := by omega
    rcases this with rfl | rfl | rfl | rfl | rfl <;> simp only [Int.reducePow] <;> omega
  have S0 : Hid (m = m / (2 : Int) ^ (k - k)) := Lib.hid (by rw [Nat.sub_self]; simp)
  clear hm
  go_enter Try.func34, Try.ntmps34
  go_wp2
  go_loopw [0, 1] (fun mx cx wr => ∃ (j : Nat) (x c : Int), j ≤ k ∧ mx = .int .i64 x ∧ cx = .int .i64 c ∧ wr = w ∧ Hid (x = m / (2 : Int) ^ (k - j)) ∧ Hid (c = (2 : Int) ^ j)) (fun _ cx _ => (intOf cx).toNat)
  case atStart => exact ⟨k, m, _, Nat.le_refl _, rfl, rfl, rfl, S0, Lib.hid rfl⟩
  case round =>
    obtain ⟨j, x, c, hj, rfl, rfl, rfl, HX, HC⟩ := hrel
    clear S0
    cases j with
    | zero =>
      have hx := HX.out
      have hc := HC.out
      rw [Nat.sub_zero] at hx
      rw [show (2 : Int) ^ 0 = 1 from rfl] at hc
      subst hc
      have q1 := tmod_two x
      have q2 : decide (x % 2 = 1) = bitB m k := by unfold bitB; rw [hx]
      rw [q2] at q1
      clear hx HX HC q2 POW FITQ DIV
      go_wp2
      go_ret
      exact ⟨rfl, rfl⟩
    | succ j =>
      obtain ⟨p1, p2, p3⟩ := POW.out j (by omega)
      have F := FITQ.out (k - (j + 1)) (by omega)
      rw [← HX.out] at F
      have H := Lib.hid (half_any x F wr)
      have hc := HC.out
      rw [p3] at hc
      have NX : Hid (x / 2 = m / (2 : Int) ^ (k - j)) := Lib.hid (by
        rw [HX.out, DIV.out _ (by omega)]
        congr 2
        omega)
      have t1 : c > 1 := by omega
      have e1 : c.tdiv 2 = (2 : Int) ^ j := by rw [hc, half_even]
      clear hc HX HC POW FITQ DIV F
      generalize hp : (2 : Int) ^ j = c0 at *
      have NC : Hid (c0 = (2 : Int) ^ j) := Lib.hid hp.symm
      have t2 : c0 < c := by have := Int.tdiv_eq_ediv_of_nonneg (a := c) (b := 2) (by omega); omega
      clear hp
      generalize x / 2 = x2 at *
      go_wp2_with (go_at_call 47; refine H.out.mono ?_; rintro e w' ⟨rfl, rfl⟩; clear H)
      go_roundw
      case rel => exact ⟨j, x2, c0, by omega, rfl, by go_num, trivial, NX, NC⟩
      case measure => simp [intOf]; omega
set_option maxHeartbeats 4000000 in
theorem in_any (n lo hi : Int) (has : Bool) (w : World) : Calls Try.prog 45 #[.int .i64 n, .int .i64 lo, .int .i64 hi, .bool has] w fun e w' => e = .returned (.bool (inB n lo hi has)) ∧ w = w' := by
  cases has with
  | false =>
    show Calls _ _ _ _ fun e w' => e = .returned (.bool (decide (n = 0))) ∧ _
    obtain ⟨b, hb⟩ : ∃ b, (n == 0) = b := ⟨_, rfl⟩
    have e1 : decide (n = 0) = b := by rw [← hb]; rfl
    rw [e1]
    clear e1
    go_enter Try.func45, Try.ntmps45
    go_wp2
    go_ret
    exact ⟨rfl, rfl⟩
  | true =>
    show Calls _ _ _ _ fun e w' => e = .returned (.bool (decide (lo ≤ n) && decide (n ≤ hi))) ∧ _
    obtain ⟨b1, t1⟩ : ∃ b, decide (lo ≤ n) = b := ⟨_, rfl⟩
    obtain ⟨b2, t2⟩ : ∃ b, decide (n ≤ hi) = b := ⟨_, rfl⟩
    rw [t1, t2]
    cases b1 with
    | false =>
      go_enter Try.func45, Try.ntmps45
      go_wp2
      go_ret
      exact ⟨rfl, rfl⟩
    | true =>
      go_enter Try.func45, Try.ntmps45
      go_wp2
      go_ret
      exact ⟨rfl, rfl⟩

set_option maxHeartbeats 8000000 in
theorem rightid_any (s i g : Int) (w : World) : Calls Try.prog 15 #[.agg #[.int .i64 s, .int .i64 i, .int .i64 g]] w fun e w' => e = .returned (.bool (rightID s i g)) ∧ Below w.heap.size w w' := by
  have FIN := Lib.hid (bel1 w (.cells #[.int .i64 s, .int .i64 i, .int .i64 g] 23))
  obtain ⟨⟨c0, c1, c2⟩, _⟩ := Bx.b3 (at1 w (.cells #[.int .i64 s, .int .i64 i, .int .i64 g] 23))
  unfold rightID
  obtain ⟨b1, t1⟩ : ∃ b, decide (s ≥ 0) = b := ⟨_, rfl⟩
  obtain ⟨b2, t2⟩ : ∃ b, decide (s ≤ 15) = b := ⟨_, rfl⟩
  obtain ⟨b3, t3⟩ : ∃ b, decide (i ≥ 0) = b := ⟨_, rfl⟩
  obtain ⟨b4, t4⟩ : ∃ b, decide (i ≤ 15) = b := ⟨_, rfl⟩
  obtain ⟨b5, t5⟩ : ∃ b, decide (g ≥ 0) = b := ⟨_, rfl⟩
  obtain ⟨b6, t6⟩ : ∃ b, decide (g < 1048576) = b := ⟨_, rfl⟩
  rw [t1, t2, t3, t4, t5, t6]
  generalize hww : w.alloc (.cells #[.int .i64 s, .int .i64 i, .int .i64 g] 23) = w1 at *
  cases b1 with
  | false =>
    go_enter Try.func15, Try.ntmps15
    go_wp2
    go_ret
    exact ⟨rfl, FIN.out⟩
  | true =>
    cases b2 with
    | false =>
      go_enter Try.func15, Try.ntmps15
      go_wp2
      go_ret
      exact ⟨rfl, FIN.out⟩
    | true =>
      cases b3 with
      | false =>
        go_enter Try.func15, Try.ntmps15
        go_wp2
        go_ret
        exact ⟨rfl, FIN.out⟩
      | true =>
        cases b4 with
        | false =>
          go_enter Try.func15, Try.ntmps15
          go_wp2
          go_ret
          exact ⟨rfl, FIN.out⟩
        | true =>
          cases b5 with
          | false =>
            go_enter Try.func15, Try.ntmps15
            go_wp2
            go_ret
            exact ⟨rfl, FIN.out⟩
          | true =>
            go_enter Try.func15, Try.ntmps15
            go_wp2
            go_ret
            exact ⟨rfl, FIN.out⟩
theorem takes_any (m : Int) (w : World) : Calls Try.prog 37 #[.int .i64 m] w fun e w' => e = .returned (.bool (takesB m)) ∧ w = w' := by
  have q1 := tmod_two m
  unfold takesB
  obtain ⟨b1, t1⟩ : ∃ b, decide (m ≥ 1) = b := ⟨_, rfl⟩
  obtain ⟨b2, t2⟩ : ∃ b, decide (m ≤ 31) = b := ⟨_, rfl⟩
  obtain ⟨b3, t3⟩ : ∃ b, (m.tmod 2 == 0) = b := ⟨_, rfl⟩
  have e3 : (!bitB m 0) = b3 := by
    have : (m.tmod 2 != 0) = !(m.tmod 2 == 0) := rfl
    rw [this, t3] at q1
    have e4 : bitB m 0 = decide (m % 2 = 1) := by unfold bitB; simp
    rw [e4, ← q1, Bool.not_not]
  rw [t1, t2, e3]
  clear q1 e3
  cases b1 with
  | false =>
    go_enter Try.func37, Try.ntmps37
    go_wp2
    go_ret
    exact ⟨rfl, rfl⟩
  | true =>
    cases b2 with
    | false =>
      go_enter Try.func37, Try.ntmps37
      go_wp2
      go_ret
      exact ⟨rfl, rfl⟩
    | true =>
      go_enter Try.func37, Try.ntmps37
      go_wp2
      go_ret
      exact ⟨rfl, rfl⟩
theorem error_any (b : Bool) (w : World) : Calls Try.prog 12 #[.bool b] w fun e w' => e = .returned (.int .i64 (errB b)) ∧ w = w' := by
  cases b with
  | false =>
    go_enter Try.func12, Try.ntmps12
    go_wp2
    go_ret
    exact ⟨rfl, rfl⟩
  | true =>
    go_enter Try.func12, Try.ntmps12
    go_wp2
    go_ret
    exact ⟨rfl, rfl⟩
end Go.Proofs.Ytookmjdnmmfkfaa
