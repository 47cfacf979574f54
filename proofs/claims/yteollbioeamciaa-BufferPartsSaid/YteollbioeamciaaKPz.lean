/- PzRef1, PzRef2, PzEq, PzW2, PzRow, PzSame, in one text. -/
import Derived.Test.YteollbioeamciaaKPu
import Derived.Test.YteollbioeamciaaKBase
import Derived.BigQuiet
import Derived.LoopTactic
import Derived.Lib.Hide
import Derived.Laws.StructEq
namespace Go.Proofs.Yteollbioeamciaa
open Go.RowKit Pz
set_option linter.unusedVariables false

theorem half_even (q : Int) : (2 * q).tdiv 2 = q := Int.mul_tdiv_cancel_left q (by decide)
theorem tmod_two (n : Int) : (n.tmod 2 != 0) = decide (n % 2 = 1) := by
  have h1 := Int.emod_emod_of_dvd n (Int.dvd_refl 2)
  by_cases h : n % 2 = 1
  · rw [decide_eq_true h, bne_iff_ne]
    intro e
    have := Int.dvd_of_tmod_eq_zero e
    omega
  · rw [decide_eq_false h]
    have e : n.tmod 2 = 0 := Int.tmod_eq_zero_of_dvd (by omega)
    rw [e]; rfl
set_option maxHeartbeats 4000000 in
theorem half_any (n : Int) (hn : Fit n) (w : World) : Calls Try.prog 55 #[.int .i64 n] w fun e w' => e = .returned (.int .i64 (n / 2)) ∧ w = w' := by
  obtain ⟨h1, h2⟩ := hn
  have q1 := tmod_two n
  by_cases h : n < 0
  · by_cases h3 : n % 2 = 1
    · rw [decide_eq_true h3] at q1
      obtain ⟨y, hy⟩ : ∃ y, n - 1 = y := ⟨_, rfl⟩
      have e1 : IntKind.i64.wrap (n - 1) = y := by rw [← hy]; exact IntWalk.i64_in _ (by omega)
      have e2 : y.tdiv 2 = n / 2 := by
        have : y = 2 * (n / 2) := by omega
        rw [this, half_even]
      have e3 : IntKind.i64.wrap (n / 2) = n / 2 := IntWalk.i64_in _ (by omega)
      have t1 : decide (n < 0) = true := decide_eq_true h
      clear h h3 hy
      generalize n / 2 = z at *
      go_enter Try.func55, Try.ntmps55
      go_wp2
      go_ret
      exact ⟨rfl, rfl⟩
    · rw [decide_eq_false h3] at q1
      have e2 : n.tdiv 2 = n / 2 := by
        have : n = 2 * (n / 2) := by omega
        generalize n / 2 = z at *
        rw [this, half_even]
      have e3 : IntKind.i64.wrap (n / 2) = n / 2 := IntWalk.i64_in _ (by omega)
      have t1 : decide (n < 0) = true := decide_eq_true h
      clear h h3
      generalize n / 2 = z at *
      go_enter Try.func55, Try.ntmps55
      go_wp2
      go_ret
      exact ⟨rfl, rfl⟩
  · have e2 : n.tdiv 2 = n / 2 := Int.tdiv_eq_ediv_of_nonneg (by omega)
    have e3 : IntKind.i64.wrap (n / 2) = n / 2 := IntWalk.i64_in _ (by omega)
    have t1 : decide (n < 0) = false := decide_eq_false h
    clear h
    generalize n / 2 = z at *
    go_enter Try.func55, Try.ntmps55
    go_wp2
    go_ret
    exact ⟨rfl, rfl⟩
set_option maxHeartbeats 4000000 in
theorem bit_any (m : Int) (hm : Fit m) (k : Nat) (hk : k ≤ 4) (w : World) : Calls Try.prog 43 #[.int .i64 m, .int .i64 ((2 : Int) ^ k)] w fun e w' => e = .returned (.bool (bitB m k)) ∧ w = w' := by
  have POW : Hid (∀ j : Nat, j ≤ 4 → 1 ≤ (2 : Int) ^ j ∧ (2 : Int) ^ j ≤ 16 ∧ (2 : Int) ^ (j + 1) = 2 * 2 ^ j) := Lib.hid fun j hj => by
    have : j = 0 ∨ j = 1 ∨ j = 2 ∨ j = 3 ∨ j = 4 := by omega
    rcases this with rfl | rfl | rfl | rfl | rfl <;> decide
  have FITQ : Hid (∀ j : Nat, j ≤ 4 → Fit (m / (2 : Int) ^ j)) := Lib.hid fun j hj => by
    obtain ⟨h1, h2⟩ := hm
    have : j = 0 ∨ j = 1 ∨ j = 2 ∨ j = 3 ∨ j = 4 := by omega
    unfold Fit
    rcases this with rfl | rfl | rfl | rfl | rfl <;> simp only [Int.reducePow] <;> omega
  have DIV : Hid (∀ j : Nat, j ≤ 4 → m / (2 : Int) ^ j / 2 = m / (2 : Int) ^ (j + 1)) := Lib.hid fun j hj => by
    have : j = 0 ∨ j = 1 ∨ j = 2 ∨ j = 3 ∨ j = 4 := by omega
    rcases this with rfl | rfl | rfl | rfl | rfl <;> simp only [Int.reducePow] <;> omega
  have S0 : Hid (m = m / (2 : Int) ^ (k - k)) := Lib.hid (by rw [Nat.sub_self]; simp)
  clear hm
  go_enter Try.func43, Try.ntmps43
  go_wp2
  go_loopw [0, 1] (fun mx cx wr => ∃ (j : Nat) (x c : Int), j ≤ k ∧ mx = .int .i64 x ∧ cx = .int .i64 c ∧ wr = w ∧ Hid (x = m / (2 : Int) ^ (k - j)) ∧ Hid (c = (2 : Int) ^ j)) (fun _ cx _ => (intOf cx).toNat)
  case atStart => exact ⟨k, m, _, Nat.le_refl _, rfl, rfl, rfl, S0, Lib.hid rfl⟩
  case round =>
    obtain ⟨j, x, c, hj, rfl, rfl, rfl, HX, HC⟩ := hrel
    clear S0
    cases j with
    | zero =>
      have hx := HX.out
      have hc := HC.out
      rw [Nat.sub_zero] at hx
      rw [show (2 : Int) ^ 0 = 1 from rfl] at hc
      subst hc
      have q1 := tmod_two x
      have q2 : decide (x % 2 = 1) = bitB m k := by unfold bitB; rw [hx]
      rw [q2] at q1
      clear hx HX HC q2 POW FITQ DIV
      go_wp2
      go_ret
      exact ⟨rfl, rfl⟩
    | succ j =>
      obtain ⟨p1, p2, p3⟩ := POW.out j (by omega)
      have F := FITQ.out (k - (j + 1)) (by omega)
      rw [← HX.out] at F
      have H := Lib.hid (half_any x F wr)
      have hc := HC.out
      rw [p3] at hc
      have NX : Hid (x / 2 = m / (2 : Int) ^ (k - j)) := Lib.hid (by
        rw [HX.out, DIV.out _ (by omega)]
        congr 2
        omega)
      have t1 : c > 1 := by omega
      have e1 : c.tdiv 2 = (2 : Int) ^ j := by rw [hc, half_even]
      clear hc HX HC POW FITQ DIV F
      generalize hp : (2 : Int) ^ j = c0 at *
      have NC : Hid (c0 = (2 : Int) ^ j) := Lib.hid hp.symm
      have t2 : c0 < c := by have := Int.tdiv_eq_ediv_of_nonneg (a := c) (b := 2) (by omega); omega
      clear hp
      generalize x / 2 = x2 at *
      go_wp2_with (go_at_call 55; refine H.out.mono ?_; rintro e w' ⟨rfl, rfl⟩; clear H)
      go_roundw
      case rel => exact ⟨j, x2, c0, by omega, rfl, by go_num, trivial, NX, NC⟩
      case measure => simp [intOf]; omega
set_option maxHeartbeats 4000000 in
theorem in_any (n lo hi : Int) (has : Bool) (w : World) : Calls Try.prog 63 #[.int .i64 n, .int .i64 lo, .int .i64 hi, .bool has] w fun e w' => e = .returned (.bool (inB n lo hi has)) ∧ w = w' := by
  cases has with
  | false =>
    show Calls _ _ _ _ fun e w' => e = .returned (.bool (decide (n = 0))) ∧ _
    obtain ⟨b, hb⟩ : ∃ b, (n == 0) = b := ⟨_, rfl⟩
    have e1 : decide (n = 0) = b := by rw [← hb]; rfl
    rw [e1]
    clear e1
    go_enter Try.func63, Try.ntmps63
    go_wp2
    go_ret
    exact ⟨rfl, rfl⟩
  | true =>
    show Calls _ _ _ _ fun e w' => e = .returned (.bool (decide (lo ≤ n) && decide (n ≤ hi))) ∧ _
    obtain ⟨b1, t1⟩ : ∃ b, decide (lo ≤ n) = b := ⟨_, rfl⟩
    obtain ⟨b2, t2⟩ : ∃ b, decide (n ≤ hi) = b := ⟨_, rfl⟩
    rw [t1, t2]
    cases b1 with
    | false =>
      go_enter Try.func63, Try.ntmps63
      go_wp2
      go_ret
      exact ⟨rfl, rfl⟩
    | true =>
      go_enter Try.func63, Try.ntmps63
      go_wp2
      go_ret
      exact ⟨rfl, rfl⟩

set_option maxHeartbeats 8000000 in
theorem rightid_any (s i g : Int) (w : World) : Calls Try.prog 59 #[.agg #[.int .i64 s, .int .i64 i, .int .i64 g]] w fun e w' => e = .returned (.bool (rightID s i g)) ∧ Below w.heap.size w w' := by
  have FIN := Lib.hid (bel1 w (.cells #[.int .i64 s, .int .i64 i, .int .i64 g] 34))
  obtain ⟨⟨c0, c1, c2⟩, _⟩ := Bx.b3 (at1 w (.cells #[.int .i64 s, .int .i64 i, .int .i64 g] 34))
  unfold rightID
  obtain ⟨b1, t1⟩ : ∃ b, decide (s ≥ 0) = b := ⟨_, rfl⟩
  obtain ⟨b2, t2⟩ : ∃ b, decide (s ≤ 15) = b := ⟨_, rfl⟩
  obtain ⟨b3, t3⟩ : ∃ b, decide (i ≥ 0) = b := ⟨_, rfl⟩
  obtain ⟨b4, t4⟩ : ∃ b, decide (i ≤ 15) = b := ⟨_, rfl⟩
  obtain ⟨b5, t5⟩ : ∃ b, decide (g ≥ 0) = b := ⟨_, rfl⟩
  obtain ⟨b6, t6⟩ : ∃ b, decide (g < 1048576) = b := ⟨_, rfl⟩
  rw [t1, t2, t3, t4, t5, t6]
  generalize hww : w.alloc (.cells #[.int .i64 s, .int .i64 i, .int .i64 g] 34) = w1 at *
  cases b1 with
  | false =>
    go_enter Try.func59, Try.ntmps59
    go_wp2
    go_ret
    exact ⟨rfl, FIN.out⟩
  | true =>
    cases b2 with
    | false =>
      go_enter Try.func59, Try.ntmps59
      go_wp2
      go_ret
      exact ⟨rfl, FIN.out⟩
    | true =>
      cases b3 with
      | false =>
        go_enter Try.func59, Try.ntmps59
        go_wp2
        go_ret
        exact ⟨rfl, FIN.out⟩
      | true =>
        cases b4 with
        | false =>
          go_enter Try.func59, Try.ntmps59
          go_wp2
          go_ret
          exact ⟨rfl, FIN.out⟩
        | true =>
          cases b5 with
          | false =>
            go_enter Try.func59, Try.ntmps59
            go_wp2
            go_ret
            exact ⟨rfl, FIN.out⟩
          | true =>
            go_enter Try.func59, Try.ntmps59
            go_wp2
            go_ret
            exact ⟨rfl, FIN.out⟩
end Go.Proofs.Yteollbioeamciaa
namespace Go.Proofs.Yteollbioeamciaa
open Go.RowKit Pz
set_option linter.unusedVariables false

theorem quiet_same {P : Program} {f : FuncId} {args : Array Value} {w : World} {n : Nat} {v : Value}
    (h : Calls P f args (w.drewN n) fun e w' => e = .returned v ∧ w.drewN n = w') : Calls P f args (w.drewN n) fun e w'' => e = .returned v ∧ ∃ m, w'' = w.drewN m := Calls.quiet_of_same (still_of h)
theorem dn_cell {w : World} {p : Addr} {v : Option Value} (n : Nat) (h : w.cell? p = v) : (w.drewN n).cell? p = v := h
set_option maxHeartbeats 16000000 in
set_option maxRecDepth 100000 in
theorem right_any (b : Bn) (hm : Fit b.m) (w : World) : Calls Try.prog 60 #[b.val] w fun e w' => e = .returned (.bool (right b)) ∧ Below w.heap.size w w' := by
  have B0 : Hid (∀ W, Calls Try.prog 43 #[.int .i64 b.m, .int .i64 1] W fun e w' => e = .returned (.bool (bitB b.m 0)) ∧ W = w') := Lib.hid fun W => bit_any b.m hm 0 (by decide) W
  have B1 : Hid (∀ W, Calls Try.prog 43 #[.int .i64 b.m, .int .i64 2] W fun e w' => e = .returned (.bool (bitB b.m 1)) ∧ W = w') := Lib.hid fun W => bit_any b.m hm 1 (by decide) W
  have B2 : Hid (∀ W, Calls Try.prog 43 #[.int .i64 b.m, .int .i64 4] W fun e w' => e = .returned (.bool (bitB b.m 2)) ∧ W = w') := Lib.hid fun W => bit_any b.m hm 2 (by decide) W
  have B3 : Hid (∀ W, Calls Try.prog 43 #[.int .i64 b.m, .int .i64 8] W fun e w' => e = .returned (.bool (bitB b.m 3)) ∧ W = w') := Lib.hid fun W => bit_any b.m hm 3 (by decide) W
  have B4 : Hid (∀ W, Calls Try.prog 43 #[.int .i64 b.m, .int .i64 16] W fun e w' => e = .returned (.bool (bitB b.m 4)) ∧ W = w') := Lib.hid fun W => bit_any b.m hm 4 (by decide) W
  obtain ⟨s, i, g, m, x, y, vx, vy, h, p, l⟩ := b
  unfold right
  simp only at *
  clear hm
  have FIN := Lib.hid (bel1 w (.cells #[.int .i64 s, .int .i64 i, .int .i64 g, .int .i64 m, .int .i64 x, .int .i64 y, .int .i64 vx, .int .i64 vy, .int .i64 h, .int .i64 p, .int .i64 l] 36))
  obtain ⟨⟨k0, k1, k2, k3, k4, k5, k6, k7, k8, k9, k10⟩, _⟩ := Bx.b11 (at1 w (.cells #[.int .i64 s, .int .i64 i, .int .i64 g, .int .i64 m, .int .i64 x, .int .i64 y, .int .i64 vx, .int .i64 vy, .int .i64 h, .int .i64 p, .int .i64 l] 36))
  generalize bitB m 0 = t0 at *
  generalize bitB m 1 = t1 at *
  generalize bitB m 2 = t2 at *
  generalize bitB m 3 = t3 at *
  generalize bitB m 4 = t4 at *
  obtain ⟨b1, e1⟩ : ∃ b, decide (m < 0) = b := ⟨_, rfl⟩
  obtain ⟨b2, e2⟩ : ∃ b, decide (m > 31) = b := ⟨_, rfl⟩
  obtain ⟨c1, f1⟩ : ∃ c, inB x (-1073741824) 1073741824 t0 = c := ⟨_, rfl⟩
  have I1 : Hid (∀ W, Calls Try.prog 63 #[.int .i64 x, .int .i64 (-1073741824), .int .i64 1073741824, .bool t0] W fun e w' => e = .returned (.bool c1) ∧ W = w') := Lib.hid fun W => by
    have := in_any x (-1073741824) 1073741824 t0 W
    rw [f1] at this
    exact this
  obtain ⟨c2, f2⟩ : ∃ c, inB y (-1073741824) 1073741824 t0 = c := ⟨_, rfl⟩
  have I2 : Hid (∀ W, Calls Try.prog 63 #[.int .i64 y, .int .i64 (-1073741824), .int .i64 1073741824, .bool t0] W fun e w' => e = .returned (.bool c2) ∧ W = w') := Lib.hid fun W => by
    have := in_any y (-1073741824) 1073741824 t0 W
    rw [f2] at this
    exact this
  obtain ⟨c3, f3⟩ : ∃ c, inB vx (-1073741824) 1073741824 t1 = c := ⟨_, rfl⟩
  have I3 : Hid (∀ W, Calls Try.prog 63 #[.int .i64 vx, .int .i64 (-1073741824), .int .i64 1073741824, .bool t1] W fun e w' => e = .returned (.bool c3) ∧ W = w') := Lib.hid fun W => by
    have := in_any vx (-1073741824) 1073741824 t1 W
    rw [f3] at this
    exact this
  obtain ⟨c4, f4⟩ : ∃ c, inB vy (-1073741824) 1073741824 t1 = c := ⟨_, rfl⟩
  have I4 : Hid (∀ W, Calls Try.prog 63 #[.int .i64 vy, .int .i64 (-1073741824), .int .i64 1073741824, .bool t1] W fun e w' => e = .returned (.bool c4) ∧ W = w') := Lib.hid fun W => by
    have := in_any vy (-1073741824) 1073741824 t1 W
    rw [f4] at this
    exact this
  obtain ⟨c5, f5⟩ : ∃ c, inB h 1 1048576 t2 = c := ⟨_, rfl⟩
  have I5 : Hid (∀ W, Calls Try.prog 63 #[.int .i64 h, .int .i64 1, .int .i64 1048576, .bool t2] W fun e w' => e = .returned (.bool c5) ∧ W = w') := Lib.hid fun W => by
    have := in_any h 1 1048576 t2 W
    rw [f5] at this
    exact this
  obtain ⟨c6, f6⟩ : ∃ c, inB p 0 1024 t3 = c := ⟨_, rfl⟩
  have I6 : Hid (∀ W, Calls Try.prog 63 #[.int .i64 p, .int .i64 0, .int .i64 1024, .bool t3] W fun e w' => e = .returned (.bool c6) ∧ W = w') := Lib.hid fun W => by
    have := in_any p 0 1024 t3 W
    rw [f6] at this
    exact this
  obtain ⟨c7, f7⟩ : ∃ c, inB l 1 1048576 t4 = c := ⟨_, rfl⟩
  have I7 : Hid (∀ W, Calls Try.prog 63 #[.int .i64 l, .int .i64 1, .int .i64 1048576, .bool t4] W fun e w' => e = .returned (.bool c7) ∧ W = w') := Lib.hid fun W => by
    have := in_any l 1 1048576 t4 W
    rw [f7] at this
    exact this
  rw [e1, e2, f1, f2, f3, f4, f5, f6, f7]
  clear f1 f2 f3 f4 f5 f6 f7
  generalize hww : w.alloc (.cells #[.int .i64 s, .int .i64 i, .int .i64 g, .int .i64 m, .int .i64 x, .int .i64 y, .int .i64 vx, .int .i64 vy, .int .i64 h, .int .i64 p, .int .i64 l] 36) = w1 at *
  cases b1 with
  | true =>
    go_enter Try.func60, Try.ntmps60
    go_wp2
    go_ret
    exact ⟨rfl, FIN.out⟩
  | false =>
    cases b2 with
    | true =>
      go_enter Try.func60, Try.ntmps60
      go_wp2
      go_ret
      exact ⟨rfl, FIN.out⟩
    | false =>
      cases c1 with
      | false =>
        go_enter Try.func60, Try.ntmps60
        go_wp2
        go_quiet (first | (go_at_call 43; with_reducible exact quiet_same (B0.out _)) | (go_at_call 43; with_reducible exact quiet_same (B1.out _)) | (go_at_call 43; with_reducible exact quiet_same (B2.out _)) | (go_at_call 43; with_reducible exact quiet_same (B3.out _)) | (go_at_call 43; with_reducible exact quiet_same (B4.out _)) | (go_at_call 63; with_reducible exact quiet_same (I1.out _)) | (go_at_call 63; with_reducible exact quiet_same (I2.out _)) | (go_at_call 63; with_reducible exact quiet_same (I3.out _)) | (go_at_call 63; with_reducible exact quiet_same (I4.out _)) | (go_at_call 63; with_reducible exact quiet_same (I5.out _)) | (go_at_call 63; with_reducible exact quiet_same (I6.out _)) | (go_at_call 63; with_reducible exact quiet_same (I7.out _)))
        rename_i nq
        replace k0 := dn_cell nq k0
        replace k1 := dn_cell nq k1
        replace k2 := dn_cell nq k2
        replace k3 := dn_cell nq k3
        replace k4 := dn_cell nq k4
        replace k5 := dn_cell nq k5
        replace k6 := dn_cell nq k6
        replace k7 := dn_cell nq k7
        replace k8 := dn_cell nq k8
        replace k9 := dn_cell nq k9
        replace k10 := dn_cell nq k10
        replace FIN := Lib.hid (Below.dn' FIN.out nq)
        generalize w1.drewN nq = w2 at *
        go_wp2
        go_ret
        exact ⟨rfl, FIN.out⟩
      | true =>
        cases c2 with
        | false =>
          go_enter Try.func60, Try.ntmps60
          go_wp2
          go_quiet (first | (go_at_call 43; with_reducible exact quiet_same (B0.out _)) | (go_at_call 43; with_reducible exact quiet_same (B1.out _)) | (go_at_call 43; with_reducible exact quiet_same (B2.out _)) | (go_at_call 43; with_reducible exact quiet_same (B3.out _)) | (go_at_call 43; with_reducible exact quiet_same (B4.out _)) | (go_at_call 63; with_reducible exact quiet_same (I1.out _)) | (go_at_call 63; with_reducible exact quiet_same (I2.out _)) | (go_at_call 63; with_reducible exact quiet_same (I3.out _)) | (go_at_call 63; with_reducible exact quiet_same (I4.out _)) | (go_at_call 63; with_reducible exact quiet_same (I5.out _)) | (go_at_call 63; with_reducible exact quiet_same (I6.out _)) | (go_at_call 63; with_reducible exact quiet_same (I7.out _)))
          rename_i nq
          replace k0 := dn_cell nq k0
          replace k1 := dn_cell nq k1
          replace k2 := dn_cell nq k2
          replace k3 := dn_cell nq k3
          replace k4 := dn_cell nq k4
          replace k5 := dn_cell nq k5
          replace k6 := dn_cell nq k6
          replace k7 := dn_cell nq k7
          replace k8 := dn_cell nq k8
          replace k9 := dn_cell nq k9
          replace k10 := dn_cell nq k10
          replace FIN := Lib.hid (Below.dn' FIN.out nq)
          generalize w1.drewN nq = w2 at *
          go_wp2
          go_ret
          exact ⟨rfl, FIN.out⟩
        | true =>
          cases c3 with
          | false =>
            go_enter Try.func60, Try.ntmps60
            go_wp2
            go_quiet (first | (go_at_call 43; with_reducible exact quiet_same (B0.out _)) | (go_at_call 43; with_reducible exact quiet_same (B1.out _)) | (go_at_call 43; with_reducible exact quiet_same (B2.out _)) | (go_at_call 43; with_reducible exact quiet_same (B3.out _)) | (go_at_call 43; with_reducible exact quiet_same (B4.out _)) | (go_at_call 63; with_reducible exact quiet_same (I1.out _)) | (go_at_call 63; with_reducible exact quiet_same (I2.out _)) | (go_at_call 63; with_reducible exact quiet_same (I3.out _)) | (go_at_call 63; with_reducible exact quiet_same (I4.out _)) | (go_at_call 63; with_reducible exact quiet_same (I5.out _)) | (go_at_call 63; with_reducible exact quiet_same (I6.out _)) | (go_at_call 63; with_reducible exact quiet_same (I7.out _)))
            rename_i nq
            replace k0 := dn_cell nq k0
            replace k1 := dn_cell nq k1
            replace k2 := dn_cell nq k2
            replace k3 := dn_cell nq k3
            replace k4 := dn_cell nq k4
            replace k5 := dn_cell nq k5
            replace k6 := dn_cell nq k6
            replace k7 := dn_cell nq k7
            replace k8 := dn_cell nq k8
            replace k9 := dn_cell nq k9
            replace k10 := dn_cell nq k10
            replace FIN := Lib.hid (Below.dn' FIN.out nq)
            generalize w1.drewN nq = w2 at *
            go_wp2
            go_quiet (first | (go_at_call 43; with_reducible exact quiet_same (B0.out _)) | (go_at_call 43; with_reducible exact quiet_same (B1.out _)) | (go_at_call 43; with_reducible exact quiet_same (B2.out _)) | (go_at_call 43; with_reducible exact quiet_same (B3.out _)) | (go_at_call 43; with_reducible exact quiet_same (B4.out _)) | (go_at_call 63; with_reducible exact quiet_same (I1.out _)) | (go_at_call 63; with_reducible exact quiet_same (I2.out _)) | (go_at_call 63; with_reducible exact quiet_same (I3.out _)) | (go_at_call 63; with_reducible exact quiet_same (I4.out _)) | (go_at_call 63; with_reducible exact quiet_same (I5.out _)) | (go_at_call 63; with_reducible exact quiet_same (I6.out _)) | (go_at_call 63; with_reducible exact quiet_same (I7.out _)))
            rename_i nq
            replace k0 := dn_cell nq k0
            replace k1 := dn_cell nq k1
            replace k2 := dn_cell nq k2
            replace k3 := dn_cell nq k3
            replace k4 := dn_cell nq k4
            replace k5 := dn_cell nq k5
            replace k6 := dn_cell nq k6
            replace k7 := dn_cell nq k7
            replace k8 := dn_cell nq k8
            replace k9 := dn_cell nq k9
            replace k10 := dn_cell nq k10
            replace FIN := Lib.hid (Below.dn' FIN.out nq)
            generalize w2.drewN nq = w3 at *
            go_wp2
            go_ret
            exact ⟨rfl, FIN.out⟩
          | true =>
            cases c4 with
            | false =>
              go_enter Try.func60, Try.ntmps60
              go_wp2
              go_quiet (first | (go_at_call 43; with_reducible exact quiet_same (B0.out _)) | (go_at_call 43; with_reducible exact quiet_same (B1.out _)) | (go_at_call 43; with_reducible exact quiet_same (B2.out _)) | (go_at_call 43; with_reducible exact quiet_same (B3.out _)) | (go_at_call 43; with_reducible exact quiet_same (B4.out _)) | (go_at_call 63; with_reducible exact quiet_same (I1.out _)) | (go_at_call 63; with_reducible exact quiet_same (I2.out _)) | (go_at_call 63; with_reducible exact quiet_same (I3.out _)) | (go_at_call 63; with_reducible exact quiet_same (I4.out _)) | (go_at_call 63; with_reducible exact quiet_same (I5.out _)) | (go_at_call 63; with_reducible exact quiet_same (I6.out _)) | (go_at_call 63; with_reducible exact quiet_same (I7.out _)))
              rename_i nq
              replace k0 := dn_cell nq k0
              replace k1 := dn_cell nq k1
              replace k2 := dn_cell nq k2
              replace k3 := dn_cell nq k3
              replace k4 := dn_cell nq k4
              replace k5 := dn_cell nq k5
              replace k6 := dn_cell nq k6
              replace k7 := dn_cell nq k7
              replace k8 := dn_cell nq k8
              replace k9 := dn_cell nq k9
              replace k10 := dn_cell nq k10
              replace FIN := Lib.hid (Below.dn' FIN.out nq)
              generalize w1.drewN nq = w2 at *
              go_wp2
              go_quiet (first | (go_at_call 43; with_reducible exact quiet_same (B0.out _)) | (go_at_call 43; with_reducible exact quiet_same (B1.out _)) | (go_at_call 43; with_reducible exact quiet_same (B2.out _)) | (go_at_call 43; with_reducible exact quiet_same (B3.out _)) | (go_at_call 43; with_reducible exact quiet_same (B4.out _)) | (go_at_call 63; with_reducible exact quiet_same (I1.out _)) | (go_at_call 63; with_reducible exact quiet_same (I2.out _)) | (go_at_call 63; with_reducible exact quiet_same (I3.out _)) | (go_at_call 63; with_reducible exact quiet_same (I4.out _)) | (go_at_call 63; with_reducible exact quiet_same (I5.out _)) | (go_at_call 63; with_reducible exact quiet_same (I6.out _)) | (go_at_call 63; with_reducible exact quiet_same (I7.out _)))
              rename_i nq
              replace k0 := dn_cell nq k0
              replace k1 := dn_cell nq k1
              replace k2 := dn_cell nq k2
              replace k3 := dn_cell nq k3
              replace k4 := dn_cell nq k4
              replace k5 := dn_cell nq k5
              replace k6 := dn_cell nq k6
              replace k7 := dn_cell nq k7
              replace k8 := dn_cell nq k8
              replace k9 := dn_cell nq k9
              replace k10 := dn_cell nq k10
              replace FIN := Lib.hid (Below.dn' FIN.out nq)
              generalize w2.drewN nq = w3 at *
              go_wp2
              go_ret
              exact ⟨rfl, FIN.out⟩
            | true =>
              cases c5 with
              | false =>
                go_enter Try.func60, Try.ntmps60
                go_wp2
                go_quiet (first | (go_at_call 43; with_reducible exact quiet_same (B0.out _)) | (go_at_call 43; with_reducible exact quiet_same (B1.out _)) | (go_at_call 43; with_reducible exact quiet_same (B2.out _)) | (go_at_call 43; with_reducible exact quiet_same (B3.out _)) | (go_at_call 43; with_reducible exact quiet_same (B4.out _)) | (go_at_call 63; with_reducible exact quiet_same (I1.out _)) | (go_at_call 63; with_reducible exact quiet_same (I2.out _)) | (go_at_call 63; with_reducible exact quiet_same (I3.out _)) | (go_at_call 63; with_reducible exact quiet_same (I4.out _)) | (go_at_call 63; with_reducible exact quiet_same (I5.out _)) | (go_at_call 63; with_reducible exact quiet_same (I6.out _)) | (go_at_call 63; with_reducible exact quiet_same (I7.out _)))
                rename_i nq
                replace k0 := dn_cell nq k0
                replace k1 := dn_cell nq k1
                replace k2 := dn_cell nq k2
                replace k3 := dn_cell nq k3
                replace k4 := dn_cell nq k4
                replace k5 := dn_cell nq k5
                replace k6 := dn_cell nq k6
                replace k7 := dn_cell nq k7
                replace k8 := dn_cell nq k8
                replace k9 := dn_cell nq k9
                replace k10 := dn_cell nq k10
                replace FIN := Lib.hid (Below.dn' FIN.out nq)
                generalize w1.drewN nq = w2 at *
                go_wp2
                go_quiet (first | (go_at_call 43; with_reducible exact quiet_same (B0.out _)) | (go_at_call 43; with_reducible exact quiet_same (B1.out _)) | (go_at_call 43; with_reducible exact quiet_same (B2.out _)) | (go_at_call 43; with_reducible exact quiet_same (B3.out _)) | (go_at_call 43; with_reducible exact quiet_same (B4.out _)) | (go_at_call 63; with_reducible exact quiet_same (I1.out _)) | (go_at_call 63; with_reducible exact quiet_same (I2.out _)) | (go_at_call 63; with_reducible exact quiet_same (I3.out _)) | (go_at_call 63; with_reducible exact quiet_same (I4.out _)) | (go_at_call 63; with_reducible exact quiet_same (I5.out _)) | (go_at_call 63; with_reducible exact quiet_same (I6.out _)) | (go_at_call 63; with_reducible exact quiet_same (I7.out _)))
                rename_i nq
                replace k0 := dn_cell nq k0
                replace k1 := dn_cell nq k1
                replace k2 := dn_cell nq k2
                replace k3 := dn_cell nq k3
                replace k4 := dn_cell nq k4
                replace k5 := dn_cell nq k5
                replace k6 := dn_cell nq k6
                replace k7 := dn_cell nq k7
                replace k8 := dn_cell nq k8
                replace k9 := dn_cell nq k9
                replace k10 := dn_cell nq k10
                replace FIN := Lib.hid (Below.dn' FIN.out nq)
                generalize w2.drewN nq = w3 at *
                go_wp2
                go_quiet (first | (go_at_call 43; with_reducible exact quiet_same (B0.out _)) | (go_at_call 43; with_reducible exact quiet_same (B1.out _)) | (go_at_call 43; with_reducible exact quiet_same (B2.out _)) | (go_at_call 43; with_reducible exact quiet_same (B3.out _)) | (go_at_call 43; with_reducible exact quiet_same (B4.out _)) | (go_at_call 63; with_reducible exact quiet_same (I1.out _)) | (go_at_call 63; with_reducible exact quiet_same (I2.out _)) | (go_at_call 63; with_reducible exact quiet_same (I3.out _)) | (go_at_call 63; with_reducible exact quiet_same (I4.out _)) | (go_at_call 63; with_reducible exact quiet_same (I5.out _)) | (go_at_call 63; with_reducible exact quiet_same (I6.out _)) | (go_at_call 63; with_reducible exact quiet_same (I7.out _)))
                rename_i nq
                replace k0 := dn_cell nq k0
                replace k1 := dn_cell nq k1
                replace k2 := dn_cell nq k2
                replace k3 := dn_cell nq k3
                replace k4 := dn_cell nq k4
                replace k5 := dn_cell nq k5
                replace k6 := dn_cell nq k6
                replace k7 := dn_cell nq k7
                replace k8 := dn_cell nq k8
                replace k9 := dn_cell nq k9
                replace k10 := dn_cell nq k10
                replace FIN := Lib.hid (Below.dn' FIN.out nq)
                generalize w3.drewN nq = w4 at *
                go_wp2
                go_ret
                exact ⟨rfl, FIN.out⟩
              | true =>
                cases c6 with
                | false =>
                  go_enter Try.func60, Try.ntmps60
                  go_wp2
                  go_quiet (first | (go_at_call 43; with_reducible exact quiet_same (B0.out _)) | (go_at_call 43; with_reducible exact quiet_same (B1.out _)) | (go_at_call 43; with_reducible exact quiet_same (B2.out _)) | (go_at_call 43; with_reducible exact quiet_same (B3.out _)) | (go_at_call 43; with_reducible exact quiet_same (B4.out _)) | (go_at_call 63; with_reducible exact quiet_same (I1.out _)) | (go_at_call 63; with_reducible exact quiet_same (I2.out _)) | (go_at_call 63; with_reducible exact quiet_same (I3.out _)) | (go_at_call 63; with_reducible exact quiet_same (I4.out _)) | (go_at_call 63; with_reducible exact quiet_same (I5.out _)) | (go_at_call 63; with_reducible exact quiet_same (I6.out _)) | (go_at_call 63; with_reducible exact quiet_same (I7.out _)))
                  rename_i nq
                  replace k0 := dn_cell nq k0
                  replace k1 := dn_cell nq k1
                  replace k2 := dn_cell nq k2
                  replace k3 := dn_cell nq k3
                  replace k4 := dn_cell nq k4
                  replace k5 := dn_cell nq k5
                  replace k6 := dn_cell nq k6
                  replace k7 := dn_cell nq k7
                  replace k8 := dn_cell nq k8
                  replace k9 := dn_cell nq k9
                  replace k10 := dn_cell nq k10
                  replace FIN := Lib.hid (Below.dn' FIN.out nq)
                  generalize w1.drewN nq = w2 at *
                  go_wp2
                  go_quiet (first | (go_at_call 43; with_reducible exact quiet_same (B0.out _)) | (go_at_call 43; with_reducible exact quiet_same (B1.out _)) | (go_at_call 43; with_reducible exact quiet_same (B2.out _)) | (go_at_call 43; with_reducible exact quiet_same (B3.out _)) | (go_at_call 43; with_reducible exact quiet_same (B4.out _)) | (go_at_call 63; with_reducible exact quiet_same (I1.out _)) | (go_at_call 63; with_reducible exact quiet_same (I2.out _)) | (go_at_call 63; with_reducible exact quiet_same (I3.out _)) | (go_at_call 63; with_reducible exact quiet_same (I4.out _)) | (go_at_call 63; with_reducible exact quiet_same (I5.out _)) | (go_at_call 63; with_reducible exact quiet_same (I6.out _)) | (go_at_call 63; with_reducible exact quiet_same (I7.out _)))
                  rename_i nq
                  replace k0 := dn_cell nq k0
                  replace k1 := dn_cell nq k1
                  replace k2 := dn_cell nq k2
                  replace k3 := dn_cell nq k3
                  replace k4 := dn_cell nq k4
                  replace k5 := dn_cell nq k5
                  replace k6 := dn_cell nq k6
                  replace k7 := dn_cell nq k7
                  replace k8 := dn_cell nq k8
                  replace k9 := dn_cell nq k9
                  replace k10 := dn_cell nq k10
                  replace FIN := Lib.hid (Below.dn' FIN.out nq)
                  generalize w2.drewN nq = w3 at *
                  go_wp2
                  go_quiet (first | (go_at_call 43; with_reducible exact quiet_same (B0.out _)) | (go_at_call 43; with_reducible exact quiet_same (B1.out _)) | (go_at_call 43; with_reducible exact quiet_same (B2.out _)) | (go_at_call 43; with_reducible exact quiet_same (B3.out _)) | (go_at_call 43; with_reducible exact quiet_same (B4.out _)) | (go_at_call 63; with_reducible exact quiet_same (I1.out _)) | (go_at_call 63; with_reducible exact quiet_same (I2.out _)) | (go_at_call 63; with_reducible exact quiet_same (I3.out _)) | (go_at_call 63; with_reducible exact quiet_same (I4.out _)) | (go_at_call 63; with_reducible exact quiet_same (I5.out _)) | (go_at_call 63; with_reducible exact quiet_same (I6.out _)) | (go_at_call 63; with_reducible exact quiet_same (I7.out _)))
                  rename_i nq
                  replace k0 := dn_cell nq k0
                  replace k1 := dn_cell nq k1
                  replace k2 := dn_cell nq k2
                  replace k3 := dn_cell nq k3
                  replace k4 := dn_cell nq k4
                  replace k5 := dn_cell nq k5
                  replace k6 := dn_cell nq k6
                  replace k7 := dn_cell nq k7
                  replace k8 := dn_cell nq k8
                  replace k9 := dn_cell nq k9
                  replace k10 := dn_cell nq k10
                  replace FIN := Lib.hid (Below.dn' FIN.out nq)
                  generalize w3.drewN nq = w4 at *
                  go_wp2
                  go_ret
                  exact ⟨rfl, FIN.out⟩
                | true =>
                  go_enter Try.func60, Try.ntmps60
                  go_wp2
                  go_quiet (first | (go_at_call 43; with_reducible exact quiet_same (B0.out _)) | (go_at_call 43; with_reducible exact quiet_same (B1.out _)) | (go_at_call 43; with_reducible exact quiet_same (B2.out _)) | (go_at_call 43; with_reducible exact quiet_same (B3.out _)) | (go_at_call 43; with_reducible exact quiet_same (B4.out _)) | (go_at_call 63; with_reducible exact quiet_same (I1.out _)) | (go_at_call 63; with_reducible exact quiet_same (I2.out _)) | (go_at_call 63; with_reducible exact quiet_same (I3.out _)) | (go_at_call 63; with_reducible exact quiet_same (I4.out _)) | (go_at_call 63; with_reducible exact quiet_same (I5.out _)) | (go_at_call 63; with_reducible exact quiet_same (I6.out _)) | (go_at_call 63; with_reducible exact quiet_same (I7.out _)))
                  rename_i nq
                  replace k0 := dn_cell nq k0
                  replace k1 := dn_cell nq k1
                  replace k2 := dn_cell nq k2
                  replace k3 := dn_cell nq k3
                  replace k4 := dn_cell nq k4
                  replace k5 := dn_cell nq k5
                  replace k6 := dn_cell nq k6
                  replace k7 := dn_cell nq k7
                  replace k8 := dn_cell nq k8
                  replace k9 := dn_cell nq k9
                  replace k10 := dn_cell nq k10
                  replace FIN := Lib.hid (Below.dn' FIN.out nq)
                  generalize w1.drewN nq = w2 at *
                  go_wp2
                  go_quiet (first | (go_at_call 43; with_reducible exact quiet_same (B0.out _)) | (go_at_call 43; with_reducible exact quiet_same (B1.out _)) | (go_at_call 43; with_reducible exact quiet_same (B2.out _)) | (go_at_call 43; with_reducible exact quiet_same (B3.out _)) | (go_at_call 43; with_reducible exact quiet_same (B4.out _)) | (go_at_call 63; with_reducible exact quiet_same (I1.out _)) | (go_at_call 63; with_reducible exact quiet_same (I2.out _)) | (go_at_call 63; with_reducible exact quiet_same (I3.out _)) | (go_at_call 63; with_reducible exact quiet_same (I4.out _)) | (go_at_call 63; with_reducible exact quiet_same (I5.out _)) | (go_at_call 63; with_reducible exact quiet_same (I6.out _)) | (go_at_call 63; with_reducible exact quiet_same (I7.out _)))
                  rename_i nq
                  replace k0 := dn_cell nq k0
                  replace k1 := dn_cell nq k1
                  replace k2 := dn_cell nq k2
                  replace k3 := dn_cell nq k3
                  replace k4 := dn_cell nq k4
                  replace k5 := dn_cell nq k5
                  replace k6 := dn_cell nq k6
                  replace k7 := dn_cell nq k7
                  replace k8 := dn_cell nq k8
                  replace k9 := dn_cell nq k9
                  replace k10 := dn_cell nq k10
                  replace FIN := Lib.hid (Below.dn' FIN.out nq)
                  generalize w2.drewN nq = w3 at *
                  go_wp2
                  go_quiet (first | (go_at_call 43; with_reducible exact quiet_same (B0.out _)) | (go_at_call 43; with_reducible exact quiet_same (B1.out _)) | (go_at_call 43; with_reducible exact quiet_same (B2.out _)) | (go_at_call 43; with_reducible exact quiet_same (B3.out _)) | (go_at_call 43; with_reducible exact quiet_same (B4.out _)) | (go_at_call 63; with_reducible exact quiet_same (I1.out _)) | (go_at_call 63; with_reducible exact quiet_same (I2.out _)) | (go_at_call 63; with_reducible exact quiet_same (I3.out _)) | (go_at_call 63; with_reducible exact quiet_same (I4.out _)) | (go_at_call 63; with_reducible exact quiet_same (I5.out _)) | (go_at_call 63; with_reducible exact quiet_same (I6.out _)) | (go_at_call 63; with_reducible exact quiet_same (I7.out _)))
                  rename_i nq
                  replace k0 := dn_cell nq k0
                  replace k1 := dn_cell nq k1
                  replace k2 := dn_cell nq k2
                  replace k3 := dn_cell nq k3
                  replace k4 := dn_cell nq k4
                  replace k5 := dn_cell nq k5
                  replace k6 := dn_cell nq k6
                  replace k7 := dn_cell nq k7
                  replace k8 := dn_cell nq k8
                  replace k9 := dn_cell nq k9
                  replace k10 := dn_cell nq k10
                  replace FIN := Lib.hid (Below.dn' FIN.out nq)
                  generalize w3.drewN nq = w4 at *
                  go_wp2
                  go_ret
                  exact ⟨rfl, FIN.out⟩
set_option maxHeartbeats 8000000 in
theorem may_any (b : Bn) (hm : Fit b.m) (w : World) : Calls Try.prog 50 #[b.val] w fun e w' => e = .returned (.bool (may b)) ∧ Below w.heap.size w w' := by
  have B0 : Hid (∀ W, Calls Try.prog 43 #[.int .i64 b.m, .int .i64 1] W fun e w' => e = .returned (.bool (bitB b.m 0)) ∧ W = w') := Lib.hid fun W => bit_any b.m hm 0 (by decide) W
  have R1 : Hid (∀ W, Calls Try.prog 59 #[.agg #[.int .i64 b.s, .int .i64 b.i, .int .i64 b.g]] W fun e w' => e = .returned (.bool (rightID b.s b.i b.g)) ∧ Below W.heap.size W w') := Lib.hid fun W => rightid_any _ _ _ W
  have R2 : Hid (∀ W, Calls Try.prog 60 #[b.val] W fun e w' => e = .returned (.bool (right b)) ∧ Below W.heap.size W w') := Lib.hid fun W => right_any b hm W
  unfold may
  obtain ⟨r1, e1⟩ : ∃ r, rightID b.s b.i b.g = r := ⟨_, rfl⟩
  obtain ⟨r2, e2⟩ : ∃ r, right b = r := ⟨_, rfl⟩
  obtain ⟨r3, e3⟩ : ∃ r, bitB b.m 0 = r := ⟨_, rfl⟩
  rw [e1] at R1
  rw [e2] at R2
  rw [e3] at B0
  rw [e1, e2, e3]
  clear e1 e2 e3 hm
  obtain ⟨s, i, g, m, x, y, vx, vy, h, p, l⟩ := b
  simp only at *
  have H0 := at1 w (.cells #[.int .i64 s, .int .i64 i, .int .i64 g, .int .i64 m, .int .i64 x, .int .i64 y, .int .i64 vx, .int .i64 vy, .int .i64 h, .int .i64 p, .int .i64 l] 36)
  have B1 := bel1 w (.cells #[.int .i64 s, .int .i64 i, .int .i64 g, .int .i64 m, .int .i64 x, .int .i64 y, .int .i64 vx, .int .i64 vy, .int .i64 h, .int .i64 p, .int .i64 l] 36)
  have CE : Hid (∀ W, Below (w.alloc (.cells #[.int .i64 s, .int .i64 i, .int .i64 g, .int .i64 m, .int .i64 x, .int .i64 y, .int .i64 vx, .int .i64 vy, .int .i64 h, .int .i64 p, .int .i64 l] 36)).heap.size (w.alloc (.cells #[.int .i64 s, .int .i64 i, .int .i64 g, .int .i64 m, .int .i64 x, .int .i64 y, .int .i64 vx, .int .i64 vy, .int .i64 h, .int .i64 p, .int .i64 l] 36)) W → (W.cell? ⟨w.heap.size, 0, none⟩ = some (.int .i64 s) ∧ W.cell? ⟨w.heap.size, 1, none⟩ = some (.int .i64 i) ∧ W.cell? ⟨w.heap.size, 2, none⟩ = some (.int .i64 g) ∧ W.cell? ⟨w.heap.size, 3, none⟩ = some (.int .i64 m) ∧ W.cell? ⟨w.heap.size, 4, none⟩ = some (.int .i64 x) ∧ W.cell? ⟨w.heap.size, 5, none⟩ = some (.int .i64 y) ∧ W.cell? ⟨w.heap.size, 6, none⟩ = some (.int .i64 vx) ∧ W.cell? ⟨w.heap.size, 7, none⟩ = some (.int .i64 vy) ∧ W.cell? ⟨w.heap.size, 8, none⟩ = some (.int .i64 h) ∧ W.cell? ⟨w.heap.size, 9, none⟩ = some (.int .i64 p) ∧ W.cell? ⟨w.heap.size, 10, none⟩ = some (.int .i64 l)) ∧ Below w.heap.size w W) := Lib.hid fun W hW => ⟨(Bx.b11 ((hW.block _ (Bx.lt H0)).trans H0)).1, B1.trans (hW.mono B1.size)⟩
  obtain ⟨⟨k0, k1, k2, k3, k4, k5, k6, k7, k8, k9, k10⟩, HB⟩ := CE.out _ (Below.refl _ _)
  replace HB := Lib.hid HB
  clear H0 B1
  generalize hww : w.alloc (.cells #[.int .i64 s, .int .i64 i, .int .i64 g, .int .i64 m, .int .i64 x, .int .i64 y, .int .i64 vx, .int .i64 vy, .int .i64 h, .int .i64 p, .int .i64 l] 36) = w1 at *
  cases r1 with
  | false =>
    go_enter Try.func50, Try.ntmps50
    go_wp2_with (first
      | (go_at_call 59; refine (R1.out _).mono ?_; rintro e w2 ⟨rfl, hb2⟩; clear k0 k1 k2 k3 k4 k5 k6 k7 k8 k9 k10; obtain ⟨⟨k0, k1, k2, k3, k4, k5, k6, k7, k8, k9, k10⟩, HB⟩ := CE.out w2 hb2; replace HB := Lib.hid HB; have B2 := Lib.hid hb2; clear hb2)
      | (go_at_call 60; refine (R2.out _).mono ?_; rintro e w3 ⟨rfl, hb3⟩; clear k0 k1 k2 k3 k4 k5 k6 k7 k8 k9 k10; obtain ⟨⟨k0, k1, k2, k3, k4, k5, k6, k7, k8, k9, k10⟩, HB⟩ := CE.out w3 (B2.out.trans (hb3.mono B2.out.size)); replace HB := Lib.hid HB; clear hb3)
      | (go_at_call 43; refine (B0.out _).mono ?_; rintro e w' ⟨rfl, rfl⟩))
    go_ret
    exact ⟨rfl, HB.out⟩
  | true =>
    cases r2 with
    | false =>
      go_enter Try.func50, Try.ntmps50
      go_wp2_with (first
        | (go_at_call 59; refine (R1.out _).mono ?_; rintro e w2 ⟨rfl, hb2⟩; clear k0 k1 k2 k3 k4 k5 k6 k7 k8 k9 k10; obtain ⟨⟨k0, k1, k2, k3, k4, k5, k6, k7, k8, k9, k10⟩, HB⟩ := CE.out w2 hb2; replace HB := Lib.hid HB; have B2 := Lib.hid hb2; clear hb2)
        | (go_at_call 60; refine (R2.out _).mono ?_; rintro e w3 ⟨rfl, hb3⟩; clear k0 k1 k2 k3 k4 k5 k6 k7 k8 k9 k10; obtain ⟨⟨k0, k1, k2, k3, k4, k5, k6, k7, k8, k9, k10⟩, HB⟩ := CE.out w3 (B2.out.trans (hb3.mono B2.out.size)); replace HB := Lib.hid HB; clear hb3)
        | (go_at_call 43; refine (B0.out _).mono ?_; rintro e w' ⟨rfl, rfl⟩))
      go_ret
      exact ⟨rfl, HB.out⟩
    | true =>
      go_enter Try.func50, Try.ntmps50
      go_wp2_with (first
        | (go_at_call 59; refine (R1.out _).mono ?_; rintro e w2 ⟨rfl, hb2⟩; clear k0 k1 k2 k3 k4 k5 k6 k7 k8 k9 k10; obtain ⟨⟨k0, k1, k2, k3, k4, k5, k6, k7, k8, k9, k10⟩, HB⟩ := CE.out w2 hb2; replace HB := Lib.hid HB; have B2 := Lib.hid hb2; clear hb2)
        | (go_at_call 60; refine (R2.out _).mono ?_; rintro e w3 ⟨rfl, hb3⟩; clear k0 k1 k2 k3 k4 k5 k6 k7 k8 k9 k10; obtain ⟨⟨k0, k1, k2, k3, k4, k5, k6, k7, k8, k9, k10⟩, HB⟩ := CE.out w3 (B2.out.trans (hb3.mono B2.out.size)); replace HB := Lib.hid HB; clear hb3)
        | (go_at_call 43; refine (B0.out _).mono ?_; rintro e w' ⟨rfl, rfl⟩))
      go_ret
      exact ⟨rfl, HB.out⟩
end Go.Proofs.Yteollbioeamciaa
namespace Go.Proofs.Yteollbioeamciaa
open Go.RowKit Pz
set_option linter.unusedVariables false

theorem ite_and {a x : Int} {r : Result Bool} {c : Bool} {w : World} (h : r = .ok c w) : (if a = x then r else .ok false w) = .ok ((a == x) && c) w := by
  by_cases e : a = x
  · rw [if_pos e, beq_iff_eq.2 e, h]; rfl
  · rw [if_neg e, beq_eq_false_iff_ne.2 e]; rfl
theorem ite_end {a x : Int} {w : World} : (if a = x then Result.ok true w else .ok false w) = .ok (a == x) w := by
  by_cases e : a = x
  · rw [if_pos e, beq_iff_eq.2 e]
  · rw [if_neg e, beq_eq_false_iff_ne.2 e]
set_option maxRecDepth 100000 in
set_option maxHeartbeats 4000000 in
theorem eq_id (d : Nat) (p0 p1 p2 q0 q1 q2 : Int) (w : World) : (Op.equalIn (d + 2) 34 (.agg #[.int .i64 p0, .int .i64 p1, .int .i64 p2]) (.agg #[.int .i64 q0, .int .i64 q1, .int .i64 q2])).run Try.prog w = .ok ((p0 == q0) && ((p1 == q1) && (p2 == q2))) w := by
  have u3 := Try.underlying3
  have a3 := Try.isAgg3
  have z3 := Try.sizeOf3
  have hS : Try.prog.underlying 34 = some (.struct (Try.prog.fieldsOf 34)) := by kernel_rfl
  have hp : Try.prog.stoodInHeld 34 = false := by kernel_rfl
  rw [run_equalIn_agg w _ 34 _ _ hS hp]
  simp only [Program.fieldsOf, Try.underlying34]
  go_simp
  exact ite_and (ite_and ite_end)
set_option maxRecDepth 100000 in
set_option maxHeartbeats 4000000 in
theorem eq_bundle  (p0 p1 p2 p3 p4 p5 p6 p7 p8 p9 p10 q0 q1 q2 q3 q4 q5 q6 q7 q8 q9 q10 : Int) (w : World) : (Op.equalIn (9999 + 1) 36 (.agg #[.int .i64 p0, .int .i64 p1, .int .i64 p2, .int .i64 p3, .int .i64 p4, .int .i64 p5, .int .i64 p6, .int .i64 p7, .int .i64 p8, .int .i64 p9, .int .i64 p10]) (.agg #[.int .i64 q0, .int .i64 q1, .int .i64 q2, .int .i64 q3, .int .i64 q4, .int .i64 q5, .int .i64 q6, .int .i64 q7, .int .i64 q8, .int .i64 q9, .int .i64 q10])).run Try.prog w = .ok (((p0 == q0) && ((p1 == q1) && (p2 == q2))) && ((p3 == q3) && ((p4 == q4) && ((p5 == q5) && ((p6 == q6) && ((p7 == q7) && ((p8 == q8) && ((p9 == q9) && (p10 == q10))))))))) w := by
  have u3 := Try.underlying3
  have a3 := Try.isAgg3
  have z3 := Try.sizeOf3
  have hS : Try.prog.underlying 36 = some (.struct (Try.prog.fieldsOf 36)) := by kernel_rfl
  have hp : Try.prog.stoodInHeld 36 = false := by kernel_rfl
  have E := fun W => eq_id 9997 p0 p1 p2 q0 q1 q2 W
  have u23 := Try.underlying34
  have a23 := Try.isAgg34
  have z23 := Try.sizeOf34
  generalize ((p0 == q0) && ((p1 == q1) && (p2 == q2))) = b at *
  rw [run_equalIn_agg w _ 36 _ _ hS hp]
  simp only [Program.fieldsOf, Try.underlying36]
  go_simp
  cases b with
  | false => rfl
  | true => exact (ite_and (ite_and (ite_and (ite_and (ite_and (ite_and (ite_and ite_end)))))))
end Go.Proofs.Yteollbioeamciaa
namespace Go.Proofs.Yteollbioeamciaa
open Go.RowKit Pz
set_option linter.unusedVariables false

abbrev bobj (a : Bn) : Obj := .cells #[.int .i64 a.s, .int .i64 a.i, .int .i64 a.g, .int .i64 a.m, .int .i64 a.x, .int .i64 a.y, .int .i64 a.vx, .int .i64 a.vy, .int .i64 a.h, .int .i64 a.p, .int .i64 a.l] 36
abbrev Bn.zero : Bn := ⟨0, 0, 0, 0, 0, 0, 0, 0, 0, 0, 0⟩
/-- an entity in its box, another one beside it, the result's box -/
structure W2 (w : World) (rb : Nat) (a c : Bn) (W : World) : Prop where
  bel : Below w.heap.size w W
  own : W.heap[w.heap.size]? = some (.cells #[.int .i64 a.s, .int .i64 a.i, .int .i64 a.g, .int .i64 a.m, .int .i64 a.x, .int .i64 a.y, .int .i64 a.vx, .int .i64 a.vy, .int .i64 a.h, .int .i64 a.p, .int .i64 a.l] 36 (0, 0))
  oth : W.heap[w.heap.size + 1]? = some (.cells #[.int .i64 c.s, .int .i64 c.i, .int .i64 c.g, .int .i64 c.m, .int .i64 c.x, .int .i64 c.y, .int .i64 c.vx, .int .i64 c.vy, .int .i64 c.h, .int .i64 c.p, .int .i64 c.l] 36 (0, 0))
  res : W.heap[rb]? = some (.cells #[.int .i64 0, .int .i64 0, .int .i64 0, .int .i64 0, .int .i64 0, .int .i64 0, .int .i64 0, .int .i64 0, .int .i64 0, .int .i64 0, .int .i64 0] 36 (0, 0))
  rb : w.heap.size < rb
section
variable {w W W' : World} {rb : Nat} {a c : Bn}
theorem W2.step (h : W2 w rb a c W) (hb : Below W.heap.size W W') : W2 w rb a c W' :=
  ⟨h.bel.trans (hb.mono h.bel.size), (hb.block _ (Bx.lt h.own)).trans h.own, (hb.block _ (Bx.lt h.oth)).trans h.oth, (hb.block _ (Bx.lt h.res)).trans h.res, h.rb⟩
theorem W2.set_s {zs zi zg zm zx zy zvx zvy zh zp zl : Int} (h : W2 w rb ⟨zs, zi, zg, zm, zx, zy, zvx, zvy, zh, zp, zl⟩ c W) (v : Int) : W2 w rb ⟨v, zi, zg, zm, zx, zy, zvx, zvy, zh, zp, zl⟩ c (W.setCell ⟨w.heap.size, 0, none⟩ (.int .i64 v)) :=
  have h1 := h.rb
  ⟨h.bel.setCell (p := ⟨w.heap.size, 0, none⟩) (Nat.le_refl _) _, Bx.set h.own _, (Bx.ne (by omega) _).trans h.oth, (Bx.ne (by omega) _).trans h.res, h1⟩
theorem W2.set_i {zs zi zg zm zx zy zvx zvy zh zp zl : Int} (h : W2 w rb ⟨zs, zi, zg, zm, zx, zy, zvx, zvy, zh, zp, zl⟩ c W) (v : Int) : W2 w rb ⟨zs, v, zg, zm, zx, zy, zvx, zvy, zh, zp, zl⟩ c (W.setCell ⟨w.heap.size, 1, none⟩ (.int .i64 v)) :=
  have h1 := h.rb
  ⟨h.bel.setCell (p := ⟨w.heap.size, 1, none⟩) (Nat.le_refl _) _, Bx.set h.own _, (Bx.ne (by omega) _).trans h.oth, (Bx.ne (by omega) _).trans h.res, h1⟩
theorem W2.set_g {zs zi zg zm zx zy zvx zvy zh zp zl : Int} (h : W2 w rb ⟨zs, zi, zg, zm, zx, zy, zvx, zvy, zh, zp, zl⟩ c W) (v : Int) : W2 w rb ⟨zs, zi, v, zm, zx, zy, zvx, zvy, zh, zp, zl⟩ c (W.setCell ⟨w.heap.size, 2, none⟩ (.int .i64 v)) :=
  have h1 := h.rb
  ⟨h.bel.setCell (p := ⟨w.heap.size, 2, none⟩) (Nat.le_refl _) _, Bx.set h.own _, (Bx.ne (by omega) _).trans h.oth, (Bx.ne (by omega) _).trans h.res, h1⟩
theorem W2.set_m {zs zi zg zm zx zy zvx zvy zh zp zl : Int} (h : W2 w rb ⟨zs, zi, zg, zm, zx, zy, zvx, zvy, zh, zp, zl⟩ c W) (v : Int) : W2 w rb ⟨zs, zi, zg, v, zx, zy, zvx, zvy, zh, zp, zl⟩ c (W.setCell ⟨w.heap.size, 3, none⟩ (.int .i64 v)) :=
  have h1 := h.rb
  ⟨h.bel.setCell (p := ⟨w.heap.size, 3, none⟩) (Nat.le_refl _) _, Bx.set h.own _, (Bx.ne (by omega) _).trans h.oth, (Bx.ne (by omega) _).trans h.res, h1⟩
theorem W2.set_x {zs zi zg zm zx zy zvx zvy zh zp zl : Int} (h : W2 w rb ⟨zs, zi, zg, zm, zx, zy, zvx, zvy, zh, zp, zl⟩ c W) (v : Int) : W2 w rb ⟨zs, zi, zg, zm, v, zy, zvx, zvy, zh, zp, zl⟩ c (W.setCell ⟨w.heap.size, 4, none⟩ (.int .i64 v)) :=
  have h1 := h.rb
  ⟨h.bel.setCell (p := ⟨w.heap.size, 4, none⟩) (Nat.le_refl _) _, Bx.set h.own _, (Bx.ne (by omega) _).trans h.oth, (Bx.ne (by omega) _).trans h.res, h1⟩
theorem W2.set_y {zs zi zg zm zx zy zvx zvy zh zp zl : Int} (h : W2 w rb ⟨zs, zi, zg, zm, zx, zy, zvx, zvy, zh, zp, zl⟩ c W) (v : Int) : W2 w rb ⟨zs, zi, zg, zm, zx, v, zvx, zvy, zh, zp, zl⟩ c (W.setCell ⟨w.heap.size, 5, none⟩ (.int .i64 v)) :=
  have h1 := h.rb
  ⟨h.bel.setCell (p := ⟨w.heap.size, 5, none⟩) (Nat.le_refl _) _, Bx.set h.own _, (Bx.ne (by omega) _).trans h.oth, (Bx.ne (by omega) _).trans h.res, h1⟩
theorem W2.set_vx {zs zi zg zm zx zy zvx zvy zh zp zl : Int} (h : W2 w rb ⟨zs, zi, zg, zm, zx, zy, zvx, zvy, zh, zp, zl⟩ c W) (v : Int) : W2 w rb ⟨zs, zi, zg, zm, zx, zy, v, zvy, zh, zp, zl⟩ c (W.setCell ⟨w.heap.size, 6, none⟩ (.int .i64 v)) :=
  have h1 := h.rb
  ⟨h.bel.setCell (p := ⟨w.heap.size, 6, none⟩) (Nat.le_refl _) _, Bx.set h.own _, (Bx.ne (by omega) _).trans h.oth, (Bx.ne (by omega) _).trans h.res, h1⟩
theorem W2.set_vy {zs zi zg zm zx zy zvx zvy zh zp zl : Int} (h : W2 w rb ⟨zs, zi, zg, zm, zx, zy, zvx, zvy, zh, zp, zl⟩ c W) (v : Int) : W2 w rb ⟨zs, zi, zg, zm, zx, zy, zvx, v, zh, zp, zl⟩ c (W.setCell ⟨w.heap.size, 7, none⟩ (.int .i64 v)) :=
  have h1 := h.rb
  ⟨h.bel.setCell (p := ⟨w.heap.size, 7, none⟩) (Nat.le_refl _) _, Bx.set h.own _, (Bx.ne (by omega) _).trans h.oth, (Bx.ne (by omega) _).trans h.res, h1⟩
theorem W2.set_h {zs zi zg zm zx zy zvx zvy zh zp zl : Int} (h : W2 w rb ⟨zs, zi, zg, zm, zx, zy, zvx, zvy, zh, zp, zl⟩ c W) (v : Int) : W2 w rb ⟨zs, zi, zg, zm, zx, zy, zvx, zvy, v, zp, zl⟩ c (W.setCell ⟨w.heap.size, 8, none⟩ (.int .i64 v)) :=
  have h1 := h.rb
  ⟨h.bel.setCell (p := ⟨w.heap.size, 8, none⟩) (Nat.le_refl _) _, Bx.set h.own _, (Bx.ne (by omega) _).trans h.oth, (Bx.ne (by omega) _).trans h.res, h1⟩
theorem W2.set_p {zs zi zg zm zx zy zvx zvy zh zp zl : Int} (h : W2 w rb ⟨zs, zi, zg, zm, zx, zy, zvx, zvy, zh, zp, zl⟩ c W) (v : Int) : W2 w rb ⟨zs, zi, zg, zm, zx, zy, zvx, zvy, zh, v, zl⟩ c (W.setCell ⟨w.heap.size, 9, none⟩ (.int .i64 v)) :=
  have h1 := h.rb
  ⟨h.bel.setCell (p := ⟨w.heap.size, 9, none⟩) (Nat.le_refl _) _, Bx.set h.own _, (Bx.ne (by omega) _).trans h.oth, (Bx.ne (by omega) _).trans h.res, h1⟩
theorem W2.set_l {zs zi zg zm zx zy zvx zvy zh zp zl : Int} (h : W2 w rb ⟨zs, zi, zg, zm, zx, zy, zvx, zvy, zh, zp, zl⟩ c W) (v : Int) : W2 w rb ⟨zs, zi, zg, zm, zx, zy, zvx, zvy, zh, zp, v⟩ c (W.setCell ⟨w.heap.size, 10, none⟩ (.int .i64 v)) :=
  have h1 := h.rb
  ⟨h.bel.setCell (p := ⟨w.heap.size, 10, none⟩) (Nat.le_refl _) _, Bx.set h.own _, (Bx.ne (by omega) _).trans h.oth, (Bx.ne (by omega) _).trans h.res, h1⟩
/-- the result, stored -/
theorem W2.fin (h : W2 w rb a c W) : (W.cell? ⟨rb, 0, none⟩ = some (.int .i64 0) ∧ W.cell? ⟨rb, 1, none⟩ = some (.int .i64 0) ∧ W.cell? ⟨rb, 2, none⟩ = some (.int .i64 0) ∧ W.cell? ⟨rb, 3, none⟩ = some (.int .i64 0) ∧ W.cell? ⟨rb, 4, none⟩ = some (.int .i64 0) ∧ W.cell? ⟨rb, 5, none⟩ = some (.int .i64 0) ∧ W.cell? ⟨rb, 6, none⟩ = some (.int .i64 0) ∧ W.cell? ⟨rb, 7, none⟩ = some (.int .i64 0) ∧ W.cell? ⟨rb, 8, none⟩ = some (.int .i64 0) ∧ W.cell? ⟨rb, 9, none⟩ = some (.int .i64 0) ∧ W.cell? ⟨rb, 10, none⟩ = some (.int .i64 0)) ∧ (W.frozen? ⟨rb, 0, none⟩ = false ∧ W.frozen? ⟨rb, 1, none⟩ = false ∧ W.frozen? ⟨rb, 2, none⟩ = false ∧ W.frozen? ⟨rb, 3, none⟩ = false ∧ W.frozen? ⟨rb, 4, none⟩ = false ∧ W.frozen? ⟨rb, 5, none⟩ = false ∧ W.frozen? ⟨rb, 6, none⟩ = false ∧ W.frozen? ⟨rb, 7, none⟩ = false ∧ W.frozen? ⟨rb, 8, none⟩ = false ∧ W.frozen? ⟨rb, 9, none⟩ = false ∧ W.frozen? ⟨rb, 10, none⟩ = false) ∧
    Hid (((((((((((((W.setCell ⟨rb, 0, none⟩ (.int .i64 a.s)).setCell ⟨rb, 1, none⟩ (.int .i64 a.i)).setCell ⟨rb, 2, none⟩ (.int .i64 a.g)).setCell ⟨rb, 3, none⟩ (.int .i64 a.m)).setCell ⟨rb, 4, none⟩ (.int .i64 a.x)).setCell ⟨rb, 5, none⟩ (.int .i64 a.y)).setCell ⟨rb, 6, none⟩ (.int .i64 a.vx)).setCell ⟨rb, 7, none⟩ (.int .i64 a.vy)).setCell ⟨rb, 8, none⟩ (.int .i64 a.h)).setCell ⟨rb, 9, none⟩ (.int .i64 a.p)).setCell ⟨rb, 10, none⟩ (.int .i64 a.l)).cell? ⟨rb, 0, none⟩ = some (.int .i64 a.s) ∧ (((((((((((W.setCell ⟨rb, 0, none⟩ (.int .i64 a.s)).setCell ⟨rb, 1, none⟩ (.int .i64 a.i)).setCell ⟨rb, 2, none⟩ (.int .i64 a.g)).setCell ⟨rb, 3, none⟩ (.int .i64 a.m)).setCell ⟨rb, 4, none⟩ (.int .i64 a.x)).setCell ⟨rb, 5, none⟩ (.int .i64 a.y)).setCell ⟨rb, 6, none⟩ (.int .i64 a.vx)).setCell ⟨rb, 7, none⟩ (.int .i64 a.vy)).setCell ⟨rb, 8, none⟩ (.int .i64 a.h)).setCell ⟨rb, 9, none⟩ (.int .i64 a.p)).setCell ⟨rb, 10, none⟩ (.int .i64 a.l)).cell? ⟨rb, 1, none⟩ = some (.int .i64 a.i) ∧ (((((((((((W.setCell ⟨rb, 0, none⟩ (.int .i64 a.s)).setCell ⟨rb, 1, none⟩ (.int .i64 a.i)).setCell ⟨rb, 2, none⟩ (.int .i64 a.g)).setCell ⟨rb, 3, none⟩ (.int .i64 a.m)).setCell ⟨rb, 4, none⟩ (.int .i64 a.x)).setCell ⟨rb, 5, none⟩ (.int .i64 a.y)).setCell ⟨rb, 6, none⟩ (.int .i64 a.vx)).setCell ⟨rb, 7, none⟩ (.int .i64 a.vy)).setCell ⟨rb, 8, none⟩ (.int .i64 a.h)).setCell ⟨rb, 9, none⟩ (.int .i64 a.p)).setCell ⟨rb, 10, none⟩ (.int .i64 a.l)).cell? ⟨rb, 2, none⟩ = some (.int .i64 a.g) ∧ (((((((((((W.setCell ⟨rb, 0, none⟩ (.int .i64 a.s)).setCell ⟨rb, 1, none⟩ (.int .i64 a.i)).setCell ⟨rb, 2, none⟩ (.int .i64 a.g)).setCell ⟨rb, 3, none⟩ (.int .i64 a.m)).setCell ⟨rb, 4, none⟩ (.int .i64 a.x)).setCell ⟨rb, 5, none⟩ (.int .i64 a.y)).setCell ⟨rb, 6, none⟩ (.int .i64 a.vx)).setCell ⟨rb, 7, none⟩ (.int .i64 a.vy)).setCell ⟨rb, 8, none⟩ (.int .i64 a.h)).setCell ⟨rb, 9, none⟩ (.int .i64 a.p)).setCell ⟨rb, 10, none⟩ (.int .i64 a.l)).cell? ⟨rb, 3, none⟩ = some (.int .i64 a.m) ∧ (((((((((((W.setCell ⟨rb, 0, none⟩ (.int .i64 a.s)).setCell ⟨rb, 1, none⟩ (.int .i64 a.i)).setCell ⟨rb, 2, none⟩ (.int .i64 a.g)).setCell ⟨rb, 3, none⟩ (.int .i64 a.m)).setCell ⟨rb, 4, none⟩ (.int .i64 a.x)).setCell ⟨rb, 5, none⟩ (.int .i64 a.y)).setCell ⟨rb, 6, none⟩ (.int .i64 a.vx)).setCell ⟨rb, 7, none⟩ (.int .i64 a.vy)).setCell ⟨rb, 8, none⟩ (.int .i64 a.h)).setCell ⟨rb, 9, none⟩ (.int .i64 a.p)).setCell ⟨rb, 10, none⟩ (.int .i64 a.l)).cell? ⟨rb, 4, none⟩ = some (.int .i64 a.x) ∧ (((((((((((W.setCell ⟨rb, 0, none⟩ (.int .i64 a.s)).setCell ⟨rb, 1, none⟩ (.int .i64 a.i)).setCell ⟨rb, 2, none⟩ (.int .i64 a.g)).setCell ⟨rb, 3, none⟩ (.int .i64 a.m)).setCell ⟨rb, 4, none⟩ (.int .i64 a.x)).setCell ⟨rb, 5, none⟩ (.int .i64 a.y)).setCell ⟨rb, 6, none⟩ (.int .i64 a.vx)).setCell ⟨rb, 7, none⟩ (.int .i64 a.vy)).setCell ⟨rb, 8, none⟩ (.int .i64 a.h)).setCell ⟨rb, 9, none⟩ (.int .i64 a.p)).setCell ⟨rb, 10, none⟩ (.int .i64 a.l)).cell? ⟨rb, 5, none⟩ = some (.int .i64 a.y) ∧ (((((((((((W.setCell ⟨rb, 0, none⟩ (.int .i64 a.s)).setCell ⟨rb, 1, none⟩ (.int .i64 a.i)).setCell ⟨rb, 2, none⟩ (.int .i64 a.g)).setCell ⟨rb, 3, none⟩ (.int .i64 a.m)).setCell ⟨rb, 4, none⟩ (.int .i64 a.x)).setCell ⟨rb, 5, none⟩ (.int .i64 a.y)).setCell ⟨rb, 6, none⟩ (.int .i64 a.vx)).setCell ⟨rb, 7, none⟩ (.int .i64 a.vy)).setCell ⟨rb, 8, none⟩ (.int .i64 a.h)).setCell ⟨rb, 9, none⟩ (.int .i64 a.p)).setCell ⟨rb, 10, none⟩ (.int .i64 a.l)).cell? ⟨rb, 6, none⟩ = some (.int .i64 a.vx) ∧ (((((((((((W.setCell ⟨rb, 0, none⟩ (.int .i64 a.s)).setCell ⟨rb, 1, none⟩ (.int .i64 a.i)).setCell ⟨rb, 2, none⟩ (.int .i64 a.g)).setCell ⟨rb, 3, none⟩ (.int .i64 a.m)).setCell ⟨rb, 4, none⟩ (.int .i64 a.x)).setCell ⟨rb, 5, none⟩ (.int .i64 a.y)).setCell ⟨rb, 6, none⟩ (.int .i64 a.vx)).setCell ⟨rb, 7, none⟩ (.int .i64 a.vy)).setCell ⟨rb, 8, none⟩ (.int .i64 a.h)).setCell ⟨rb, 9, none⟩ (.int .i64 a.p)).setCell ⟨rb, 10, none⟩ (.int .i64 a.l)).cell? ⟨rb, 7, none⟩ = some (.int .i64 a.vy) ∧ (((((((((((W.setCell ⟨rb, 0, none⟩ (.int .i64 a.s)).setCell ⟨rb, 1, none⟩ (.int .i64 a.i)).setCell ⟨rb, 2, none⟩ (.int .i64 a.g)).setCell ⟨rb, 3, none⟩ (.int .i64 a.m)).setCell ⟨rb, 4, none⟩ (.int .i64 a.x)).setCell ⟨rb, 5, none⟩ (.int .i64 a.y)).setCell ⟨rb, 6, none⟩ (.int .i64 a.vx)).setCell ⟨rb, 7, none⟩ (.int .i64 a.vy)).setCell ⟨rb, 8, none⟩ (.int .i64 a.h)).setCell ⟨rb, 9, none⟩ (.int .i64 a.p)).setCell ⟨rb, 10, none⟩ (.int .i64 a.l)).cell? ⟨rb, 8, none⟩ = some (.int .i64 a.h) ∧ (((((((((((W.setCell ⟨rb, 0, none⟩ (.int .i64 a.s)).setCell ⟨rb, 1, none⟩ (.int .i64 a.i)).setCell ⟨rb, 2, none⟩ (.int .i64 a.g)).setCell ⟨rb, 3, none⟩ (.int .i64 a.m)).setCell ⟨rb, 4, none⟩ (.int .i64 a.x)).setCell ⟨rb, 5, none⟩ (.int .i64 a.y)).setCell ⟨rb, 6, none⟩ (.int .i64 a.vx)).setCell ⟨rb, 7, none⟩ (.int .i64 a.vy)).setCell ⟨rb, 8, none⟩ (.int .i64 a.h)).setCell ⟨rb, 9, none⟩ (.int .i64 a.p)).setCell ⟨rb, 10, none⟩ (.int .i64 a.l)).cell? ⟨rb, 9, none⟩ = some (.int .i64 a.p) ∧ (((((((((((W.setCell ⟨rb, 0, none⟩ (.int .i64 a.s)).setCell ⟨rb, 1, none⟩ (.int .i64 a.i)).setCell ⟨rb, 2, none⟩ (.int .i64 a.g)).setCell ⟨rb, 3, none⟩ (.int .i64 a.m)).setCell ⟨rb, 4, none⟩ (.int .i64 a.x)).setCell ⟨rb, 5, none⟩ (.int .i64 a.y)).setCell ⟨rb, 6, none⟩ (.int .i64 a.vx)).setCell ⟨rb, 7, none⟩ (.int .i64 a.vy)).setCell ⟨rb, 8, none⟩ (.int .i64 a.h)).setCell ⟨rb, 9, none⟩ (.int .i64 a.p)).setCell ⟨rb, 10, none⟩ (.int .i64 a.l)).cell? ⟨rb, 10, none⟩ = some (.int .i64 a.l)) ∧ Below w.heap.size w (((((((((((W.setCell ⟨rb, 0, none⟩ (.int .i64 a.s)).setCell ⟨rb, 1, none⟩ (.int .i64 a.i)).setCell ⟨rb, 2, none⟩ (.int .i64 a.g)).setCell ⟨rb, 3, none⟩ (.int .i64 a.m)).setCell ⟨rb, 4, none⟩ (.int .i64 a.x)).setCell ⟨rb, 5, none⟩ (.int .i64 a.y)).setCell ⟨rb, 6, none⟩ (.int .i64 a.vx)).setCell ⟨rb, 7, none⟩ (.int .i64 a.vy)).setCell ⟨rb, 8, none⟩ (.int .i64 a.h)).setCell ⟨rb, 9, none⟩ (.int .i64 a.p)).setCell ⟨rb, 10, none⟩ (.int .i64 a.l))) :=
  ⟨(Bx.b11 h.res).1, (Bx.b11 h.res).2, Lib.hid ⟨(Bx.b11 (Bx.set11 h.res (.int .i64 a.s) (.int .i64 a.i) (.int .i64 a.g) (.int .i64 a.m) (.int .i64 a.x) (.int .i64 a.y) (.int .i64 a.vx) (.int .i64 a.vy) (.int .i64 a.h) (.int .i64 a.p) (.int .i64 a.l))).1, Bx.put11 h.bel (Nat.le_of_lt h.rb) (.int .i64 a.s) (.int .i64 a.i) (.int .i64 a.g) (.int .i64 a.m) (.int .i64 a.x) (.int .i64 a.y) (.int .i64 a.vx) (.int .i64 a.vy) (.int .i64 a.h) (.int .i64 a.p) (.int .i64 a.l)⟩⟩
end
end Go.Proofs.Yteollbioeamciaa
namespace Go.Proofs.Yteollbioeamciaa
open Go.RowKit Pz
set_option linter.unusedVariables false

abbrev bnE (b : Bn) : List Value := b.row
abbrev OwnB (W : World) (B : Nat) (v : Value) (l : List Bn) : Prop := Rw bnE 36 11 W B v l
theorem bnE_len (x : Bn) : (bnE x).length = 11 := rfl
theorem bnE_one (x : Bn) : ∀ u ∈ bnE x, u.oneCell' = true := by
  intro u hu
  simp only [bnE, Bn.row, List.mem_cons, List.not_mem_nil, or_false] at hu
  rcases hu with rfl | rfl | rfl | rfl | rfl | rfl | rfl | rfl | rfl | rfl | rfl <;> rfl
theorem bundle_info : (Try.prog.info? 36).map (fun i => (i.zero, i.size, i.bytes)) = some (some (.agg #[.int .i64 0, .int .i64 0, .int .i64 0, .int .i64 0, .int .i64 0, .int .i64 0, .int .i64 0, .int .i64 0, .int .i64 0, .int .i64 0, .int .i64 0]), 11, 88) := by kernel_rfl
/-- these entities lie at A, below block B -/
def RdB (W : World) (B : Nat) (A : Option Addr) (l : List Bn) : Prop :=
  ∀ (j : Nat) (x : Bn), l[j]? = some x → ∃ g o, A = some ⟨g, o, none⟩ ∧ g < B ∧ (W.cell? ⟨g, o + j * 11, none⟩ = some (.int .i64 x.s) ∧ W.cell? ⟨g, o + j * 11 + 1, none⟩ = some (.int .i64 x.i) ∧ W.cell? ⟨g, o + j * 11 + 2, none⟩ = some (.int .i64 x.g) ∧ W.cell? ⟨g, o + j * 11 + 3, none⟩ = some (.int .i64 x.m) ∧ W.cell? ⟨g, o + j * 11 + 4, none⟩ = some (.int .i64 x.x) ∧ W.cell? ⟨g, o + j * 11 + 5, none⟩ = some (.int .i64 x.y) ∧ W.cell? ⟨g, o + j * 11 + 6, none⟩ = some (.int .i64 x.vx) ∧ W.cell? ⟨g, o + j * 11 + 7, none⟩ = some (.int .i64 x.vy) ∧ W.cell? ⟨g, o + j * 11 + 8, none⟩ = some (.int .i64 x.h) ∧ W.cell? ⟨g, o + j * 11 + 9, none⟩ = some (.int .i64 x.p) ∧ W.cell? ⟨g, o + j * 11 + 10, none⟩ = some (.int .i64 x.l))
section
variable {W W' : World} {B : Nat} {A : Option Addr} {l : List Bn}
theorem RdB.below (h : RdB W B A l) (hb : Below B W W') : RdB W' B A l := fun j x hx => by
  obtain ⟨g, o, e, hg, h0, h1, h2, h3, h4, h5, h6, h7, h8, h9, h10⟩ := h j x hx
  exact ⟨g, o, e, hg, (hb.cell (p := ⟨g, _, none⟩) hg).trans h0, (hb.cell (p := ⟨g, _, none⟩) hg).trans h1, (hb.cell (p := ⟨g, _, none⟩) hg).trans h2, (hb.cell (p := ⟨g, _, none⟩) hg).trans h3, (hb.cell (p := ⟨g, _, none⟩) hg).trans h4, (hb.cell (p := ⟨g, _, none⟩) hg).trans h5, (hb.cell (p := ⟨g, _, none⟩) hg).trans h6, (hb.cell (p := ⟨g, _, none⟩) hg).trans h7, (hb.cell (p := ⟨g, _, none⟩) hg).trans h8, (hb.cell (p := ⟨g, _, none⟩) hg).trans h9, (hb.cell (p := ⟨g, _, none⟩) hg).trans h10⟩
theorem RdB.more (h : RdB W B A l) {B' : Nat} (hB : B ≤ B') : RdB W B' A l := fun j x hx => by
  obtain ⟨g, o, e, hg, h⟩ := h j x hx
  exact ⟨g, o, e, by omega, h⟩
theorem RdB.of_own {c : Nat} {B0 : Nat} (h : OwnB W B0 (.slice A l.length c) l) : RdB W W.heap.size A l := fun j x hx => by
  obtain ⟨g, o, c', e, _, hg, hc⟩ := h.at_ hx
  cases e
  exact ⟨g, o, rfl, hg, (hc 0 _ rfl).1, (hc 1 _ rfl).1, (hc 2 _ rfl).1, (hc 3 _ rfl).1, (hc 4 _ rfl).1, (hc 5 _ rfl).1, (hc 6 _ rfl).1, (hc 7 _ rfl).1, (hc 8 _ rfl).1, (hc 9 _ rfl).1, (hc 10 _ rfl).1⟩
theorem RdB.of_reads (h : ReadsK W B A 11 (l.map Bn.row)) : RdB W B A l := fun j x hx => by
  have hj := (List.getElem?_eq_some_iff.1 hx).1
  obtain ⟨g, o, e, hg, hc⟩ := h (by rw [List.length_map]; omega)
  have hr : (l.map Bn.row)[j]? = some x.row := by rw [List.getElem?_map, hx]; rfl
  exact ⟨g, o, e, hg, hc j _ hr 0 _ rfl, hc j _ hr 1 _ rfl, hc j _ hr 2 _ rfl, hc j _ hr 3 _ rfl, hc j _ hr 4 _ rfl, hc j _ hr 5 _ rfl, hc j _ hr 6 _ rfl, hc j _ hr 7 _ rfl, hc j _ hr 8 _ rfl, hc j _ hr 9 _ rfl, hc j _ hr 10 _ rfl⟩
theorem own_at {c B0 : Nat} (h : OwnB W B0 (.slice A l.length c) l) {k : Nat} {y : Bn} (hk : l[k]? = some y) : ∃ g o, A = some ⟨g, o, none⟩ ∧ B0 ≤ g ∧ (W.cell? ⟨g, o + k * 11, none⟩ = some (.int .i64 y.s) ∧ W.cell? ⟨g, o + k * 11 + 1, none⟩ = some (.int .i64 y.i) ∧ W.cell? ⟨g, o + k * 11 + 2, none⟩ = some (.int .i64 y.g) ∧ W.cell? ⟨g, o + k * 11 + 3, none⟩ = some (.int .i64 y.m) ∧ W.cell? ⟨g, o + k * 11 + 4, none⟩ = some (.int .i64 y.x) ∧ W.cell? ⟨g, o + k * 11 + 5, none⟩ = some (.int .i64 y.y) ∧ W.cell? ⟨g, o + k * 11 + 6, none⟩ = some (.int .i64 y.vx) ∧ W.cell? ⟨g, o + k * 11 + 7, none⟩ = some (.int .i64 y.vy) ∧ W.cell? ⟨g, o + k * 11 + 8, none⟩ = some (.int .i64 y.h) ∧ W.cell? ⟨g, o + k * 11 + 9, none⟩ = some (.int .i64 y.p) ∧ W.cell? ⟨g, o + k * 11 + 10, none⟩ = some (.int .i64 y.l)) ∧ (W.frozen? ⟨g, o + k * 11, none⟩ = false ∧ W.frozen? ⟨g, o + k * 11 + 1, none⟩ = false ∧ W.frozen? ⟨g, o + k * 11 + 2, none⟩ = false ∧ W.frozen? ⟨g, o + k * 11 + 3, none⟩ = false ∧ W.frozen? ⟨g, o + k * 11 + 4, none⟩ = false ∧ W.frozen? ⟨g, o + k * 11 + 5, none⟩ = false ∧ W.frozen? ⟨g, o + k * 11 + 6, none⟩ = false ∧ W.frozen? ⟨g, o + k * 11 + 7, none⟩ = false ∧ W.frozen? ⟨g, o + k * 11 + 8, none⟩ = false ∧ W.frozen? ⟨g, o + k * 11 + 9, none⟩ = false ∧ W.frozen? ⟨g, o + k * 11 + 10, none⟩ = false) := by
  obtain ⟨g, o, c', e, hB, hg, hc⟩ := h.at_ hk
  cases e
  exact ⟨g, o, rfl, hB, ⟨(hc 0 _ rfl).1, (hc 1 _ rfl).1, (hc 2 _ rfl).1, (hc 3 _ rfl).1, (hc 4 _ rfl).1, (hc 5 _ rfl).1, (hc 6 _ rfl).1, (hc 7 _ rfl).1, (hc 8 _ rfl).1, (hc 9 _ rfl).1, (hc 10 _ rfl).1⟩, ⟨(hc 0 _ rfl).2, (hc 1 _ rfl).2, (hc 2 _ rfl).2, (hc 3 _ rfl).2, (hc 4 _ rfl).2, (hc 5 _ rfl).2, (hc 6 _ rfl).2, (hc 7 _ rfl).2, (hc 8 _ rfl).2, (hc 9 _ rfl).2, (hc 10 _ rfl).2⟩⟩
theorem idx_ne {o j k c e : Nat} (hne : j ≠ k) (hc : c < 11) (he : e < 11) : o + k * 11 + e ≠ o + (j * 11 + c) := by omega
/-- one entity of one's own row is another one -/
theorem own_set {g o n c B0 : Nat} (h : OwnB W B0 (.slice (some ⟨g, o, none⟩) n c) l) {k : Nat} (hk : k < l.length) (x : Bn) :
    OwnB (((((((((((W.setCell ⟨g, o + k * 11, none⟩ (.int .i64 x.s)).setCell ⟨g, o + k * 11 + 1, none⟩ (.int .i64 x.i)).setCell ⟨g, o + k * 11 + 2, none⟩ (.int .i64 x.g)).setCell ⟨g, o + k * 11 + 3, none⟩ (.int .i64 x.m)).setCell ⟨g, o + k * 11 + 4, none⟩ (.int .i64 x.x)).setCell ⟨g, o + k * 11 + 5, none⟩ (.int .i64 x.y)).setCell ⟨g, o + k * 11 + 6, none⟩ (.int .i64 x.vx)).setCell ⟨g, o + k * 11 + 7, none⟩ (.int .i64 x.vy)).setCell ⟨g, o + k * 11 + 8, none⟩ (.int .i64 x.h)).setCell ⟨g, o + k * 11 + 9, none⟩ (.int .i64 x.p)).setCell ⟨g, o + k * 11 + 10, none⟩ (.int .i64 x.l)) B0 (.slice (some ⟨g, o, none⟩) n c) (l.set k x) ∧ (∀ B', B' ≤ g → Below B' W (((((((((((W.setCell ⟨g, o + k * 11, none⟩ (.int .i64 x.s)).setCell ⟨g, o + k * 11 + 1, none⟩ (.int .i64 x.i)).setCell ⟨g, o + k * 11 + 2, none⟩ (.int .i64 x.g)).setCell ⟨g, o + k * 11 + 3, none⟩ (.int .i64 x.m)).setCell ⟨g, o + k * 11 + 4, none⟩ (.int .i64 x.x)).setCell ⟨g, o + k * 11 + 5, none⟩ (.int .i64 x.y)).setCell ⟨g, o + k * 11 + 6, none⟩ (.int .i64 x.vx)).setCell ⟨g, o + k * 11 + 7, none⟩ (.int .i64 x.vy)).setCell ⟨g, o + k * 11 + 8, none⟩ (.int .i64 x.h)).setCell ⟨g, o + k * 11 + 9, none⟩ (.int .i64 x.p)).setCell ⟨g, o + k * 11 + 10, none⟩ (.int .i64 x.l))) := by
  rcases h with ⟨e, _⟩ | ⟨g', o', cap, cur, e, h1, h2, h3, h4, h5, h6⟩
  · cases e
  · cases e
    refine ⟨.inr ⟨g, o, c, (((((((((((cur.setIfInBounds (o + k * 11) (.int .i64 x.s)).setIfInBounds (o + k * 11 + 1) (.int .i64 x.i)).setIfInBounds (o + k * 11 + 2) (.int .i64 x.g)).setIfInBounds (o + k * 11 + 3) (.int .i64 x.m)).setIfInBounds (o + k * 11 + 4) (.int .i64 x.x)).setIfInBounds (o + k * 11 + 5) (.int .i64 x.y)).setIfInBounds (o + k * 11 + 6) (.int .i64 x.vx)).setIfInBounds (o + k * 11 + 7) (.int .i64 x.vy)).setIfInBounds (o + k * 11 + 8) (.int .i64 x.h)).setIfInBounds (o + k * 11 + 9) (.int .i64 x.p)).setIfInBounds (o + k * 11 + 10) (.int .i64 x.l)), by rw [List.length_set], h1, Bx.set (Bx.set (Bx.set (Bx.set (Bx.set (Bx.set (Bx.set (Bx.set (Bx.set (Bx.set (Bx.set (h2) _) _) _) _) _) _) _) _) _) _) _, by rw [List.length_set]; exact h3, h4, by simpa using h5, fun j y hj c2 u hu => ?_⟩, fun B' hB => ?_⟩
    · have hc : c2 < 11 := (List.getElem?_eq_some_iff.1 hu).1
      by_cases hjk : j = k
      · subst hjk
        have hy : y = x := by
          rw [List.getElem?_set_self hk] at hj
          exact (Option.some.inj hj).symm
        subst hy
        have hlt : o + j * 11 + c2 < cur.size := by
          have : j * 11 + 11 ≤ c * 11 := by
            have := Nat.mul_le_mul_right 11 (show j + 1 ≤ c by omega)
            omega
          omega
        have : c2 = 0 ∨ c2 = 1 ∨ c2 = 2 ∨ c2 = 3 ∨ c2 = 4 ∨ c2 = 5 ∨ c2 = 6 ∨ c2 = 7 ∨ c2 = 8 ∨ c2 = 9 ∨ c2 = 10 := by omega
        rw [← Nat.add_assoc]
        rcases this with rfl | rfl | rfl | rfl | rfl | rfl | rfl | rfl | rfl | rfl | rfl <;> (simp only [Array.getElem?_setIfInBounds, Array.size_setIfInBounds, Nat.add_zero] at hlt ⊢; simp [hlt] ; simpa [bnE] using hu)
      · rw [List.getElem?_set_ne (fun e => hjk e.symm)] at hj
        have h7 := h6 j y hj c2 u hu
        rw [Array.getElem?_setIfInBounds_ne (by omega), Array.getElem?_setIfInBounds_ne (by omega), Array.getElem?_setIfInBounds_ne (by omega), Array.getElem?_setIfInBounds_ne (by omega), Array.getElem?_setIfInBounds_ne (by omega), Array.getElem?_setIfInBounds_ne (by omega), Array.getElem?_setIfInBounds_ne (by omega), Array.getElem?_setIfInBounds_ne (by omega), Array.getElem?_setIfInBounds_ne (by omega), Array.getElem?_setIfInBounds_ne (by omega), Array.getElem?_setIfInBounds_ne (by omega)]
        exact h7
    · have b0 : ∀ (V : World) (p : Nat) (v : Value), Below B' V (V.setCell ⟨g, p, none⟩ v) := fun V p v => (Below.refl _ _).setCell (p := ⟨g, p, none⟩) hB v
      exact ((((((((((b0 _ _ _).trans (b0 _ _ _)).trans (b0 _ _ _)).trans (b0 _ _ _)).trans (b0 _ _ _)).trans (b0 _ _ _)).trans (b0 _ _ _)).trans (b0 _ _ _)).trans (b0 _ _ _)).trans (b0 _ _ _)).trans (b0 _ _ _)
end
end Go.Proofs.Yteollbioeamciaa
namespace Go.Proofs.Yteollbioeamciaa
open Go.RowKit Pz
set_option linter.unusedVariables false

set_option maxHeartbeats 16000000 in
set_option maxRecDepth 100000 in
/-- two rows of the same entities -/
theorem rsame_yes {w : World} {A1 A2 : Option Addr} {c1 c2 : Nat} {l : List Bn} (R1 : RdB w w.heap.size A1 l) (R2 : RdB w w.heap.size A2 l) (hl : l.length ≤ 140737488351232) :
    Calls Try.prog 23 #[.slice A1 l.length c1, .slice A2 l.length c2] w fun e w' => e = .returned (.bool true) ∧ Below w.heap.size w w' := by
  have AT : Hid (∀ W, Below w.heap.size w W → ∀ j (hj : j < l.length), ∃ g o g2 o2, A1 = some ⟨g, o, none⟩ ∧ A2 = some ⟨g2, o2, none⟩ ∧ (W.cell? ⟨g, o + j * 11, none⟩ = some (.int .i64 l[j].s) ∧ W.cell? ⟨g, o + j * 11 + 1, none⟩ = some (.int .i64 l[j].i) ∧ W.cell? ⟨g, o + j * 11 + 2, none⟩ = some (.int .i64 l[j].g) ∧ W.cell? ⟨g, o + j * 11 + 3, none⟩ = some (.int .i64 l[j].m) ∧ W.cell? ⟨g, o + j * 11 + 4, none⟩ = some (.int .i64 l[j].x) ∧ W.cell? ⟨g, o + j * 11 + 5, none⟩ = some (.int .i64 l[j].y) ∧ W.cell? ⟨g, o + j * 11 + 6, none⟩ = some (.int .i64 l[j].vx) ∧ W.cell? ⟨g, o + j * 11 + 7, none⟩ = some (.int .i64 l[j].vy) ∧ W.cell? ⟨g, o + j * 11 + 8, none⟩ = some (.int .i64 l[j].h) ∧ W.cell? ⟨g, o + j * 11 + 9, none⟩ = some (.int .i64 l[j].p) ∧ W.cell? ⟨g, o + j * 11 + 10, none⟩ = some (.int .i64 l[j].l)) ∧ (W.cell? ⟨g2, o2 + j * 11, none⟩ = some (.int .i64 l[j].s) ∧ W.cell? ⟨g2, o2 + j * 11 + 1, none⟩ = some (.int .i64 l[j].i) ∧ W.cell? ⟨g2, o2 + j * 11 + 2, none⟩ = some (.int .i64 l[j].g) ∧ W.cell? ⟨g2, o2 + j * 11 + 3, none⟩ = some (.int .i64 l[j].m) ∧ W.cell? ⟨g2, o2 + j * 11 + 4, none⟩ = some (.int .i64 l[j].x) ∧ W.cell? ⟨g2, o2 + j * 11 + 5, none⟩ = some (.int .i64 l[j].y) ∧ W.cell? ⟨g2, o2 + j * 11 + 6, none⟩ = some (.int .i64 l[j].vx) ∧ W.cell? ⟨g2, o2 + j * 11 + 7, none⟩ = some (.int .i64 l[j].vy) ∧ W.cell? ⟨g2, o2 + j * 11 + 8, none⟩ = some (.int .i64 l[j].h) ∧ W.cell? ⟨g2, o2 + j * 11 + 9, none⟩ = some (.int .i64 l[j].p) ∧ W.cell? ⟨g2, o2 + j * 11 + 10, none⟩ = some (.int .i64 l[j].l)) ∧
      ∀ V : World, (Op.equalIn 10000 36 (Bn.val l[j]) (Bn.val l[j])).run Try.prog V = .ok true V) := Lib.hid fun W hW j hj => by
    obtain ⟨g, o, e1, _, k1⟩ := (R1.below hW) j _ (List.getElem?_eq_getElem hj)
    obtain ⟨g2, o2, e2, _, k2⟩ := (R2.below hW) j _ (List.getElem?_eq_getElem hj)
    refine ⟨g, o, g2, o2, e1, e2, k1, k2, fun V => ?_⟩
    have := eq_bundle l[j].s l[j].i l[j].g l[j].m l[j].x l[j].y l[j].vx l[j].vy l[j].h l[j].p l[j].l l[j].s l[j].i l[j].g l[j].m l[j].x l[j].y l[j].vx l[j].vy l[j].h l[j].p l[j].l V
    simpa using this
  clear R1 R2
  have hnn : ((l.length : Int) != (l.length : Int)) = false := by simp
  have hn : (l.length : Int) ≤ 140737488351232 := by omega
  go_enter Try.func23, Try.ntmps23
  go_wp2
  go_loopw [5] (fun i wr => ∃ j : Nat, j ≤ l.length ∧ i = .int .i64 j ∧ Hid (Below w.heap.size w wr)) (fun i _ => l.length - (intOf i).toNat)
  case atStart => exact ⟨0, Nat.zero_le _, rfl, Lib.hid (Below.refl _ _)⟩
  case round =>
    obtain ⟨j, hj, rfl, HB⟩ := hrel
    by_cases hjn : j < l.length
    · have t1 : (j : Int) < (l.length : Int) := by omega
      obtain ⟨g, o, g2, o2, rfl, rfl, ⟨h0, h1, h2, h3, h4, h5, h6, h7, h8, h9, h10⟩, ⟨m0, m1, m2, m3, m4, m5, m6, m7, m8, m9, m10⟩, EQ⟩ := AT.out wr HB.out j hjn
      have NX : Hid (∀ m, Below w.heap.size w (wr.drewN m)) := Lib.hid fun m => Below.dn' HB.out m
      clear AT HB
      simp only [Bn.val] at EQ
      generalize l[j].s = y0 at *
      generalize l[j].i = y1 at *
      generalize l[j].g = y2 at *
      generalize l[j].m = y3 at *
      generalize l[j].x = y4 at *
      generalize l[j].y = y5 at *
      generalize l[j].vx = y6 at *
      generalize l[j].vy = y7 at *
      generalize l[j].h = y8 at *
      generalize l[j].p = y9 at *
      generalize l[j].l = y10 at *
      generalize l.length = n at *
      go_wp2
      go_quiet (fail)
      go_wp2
      go_roundw
      case rel => exact ⟨j + 1, by omega, by go_num, Lib.hid (NX.out _)⟩
      case measure => simp [intOf]; omega
    · obtain rfl : j = l.length := by omega
      have t1 : ¬ (l.length : Int) < (l.length : Int) := by omega
      clear AT
      generalize l.length = n at *
      go_wp2
      go_ret
      exact ⟨rfl, HB.out⟩
end Go.Proofs.Yteollbioeamciaa
