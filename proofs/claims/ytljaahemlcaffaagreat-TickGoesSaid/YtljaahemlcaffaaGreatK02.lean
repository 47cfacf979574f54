/- The document's parts: half, Bit, in, RightID, takes, Error. Written by wip/tools/genpz1.py. The document's parts: Right, May. Written by wip/tools/genpz2.py. Equality of names and of entities. Written by wip/tools/genpzeq.py. The document's parts: MayCmd. Written by wip/tools/genpz3.py. -/
import Derived.Test.YtljaahemlcaffaaGreatK00
import Derived.Test.YtljaahemlcaffaaGreatK01
import Derived.BigQuiet
import Derived.LoopTactic
import Derived.Lib.Hide
import Derived.Laws.StructEq
import Derived.Deep.DeepCutAuto
namespace Go.Proofs.YtljaahemlcaffaaGreat
open Go.RowKit Pz
set_option linter.unusedVariables false

theorem half_even (q : Int) : (2 * q).tdiv 2 = q := Int.mul_tdiv_cancel_left q (by decide)
theorem tmod_two (n : Int) : (n.tmod 2 != 0) = decide (n % 2 = 1) := by
  have h1 := Int.emod_emod_of_dvd n (Int.dvd_refl 2)
  by_cases h : n % 2 = 1
  · rw [decide_eq_true h, bne_iff_ne]
    intro e
    have := Int.dvd_of_tmod_eq_zero e
    omega
  · rw [decide_eq_false h]
    have e : n.tmod 2 = 0 := Int.tmod_eq_zero_of_dvd (by omega)
    rw [e]; rfl
set_option maxHeartbeats 4000000 in
theorem half_any (n : Int) (hn : Fit n) (w : World) : Calls Tryz.prog 86 #[.int .i64 n] w fun e w' => e = .returned (.int .i64 (n / 2)) ∧ w = w' := by
  obtain ⟨h1, h2⟩ := hn
  have q1 := tmod_two n
  by_cases h : n < 0
  · by_cases h3 : n % 2 = 1
    · rw [decide_eq_true h3] at q1
      obtain ⟨y, hy⟩ : ∃ y, n - 1 = y := ⟨_, rfl⟩
      have e1 : IntKind.i64.wrap (n - 1) = y := by rw [← hy]; exact IntWalk.i64_in _ (by omega)
      have e2 : y.tdiv 2 = n / 2 := by
        have : y = 2 * (n / 2) := by omega
        rw [this, half_even]
      have e3 : IntKind.i64.wrap (n / 2) = n / 2 := IntWalk.i64_in _ (by omega)
      have t1 : decide (n < 0) = true := decide_eq_true h
      clear h h3 hy
      generalize n / 2 = z at *
      go_enter Tryz.func86, Tryz.ntmps86
      go_wp2
      go_ret
      exact ⟨rfl, rfl⟩
    · rw [decide_eq_false h3] at q1
      have e2 : n.tdiv 2 = n / 2 := by
        have : n = 2 * (n / 2) := by omega
        generalize n / 2 = z at *
        rw [this, half_even]
      have e3 : IntKind.i64.wrap (n / 2) = n / 2 := IntWalk.i64_in _ (by omega)
      have t1 : decide (n < 0) = true := decide_eq_true h
      clear h h3
      generalize n / 2 = z at *
      go_enter Tryz.func86, Tryz.ntmps86
      go_wp2
      go_ret
      exact ⟨rfl, rfl⟩
  · have e2 : n.tdiv 2 = n / 2 := Int.tdiv_eq_ediv_of_nonneg (by omega)
    have e3 : IntKind.i64.wrap (n / 2) = n / 2 := IntWalk.i64_in _ (by omega)
    have t1 : decide (n < 0) = false := decide_eq_false h
    clear h
    generalize n / 2 = z at *
    go_enter Tryz.func86, Tryz.ntmps86
    go_wp2
    go_ret
    exact ⟨rfl, rfl⟩
set_option maxHeartbeats 4000000 in
theorem bit_any (m : Int) (hm : Fit m) (k : Nat) (hk : k ≤ 4) (w : World) : Calls Tryz.prog 55 #[.int .i64 m, .int .i64 ((2 : Int) ^ k)] w fun e w' => e = .returned (.bool (bitB m k)) ∧ w = w' := by
  have POW : Hid (∀ j : Nat, j ≤ 4 → 1 ≤ (2 : Int) ^ j ∧ (2 : Int) ^ j ≤ 16 ∧ (2 : Int) ^ (j + 1) = 2 * 2 ^ j) := Lib.hid fun j hj => by
    have : j = 0 ∨ j = 1 ∨ j = 2 ∨ j = 3 ∨ j = 4 := by omega
    rcases this with rfl | rfl | rfl | rfl | rfl <;> decide
  have FITQ : Hid (∀ j : Nat, j ≤ 4 → Fit (m / (2 : Int) ^ j)) := Lib.hid fun j hj => by
    obtain ⟨h1, h2⟩ := hm
    have : j = 0 ∨ j = 1 ∨ j = 2 ∨ j = 3 ∨ j = 4 := by omega
    unfold Fit
    rcases this with rfl | rfl | rfl | rfl | rfl <;> simp only [Int.reducePow] <;> omega
  have DIV : Hid (∀ j : Nat, j ≤ 4 → m / (2 : Int) ^ j / 2 = m / (2 : Int) ^ (j + 1)) := Lib.hid fun j hj => by
    have : j = 0 ∨ j = 1 ∨ j = 2 ∨ j = 3 ∨ j = 4 := by omega
    rcases this with rfl | rfl | rfl | rfl | rfl <;> simp only [Int.reducePow] <;> omega
  have S0 : Hid (m = m / (2 : Int) ^ (k - k)) := Lib.hid (by rw [Nat.sub_self]; simp)
  clear hm
  go_enter Tryz.func55, Tryz.ntmps55
  go_wp2
  go_loopw [0, 1] (fun mx cx wr => ∃ (j : Nat) (x c : Int), j ≤ k ∧ mx = .int .i64 x ∧ cx = .int .i64 c ∧ wr = w ∧ Hid (x = m / (2 : Int) ^ (k - j)) ∧ Hid (c = (2 : Int) ^ j)) (fun _ cx _ => (intOf cx).toNat)
  case atStart => exact ⟨k, m, _, Nat.le_refl _, rfl, rfl, rfl, S0, Lib.hid rfl⟩
  case round =>
    obtain ⟨j, x, c, hj, rfl, rfl, rfl, HX, HC⟩ := hrel
    clear S0
    cases j with
    | zero =>
      have hx := HX.out
      have hc := HC.out
      rw [Nat.sub_zero] at hx
      rw [show (2 : Int) ^ 0 = 1 from rfl] at hc
      subst hc
      have q1 := tmod_two x
      have q2 : decide (x % 2 = 1) = bitB m k := by unfold bitB; rw [hx]
      rw [q2] at q1
      clear hx HX HC q2 POW FITQ DIV
      go_wp2
      go_ret
      exact ⟨rfl, rfl⟩
    | succ j =>
      obtain ⟨p1, p2, p3⟩ := POW.out j (by omega)
      have F := FITQ.out (k - (j + 1)) (by omega)
      rw [← HX.out] at F
      have H := Lib.hid (half_any x F wr)
      have hc := HC.out
      rw [p3] at hc
      have NX : Hid (x / 2 = m / (2 : Int) ^ (k - j)) := Lib.hid (by
        rw [HX.out, DIV.out _ (by omega)]
        congr 2
        omega)
      have t1 : c > 1 := by omega
      have e1 : c.tdiv 2 = (2 : Int) ^ j := by rw [hc, half_even]
      clear hc HX HC POW FITQ DIV F
      generalize hp : (2 : Int) ^ j = c0 at *
      have NC : Hid (c0 = (2 : Int) ^ j) := Lib.hid hp.symm
      have t2 : c0 < c := by have := Int.tdiv_eq_ediv_of_nonneg (a := c) (b := 2) (by omega); omega
      clear hp
      generalize x / 2 = x2 at *
      go_wp2_with (go_at_call 86; refine H.out.mono ?_; rintro e w' ⟨rfl, rfl⟩; clear H)
      go_roundw
      case rel => exact ⟨j, x2, c0, by omega, rfl, by go_num, trivial, NX, NC⟩
      case measure => simp [intOf]; omega
set_option maxHeartbeats 4000000 in
theorem in_any (n lo hi : Int) (has : Bool) (w : World) : Calls Tryz.prog 85 #[.int .i64 n, .int .i64 lo, .int .i64 hi, .bool has] w fun e w' => e = .returned (.bool (inB n lo hi has)) ∧ w = w' := by
  cases has with
  | false =>
    show Calls _ _ _ _ fun e w' => e = .returned (.bool (decide (n = 0))) ∧ _
    obtain ⟨b, hb⟩ : ∃ b, (n == 0) = b := ⟨_, rfl⟩
    have e1 : decide (n = 0) = b := by rw [← hb]; rfl
    rw [e1]
    clear e1
    go_enter Tryz.func85, Tryz.ntmps85
    go_wp2
    go_ret
    exact ⟨rfl, rfl⟩
  | true =>
    show Calls _ _ _ _ fun e w' => e = .returned (.bool (decide (lo ≤ n) && decide (n ≤ hi))) ∧ _
    obtain ⟨b1, t1⟩ : ∃ b, decide (lo ≤ n) = b := ⟨_, rfl⟩
    obtain ⟨b2, t2⟩ : ∃ b, decide (n ≤ hi) = b := ⟨_, rfl⟩
    rw [t1, t2]
    cases b1 with
    | false =>
      go_enter Tryz.func85, Tryz.ntmps85
      go_wp2
      go_ret
      exact ⟨rfl, rfl⟩
    | true =>
      go_enter Tryz.func85, Tryz.ntmps85
      go_wp2
      go_ret
      exact ⟨rfl, rfl⟩

set_option maxHeartbeats 8000000 in
theorem rightid_any (s i g : Int) (w : World) : Calls Tryz.prog 53 #[.agg #[.int .i64 s, .int .i64 i, .int .i64 g]] w fun e w' => e = .returned (.bool (rightID s i g)) ∧ Below w.heap.size w w' := by
  have FIN := Lib.hid (bel1 w (.cells #[.int .i64 s, .int .i64 i, .int .i64 g] 40))
  obtain ⟨⟨c0, c1, c2⟩, _⟩ := Bx.b3 (at1 w (.cells #[.int .i64 s, .int .i64 i, .int .i64 g] 40))
  unfold rightID
  obtain ⟨b1, t1⟩ : ∃ b, decide (s ≥ 0) = b := ⟨_, rfl⟩
  obtain ⟨b2, t2⟩ : ∃ b, decide (s ≤ 15) = b := ⟨_, rfl⟩
  obtain ⟨b3, t3⟩ : ∃ b, decide (i ≥ 0) = b := ⟨_, rfl⟩
  obtain ⟨b4, t4⟩ : ∃ b, decide (i ≤ 15) = b := ⟨_, rfl⟩
  obtain ⟨b5, t5⟩ : ∃ b, decide (g ≥ 0) = b := ⟨_, rfl⟩
  obtain ⟨b6, t6⟩ : ∃ b, decide (g < 1048576) = b := ⟨_, rfl⟩
  rw [t1, t2, t3, t4, t5, t6]
  generalize hww : w.alloc (.cells #[.int .i64 s, .int .i64 i, .int .i64 g] 40) = w1 at *
  cases b1 with
  | false =>
    go_enter Tryz.func53, Tryz.ntmps53
    go_wp2
    go_ret
    exact ⟨rfl, FIN.out⟩
  | true =>
    cases b2 with
    | false =>
      go_enter Tryz.func53, Tryz.ntmps53
      go_wp2
      go_ret
      exact ⟨rfl, FIN.out⟩
    | true =>
      cases b3 with
      | false =>
        go_enter Tryz.func53, Tryz.ntmps53
        go_wp2
        go_ret
        exact ⟨rfl, FIN.out⟩
      | true =>
        cases b4 with
        | false =>
          go_enter Tryz.func53, Tryz.ntmps53
          go_wp2
          go_ret
          exact ⟨rfl, FIN.out⟩
        | true =>
          cases b5 with
          | false =>
            go_enter Tryz.func53, Tryz.ntmps53
            go_wp2
            go_ret
            exact ⟨rfl, FIN.out⟩
          | true =>
            go_enter Tryz.func53, Tryz.ntmps53
            go_wp2
            go_ret
            exact ⟨rfl, FIN.out⟩
theorem takes_any (m : Int) (w : World) : Calls Tryz.prog 58 #[.int .i64 m] w fun e w' => e = .returned (.bool (takesB m)) ∧ w = w' := by
  have q1 := tmod_two m
  unfold takesB
  obtain ⟨b1, t1⟩ : ∃ b, decide (m ≥ 1) = b := ⟨_, rfl⟩
  obtain ⟨b2, t2⟩ : ∃ b, decide (m ≤ 31) = b := ⟨_, rfl⟩
  obtain ⟨b3, t3⟩ : ∃ b, (m.tmod 2 == 0) = b := ⟨_, rfl⟩
  have e3 : (!bitB m 0) = b3 := by
    have : (m.tmod 2 != 0) = !(m.tmod 2 == 0) := rfl
    rw [this, t3] at q1
    have e4 : bitB m 0 = decide (m % 2 = 1) := by unfold bitB; simp
    rw [e4, ← q1, Bool.not_not]
  rw [t1, t2, e3]
  clear q1 e3
  cases b1 with
  | false =>
    go_enter Tryz.func58, Tryz.ntmps58
    go_wp2
    go_ret
    exact ⟨rfl, rfl⟩
  | true =>
    cases b2 with
    | false =>
      go_enter Tryz.func58, Tryz.ntmps58
      go_wp2
      go_ret
      exact ⟨rfl, rfl⟩
    | true =>
      go_enter Tryz.func58, Tryz.ntmps58
      go_wp2
      go_ret
      exact ⟨rfl, rfl⟩
end Go.Proofs.YtljaahemlcaffaaGreat
namespace Go.Proofs.YtljaahemlcaffaaGreat
open Go.RowKit Pz
set_option linter.unusedVariables false

theorem quiet_same {P : Program} {f : FuncId} {args : Array Value} {w : World} {n : Nat} {v : Value}
    (h : Calls P f args (w.drewN n) fun e w' => e = .returned v ∧ w.drewN n = w') : Calls P f args (w.drewN n) fun e w'' => e = .returned v ∧ ∃ m, w'' = w.drewN m := Calls.quiet_of_same (still_of h)
theorem dn_cell {w : World} {p : Addr} {v : Option Value} (n : Nat) (h : w.cell? p = v) : (w.drewN n).cell? p = v := h
set_option maxHeartbeats 16000000 in
set_option maxRecDepth 100000 in
theorem right_any (b : Bn) (hm : Fit b.m) (w : World) : Calls Tryz.prog 54 #[b.val] w fun e w' => e = .returned (.bool (right b)) ∧ Below w.heap.size w w' := by
  have B0 : Hid (∀ W, Calls Tryz.prog 55 #[.int .i64 b.m, .int .i64 1] W fun e w' => e = .returned (.bool (bitB b.m 0)) ∧ W = w') := Lib.hid fun W => bit_any b.m hm 0 (by decide) W
  have B1 : Hid (∀ W, Calls Tryz.prog 55 #[.int .i64 b.m, .int .i64 2] W fun e w' => e = .returned (.bool (bitB b.m 1)) ∧ W = w') := Lib.hid fun W => bit_any b.m hm 1 (by decide) W
  have B2 : Hid (∀ W, Calls Tryz.prog 55 #[.int .i64 b.m, .int .i64 4] W fun e w' => e = .returned (.bool (bitB b.m 2)) ∧ W = w') := Lib.hid fun W => bit_any b.m hm 2 (by decide) W
  have B3 : Hid (∀ W, Calls Tryz.prog 55 #[.int .i64 b.m, .int .i64 8] W fun e w' => e = .returned (.bool (bitB b.m 3)) ∧ W = w') := Lib.hid fun W => bit_any b.m hm 3 (by decide) W
  have B4 : Hid (∀ W, Calls Tryz.prog 55 #[.int .i64 b.m, .int .i64 16] W fun e w' => e = .returned (.bool (bitB b.m 4)) ∧ W = w') := Lib.hid fun W => bit_any b.m hm 4 (by decide) W
  obtain ⟨s, i, g, m, x, y, vx, vy, h, p, l⟩ := b
  unfold right
  simp only at *
  clear hm
  have FIN := Lib.hid (bel1 w (.cells #[.int .i64 s, .int .i64 i, .int .i64 g, .int .i64 m, .int .i64 x, .int .i64 y, .int .i64 vx, .int .i64 vy, .int .i64 h, .int .i64 p, .int .i64 l] 42))
  obtain ⟨⟨k0, k1, k2, k3, k4, k5, k6, k7, k8, k9, k10⟩, _⟩ := Bx.b11 (at1 w (.cells #[.int .i64 s, .int .i64 i, .int .i64 g, .int .i64 m, .int .i64 x, .int .i64 y, .int .i64 vx, .int .i64 vy, .int .i64 h, .int .i64 p, .int .i64 l] 42))
  generalize bitB m 0 = t0 at *
  generalize bitB m 1 = t1 at *
  generalize bitB m 2 = t2 at *
  generalize bitB m 3 = t3 at *
  generalize bitB m 4 = t4 at *
  obtain ⟨b1, e1⟩ : ∃ b, decide (m < 0) = b := ⟨_, rfl⟩
  obtain ⟨b2, e2⟩ : ∃ b, decide (m > 31) = b := ⟨_, rfl⟩
  obtain ⟨c1, f1⟩ : ∃ c, inB x (-1073741824) 1073741824 t0 = c := ⟨_, rfl⟩
  have I1 : Hid (∀ W, Calls Tryz.prog 85 #[.int .i64 x, .int .i64 (-1073741824), .int .i64 1073741824, .bool t0] W fun e w' => e = .returned (.bool c1) ∧ W = w') := Lib.hid fun W => by
    have := in_any x (-1073741824) 1073741824 t0 W
    rw [f1] at this
    exact this
  obtain ⟨c2, f2⟩ : ∃ c, inB y (-1073741824) 1073741824 t0 = c := ⟨_, rfl⟩
  have I2 : Hid (∀ W, Calls Tryz.prog 85 #[.int .i64 y, .int .i64 (-1073741824), .int .i64 1073741824, .bool t0] W fun e w' => e = .returned (.bool c2) ∧ W = w') := Lib.hid fun W => by
    have := in_any y (-1073741824) 1073741824 t0 W
    rw [f2] at this
    exact this
  obtain ⟨c3, f3⟩ : ∃ c, inB vx (-1073741824) 1073741824 t1 = c := ⟨_, rfl⟩
  have I3 : Hid (∀ W, Calls Tryz.prog 85 #[.int .i64 vx, .int .i64 (-1073741824), .int .i64 1073741824, .bool t1] W fun e w' => e = .returned (.bool c3) ∧ W = w') := Lib.hid fun W => by
    have := in_any vx (-1073741824) 1073741824 t1 W
    rw [f3] at this
    exact this
  obtain ⟨c4, f4⟩ : ∃ c, inB vy (-1073741824) 1073741824 t1 = c := ⟨_, rfl⟩
  have I4 : Hid (∀ W, Calls Tryz.prog 85 #[.int .i64 vy, .int .i64 (-1073741824), .int .i64 1073741824, .bool t1] W fun e w' => e = .returned (.bool c4) ∧ W = w') := Lib.hid fun W => by
    have := in_any vy (-1073741824) 1073741824 t1 W
    rw [f4] at this
    exact this
  obtain ⟨c5, f5⟩ : ∃ c, inB h 1 1048576 t2 = c := ⟨_, rfl⟩
  have I5 : Hid (∀ W, Calls Tryz.prog 85 #[.int .i64 h, .int .i64 1, .int .i64 1048576, .bool t2] W fun e w' => e = .returned (.bool c5) ∧ W = w') := Lib.hid fun W => by
    have := in_any h 1 1048576 t2 W
    rw [f5] at this
    exact this
  obtain ⟨c6, f6⟩ : ∃ c, inB p 0 1024 t3 = c := ⟨_, rfl⟩
  have I6 : Hid (∀ W, Calls Tryz.prog 85 #[.int .i64 p, .int .i64 0, .int .i64 1024, .bool t3] W fun e w' => e = .returned (.bool c6) ∧ W = w') := Lib.hid fun W => by
    have := in_any p 0 1024 t3 W
    rw [f6] at this
    exact this
  obtain ⟨c7, f7⟩ : ∃ c, inB l 1 1048576 t4 = c := ⟨_, rfl⟩
  have I7 : Hid (∀ W, Calls Tryz.prog 85 #[.int .i64 l, .int .i64 1, .int .i64 1048576, .bool t4] W fun e w' => e = .returned (.bool c7) ∧ W = w') := Lib.hid fun W => by
    have := in_any l 1 1048576 t4 W
    rw [f7] at this
    exact this
  rw [e1, e2, f1, f2, f3, f4, f5, f6, f7]
  clear f1 f2 f3 f4 f5 f6 f7
  generalize hww : w.alloc (.cells #[.int .i64 s, .int .i64 i, .int .i64 g, .int .i64 m, .int .i64 x, .int .i64 y, .int .i64 vx, .int .i64 vy, .int .i64 h, .int .i64 p, .int .i64 l] 42) = w1 at *
  cases b1 with
  | true =>
    go_enter Tryz.func54, Tryz.ntmps54
    go_wp2
    go_ret
    exact ⟨rfl, FIN.out⟩
  | false =>
    cases b2 with
    | true =>
      go_enter Tryz.func54, Tryz.ntmps54
      go_wp2
      go_ret
      exact ⟨rfl, FIN.out⟩
    | false =>
      cases c1 with
      | false =>
        go_enter Tryz.func54, Tryz.ntmps54
        go_wp2
        go_quiet (first | (go_at_call 55; with_reducible exact quiet_same (B0.out _)) | (go_at_call 55; with_reducible exact quiet_same (B1.out _)) | (go_at_call 55; with_reducible exact quiet_same (B2.out _)) | (go_at_call 55; with_reducible exact quiet_same (B3.out _)) | (go_at_call 55; with_reducible exact quiet_same (B4.out _)) | (go_at_call 85; with_reducible exact quiet_same (I1.out _)) | (go_at_call 85; with_reducible exact quiet_same (I2.out _)) | (go_at_call 85; with_reducible exact quiet_same (I3.out _)) | (go_at_call 85; with_reducible exact quiet_same (I4.out _)) | (go_at_call 85; with_reducible exact quiet_same (I5.out _)) | (go_at_call 85; with_reducible exact quiet_same (I6.out _)) | (go_at_call 85; with_reducible exact quiet_same (I7.out _)))
        rename_i nq
        replace k0 := dn_cell nq k0
        replace k1 := dn_cell nq k1
        replace k2 := dn_cell nq k2
        replace k3 := dn_cell nq k3
        replace k4 := dn_cell nq k4
        replace k5 := dn_cell nq k5
        replace k6 := dn_cell nq k6
        replace k7 := dn_cell nq k7
        replace k8 := dn_cell nq k8
        replace k9 := dn_cell nq k9
        replace k10 := dn_cell nq k10
        replace FIN := Lib.hid (Below.dn' FIN.out nq)
        generalize w1.drewN nq = w2 at *
        go_wp2
        go_ret
        exact ⟨rfl, FIN.out⟩
      | true =>
        cases c2 with
        | false =>
          go_enter Tryz.func54, Tryz.ntmps54
          go_wp2
          go_quiet (first | (go_at_call 55; with_reducible exact quiet_same (B0.out _)) | (go_at_call 55; with_reducible exact quiet_same (B1.out _)) | (go_at_call 55; with_reducible exact quiet_same (B2.out _)) | (go_at_call 55; with_reducible exact quiet_same (B3.out _)) | (go_at_call 55; with_reducible exact quiet_same (B4.out _)) | (go_at_call 85; with_reducible exact quiet_same (I1.out _)) | (go_at_call 85; with_reducible exact quiet_same (I2.out _)) | (go_at_call 85; with_reducible exact quiet_same (I3.out _)) | (go_at_call 85; with_reducible exact quiet_same (I4.out _)) | (go_at_call 85; with_reducible exact quiet_same (I5.out _)) | (go_at_call 85; with_reducible exact quiet_same (I6.out _)) | (go_at_call 85; with_reducible exact quiet_same (I7.out _)))
          rename_i nq
          replace k0 := dn_cell nq k0
          replace k1 := dn_cell nq k1
          replace k2 := dn_cell nq k2
          replace k3 := dn_cell nq k3
          replace k4 := dn_cell nq k4
          replace k5 := dn_cell nq k5
          replace k6 := dn_cell nq k6
          replace k7 := dn_cell nq k7
          replace k8 := dn_cell nq k8
          replace k9 := dn_cell nq k9
          replace k10 := dn_cell nq k10
          replace FIN := Lib.hid (Below.dn' FIN.out nq)
          generalize w1.drewN nq = w2 at *
          go_wp2
          go_ret
          exact ⟨rfl, FIN.out⟩
        | true =>
          cases c3 with
          | false =>
            go_enter Tryz.func54, Tryz.ntmps54
            go_wp2
            go_quiet (first | (go_at_call 55; with_reducible exact quiet_same (B0.out _)) | (go_at_call 55; with_reducible exact quiet_same (B1.out _)) | (go_at_call 55; with_reducible exact quiet_same (B2.out _)) | (go_at_call 55; with_reducible exact quiet_same (B3.out _)) | (go_at_call 55; with_reducible exact quiet_same (B4.out _)) | (go_at_call 85; with_reducible exact quiet_same (I1.out _)) | (go_at_call 85; with_reducible exact quiet_same (I2.out _)) | (go_at_call 85; with_reducible exact quiet_same (I3.out _)) | (go_at_call 85; with_reducible exact quiet_same (I4.out _)) | (go_at_call 85; with_reducible exact quiet_same (I5.out _)) | (go_at_call 85; with_reducible exact quiet_same (I6.out _)) | (go_at_call 85; with_reducible exact quiet_same (I7.out _)))
            rename_i nq
            replace k0 := dn_cell nq k0
            replace k1 := dn_cell nq k1
            replace k2 := dn_cell nq k2
            replace k3 := dn_cell nq k3
            replace k4 := dn_cell nq k4
            replace k5 := dn_cell nq k5
            replace k6 := dn_cell nq k6
            replace k7 := dn_cell nq k7
            replace k8 := dn_cell nq k8
            replace k9 := dn_cell nq k9
            replace k10 := dn_cell nq k10
            replace FIN := Lib.hid (Below.dn' FIN.out nq)
            generalize w1.drewN nq = w2 at *
            go_wp2
            go_quiet (first | (go_at_call 55; with_reducible exact quiet_same (B0.out _)) | (go_at_call 55; with_reducible exact quiet_same (B1.out _)) | (go_at_call 55; with_reducible exact quiet_same (B2.out _)) | (go_at_call 55; with_reducible exact quiet_same (B3.out _)) | (go_at_call 55; with_reducible exact quiet_same (B4.out _)) | (go_at_call 85; with_reducible exact quiet_same (I1.out _)) | (go_at_call 85; with_reducible exact quiet_same (I2.out _)) | (go_at_call 85; with_reducible exact quiet_same (I3.out _)) | (go_at_call 85; with_reducible exact quiet_same (I4.out _)) | (go_at_call 85; with_reducible exact quiet_same (I5.out _)) | (go_at_call 85; with_reducible exact quiet_same (I6.out _)) | (go_at_call 85; with_reducible exact quiet_same (I7.out _)))
            rename_i nq
            replace k0 := dn_cell nq k0
            replace k1 := dn_cell nq k1
            replace k2 := dn_cell nq k2
            replace k3 := dn_cell nq k3
            replace k4 := dn_cell nq k4
            replace k5 := dn_cell nq k5
            replace k6 := dn_cell nq k6
            replace k7 := dn_cell nq k7
            replace k8 := dn_cell nq k8
            replace k9 := dn_cell nq k9
            replace k10 := dn_cell nq k10
            replace FIN := Lib.hid (Below.dn' FIN.out nq)
            generalize w2.drewN nq = w3 at *
            go_wp2
            go_ret
            exact ⟨rfl, FIN.out⟩
          | true =>
            cases c4 with
            | false =>
              go_enter Tryz.func54, Tryz.ntmps54
              go_wp2
              go_quiet (first | (go_at_call 55; with_reducible exact quiet_same (B0.out _)) | (go_at_call 55; with_reducible exact quiet_same (B1.out _)) | (go_at_call 55; with_reducible exact quiet_same (B2.out _)) | (go_at_call 55; with_reducible exact quiet_same (B3.out _)) | (go_at_call 55; with_reducible exact quiet_same (B4.out _)) | (go_at_call 85; with_reducible exact quiet_same (I1.out _)) | (go_at_call 85; with_reducible exact quiet_same (I2.out _)) | (go_at_call 85; with_reducible exact quiet_same (I3.out _)) | (go_at_call 85; with_reducible exact quiet_same (I4.out _)) | (go_at_call 85; with_reducible exact quiet_same (I5.out _)) | (go_at_call 85; with_reducible exact quiet_same (I6.out _)) | (go_at_call 85; with_reducible exact quiet_same (I7.out _)))
              rename_i nq
              replace k0 := dn_cell nq k0
              replace k1 := dn_cell nq k1
              replace k2 := dn_cell nq k2
              replace k3 := dn_cell nq k3
              replace k4 := dn_cell nq k4
              replace k5 := dn_cell nq k5
              replace k6 := dn_cell nq k6
              replace k7 := dn_cell nq k7
              replace k8 := dn_cell nq k8
              replace k9 := dn_cell nq k9
              replace k10 := dn_cell nq k10
              replace FIN := Lib.hid (Below.dn' FIN.out nq)
              generalize w1.drewN nq = w2 at *
              go_wp2
              go_quiet (first | (go_at_call 55; with_reducible exact quiet_same (B0.out _)) | (go_at_call 55; with_reducible exact quiet_same (B1.out _)) | (go_at_call 55; with_reducible exact quiet_same (B2.out _)) | (go_at_call 55; with_reducible exact quiet_same (B3.out _)) | (go_at_call 55; with_reducible exact quiet_same (B4.out _)) | (go_at_call 85; with_reducible exact quiet_same (I1.out _)) | (go_at_call 85; with_reducible exact quiet_same (I2.out _)) | (go_at_call 85; with_reducible exact quiet_same (I3.out _)) | (go_at_call 85; with_reducible exact quiet_same (I4.out _)) | (go_at_call 85; with_reducible exact quiet_same (I5.out _)) | (go_at_call 85; with_reducible exact quiet_same (I6.out _)) | (go_at_call 85; with_reducible exact quiet_same (I7.out _)))
              rename_i nq
              replace k0 := dn_cell nq k0
              replace k1 := dn_cell nq k1
              replace k2 := dn_cell nq k2
              replace k3 := dn_cell nq k3
              replace k4 := dn_cell nq k4
              replace k5 := dn_cell nq k5
              replace k6 := dn_cell nq k6
              replace k7 := dn_cell nq k7
              replace k8 := dn_cell nq k8
              replace k9 := dn_cell nq k9
              replace k10 := dn_cell nq k10
              replace FIN := Lib.hid (Below.dn' FIN.out nq)
              generalize w2.drewN nq = w3 at *
              go_wp2
              go_ret
              exact ⟨rfl, FIN.out⟩
            | true =>
              cases c5 with
              | false =>
                go_enter Tryz.func54, Tryz.ntmps54
                go_wp2
                go_quiet (first | (go_at_call 55; with_reducible exact quiet_same (B0.out _)) | (go_at_call 55; with_reducible exact quiet_same (B1.out _)) | (go_at_call 55; with_reducible exact quiet_same (B2.out _)) | (go_at_call 55; with_reducible exact quiet_same (B3.out _)) | (go_at_call 55; with_reducible exact quiet_same (B4.out _)) | (go_at_call 85; with_reducible exact quiet_same (I1.out _)) | (go_at_call 85; with_reducible exact quiet_same (I2.out _)) | (go_at_call 85; with_reducible exact quiet_same (I3.out _)) | (go_at_call 85; with_reducible exact quiet_same (I4.out _)) | (go_at_call 85; with_reducible exact quiet_same (I5.out _)) | (go_at_call 85; with_reducible exact quiet_same (I6.out _)) | (go_at_call 85; with_reducible exact quiet_same (I7.out _)))
                rename_i nq
                replace k0 := dn_cell nq k0
                replace k1 := dn_cell nq k1
                replace k2 := dn_cell nq k2
                replace k3 := dn_cell nq k3
                replace k4 := dn_cell nq k4
                replace k5 := dn_cell nq k5
                replace k6 := dn_cell nq k6
                replace k7 := dn_cell nq k7
                replace k8 := dn_cell nq k8
                replace k9 := dn_cell nq k9
                replace k10 := dn_cell nq k10
                replace FIN := Lib.hid (Below.dn' FIN.out nq)
                generalize w1.drewN nq = w2 at *
                go_wp2
                go_quiet (first | (go_at_call 55; with_reducible exact quiet_same (B0.out _)) | (go_at_call 55; with_reducible exact quiet_same (B1.out _)) | (go_at_call 55; with_reducible exact quiet_same (B2.out _)) | (go_at_call 55; with_reducible exact quiet_same (B3.out _)) | (go_at_call 55; with_reducible exact quiet_same (B4.out _)) | (go_at_call 85; with_reducible exact quiet_same (I1.out _)) | (go_at_call 85; with_reducible exact quiet_same (I2.out _)) | (go_at_call 85; with_reducible exact quiet_same (I3.out _)) | (go_at_call 85; with_reducible exact quiet_same (I4.out _)) | (go_at_call 85; with_reducible exact quiet_same (I5.out _)) | (go_at_call 85; with_reducible exact quiet_same (I6.out _)) | (go_at_call 85; with_reducible exact quiet_same (I7.out _)))
                rename_i nq
                replace k0 := dn_cell nq k0
                replace k1 := dn_cell nq k1
                replace k2 := dn_cell nq k2
                replace k3 := dn_cell nq k3
                replace k4 := dn_cell nq k4
                replace k5 := dn_cell nq k5
                replace k6 := dn_cell nq k6
                replace k7 := dn_cell nq k7
                replace k8 := dn_cell nq k8
                replace k9 := dn_cell nq k9
                replace k10 := dn_cell nq k10
                replace FIN := Lib.hid (Below.dn' FIN.out nq)
                generalize w2.drewN nq = w3 at *
                go_wp2
                go_quiet (first | (go_at_call 55; with_reducible exact quiet_same (B0.out _)) | (go_at_call 55; with_reducible exact quiet_same (B1.out _)) | (go_at_call 55; with_reducible exact quiet_same (B2.out _)) | (go_at_call 55; with_reducible exact quiet_same (B3.out _)) | (go_at_call 55; with_reducible exact quiet_same (B4.out _)) | (go_at_call 85; with_reducible exact quiet_same (I1.out _)) | (go_at_call 85; with_reducible exact quiet_same (I2.out _)) | (go_at_call 85; with_reducible exact quiet_same (I3.out _)) | (go_at_call 85; with_reducible exact quiet_same (I4.out _)) | (go_at_call 85; with_reducible exact quiet_same (I5.out _)) | (go_at_call 85; with_reducible exact quiet_same (I6.out _)) | (go_at_call 85; with_reducible exact quiet_same (I7.out _)))
                rename_i nq
                replace k0 := dn_cell nq k0
                replace k1 := dn_cell nq k1
                replace k2 := dn_cell nq k2
                replace k3 := dn_cell nq k3
                replace k4 := dn_cell nq k4
                replace k5 := dn_cell nq k5
                replace k6 := dn_cell nq k6
                replace k7 := dn_cell nq k7
                replace k8 := dn_cell nq k8
                replace k9 := dn_cell nq k9
                replace k10 := dn_cell nq k10
                replace FIN := Lib.hid (Below.dn' FIN.out nq)
                generalize w3.drewN nq = w4 at *
                go_wp2
                go_ret
                exact ⟨rfl, FIN.out⟩
              | true =>
                cases c6 with
                | false =>
                  go_enter Tryz.func54, Tryz.ntmps54
                  go_wp2
                  go_quiet (first | (go_at_call 55; with_reducible exact quiet_same (B0.out _)) | (go_at_call 55; with_reducible exact quiet_same (B1.out _)) | (go_at_call 55; with_reducible exact quiet_same (B2.out _)) | (go_at_call 55; with_reducible exact quiet_same (B3.out _)) | (go_at_call 55; with_reducible exact quiet_same (B4.out _)) | (go_at_call 85; with_reducible exact quiet_same (I1.out _)) | (go_at_call 85; with_reducible exact quiet_same (I2.out _)) | (go_at_call 85; with_reducible exact quiet_same (I3.out _)) | (go_at_call 85; with_reducible exact quiet_same (I4.out _)) | (go_at_call 85; with_reducible exact quiet_same (I5.out _)) | (go_at_call 85; with_reducible exact quiet_same (I6.out _)) | (go_at_call 85; with_reducible exact quiet_same (I7.out _)))
                  rename_i nq
                  replace k0 := dn_cell nq k0
                  replace k1 := dn_cell nq k1
                  replace k2 := dn_cell nq k2
                  replace k3 := dn_cell nq k3
                  replace k4 := dn_cell nq k4
                  replace k5 := dn_cell nq k5
                  replace k6 := dn_cell nq k6
                  replace k7 := dn_cell nq k7
                  replace k8 := dn_cell nq k8
                  replace k9 := dn_cell nq k9
                  replace k10 := dn_cell nq k10
                  replace FIN := Lib.hid (Below.dn' FIN.out nq)
                  generalize w1.drewN nq = w2 at *
                  go_wp2
                  go_quiet (first | (go_at_call 55; with_reducible exact quiet_same (B0.out _)) | (go_at_call 55; with_reducible exact quiet_same (B1.out _)) | (go_at_call 55; with_reducible exact quiet_same (B2.out _)) | (go_at_call 55; with_reducible exact quiet_same (B3.out _)) | (go_at_call 55; with_reducible exact quiet_same (B4.out _)) | (go_at_call 85; with_reducible exact quiet_same (I1.out _)) | (go_at_call 85; with_reducible exact quiet_same (I2.out _)) | (go_at_call 85; with_reducible exact quiet_same (I3.out _)) | (go_at_call 85; with_reducible exact quiet_same (I4.out _)) | (go_at_call 85; with_reducible exact quiet_same (I5.out _)) | (go_at_call 85; with_reducible exact quiet_same (I6.out _)) | (go_at_call 85; with_reducible exact quiet_same (I7.out _)))
                  rename_i nq
                  replace k0 := dn_cell nq k0
                  replace k1 := dn_cell nq k1
                  replace k2 := dn_cell nq k2
                  replace k3 := dn_cell nq k3
                  replace k4 := dn_cell nq k4
                  replace k5 := dn_cell nq k5
                  replace k6 := dn_cell nq k6
                  replace k7 := dn_cell nq k7
                  replace k8 := dn_cell nq k8
                  replace k9 := dn_cell nq k9
                  replace k10 := dn_cell nq k10
                  replace FIN := Lib.hid (Below.dn' FIN.out nq)
                  generalize w2.drewN nq = w3 at *
                  go_wp2
                  go_quiet (first | (go_at_call 55; with_reducible exact quiet_same (B0.out _)) | (go_at_call 55; with_reducible exact quiet_same (B1.out _)) | (go_at_call 55; with_reducible exact quiet_same (B2.out _)) | (go_at_call 55; with_reducible exact quiet_same (B3.out _)) | (go_at_call 55; with_reducible exact quiet_same (B4.out _)) | (go_at_call 85; with_reducible exact quiet_same (I1.out _)) | (go_at_call 85; with_reducible exact quiet_same (I2.out _)) | (go_at_call 85; with_reducible exact quiet_same (I3.out _)) | (go_at_call 85; with_reducible exact quiet_same (I4.out _)) | (go_at_call 85; with_reducible exact quiet_same (I5.out _)) | (go_at_call 85; with_reducible exact quiet_same (I6.out _)) | (go_at_call 85; with_reducible exact quiet_same (I7.out _)))
                  rename_i nq
                  replace k0 := dn_cell nq k0
                  replace k1 := dn_cell nq k1
                  replace k2 := dn_cell nq k2
                  replace k3 := dn_cell nq k3
                  replace k4 := dn_cell nq k4
                  replace k5 := dn_cell nq k5
                  replace k6 := dn_cell nq k6
                  replace k7 := dn_cell nq k7
                  replace k8 := dn_cell nq k8
                  replace k9 := dn_cell nq k9
                  replace k10 := dn_cell nq k10
                  replace FIN := Lib.hid (Below.dn' FIN.out nq)
                  generalize w3.drewN nq = w4 at *
                  go_wp2
                  go_ret
                  exact ⟨rfl, FIN.out⟩
                | true =>
                  go_enter Tryz.func54, Tryz.ntmps54
                  go_wp2
                  go_quiet (first | (go_at_call 55; with_reducible exact quiet_same (B0.out _)) | (go_at_call 55; with_reducible exact quiet_same (B1.out _)) | (go_at_call 55; with_reducible exact quiet_same (B2.out _)) | (go_at_call 55; with_reducible exact quiet_same (B3.out _)) | (go_at_call 55; with_reducible exact quiet_same (B4.out _)) | (go_at_call 85; with_reducible exact quiet_same (I1.out _)) | (go_at_call 85; with_reducible exact quiet_same (I2.out _)) | (go_at_call 85; with_reducible exact quiet_same (I3.out _)) | (go_at_call 85; with_reducible exact quiet_same (I4.out _)) | (go_at_call 85; with_reducible exact quiet_same (I5.out _)) | (go_at_call 85; with_reducible exact quiet_same (I6.out _)) | (go_at_call 85; with_reducible exact quiet_same (I7.out _)))
                  rename_i nq
                  replace k0 := dn_cell nq k0
                  replace k1 := dn_cell nq k1
                  replace k2 := dn_cell nq k2
                  replace k3 := dn_cell nq k3
                  replace k4 := dn_cell nq k4
                  replace k5 := dn_cell nq k5
                  replace k6 := dn_cell nq k6
                  replace k7 := dn_cell nq k7
                  replace k8 := dn_cell nq k8
                  replace k9 := dn_cell nq k9
                  replace k10 := dn_cell nq k10
                  replace FIN := Lib.hid (Below.dn' FIN.out nq)
                  generalize w1.drewN nq = w2 at *
                  go_wp2
                  go_quiet (first | (go_at_call 55; with_reducible exact quiet_same (B0.out _)) | (go_at_call 55; with_reducible exact quiet_same (B1.out _)) | (go_at_call 55; with_reducible exact quiet_same (B2.out _)) | (go_at_call 55; with_reducible exact quiet_same (B3.out _)) | (go_at_call 55; with_reducible exact quiet_same (B4.out _)) | (go_at_call 85; with_reducible exact quiet_same (I1.out _)) | (go_at_call 85; with_reducible exact quiet_same (I2.out _)) | (go_at_call 85; with_reducible exact quiet_same (I3.out _)) | (go_at_call 85; with_reducible exact quiet_same (I4.out _)) | (go_at_call 85; with_reducible exact quiet_same (I5.out _)) | (go_at_call 85; with_reducible exact quiet_same (I6.out _)) | (go_at_call 85; with_reducible exact quiet_same (I7.out _)))
                  rename_i nq
                  replace k0 := dn_cell nq k0
                  replace k1 := dn_cell nq k1
                  replace k2 := dn_cell nq k2
                  replace k3 := dn_cell nq k3
                  replace k4 := dn_cell nq k4
                  replace k5 := dn_cell nq k5
                  replace k6 := dn_cell nq k6
                  replace k7 := dn_cell nq k7
                  replace k8 := dn_cell nq k8
                  replace k9 := dn_cell nq k9
                  replace k10 := dn_cell nq k10
                  replace FIN := Lib.hid (Below.dn' FIN.out nq)
                  generalize w2.drewN nq = w3 at *
                  go_wp2
                  go_quiet (first | (go_at_call 55; with_reducible exact quiet_same (B0.out _)) | (go_at_call 55; with_reducible exact quiet_same (B1.out _)) | (go_at_call 55; with_reducible exact quiet_same (B2.out _)) | (go_at_call 55; with_reducible exact quiet_same (B3.out _)) | (go_at_call 55; with_reducible exact quiet_same (B4.out _)) | (go_at_call 85; with_reducible exact quiet_same (I1.out _)) | (go_at_call 85; with_reducible exact quiet_same (I2.out _)) | (go_at_call 85; with_reducible exact quiet_same (I3.out _)) | (go_at_call 85; with_reducible exact quiet_same (I4.out _)) | (go_at_call 85; with_reducible exact quiet_same (I5.out _)) | (go_at_call 85; with_reducible exact quiet_same (I6.out _)) | (go_at_call 85; with_reducible exact quiet_same (I7.out _)))
                  rename_i nq
                  replace k0 := dn_cell nq k0
                  replace k1 := dn_cell nq k1
                  replace k2 := dn_cell nq k2
                  replace k3 := dn_cell nq k3
                  replace k4 := dn_cell nq k4
                  replace k5 := dn_cell nq k5
                  replace k6 := dn_cell nq k6
                  replace k7 := dn_cell nq k7
                  replace k8 := dn_cell nq k8
                  replace k9 := dn_cell nq k9
                  replace k10 := dn_cell nq k10
                  replace FIN := Lib.hid (Below.dn' FIN.out nq)
                  generalize w3.drewN nq = w4 at *
                  go_wp2
                  go_ret
                  exact ⟨rfl, FIN.out⟩
set_option maxHeartbeats 8000000 in
theorem may_any (b : Bn) (hm : Fit b.m) (w : World) : Calls Tryz.prog 26 #[b.val] w fun e w' => e = .returned (.bool (may b)) ∧ Below w.heap.size w w' := by
  have B0 : Hid (∀ W, Calls Tryz.prog 55 #[.int .i64 b.m, .int .i64 1] W fun e w' => e = .returned (.bool (bitB b.m 0)) ∧ W = w') := Lib.hid fun W => bit_any b.m hm 0 (by decide) W
  have R1 : Hid (∀ W, Calls Tryz.prog 53 #[.agg #[.int .i64 b.s, .int .i64 b.i, .int .i64 b.g]] W fun e w' => e = .returned (.bool (rightID b.s b.i b.g)) ∧ Below W.heap.size W w') := Lib.hid fun W => rightid_any _ _ _ W
  have R2 : Hid (∀ W, Calls Tryz.prog 54 #[b.val] W fun e w' => e = .returned (.bool (right b)) ∧ Below W.heap.size W w') := Lib.hid fun W => right_any b hm W
  unfold may
  obtain ⟨r1, e1⟩ : ∃ r, rightID b.s b.i b.g = r := ⟨_, rfl⟩
  obtain ⟨r2, e2⟩ : ∃ r, right b = r := ⟨_, rfl⟩
  obtain ⟨r3, e3⟩ : ∃ r, bitB b.m 0 = r := ⟨_, rfl⟩
  rw [e1] at R1
  rw [e2] at R2
  rw [e3] at B0
  rw [e1, e2, e3]
  clear e1 e2 e3 hm
  obtain ⟨s, i, g, m, x, y, vx, vy, h, p, l⟩ := b
  simp only at *
  have H0 := at1 w (.cells #[.int .i64 s, .int .i64 i, .int .i64 g, .int .i64 m, .int .i64 x, .int .i64 y, .int .i64 vx, .int .i64 vy, .int .i64 h, .int .i64 p, .int .i64 l] 42)
  have B1 := bel1 w (.cells #[.int .i64 s, .int .i64 i, .int .i64 g, .int .i64 m, .int .i64 x, .int .i64 y, .int .i64 vx, .int .i64 vy, .int .i64 h, .int .i64 p, .int .i64 l] 42)
  have CE : Hid (∀ W, Below (w.alloc (.cells #[.int .i64 s, .int .i64 i, .int .i64 g, .int .i64 m, .int .i64 x, .int .i64 y, .int .i64 vx, .int .i64 vy, .int .i64 h, .int .i64 p, .int .i64 l] 42)).heap.size (w.alloc (.cells #[.int .i64 s, .int .i64 i, .int .i64 g, .int .i64 m, .int .i64 x, .int .i64 y, .int .i64 vx, .int .i64 vy, .int .i64 h, .int .i64 p, .int .i64 l] 42)) W → (W.cell? ⟨w.heap.size, 0, none⟩ = some (.int .i64 s) ∧ W.cell? ⟨w.heap.size, 1, none⟩ = some (.int .i64 i) ∧ W.cell? ⟨w.heap.size, 2, none⟩ = some (.int .i64 g) ∧ W.cell? ⟨w.heap.size, 3, none⟩ = some (.int .i64 m) ∧ W.cell? ⟨w.heap.size, 4, none⟩ = some (.int .i64 x) ∧ W.cell? ⟨w.heap.size, 5, none⟩ = some (.int .i64 y) ∧ W.cell? ⟨w.heap.size, 6, none⟩ = some (.int .i64 vx) ∧ W.cell? ⟨w.heap.size, 7, none⟩ = some (.int .i64 vy) ∧ W.cell? ⟨w.heap.size, 8, none⟩ = some (.int .i64 h) ∧ W.cell? ⟨w.heap.size, 9, none⟩ = some (.int .i64 p) ∧ W.cell? ⟨w.heap.size, 10, none⟩ = some (.int .i64 l)) ∧ Below w.heap.size w W) := Lib.hid fun W hW => ⟨(Bx.b11 ((hW.block _ (Bx.lt H0)).trans H0)).1, B1.trans (hW.mono B1.size)⟩
  obtain ⟨⟨k0, k1, k2, k3, k4, k5, k6, k7, k8, k9, k10⟩, HB⟩ := CE.out _ (Below.refl _ _)
  replace HB := Lib.hid HB
  clear H0 B1
  generalize hww : w.alloc (.cells #[.int .i64 s, .int .i64 i, .int .i64 g, .int .i64 m, .int .i64 x, .int .i64 y, .int .i64 vx, .int .i64 vy, .int .i64 h, .int .i64 p, .int .i64 l] 42) = w1 at *
  cases r1 with
  | false =>
    go_enter Tryz.func26, Tryz.ntmps26
    go_wp2_with (first
      | (go_at_call 53; refine (R1.out _).mono ?_; rintro e w2 ⟨rfl, hb2⟩; clear k0 k1 k2 k3 k4 k5 k6 k7 k8 k9 k10; obtain ⟨⟨k0, k1, k2, k3, k4, k5, k6, k7, k8, k9, k10⟩, HB⟩ := CE.out w2 hb2; replace HB := Lib.hid HB; have B2 := Lib.hid hb2; clear hb2)
      | (go_at_call 54; refine (R2.out _).mono ?_; rintro e w3 ⟨rfl, hb3⟩; clear k0 k1 k2 k3 k4 k5 k6 k7 k8 k9 k10; obtain ⟨⟨k0, k1, k2, k3, k4, k5, k6, k7, k8, k9, k10⟩, HB⟩ := CE.out w3 (B2.out.trans (hb3.mono B2.out.size)); replace HB := Lib.hid HB; clear hb3)
      | (go_at_call 55; refine (B0.out _).mono ?_; rintro e w' ⟨rfl, rfl⟩))
    go_ret
    exact ⟨rfl, HB.out⟩
  | true =>
    cases r2 with
    | false =>
      go_enter Tryz.func26, Tryz.ntmps26
      go_wp2_with (first
        | (go_at_call 53; refine (R1.out _).mono ?_; rintro e w2 ⟨rfl, hb2⟩; clear k0 k1 k2 k3 k4 k5 k6 k7 k8 k9 k10; obtain ⟨⟨k0, k1, k2, k3, k4, k5, k6, k7, k8, k9, k10⟩, HB⟩ := CE.out w2 hb2; replace HB := Lib.hid HB; have B2 := Lib.hid hb2; clear hb2)
        | (go_at_call 54; refine (R2.out _).mono ?_; rintro e w3 ⟨rfl, hb3⟩; clear k0 k1 k2 k3 k4 k5 k6 k7 k8 k9 k10; obtain ⟨⟨k0, k1, k2, k3, k4, k5, k6, k7, k8, k9, k10⟩, HB⟩ := CE.out w3 (B2.out.trans (hb3.mono B2.out.size)); replace HB := Lib.hid HB; clear hb3)
        | (go_at_call 55; refine (B0.out _).mono ?_; rintro e w' ⟨rfl, rfl⟩))
      go_ret
      exact ⟨rfl, HB.out⟩
    | true =>
      go_enter Tryz.func26, Tryz.ntmps26
      go_wp2_with (first
        | (go_at_call 53; refine (R1.out _).mono ?_; rintro e w2 ⟨rfl, hb2⟩; clear k0 k1 k2 k3 k4 k5 k6 k7 k8 k9 k10; obtain ⟨⟨k0, k1, k2, k3, k4, k5, k6, k7, k8, k9, k10⟩, HB⟩ := CE.out w2 hb2; replace HB := Lib.hid HB; have B2 := Lib.hid hb2; clear hb2)
        | (go_at_call 54; refine (R2.out _).mono ?_; rintro e w3 ⟨rfl, hb3⟩; clear k0 k1 k2 k3 k4 k5 k6 k7 k8 k9 k10; obtain ⟨⟨k0, k1, k2, k3, k4, k5, k6, k7, k8, k9, k10⟩, HB⟩ := CE.out w3 (B2.out.trans (hb3.mono B2.out.size)); replace HB := Lib.hid HB; clear hb3)
        | (go_at_call 55; refine (B0.out _).mono ?_; rintro e w' ⟨rfl, rfl⟩))
      go_ret
      exact ⟨rfl, HB.out⟩
end Go.Proofs.YtljaahemlcaffaaGreat
namespace Go.Proofs.YtljaahemlcaffaaGreat
open Go.RowKit Pz
set_option linter.unusedVariables false

theorem ite_and {a x : Int} {r : Result Bool} {c : Bool} {w : World} (h : r = .ok c w) : (if a = x then r else .ok false w) = .ok ((a == x) && c) w := by
  by_cases e : a = x
  · rw [if_pos e, beq_iff_eq.2 e, h]; rfl
  · rw [if_neg e, beq_eq_false_iff_ne.2 e]; rfl
theorem ite_end {a x : Int} {w : World} : (if a = x then Result.ok true w else .ok false w) = .ok (a == x) w := by
  by_cases e : a = x
  · rw [if_pos e, beq_iff_eq.2 e]
  · rw [if_neg e, beq_eq_false_iff_ne.2 e]
set_option maxRecDepth 100000 in
set_option maxHeartbeats 4000000 in
theorem eq_id (d : Nat) (p0 p1 p2 q0 q1 q2 : Int) (w : World) : (Op.equalIn (d + 2) 40 (.agg #[.int .i64 p0, .int .i64 p1, .int .i64 p2]) (.agg #[.int .i64 q0, .int .i64 q1, .int .i64 q2])).run Tryz.prog w = .ok ((p0 == q0) && ((p1 == q1) && (p2 == q2))) w := by
  have u3 := Tryz.underlying3
  have a3 := Tryz.isAgg3
  have z3 := Tryz.sizeOf3
  have hS : Tryz.prog.underlying 40 = some (.struct (Tryz.prog.fieldsOf 40)) := by kernel_rfl
  have hp : Tryz.prog.stoodInHeld 40 = false := by kernel_rfl
  rw [run_equalIn_agg w _ 40 _ _ hS hp]
  simp only [Program.fieldsOf, Tryz.underlying40]
  go_simp
  exact ite_and (ite_and ite_end)
set_option maxRecDepth 100000 in
set_option maxHeartbeats 4000000 in
theorem eq_bundle  (p0 p1 p2 p3 p4 p5 p6 p7 p8 p9 p10 q0 q1 q2 q3 q4 q5 q6 q7 q8 q9 q10 : Int) (w : World) : (Op.equalIn (9999 + 1) 42 (.agg #[.int .i64 p0, .int .i64 p1, .int .i64 p2, .int .i64 p3, .int .i64 p4, .int .i64 p5, .int .i64 p6, .int .i64 p7, .int .i64 p8, .int .i64 p9, .int .i64 p10]) (.agg #[.int .i64 q0, .int .i64 q1, .int .i64 q2, .int .i64 q3, .int .i64 q4, .int .i64 q5, .int .i64 q6, .int .i64 q7, .int .i64 q8, .int .i64 q9, .int .i64 q10])).run Tryz.prog w = .ok (((p0 == q0) && ((p1 == q1) && (p2 == q2))) && ((p3 == q3) && ((p4 == q4) && ((p5 == q5) && ((p6 == q6) && ((p7 == q7) && ((p8 == q8) && ((p9 == q9) && (p10 == q10))))))))) w := by
  have u3 := Tryz.underlying3
  have a3 := Tryz.isAgg3
  have z3 := Tryz.sizeOf3
  have hS : Tryz.prog.underlying 42 = some (.struct (Tryz.prog.fieldsOf 42)) := by kernel_rfl
  have hp : Tryz.prog.stoodInHeld 42 = false := by kernel_rfl
  have E := fun W => eq_id 9997 p0 p1 p2 q0 q1 q2 W
  have u23 := Tryz.underlying40
  have a23 := Tryz.isAgg40
  have z23 := Tryz.sizeOf40
  generalize ((p0 == q0) && ((p1 == q1) && (p2 == q2))) = b at *
  rw [run_equalIn_agg w _ 42 _ _ hS hp]
  simp only [Program.fieldsOf, Tryz.underlying42]
  go_simp
  cases b with
  | false => rfl
  | true => exact (ite_and (ite_and (ite_and (ite_and (ite_and (ite_and (ite_and ite_end)))))))
end Go.Proofs.YtljaahemlcaffaaGreat
namespace Go.Proofs.YtljaahemlcaffaaGreat
open Go.RowKit Pz
set_option linter.unusedVariables false

set_option maxHeartbeats 16000000 in
set_option maxRecDepth 100000 in
theorem maycmd_any (c : Cn) (hm : Fit c.b.m) (w : World) : Calls Tryz.prog 31 #[c.val] w fun e w' => e = .returned (.bool (mayCmd c)) ∧ Below w.heap.size w w' := by
  have M1 : Hid (∀ W, Calls Tryz.prog 26 #[c.b.val] W fun e w' => e = .returned (.bool (may c.b)) ∧ Below W.heap.size W w') := Lib.hid fun W => may_any c.b hm W
  have R1 : Hid (∀ W, Calls Tryz.prog 53 #[.agg #[.int .i64 c.s, .int .i64 c.i, .int .i64 c.g]] W fun e w' => e = .returned (.bool (rightID c.s c.i c.g)) ∧ Below W.heap.size W w') := Lib.hid fun W => rightid_any _ _ _ W
  have R2 : Hid (∀ W, Calls Tryz.prog 54 #[c.b.val] W fun e w' => e = .returned (.bool (right c.b)) ∧ Below W.heap.size W w') := Lib.hid fun W => right_any c.b hm W
  have T1 : Hid (∀ W, Calls Tryz.prog 58 #[.int .i64 c.b.m] W fun e w' => e = .returned (.bool (takesB c.b.m)) ∧ W = w') := Lib.hid fun W => takes_any _ W
  have T2 : Hid (∀ W, Calls Tryz.prog 58 #[.int .i64 c.m] W fun e w' => e = .returned (.bool (takesB c.m)) ∧ W = w') := Lib.hid fun W => takes_any _ W
  have Q1 : ∀ W : World, (Op.equalIn 10000 40 (.agg #[.int .i64 c.s, .int .i64 c.i, .int .i64 c.g]) (.agg #[.int .i64 0, .int .i64 0, .int .i64 0])).run Tryz.prog W = .ok (noID c.s c.i c.g) W := fun W => eq_id 9998 c.s c.i c.g 0 0 0 W
  have Q3 : ∀ W : World, (Op.equalIn 10000 40 (.agg #[.int .i64 c.b.s, .int .i64 c.b.i, .int .i64 c.b.g]) (.agg #[.int .i64 0, .int .i64 0, .int .i64 0])).run Tryz.prog W = .ok (noID c.b.s c.b.i c.b.g) W := fun W => eq_id 9998 c.b.s c.b.i c.b.g 0 0 0 W
  have Q2 : ∀ W : World, (Op.equalIn 10000 42 c.b.val (.agg #[.int .i64 0, .int .i64 0, .int .i64 0, .int .i64 0, .int .i64 0, .int .i64 0, .int .i64 0, .int .i64 0, .int .i64 0, .int .i64 0, .int .i64 0])).run Tryz.prog W = .ok (empty c.b) W := fun W => eq_bundle c.b.s c.b.i c.b.g c.b.m c.b.x c.b.y c.b.vx c.b.vy c.b.h c.b.p c.b.l 0 0 0 0 0 0 0 0 0 0 0 W
  unfold mayCmd
  obtain ⟨d1, e1⟩ : ∃ r, may c.b = r := ⟨_, rfl⟩
  obtain ⟨d2, e2⟩ : ∃ r, rightID c.s c.i c.g = r := ⟨_, rfl⟩
  obtain ⟨d3, e3⟩ : ∃ r, right c.b = r := ⟨_, rfl⟩
  obtain ⟨d4, e4⟩ : ∃ r, takesB c.b.m = r := ⟨_, rfl⟩
  obtain ⟨d5, e5⟩ : ∃ r, takesB c.m = r := ⟨_, rfl⟩
  obtain ⟨d6, e6⟩ : ∃ r, noID c.s c.i c.g = r := ⟨_, rfl⟩
  obtain ⟨d7, e7⟩ : ∃ r, noID c.b.s c.b.i c.b.g = r := ⟨_, rfl⟩
  obtain ⟨d8, e8⟩ : ∃ r, empty c.b = r := ⟨_, rfl⟩
  obtain ⟨d9, e9⟩ : ∃ r, (c.m == 0) = r := ⟨_, rfl⟩
  have e9' : decide (c.m = 0) = d9 := e9
  rw [e1] at M1
  rw [e2] at R1
  rw [e3] at R2
  rw [e4] at T1
  rw [e5] at T2
  rw [e6] at Q1
  rw [e7] at Q3
  rw [e8] at Q2
  rw [e1, e2, e3, e4, e5, e6, e7, e8, e9']
  clear e1 e2 e3 e4 e5 e6 e7 e8 e9' hm
  obtain ⟨k, s, i, g, ⟨bs, bi, bg, bm, x, y, vx, vy, h, p, l⟩, m⟩ := c
  simp only [Cn.val, Bn.val] at *
  have H0 := at1 w (.cells #[.int .i64 k, .int .i64 s, .int .i64 i, .int .i64 g, .int .i64 bs, .int .i64 bi, .int .i64 bg, .int .i64 bm, .int .i64 x, .int .i64 y, .int .i64 vx, .int .i64 vy, .int .i64 h, .int .i64 p, .int .i64 l, .int .i64 m] 55)
  have B1 := bel1 w (.cells #[.int .i64 k, .int .i64 s, .int .i64 i, .int .i64 g, .int .i64 bs, .int .i64 bi, .int .i64 bg, .int .i64 bm, .int .i64 x, .int .i64 y, .int .i64 vx, .int .i64 vy, .int .i64 h, .int .i64 p, .int .i64 l, .int .i64 m] 55)
  have CE : Hid (∀ W, Below (w.alloc (.cells #[.int .i64 k, .int .i64 s, .int .i64 i, .int .i64 g, .int .i64 bs, .int .i64 bi, .int .i64 bg, .int .i64 bm, .int .i64 x, .int .i64 y, .int .i64 vx, .int .i64 vy, .int .i64 h, .int .i64 p, .int .i64 l, .int .i64 m] 55)).heap.size (w.alloc (.cells #[.int .i64 k, .int .i64 s, .int .i64 i, .int .i64 g, .int .i64 bs, .int .i64 bi, .int .i64 bg, .int .i64 bm, .int .i64 x, .int .i64 y, .int .i64 vx, .int .i64 vy, .int .i64 h, .int .i64 p, .int .i64 l, .int .i64 m] 55)) W → (W.cell? ⟨w.heap.size, 0, none⟩ = some (.int .i64 k) ∧ W.cell? ⟨w.heap.size, 1, none⟩ = some (.int .i64 s) ∧ W.cell? ⟨w.heap.size, 2, none⟩ = some (.int .i64 i) ∧ W.cell? ⟨w.heap.size, 3, none⟩ = some (.int .i64 g) ∧ W.cell? ⟨w.heap.size, 4, none⟩ = some (.int .i64 bs) ∧ W.cell? ⟨w.heap.size, 5, none⟩ = some (.int .i64 bi) ∧ W.cell? ⟨w.heap.size, 6, none⟩ = some (.int .i64 bg) ∧ W.cell? ⟨w.heap.size, 7, none⟩ = some (.int .i64 bm) ∧ W.cell? ⟨w.heap.size, 8, none⟩ = some (.int .i64 x) ∧ W.cell? ⟨w.heap.size, 9, none⟩ = some (.int .i64 y) ∧ W.cell? ⟨w.heap.size, 10, none⟩ = some (.int .i64 vx) ∧ W.cell? ⟨w.heap.size, 11, none⟩ = some (.int .i64 vy) ∧ W.cell? ⟨w.heap.size, 12, none⟩ = some (.int .i64 h) ∧ W.cell? ⟨w.heap.size, 13, none⟩ = some (.int .i64 p) ∧ W.cell? ⟨w.heap.size, 14, none⟩ = some (.int .i64 l) ∧ W.cell? ⟨w.heap.size, 15, none⟩ = some (.int .i64 m)) ∧ Below w.heap.size w W) := Lib.hid fun W hW => ⟨(Bx.b16 ((hW.block _ (Bx.lt H0)).trans H0)).1, B1.trans (hW.mono B1.size)⟩
  obtain ⟨⟨k0, k1, k2, k3, k4, k5, k6, k7, k8, k9, k10, k11, k12, k13, k14, k15⟩, HB⟩ := CE.out _ (Below.refl _ _)
  replace HB := Lib.hid HB
  have BB := Lib.hid (Below.refl (w.alloc (.cells #[.int .i64 k, .int .i64 s, .int .i64 i, .int .i64 g, .int .i64 bs, .int .i64 bi, .int .i64 bg, .int .i64 bm, .int .i64 x, .int .i64 y, .int .i64 vx, .int .i64 vy, .int .i64 h, .int .i64 p, .int .i64 l, .int .i64 m] 55)).heap.size (w.alloc (.cells #[.int .i64 k, .int .i64 s, .int .i64 i, .int .i64 g, .int .i64 bs, .int .i64 bi, .int .i64 bg, .int .i64 bm, .int .i64 x, .int .i64 y, .int .i64 vx, .int .i64 vy, .int .i64 h, .int .i64 p, .int .i64 l, .int .i64 m] 55)))
  clear H0 B1
  generalize hww : w.alloc (.cells #[.int .i64 k, .int .i64 s, .int .i64 i, .int .i64 g, .int .i64 bs, .int .i64 bi, .int .i64 bg, .int .i64 bm, .int .i64 x, .int .i64 y, .int .i64 vx, .int .i64 vy, .int .i64 h, .int .i64 p, .int .i64 l, .int .i64 m] 55) = w1 at *
  by_cases h1 : k = 1
  · rw [if_pos h1]
    have z1 : (k == 1) = true := by rw [h1]; rfl
    clear h1
    cases d6 with
    | false =>
      go_enter Tryz.func31, Tryz.ntmps31
      go_wp2_with (first
        | (go_at_call 26; with_reducible refine (M1.out _).mono ?_; rintro e w2 ⟨rfl, hb2⟩; clear k0 k1 k2 k3 k4 k5 k6 k7 k8 k9 k10 k11 k12 k13 k14 k15; replace BB := Lib.hid (BB.out.trans (hb2.mono BB.out.size)); clear hb2; obtain ⟨⟨k0, k1, k2, k3, k4, k5, k6, k7, k8, k9, k10, k11, k12, k13, k14, k15⟩, HB⟩ := CE.out w2 BB.out; replace HB := Lib.hid HB))
      go_ret
      exact ⟨rfl, HB.out⟩
    | true =>
      cases d9 with
      | false =>
        go_enter Tryz.func31, Tryz.ntmps31
        go_wp2_with (first
          | (go_at_call 26; with_reducible refine (M1.out _).mono ?_; rintro e w2 ⟨rfl, hb2⟩; clear k0 k1 k2 k3 k4 k5 k6 k7 k8 k9 k10 k11 k12 k13 k14 k15; replace BB := Lib.hid (BB.out.trans (hb2.mono BB.out.size)); clear hb2; obtain ⟨⟨k0, k1, k2, k3, k4, k5, k6, k7, k8, k9, k10, k11, k12, k13, k14, k15⟩, HB⟩ := CE.out w2 BB.out; replace HB := Lib.hid HB))
        go_ret
        exact ⟨rfl, HB.out⟩
      | true =>
        go_enter Tryz.func31, Tryz.ntmps31
        go_wp2_with (first
          | (go_at_call 26; with_reducible refine (M1.out _).mono ?_; rintro e w2 ⟨rfl, hb2⟩; clear k0 k1 k2 k3 k4 k5 k6 k7 k8 k9 k10 k11 k12 k13 k14 k15; replace BB := Lib.hid (BB.out.trans (hb2.mono BB.out.size)); clear hb2; obtain ⟨⟨k0, k1, k2, k3, k4, k5, k6, k7, k8, k9, k10, k11, k12, k13, k14, k15⟩, HB⟩ := CE.out w2 BB.out; replace HB := Lib.hid HB))
        go_ret
        exact ⟨rfl, HB.out⟩
  · rw [if_neg h1]
    by_cases h2 : k = 2
    · rw [if_pos h2]
      have z1 : (k == 1) = false := by rw [h2]; rfl
      have z2 : (k == 2) = true := by rw [h2]; rfl
      clear h2
      cases d2 with
      | false =>
        go_enter Tryz.func31, Tryz.ntmps31
        go_wp2_with (first
          | (go_at_call 53; with_reducible refine (R1.out _).mono ?_; rintro e w2 ⟨rfl, hb2⟩; clear k0 k1 k2 k3 k4 k5 k6 k7 k8 k9 k10 k11 k12 k13 k14 k15; replace BB := Lib.hid (BB.out.trans (hb2.mono BB.out.size)); clear hb2; obtain ⟨⟨k0, k1, k2, k3, k4, k5, k6, k7, k8, k9, k10, k11, k12, k13, k14, k15⟩, HB⟩ := CE.out w2 BB.out; replace HB := Lib.hid HB))
        go_ret
        exact ⟨rfl, HB.out⟩
      | true =>
        cases d9 with
        | false =>
          go_enter Tryz.func31, Tryz.ntmps31
          go_wp2_with (first
            | (go_at_call 53; with_reducible refine (R1.out _).mono ?_; rintro e w2 ⟨rfl, hb2⟩; clear k0 k1 k2 k3 k4 k5 k6 k7 k8 k9 k10 k11 k12 k13 k14 k15; replace BB := Lib.hid (BB.out.trans (hb2.mono BB.out.size)); clear hb2; obtain ⟨⟨k0, k1, k2, k3, k4, k5, k6, k7, k8, k9, k10, k11, k12, k13, k14, k15⟩, HB⟩ := CE.out w2 BB.out; replace HB := Lib.hid HB))
          go_ret
          exact ⟨rfl, HB.out⟩
        | true =>
          go_enter Tryz.func31, Tryz.ntmps31
          go_wp2_with (first
            | (go_at_call 53; with_reducible refine (R1.out _).mono ?_; rintro e w2 ⟨rfl, hb2⟩; clear k0 k1 k2 k3 k4 k5 k6 k7 k8 k9 k10 k11 k12 k13 k14 k15; replace BB := Lib.hid (BB.out.trans (hb2.mono BB.out.size)); clear hb2; obtain ⟨⟨k0, k1, k2, k3, k4, k5, k6, k7, k8, k9, k10, k11, k12, k13, k14, k15⟩, HB⟩ := CE.out w2 BB.out; replace HB := Lib.hid HB))
          go_ret
          exact ⟨rfl, HB.out⟩
    · rw [if_neg h2]
      by_cases h3 : k = 3
      · rw [if_pos h3]
        have z1 : (k == 1) = false := by rw [h3]; rfl
        have z2 : (k == 2) = false := by rw [h3]; rfl
        have z3 : (k == 3) = true := by rw [h3]; rfl
        clear h3
        cases d2 with
        | false =>
          go_enter Tryz.func31, Tryz.ntmps31
          go_wp2_with (first
            | (go_at_call 53; with_reducible refine (R1.out _).mono ?_; rintro e w2 ⟨rfl, hb2⟩; clear k0 k1 k2 k3 k4 k5 k6 k7 k8 k9 k10 k11 k12 k13 k14 k15; replace BB := Lib.hid (BB.out.trans (hb2.mono BB.out.size)); clear hb2; obtain ⟨⟨k0, k1, k2, k3, k4, k5, k6, k7, k8, k9, k10, k11, k12, k13, k14, k15⟩, HB⟩ := CE.out w2 BB.out; replace HB := Lib.hid HB)
            | (go_at_call 58; with_reducible refine (T1.out _).mono ?_; rintro e w' ⟨rfl, rfl⟩)
            | (go_at_call 54; with_reducible refine (R2.out _).mono ?_; rintro e w2 ⟨rfl, hb2⟩; clear k0 k1 k2 k3 k4 k5 k6 k7 k8 k9 k10 k11 k12 k13 k14 k15; replace BB := Lib.hid (BB.out.trans (hb2.mono BB.out.size)); clear hb2; obtain ⟨⟨k0, k1, k2, k3, k4, k5, k6, k7, k8, k9, k10, k11, k12, k13, k14, k15⟩, HB⟩ := CE.out w2 BB.out; replace HB := Lib.hid HB))
          go_ret
          exact ⟨rfl, HB.out⟩
        | true =>
          cases d9 with
          | false =>
            go_enter Tryz.func31, Tryz.ntmps31
            go_wp2_with (first
              | (go_at_call 53; with_reducible refine (R1.out _).mono ?_; rintro e w2 ⟨rfl, hb2⟩; clear k0 k1 k2 k3 k4 k5 k6 k7 k8 k9 k10 k11 k12 k13 k14 k15; replace BB := Lib.hid (BB.out.trans (hb2.mono BB.out.size)); clear hb2; obtain ⟨⟨k0, k1, k2, k3, k4, k5, k6, k7, k8, k9, k10, k11, k12, k13, k14, k15⟩, HB⟩ := CE.out w2 BB.out; replace HB := Lib.hid HB)
              | (go_at_call 58; with_reducible refine (T1.out _).mono ?_; rintro e w' ⟨rfl, rfl⟩)
              | (go_at_call 54; with_reducible refine (R2.out _).mono ?_; rintro e w2 ⟨rfl, hb2⟩; clear k0 k1 k2 k3 k4 k5 k6 k7 k8 k9 k10 k11 k12 k13 k14 k15; replace BB := Lib.hid (BB.out.trans (hb2.mono BB.out.size)); clear hb2; obtain ⟨⟨k0, k1, k2, k3, k4, k5, k6, k7, k8, k9, k10, k11, k12, k13, k14, k15⟩, HB⟩ := CE.out w2 BB.out; replace HB := Lib.hid HB))
            go_ret
            exact ⟨rfl, HB.out⟩
          | true =>
            cases d7 with
            | false =>
              go_enter Tryz.func31, Tryz.ntmps31
              go_wp2_with (first
                | (go_at_call 53; with_reducible refine (R1.out _).mono ?_; rintro e w2 ⟨rfl, hb2⟩; clear k0 k1 k2 k3 k4 k5 k6 k7 k8 k9 k10 k11 k12 k13 k14 k15; replace BB := Lib.hid (BB.out.trans (hb2.mono BB.out.size)); clear hb2; obtain ⟨⟨k0, k1, k2, k3, k4, k5, k6, k7, k8, k9, k10, k11, k12, k13, k14, k15⟩, HB⟩ := CE.out w2 BB.out; replace HB := Lib.hid HB)
                | (go_at_call 58; with_reducible refine (T1.out _).mono ?_; rintro e w' ⟨rfl, rfl⟩)
                | (go_at_call 54; with_reducible refine (R2.out _).mono ?_; rintro e w2 ⟨rfl, hb2⟩; clear k0 k1 k2 k3 k4 k5 k6 k7 k8 k9 k10 k11 k12 k13 k14 k15; replace BB := Lib.hid (BB.out.trans (hb2.mono BB.out.size)); clear hb2; obtain ⟨⟨k0, k1, k2, k3, k4, k5, k6, k7, k8, k9, k10, k11, k12, k13, k14, k15⟩, HB⟩ := CE.out w2 BB.out; replace HB := Lib.hid HB))
              go_ret
              exact ⟨rfl, HB.out⟩
            | true =>
              cases d4 with
              | false =>
                go_enter Tryz.func31, Tryz.ntmps31
                go_wp2_with (first
                  | (go_at_call 53; with_reducible refine (R1.out _).mono ?_; rintro e w2 ⟨rfl, hb2⟩; clear k0 k1 k2 k3 k4 k5 k6 k7 k8 k9 k10 k11 k12 k13 k14 k15; replace BB := Lib.hid (BB.out.trans (hb2.mono BB.out.size)); clear hb2; obtain ⟨⟨k0, k1, k2, k3, k4, k5, k6, k7, k8, k9, k10, k11, k12, k13, k14, k15⟩, HB⟩ := CE.out w2 BB.out; replace HB := Lib.hid HB)
                  | (go_at_call 58; with_reducible refine (T1.out _).mono ?_; rintro e w' ⟨rfl, rfl⟩)
                  | (go_at_call 54; with_reducible refine (R2.out _).mono ?_; rintro e w2 ⟨rfl, hb2⟩; clear k0 k1 k2 k3 k4 k5 k6 k7 k8 k9 k10 k11 k12 k13 k14 k15; replace BB := Lib.hid (BB.out.trans (hb2.mono BB.out.size)); clear hb2; obtain ⟨⟨k0, k1, k2, k3, k4, k5, k6, k7, k8, k9, k10, k11, k12, k13, k14, k15⟩, HB⟩ := CE.out w2 BB.out; replace HB := Lib.hid HB))
                go_ret
                exact ⟨rfl, HB.out⟩
              | true =>
                go_enter Tryz.func31, Tryz.ntmps31
                go_wp2_with (first
                  | (go_at_call 53; with_reducible refine (R1.out _).mono ?_; rintro e w2 ⟨rfl, hb2⟩; clear k0 k1 k2 k3 k4 k5 k6 k7 k8 k9 k10 k11 k12 k13 k14 k15; replace BB := Lib.hid (BB.out.trans (hb2.mono BB.out.size)); clear hb2; obtain ⟨⟨k0, k1, k2, k3, k4, k5, k6, k7, k8, k9, k10, k11, k12, k13, k14, k15⟩, HB⟩ := CE.out w2 BB.out; replace HB := Lib.hid HB)
                  | (go_at_call 58; with_reducible refine (T1.out _).mono ?_; rintro e w' ⟨rfl, rfl⟩)
                  | (go_at_call 54; with_reducible refine (R2.out _).mono ?_; rintro e w2 ⟨rfl, hb2⟩; clear k0 k1 k2 k3 k4 k5 k6 k7 k8 k9 k10 k11 k12 k13 k14 k15; replace BB := Lib.hid (BB.out.trans (hb2.mono BB.out.size)); clear hb2; obtain ⟨⟨k0, k1, k2, k3, k4, k5, k6, k7, k8, k9, k10, k11, k12, k13, k14, k15⟩, HB⟩ := CE.out w2 BB.out; replace HB := Lib.hid HB))
                go_ret
                exact ⟨rfl, HB.out⟩
      · rw [if_neg h3]
        by_cases h4 : k = 4
        · rw [if_pos h4]
          have z1 : (k == 1) = false := by rw [h4]; rfl
          have z2 : (k == 2) = false := by rw [h4]; rfl
          have z3 : (k == 3) = false := by rw [h4]; rfl
          have z4 : (k == 4) = true := by rw [h4]; rfl
          clear h4
          cases d2 with
          | false =>
            go_enter Tryz.func31, Tryz.ntmps31
            go_wp2_with (first
              | (go_at_call 53; with_reducible refine (R1.out _).mono ?_; rintro e w2 ⟨rfl, hb2⟩; clear k0 k1 k2 k3 k4 k5 k6 k7 k8 k9 k10 k11 k12 k13 k14 k15; replace BB := Lib.hid (BB.out.trans (hb2.mono BB.out.size)); clear hb2; obtain ⟨⟨k0, k1, k2, k3, k4, k5, k6, k7, k8, k9, k10, k11, k12, k13, k14, k15⟩, HB⟩ := CE.out w2 BB.out; replace HB := Lib.hid HB)
              | (go_at_call 58; with_reducible refine (T2.out _).mono ?_; rintro e w' ⟨rfl, rfl⟩))
            go_ret
            exact ⟨rfl, HB.out⟩
          | true =>
            cases d8 with
            | false =>
              go_enter Tryz.func31, Tryz.ntmps31
              go_wp2_with (first
                | (go_at_call 53; with_reducible refine (R1.out _).mono ?_; rintro e w2 ⟨rfl, hb2⟩; clear k0 k1 k2 k3 k4 k5 k6 k7 k8 k9 k10 k11 k12 k13 k14 k15; replace BB := Lib.hid (BB.out.trans (hb2.mono BB.out.size)); clear hb2; obtain ⟨⟨k0, k1, k2, k3, k4, k5, k6, k7, k8, k9, k10, k11, k12, k13, k14, k15⟩, HB⟩ := CE.out w2 BB.out; replace HB := Lib.hid HB)
                | (go_at_call 58; with_reducible refine (T2.out _).mono ?_; rintro e w' ⟨rfl, rfl⟩))
              go_ret
              exact ⟨rfl, HB.out⟩
            | true =>
              go_enter Tryz.func31, Tryz.ntmps31
              go_wp2_with (first
                | (go_at_call 53; with_reducible refine (R1.out _).mono ?_; rintro e w2 ⟨rfl, hb2⟩; clear k0 k1 k2 k3 k4 k5 k6 k7 k8 k9 k10 k11 k12 k13 k14 k15; replace BB := Lib.hid (BB.out.trans (hb2.mono BB.out.size)); clear hb2; obtain ⟨⟨k0, k1, k2, k3, k4, k5, k6, k7, k8, k9, k10, k11, k12, k13, k14, k15⟩, HB⟩ := CE.out w2 BB.out; replace HB := Lib.hid HB)
                | (go_at_call 58; with_reducible refine (T2.out _).mono ?_; rintro e w' ⟨rfl, rfl⟩))
              go_ret
              exact ⟨rfl, HB.out⟩
        · rw [if_neg h4]
          have z1 : (k == 1) = false := beq_eq_false_iff_ne.2 h1
          have z2 : (k == 2) = false := beq_eq_false_iff_ne.2 h2
          have z3 : (k == 3) = false := beq_eq_false_iff_ne.2 h3
          have z4 : (k == 4) = false := beq_eq_false_iff_ne.2 h4
          go_enter Tryz.func31, Tryz.ntmps31
          go_wp2
          go_ret
          exact ⟨rfl, HB.out⟩
end Go.Proofs.YtljaahemlcaffaaGreat
