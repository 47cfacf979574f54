/- The document's parts: Right, May. Written by wip/tools/genpz2.py. -/
import Derived.Test.YtookmjdnmmfkfaaPzRef1
namespace Go.Proofs.Ytookmjdnmmfkfaa
open Go.RowKit Pz
set_option linter.unusedVariables false

theorem quiet_same {P : Program} {f : FuncId} {args : Array Value} {w : World} {n : Nat} {v : Value}
    (h : Calls P f args (w.drewN n) fun e w' => e = .returned v ∧ w.drewN n = w') : Calls P f args (w.drewN n) fun e w'' => e = .returned v ∧ ∃ m, w'' = w.drewN m := Calls.quiet_of_same (still_of h)
theorem dn_cell {w : World} {p : Addr} {v : Option Value} (n : Nat) (h : w.cell? p = v) : (w.drewN n).cell? p = v := h
set_option maxHeartbeats 16000000 in
set_option maxRecDepth 100000 in
theorem right_any (b : Bn) (hm : Fit b.m) (w : World) : Calls Try.prog 31 #[b.val] w fun e w' => e = .returned (.bool (right b)) ∧ Below w.heap.size w w' := by
  have B0 : Hid (∀ W, Calls Try.prog 34 #[.int .i64 b.m, .int .i64 1] W fun e w' => e = .returned (.bool (bitB b.m 0)) ∧ W = w') := Lib.hid fun W => bit_any b.m hm 0 (by decide) W
  have B1 : Hid (∀ W, Calls Try.prog 34 #[.int .i64 b.m, .int .i64 2] W fun e w' => e = .returned (.bool (bitB b.m 1)) ∧ W = w') := Lib.hid fun W => bit_any b.m hm 1 (by decide) W
  have B2 : Hid (∀ W, Calls Try.prog 34 #[.int .i64 b.m, .int .i64 4] W fun e w' => e = .returned (.bool (bitB b.m 2)) ∧ W = w') := Lib.hid fun W => bit_any b.m hm 2 (by decide) W
  have B3 : Hid (∀ W, Calls Try.prog 34 #[.int .i64 b.m, .int .i64 8] W fun e w' => e = .returned (.bool (bitB b.m 3)) ∧ W = w') := Lib.hid fun W => bit_any b.m hm 3 (by decide) W
  have B4 : Hid (∀ W, Calls Try.prog 34 #[.int .i64 b.m, .int .i64 16] W fun e w' => e = .returned (.bool (bitB b.m 4)) ∧ W = w') := Lib.hid fun W => bit_any b.m hm 4 (by decide) W
  obtain ⟨s, i, g, m, x, y, vx, vy, h, p, l⟩ := b
  unfold right
  simp only at *
  clear hm
  have FIN := Lib.hid (bel1 w (.cells #[.int .i64 s, .int .i64 i, .int .i64 g, .int .i64 m, .int .i64 x, .int .i64 y, .int .i64 vx, .int .i64 vy, .int .i64 h, .int .i64 p, .int .i64 l] 25))
  obtain ⟨⟨k0, k1, k2, k3, k4, k5, k6, k7, k8, k9, k10⟩, _⟩ := Bx.b11 (at1 w (.cells #[.int .i64 s, .int .i64 i, .int .i64 g, .int .i64 m, .int .i64 x, .int .i64 y, .int .i64 vx, .int .i64 vy, .int .i64 h, .int .i64 p, .int .i64 l] 25))
  generalize bitB m 0 = t0 at *
  generalize bitB m 1 = t1 at *
  generalize bitB m 2 = t2 at *
  generalize bitB m 3 = t3 at *
  generalize bitB m 4 = t4 at *
  obtain ⟨b1, e1⟩ : ∃ b, decide (m < 0) = b := ⟨_, rfl⟩
  obtain ⟨b2, e2⟩ : ∃ b, decide (m > 31) = b := ⟨_, rfl⟩
  obtain ⟨c1, f1⟩ : ∃ c, inB x (-1073741824) 1073741824 t0 = c := ⟨_, rfl⟩
  have I1 : Hid (∀ W, Calls Try.prog 45 #[.int .i64 x, .int .i64 (-1073741824), .int .i64 1073741824, .bool t0] W fun e w' => e = .returned (.bool c1) ∧ W = w') := Lib.hid fun W => by
    have := in_any x (-1073741824) 1073741824 t0 W
    rw [f1] at this
    exact this
  obtain ⟨c2, f2⟩ : ∃ c, inB y (-1073741824) 1073741824 t0 = c := ⟨_, rfl⟩
  have I2 : Hid (∀ W, Calls Try.prog 45 #[.int .i64 y, .int .i64 (-1073741824), .int .i64 1073741824, .bool t0] W fun e w' => e = .returned (.bool c2) ∧ W = w') := Lib.hid fun W => by
    have := in_any y (-1073741824) 1073741824 t0 W
    rw [f2] at this
    exact this
  obtain ⟨c3, f3⟩ : ∃ c, inB vx (-1073741824) 1073741824 t1 = c := ⟨_, rfl⟩
  have I3 : Hid (∀ W, Calls Try.prog 45 #[.int .i64 vx, .int .i64 (-1073741824), .int .i64 1073741824, .bool t1] W fun e w' => e = .returned (.bool c3) ∧ W = w') := Lib.hid fun W => by
    have := in_any vx (-1073741824) 1073741824 t1 W
    rw [f3] at this
    exact this
  obtain ⟨c4, f4⟩ : ∃ c, inB vy (-1073741824) 1073741824 t1 = c := ⟨_, rfl⟩
  have I4 : Hid (∀ W, Calls Try.prog 45 #[.int .i64 vy, .int .i64 (-1073741824), .int .i64 1073741824, .bool t1] W fun e w' => e = .returned (.bool c4) ∧ W = w') := Lib.hid fun W => by
    have := in_any vy (-1073741824) 1073741824 t1 W
    rw [f4] at this
    exact this
  obtain ⟨c5, f5⟩ : ∃ c, inB h 1 1048576 t2 = c := ⟨_, rfl⟩
  have I5 : Hid (∀ W, Calls Try.prog 45 #[.int .i64 h, .int .i64 1, .int .i64 1048576, .bool t2] W fun e w' => e = .returned (.bool c5) ∧ W = w') := Lib.hid fun W => by
    have := in_any h 1 1048576 t2 W
    rw [f5] at this
    exact this
  obtain ⟨c6, f6⟩ : ∃ c, inB p 0 1024 t3 = c := ⟨_, rfl⟩
  have I6 : Hid (∀ W, Calls Try.prog 45 #[.int .i64 p, .int .i64 0, .int .i64 1024, .bool t3] W fun e w' => e = .returned (.bool c6) ∧ W = w') := Lib.hid fun W => by
    have := in_any p 0 1024 t3 W
    rw [f6] at this
    exact this
  obtain ⟨c7, f7⟩ : ∃ c, inB l 1 1048576 t4 = c := ⟨_, rfl⟩
  have I7 : Hid (∀ W, Calls Try.prog 45 #[.int .i64 l, .int .i64 1, .int .i64 1048576, .bool t4] W fun e w' => e = .returned (.bool c7) ∧ W = w') := Lib.hid fun W => by
    have := in_any l 1 1048576 t4 W
    rw [f7] at this
    exact this
  rw [e1, e2, f1, f2, f3, f4, f5, f6, f7]
  clear f1 f2 f3 f4 f5 f6 f7
  generalize hww : w.alloc (.cells #[.int .i64 s, .int .i64 i, .int .i64 g, .int .i64 m, .int .i64 x, .int .i64 y, .int .i64 vx, .int .i64 vy, .int .i64 h, .int .i64 p, .int .i64 l] 25) = w1 at *
  cases b1 with
  | true =>
    go_enter Try.func31, Try.ntmps31
    go_wp2
    go_ret
    exact ⟨rfl, FIN.out⟩
  | false =>
    cases b2 with
    | true =>
      go_enter Try.func31, Try.ntmps31
      go_wp2
      go_ret
      exact ⟨rfl, FIN.out⟩
    | false =>
      cases c1 with
      | false =>
        go_enter Try.func31, Try.ntmps31
        go_wp2
        go_quiet (first | (go_at_call 34; with_reducible exact quiet_same (B0.out _)) | (go_at_call 34; with_reducible exact quiet_same (B1.out _)) | (go_at_call 34; with_reducible exact quiet_same (B2.out _)) | (go_at_call 34; with_reducible exact quiet_same (B3.out _)) | (go_at_call 34; with_reducible exact quiet_same (B4.out _)) | (go_at_call 45; with_reducible exact quiet_same (I1.out _)) | (go_at_call 45; with_reducible exact quiet_same (I2.out _)) | (go_at_call 45; with_reducible exact quiet_same (I3.out _)) | (go_at_call 45; with_reducible exact quiet_same (I4.out _)) | (go_at_call 45; with_reducible exact quiet_same (I5.out _)) | (go_at_call 45; with_reducible exact quiet_same (I6.out _)) | (go_at_call 45; with_reducible exact quiet_same (I7.out _)))
        rename_i nq
        replace k0 := dn_cell nq k0
        replace k1 := dn_cell nq k1
        replace k2 := dn_cell nq k2
        replace k3 := dn_cell nq k3
        replace k4 := dn_cell nq k4
        replace k5 := dn_cell nq k5
        replace k6 := dn_cell nq k6
        replace k7 := dn_cell nq k7
        replace k8 := dn_cell nq k8
        replace k9 := dn_cell nq k9
        replace k10 := dn_cell nq k10
        replace FIN := Lib.hid (Below.dn' FIN.out nq)
        generalize w1.drewN nq = w2 at *
        go_wp2
        go_ret
        exact ⟨rfl, FIN.out⟩
      | true =>
        cases c2 with
        | false =>
          go_enter Try.func31, Try.ntmps31
          go_wp2
          go_quiet (first | (go_at_call 34; with_reducible exact quiet_same (B0.out _)) | (go_at_call 34; with_reducible exact quiet_same (B1.out _)) | (go_at_call 34; with_reducible exact quiet_same (B2.out _)) | (go_at_call 34; with_reducible exact quiet_same (B3.out _)) | (go_at_call 34; with_reducible exact quiet_same (B4.out _)) | (go_at_call 45; with_reducible exact quiet_same (I1.out _)) | (go_at_call 45; with_reducible exact quiet_same (I2.out _)) | (go_at_call 45; with_reducible exact quiet_same (I3.out _)) | (go_at_call 45; with_reducible exact quiet_same (I4.out _)) | (go_at_call 45; with_reducible exact quiet_same (I5.out _)) | (go_at_call 45; with_reducible exact quiet_same (I6.out _)) | (go_at_call 45; with_reducible exact quiet_same (I7.out _)))
          rename_i nq
          replace k0 := dn_cell nq k0
          replace k1 := dn_cell nq k1
          replace k2 := dn_cell nq k2
          replace k3 := dn_cell nq k3
          replace k4 := dn_cell nq k4
          replace k5 := dn_cell nq k5
          replace k6 := dn_cell nq k6
          replace k7 := dn_cell nq k7
          replace k8 := dn_cell nq k8
          replace k9 := dn_cell nq k9
          replace k10 := dn_cell nq k10
          replace FIN := Lib.hid (Below.dn' FIN.out nq)
          generalize w1.drewN nq = w2 at *
          go_wp2
          go_ret
          exact ⟨rfl, FIN.out⟩
        | true =>
          cases c3 with
          | false =>
            go_enter Try.func31, Try.ntmps31
            go_wp2
            go_quiet (first | (go_at_call 34; with_reducible exact quiet_same (B0.out _)) | (go_at_call 34; with_reducible exact quiet_same (B1.out _)) | (go_at_call 34; with_reducible exact quiet_same (B2.out _)) | (go_at_call 34; with_reducible exact quiet_same (B3.out _)) | (go_at_call 34; with_reducible exact quiet_same (B4.out _)) | (go_at_call 45; with_reducible exact quiet_same (I1.out _)) | (go_at_call 45; with_reducible exact quiet_same (I2.out _)) | (go_at_call 45; with_reducible exact quiet_same (I3.out _)) | (go_at_call 45; with_reducible exact quiet_same (I4.out _)) | (go_at_call 45; with_reducible exact quiet_same (I5.out _)) | (go_at_call 45; with_reducible exact quiet_same (I6.out _)) | (go_at_call 45; with_reducible exact quiet_same (I7.out _)))
            rename_i nq
            replace k0 := dn_cell nq k0
            replace k1 := dn_cell nq k1
            replace k2 := dn_cell nq k2
            replace k3 := dn_cell nq k3
            replace k4 := dn_cell nq k4
            replace k5 := dn_cell nq k5
            replace k6 := dn_cell nq k6
            replace k7 := dn_cell nq k7
            replace k8 := dn_cell nq k8
            replace k9 := dn_cell nq k9
            replace k10 := dn_cell nq k10
            replace FIN := Lib.hid (Below.dn' FIN.out nq)
            generalize w1.drewN nq = w2 at *
            go_wp2
            go_quiet (first | (go_at_call 34; with_reducible exact quiet_same (B0.out _)) | (go_at_call 34; with_reducible exact quiet_same (B1.out _)) | (go_at_call 34; with_reducible exact quiet_same (B2.out _)) | (go_at_call 34; with_reducible exact quiet_same (B3.out _)) | (go_at_call 34; with_reducible exact quiet_same (B4.out _)) | (go_at_call 45; with_reducible exact quiet_same (I1.out _)) | (go_at_call 45; with_reducible exact quiet_same (I2.out _)) | (go_at_call 45; with_reducible exact quiet_same (I3.out _)) | (go_at_call 45; with_reducible exact quiet_same (I4.out _)) | (go_at_call 45; with_reducible exact quiet_same (I5.out _)) | (go_at_call 45; with_reducible exact quiet_same (I6.out _)) | (go_at_call 45; with_reducible exact quiet_same (I7.out _)))
            rename_i nq
            replace k0 := dn_cell nq k0
            replace k1 := dn_cell nq k1
            replace k2 := dn_cell nq k2
            replace k3 := dn_cell nq k3
            replace k4 := dn_cell nq k4
            replace k5 := dn_cell nq k5
            replace k6 := dn_cell nq k6
            replace k7 := dn_cell nq k7
            replace k8 := dn_cell nq k8
            replace k9 := dn_cell nq k9
            replace k10 := dn_cell nq k10
            replace FIN := Lib.hid (Below.dn' FIN.out nq)
            generalize w2.drewN nq = w3 at *
            go_wp2
            go_ret
            exact ⟨rfl, FIN.out⟩
          | true =>
            cases c4 with
            | false =>
              go_enter Try.func31, Try.ntmps31
              go_wp2
              go_quiet (first | (go_at_call 34; with_reducible exact quiet_same (B0.out _)) | (go_at_call 34; with_reducible exact quiet_same (B1.out _)) | (go_at_call 34; with_reducible exact quiet_same (B2.out _)) | (go_at_call 34; with_reducible exact quiet_same (B3.out _)) | (go_at_call 34; with_reducible exact quiet_same (B4.out _)) | (go_at_call 45; with_reducible exact quiet_same (I1.out _)) | (go_at_call 45; with_reducible exact quiet_same (I2.out _)) | (go_at_call 45; with_reducible exact quiet_same (I3.out _)) | (go_at_call 45; with_reducible exact quiet_same (I4.out _)) | (go_at_call 45; with_reducible exact quiet_same (I5.out _)) | (go_at_call 45; with_reducible exact quiet_same (I6.out _)) | (go_at_call 45; with_reducible exact quiet_same (I7.out _)))
              rename_i nq
              replace k0 := dn_cell nq k0
              replace k1 := dn_cell nq k1
              replace k2 := dn_cell nq k2
              replace k3 := dn_cell nq k3
              replace k4 := dn_cell nq k4
              replace k5 := dn_cell nq k5
              replace k6 := dn_cell nq k6
              replace k7 := dn_cell nq k7
              replace k8 := dn_cell nq k8
              replace k9 := dn_cell nq k9
              replace k10 := dn_cell nq k10
              replace FIN := Lib.hid (Below.dn' FIN.out nq)
              generalize w1.drewN nq = w2 at *
              go_wp2
              go_quiet (first | (go_at_call 34; with_reducible exact quiet_same (B0.out _)) | (go_at_call 34; with_reducible exact quiet_same (B1.out _)) | (go_at_call 34; with_reducible exact quiet_same (B2.out _)) | (go_at_call 34; with_reducible exact quiet_same (B3.out _)) | (go_at_call 34; with_reducible exact quiet_same (B4.out _)) | (go_at_call 45; with_reducible exact quiet_same (I1.out _)) | (go_at_call 45; with_reducible exact quiet_same (I2.out _)) | (go_at_call 45; with_reducible exact quiet_same (I3.out _)) | (go_at_call 45; with_reducible exact quiet_same (I4.out _)) | (go_at_call 45; with_reducible exact quiet_same (I5.out _)) | (go_at_call 45; with_reducible exact quiet_same (I6.out _)) | (go_at_call 45; with_reducible exact quiet_same (I7.out _)))
              rename_i nq
              replace k0 := dn_cell nq k0
              replace k1 := dn_cell nq k1
              replace k2 := dn_cell nq k2
              replace k3 := dn_cell nq k3
              replace k4 := dn_cell nq k4
              replace k5 := dn_cell nq k5
              replace k6 := dn_cell nq k6
              replace k7 := dn_cell nq k7
              replace k8 := dn_cell nq k8
              replace k9 := dn_cell nq k9
              replace k10 := dn_cell nq k10
              replace FIN := Lib.hid (Below.dn' FIN.out nq)
              generalize w2.drewN nq = w3 at *
              go_wp2
              go_ret
              exact ⟨rfl, FIN.out⟩
            | true =>
              cases c5 with
              | false =>
                go_enter Try.func31, Try.ntmps31
                go_wp2
                go_quiet (first | (go_at_call 34; with_reducible exact quiet_same (B0.out _)) | (go_at_call 34; with_reducible exact quiet_same (B1.out _)) | (go_at_call 34; with_reducible exact quiet_same (B2.out _)) | (go_at_call 34; with_reducible exact quiet_same (B3.out _)) | (go_at_call 34; with_reducible exact quiet_same (B4.out _)) | (go_at_call 45; with_reducible exact quiet_same (I1.out _)) | (go_at_call 45; with_reducible exact quiet_same (I2.out _)) | (go_at_call 45; with_reducible exact quiet_same (I3.out _)) | (go_at_call 45; with_reducible exact quiet_same (I4.out _)) | (go_at_call 45; with_reducible exact quiet_same (I5.out _)) | (go_at_call 45; with_reducible exact quiet_same (I6.out _)) | (go_at_call 45; with_reducible exact quiet_same (I7.out _)))
                rename_i nq
                replace k0 := dn_cell nq k0
                replace k1 := dn_cell nq k1
                replace k2 := dn_cell nq k2
                replace k3 := dn_cell nq k3
                replace k4 := dn_cell nq k4
                replace k5 := dn_cell nq k5
                replace k6 := dn_cell nq k6
                replace k7 := dn_cell nq k7
                replace k8 := dn_cell nq k8
                replace k9 := dn_cell nq k9
                replace k10 := dn_cell nq k10
                replace FIN := Lib.hid (Below.dn' FIN.out nq)
                generalize w1.drewN nq = w2 at *
                go_wp2
                go_quiet (first | (go_at_call 34; with_reducible exact quiet_same (B0.out _)) | (go_at_call 34; with_reducible exact quiet_same (B1.out _)) | (go_at_call 34; with_reducible exact quiet_same (B2.out _)) | (go_at_call 34; with_reducible exact quiet_same (B3.out _)) | (go_at_call 34; with_reducible exact quiet_same (B4.out _)) | (go_at_call 45; with_reducible exact quiet_same (I1.out _)) | (go_at_call 45; with_reducible exact quiet_same (I2.out _)) | (go_at_call 45; with_reducible exact quiet_same (I3.out _)) | (go_at_call 45; with_reducible exact quiet_same (I4.out _)) | (go_at_call 45; with_reducible exact quiet_same (I5.out _)) | (go_at_call 45; with_reducible exact quiet_same (I6.out _)) | (go_at_call 45; with_reducible exact quiet_same (I7.out _)))
                rename_i nq
                replace k0 := dn_cell nq k0
                replace k1 := dn_cell nq k1
                replace k2 := dn_cell nq k2
                replace k3 := dn_cell nq k3
                replace k4 := dn_cell nq k4
                replace k5 := dn_cell nq k5
                replace k6 := dn_cell nq k6
                replace k7 := dn_cell nq k7
                replace k8 := dn_cell nq k8
                replace k9 := dn_cell nq k9
                replace k10 := dn_cell nq k10
                replace FIN := Lib.hid (Below.dn' FIN.out nq)
                generalize w2.drewN nq = w3 at *
                go_wp2
                go_quiet (first | (go_at_call 34; with_reducible exact quiet_same (B0.out _)) | (go_at_call 34; with_reducible exact quiet_same (B1.out _)) | (go_at_call 34; with_reducible exact quiet_same (B2.out _)) | (go_at_call 34; with_reducible exact quiet_same (B3.out _)) | (go_at_call 34; with_reducible exact quiet_same (B4.out _)) | (go_at_call 45; with_reducible exact quiet_same (I1.out _)) | (go_at_call 45; with_reducible exact quiet_same (I2.out _)) | (go_at_call 45; with_reducible exact quiet_same (I3.out _)) | (go_at_call 45; with_reducible exact quiet_same (I4.out _)) | (go_at_call 45; with_reducible exact quiet_same (I5.out _)) | (go_at_call 45; with_reducible exact quiet_same (I6.out _)) | (go_at_call 45; with_reducible exact quiet_same (I7.out _)))
                rename_i nq
                replace k0 := dn_cell nq k0
                replace k1 := dn_cell nq k1
                replace k2 := dn_cell nq k2
                replace k3 := dn_cell nq k3
                replace k4 := dn_cell nq k4
                replace k5 := dn_cell nq k5
                replace k6 := dn_cell nq k6
                replace k7 := dn_cell nq k7
                replace k8 := dn_cell nq k8
                replace k9 := dn_cell nq k9
                replace k10 := dn_cell nq k10
                replace FIN := Lib.hid (Below.dn' FIN.out nq)
                generalize w3.drewN nq = w4 at *
                go_wp2
                go_ret
                exact ⟨rfl, FIN.out⟩
              | true =>
                cases c6 with
                | false =>
                  go_enter Try.func31, Try.ntmps31
                  go_wp2
                  go_quiet (first | (go_at_call 34; with_reducible exact quiet_same (B0.out _)) | (go_at_call 34; with_reducible exact quiet_same (B1.out _)) | (go_at_call 34; with_reducible exact quiet_same (B2.out _)) | (go_at_call 34; with_reducible exact quiet_same (B3.out _)) | (go_at_call 34; with_reducible exact quiet_same (B4.out _)) | (go_at_call 45; with_reducible exact quiet_same (I1.out _)) | (go_at_call 45; with_reducible exact quiet_same (I2.out _)) | (go_at_call 45; with_reducible exact quiet_same (I3.out _)) | (go_at_call 45; with_reducible exact quiet_same (I4.out _)) | (go_at_call 45; with_reducible exact quiet_same (I5.out _)) | (go_at_call 45; with_reducible exact quiet_same (I6.out _)) | (go_at_call 45; with_reducible exact quiet_same (I7.out _)))
                  rename_i nq
                  replace k0 := dn_cell nq k0
                  replace k1 := dn_cell nq k1
                  replace k2 := dn_cell nq k2
                  replace k3 := dn_cell nq k3
                  replace k4 := dn_cell nq k4
                  replace k5 := dn_cell nq k5
                  replace k6 := dn_cell nq k6
                  replace k7 := dn_cell nq k7
                  replace k8 := dn_cell nq k8
                  replace k9 := dn_cell nq k9
                  replace k10 := dn_cell nq k10
                  replace FIN := Lib.hid (Below.dn' FIN.out nq)
                  generalize w1.drewN nq = w2 at *
                  go_wp2
                  go_quiet (first | (go_at_call 34; with_reducible exact quiet_same (B0.out _)) | (go_at_call 34; with_reducible exact quiet_same (B1.out _)) | (go_at_call 34; with_reducible exact quiet_same (B2.out _)) | (go_at_call 34; with_reducible exact quiet_same (B3.out _)) | (go_at_call 34; with_reducible exact quiet_same (B4.out _)) | (go_at_call 45; with_reducible exact quiet_same (I1.out _)) | (go_at_call 45; with_reducible exact quiet_same (I2.out _)) | (go_at_call 45; with_reducible exact quiet_same (I3.out _)) | (go_at_call 45; with_reducible exact quiet_same (I4.out _)) | (go_at_call 45; with_reducible exact quiet_same (I5.out _)) | (go_at_call 45; with_reducible exact quiet_same (I6.out _)) | (go_at_call 45; with_reducible exact quiet_same (I7.out _)))
                  rename_i nq
                  replace k0 := dn_cell nq k0
                  replace k1 := dn_cell nq k1
                  replace k2 := dn_cell nq k2
                  replace k3 := dn_cell nq k3
                  replace k4 := dn_cell nq k4
                  replace k5 := dn_cell nq k5
                  replace k6 := dn_cell nq k6
                  replace k7 := dn_cell nq k7
                  replace k8 := dn_cell nq k8
                  replace k9 := dn_cell nq k9
                  replace k10 := dn_cell nq k10
                  replace FIN := Lib.hid (Below.dn' FIN.out nq)
                  generalize w2.drewN nq = w3 at *
                  go_wp2
                  go_quiet (first | (go_at_call 34; with_reducible exact quiet_same (B0.out _)) | (go_at_call 34; with_reducible exact quiet_same (B1.out _)) | (go_at_call 34; with_reducible exact quiet_same (B2.out _)) | (go_at_call 34; with_reducible exact quiet_same (B3.out _)) | (go_at_call 34; with_reducible exact quiet_same (B4.out _)) | (go_at_call 45; with_reducible exact quiet_same (I1.out _)) | (go_at_call 45; with_reducible exact quiet_same (I2.out _)) | (go_at_call 45; with_reducible exact quiet_same (I3.out _)) | (go_at_call 45; with_reducible exact quiet_same (I4.out _)) | (go_at_call 45; with_reducible exact quiet_same (I5.out _)) | (go_at_call 45; with_reducible exact quiet_same (I6.out _)) | (go_at_call 45; with_reducible exact quiet_same (I7.out _)))
                  rename_i nq
                  replace k0 := dn_cell nq k0
                  replace k1 := dn_cell nq k1
                  replace k2 := dn_cell nq k2
                  replace k3 := dn_cell nq k3
                  replace k4 := dn_cell nq k4
                  replace k5 := dn_cell nq k5
                  replace k6 := dn_cell nq k6
                  replace k7 := dn_cell nq k7
                  replace k8 := dn_cell nq k8
                  replace k9 := dn_cell nq k9
                  replace k10 := dn_cell nq k10
                  replace FIN := Lib.hid (Below.dn' FIN.out nq)
                  generalize w3.drewN nq = w4 at *
                  go_wp2
                  go_ret
                  exact ⟨rfl, FIN.out⟩
                | true =>
                  go_enter Try.func31, Try.ntmps31
                  go_wp2
                  go_quiet (first | (go_at_call 34; with_reducible exact quiet_same (B0.out _)) | (go_at_call 34; with_reducible exact quiet_same (B1.out _)) | (go_at_call 34; with_reducible exact quiet_same (B2.out _)) | (go_at_call 34; with_reducible exact quiet_same (B3.out _)) | (go_at_call 34; with_reducible exact quiet_same (B4.out _)) | (go_at_call 45; with_reducible exact quiet_same (I1.out _)) | (go_at_call 45; with_reducible exact quiet_same (I2.out _)) | (go_at_call 45; with_reducible exact quiet_same (I3.out _)) | (go_at_call 45; with_reducible exact quiet_same (I4.out _)) | (go_at_call 45; with_reducible exact quiet_same (I5.out _)) | (go_at_call 45; with_reducible exact quiet_same (I6.out _)) | (go_at_call 45; with_reducible exact quiet_same (I7.out _)))
                  rename_i nq
                  replace k0 := dn_cell nq k0
                  replace k1 := dn_cell nq k1
                  replace k2 := dn_cell nq k2
                  replace k3 := dn_cell nq k3
                  replace k4 := dn_cell nq k4
                  replace k5 := dn_cell nq k5
                  replace k6 := dn_cell nq k6
                  replace k7 := dn_cell nq k7
                  replace k8 := dn_cell nq k8
                  replace k9 := dn_cell nq k9
                  replace k10 := dn_cell nq k10
                  replace FIN := Lib.hid (Below.dn' FIN.out nq)
                  generalize w1.drewN nq = w2 at *
                  go_wp2
                  go_quiet (first | (go_at_call 34; with_reducible exact quiet_same (B0.out _)) | (go_at_call 34; with_reducible exact quiet_same (B1.out _)) | (go_at_call 34; with_reducible exact quiet_same (B2.out _)) | (go_at_call 34; with_reducible exact quiet_same (B3.out _)) | (go_at_call 34; with_reducible exact quiet_same (B4.out _)) | (go_at_call 45; with_reducible exact quiet_same (I1.out _)) | (go_at_call 45; with_reducible exact quiet_same (I2.out _)) | (go_at_call 45; with_reducible exact quiet_same (I3.out _)) | (go_at_call 45; with_reducible exact quiet_same (I4.out _)) | (go_at_call 45; with_reducible exact quiet_same (I5.out _)) | (go_at_call 45; with_reducible exact quiet_same (I6.out _)) | (go_at_call 45; with_reducible exact quiet_same (I7.out _)))
                  rename_i nq
                  replace k0 := dn_cell nq k0
                  replace k1 := dn_cell nq k1
                  replace k2 := dn_cell nq k2
                  replace k3 := dn_cell nq k3
                  replace k4 := dn_cell nq k4
                  replace k5 := dn_cell nq k5
                  replace k6 := dn_cell nq k6
                  replace k7 := dn_cell nq k7
                  replace k8 := dn_cell nq k8
                  replace k9 := dn_cell nq k9
                  replace k10 := dn_cell nq k10
                  replace FIN := Lib.hid (Below.dn' FIN.out nq)
                  generalize w2.drewN nq = w3 at *
                  go_wp2
                  go_quiet (first | (go_at_call 34; with_reducible exact quiet_same (B0.out _)) | (go_at_call 34; with_reducible exact quiet_same (B1.out _)) | (go_at_call 34; with_reducible exact quiet_same (B2.out _)) | (go_at_call 34; with_reducible exact quiet_same (B3.out _)) | (go_at_call 34; with_reducible exact quiet_same (B4.out _)) | (go_at_call 45; with_reducible exact quiet_same (I1.out _)) | (go_at_call 45; with_reducible exact quiet_same (I2.out _)) | (go_at_call 45; with_reducible exact quiet_same (I3.out _)) | (go_at_call 45; with_reducible exact quiet_same (I4.out _)) | (go_at_call 45; with_reducible exact quiet_same (I5.out _)) | (go_at_call 45; with_reducible exact quiet_same (I6.out _)) | (go_at_call 45; with_reducible exact quiet_same (I7.out _)))
                  rename_i nq
                  replace k0 := dn_cell nq k0
                  replace k1 := dn_cell nq k1
                  replace k2 := dn_cell nq k2
                  replace k3 := dn_cell nq k3
                  replace k4 := dn_cell nq k4
                  replace k5 := dn_cell nq k5
                  replace k6 := dn_cell nq k6
                  replace k7 := dn_cell nq k7
                  replace k8 := dn_cell nq k8
                  replace k9 := dn_cell nq k9
                  replace k10 := dn_cell nq k10
                  replace FIN := Lib.hid (Below.dn' FIN.out nq)
                  generalize w3.drewN nq = w4 at *
                  go_wp2
                  go_ret
                  exact ⟨rfl, FIN.out⟩
set_option maxHeartbeats 8000000 in
theorem may_any (b : Bn) (hm : Fit b.m) (w : World) : Calls Try.prog 13 #[b.val] w fun e w' => e = .returned (.bool (may b)) ∧ Below w.heap.size w w' := by
  have B0 : Hid (∀ W, Calls Try.prog 34 #[.int .i64 b.m, .int .i64 1] W fun e w' => e = .returned (.bool (bitB b.m 0)) ∧ W = w') := Lib.hid fun W => bit_any b.m hm 0 (by decide) W
  have R1 : Hid (∀ W, Calls Try.prog 15 #[.agg #[.int .i64 b.s, .int .i64 b.i, .int .i64 b.g]] W fun e w' => e = .returned (.bool (rightID b.s b.i b.g)) ∧ Below W.heap.size W w') := Lib.hid fun W => rightid_any _ _ _ W
  have R2 : Hid (∀ W, Calls Try.prog 31 #[b.val] W fun e w' => e = .returned (.bool (right b)) ∧ Below W.heap.size W w') := Lib.hid fun W => right_any b hm W
  unfold may
  obtain ⟨r1, e1⟩ : ∃ r, rightID b.s b.i b.g = r := ⟨_, rfl⟩
  obtain ⟨r2, e2⟩ : ∃ r, right b = r := ⟨_, rfl⟩
  obtain ⟨r3, e3⟩ : ∃ r, bitB b.m 0 = r := ⟨_, rfl⟩
  rw [e1] at R1
  rw [e2] at R2
  rw [e3] at B0
  rw [e1, e2, e3]
  clear e1 e2 e3 hm
  obtain ⟨s, i, g, m, x, y, vx, vy, h, p, l⟩ := b
  simp only at *
  have H0 := at1 w (.cells #[.int .i64 s, .int .i64 i, .int .i64 g, .int .i64 m, .int .i64 x, .int .i64 y, .int .i64 vx, .int .i64 vy, .int .i64 h, .int .i64 p, .int .i64 l] 25)
  have B1 := bel1 w (.cells #[.int .i64 s, .int .i64 i, .int .i64 g, .int .i64 m, .int .i64 x, .int .i64 y, .int .i64 vx, .int .i64 vy, .int .i64 h, .int .i64 p, .int .i64 l] 25)
  have CE : Hid (∀ W, Below (w.alloc (.cells #[.int .i64 s, .int .i64 i, .int .i64 g, .int .i64 m, .int .i64 x, .int .i64 y, .int .i64 vx, .int .i64 vy, .int .i64 h, .int .i64 p, .int .i64 l] 25)).heap.size (w.alloc (.cells #[.int .i64 s, .int .i64 i, .int .i64 g, .int .i64 m, .int .i64 x, .int .i64 y, .int .i64 vx, .int .i64 vy, .int .i64 h, .int .i64 p, .int .i64 l] 25)) W → (W.cell? ⟨w.heap.size, 0, none⟩ = some (.int .i64 s) ∧ W.cell? ⟨w.heap.size, 1, none⟩ = some (.int .i64 i) ∧ W.cell? ⟨w.heap.size, 2, none⟩ = some (.int .i64 g) ∧ W.cell? ⟨w.heap.size, 3, none⟩ = some (.int .i64 m) ∧ W.cell? ⟨w.heap.size, 4, none⟩ = some (.int .i64 x) ∧ W.cell? ⟨w.heap.size, 5, none⟩ = some (.int .i64 y) ∧ W.cell? ⟨w.heap.size, 6, none⟩ = some (.int .i64 vx) ∧ W.cell? ⟨w.heap.size, 7, none⟩ = some (.int .i64 vy) ∧ W.cell? ⟨w.heap.size, 8, none⟩ = some (.int .i64 h) ∧ W.cell? ⟨w.heap.size, 9, none⟩ = some (.int .i64 p) ∧ W.cell? ⟨w.heap.size, 10, none⟩ = some (.int .i64 l)) ∧ Below w.heap.size w W) := Lib.hid fun W hW => ⟨(Bx.b11 ((hW.block _ (Bx.lt H0)).trans H0)).1, B1.trans (hW.mono B1.size)⟩
  obtain ⟨⟨k0, k1, k2, k3, k4, k5, k6, k7, k8, k9, k10⟩, HB⟩ := CE.out _ (Below.refl _ _)
  replace HB := Lib.hid HB
  clear H0 B1
  generalize hww : w.alloc (.cells #[.int .i64 s, .int .i64 i, .int .i64 g, .int .i64 m, .int .i64 x, .int .i64 y, .int .i64 vx, .int .i64 vy, .int .i64 h, .int .i64 p, .int .i64 l] 25) = w1 at *
  cases r1 with
  | false =>
    go_enter Try.func13, Try.ntmps13
    go_wp2_with (first
      | (go_at_call 15; refine (R1.out _).mono ?_; rintro e w2 ⟨rfl, hb2⟩; clear k0 k1 k2 k3 k4 k5 k6 k7 k8 k9 k10; obtain ⟨⟨k0, k1, k2, k3, k4, k5, k6, k7, k8, k9, k10⟩, HB⟩ := CE.out w2 hb2; replace HB := Lib.hid HB; have B2 := Lib.hid hb2; clear hb2)
      | (go_at_call 31; refine (R2.out _).mono ?_; rintro e w3 ⟨rfl, hb3⟩; clear k0 k1 k2 k3 k4 k5 k6 k7 k8 k9 k10; obtain ⟨⟨k0, k1, k2, k3, k4, k5, k6, k7, k8, k9, k10⟩, HB⟩ := CE.out w3 (B2.out.trans (hb3.mono B2.out.size)); replace HB := Lib.hid HB; clear hb3)
      | (go_at_call 34; refine (B0.out _).mono ?_; rintro e w' ⟨rfl, rfl⟩))
    go_ret
    exact ⟨rfl, HB.out⟩
  | true =>
    cases r2 with
    | false =>
      go_enter Try.func13, Try.ntmps13
      go_wp2_with (first
        | (go_at_call 15; refine (R1.out _).mono ?_; rintro e w2 ⟨rfl, hb2⟩; clear k0 k1 k2 k3 k4 k5 k6 k7 k8 k9 k10; obtain ⟨⟨k0, k1, k2, k3, k4, k5, k6, k7, k8, k9, k10⟩, HB⟩ := CE.out w2 hb2; replace HB := Lib.hid HB; have B2 := Lib.hid hb2; clear hb2)
        | (go_at_call 31; refine (R2.out _).mono ?_; rintro e w3 ⟨rfl, hb3⟩; clear k0 k1 k2 k3 k4 k5 k6 k7 k8 k9 k10; obtain ⟨⟨k0, k1, k2, k3, k4, k5, k6, k7, k8, k9, k10⟩, HB⟩ := CE.out w3 (B2.out.trans (hb3.mono B2.out.size)); replace HB := Lib.hid HB; clear hb3)
        | (go_at_call 34; refine (B0.out _).mono ?_; rintro e w' ⟨rfl, rfl⟩))
      go_ret
      exact ⟨rfl, HB.out⟩
    | true =>
      go_enter Try.func13, Try.ntmps13
      go_wp2_with (first
        | (go_at_call 15; refine (R1.out _).mono ?_; rintro e w2 ⟨rfl, hb2⟩; clear k0 k1 k2 k3 k4 k5 k6 k7 k8 k9 k10; obtain ⟨⟨k0, k1, k2, k3, k4, k5, k6, k7, k8, k9, k10⟩, HB⟩ := CE.out w2 hb2; replace HB := Lib.hid HB; have B2 := Lib.hid hb2; clear hb2)
        | (go_at_call 31; refine (R2.out _).mono ?_; rintro e w3 ⟨rfl, hb3⟩; clear k0 k1 k2 k3 k4 k5 k6 k7 k8 k9 k10; obtain ⟨⟨k0, k1, k2, k3, k4, k5, k6, k7, k8, k9, k10⟩, HB⟩ := CE.out w3 (B2.out.trans (hb3.mono B2.out.size)); replace HB := Lib.hid HB; clear hb3)
        | (go_at_call 34; refine (B0.out _).mono ?_; rintro e w' ⟨rfl, rfl⟩))
      go_ret
      exact ⟨rfl, HB.out⟩
end Go.Proofs.Ytookmjdnmmfkfaa
