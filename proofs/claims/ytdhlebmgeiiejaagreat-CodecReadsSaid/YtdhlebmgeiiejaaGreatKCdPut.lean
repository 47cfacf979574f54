/- The code's codec: names, entities and commands are laid, if they may be. Written by wip/tools/gencdp.py. -/
import Derived.Test.YtdhlebmgeiiejaaGreatKLay
namespace Go.Proofs.YtdhlebmgeiiejaaGreat
open Go.RowKit Go.Shelf Pz Cd
set_option linter.unusedVariables false
set_option linter.unusedSimpArgs false

theorem putID_is (k : NKy) : putID k = if okID k then rawID k else [] := rfl
theorem ep_chk_id : ∀ args w, (callFunc 37 args).run Tryz.prog w = .ok (.enter 37 args) w := enters_of Tryz.func37 (by kernel_rfl) rfl
theorem ep_lay_id : ∀ args w, (callFunc 89 args).run Tryz.prog w = .ok (.enter 89 args) w := enters_of Tryz.func89 (by kernel_rfl) rfl
set_option maxHeartbeats 16000000 in
set_option maxRecDepth 100000 in
theorem cputif_id (x0 x1 x2 : Int) (w : World) : Calls Tryz.prog 98 #[.agg #[.int .i64 x0, .int .i64 x1, .int .i64 x2], .func (.func 37) #[] #[], .func (.func 89) #[] #[]] w fun e w' => e = .returned (.string ⟨(putID (x0, x1, x2)).toArray⟩) ∧ Below w.heap.size w w' := by
  have EN1 := ep_chk_id
  have EN2 := ep_lay_id
  have CK : Hid (∀ W, Calls Tryz.prog 37 #[.agg #[.int .i64 x0, .int .i64 x1, .int .i64 x2]] W fun e w' => e = .returned (.int .i64 (errB (okID (x0, x1, x2)))) ∧ Below W.heap.size W w') := Lib.hid fun W => checkid_any x0 x1 x2 W
  have CL : okID (x0, x1, x2) = true → Hid (∀ W, Calls Tryz.prog 89 #[.agg #[.int .i64 x0, .int .i64 x1, .int .i64 x2]] W fun e w' => e = .returned (.string ⟨(rawID (x0, x1, x2)).toArray⟩) ∧ Below W.heap.size W w') := fun hr => Lib.hid fun W => clayid_any x0 x1 x2 (okID_fit hr).1 (okID_fit hr).2.1 (okID_fit hr).2.2 W
  rw [putID_is (x0, x1, x2)]
  generalize rawID (x0, x1, x2) = rb at *
  obtain ⟨r, hr⟩ : ∃ r, okID (x0, x1, x2) = r := ⟨_, rfl⟩
  rw [hr] at CK CL ⊢
  clear hr
  have T0 := Lib.hid (at1 w (.cells #[.int .i64 x0, .int .i64 x1, .int .i64 x2] 29))
  have BE := Lib.hid (bel1 w (.cells #[.int .i64 x0, .int .i64 x1, .int .i64 x2] 29))
  cases r with
  | false =>
    clear CL
    rw [show errB false = 1 from rfl] at CK
    go_enter Tryz.func98, Tryz.ntmps98
    go_upto_region 1 with fail
    generalize w.alloc (.cells #[.int .i64 x0, .int .i64 x1, .int .i64 x2] 29) = w1 at *
    obtain ⟨⟨k0, k1, k2⟩, _⟩ := Bx.b3 T0.out
    go_wp2_with fail
    with_reducible refine (CK.out _).mono ?_
    rintro e w2 ⟨rfl, b2⟩
    replace BE := Lib.hid (BE.out.trans (b2.mono BE.out.size))
    replace T0 := Lib.hid ((b2.block _ (lt_of_row T0.out)).trans T0.out)
    clear b2 CK k0 k1 k2
    go_wp2
    go_ret
    exact ⟨rfl, BE.out⟩
  | true =>
    replace CL := CL rfl
    rw [show errB true = 0 from rfl] at CK
    go_enter Tryz.func98, Tryz.ntmps98
    go_upto_region 1 with fail
    generalize w.alloc (.cells #[.int .i64 x0, .int .i64 x1, .int .i64 x2] 29) = w1 at *
    obtain ⟨⟨k0, k1, k2⟩, _⟩ := Bx.b3 T0.out
    go_wp2_with fail
    with_reducible refine (CK.out _).mono ?_
    rintro e w2 ⟨rfl, b2⟩
    replace BE := Lib.hid (BE.out.trans (b2.mono BE.out.size))
    replace T0 := Lib.hid ((b2.block _ (lt_of_row T0.out)).trans T0.out)
    clear b2 CK k0 k1 k2
    obtain ⟨⟨k0, k1, k2⟩, _⟩ := Bx.b3 T0.out
    go_wp2_with fail
    with_reducible refine (CL.out _).mono ?_
    rintro e w3 ⟨rfl, b3⟩
    replace BE := Lib.hid (BE.out.trans (b3.mono BE.out.size))
    clear b3 CL k0 k1 k2
    go_wp2
    go_ret
    exact ⟨rfl, BE.out⟩
set_option maxHeartbeats 16000000 in
set_option maxRecDepth 100000 in
theorem cput_id (x0 x1 x2 : Int) (w : World) : Calls Tryz.prog 68 #[.agg #[.int .i64 x0, .int .i64 x1, .int .i64 x2]] w fun e w' => e = .returned (.string ⟨(putID (x0, x1, x2)).toArray⟩) ∧ Below w.heap.size w w' := by
  have C : Hid (∀ W, Calls Tryz.prog 98 #[.agg #[.int .i64 x0, .int .i64 x1, .int .i64 x2], .func (.func 37) #[] #[], .func (.func 89) #[] #[]] W fun e w' => e = .returned (.string ⟨(putID (x0, x1, x2)).toArray⟩) ∧ Below W.heap.size W w') := Lib.hid fun W => cputif_id x0 x1 x2 W
  generalize putID (x0, x1, x2) = rb at *
  obtain ⟨⟨k0, k1, k2⟩, _⟩ := Bx.b3 (at1 w (.cells #[.int .i64 x0, .int .i64 x1, .int .i64 x2] 29))
  have BE := Lib.hid (bel1 w (.cells #[.int .i64 x0, .int .i64 x1, .int .i64 x2] 29))
  go_enter Tryz.func68, Tryz.ntmps68
  go_upto_region 1 with fail
  generalize w.alloc (.cells #[.int .i64 x0, .int .i64 x1, .int .i64 x2] 29) = w1 at *
  go_wp2_with fail
  with_reducible refine (C.out _).mono ?_
  rintro e w2 ⟨rfl, b2⟩
  replace BE := Lib.hid (BE.out.trans (b2.mono BE.out.size))
  clear b2 C k0 k1 k2
  go_wp2
  go_ret
  exact ⟨rfl, BE.out⟩
theorem ep_chk_b : ∀ args w, (callFunc 45 args).run Tryz.prog w = .ok (.enter 45 args) w := enters_of Tryz.func45 (by kernel_rfl) rfl
theorem ep_lay_b : ∀ args w, (callFunc 57 args).run Tryz.prog w = .ok (.enter 57 args) w := enters_of Tryz.func57 (by kernel_rfl) rfl
set_option maxHeartbeats 16000000 in
set_option maxRecDepth 100000 in
theorem cputif_b (b : Bn) (w : World) : Calls Tryz.prog 56 #[b.val, .func (.func 45) #[] #[], .func (.func 57) #[] #[]] w fun e w' => e = .returned (.string ⟨(putB b).toArray⟩) ∧ Below w.heap.size w w' := by
  obtain ⟨xs, xi, xg, xm, xx, xy, xvx, xvy, xh, xp, xl⟩ := b
  have EN1 := ep_chk_b
  have EN2 := ep_lay_b
  have CK : Hid (∀ W, Calls Tryz.prog 45 #[.agg #[.int .i64 xs, .int .i64 xi, .int .i64 xg, .int .i64 xm, .int .i64 xx, .int .i64 xy, .int .i64 xvx, .int .i64 xvy, .int .i64 xh, .int .i64 xp, .int .i64 xl]] W fun e w' => e = .returned (.int .i64 (errB (may (⟨xs, xi, xg, xm, xx, xy, xvx, xvy, xh, xp, xl⟩ : Bn)))) ∧ Below W.heap.size W w') := Lib.hid fun W => check_any (⟨xs, xi, xg, xm, xx, xy, xvx, xvy, xh, xp, xl⟩ : Bn) W
  have CL : may (⟨xs, xi, xg, xm, xx, xy, xvx, xvy, xh, xp, xl⟩ : Bn) = true → Hid (∀ W, Calls Tryz.prog 57 #[.agg #[.int .i64 xs, .int .i64 xi, .int .i64 xg, .int .i64 xm, .int .i64 xx, .int .i64 xy, .int .i64 xvx, .int .i64 xvy, .int .i64 xh, .int .i64 xp, .int .i64 xl]] W fun e w' => e = .returned (.string ⟨(rawB (⟨xs, xi, xg, xm, xx, xy, xvx, xvy, xh, xp, xl⟩ : Bn)).toArray⟩) ∧ Below W.heap.size W w') := fun hr => Lib.hid fun W => claybundle_any (⟨xs, xi, xg, xm, xx, xy, xvx, xvy, xh, xp, xl⟩ : Bn) (okID_fit (may_split hr).1) (right_fit (may_split hr).2) W
  rw [putB_is (⟨xs, xi, xg, xm, xx, xy, xvx, xvy, xh, xp, xl⟩ : Bn)]
  generalize rawB (⟨xs, xi, xg, xm, xx, xy, xvx, xvy, xh, xp, xl⟩ : Bn) = rb at *
  obtain ⟨r, hr⟩ : ∃ r, may (⟨xs, xi, xg, xm, xx, xy, xvx, xvy, xh, xp, xl⟩ : Bn) = r := ⟨_, rfl⟩
  rw [hr] at CK CL ⊢
  clear hr
  simp only [Bn.val]
  have T0 := Lib.hid (at1 w (.cells #[.int .i64 xs, .int .i64 xi, .int .i64 xg, .int .i64 xm, .int .i64 xx, .int .i64 xy, .int .i64 xvx, .int .i64 xvy, .int .i64 xh, .int .i64 xp, .int .i64 xl] 34))
  have BE := Lib.hid (bel1 w (.cells #[.int .i64 xs, .int .i64 xi, .int .i64 xg, .int .i64 xm, .int .i64 xx, .int .i64 xy, .int .i64 xvx, .int .i64 xvy, .int .i64 xh, .int .i64 xp, .int .i64 xl] 34))
  cases r with
  | false =>
    clear CL
    rw [show errB false = 1 from rfl] at CK
    go_enter Tryz.func56, Tryz.ntmps56
    go_upto_region 1 with fail
    generalize w.alloc (.cells #[.int .i64 xs, .int .i64 xi, .int .i64 xg, .int .i64 xm, .int .i64 xx, .int .i64 xy, .int .i64 xvx, .int .i64 xvy, .int .i64 xh, .int .i64 xp, .int .i64 xl] 34) = w1 at *
    obtain ⟨⟨k0, k1, k2, k3, k4, k5, k6, k7, k8, k9, k10⟩, _⟩ := Bx.b11 T0.out
    go_wp2_with fail
    with_reducible refine (CK.out _).mono ?_
    rintro e w2 ⟨rfl, b2⟩
    replace BE := Lib.hid (BE.out.trans (b2.mono BE.out.size))
    replace T0 := Lib.hid ((b2.block _ (lt_of_row T0.out)).trans T0.out)
    clear b2 CK k0 k1 k2 k3 k4 k5 k6 k7 k8 k9 k10
    go_wp2
    go_ret
    exact ⟨rfl, BE.out⟩
  | true =>
    replace CL := CL rfl
    rw [show errB true = 0 from rfl] at CK
    go_enter Tryz.func56, Tryz.ntmps56
    go_upto_region 1 with fail
    generalize w.alloc (.cells #[.int .i64 xs, .int .i64 xi, .int .i64 xg, .int .i64 xm, .int .i64 xx, .int .i64 xy, .int .i64 xvx, .int .i64 xvy, .int .i64 xh, .int .i64 xp, .int .i64 xl] 34) = w1 at *
    obtain ⟨⟨k0, k1, k2, k3, k4, k5, k6, k7, k8, k9, k10⟩, _⟩ := Bx.b11 T0.out
    go_wp2_with fail
    with_reducible refine (CK.out _).mono ?_
    rintro e w2 ⟨rfl, b2⟩
    replace BE := Lib.hid (BE.out.trans (b2.mono BE.out.size))
    replace T0 := Lib.hid ((b2.block _ (lt_of_row T0.out)).trans T0.out)
    clear b2 CK k0 k1 k2 k3 k4 k5 k6 k7 k8 k9 k10
    obtain ⟨⟨k0, k1, k2, k3, k4, k5, k6, k7, k8, k9, k10⟩, _⟩ := Bx.b11 T0.out
    go_wp2_with fail
    with_reducible refine (CL.out _).mono ?_
    rintro e w3 ⟨rfl, b3⟩
    replace BE := Lib.hid (BE.out.trans (b3.mono BE.out.size))
    clear b3 CL k0 k1 k2 k3 k4 k5 k6 k7 k8 k9 k10
    go_wp2
    go_ret
    exact ⟨rfl, BE.out⟩
set_option maxHeartbeats 16000000 in
set_option maxRecDepth 100000 in
theorem cput_b (b : Bn) (w : World) : Calls Tryz.prog 17 #[b.val] w fun e w' => e = .returned (.string ⟨(putB b).toArray⟩) ∧ Below w.heap.size w w' := by
  have C : Hid (∀ W, Calls Tryz.prog 56 #[b.val, .func (.func 45) #[] #[], .func (.func 57) #[] #[]] W fun e w' => e = .returned (.string ⟨(putB b).toArray⟩) ∧ Below W.heap.size W w') := Lib.hid fun W => cputif_b b W
  generalize putB b = rb at *
  obtain ⟨xs, xi, xg, xm, xx, xy, xvx, xvy, xh, xp, xl⟩ := b
  simp only [Bn.val] at *
  obtain ⟨⟨k0, k1, k2, k3, k4, k5, k6, k7, k8, k9, k10⟩, _⟩ := Bx.b11 (at1 w (.cells #[.int .i64 xs, .int .i64 xi, .int .i64 xg, .int .i64 xm, .int .i64 xx, .int .i64 xy, .int .i64 xvx, .int .i64 xvy, .int .i64 xh, .int .i64 xp, .int .i64 xl] 34))
  have BE := Lib.hid (bel1 w (.cells #[.int .i64 xs, .int .i64 xi, .int .i64 xg, .int .i64 xm, .int .i64 xx, .int .i64 xy, .int .i64 xvx, .int .i64 xvy, .int .i64 xh, .int .i64 xp, .int .i64 xl] 34))
  go_enter Tryz.func17, Tryz.ntmps17
  go_upto_region 1 with fail
  generalize w.alloc (.cells #[.int .i64 xs, .int .i64 xi, .int .i64 xg, .int .i64 xm, .int .i64 xx, .int .i64 xy, .int .i64 xvx, .int .i64 xvy, .int .i64 xh, .int .i64 xp, .int .i64 xl] 34) = w1 at *
  go_wp2_with fail
  with_reducible refine (C.out _).mono ?_
  rintro e w2 ⟨rfl, b2⟩
  replace BE := Lib.hid (BE.out.trans (b2.mono BE.out.size))
  clear b2 C k0 k1 k2 k3 k4 k5 k6 k7 k8 k9 k10
  go_wp2
  go_ret
  exact ⟨rfl, BE.out⟩
theorem ep_chk_c : ∀ args w, (callFunc 50 args).run Tryz.prog w = .ok (.enter 50 args) w := enters_of Tryz.func50 (by kernel_rfl) rfl
theorem ep_lay_c : ∀ args w, (callFunc 97 args).run Tryz.prog w = .ok (.enter 97 args) w := enters_of Tryz.func97 (by kernel_rfl) rfl
set_option maxHeartbeats 16000000 in
set_option maxRecDepth 100000 in
theorem cputif_c (c : Cn) (w : World) : Calls Tryz.prog 96 #[c.val, .func (.func 50) #[] #[], .func (.func 97) #[] #[]] w fun e w' => e = .returned (.string ⟨(putC c).toArray⟩) ∧ Below w.heap.size w w' := by
  obtain ⟨xk, xs, xi, xg, ⟨xbs, xbi, xbg, xbm, xbx, xby, xbvx, xbvy, xbh, xbp, xbl⟩, xm⟩ := c
  have EN1 := ep_chk_c
  have EN2 := ep_lay_c
  have CK : Hid (∀ W, Calls Tryz.prog 50 #[.agg #[.int .i64 xk, .int .i64 xs, .int .i64 xi, .int .i64 xg, .int .i64 xbs, .int .i64 xbi, .int .i64 xbg, .int .i64 xbm, .int .i64 xbx, .int .i64 xby, .int .i64 xbvx, .int .i64 xbvy, .int .i64 xbh, .int .i64 xbp, .int .i64 xbl, .int .i64 xm]] W fun e w' => e = .returned (.int .i64 (errB (mayCmd (⟨xk, xs, xi, xg, ⟨xbs, xbi, xbg, xbm, xbx, xby, xbvx, xbvy, xbh, xbp, xbl⟩, xm⟩ : Cn)))) ∧ Below W.heap.size W w') := Lib.hid fun W => checkcmd_any (⟨xk, xs, xi, xg, ⟨xbs, xbi, xbg, xbm, xbx, xby, xbvx, xbvy, xbh, xbp, xbl⟩, xm⟩ : Cn) W
  have CL : mayCmd (⟨xk, xs, xi, xg, ⟨xbs, xbi, xbg, xbm, xbx, xby, xbvx, xbvy, xbh, xbp, xbl⟩, xm⟩ : Cn) = true → Hid (∀ W, Calls Tryz.prog 97 #[.agg #[.int .i64 xk, .int .i64 xs, .int .i64 xi, .int .i64 xg, .int .i64 xbs, .int .i64 xbi, .int .i64 xbg, .int .i64 xbm, .int .i64 xbx, .int .i64 xby, .int .i64 xbvx, .int .i64 xbvy, .int .i64 xbh, .int .i64 xbp, .int .i64 xbl, .int .i64 xm]] W fun e w' => e = .returned (.string ⟨(rawC (⟨xk, xs, xi, xg, ⟨xbs, xbi, xbg, xbm, xbx, xby, xbvx, xbvy, xbh, xbp, xbl⟩, xm⟩ : Cn)).toArray⟩) ∧ Below W.heap.size W w') := fun hr => Lib.hid fun W => claycmd_any (⟨xk, xs, xi, xg, ⟨xbs, xbi, xbg, xbm, xbx, xby, xbvx, xbvy, xbh, xbp, xbl⟩, xm⟩ : Cn) hr W
  rw [putC_is (⟨xk, xs, xi, xg, ⟨xbs, xbi, xbg, xbm, xbx, xby, xbvx, xbvy, xbh, xbp, xbl⟩, xm⟩ : Cn)]
  generalize rawC (⟨xk, xs, xi, xg, ⟨xbs, xbi, xbg, xbm, xbx, xby, xbvx, xbvy, xbh, xbp, xbl⟩, xm⟩ : Cn) = rb at *
  obtain ⟨r, hr⟩ : ∃ r, mayCmd (⟨xk, xs, xi, xg, ⟨xbs, xbi, xbg, xbm, xbx, xby, xbvx, xbvy, xbh, xbp, xbl⟩, xm⟩ : Cn) = r := ⟨_, rfl⟩
  rw [hr] at CK CL ⊢
  clear hr
  simp only [Cn.val]
  have T0 := Lib.hid (at1 w (.cells #[.int .i64 xk, .int .i64 xs, .int .i64 xi, .int .i64 xg, .int .i64 xbs, .int .i64 xbi, .int .i64 xbg, .int .i64 xbm, .int .i64 xbx, .int .i64 xby, .int .i64 xbvx, .int .i64 xbvy, .int .i64 xbh, .int .i64 xbp, .int .i64 xbl, .int .i64 xm] 38))
  have BE := Lib.hid (bel1 w (.cells #[.int .i64 xk, .int .i64 xs, .int .i64 xi, .int .i64 xg, .int .i64 xbs, .int .i64 xbi, .int .i64 xbg, .int .i64 xbm, .int .i64 xbx, .int .i64 xby, .int .i64 xbvx, .int .i64 xbvy, .int .i64 xbh, .int .i64 xbp, .int .i64 xbl, .int .i64 xm] 38))
  cases r with
  | false =>
    clear CL
    rw [show errB false = 1 from rfl] at CK
    go_enter Tryz.func96, Tryz.ntmps96
    go_upto_region 1 with fail
    generalize w.alloc (.cells #[.int .i64 xk, .int .i64 xs, .int .i64 xi, .int .i64 xg, .int .i64 xbs, .int .i64 xbi, .int .i64 xbg, .int .i64 xbm, .int .i64 xbx, .int .i64 xby, .int .i64 xbvx, .int .i64 xbvy, .int .i64 xbh, .int .i64 xbp, .int .i64 xbl, .int .i64 xm] 38) = w1 at *
    obtain ⟨⟨k0, k1, k2, k3, k4, k5, k6, k7, k8, k9, k10, k11, k12, k13, k14, k15⟩, _⟩ := Bx.b16 T0.out
    go_wp2_with fail
    with_reducible refine (CK.out _).mono ?_
    rintro e w2 ⟨rfl, b2⟩
    replace BE := Lib.hid (BE.out.trans (b2.mono BE.out.size))
    replace T0 := Lib.hid ((b2.block _ (lt_of_row T0.out)).trans T0.out)
    clear b2 CK k0 k1 k2 k3 k4 k5 k6 k7 k8 k9 k10 k11 k12 k13 k14 k15
    go_wp2
    go_ret
    exact ⟨rfl, BE.out⟩
  | true =>
    replace CL := CL rfl
    rw [show errB true = 0 from rfl] at CK
    go_enter Tryz.func96, Tryz.ntmps96
    go_upto_region 1 with fail
    generalize w.alloc (.cells #[.int .i64 xk, .int .i64 xs, .int .i64 xi, .int .i64 xg, .int .i64 xbs, .int .i64 xbi, .int .i64 xbg, .int .i64 xbm, .int .i64 xbx, .int .i64 xby, .int .i64 xbvx, .int .i64 xbvy, .int .i64 xbh, .int .i64 xbp, .int .i64 xbl, .int .i64 xm] 38) = w1 at *
    obtain ⟨⟨k0, k1, k2, k3, k4, k5, k6, k7, k8, k9, k10, k11, k12, k13, k14, k15⟩, _⟩ := Bx.b16 T0.out
    go_wp2_with fail
    with_reducible refine (CK.out _).mono ?_
    rintro e w2 ⟨rfl, b2⟩
    replace BE := Lib.hid (BE.out.trans (b2.mono BE.out.size))
    replace T0 := Lib.hid ((b2.block _ (lt_of_row T0.out)).trans T0.out)
    clear b2 CK k0 k1 k2 k3 k4 k5 k6 k7 k8 k9 k10 k11 k12 k13 k14 k15
    obtain ⟨⟨k0, k1, k2, k3, k4, k5, k6, k7, k8, k9, k10, k11, k12, k13, k14, k15⟩, _⟩ := Bx.b16 T0.out
    go_wp2_with fail
    with_reducible refine (CL.out _).mono ?_
    rintro e w3 ⟨rfl, b3⟩
    replace BE := Lib.hid (BE.out.trans (b3.mono BE.out.size))
    clear b3 CL k0 k1 k2 k3 k4 k5 k6 k7 k8 k9 k10 k11 k12 k13 k14 k15
    go_wp2
    go_ret
    exact ⟨rfl, BE.out⟩
set_option maxHeartbeats 16000000 in
set_option maxRecDepth 100000 in
theorem cput_c (c : Cn) (w : World) : Calls Tryz.prog 66 #[c.val] w fun e w' => e = .returned (.string ⟨(putC c).toArray⟩) ∧ Below w.heap.size w w' := by
  have C : Hid (∀ W, Calls Tryz.prog 96 #[c.val, .func (.func 50) #[] #[], .func (.func 97) #[] #[]] W fun e w' => e = .returned (.string ⟨(putC c).toArray⟩) ∧ Below W.heap.size W w') := Lib.hid fun W => cputif_c c W
  generalize putC c = rb at *
  obtain ⟨xk, xs, xi, xg, ⟨xbs, xbi, xbg, xbm, xbx, xby, xbvx, xbvy, xbh, xbp, xbl⟩, xm⟩ := c
  simp only [Cn.val] at *
  obtain ⟨⟨k0, k1, k2, k3, k4, k5, k6, k7, k8, k9, k10, k11, k12, k13, k14, k15⟩, _⟩ := Bx.b16 (at1 w (.cells #[.int .i64 xk, .int .i64 xs, .int .i64 xi, .int .i64 xg, .int .i64 xbs, .int .i64 xbi, .int .i64 xbg, .int .i64 xbm, .int .i64 xbx, .int .i64 xby, .int .i64 xbvx, .int .i64 xbvy, .int .i64 xbh, .int .i64 xbp, .int .i64 xbl, .int .i64 xm] 38))
  have BE := Lib.hid (bel1 w (.cells #[.int .i64 xk, .int .i64 xs, .int .i64 xi, .int .i64 xg, .int .i64 xbs, .int .i64 xbi, .int .i64 xbg, .int .i64 xbm, .int .i64 xbx, .int .i64 xby, .int .i64 xbvx, .int .i64 xbvy, .int .i64 xbh, .int .i64 xbp, .int .i64 xbl, .int .i64 xm] 38))
  go_enter Tryz.func66, Tryz.ntmps66
  go_upto_region 1 with fail
  generalize w.alloc (.cells #[.int .i64 xk, .int .i64 xs, .int .i64 xi, .int .i64 xg, .int .i64 xbs, .int .i64 xbi, .int .i64 xbg, .int .i64 xbm, .int .i64 xbx, .int .i64 xby, .int .i64 xbvx, .int .i64 xbvy, .int .i64 xbh, .int .i64 xbp, .int .i64 xbl, .int .i64 xm] 38) = w1 at *
  go_wp2_with fail
  with_reducible refine (C.out _).mono ?_
  rintro e w2 ⟨rfl, b2⟩
  replace BE := Lib.hid (BE.out.trans (b2.mono BE.out.size))
  clear b2 C k0 k1 k2 k3 k4 k5 k6 k7 k8 k9 k10 k11 k12 k13 k14 k15
  go_wp2
  go_ret
  exact ⟨rfl, BE.out⟩
end Go.Proofs.YtdhlebmgeiiejaaGreat
