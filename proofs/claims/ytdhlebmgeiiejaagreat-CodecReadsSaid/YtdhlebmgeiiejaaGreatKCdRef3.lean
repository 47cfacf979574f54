/- The document's codec: an entity's bytes, a command's. Written by wip/tools/gencd3.py. -/
import Derived.Test.YtdhlebmgeiiejaaGreatKRef
namespace Go.Proofs.YtdhlebmgeiiejaaGreat
open Go.RowKit Pz Cd
set_option linter.unusedVariables false
set_option linter.unusedSimpArgs false

theorem putID_le (k : NKy) : (putID k).length ≤ 27 := by
  have h1 := enc_le k.1; have h2 := enc_le k.2.1; have h3 := enc_le k.2.2
  unfold putID rawID
  split
  · simp only [List.length_append]; omega
  · simp
theorem optP_le (t : Bool) (n : Int) : (optP t n).length ≤ 9 := by
  have := enc_le n
  unfold optP
  split
  · omega
  · simp
theorem rest_le (b : Bn) : (Cd.rest b).length ≤ 72 := by
  unfold Cd.rest
  have h0 := enc_le b.m
  have h1 := optP_le (bitB b.m 0) b.x; have h2 := optP_le (bitB b.m 0) b.y; have h3 := optP_le (bitB b.m 1) b.vx; have h4 := optP_le (bitB b.m 1) b.vy
  have h5 := optP_le (bitB b.m 2) b.h; have h6 := optP_le (bitB b.m 3) b.p; have h7 := optP_le (bitB b.m 4) b.l
  simp only [List.length_append]
  omega
theorem putB_le (b : Bn) : (putB b).length ≤ 99 := by
  have h1 := putID_le b.id; have h2 := rest_le b
  unfold putB
  split
  · simp only [List.length_append]; omega
  · simp

set_option maxHeartbeats 16000000 in
set_option maxRecDepth 100000 in
theorem rbundle_any (b : Bn) (hf : b.Fits) (w : World) : Calls Tryz.prog 59 #[b.val] w fun e w' => e = .returned (.string ⟨(putB b).toArray⟩) ∧ Below w.heap.size w w' := by
  have M1 : Hid (∀ W, Calls Tryz.prog 48 #[b.val] W fun e w' => e = .returned (.bool (may b)) ∧ Below W.heap.size W w') := Lib.hid fun W => may_any b hf.m W
  have I1 : Hid (∀ W, Calls Tryz.prog 93 #[.agg #[.int .i64 b.s, .int .i64 b.i, .int .i64 b.g]] W fun e w' => e = .returned (.string ⟨(putID b.id).toArray⟩) ∧ Below W.heap.size W w') := Lib.hid fun W => rid_any b.s b.i b.g W
  have T1 : Hid (∀ W, Calls Tryz.prog 94 #[b.val] W fun e w' => e = .returned (.string ⟨(Cd.rest b).toArray⟩) ∧ Below W.heap.size W w') := Lib.hid fun W => rrest_any b hf W
  have q1 := putID_le b.id
  have q2 := rest_le b
  unfold putB
  clear hf
  generalize may b = r at *
  generalize putID b.id = a at *
  generalize Cd.rest b = c at *
  have A1 := cd_sum a c (by omega)
  clear q1 q2
  obtain ⟨ds, di, dg, dm, dx, dy, dvx, dvy, dh, dp, dl⟩ := b
  simp only at *
  have CE : Hid (∀ W, Below (w.alloc (.cells #[.int .i64 ds, .int .i64 di, .int .i64 dg, .int .i64 dm, .int .i64 dx, .int .i64 dy, .int .i64 dvx, .int .i64 dvy, .int .i64 dh, .int .i64 dp, .int .i64 dl] 34)).heap.size (w.alloc (.cells #[.int .i64 ds, .int .i64 di, .int .i64 dg, .int .i64 dm, .int .i64 dx, .int .i64 dy, .int .i64 dvx, .int .i64 dvy, .int .i64 dh, .int .i64 dp, .int .i64 dl] 34)) W → ((W.cell? ⟨w.heap.size, 0, none⟩ = some (.int .i64 ds) ∧ W.cell? ⟨w.heap.size, 1, none⟩ = some (.int .i64 di) ∧ W.cell? ⟨w.heap.size, 2, none⟩ = some (.int .i64 dg) ∧ W.cell? ⟨w.heap.size, 3, none⟩ = some (.int .i64 dm) ∧ W.cell? ⟨w.heap.size, 4, none⟩ = some (.int .i64 dx) ∧ W.cell? ⟨w.heap.size, 5, none⟩ = some (.int .i64 dy) ∧ W.cell? ⟨w.heap.size, 6, none⟩ = some (.int .i64 dvx) ∧ W.cell? ⟨w.heap.size, 7, none⟩ = some (.int .i64 dvy) ∧ W.cell? ⟨w.heap.size, 8, none⟩ = some (.int .i64 dh) ∧ W.cell? ⟨w.heap.size, 9, none⟩ = some (.int .i64 dp) ∧ W.cell? ⟨w.heap.size, 10, none⟩ = some (.int .i64 dl)) ∧ Below w.heap.size w W)) := Lib.hid fun W hW =>
    ⟨(Bx.b11 ((hW.block _ (by rw [size1]; omega)).trans (at1 w (.cells #[.int .i64 ds, .int .i64 di, .int .i64 dg, .int .i64 dm, .int .i64 dx, .int .i64 dy, .int .i64 dvx, .int .i64 dvy, .int .i64 dh, .int .i64 dp, .int .i64 dl] 34)))).1, (bel1 w _).trans (hW.mono (by rw [size1]; omega))⟩
  have HB := Below.refl (w.alloc (.cells #[.int .i64 ds, .int .i64 di, .int .i64 dg, .int .i64 dm, .int .i64 dx, .int .i64 dy, .int .i64 dvx, .int .i64 dvy, .int .i64 dh, .int .i64 dp, .int .i64 dl] 34)).heap.size (w.alloc (.cells #[.int .i64 ds, .int .i64 di, .int .i64 dg, .int .i64 dm, .int .i64 dx, .int .i64 dy, .int .i64 dvx, .int .i64 dvy, .int .i64 dh, .int .i64 dp, .int .i64 dl] 34))
  generalize hww : w.alloc (.cells #[.int .i64 ds, .int .i64 di, .int .i64 dg, .int .i64 dm, .int .i64 dx, .int .i64 dy, .int .i64 dvx, .int .i64 dvy, .int .i64 dh, .int .i64 dp, .int .i64 dl] 34) = w1 at *
  obtain ⟨⟨k0, k1, k2, k3, k4, k5, k6, k7, k8, k9, k10⟩, _⟩ := CE.out _ HB
  replace HB := Lib.hid HB
  cases r with
  | false =>
    go_enter Tryz.func59, Tryz.ntmps59
    go_wp2_with fail
    refine (M1.out _).mono ?_
    rintro e w2 ⟨rfl, hb⟩
    clear k0 k1 k2 k3 k4 k5 k6 k7 k8 k9 k10
    replace HB := Lib.hid (HB.out.trans (hb.mono HB.out.size))
    clear hb
    obtain ⟨⟨k0, k1, k2, k3, k4, k5, k6, k7, k8, k9, k10⟩, _⟩ := CE.out _ HB.out
    go_wp2
    go_ret
    exact ⟨rfl, (CE.out _ HB.out).2⟩
  | true =>
    go_enter Tryz.func59, Tryz.ntmps59
    go_wp2_with fail
    refine (M1.out _).mono ?_
    rintro e w2 ⟨rfl, hb⟩
    clear k0 k1 k2 k3 k4 k5 k6 k7 k8 k9 k10
    replace HB := Lib.hid (HB.out.trans (hb.mono HB.out.size))
    clear hb
    obtain ⟨⟨k0, k1, k2, k3, k4, k5, k6, k7, k8, k9, k10⟩, _⟩ := CE.out _ HB.out
    go_upto_region 3 with fail
    have CW := fun p : Lat grows _ => (CE.out p.W (HB.out.trans (p.h.mono HB.out.size))).1
    clear k0 k1 k2 k3 k4 k5 k6 k7 k8 k9 k10
    have k0 := fun p => (CW p).1
    have k1 := fun p => (CW p).2.1
    have k2 := fun p => (CW p).2.2.1
    have k3 := fun p => (CW p).2.2.2.1
    have k4 := fun p => (CW p).2.2.2.2.1
    have k5 := fun p => (CW p).2.2.2.2.2.1
    have k6 := fun p => (CW p).2.2.2.2.2.2.1
    have k7 := fun p => (CW p).2.2.2.2.2.2.2.1
    have k8 := fun p => (CW p).2.2.2.2.2.2.2.2.1
    have k9 := fun p => (CW p).2.2.2.2.2.2.2.2.2.1
    have k10 := fun p => (CW p).2.2.2.2.2.2.2.2.2.2
    clear CW
    refine Og.grow 6 (by kernel_rfl) (by kernel_rfl) fun hc hf => ?_
    clear hc hf
    simp only [List.take_succ_cons, List.take_zero, List.drop_succ_cons, List.drop_zero]
    repeat (refine Og.det [] rfl (fun J hJ => ?_); go_simp; (first
      | with_reducible refine ⟨_, fun p => Og.lays (I1.out p.W), hJ _ _ ?_⟩
      | with_reducible refine ⟨_, fun p => Og.lays (T1.out p.W), hJ _ _ ?_⟩
      | refine hJ _ _ ?_); clear hJ J)
    refine Og.fin fun W hW => ?_
    simp only [Og.opened_nil]
    clear k0 k1 k2 k3 k4 k5 k6 k7 k8 k9 k10
    replace HB := Lib.hid (HB.out.trans (hW.mono HB.out.size))
    clear hW
    go_wp2
    go_ret
    exact ⟨rfl, (CE.out _ HB.out).2⟩
set_option maxHeartbeats 16000000 in
set_option maxRecDepth 100000 in
theorem rcmd_any (c : Cn) (hk : FitN c.k) (hm : FitN c.m) (hf : c.b.Fits) (w : World) : Calls Tryz.prog 100 #[c.val] w fun e w' => e = .returned (.string ⟨(putC c).toArray⟩) ∧ Below w.heap.size w w' := by
  have M1 : Hid (∀ W, Calls Tryz.prog 52 #[c.val] W fun e w' => e = .returned (.bool (mayCmd c)) ∧ Below W.heap.size W w') := Lib.hid fun W => maycmd_any c hf.m W
  have I1 : Hid (∀ W, Calls Tryz.prog 93 #[.agg #[.int .i64 c.s, .int .i64 c.i, .int .i64 c.g]] W fun e w' => e = .returned (.string ⟨(putID (Cn.id c)).toArray⟩) ∧ Below W.heap.size W w') := Lib.hid fun W => rid_any c.s c.i c.g W
  have T1 : Hid (∀ W, Calls Tryz.prog 94 #[c.b.val] W fun e w' => e = .returned (.string ⟨(Cd.rest c.b).toArray⟩) ∧ Below W.heap.size W w') := Lib.hid fun W => rrest_any c.b hf W
  have B1 : Hid (∀ W, Calls Tryz.prog 59 #[c.b.val] W fun e w' => e = .returned (.string ⟨(putB c.b).toArray⟩) ∧ Below W.heap.size W w') := Lib.hid fun W => rbundle_any c.b hf W
  have L1 := Lib.hid (rlay c.k hk)
  have L2 := Lib.hid (rlay c.m hm)
  have q1 := putID_le (Cn.id c)
  have q2 := rest_le c.b
  have q3 := putB_le c.b
  have q4 := enc_le c.k
  have q5 := enc_le c.m
  have KD : mayCmd c = true → c.k = 1 ∨ c.k = 2 ∨ c.k = 3 ∨ c.k = 4 := may_kind
  unfold putC bodyC
  clear hk hm hf
  generalize mayCmd c = r at *
  generalize putID (Cn.id c) = pi at *
  generalize Cd.rest c.b = pr at *
  generalize putB c.b = pb at *
  obtain ⟨ck, cs, ci, cg, ⟨ds, di, dg, dm, dx, dy, dvx, dvy, dh, dp, dl⟩, cm⟩ := c
  simp only at *
  generalize Oct.enc ck = pk at *
  generalize Oct.enc cm = pm at *
  have A1 := cd_sum pk pb (by omega)
  have A2 := cd_sum pk pi (by omega)
  have A3 := cd_sum (pk ++ pi) pr (by rw [List.length_append]; omega)
  have A4 := cd_sum (pk ++ pi) pm (by rw [List.length_append]; omega)
  clear q1 q2 q3 q4 q5
  have CE : Hid (∀ W, Below (w.alloc (.cells #[.int .i64 ck, .int .i64 cs, .int .i64 ci, .int .i64 cg, .int .i64 ds, .int .i64 di, .int .i64 dg, .int .i64 dm, .int .i64 dx, .int .i64 dy, .int .i64 dvx, .int .i64 dvy, .int .i64 dh, .int .i64 dp, .int .i64 dl, .int .i64 cm] 38)).heap.size (w.alloc (.cells #[.int .i64 ck, .int .i64 cs, .int .i64 ci, .int .i64 cg, .int .i64 ds, .int .i64 di, .int .i64 dg, .int .i64 dm, .int .i64 dx, .int .i64 dy, .int .i64 dvx, .int .i64 dvy, .int .i64 dh, .int .i64 dp, .int .i64 dl, .int .i64 cm] 38)) W → ((W.cell? ⟨w.heap.size, 0, none⟩ = some (.int .i64 ck) ∧ W.cell? ⟨w.heap.size, 1, none⟩ = some (.int .i64 cs) ∧ W.cell? ⟨w.heap.size, 2, none⟩ = some (.int .i64 ci) ∧ W.cell? ⟨w.heap.size, 3, none⟩ = some (.int .i64 cg) ∧ W.cell? ⟨w.heap.size, 4, none⟩ = some (.int .i64 ds) ∧ W.cell? ⟨w.heap.size, 5, none⟩ = some (.int .i64 di) ∧ W.cell? ⟨w.heap.size, 6, none⟩ = some (.int .i64 dg) ∧ W.cell? ⟨w.heap.size, 7, none⟩ = some (.int .i64 dm) ∧ W.cell? ⟨w.heap.size, 8, none⟩ = some (.int .i64 dx) ∧ W.cell? ⟨w.heap.size, 9, none⟩ = some (.int .i64 dy) ∧ W.cell? ⟨w.heap.size, 10, none⟩ = some (.int .i64 dvx) ∧ W.cell? ⟨w.heap.size, 11, none⟩ = some (.int .i64 dvy) ∧ W.cell? ⟨w.heap.size, 12, none⟩ = some (.int .i64 dh) ∧ W.cell? ⟨w.heap.size, 13, none⟩ = some (.int .i64 dp) ∧ W.cell? ⟨w.heap.size, 14, none⟩ = some (.int .i64 dl) ∧ W.cell? ⟨w.heap.size, 15, none⟩ = some (.int .i64 cm)) ∧ Below w.heap.size w W)) := Lib.hid fun W hW =>
    ⟨(Bx.b16 ((hW.block _ (by rw [size1]; omega)).trans (at1 w (.cells #[.int .i64 ck, .int .i64 cs, .int .i64 ci, .int .i64 cg, .int .i64 ds, .int .i64 di, .int .i64 dg, .int .i64 dm, .int .i64 dx, .int .i64 dy, .int .i64 dvx, .int .i64 dvy, .int .i64 dh, .int .i64 dp, .int .i64 dl, .int .i64 cm] 38)))).1, (bel1 w _).trans (hW.mono (by rw [size1]; omega))⟩
  have HB := Below.refl (w.alloc (.cells #[.int .i64 ck, .int .i64 cs, .int .i64 ci, .int .i64 cg, .int .i64 ds, .int .i64 di, .int .i64 dg, .int .i64 dm, .int .i64 dx, .int .i64 dy, .int .i64 dvx, .int .i64 dvy, .int .i64 dh, .int .i64 dp, .int .i64 dl, .int .i64 cm] 38)).heap.size (w.alloc (.cells #[.int .i64 ck, .int .i64 cs, .int .i64 ci, .int .i64 cg, .int .i64 ds, .int .i64 di, .int .i64 dg, .int .i64 dm, .int .i64 dx, .int .i64 dy, .int .i64 dvx, .int .i64 dvy, .int .i64 dh, .int .i64 dp, .int .i64 dl, .int .i64 cm] 38))
  generalize hww : w.alloc (.cells #[.int .i64 ck, .int .i64 cs, .int .i64 ci, .int .i64 cg, .int .i64 ds, .int .i64 di, .int .i64 dg, .int .i64 dm, .int .i64 dx, .int .i64 dy, .int .i64 dvx, .int .i64 dvy, .int .i64 dh, .int .i64 dp, .int .i64 dl, .int .i64 cm] 38) = w1 at *
  obtain ⟨⟨k0, k1, k2, k3, k4, k5, k6, k7, k8, k9, k10, k11, k12, k13, k14, k15⟩, _⟩ := CE.out _ HB
  replace HB := Lib.hid HB
  cases r with
  | false => as_aux_lemma =>
    clear KD
    go_enter Tryz.func100, Tryz.ntmps100
    go_wp2_with fail
    refine (M1.out _).mono ?_
    rintro e w2 ⟨rfl, hb⟩
    clear k0 k1 k2 k3 k4 k5 k6 k7 k8 k9 k10 k11 k12 k13 k14 k15
    replace HB := Lib.hid (HB.out.trans (hb.mono HB.out.size))
    clear hb
    obtain ⟨⟨k0, k1, k2, k3, k4, k5, k6, k7, k8, k9, k10, k11, k12, k13, k14, k15⟩, _⟩ := CE.out _ HB.out
    go_wp2
    go_ret
    exact ⟨rfl, (CE.out _ HB.out).2⟩
  | true =>
    simp only [if_true]
    rcases KD rfl with rfl | rfl | rfl | rfl
    · as_aux_lemma =>
      clear KD
      go_enter Tryz.func100, Tryz.ntmps100
      go_wp2_with fail
      with_reducible refine (M1.out _).mono ?_
      rintro e w3 ⟨rfl, hb⟩
      clear k0 k1 k2 k3 k4 k5 k6 k7 k8 k9 k10 k11 k12 k13 k14 k15
      replace HB := Lib.hid (HB.out.trans (hb.mono HB.out.size))
      clear hb
      obtain ⟨⟨k0, k1, k2, k3, k4, k5, k6, k7, k8, k9, k10, k11, k12, k13, k14, k15⟩, _⟩ := CE.out _ HB.out
      go_wp2_with fail
      with_reducible refine (L1.out _).mono ?_
      rintro e w3 ⟨rfl, hb⟩
      clear k0 k1 k2 k3 k4 k5 k6 k7 k8 k9 k10 k11 k12 k13 k14 k15
      replace HB := Lib.hid (HB.out.trans (hb.mono HB.out.size))
      clear hb
      obtain ⟨⟨k0, k1, k2, k3, k4, k5, k6, k7, k8, k9, k10, k11, k12, k13, k14, k15⟩, _⟩ := CE.out _ HB.out
      go_wp2_with fail
      with_reducible refine (B1.out _).mono ?_
      rintro e w3 ⟨rfl, hb⟩
      clear k0 k1 k2 k3 k4 k5 k6 k7 k8 k9 k10 k11 k12 k13 k14 k15
      replace HB := Lib.hid (HB.out.trans (hb.mono HB.out.size))
      clear hb
      obtain ⟨⟨k0, k1, k2, k3, k4, k5, k6, k7, k8, k9, k10, k11, k12, k13, k14, k15⟩, _⟩ := CE.out _ HB.out
      go_wp2
      go_ret
      exact ⟨by simp [List.append_assoc], (CE.out _ HB.out).2⟩
    · as_aux_lemma =>
      clear KD
      go_enter Tryz.func100, Tryz.ntmps100
      go_wp2_with fail
      with_reducible refine (M1.out _).mono ?_
      rintro e w3 ⟨rfl, hb⟩
      clear k0 k1 k2 k3 k4 k5 k6 k7 k8 k9 k10 k11 k12 k13 k14 k15
      replace HB := Lib.hid (HB.out.trans (hb.mono HB.out.size))
      clear hb
      obtain ⟨⟨k0, k1, k2, k3, k4, k5, k6, k7, k8, k9, k10, k11, k12, k13, k14, k15⟩, _⟩ := CE.out _ HB.out
      go_wp2_with fail
      with_reducible refine (L1.out _).mono ?_
      rintro e w3 ⟨rfl, hb⟩
      clear k0 k1 k2 k3 k4 k5 k6 k7 k8 k9 k10 k11 k12 k13 k14 k15
      replace HB := Lib.hid (HB.out.trans (hb.mono HB.out.size))
      clear hb
      obtain ⟨⟨k0, k1, k2, k3, k4, k5, k6, k7, k8, k9, k10, k11, k12, k13, k14, k15⟩, _⟩ := CE.out _ HB.out
      go_wp2_with fail
      with_reducible refine (I1.out _).mono ?_
      rintro e w3 ⟨rfl, hb⟩
      clear k0 k1 k2 k3 k4 k5 k6 k7 k8 k9 k10 k11 k12 k13 k14 k15
      replace HB := Lib.hid (HB.out.trans (hb.mono HB.out.size))
      clear hb
      obtain ⟨⟨k0, k1, k2, k3, k4, k5, k6, k7, k8, k9, k10, k11, k12, k13, k14, k15⟩, _⟩ := CE.out _ HB.out
      go_wp2
      go_ret
      exact ⟨by simp [List.append_assoc], (CE.out _ HB.out).2⟩
    · as_aux_lemma =>
      clear KD
      go_enter Tryz.func100, Tryz.ntmps100
      go_wp2_with fail
      with_reducible refine (M1.out _).mono ?_
      rintro e w3 ⟨rfl, hb⟩
      clear k0 k1 k2 k3 k4 k5 k6 k7 k8 k9 k10 k11 k12 k13 k14 k15
      replace HB := Lib.hid (HB.out.trans (hb.mono HB.out.size))
      clear hb
      obtain ⟨⟨k0, k1, k2, k3, k4, k5, k6, k7, k8, k9, k10, k11, k12, k13, k14, k15⟩, _⟩ := CE.out _ HB.out
      go_wp2_with fail
      with_reducible refine (L1.out _).mono ?_
      rintro e w3 ⟨rfl, hb⟩
      clear k0 k1 k2 k3 k4 k5 k6 k7 k8 k9 k10 k11 k12 k13 k14 k15
      replace HB := Lib.hid (HB.out.trans (hb.mono HB.out.size))
      clear hb
      obtain ⟨⟨k0, k1, k2, k3, k4, k5, k6, k7, k8, k9, k10, k11, k12, k13, k14, k15⟩, _⟩ := CE.out _ HB.out
      go_upto_region 8 with fail
      have CW := fun p : Lat grows _ => (CE.out p.W (HB.out.trans (p.h.mono HB.out.size))).1
      clear k0 k1 k2 k3 k4 k5 k6 k7 k8 k9 k10 k11 k12 k13 k14 k15
      have k0 := fun p => (CW p).1
      have k1 := fun p => (CW p).2.1
      have k2 := fun p => (CW p).2.2.1
      have k3 := fun p => (CW p).2.2.2.1
      have k4 := fun p => (CW p).2.2.2.2.1
      have k5 := fun p => (CW p).2.2.2.2.2.1
      have k6 := fun p => (CW p).2.2.2.2.2.2.1
      have k7 := fun p => (CW p).2.2.2.2.2.2.2.1
      have k8 := fun p => (CW p).2.2.2.2.2.2.2.2.1
      have k9 := fun p => (CW p).2.2.2.2.2.2.2.2.2.1
      have k10 := fun p => (CW p).2.2.2.2.2.2.2.2.2.2.1
      have k11 := fun p => (CW p).2.2.2.2.2.2.2.2.2.2.2.1
      have k12 := fun p => (CW p).2.2.2.2.2.2.2.2.2.2.2.2.1
      have k13 := fun p => (CW p).2.2.2.2.2.2.2.2.2.2.2.2.2.1
      have k14 := fun p => (CW p).2.2.2.2.2.2.2.2.2.2.2.2.2.2.1
      have k15 := fun p => (CW p).2.2.2.2.2.2.2.2.2.2.2.2.2.2.2
      clear CW
      refine Og.grow 9 (by kernel_rfl) (by kernel_rfl) fun hc hf => ?_
      clear hc hf
      simp only [List.take_succ_cons, List.take_zero, List.drop_succ_cons, List.drop_zero]
      repeat (refine Og.det [] rfl (fun J hJ => ?_); go_simp; (first
        | with_reducible refine ⟨_, fun p => Og.lays (I1.out p.W), hJ _ _ ?_⟩
        | with_reducible refine ⟨_, fun p => Og.lays (T1.out p.W), hJ _ _ ?_⟩
        | refine hJ _ _ ?_); clear hJ J)
      refine Og.fin fun W hW => ?_
      simp only [Og.opened_nil]
      clear k0 k1 k2 k3 k4 k5 k6 k7 k8 k9 k10 k11 k12 k13 k14 k15
      replace HB := Lib.hid (HB.out.trans (hW.mono HB.out.size))
      clear hW
      go_wp2
      go_ret
      exact ⟨by simp [List.append_assoc], (CE.out _ HB.out).2⟩
    · as_aux_lemma =>
      clear KD
      go_enter Tryz.func100, Tryz.ntmps100
      go_wp2_with fail
      with_reducible refine (M1.out _).mono ?_
      rintro e w3 ⟨rfl, hb⟩
      clear k0 k1 k2 k3 k4 k5 k6 k7 k8 k9 k10 k11 k12 k13 k14 k15
      replace HB := Lib.hid (HB.out.trans (hb.mono HB.out.size))
      clear hb
      obtain ⟨⟨k0, k1, k2, k3, k4, k5, k6, k7, k8, k9, k10, k11, k12, k13, k14, k15⟩, _⟩ := CE.out _ HB.out
      go_wp2_with fail
      with_reducible refine (L1.out _).mono ?_
      rintro e w3 ⟨rfl, hb⟩
      clear k0 k1 k2 k3 k4 k5 k6 k7 k8 k9 k10 k11 k12 k13 k14 k15
      replace HB := Lib.hid (HB.out.trans (hb.mono HB.out.size))
      clear hb
      obtain ⟨⟨k0, k1, k2, k3, k4, k5, k6, k7, k8, k9, k10, k11, k12, k13, k14, k15⟩, _⟩ := CE.out _ HB.out
      go_upto_region 10 with fail
      have CW := fun p : Lat grows _ => (CE.out p.W (HB.out.trans (p.h.mono HB.out.size))).1
      clear k0 k1 k2 k3 k4 k5 k6 k7 k8 k9 k10 k11 k12 k13 k14 k15
      have k0 := fun p => (CW p).1
      have k1 := fun p => (CW p).2.1
      have k2 := fun p => (CW p).2.2.1
      have k3 := fun p => (CW p).2.2.2.1
      have k4 := fun p => (CW p).2.2.2.2.1
      have k5 := fun p => (CW p).2.2.2.2.2.1
      have k6 := fun p => (CW p).2.2.2.2.2.2.1
      have k7 := fun p => (CW p).2.2.2.2.2.2.2.1
      have k8 := fun p => (CW p).2.2.2.2.2.2.2.2.1
      have k9 := fun p => (CW p).2.2.2.2.2.2.2.2.2.1
      have k10 := fun p => (CW p).2.2.2.2.2.2.2.2.2.2.1
      have k11 := fun p => (CW p).2.2.2.2.2.2.2.2.2.2.2.1
      have k12 := fun p => (CW p).2.2.2.2.2.2.2.2.2.2.2.2.1
      have k13 := fun p => (CW p).2.2.2.2.2.2.2.2.2.2.2.2.2.1
      have k14 := fun p => (CW p).2.2.2.2.2.2.2.2.2.2.2.2.2.2.1
      have k15 := fun p => (CW p).2.2.2.2.2.2.2.2.2.2.2.2.2.2.2
      clear CW
      refine Og.grow 9 (by kernel_rfl) (by kernel_rfl) fun hc hf => ?_
      clear hc hf
      simp only [List.take_succ_cons, List.take_zero, List.drop_succ_cons, List.drop_zero]
      repeat (refine Og.det [] rfl (fun J hJ => ?_); go_simp; (first
        | with_reducible refine ⟨_, fun p => Og.lays (I1.out p.W), hJ _ _ ?_⟩
        | with_reducible refine ⟨_, fun p => Og.lays (L2.out p.W), hJ _ _ ?_⟩
        | refine hJ _ _ ?_); clear hJ J)
      refine Og.fin fun W hW => ?_
      simp only [Og.opened_nil]
      clear k0 k1 k2 k3 k4 k5 k6 k7 k8 k9 k10 k11 k12 k13 k14 k15
      replace HB := Lib.hid (HB.out.trans (hW.mono HB.out.size))
      clear hW
      go_wp2
      go_ret
      exact ⟨by simp [List.append_assoc], (CE.out _ HB.out).2⟩
end Go.Proofs.YtdhlebmgeiiejaaGreat
