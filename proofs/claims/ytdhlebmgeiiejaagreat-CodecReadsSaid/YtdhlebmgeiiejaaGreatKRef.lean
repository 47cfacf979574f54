/- CdRef1, CdRef2, in one text. -/
import Derived.Test.YtdhlebmgeiiejaaGreatKOctRef3
import Derived.Test.YtdhlebmgeiiejaaGreatKPz
import Derived.Test.YtdhlebmgeiiejaaGreatKPure
import Derived.Deep.DeepCutAuto
namespace Go.Proofs.YtdhlebmgeiiejaaGreat
open Go.RowKit Pz Cd
set_option linter.unusedVariables false

theorem enc_le (n : Int) : (Oct.enc n).length ≤ 9 := by rw [Oct.enc_length]; have := Oct.sz_le (Oct.mag n); omega
theorem cd_sum (a b : List UInt8) (h : a.length + b.length ≤ 9223372036854775807) : ∀ W : World, (Op.stringOp .add ⟨a.toArray⟩ ⟨b.toArray⟩).run Tryz.prog W = .ok (.string ⟨(a ++ b).toArray⟩) W := by
  intro W
  rw [run_string_add_sum _ _ _ (by simpa [ByteArray.size] using h), ByteArray.mk_append_mk]
/-- the document lays a number so -/
abbrev RLay (n : Int) (l : List UInt8) : Prop := ∀ W, Calls Tryz.prog 58 #[.int .i64 n] W fun e w' => e = .returned (.string ⟨l.toArray⟩) ∧ Below W.heap.size W w'
theorem rlay (n : Int) (h : FitN n) : RLay n (Oct.enc n) := fun W => rint_any n W h.1 h.2

set_option maxHeartbeats 4000000 in
set_option maxRecDepth 100000 in
theorem rid_any (s i g : Int) (w : World) : Calls Tryz.prog 93 #[.agg #[.int .i64 s, .int .i64 i, .int .i64 g]] w fun e w' => e = .returned (.string ⟨(putID (s, i, g)).toArray⟩) ∧ Below w.heap.size w w' := by
  have R1 : Hid (∀ W, Calls Tryz.prog 40 #[.agg #[.int .i64 s, .int .i64 i, .int .i64 g]] W fun e w' => e = .returned (.bool (rightID s i g)) ∧ Below W.heap.size W w') := Lib.hid fun W => rightid_any _ _ _ W
  obtain ⟨r, er⟩ : ∃ r, rightID s i g = r := ⟨_, rfl⟩
  have ep : putID (s, i, g) = if r then Oct.enc s ++ (Oct.enc i ++ Oct.enc g) else [] := by unfold putID okID rawID; rw [er]
  have FT : r = true → FitN s ∧ FitN i ∧ FitN g := fun h => okID_fit (k := (s, i, g)) (er.trans h)
  rw [er] at R1
  rw [ep]
  clear er ep
  have CE : Hid (∀ W, Below (w.alloc (.cells #[.int .i64 s, .int .i64 i, .int .i64 g] 29)).heap.size (w.alloc (.cells #[.int .i64 s, .int .i64 i, .int .i64 g] 29)) W → ((W.cell? ⟨w.heap.size, 0, none⟩ = some (.int .i64 s) ∧ W.cell? ⟨w.heap.size, 1, none⟩ = some (.int .i64 i) ∧ W.cell? ⟨w.heap.size, 2, none⟩ = some (.int .i64 g)) ∧ Below w.heap.size w W)) := Lib.hid fun W hW =>
    ⟨(Bx.b3 ((hW.block _ (by rw [size1]; omega)).trans (at1 w (.cells #[.int .i64 s, .int .i64 i, .int .i64 g] 29)))).1, (bel1 w _).trans (hW.mono (by rw [size1]; omega))⟩
  obtain ⟨⟨k0, k1, k2⟩, HB⟩ := CE.out _ (Below.refl _ _)
  replace HB := Lib.hid HB
  generalize hww : w.alloc (.cells #[.int .i64 s, .int .i64 i, .int .i64 g] 29) = w1 at *
  cases r with
  | false =>
    clear FT
    go_enter Tryz.func93, Tryz.ntmps93
    go_wp2_with fail
    refine (R1.out _).mono ?_
    rintro e w2 ⟨rfl, hb2⟩
    replace hb2 := Lib.hid hb2
    go_wp2
    go_ret
    exact ⟨rfl, (CE.out w2 hb2.out).2⟩
  | true =>
    obtain ⟨f1, f2, f3⟩ := FT rfl
    have l1 := enc_le s
    have l2 := enc_le i
    have l3 := enc_le g
    have L1 := Lib.hid (rlay s f1)
    have L2 := Lib.hid (rlay i f2)
    have L3 := Lib.hid (rlay g f3)
    clear FT f1 f2 f3
    generalize Oct.enc s = a at *
    generalize Oct.enc i = b at *
    generalize Oct.enc g = c at *
    have S1 := cd_sum a b (by omega)
    have S2 := cd_sum (a ++ b) c (by rw [List.length_append]; omega)
    have HE : Hid (a ++ (b ++ c) = a ++ b ++ c) := Lib.hid (List.append_assoc a b c).symm
    simp only [if_true]
    clear l1 l2 l3
    go_enter Tryz.func93, Tryz.ntmps93
    go_wp2_with fail
    refine (R1.out _).mono ?_
    rintro e w2 ⟨rfl, hb2⟩
    clear k0 k1 k2 HB
    have CW := fun p : Lat grows w2 => (CE.out p.W (hb2.trans (p.h.mono hb2.size))).1
    have k0 := fun p => (CW p).1
    have k1 := fun p => (CW p).2.1
    have k2 := fun p => (CW p).2.2
    replace hb2 := Lib.hid hb2
    clear CW
    go_upto_region 3 with fail
    refine Og.grow 11 (by kernel_rfl) (by kernel_rfl) fun hc hf => ?_
    clear hc hf
    simp only [List.take_succ_cons, List.take_zero, List.drop_succ_cons, List.drop_zero]
    repeat (refine Og.det [] rfl (fun J hJ => ?_); go_simp; (first
      | with_reducible refine ⟨_, fun p => Og.lays (L1.out p.W), hJ _ _ ?_⟩
      | with_reducible refine ⟨_, fun p => Og.lays (L2.out p.W), hJ _ _ ?_⟩
      | with_reducible refine ⟨_, fun p => Og.lays (L3.out p.W), hJ _ _ ?_⟩
      | refine hJ _ _ ?_); clear hJ J)
    refine Og.fin fun W hW => ?_
    simp only [Og.opened_nil]
    clear k0 k1 k2
    go_wp2
    go_ret
    rw [HE.out]
    exact ⟨rfl, (CE.out W (hb2.out.trans (hW.mono hb2.out.size))).2⟩
end Go.Proofs.YtdhlebmgeiiejaaGreat
namespace Go.Proofs.YtdhlebmgeiiejaaGreat
open Go.RowKit Pz Cd
set_option linter.unusedVariables false
set_option linter.unusedSimpArgs false

theorem opt_two (t : Bool) (a b r : List UInt8) : (if t then a else []) ++ ((if t then b else []) ++ r) = (if t then a ++ b else []) ++ r := by cases t <;> simp
set_option maxHeartbeats 16000000 in
set_option maxRecDepth 100000 in
theorem rrest_any (b : Bn) (hf : b.Fits) (w : World) : Calls Tryz.prog 94 #[b.val] w fun e w' => e = .returned (.string ⟨(rest b).toArray⟩) ∧ Below w.heap.size w w' := by
  have B0 : Hid (∀ W, Calls Tryz.prog 83 #[.int .i64 b.m, .int .i64 1] W fun e w' => e = .returned (.bool (bitB b.m 0)) ∧ W = w') := Lib.hid fun W => bit_any b.m hf.m 0 (by decide) W
  have B1 : Hid (∀ W, Calls Tryz.prog 83 #[.int .i64 b.m, .int .i64 2] W fun e w' => e = .returned (.bool (bitB b.m 1)) ∧ W = w') := Lib.hid fun W => bit_any b.m hf.m 1 (by decide) W
  have B2 : Hid (∀ W, Calls Tryz.prog 83 #[.int .i64 b.m, .int .i64 4] W fun e w' => e = .returned (.bool (bitB b.m 2)) ∧ W = w') := Lib.hid fun W => bit_any b.m hf.m 2 (by decide) W
  have B3 : Hid (∀ W, Calls Tryz.prog 83 #[.int .i64 b.m, .int .i64 8] W fun e w' => e = .returned (.bool (bitB b.m 3)) ∧ W = w') := Lib.hid fun W => bit_any b.m hf.m 3 (by decide) W
  have B4 : Hid (∀ W, Calls Tryz.prog 83 #[.int .i64 b.m, .int .i64 16] W fun e w' => e = .returned (.bool (bitB b.m 4)) ∧ W = w') := Lib.hid fun W => bit_any b.m hf.m 4 (by decide) W
  have Lm := Lib.hid (rlay b.m hf.m)
  have qm := enc_le b.m
  have Lx := Lib.hid (rlay b.x hf.x)
  have qx := enc_le b.x
  have Ly := Lib.hid (rlay b.y hf.y)
  have qy := enc_le b.y
  have Lvx := Lib.hid (rlay b.vx hf.vx)
  have qvx := enc_le b.vx
  have Lvy := Lib.hid (rlay b.vy hf.vy)
  have qvy := enc_le b.vy
  have Lh := Lib.hid (rlay b.h hf.h)
  have qh := enc_le b.h
  have Lp := Lib.hid (rlay b.p hf.p)
  have qp := enc_le b.p
  have Ll := Lib.hid (rlay b.l hf.l)
  have ql := enc_le b.l
  unfold rest optP
  clear hf
  obtain ⟨ds, di, dg, dm, dx, dy, dvx, dvy, dh, dp, dl⟩ := b
  simp only at *
  generalize bitB dm 0 = t0 at *
  generalize bitB dm 1 = t1 at *
  generalize bitB dm 2 = t2 at *
  generalize bitB dm 3 = t3 at *
  generalize bitB dm 4 = t4 at *
  generalize Oct.enc dm = em at *
  generalize Oct.enc dx = ex at *
  generalize Oct.enc dy = ey at *
  generalize Oct.enc dvx = evx at *
  generalize Oct.enc dvy = evy at *
  generalize Oct.enc dh = eh at *
  generalize Oct.enc dp = ep at *
  generalize Oct.enc dl = el at *
  obtain ⟨S1, HS1, HN1, qs1⟩ : ∃ S, (t0 = true → S = em ++ ex ++ ey) ∧ (t0 = false → S = em) ∧ S.length ≤ 27 := by
    cases t0 with
    | false => exact ⟨em, fun h => (by cases h), fun _ => rfl, by omega⟩
    | true => exact ⟨em ++ ex ++ ey, fun _ => rfl, (fun h => by cases h), by simp only [List.length_append]; omega⟩
  obtain ⟨S2, HS2, HN2, qs2⟩ : ∃ S, (t1 = true → S = S1 ++ evx ++ evy) ∧ (t1 = false → S = S1) ∧ S.length ≤ 45 := by
    cases t1 with
    | false => exact ⟨S1, fun h => (by cases h), fun _ => rfl, by omega⟩
    | true => exact ⟨S1 ++ evx ++ evy, fun _ => rfl, (fun h => by cases h), by simp only [List.length_append]; omega⟩
  obtain ⟨S3, HS3, HN3, qs3⟩ : ∃ S, (t2 = true → S = S2 ++ eh) ∧ (t2 = false → S = S2) ∧ S.length ≤ 54 := by
    cases t2 with
    | false => exact ⟨S2, fun h => (by cases h), fun _ => rfl, by omega⟩
    | true => exact ⟨S2 ++ eh, fun _ => rfl, (fun h => by cases h), by simp only [List.length_append]; omega⟩
  obtain ⟨S4, HS4, HN4, qs4⟩ : ∃ S, (t3 = true → S = S3 ++ ep) ∧ (t3 = false → S = S3) ∧ S.length ≤ 63 := by
    cases t3 with
    | false => exact ⟨S3, fun h => (by cases h), fun _ => rfl, by omega⟩
    | true => exact ⟨S3 ++ ep, fun _ => rfl, (fun h => by cases h), by simp only [List.length_append]; omega⟩
  obtain ⟨S5, HS5, HN5, qs5⟩ : ∃ S, (t4 = true → S = S4 ++ el) ∧ (t4 = false → S = S4) ∧ S.length ≤ 72 := by
    cases t4 with
    | false => exact ⟨S4, fun h => (by cases h), fun _ => rfl, by omega⟩
    | true => exact ⟨S4 ++ el, fun _ => rfl, (fun h => by cases h), by simp only [List.length_append]; omega⟩
  have HR : Hid (em ++ ((if t0 then ex else []) ++ ((if t0 then ey else []) ++ ((if t1 then evx else []) ++ ((if t1 then evy else []) ++ ((if t2 then eh else []) ++ ((if t3 then ep else []) ++ (if t4 then el else []))))))) = S5) := Lib.hid (by
    have g1 : S1 = em ++ (if t0 then ex ++ ey else []) := by cases t0 with | false => simpa using HN1 rfl | true => simpa using HS1 rfl
    have g2 : S2 = S1 ++ (if t1 then evx ++ evy else []) := by cases t1 with | false => simpa using HN2 rfl | true => simpa using HS2 rfl
    have g3 : S3 = S2 ++ (if t2 then eh else []) := by cases t2 with | false => simpa using HN3 rfl | true => simpa using HS3 rfl
    have g4 : S4 = S3 ++ (if t3 then ep else []) := by cases t3 with | false => simpa using HN4 rfl | true => simpa using HS4 rfl
    have g5 : S5 = S4 ++ (if t4 then el else []) := by cases t4 with | false => simpa using HN5 rfl | true => simpa using HS5 rfl
    rw [g5, g4, g3, g2, g1, opt_two, opt_two]; simp only [List.append_assoc])
  rw [HR.out]
  clear HR
  have A00 := cd_sum (em) ex (by (try simp only [List.length_append]); omega)
  have A01 := cd_sum (em ++ ex) ey (by (try simp only [List.length_append]); omega)
  replace HS1 := Lib.hid HS1
  replace HN1 := Lib.hid HN1
  have A10 := cd_sum (S1) evx (by (try simp only [List.length_append]); omega)
  have A11 := cd_sum (S1 ++ evx) evy (by (try simp only [List.length_append]); omega)
  replace HS2 := Lib.hid HS2
  replace HN2 := Lib.hid HN2
  have A20 := cd_sum (S2) eh (by (try simp only [List.length_append]); omega)
  replace HS3 := Lib.hid HS3
  replace HN3 := Lib.hid HN3
  have A30 := cd_sum (S3) ep (by (try simp only [List.length_append]); omega)
  replace HS4 := Lib.hid HS4
  replace HN4 := Lib.hid HN4
  have A40 := cd_sum (S4) el (by (try simp only [List.length_append]); omega)
  replace HS5 := Lib.hid HS5
  replace HN5 := Lib.hid HN5
  clear qm qx qy qvx qvy qh qp ql qs1 qs2 qs3 qs4 qs5
  have CE : Hid (∀ W, Below (w.alloc (.cells #[.int .i64 ds, .int .i64 di, .int .i64 dg, .int .i64 dm, .int .i64 dx, .int .i64 dy, .int .i64 dvx, .int .i64 dvy, .int .i64 dh, .int .i64 dp, .int .i64 dl] 34)).heap.size (w.alloc (.cells #[.int .i64 ds, .int .i64 di, .int .i64 dg, .int .i64 dm, .int .i64 dx, .int .i64 dy, .int .i64 dvx, .int .i64 dvy, .int .i64 dh, .int .i64 dp, .int .i64 dl] 34)) W → ((W.cell? ⟨w.heap.size, 0, none⟩ = some (.int .i64 ds) ∧ W.cell? ⟨w.heap.size, 1, none⟩ = some (.int .i64 di) ∧ W.cell? ⟨w.heap.size, 2, none⟩ = some (.int .i64 dg) ∧ W.cell? ⟨w.heap.size, 3, none⟩ = some (.int .i64 dm) ∧ W.cell? ⟨w.heap.size, 4, none⟩ = some (.int .i64 dx) ∧ W.cell? ⟨w.heap.size, 5, none⟩ = some (.int .i64 dy) ∧ W.cell? ⟨w.heap.size, 6, none⟩ = some (.int .i64 dvx) ∧ W.cell? ⟨w.heap.size, 7, none⟩ = some (.int .i64 dvy) ∧ W.cell? ⟨w.heap.size, 8, none⟩ = some (.int .i64 dh) ∧ W.cell? ⟨w.heap.size, 9, none⟩ = some (.int .i64 dp) ∧ W.cell? ⟨w.heap.size, 10, none⟩ = some (.int .i64 dl)) ∧ Below w.heap.size w W)) := Lib.hid fun W hW =>
    ⟨(Bx.b11 ((hW.block _ (by rw [size1]; omega)).trans (at1 w (.cells #[.int .i64 ds, .int .i64 di, .int .i64 dg, .int .i64 dm, .int .i64 dx, .int .i64 dy, .int .i64 dvx, .int .i64 dvy, .int .i64 dh, .int .i64 dp, .int .i64 dl] 34)))).1, (bel1 w _).trans (hW.mono (by rw [size1]; omega))⟩
  have HB := Below.refl (w.alloc (.cells #[.int .i64 ds, .int .i64 di, .int .i64 dg, .int .i64 dm, .int .i64 dx, .int .i64 dy, .int .i64 dvx, .int .i64 dvy, .int .i64 dh, .int .i64 dp, .int .i64 dl] 34)).heap.size (w.alloc (.cells #[.int .i64 ds, .int .i64 di, .int .i64 dg, .int .i64 dm, .int .i64 dx, .int .i64 dy, .int .i64 dvx, .int .i64 dvy, .int .i64 dh, .int .i64 dp, .int .i64 dl] 34))
  generalize hww : w.alloc (.cells #[.int .i64 ds, .int .i64 di, .int .i64 dg, .int .i64 dm, .int .i64 dx, .int .i64 dy, .int .i64 dvx, .int .i64 dvy, .int .i64 dh, .int .i64 dp, .int .i64 dl] 34) = w1 at *
  obtain ⟨⟨k0, k1, k2, k3, k4, k5, k6, k7, k8, k9, k10⟩, _⟩ := CE.out _ HB
  replace HB := Lib.hid HB
  go_enter Tryz.func94, Tryz.ntmps94
  go_upto_if 9 with (first | (go_at_call 58; with_reducible refine (Lm.out _).mono ?_; rintro e w20 ⟨rfl, hb⟩; clear k0 k1 k2 k3 k4 k5 k6 k7 k8 k9 k10; replace HB := Lib.hid (HB.out.trans (hb.mono HB.out.size)); clear hb; obtain ⟨⟨k0, k1, k2, k3, k4, k5, k6, k7, k8, k9, k10⟩, _⟩ := CE.out _ HB.out) | (go_at_call 83; with_reducible refine (B0.out _).mono ?_; rintro e w' ⟨rfl, rfl⟩))
  go_cut [3] (fun v wx => v = .string ⟨S1.toArray⟩ ∧ Below w1.heap.size w1 wx)
  case first =>
    cases t0 with
    | false =>
      have HQ := Lib.hid (HN1.out rfl)
      clear HN1 HS1
      go_wp2
      go_meet
      exact ⟨by simp only [HQ.out, List.append_assoc], HB.out⟩
    | true =>
      have HQ := Lib.hid (HS1.out rfl)
      clear HN1 HS1
      go_upto_region 3 with fail
      have CW := fun p : Lat grows _ => (CE.out p.W (HB.out.trans (p.h.mono HB.out.size))).1
      clear k0 k1 k2 k3 k4 k5 k6 k7 k8 k9 k10
      have k4 := fun p => (CW p).2.2.2.2.1
      have k5 := fun p => (CW p).2.2.2.2.2.1
      clear CW
      refine Og.grow 9 (by kernel_rfl) (by kernel_rfl) fun hc hf => ?_
      clear hc hf
      simp only [List.take_succ_cons, List.take_zero, List.drop_succ_cons, List.drop_zero]
      repeat (refine Og.det [] rfl (fun J hJ => ?_); go_simp; (first
        | with_reducible refine ⟨_, fun p => Og.lays (Lx.out p.W), hJ _ _ ?_⟩
        | with_reducible refine ⟨_, fun p => Og.lays (Ly.out p.W), hJ _ _ ?_⟩
        | refine hJ _ _ ?_); clear hJ J)
      refine Og.fin fun W hW => ?_
      simp only [Og.opened_nil]
      clear k4 k5
      replace HB := Lib.hid (HB.out.trans (hW.mono HB.out.size))
      clear hW
      go_wp2
      go_meet
      exact ⟨by simp only [HQ.out, List.append_assoc], HB.out⟩
  clear k0 k1 k2 k3 k4 k5 k6 k7 k8 k9 k10 HB
  generalize wc = V1 at *
  obtain ⟨hv, hcut⟩ := hcut
  subst hv
  have HB := Lib.hid hcut
  clear hcut
  obtain ⟨⟨k0, k1, k2, k3, k4, k5, k6, k7, k8, k9, k10⟩, _⟩ := CE.out _ HB.out
  go_upto_if 21 with (go_at_call 83; with_reducible refine (B1.out _).mono ?_; rintro e w' ⟨rfl, rfl⟩)
  go_cut [3] (fun v wx => v = .string ⟨S2.toArray⟩ ∧ Below w1.heap.size w1 wx)
  case first =>
    cases t1 with
    | false =>
      have HQ := Lib.hid (HN2.out rfl)
      clear HN2 HS2
      go_wp2
      go_meet
      exact ⟨by simp only [HQ.out, List.append_assoc], HB.out⟩
    | true =>
      have HQ := Lib.hid (HS2.out rfl)
      clear HN2 HS2
      go_upto_region 5 with fail
      have CW := fun p : Lat grows _ => (CE.out p.W (HB.out.trans (p.h.mono HB.out.size))).1
      clear k0 k1 k2 k3 k4 k5 k6 k7 k8 k9 k10
      have k6 := fun p => (CW p).2.2.2.2.2.2.1
      have k7 := fun p => (CW p).2.2.2.2.2.2.2.1
      clear CW
      refine Og.grow 9 (by kernel_rfl) (by kernel_rfl) fun hc hf => ?_
      clear hc hf
      simp only [List.take_succ_cons, List.take_zero, List.drop_succ_cons, List.drop_zero]
      repeat (refine Og.det [] rfl (fun J hJ => ?_); go_simp; (first
        | with_reducible refine ⟨_, fun p => Og.lays (Lvx.out p.W), hJ _ _ ?_⟩
        | with_reducible refine ⟨_, fun p => Og.lays (Lvy.out p.W), hJ _ _ ?_⟩
        | refine hJ _ _ ?_); clear hJ J)
      refine Og.fin fun W hW => ?_
      simp only [Og.opened_nil]
      clear k6 k7
      replace HB := Lib.hid (HB.out.trans (hW.mono HB.out.size))
      clear hW
      go_wp2
      go_meet
      exact ⟨by simp only [HQ.out, List.append_assoc], HB.out⟩
  clear k0 k1 k2 k3 k4 k5 k6 k7 k8 k9 k10 HB
  generalize wc = V2 at *
  obtain ⟨hv, hcut⟩ := hcut
  subst hv
  have HB := Lib.hid hcut
  clear hcut
  obtain ⟨⟨k0, k1, k2, k3, k4, k5, k6, k7, k8, k9, k10⟩, _⟩ := CE.out _ HB.out
  go_upto_if 33 with (go_at_call 83; with_reducible refine (B2.out _).mono ?_; rintro e w' ⟨rfl, rfl⟩)
  go_cut [3] (fun v wx => v = .string ⟨S3.toArray⟩ ∧ Below w1.heap.size w1 wx)
  case first =>
    cases t2 with
    | false =>
      have HQ := Lib.hid (HN3.out rfl)
      clear HN3 HS3
      go_wp2
      go_meet
      exact ⟨by simp only [HQ.out, List.append_assoc], HB.out⟩
    | true =>
      have HQ := Lib.hid (HS3.out rfl)
      clear HN3 HS3
      go_wp2_with (go_at_call 58; with_reducible refine (Lh.out _).mono ?_; rintro e w32 ⟨rfl, hb⟩; clear k0 k1 k2 k3 k4 k5 k6 k7 k8 k9 k10; replace HB := Lib.hid (HB.out.trans (hb.mono HB.out.size)); clear hb; obtain ⟨⟨k0, k1, k2, k3, k4, k5, k6, k7, k8, k9, k10⟩, _⟩ := CE.out _ HB.out)
      go_meet
      exact ⟨by simp only [HQ.out, List.append_assoc], HB.out⟩
  clear k0 k1 k2 k3 k4 k5 k6 k7 k8 k9 k10 HB
  generalize wc = V3 at *
  obtain ⟨hv, hcut⟩ := hcut
  subst hv
  have HB := Lib.hid hcut
  clear hcut
  obtain ⟨⟨k0, k1, k2, k3, k4, k5, k6, k7, k8, k9, k10⟩, _⟩ := CE.out _ HB.out
  go_upto_if 41 with (go_at_call 83; with_reducible refine (B3.out _).mono ?_; rintro e w' ⟨rfl, rfl⟩)
  go_cut [3] (fun v wx => v = .string ⟨S4.toArray⟩ ∧ Below w1.heap.size w1 wx)
  case first =>
    cases t3 with
    | false =>
      have HQ := Lib.hid (HN4.out rfl)
      clear HN4 HS4
      go_wp2
      go_meet
      exact ⟨by simp only [HQ.out, List.append_assoc], HB.out⟩
    | true =>
      have HQ := Lib.hid (HS4.out rfl)
      clear HN4 HS4
      go_wp2_with (go_at_call 58; with_reducible refine (Lp.out _).mono ?_; rintro e w33 ⟨rfl, hb⟩; clear k0 k1 k2 k3 k4 k5 k6 k7 k8 k9 k10; replace HB := Lib.hid (HB.out.trans (hb.mono HB.out.size)); clear hb; obtain ⟨⟨k0, k1, k2, k3, k4, k5, k6, k7, k8, k9, k10⟩, _⟩ := CE.out _ HB.out)
      go_meet
      exact ⟨by simp only [HQ.out, List.append_assoc], HB.out⟩
  clear k0 k1 k2 k3 k4 k5 k6 k7 k8 k9 k10 HB
  generalize wc = V4 at *
  obtain ⟨hv, hcut⟩ := hcut
  subst hv
  have HB := Lib.hid hcut
  clear hcut
  obtain ⟨⟨k0, k1, k2, k3, k4, k5, k6, k7, k8, k9, k10⟩, _⟩ := CE.out _ HB.out
  go_upto_if 49 with (go_at_call 83; with_reducible refine (B4.out _).mono ?_; rintro e w' ⟨rfl, rfl⟩)
  go_cut [3] (fun v wx => v = .string ⟨S5.toArray⟩ ∧ Below w1.heap.size w1 wx)
  case first =>
    cases t4 with
    | false =>
      have HQ := Lib.hid (HN5.out rfl)
      clear HN5 HS5
      go_wp2
      go_meet
      exact ⟨by simp only [HQ.out, List.append_assoc], HB.out⟩
    | true =>
      have HQ := Lib.hid (HS5.out rfl)
      clear HN5 HS5
      go_wp2_with (go_at_call 58; with_reducible refine (Ll.out _).mono ?_; rintro e w34 ⟨rfl, hb⟩; clear k0 k1 k2 k3 k4 k5 k6 k7 k8 k9 k10; replace HB := Lib.hid (HB.out.trans (hb.mono HB.out.size)); clear hb; obtain ⟨⟨k0, k1, k2, k3, k4, k5, k6, k7, k8, k9, k10⟩, _⟩ := CE.out _ HB.out)
      go_meet
      exact ⟨by simp only [HQ.out, List.append_assoc], HB.out⟩
  clear k0 k1 k2 k3 k4 k5 k6 k7 k8 k9 k10 HB
  generalize wc = V5 at *
  obtain ⟨hv, hcut⟩ := hcut
  subst hv
  have HB := Lib.hid hcut
  clear hcut
  obtain ⟨⟨k0, k1, k2, k3, k4, k5, k6, k7, k8, k9, k10⟩, _⟩ := CE.out _ HB.out
  go_wp2
  go_ret
  exact ⟨rfl, (CE.out _ HB.out).2⟩
end Go.Proofs.YtdhlebmgeiiejaaGreat
