/- The buffer's Do. Written by wip/tools/genbudo.py. -/
import Derived.Test.YteollbioeamciaaKBuC
import Derived.Test.YteollbioeamciaaKPw
namespace Go.Proofs.Yteollbioeamciaa
open Go.RowKit Pz Ar Bu Sp
set_option linter.unusedVariables false
set_option linter.unusedSimpArgs false

section
variable {w W V : World} {L : List Piece} {s : Nat} {t : Tb}
set_option maxHeartbeats 16000000 in
set_option maxRecDepth 100000 in
theorem cone_none (k : Int) (hk : k = 2 ∨ k = 3 ∨ k = 4) (ds di dg dm dx dy dvx dvy dh dp dl dm_ : Int) (h : Sep w (stC s t :: L) W) {n : Nat} (hl : Le t n) (hn : n < 100000) (hg : Bu.get t (ds, di, dg) = none) : Calls Try.prog 29 #[.pointer (some ⟨s, 0, none⟩), .agg #[.int .i64 k, .int .i64 ds, .int .i64 di, .int .i64 dg, .int .i64 dm, .int .i64 dx, .int .i64 dy, .int .i64 dvx, .int .i64 dvy, .int .i64 dh, .int .i64 dp, .int .i64 dl, .int .i64 dm_]] W fun e V => e = .returned (.int .i64 (bdo t ⟨k, ⟨ds, di, dg, dm, dx, dy, dvx, dvy, dh, dp, dl⟩, dm_⟩).2) ∧ Sep w (stC s (bdo t ⟨k, ⟨ds, di, dg, dm, dx, dy, dvx, dvy, dh, dp, dl⟩, dm_⟩).1 :: L) V := by
  rw [bdo_none (d := ⟨k, ⟨ds, di, dg, dm, dx, dy, dvx, dvy, dh, dp, dl⟩, dm_⟩) hk hg]
  have HB : Hid (Sep w (stC s t :: box W.heap.size (.cells #[.int .i64 k, .int .i64 ds, .int .i64 di, .int .i64 dg, .int .i64 dm, .int .i64 dx, .int .i64 dy, .int .i64 dvx, .int .i64 dvy, .int .i64 dh, .int .i64 dp, .int .i64 dl, .int .i64 dm_] DTY) :: L) (W.alloc (.cells #[.int .i64 k, .int .i64 ds, .int .i64 di, .int .i64 dg, .int .i64 dm, .int .i64 dx, .int .i64 dy, .int .i64 dvx, .int .i64 dvy, .int .i64 dh, .int .i64 dp, .int .i64 dl, .int .i64 dm_] DTY))) := Lib.hid ((sep_box h _).pull 1 rfl)
  have T1 := Lib.hid (Bx.b13 (at1 W (.cells #[.int .i64 k, .int .i64 ds, .int .i64 di, .int .i64 dg, .int .i64 dm, .int .i64 dx, .int .i64 dy, .int .i64 dvx, .int .i64 dvy, .int .i64 dh, .int .i64 dp, .int .i64 dl, .int .i64 dm_] DTY))).1
  have GX : Hid (∀ V, Sep w (stC s t :: box W.heap.size (.cells #[.int .i64 k, .int .i64 ds, .int .i64 di, .int .i64 dg, .int .i64 dm, .int .i64 dx, .int .i64 dy, .int .i64 dvx, .int .i64 dvy, .int .i64 dh, .int .i64 dp, .int .i64 dl, .int .i64 dm_] DTY) :: L) V → Calls Try.prog 25 #[.pointer (some ⟨s, 0, none⟩), .agg #[.int .i64 ds, .int .i64 di, .int .i64 dg]] V fun e V' => e = .returned (.tuple #[.agg #[.int .i64 0, .int .i64 0, .int .i64 0, .int .i64 0, .int .i64 0, .int .i64 0, .int .i64 0, .int .i64 0, .int .i64 0, .int .i64 0, .int .i64 0], .bool false]) ∧ Sep w (stC s t :: L) (V'.alloc (.cells #[.int .i64 0, .int .i64 0, .int .i64 0, .int .i64 0, .int .i64 0, .int .i64 0, .int .i64 0, .int .i64 0, .int .i64 0, .int .i64 0, .int .i64 0] 36))) := Lib.hid fun V hV => by
    have := hV.sget 0 rfl ds di dg
    rw [hg] at this
    exact this.mono fun e V' ⟨e1, e2⟩ => ⟨e1, ((e2.pull 1 rfl).drop).below (bel1 V' _)⟩
  clear h hg hl hn hk
  obtain ⟨k0, k1, k2, k3, k4, k5, k6, k7, k8, k9, k10, k11, k12⟩ := T1.out
  clear T1
  go_enter Try.func29, Try.ntmps29
  go_upto_region 1 with fail
  generalize W.alloc (.cells #[.int .i64 k, .int .i64 ds, .int .i64 di, .int .i64 dg, .int .i64 dm, .int .i64 dx, .int .i64 dy, .int .i64 dvx, .int .i64 dvy, .int .i64 dh, .int .i64 dp, .int .i64 dl, .int .i64 dm_] DTY) = w0 at *
  generalize W.heap.size = q at *
  go_wp2_with (go_at_call 25; refine (GX.out _ HB.out).mono ?_; rintro e w1 ⟨rfl, H1⟩; clear GX HB k0 k1 k2 k3 k4 k5 k6 k7 k8 k9 k10 k11 k12)
  go_ret
  exact ⟨rfl, H1⟩
set_option maxHeartbeats 16000000 in
set_option maxRecDepth 100000 in
theorem cone_rem {xm xx xy xvx xvy xh xp xl : Int} (ds di dg dm dx dy dvx dvy dh dp dl dm_ : Int) (h : Sep w (stC s t :: L) W) {n : Nat} (hl : Le t n) (hn : n < 100000) (hg : Bu.get t (ds, di, dg) = some ⟨ds, di, dg, xm, xx, xy, xvx, xvy, xh, xp, xl⟩) : Calls Try.prog 29 #[.pointer (some ⟨s, 0, none⟩), .agg #[.int .i64 2, .int .i64 ds, .int .i64 di, .int .i64 dg, .int .i64 dm, .int .i64 dx, .int .i64 dy, .int .i64 dvx, .int .i64 dvy, .int .i64 dh, .int .i64 dp, .int .i64 dl, .int .i64 dm_]] W fun e V => e = .returned (.int .i64 (bdo t ⟨2, ⟨ds, di, dg, dm, dx, dy, dvx, dvy, dh, dp, dl⟩, dm_⟩).2) ∧ Sep w (stC s (bdo t ⟨2, ⟨ds, di, dg, dm, dx, dy, dvx, dvy, dh, dp, dl⟩, dm_⟩).1 :: L) V := by
  rw [bdo_rem (t := t) (b := ⟨ds, di, dg, dm, dx, dy, dvx, dvy, dh, dp, dl⟩) (x := ⟨ds, di, dg, xm, xx, xy, xvx, xvy, xh, xp, xl⟩) (m := dm_) hg]
  have HB : Hid (Sep w (stC s t :: box W.heap.size (.cells #[.int .i64 2, .int .i64 ds, .int .i64 di, .int .i64 dg, .int .i64 dm, .int .i64 dx, .int .i64 dy, .int .i64 dvx, .int .i64 dvy, .int .i64 dh, .int .i64 dp, .int .i64 dl, .int .i64 dm_] DTY) :: L) (W.alloc (.cells #[.int .i64 2, .int .i64 ds, .int .i64 di, .int .i64 dg, .int .i64 dm, .int .i64 dx, .int .i64 dy, .int .i64 dvx, .int .i64 dvy, .int .i64 dh, .int .i64 dp, .int .i64 dl, .int .i64 dm_] DTY))) := Lib.hid ((sep_box h _).pull 1 rfl)
  have T1 := Lib.hid (Bx.b13 (at1 W (.cells #[.int .i64 2, .int .i64 ds, .int .i64 di, .int .i64 dg, .int .i64 dm, .int .i64 dx, .int .i64 dy, .int .i64 dvx, .int .i64 dvy, .int .i64 dh, .int .i64 dp, .int .i64 dl, .int .i64 dm_] DTY))).1
  have GX : Hid (∀ V, Sep w (stC s t :: box W.heap.size (.cells #[.int .i64 2, .int .i64 ds, .int .i64 di, .int .i64 dg, .int .i64 dm, .int .i64 dx, .int .i64 dy, .int .i64 dvx, .int .i64 dvy, .int .i64 dh, .int .i64 dp, .int .i64 dl, .int .i64 dm_] DTY) :: L) V → Calls Try.prog 25 #[.pointer (some ⟨s, 0, none⟩), .agg #[.int .i64 ds, .int .i64 di, .int .i64 dg]] V fun e V' => e = .returned (.tuple #[.agg #[.int .i64 ds, .int .i64 di, .int .i64 dg, .int .i64 xm, .int .i64 xx, .int .i64 xy, .int .i64 xvx, .int .i64 xvy, .int .i64 xh, .int .i64 xp, .int .i64 xl], .bool true]) ∧ Sep w (stC s t :: box V'.heap.size (.cells #[.int .i64 ds, .int .i64 di, .int .i64 dg, .int .i64 xm, .int .i64 xx, .int .i64 xy, .int .i64 xvx, .int .i64 xvy, .int .i64 xh, .int .i64 xp, .int .i64 xl] 36) :: box W.heap.size (.cells #[.int .i64 2, .int .i64 ds, .int .i64 di, .int .i64 dg, .int .i64 dm, .int .i64 dx, .int .i64 dy, .int .i64 dvx, .int .i64 dvy, .int .i64 dh, .int .i64 dp, .int .i64 dl, .int .i64 dm_] DTY) :: L) (V'.alloc (.cells #[.int .i64 ds, .int .i64 di, .int .i64 dg, .int .i64 xm, .int .i64 xx, .int .i64 xy, .int .i64 xvx, .int .i64 xvy, .int .i64 xh, .int .i64 xp, .int .i64 xl] 36))) := Lib.hid fun V hV => by
    have := hV.sget 0 rfl ds di dg
    rw [hg] at this
    exact this.mono fun e V' ⟨e1, e2⟩ => ⟨e1, (sep_box e2 _).pull 1 rfl⟩
  have RX : Hid (∀ V q2, Sep w (stC s t :: box q2 (.cells #[.int .i64 ds, .int .i64 di, .int .i64 dg, .int .i64 xm, .int .i64 xx, .int .i64 xy, .int .i64 xvx, .int .i64 xvy, .int .i64 xh, .int .i64 xp, .int .i64 xl] 36) :: box W.heap.size (.cells #[.int .i64 2, .int .i64 ds, .int .i64 di, .int .i64 dg, .int .i64 dm, .int .i64 dx, .int .i64 dy, .int .i64 dvx, .int .i64 dvy, .int .i64 dh, .int .i64 dp, .int .i64 dl, .int .i64 dm_] DTY) :: L) V → Calls Try.prog 49 #[.pointer (some ⟨s, 0, none⟩), .agg #[.int .i64 ds, .int .i64 di, .int .i64 dg]] V fun e V' => (∃ b, e = .returned (.bool b)) ∧ Sep w (stC s (Ar.remove t (ds, di, dg)).1 :: L) V') := Lib.hid fun V q2 hV => (hV.remove ds di dg).mono fun e V' ⟨e1, e2⟩ => ⟨⟨_, e1⟩, ((((e2.pull 1 rfl).drop).pull 1 rfl).drop)⟩
  clear h hg hl hn
  obtain ⟨k0, k1, k2, k3, k4, k5, k6, k7, k8, k9, k10, k11, k12⟩ := T1.out
  clear T1
  go_enter Try.func29, Try.ntmps29
  go_upto_region 1 with fail
  generalize W.alloc (.cells #[.int .i64 2, .int .i64 ds, .int .i64 di, .int .i64 dg, .int .i64 dm, .int .i64 dx, .int .i64 dy, .int .i64 dvx, .int .i64 dvy, .int .i64 dh, .int .i64 dp, .int .i64 dl, .int .i64 dm_] DTY) = w0 at *
  generalize W.heap.size = q at *
  go_upto_region 2 with (go_at_call 25; refine (GX.out _ HB.out).mono ?_; rintro e w1 ⟨rfl, H1⟩; clear GX HB k0 k1 k2 k3 k4 k5 k6 k7 k8 k9 k10 k11 k12)
  generalize w1.heap.size = q2 at *
  generalize w1.alloc (.cells #[.int .i64 ds, .int .i64 di, .int .i64 dg, .int .i64 xm, .int .i64 xx, .int .i64 xy, .int .i64 xvx, .int .i64 xvy, .int .i64 xh, .int .i64 xp, .int .i64 xl] 36) = w2 at *
  have H2 := Lib.hid H1
  obtain ⟨⟨m0, m1, m2, m3, m4, m5, m6, m7, m8, m9, m10⟩, _⟩ := Bx.b11 (H1.held 1 rfl)
  obtain ⟨⟨k0, k1, k2, k3, k4, k5, k6, k7, k8, k9, k10, k11, k12⟩, _⟩ := Bx.b13 (H1.held 2 rfl)
  clear H1
  go_wp2_with (go_at_call 49; refine (RX.out _ _ H2.out).mono ?_; rintro e w3 ⟨⟨bb, rfl⟩, H3⟩; clear RX H2 k0 k1 k2 k3 k4 k5 k6 k7 k8 k9 k10 k11 k12 m0 m1 m2 m3 m4 m5 m6 m7 m8 m9 m10)
  go_ret
  exact ⟨rfl, H3⟩
set_option maxHeartbeats 16000000 in
set_option maxRecDepth 100000 in
theorem cone_set {xm xx xy xvx xvy xh xp xl : Int} (ds di dg dm dx dy dvx dvy dh dp dl dm_ : Int) (h : Sep w (stC s t :: L) W) {n : Nat} (hl : Le t n) (hn : n < 100000) (hg : Bu.get t (ds, di, dg) = some ⟨ds, di, dg, xm, xx, xy, xvx, xvy, xh, xp, xl⟩) : Calls Try.prog 29 #[.pointer (some ⟨s, 0, none⟩), .agg #[.int .i64 3, .int .i64 ds, .int .i64 di, .int .i64 dg, .int .i64 dm, .int .i64 dx, .int .i64 dy, .int .i64 dvx, .int .i64 dvy, .int .i64 dh, .int .i64 dp, .int .i64 dl, .int .i64 dm_]] W fun e V => e = .returned (.int .i64 (bdo t ⟨3, ⟨ds, di, dg, dm, dx, dy, dvx, dvy, dh, dp, dl⟩, dm_⟩).2) ∧ Sep w (stC s (bdo t ⟨3, ⟨ds, di, dg, dm, dx, dy, dvx, dvy, dh, dp, dl⟩, dm_⟩).1 :: L) V := by
  rw [bdo_set (t := t) (b := ⟨ds, di, dg, dm, dx, dy, dvx, dvy, dh, dp, dl⟩) (x := ⟨ds, di, dg, xm, xx, xy, xvx, xvy, xh, xp, xl⟩) (m := dm_) hg]
  have HB : Hid (Sep w (stC s t :: box W.heap.size (.cells #[.int .i64 3, .int .i64 ds, .int .i64 di, .int .i64 dg, .int .i64 dm, .int .i64 dx, .int .i64 dy, .int .i64 dvx, .int .i64 dvy, .int .i64 dh, .int .i64 dp, .int .i64 dl, .int .i64 dm_] DTY) :: L) (W.alloc (.cells #[.int .i64 3, .int .i64 ds, .int .i64 di, .int .i64 dg, .int .i64 dm, .int .i64 dx, .int .i64 dy, .int .i64 dvx, .int .i64 dvy, .int .i64 dh, .int .i64 dp, .int .i64 dl, .int .i64 dm_] DTY))) := Lib.hid ((sep_box h _).pull 1 rfl)
  have T1 := Lib.hid (Bx.b13 (at1 W (.cells #[.int .i64 3, .int .i64 ds, .int .i64 di, .int .i64 dg, .int .i64 dm, .int .i64 dx, .int .i64 dy, .int .i64 dvx, .int .i64 dvy, .int .i64 dh, .int .i64 dp, .int .i64 dl, .int .i64 dm_] DTY))).1
  have GX : Hid (∀ V, Sep w (stC s t :: box W.heap.size (.cells #[.int .i64 3, .int .i64 ds, .int .i64 di, .int .i64 dg, .int .i64 dm, .int .i64 dx, .int .i64 dy, .int .i64 dvx, .int .i64 dvy, .int .i64 dh, .int .i64 dp, .int .i64 dl, .int .i64 dm_] DTY) :: L) V → Calls Try.prog 25 #[.pointer (some ⟨s, 0, none⟩), .agg #[.int .i64 ds, .int .i64 di, .int .i64 dg]] V fun e V' => e = .returned (.tuple #[.agg #[.int .i64 ds, .int .i64 di, .int .i64 dg, .int .i64 xm, .int .i64 xx, .int .i64 xy, .int .i64 xvx, .int .i64 xvy, .int .i64 xh, .int .i64 xp, .int .i64 xl], .bool true]) ∧ Sep w (stC s t :: box V'.heap.size (.cells #[.int .i64 ds, .int .i64 di, .int .i64 dg, .int .i64 xm, .int .i64 xx, .int .i64 xy, .int .i64 xvx, .int .i64 xvy, .int .i64 xh, .int .i64 xp, .int .i64 xl] 36) :: box W.heap.size (.cells #[.int .i64 3, .int .i64 ds, .int .i64 di, .int .i64 dg, .int .i64 dm, .int .i64 dx, .int .i64 dy, .int .i64 dvx, .int .i64 dvy, .int .i64 dh, .int .i64 dp, .int .i64 dl, .int .i64 dm_] DTY) :: L) (V'.alloc (.cells #[.int .i64 ds, .int .i64 di, .int .i64 dg, .int .i64 xm, .int .i64 xx, .int .i64 xy, .int .i64 xvx, .int .i64 xvy, .int .i64 xh, .int .i64 xp, .int .i64 xl] 36))) := Lib.hid fun V hV => by
    have := hV.sget 0 rfl ds di dg
    rw [hg] at this
    exact this.mono fun e V' ⟨e1, e2⟩ => ⟨e1, (sep_box e2 _).pull 1 rfl⟩
  obtain ⟨y, hy⟩ : ∃ y, y = withB ⟨ds, di, dg, xm, xx, xy, xvx, xvy, xh, xp, xl⟩ ⟨ds, di, dg, dm, dx, dy, dvx, dvy, dh, dp, dl⟩ := ⟨_, rfl⟩
  have WX : Hid (∀ V, Calls Try.prog 47 #[.agg #[.int .i64 ds, .int .i64 di, .int .i64 dg, .int .i64 xm, .int .i64 xx, .int .i64 xy, .int .i64 xvx, .int .i64 xvy, .int .i64 xh, .int .i64 xp, .int .i64 xl], .agg #[.int .i64 ds, .int .i64 di, .int .i64 dg, .int .i64 dm, .int .i64 dx, .int .i64 dy, .int .i64 dvx, .int .i64 dvy, .int .i64 dh, .int .i64 dp, .int .i64 dl]] V fun e V' => e = .returned y.val ∧ Below V.heap.size V V') := Lib.hid fun V => by rw [hy]; exact cwith_any ⟨ds, di, dg, xm, xx, xy, xvx, xvy, xh, xp, xl⟩ ⟨ds, di, dg, dm, dx, dy, dvx, dvy, dh, dp, dl⟩ V
  have RX : Hid (∀ V q2, Sep w (stC s t :: box q2 (.cells #[.int .i64 ds, .int .i64 di, .int .i64 dg, .int .i64 xm, .int .i64 xx, .int .i64 xy, .int .i64 xvx, .int .i64 xvy, .int .i64 xh, .int .i64 xp, .int .i64 xl] 36) :: box W.heap.size (.cells #[.int .i64 3, .int .i64 ds, .int .i64 di, .int .i64 dg, .int .i64 dm, .int .i64 dx, .int .i64 dy, .int .i64 dvx, .int .i64 dvy, .int .i64 dh, .int .i64 dp, .int .i64 dl, .int .i64 dm_] DTY) :: L) V → Calls Try.prog 46 #[.pointer (some ⟨s, 0, none⟩), y.val] V fun e V' => e = .returned (.int .i64 (Ar.write t y).2) ∧ Sep w (stC s (Ar.write t y).1 :: L) V') := Lib.hid fun V q2 hV => (hV.write y hl hn).mono fun e V' ⟨e1, e2⟩ => ⟨e1, ((((e2.pull 1 rfl).drop).pull 1 rfl).drop)⟩
  rw [← hy]
  generalize (Ar.write t y).1 = tt at *
  generalize (Ar.write t y).2 = rr at *
  clear hy
  obtain ⟨ys, yi, yg, ym, yx, yy, yvx, yvy, yh, yp, yl⟩ := y
  simp only [Bn.val] at WX RX
  clear h hg hl hn
  obtain ⟨k0, k1, k2, k3, k4, k5, k6, k7, k8, k9, k10, k11, k12⟩ := T1.out
  clear T1
  go_enter Try.func29, Try.ntmps29
  go_upto_region 1 with fail
  generalize W.alloc (.cells #[.int .i64 3, .int .i64 ds, .int .i64 di, .int .i64 dg, .int .i64 dm, .int .i64 dx, .int .i64 dy, .int .i64 dvx, .int .i64 dvy, .int .i64 dh, .int .i64 dp, .int .i64 dl, .int .i64 dm_] DTY) = w0 at *
  generalize W.heap.size = q at *
  go_upto_region 2 with (go_at_call 25; refine (GX.out _ HB.out).mono ?_; rintro e w1 ⟨rfl, H1⟩; clear GX HB k0 k1 k2 k3 k4 k5 k6 k7 k8 k9 k10 k11 k12)
  generalize w1.heap.size = q2 at *
  generalize w1.alloc (.cells #[.int .i64 ds, .int .i64 di, .int .i64 dg, .int .i64 xm, .int .i64 xx, .int .i64 xy, .int .i64 xvx, .int .i64 xvy, .int .i64 xh, .int .i64 xp, .int .i64 xl] 36) = w2 at *
  have H2 := Lib.hid H1
  obtain ⟨⟨m0, m1, m2, m3, m4, m5, m6, m7, m8, m9, m10⟩, _⟩ := Bx.b11 (H1.held 1 rfl)
  obtain ⟨⟨k0, k1, k2, k3, k4, k5, k6, k7, k8, k9, k10, k11, k12⟩, _⟩ := Bx.b13 (H1.held 2 rfl)
  clear H1
  go_wp2_with (first
    | (go_at_call 47; refine (WX.out _).mono ?_; rintro e w4 ⟨rfl, b4⟩; have H4 := H2.out.below b4; clear WX H2 b4 k0 k1 k2 k3 k4 k5 k6 k7 k8 k9 k10 k11 k12 m0 m1 m2 m3 m4 m5 m6 m7 m8 m9 m10)
    | (go_at_call 46; refine (RX.out _ _ H4).mono ?_; rintro e w3 ⟨rfl, H3⟩; clear RX H4))
  go_ret
  exact ⟨rfl, H3⟩
set_option maxHeartbeats 16000000 in
set_option maxRecDepth 100000 in
theorem cone_drop {xm xx xy xvx xvy xh xp xl : Int} (ds di dg dm dx dy dvx dvy dh dp dl dm_ : Int) (h : Sep w (stC s t :: L) W) {n : Nat} (hl : Le t n) (hn : n < 100000) (hg : Bu.get t (ds, di, dg) = some ⟨ds, di, dg, xm, xx, xy, xvx, xvy, xh, xp, xl⟩) : Calls Try.prog 29 #[.pointer (some ⟨s, 0, none⟩), .agg #[.int .i64 4, .int .i64 ds, .int .i64 di, .int .i64 dg, .int .i64 dm, .int .i64 dx, .int .i64 dy, .int .i64 dvx, .int .i64 dvy, .int .i64 dh, .int .i64 dp, .int .i64 dl, .int .i64 dm_]] W fun e V => e = .returned (.int .i64 (bdo t ⟨4, ⟨ds, di, dg, dm, dx, dy, dvx, dvy, dh, dp, dl⟩, dm_⟩).2) ∧ Sep w (stC s (bdo t ⟨4, ⟨ds, di, dg, dm, dx, dy, dvx, dvy, dh, dp, dl⟩, dm_⟩).1 :: L) V := by
  rw [bdo_drop (t := t) (b := ⟨ds, di, dg, dm, dx, dy, dvx, dvy, dh, dp, dl⟩) (x := ⟨ds, di, dg, xm, xx, xy, xvx, xvy, xh, xp, xl⟩) (m := dm_) hg]
  have HB : Hid (Sep w (stC s t :: box W.heap.size (.cells #[.int .i64 4, .int .i64 ds, .int .i64 di, .int .i64 dg, .int .i64 dm, .int .i64 dx, .int .i64 dy, .int .i64 dvx, .int .i64 dvy, .int .i64 dh, .int .i64 dp, .int .i64 dl, .int .i64 dm_] DTY) :: L) (W.alloc (.cells #[.int .i64 4, .int .i64 ds, .int .i64 di, .int .i64 dg, .int .i64 dm, .int .i64 dx, .int .i64 dy, .int .i64 dvx, .int .i64 dvy, .int .i64 dh, .int .i64 dp, .int .i64 dl, .int .i64 dm_] DTY))) := Lib.hid ((sep_box h _).pull 1 rfl)
  have T1 := Lib.hid (Bx.b13 (at1 W (.cells #[.int .i64 4, .int .i64 ds, .int .i64 di, .int .i64 dg, .int .i64 dm, .int .i64 dx, .int .i64 dy, .int .i64 dvx, .int .i64 dvy, .int .i64 dh, .int .i64 dp, .int .i64 dl, .int .i64 dm_] DTY))).1
  have GX : Hid (∀ V, Sep w (stC s t :: box W.heap.size (.cells #[.int .i64 4, .int .i64 ds, .int .i64 di, .int .i64 dg, .int .i64 dm, .int .i64 dx, .int .i64 dy, .int .i64 dvx, .int .i64 dvy, .int .i64 dh, .int .i64 dp, .int .i64 dl, .int .i64 dm_] DTY) :: L) V → Calls Try.prog 25 #[.pointer (some ⟨s, 0, none⟩), .agg #[.int .i64 ds, .int .i64 di, .int .i64 dg]] V fun e V' => e = .returned (.tuple #[.agg #[.int .i64 ds, .int .i64 di, .int .i64 dg, .int .i64 xm, .int .i64 xx, .int .i64 xy, .int .i64 xvx, .int .i64 xvy, .int .i64 xh, .int .i64 xp, .int .i64 xl], .bool true]) ∧ Sep w (stC s t :: box V'.heap.size (.cells #[.int .i64 ds, .int .i64 di, .int .i64 dg, .int .i64 xm, .int .i64 xx, .int .i64 xy, .int .i64 xvx, .int .i64 xvy, .int .i64 xh, .int .i64 xp, .int .i64 xl] 36) :: box W.heap.size (.cells #[.int .i64 4, .int .i64 ds, .int .i64 di, .int .i64 dg, .int .i64 dm, .int .i64 dx, .int .i64 dy, .int .i64 dvx, .int .i64 dvy, .int .i64 dh, .int .i64 dp, .int .i64 dl, .int .i64 dm_] DTY) :: L) (V'.alloc (.cells #[.int .i64 ds, .int .i64 di, .int .i64 dg, .int .i64 xm, .int .i64 xx, .int .i64 xy, .int .i64 xvx, .int .i64 xvy, .int .i64 xh, .int .i64 xp, .int .i64 xl] 36))) := Lib.hid fun V hV => by
    have := hV.sget 0 rfl ds di dg
    rw [hg] at this
    exact this.mono fun e V' ⟨e1, e2⟩ => ⟨e1, (sep_box e2 _).pull 1 rfl⟩
  obtain ⟨y, hy⟩ : ∃ y, y = withoutB ⟨ds, di, dg, xm, xx, xy, xvx, xvy, xh, xp, xl⟩ dm_ := ⟨_, rfl⟩
  have WX : Hid (∀ V, Calls Try.prog 48 #[.agg #[.int .i64 ds, .int .i64 di, .int .i64 dg, .int .i64 xm, .int .i64 xx, .int .i64 xy, .int .i64 xvx, .int .i64 xvy, .int .i64 xh, .int .i64 xp, .int .i64 xl], .int .i64 dm_] V fun e V' => e = .returned y.val ∧ Below V.heap.size V V') := Lib.hid fun V => by rw [hy]; exact cwithout_any ⟨ds, di, dg, xm, xx, xy, xvx, xvy, xh, xp, xl⟩ dm_ V
  have RX : Hid (∀ V q2, Sep w (stC s t :: box q2 (.cells #[.int .i64 ds, .int .i64 di, .int .i64 dg, .int .i64 xm, .int .i64 xx, .int .i64 xy, .int .i64 xvx, .int .i64 xvy, .int .i64 xh, .int .i64 xp, .int .i64 xl] 36) :: box W.heap.size (.cells #[.int .i64 4, .int .i64 ds, .int .i64 di, .int .i64 dg, .int .i64 dm, .int .i64 dx, .int .i64 dy, .int .i64 dvx, .int .i64 dvy, .int .i64 dh, .int .i64 dp, .int .i64 dl, .int .i64 dm_] DTY) :: L) V → Calls Try.prog 46 #[.pointer (some ⟨s, 0, none⟩), y.val] V fun e V' => e = .returned (.int .i64 (Ar.write t y).2) ∧ Sep w (stC s (Ar.write t y).1 :: L) V') := Lib.hid fun V q2 hV => (hV.write y hl hn).mono fun e V' ⟨e1, e2⟩ => ⟨e1, ((((e2.pull 1 rfl).drop).pull 1 rfl).drop)⟩
  rw [← hy]
  generalize (Ar.write t y).1 = tt at *
  generalize (Ar.write t y).2 = rr at *
  clear hy
  obtain ⟨ys, yi, yg, ym, yx, yy, yvx, yvy, yh, yp, yl⟩ := y
  simp only [Bn.val] at WX RX
  clear h hg hl hn
  obtain ⟨k0, k1, k2, k3, k4, k5, k6, k7, k8, k9, k10, k11, k12⟩ := T1.out
  clear T1
  go_enter Try.func29, Try.ntmps29
  go_upto_region 1 with fail
  generalize W.alloc (.cells #[.int .i64 4, .int .i64 ds, .int .i64 di, .int .i64 dg, .int .i64 dm, .int .i64 dx, .int .i64 dy, .int .i64 dvx, .int .i64 dvy, .int .i64 dh, .int .i64 dp, .int .i64 dl, .int .i64 dm_] DTY) = w0 at *
  generalize W.heap.size = q at *
  go_upto_region 2 with (go_at_call 25; refine (GX.out _ HB.out).mono ?_; rintro e w1 ⟨rfl, H1⟩; clear GX HB k0 k1 k2 k3 k4 k5 k6 k7 k8 k9 k10 k11 k12)
  generalize w1.heap.size = q2 at *
  generalize w1.alloc (.cells #[.int .i64 ds, .int .i64 di, .int .i64 dg, .int .i64 xm, .int .i64 xx, .int .i64 xy, .int .i64 xvx, .int .i64 xvy, .int .i64 xh, .int .i64 xp, .int .i64 xl] 36) = w2 at *
  have H2 := Lib.hid H1
  obtain ⟨⟨m0, m1, m2, m3, m4, m5, m6, m7, m8, m9, m10⟩, _⟩ := Bx.b11 (H1.held 1 rfl)
  obtain ⟨⟨k0, k1, k2, k3, k4, k5, k6, k7, k8, k9, k10, k11, k12⟩, _⟩ := Bx.b13 (H1.held 2 rfl)
  clear H1
  go_wp2_with (first
    | (go_at_call 48; refine (WX.out _).mono ?_; rintro e w4 ⟨rfl, b4⟩; have H4 := H2.out.below b4; clear WX H2 b4 k0 k1 k2 k3 k4 k5 k6 k7 k8 k9 k10 k11 k12 m0 m1 m2 m3 m4 m5 m6 m7 m8 m9 m10)
    | (go_at_call 46; refine (RX.out _ _ H4).mono ?_; rintro e w3 ⟨rfl, H3⟩; clear RX H4))
  go_ret
  exact ⟨rfl, H3⟩
set_option maxHeartbeats 16000000 in
set_option maxRecDepth 100000 in
theorem cdo_put (ds di dg dm dx dy dvx dvy dh dp dl dm_ : Int) (h : Sep w (stC s t :: L) W) {n : Nat} (hl : Le t n) (hn : n < 100000) : Calls Try.prog 11 #[.pointer (some ⟨s, 0, none⟩), .agg #[.int .i64 1, .int .i64 ds, .int .i64 di, .int .i64 dg, .int .i64 dm, .int .i64 dx, .int .i64 dy, .int .i64 dvx, .int .i64 dvy, .int .i64 dh, .int .i64 dp, .int .i64 dl, .int .i64 dm_]] W fun e V => e = .returned (.int .i64 (bdo t ⟨1, ⟨ds, di, dg, dm, dx, dy, dvx, dvy, dh, dp, dl⟩, dm_⟩).2) ∧ Sep w (stC s (bdo t ⟨1, ⟨ds, di, dg, dm, dx, dy, dvx, dvy, dh, dp, dl⟩, dm_⟩).1 :: L) V := by
  rw [bdo_put]
  have HB : Hid (Sep w (stC s t :: box W.heap.size (.cells #[.int .i64 1, .int .i64 ds, .int .i64 di, .int .i64 dg, .int .i64 dm, .int .i64 dx, .int .i64 dy, .int .i64 dvx, .int .i64 dvy, .int .i64 dh, .int .i64 dp, .int .i64 dl, .int .i64 dm_] DTY) :: L) (W.alloc (.cells #[.int .i64 1, .int .i64 ds, .int .i64 di, .int .i64 dg, .int .i64 dm, .int .i64 dx, .int .i64 dy, .int .i64 dvx, .int .i64 dvy, .int .i64 dh, .int .i64 dp, .int .i64 dl, .int .i64 dm_] DTY))) := Lib.hid ((sep_box h _).pull 1 rfl)
  have T1 := Lib.hid (Bx.b13 (at1 W (.cells #[.int .i64 1, .int .i64 ds, .int .i64 di, .int .i64 dg, .int .i64 dm, .int .i64 dx, .int .i64 dy, .int .i64 dvx, .int .i64 dvy, .int .i64 dh, .int .i64 dp, .int .i64 dl, .int .i64 dm_] DTY))).1
  have RX : Hid (∀ V, Sep w (stC s t :: box W.heap.size (.cells #[.int .i64 1, .int .i64 ds, .int .i64 di, .int .i64 dg, .int .i64 dm, .int .i64 dx, .int .i64 dy, .int .i64 dvx, .int .i64 dvy, .int .i64 dh, .int .i64 dp, .int .i64 dl, .int .i64 dm_] DTY) :: L) V → Calls Try.prog 28 #[.pointer (some ⟨s, 0, none⟩), .agg #[.int .i64 ds, .int .i64 di, .int .i64 dg, .int .i64 dm, .int .i64 dx, .int .i64 dy, .int .i64 dvx, .int .i64 dvy, .int .i64 dh, .int .i64 dp, .int .i64 dl]] V fun e V' => e = .returned (.int .i64 (Ar.put t ⟨ds, di, dg, dm, dx, dy, dvx, dvy, dh, dp, dl⟩).2) ∧ Sep w (stC s (Ar.put t ⟨ds, di, dg, dm, dx, dy, dvx, dvy, dh, dp, dl⟩).1 :: L) V') := Lib.hid fun V hV => (hV.put ⟨ds, di, dg, dm, dx, dy, dvx, dvy, dh, dp, dl⟩ hl hn).mono fun e V' ⟨e1, e2⟩ => ⟨e1, ((e2.pull 1 rfl).drop)⟩
  generalize (Ar.put t ⟨ds, di, dg, dm, dx, dy, dvx, dvy, dh, dp, dl⟩).1 = tt at *
  generalize (Ar.put t ⟨ds, di, dg, dm, dx, dy, dvx, dvy, dh, dp, dl⟩).2 = rr at *
  clear h hl hn
  obtain ⟨k0, k1, k2, k3, k4, k5, k6, k7, k8, k9, k10, k11, k12⟩ := T1.out
  clear T1
  go_enter Try.func11, Try.ntmps11
  go_upto_region 1 with fail
  generalize W.alloc (.cells #[.int .i64 1, .int .i64 ds, .int .i64 di, .int .i64 dg, .int .i64 dm, .int .i64 dx, .int .i64 dy, .int .i64 dvx, .int .i64 dvy, .int .i64 dh, .int .i64 dp, .int .i64 dl, .int .i64 dm_] DTY) = w0 at *
  generalize W.heap.size = q at *
  go_wp2_with (go_at_call 28; refine (RX.out _ HB.out).mono ?_; rintro e w1 ⟨rfl, H1⟩; clear RX HB k0 k1 k2 k3 k4 k5 k6 k7 k8 k9 k10 k11 k12)
  go_ret
  exact ⟨rfl, H1⟩
set_option maxHeartbeats 16000000 in
set_option maxRecDepth 100000 in
theorem cdo_odd (k : Int) (h1 : k ≠ 1) (hk : ¬ (k = 2 ∨ k = 3 ∨ k = 4)) (ds di dg dm dx dy dvx dvy dh dp dl dm_ : Int) (h : Sep w (stC s t :: L) W) {n : Nat} (hl : Le t n) (hn : n < 100000) : Calls Try.prog 11 #[.pointer (some ⟨s, 0, none⟩), .agg #[.int .i64 k, .int .i64 ds, .int .i64 di, .int .i64 dg, .int .i64 dm, .int .i64 dx, .int .i64 dy, .int .i64 dvx, .int .i64 dvy, .int .i64 dh, .int .i64 dp, .int .i64 dl, .int .i64 dm_]] W fun e V => e = .returned (.int .i64 (bdo t ⟨k, ⟨ds, di, dg, dm, dx, dy, dvx, dvy, dh, dp, dl⟩, dm_⟩).2) ∧ Sep w (stC s (bdo t ⟨k, ⟨ds, di, dg, dm, dx, dy, dvx, dvy, dh, dp, dl⟩, dm_⟩).1 :: L) V := by
  rw [bdo_odd (d := ⟨k, ⟨ds, di, dg, dm, dx, dy, dvx, dvy, dh, dp, dl⟩, dm_⟩) h1 hk]
  have HB : Hid (Sep w (stC s t :: box W.heap.size (.cells #[.int .i64 k, .int .i64 ds, .int .i64 di, .int .i64 dg, .int .i64 dm, .int .i64 dx, .int .i64 dy, .int .i64 dvx, .int .i64 dvy, .int .i64 dh, .int .i64 dp, .int .i64 dl, .int .i64 dm_] DTY) :: L) (W.alloc (.cells #[.int .i64 k, .int .i64 ds, .int .i64 di, .int .i64 dg, .int .i64 dm, .int .i64 dx, .int .i64 dy, .int .i64 dvx, .int .i64 dvy, .int .i64 dh, .int .i64 dp, .int .i64 dl, .int .i64 dm_] DTY))) := Lib.hid ((sep_box h _).pull 1 rfl)
  have T1 := Lib.hid (Bx.b13 (at1 W (.cells #[.int .i64 k, .int .i64 ds, .int .i64 di, .int .i64 dg, .int .i64 dm, .int .i64 dx, .int .i64 dy, .int .i64 dvx, .int .i64 dvy, .int .i64 dh, .int .i64 dp, .int .i64 dl, .int .i64 dm_] DTY))).1
  have HE : Hid (Sep w (stC s t :: L) (W.alloc (.cells #[.int .i64 k, .int .i64 ds, .int .i64 di, .int .i64 dg, .int .i64 dm, .int .i64 dx, .int .i64 dy, .int .i64 dvx, .int .i64 dvy, .int .i64 dh, .int .i64 dp, .int .i64 dl, .int .i64 dm_] DTY))) := Lib.hid ((HB.out.pull 1 rfl).drop)
  have t1 : (k == 1) = false := by simpa using h1
  have t2 : (k == 2) = false := by simp; omega
  have t3 : (k == 3) = false := by simp; omega
  have t4 : (k == 4) = false := by simp; omega
  clear h hl hn h1 hk HB
  obtain ⟨k0, k1, k2, k3, k4, k5, k6, k7, k8, k9, k10, k11, k12⟩ := T1.out
  clear T1
  go_enter Try.func11, Try.ntmps11
  go_upto_region 1 with fail
  generalize W.alloc (.cells #[.int .i64 k, .int .i64 ds, .int .i64 di, .int .i64 dg, .int .i64 dm, .int .i64 dx, .int .i64 dy, .int .i64 dvx, .int .i64 dvy, .int .i64 dh, .int .i64 dp, .int .i64 dl, .int .i64 dm_] DTY) = w0 at *
  generalize W.heap.size = q at *
  go_wp2
  go_ret
  exact ⟨rfl, HE.out⟩
theorem one_any (k ds di dg dm dx dy dvx dvy dh dp dl dm_ : Int) (hk0 : k = 2 ∨ k = 3 ∨ k = 4) (h : Sep w (stC s t :: L) W) {n : Nat} (hl : Le t n) (hn : n < 100000) : Calls Try.prog 29 #[.pointer (some ⟨s, 0, none⟩), .agg #[.int .i64 k, .int .i64 ds, .int .i64 di, .int .i64 dg, .int .i64 dm, .int .i64 dx, .int .i64 dy, .int .i64 dvx, .int .i64 dvy, .int .i64 dh, .int .i64 dp, .int .i64 dl, .int .i64 dm_]] W fun e V => e = .returned (.int .i64 (bdo t ⟨k, ⟨ds, di, dg, dm, dx, dy, dvx, dvy, dh, dp, dl⟩, dm_⟩).2) ∧ Sep w (stC s (bdo t ⟨k, ⟨ds, di, dg, dm, dx, dy, dvx, dvy, dh, dp, dl⟩, dm_⟩).1 :: L) V := by
  by_cases hk : k = 2 ∨ k = 3 ∨ k = 4
  · cases hg : Bu.get t (ds, di, dg) with
    | none => exact cone_none k hk ds di dg dm dx dy dvx dvy dh dp dl dm_ h hl hn hg
    | some x =>
      obtain ⟨xs, xi, xg, xm, xx, xy, xvx, xvy, xh, xp, xl⟩ := x
      have hid := (mem_get hg).2
      simp only [Bn.id, Prod.mk.injEq] at hid
      obtain ⟨rfl, rfl, rfl⟩ := hid
      rcases hk with rfl | rfl | rfl
      · exact cone_rem _ _ _ dm dx dy dvx dvy dh dp dl dm_ h hl hn hg
      · exact cone_set _ _ _ dm dx dy dvx dvy dh dp dl dm_ h hl hn hg
      · exact cone_drop _ _ _ dm dx dy dvx dvy dh dp dl dm_ h hl hn hg
  · exact absurd hk0 hk
set_option maxHeartbeats 16000000 in
set_option maxRecDepth 100000 in
theorem cdo_one (k : Int) (hk : k = 2 ∨ k = 3 ∨ k = 4) (ds di dg dm dx dy dvx dvy dh dp dl dm_ : Int) (h : Sep w (stC s t :: L) W) {n : Nat} (hl : Le t n) (hn : n < 100000) : Calls Try.prog 11 #[.pointer (some ⟨s, 0, none⟩), .agg #[.int .i64 k, .int .i64 ds, .int .i64 di, .int .i64 dg, .int .i64 dm, .int .i64 dx, .int .i64 dy, .int .i64 dvx, .int .i64 dvy, .int .i64 dh, .int .i64 dp, .int .i64 dl, .int .i64 dm_]] W fun e V => e = .returned (.int .i64 (bdo t ⟨k, ⟨ds, di, dg, dm, dx, dy, dvx, dvy, dh, dp, dl⟩, dm_⟩).2) ∧ Sep w (stC s (bdo t ⟨k, ⟨ds, di, dg, dm, dx, dy, dvx, dvy, dh, dp, dl⟩, dm_⟩).1 :: L) V := by
  have HB : Hid (Sep w (stC s t :: box W.heap.size (.cells #[.int .i64 k, .int .i64 ds, .int .i64 di, .int .i64 dg, .int .i64 dm, .int .i64 dx, .int .i64 dy, .int .i64 dvx, .int .i64 dvy, .int .i64 dh, .int .i64 dp, .int .i64 dl, .int .i64 dm_] DTY) :: L) (W.alloc (.cells #[.int .i64 k, .int .i64 ds, .int .i64 di, .int .i64 dg, .int .i64 dm, .int .i64 dx, .int .i64 dy, .int .i64 dvx, .int .i64 dvy, .int .i64 dh, .int .i64 dp, .int .i64 dl, .int .i64 dm_] DTY))) := Lib.hid ((sep_box h _).pull 1 rfl)
  have T1 := Lib.hid (Bx.b13 (at1 W (.cells #[.int .i64 k, .int .i64 ds, .int .i64 di, .int .i64 dg, .int .i64 dm, .int .i64 dx, .int .i64 dy, .int .i64 dvx, .int .i64 dvy, .int .i64 dh, .int .i64 dp, .int .i64 dl, .int .i64 dm_] DTY))).1
  have RX : Hid (∀ V, Sep w (stC s t :: box W.heap.size (.cells #[.int .i64 k, .int .i64 ds, .int .i64 di, .int .i64 dg, .int .i64 dm, .int .i64 dx, .int .i64 dy, .int .i64 dvx, .int .i64 dvy, .int .i64 dh, .int .i64 dp, .int .i64 dl, .int .i64 dm_] DTY) :: L) V → Calls Try.prog 29 #[.pointer (some ⟨s, 0, none⟩), .agg #[.int .i64 k, .int .i64 ds, .int .i64 di, .int .i64 dg, .int .i64 dm, .int .i64 dx, .int .i64 dy, .int .i64 dvx, .int .i64 dvy, .int .i64 dh, .int .i64 dp, .int .i64 dl, .int .i64 dm_]] V fun e V' => e = .returned (.int .i64 (bdo t ⟨k, ⟨ds, di, dg, dm, dx, dy, dvx, dvy, dh, dp, dl⟩, dm_⟩).2) ∧ Sep w (stC s (bdo t ⟨k, ⟨ds, di, dg, dm, dx, dy, dvx, dvy, dh, dp, dl⟩, dm_⟩).1 :: L) V') := Lib.hid fun V hV => (one_any k ds di dg dm dx dy dvx dvy dh dp dl dm_ hk hV hl hn).mono fun e V' ⟨e1, e2⟩ => ⟨e1, ((e2.pull 1 rfl).drop)⟩
  generalize (bdo t ⟨k, ⟨ds, di, dg, dm, dx, dy, dvx, dvy, dh, dp, dl⟩, dm_⟩).1 = tt at *
  generalize (bdo t ⟨k, ⟨ds, di, dg, dm, dx, dy, dvx, dvy, dh, dp, dl⟩, dm_⟩).2 = rr at *
  have t1 : (k == 1) = false := by rcases hk with rfl | rfl | rfl <;> rfl
  clear h hl hn
  obtain ⟨k0, k1, k2, k3, k4, k5, k6, k7, k8, k9, k10, k11, k12⟩ := T1.out
  clear T1
  rcases hk with rfl | rfl | rfl
  · go_enter Try.func11, Try.ntmps11
    go_upto_region 1 with fail
    generalize W.alloc (.cells #[.int .i64 2, .int .i64 ds, .int .i64 di, .int .i64 dg, .int .i64 dm, .int .i64 dx, .int .i64 dy, .int .i64 dvx, .int .i64 dvy, .int .i64 dh, .int .i64 dp, .int .i64 dl, .int .i64 dm_] DTY) = w0 at *
    generalize W.heap.size = q at *
    go_wp2_with (go_at_call 29; refine (RX.out _ HB.out).mono ?_; rintro e w1 ⟨rfl, H1⟩; clear RX HB k0 k1 k2 k3 k4 k5 k6 k7 k8 k9 k10 k11 k12)
    go_ret
    exact ⟨rfl, H1⟩
  · go_enter Try.func11, Try.ntmps11
    go_upto_region 1 with fail
    generalize W.alloc (.cells #[.int .i64 3, .int .i64 ds, .int .i64 di, .int .i64 dg, .int .i64 dm, .int .i64 dx, .int .i64 dy, .int .i64 dvx, .int .i64 dvy, .int .i64 dh, .int .i64 dp, .int .i64 dl, .int .i64 dm_] DTY) = w0 at *
    generalize W.heap.size = q at *
    go_wp2_with (go_at_call 29; refine (RX.out _ HB.out).mono ?_; rintro e w1 ⟨rfl, H1⟩; clear RX HB k0 k1 k2 k3 k4 k5 k6 k7 k8 k9 k10 k11 k12)
    go_ret
    exact ⟨rfl, H1⟩
  · go_enter Try.func11, Try.ntmps11
    go_upto_region 1 with fail
    generalize W.alloc (.cells #[.int .i64 4, .int .i64 ds, .int .i64 di, .int .i64 dg, .int .i64 dm, .int .i64 dx, .int .i64 dy, .int .i64 dvx, .int .i64 dvy, .int .i64 dh, .int .i64 dp, .int .i64 dl, .int .i64 dm_] DTY) = w0 at *
    generalize W.heap.size = q at *
    go_wp2_with (go_at_call 29; refine (RX.out _ HB.out).mono ?_; rintro e w1 ⟨rfl, H1⟩; clear RX HB k0 k1 k2 k3 k4 k5 k6 k7 k8 k9 k10 k11 k12)
    go_ret
    exact ⟨rfl, H1⟩
/-- one deed -/
theorem Sep.do_ (h : Sep w (stC s t :: L) W) (d : De) {n : Nat} (hl : Le t n) (hn : n < 100000) : Calls Try.prog 11 #[.pointer (some ⟨s, 0, none⟩), d.val] W fun e V => e = .returned (.int .i64 (bdo t d).2) ∧ Sep w (stC s (bdo t d).1 :: L) V := by
  obtain ⟨k, ⟨ds, di, dg, dm, dx, dy, dvx, dvy, dh, dp, dl⟩, dm_⟩ := d
  by_cases h1 : k = 1
  · subst h1
    exact cdo_put ds di dg dm dx dy dvx dvy dh dp dl dm_ h hl hn
  · by_cases hk : k = 2 ∨ k = 3 ∨ k = 4
    · exact cdo_one k hk ds di dg dm dx dy dvx dvy dh dp dl dm_ h hl hn
    · exact cdo_odd k h1 hk ds di dg dm dx dy dvx dvy dh dp dl dm_ h hl hn
set_option maxHeartbeats 4000000 in
set_option maxRecDepth 100000 in
theorem do_nil (W : World) (d : De) : Calls Try.prog 11 #[.pointer none, d.val] W fun e V => e = .returned (.int .i64 1) ∧ Below W.heap.size W V := by
  obtain ⟨k, ⟨ds, di, dg, dm, dx, dy, dvx, dvy, dh, dp, dl⟩, dm_⟩ := d
  have HB := Lib.hid (bel1 W (.cells #[.int .i64 k, .int .i64 ds, .int .i64 di, .int .i64 dg, .int .i64 dm, .int .i64 dx, .int .i64 dy, .int .i64 dvx, .int .i64 dvy, .int .i64 dh, .int .i64 dp, .int .i64 dl, .int .i64 dm_] DTY))
  simp only [De.val]
  go_enter Try.func11, Try.ntmps11
  go_wp2
  go_ret
  exact ⟨rfl, HB.out⟩
end
end Go.Proofs.Yteollbioeamciaa
