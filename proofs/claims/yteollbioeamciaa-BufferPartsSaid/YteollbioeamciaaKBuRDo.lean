/- The document's Do. Written by wip/tools/genbudo.py. -/
import Derived.Test.YteollbioeamciaaKBuC
import Derived.Test.YteollbioeamciaaKPw
namespace Go.Proofs.Yteollbioeamciaa
open Go.RowKit Pz Ar Bu Sp
set_option linter.unusedVariables false
set_option linter.unusedSimpArgs false

section
variable {w W V : World} {L : List Piece} {s : Nat} {t : Tb}
set_option maxHeartbeats 16000000 in
set_option maxRecDepth 100000 in
theorem rone_none (k : Int) (hk : k = 2 ∨ k = 3 ∨ k = 4) (ds di dg dm dx dy dvx dvy dh dp dl dm_ : Int) (h : Sep w (stR s t :: L) W) (hf : Fit dm) (hfm : Fit dm_) {n : Nat} (hl : Le t n) (hn : n < 100000) (hg : Bu.get t (ds, di, dg) = none) : Calls Try.prog 12 #[.pointer (some ⟨s, 0, none⟩), .agg #[.int .i64 k, .int .i64 ds, .int .i64 di, .int .i64 dg, .int .i64 dm, .int .i64 dx, .int .i64 dy, .int .i64 dvx, .int .i64 dvy, .int .i64 dh, .int .i64 dp, .int .i64 dl, .int .i64 dm_]] W fun e V => e = .returned (.int .i64 (bdo t ⟨k, ⟨ds, di, dg, dm, dx, dy, dvx, dvy, dh, dp, dl⟩, dm_⟩).2) ∧ Sep w (stR s (bdo t ⟨k, ⟨ds, di, dg, dm, dx, dy, dvx, dvy, dh, dp, dl⟩, dm_⟩).1 :: L) V := by
  rw [bdo_none (d := ⟨k, ⟨ds, di, dg, dm, dx, dy, dvx, dvy, dh, dp, dl⟩, dm_⟩) hk hg]
  have HB : Hid (Sep w (stR s t :: box W.heap.size (.cells #[.int .i64 k, .int .i64 ds, .int .i64 di, .int .i64 dg, .int .i64 dm, .int .i64 dx, .int .i64 dy, .int .i64 dvx, .int .i64 dvy, .int .i64 dh, .int .i64 dp, .int .i64 dl, .int .i64 dm_] DTY) :: L) (W.alloc (.cells #[.int .i64 k, .int .i64 ds, .int .i64 di, .int .i64 dg, .int .i64 dm, .int .i64 dx, .int .i64 dy, .int .i64 dvx, .int .i64 dvy, .int .i64 dh, .int .i64 dp, .int .i64 dl, .int .i64 dm_] DTY))) := Lib.hid ((sep_box h _).pull 1 rfl)
  have T1 := Lib.hid (Bx.b13 (at1 W (.cells #[.int .i64 k, .int .i64 ds, .int .i64 di, .int .i64 dg, .int .i64 dm, .int .i64 dx, .int .i64 dy, .int .i64 dvx, .int .i64 dvy, .int .i64 dh, .int .i64 dp, .int .i64 dl, .int .i64 dm_] DTY))).1
  have GX : Hid (∀ V, Sep w (stR s t :: box W.heap.size (.cells #[.int .i64 k, .int .i64 ds, .int .i64 di, .int .i64 dg, .int .i64 dm, .int .i64 dx, .int .i64 dy, .int .i64 dvx, .int .i64 dvy, .int .i64 dh, .int .i64 dp, .int .i64 dl, .int .i64 dm_] DTY) :: L) V → Calls Try.prog 31 #[.pointer (some ⟨s, 0, none⟩), .agg #[.int .i64 ds, .int .i64 di, .int .i64 dg]] V fun e V' => (∃ i : Int, e = .returned (.tuple #[.agg #[.int .i64 0, .int .i64 0, .int .i64 0, .int .i64 0, .int .i64 0, .int .i64 0, .int .i64 0, .int .i64 0, .int .i64 0, .int .i64 0, .int .i64 0], .int .i64 i, .bool false])) ∧ Sep w (stR s t :: L) (V'.alloc (.cells #[.int .i64 0, .int .i64 0, .int .i64 0, .int .i64 0, .int .i64 0, .int .i64 0, .int .i64 0, .int .i64 0, .int .i64 0, .int .i64 0, .int .i64 0] 36))) := Lib.hid fun V hV => by
    have := hV.rget 0 rfl ds di dg
    rw [hg] at this
    exact this.mono fun e V' ⟨e1, e2⟩ => ⟨e1, ((e2.pull 1 rfl).drop).below (bel1 V' _)⟩
  have t1 : ¬ (k : Int) < 1 := by omega
  have t2 : ¬ (4 : Int) < k := by omega
  have t3 : (k == 1) = false := by rcases hk with rfl | rfl | rfl <;> rfl
  clear h hg hl hn hk hf hfm
  obtain ⟨k0, k1, k2, k3, k4, k5, k6, k7, k8, k9, k10, k11, k12⟩ := T1.out
  clear T1
  go_enter Try.func12, Try.ntmps12
  go_upto_region 1 with fail
  generalize W.alloc (.cells #[.int .i64 k, .int .i64 ds, .int .i64 di, .int .i64 dg, .int .i64 dm, .int .i64 dx, .int .i64 dy, .int .i64 dvx, .int .i64 dvy, .int .i64 dh, .int .i64 dp, .int .i64 dl, .int .i64 dm_] DTY) = w0 at *
  generalize W.heap.size = q at *
  go_wp2_with (go_at_call 31; refine (GX.out _ HB.out).mono ?_; rintro e w1 ⟨⟨xi_, rfl⟩, H1⟩; clear GX HB k0 k1 k2 k3 k4 k5 k6 k7 k8 k9 k10 k11 k12)
  go_ret
  exact ⟨rfl, H1⟩
set_option maxHeartbeats 16000000 in
set_option maxRecDepth 100000 in
theorem rone_rem {xm xx xy xvx xvy xh xp xl : Int} (ds di dg dm dx dy dvx dvy dh dp dl dm_ : Int) (h : Sep w (stR s t :: L) W) (hf : Fit dm) (hfm : Fit dm_) {n : Nat} (hl : Le t n) (hn : n < 100000) (hg : Bu.get t (ds, di, dg) = some ⟨ds, di, dg, xm, xx, xy, xvx, xvy, xh, xp, xl⟩) : Calls Try.prog 12 #[.pointer (some ⟨s, 0, none⟩), .agg #[.int .i64 2, .int .i64 ds, .int .i64 di, .int .i64 dg, .int .i64 dm, .int .i64 dx, .int .i64 dy, .int .i64 dvx, .int .i64 dvy, .int .i64 dh, .int .i64 dp, .int .i64 dl, .int .i64 dm_]] W fun e V => e = .returned (.int .i64 (bdo t ⟨2, ⟨ds, di, dg, dm, dx, dy, dvx, dvy, dh, dp, dl⟩, dm_⟩).2) ∧ Sep w (stR s (bdo t ⟨2, ⟨ds, di, dg, dm, dx, dy, dvx, dvy, dh, dp, dl⟩, dm_⟩).1 :: L) V := by
  rw [bdo_rem (t := t) (b := ⟨ds, di, dg, dm, dx, dy, dvx, dvy, dh, dp, dl⟩) (x := ⟨ds, di, dg, xm, xx, xy, xvx, xvy, xh, xp, xl⟩) (m := dm_) hg]
  have HB : Hid (Sep w (stR s t :: box W.heap.size (.cells #[.int .i64 2, .int .i64 ds, .int .i64 di, .int .i64 dg, .int .i64 dm, .int .i64 dx, .int .i64 dy, .int .i64 dvx, .int .i64 dvy, .int .i64 dh, .int .i64 dp, .int .i64 dl, .int .i64 dm_] DTY) :: L) (W.alloc (.cells #[.int .i64 2, .int .i64 ds, .int .i64 di, .int .i64 dg, .int .i64 dm, .int .i64 dx, .int .i64 dy, .int .i64 dvx, .int .i64 dvy, .int .i64 dh, .int .i64 dp, .int .i64 dl, .int .i64 dm_] DTY))) := Lib.hid ((sep_box h _).pull 1 rfl)
  have T1 := Lib.hid (Bx.b13 (at1 W (.cells #[.int .i64 2, .int .i64 ds, .int .i64 di, .int .i64 dg, .int .i64 dm, .int .i64 dx, .int .i64 dy, .int .i64 dvx, .int .i64 dvy, .int .i64 dh, .int .i64 dp, .int .i64 dl, .int .i64 dm_] DTY))).1
  have GX : Hid (∀ V, Sep w (stR s t :: box W.heap.size (.cells #[.int .i64 2, .int .i64 ds, .int .i64 di, .int .i64 dg, .int .i64 dm, .int .i64 dx, .int .i64 dy, .int .i64 dvx, .int .i64 dvy, .int .i64 dh, .int .i64 dp, .int .i64 dl, .int .i64 dm_] DTY) :: L) V → Calls Try.prog 31 #[.pointer (some ⟨s, 0, none⟩), .agg #[.int .i64 ds, .int .i64 di, .int .i64 dg]] V fun e V' => (∃ i : Int, e = .returned (.tuple #[.agg #[.int .i64 ds, .int .i64 di, .int .i64 dg, .int .i64 xm, .int .i64 xx, .int .i64 xy, .int .i64 xvx, .int .i64 xvy, .int .i64 xh, .int .i64 xp, .int .i64 xl], .int .i64 i, .bool true])) ∧ Sep w (stR s t :: box V'.heap.size (.cells #[.int .i64 ds, .int .i64 di, .int .i64 dg, .int .i64 xm, .int .i64 xx, .int .i64 xy, .int .i64 xvx, .int .i64 xvy, .int .i64 xh, .int .i64 xp, .int .i64 xl] 36) :: box W.heap.size (.cells #[.int .i64 2, .int .i64 ds, .int .i64 di, .int .i64 dg, .int .i64 dm, .int .i64 dx, .int .i64 dy, .int .i64 dvx, .int .i64 dvy, .int .i64 dh, .int .i64 dp, .int .i64 dl, .int .i64 dm_] DTY) :: L) (V'.alloc (.cells #[.int .i64 ds, .int .i64 di, .int .i64 dg, .int .i64 xm, .int .i64 xx, .int .i64 xy, .int .i64 xvx, .int .i64 xvy, .int .i64 xh, .int .i64 xp, .int .i64 xl] 36))) := Lib.hid fun V hV => by
    have := hV.rget 0 rfl ds di dg
    rw [hg] at this
    exact this.mono fun e V' ⟨e1, e2⟩ => ⟨e1, (sep_box e2 _).pull 1 rfl⟩
  have RX : Hid (∀ V q2, Sep w (stR s t :: box q2 (.cells #[.int .i64 ds, .int .i64 di, .int .i64 dg, .int .i64 xm, .int .i64 xx, .int .i64 xy, .int .i64 xvx, .int .i64 xvy, .int .i64 xh, .int .i64 xp, .int .i64 xl] 36) :: box W.heap.size (.cells #[.int .i64 2, .int .i64 ds, .int .i64 di, .int .i64 dg, .int .i64 dm, .int .i64 dx, .int .i64 dy, .int .i64 dvx, .int .i64 dvy, .int .i64 dh, .int .i64 dp, .int .i64 dl, .int .i64 dm_] DTY) :: L) V → Calls Try.prog 32 #[.pointer (some ⟨s, 0, none⟩), .agg #[.int .i64 ds, .int .i64 di, .int .i64 dg]] V fun e V' => (∃ b, e = .returned (.bool b)) ∧ Sep w (stR s (Ar.remove t (ds, di, dg)).1 :: L) V') := Lib.hid fun V q2 hV => (hV.rremove ds di dg).mono fun e V' ⟨e1, e2⟩ => ⟨⟨_, e1⟩, ((((e2.pull 1 rfl).drop).pull 1 rfl).drop)⟩
  clear h hg hl hn hf hfm
  obtain ⟨k0, k1, k2, k3, k4, k5, k6, k7, k8, k9, k10, k11, k12⟩ := T1.out
  clear T1
  go_enter Try.func12, Try.ntmps12
  go_upto_region 1 with fail
  generalize W.alloc (.cells #[.int .i64 2, .int .i64 ds, .int .i64 di, .int .i64 dg, .int .i64 dm, .int .i64 dx, .int .i64 dy, .int .i64 dvx, .int .i64 dvy, .int .i64 dh, .int .i64 dp, .int .i64 dl, .int .i64 dm_] DTY) = w0 at *
  generalize W.heap.size = q at *
  go_upto_region 6 with (go_at_call 31; refine (GX.out _ HB.out).mono ?_; rintro e w1 ⟨⟨xi_, rfl⟩, H1⟩; clear GX HB k0 k1 k2 k3 k4 k5 k6 k7 k8 k9 k10 k11 k12)
  generalize w1.heap.size = q2 at *
  generalize w1.alloc (.cells #[.int .i64 ds, .int .i64 di, .int .i64 dg, .int .i64 xm, .int .i64 xx, .int .i64 xy, .int .i64 xvx, .int .i64 xvy, .int .i64 xh, .int .i64 xp, .int .i64 xl] 36) = w2 at *
  have H2 := Lib.hid H1
  obtain ⟨⟨m0, m1, m2, m3, m4, m5, m6, m7, m8, m9, m10⟩, _⟩ := Bx.b11 (H1.held 1 rfl)
  obtain ⟨⟨k0, k1, k2, k3, k4, k5, k6, k7, k8, k9, k10, k11, k12⟩, _⟩ := Bx.b13 (H1.held 2 rfl)
  clear H1
  go_wp2_with (go_at_call 32; refine (RX.out _ _ H2.out).mono ?_; rintro e w3 ⟨⟨bb, rfl⟩, H3⟩; clear RX H2 k0 k1 k2 k3 k4 k5 k6 k7 k8 k9 k10 k11 k12 m0 m1 m2 m3 m4 m5 m6 m7 m8 m9 m10)
  go_ret
  exact ⟨rfl, H3⟩
set_option maxHeartbeats 16000000 in
set_option maxRecDepth 100000 in
theorem rone_set {xm xx xy xvx xvy xh xp xl : Int} (ds di dg dm dx dy dvx dvy dh dp dl dm_ : Int) (h : Sep w (stR s t :: L) W) (hf : Fit dm) (hfm : Fit dm_) {n : Nat} (hl : Le t n) (hn : n < 100000) (hg : Bu.get t (ds, di, dg) = some ⟨ds, di, dg, xm, xx, xy, xvx, xvy, xh, xp, xl⟩) : Calls Try.prog 12 #[.pointer (some ⟨s, 0, none⟩), .agg #[.int .i64 3, .int .i64 ds, .int .i64 di, .int .i64 dg, .int .i64 dm, .int .i64 dx, .int .i64 dy, .int .i64 dvx, .int .i64 dvy, .int .i64 dh, .int .i64 dp, .int .i64 dl, .int .i64 dm_]] W fun e V => e = .returned (.int .i64 (bdo t ⟨3, ⟨ds, di, dg, dm, dx, dy, dvx, dvy, dh, dp, dl⟩, dm_⟩).2) ∧ Sep w (stR s (bdo t ⟨3, ⟨ds, di, dg, dm, dx, dy, dvx, dvy, dh, dp, dl⟩, dm_⟩).1 :: L) V := by
  rw [bdo_set (t := t) (b := ⟨ds, di, dg, dm, dx, dy, dvx, dvy, dh, dp, dl⟩) (x := ⟨ds, di, dg, xm, xx, xy, xvx, xvy, xh, xp, xl⟩) (m := dm_) hg]
  have HB : Hid (Sep w (stR s t :: box W.heap.size (.cells #[.int .i64 3, .int .i64 ds, .int .i64 di, .int .i64 dg, .int .i64 dm, .int .i64 dx, .int .i64 dy, .int .i64 dvx, .int .i64 dvy, .int .i64 dh, .int .i64 dp, .int .i64 dl, .int .i64 dm_] DTY) :: L) (W.alloc (.cells #[.int .i64 3, .int .i64 ds, .int .i64 di, .int .i64 dg, .int .i64 dm, .int .i64 dx, .int .i64 dy, .int .i64 dvx, .int .i64 dvy, .int .i64 dh, .int .i64 dp, .int .i64 dl, .int .i64 dm_] DTY))) := Lib.hid ((sep_box h _).pull 1 rfl)
  have T1 := Lib.hid (Bx.b13 (at1 W (.cells #[.int .i64 3, .int .i64 ds, .int .i64 di, .int .i64 dg, .int .i64 dm, .int .i64 dx, .int .i64 dy, .int .i64 dvx, .int .i64 dvy, .int .i64 dh, .int .i64 dp, .int .i64 dl, .int .i64 dm_] DTY))).1
  have GX : Hid (∀ V, Sep w (stR s t :: box W.heap.size (.cells #[.int .i64 3, .int .i64 ds, .int .i64 di, .int .i64 dg, .int .i64 dm, .int .i64 dx, .int .i64 dy, .int .i64 dvx, .int .i64 dvy, .int .i64 dh, .int .i64 dp, .int .i64 dl, .int .i64 dm_] DTY) :: L) V → Calls Try.prog 31 #[.pointer (some ⟨s, 0, none⟩), .agg #[.int .i64 ds, .int .i64 di, .int .i64 dg]] V fun e V' => (∃ i : Int, e = .returned (.tuple #[.agg #[.int .i64 ds, .int .i64 di, .int .i64 dg, .int .i64 xm, .int .i64 xx, .int .i64 xy, .int .i64 xvx, .int .i64 xvy, .int .i64 xh, .int .i64 xp, .int .i64 xl], .int .i64 i, .bool true])) ∧ Sep w (stR s t :: box V'.heap.size (.cells #[.int .i64 ds, .int .i64 di, .int .i64 dg, .int .i64 xm, .int .i64 xx, .int .i64 xy, .int .i64 xvx, .int .i64 xvy, .int .i64 xh, .int .i64 xp, .int .i64 xl] 36) :: box W.heap.size (.cells #[.int .i64 3, .int .i64 ds, .int .i64 di, .int .i64 dg, .int .i64 dm, .int .i64 dx, .int .i64 dy, .int .i64 dvx, .int .i64 dvy, .int .i64 dh, .int .i64 dp, .int .i64 dl, .int .i64 dm_] DTY) :: L) (V'.alloc (.cells #[.int .i64 ds, .int .i64 di, .int .i64 dg, .int .i64 xm, .int .i64 xx, .int .i64 xy, .int .i64 xvx, .int .i64 xvy, .int .i64 xh, .int .i64 xp, .int .i64 xl] 36))) := Lib.hid fun V hV => by
    have := hV.rget 0 rfl ds di dg
    rw [hg] at this
    exact this.mono fun e V' ⟨e1, e2⟩ => ⟨e1, (sep_box e2 _).pull 1 rfl⟩
  obtain ⟨y, hy⟩ : ∃ y, y = withB ⟨ds, di, dg, xm, xx, xy, xvx, xvy, xh, xp, xl⟩ ⟨ds, di, dg, dm, dx, dy, dvx, dvy, dh, dp, dl⟩ := ⟨_, rfl⟩
  have WX : Hid (∀ V, Calls Try.prog 26 #[.agg #[.int .i64 ds, .int .i64 di, .int .i64 dg, .int .i64 xm, .int .i64 xx, .int .i64 xy, .int .i64 xvx, .int .i64 xvy, .int .i64 xh, .int .i64 xp, .int .i64 xl], .agg #[.int .i64 ds, .int .i64 di, .int .i64 dg, .int .i64 dm, .int .i64 dx, .int .i64 dy, .int .i64 dvx, .int .i64 dvy, .int .i64 dh, .int .i64 dp, .int .i64 dl]] V fun e V' => e = .returned y.val ∧ Below V.heap.size V V') := Lib.hid fun V => by rw [hy]; exact rwith_any ⟨ds, di, dg, xm, xx, xy, xvx, xvy, xh, xp, xl⟩ ⟨ds, di, dg, dm, dx, dy, dvx, dvy, dh, dp, dl⟩ hf V
  have RX : Hid (∀ V q2, Sep w (stR s t :: box q2 (.cells #[.int .i64 ds, .int .i64 di, .int .i64 dg, .int .i64 xm, .int .i64 xx, .int .i64 xy, .int .i64 xvx, .int .i64 xvy, .int .i64 xh, .int .i64 xp, .int .i64 xl] 36) :: box W.heap.size (.cells #[.int .i64 3, .int .i64 ds, .int .i64 di, .int .i64 dg, .int .i64 dm, .int .i64 dx, .int .i64 dy, .int .i64 dvx, .int .i64 dvy, .int .i64 dh, .int .i64 dp, .int .i64 dl, .int .i64 dm_] DTY) :: L) V → Calls Try.prog 33 #[.pointer (some ⟨s, 0, none⟩), y.val] V fun e V' => e = .returned (.int .i64 (Ar.write t y).2) ∧ Sep w (stR s (Ar.write t y).1 :: L) V') := Lib.hid fun V q2 hV => (hV.rwrite y (by rw [hy]; exact fit_or _ _) hl hn).mono fun e V' ⟨e1, e2⟩ => ⟨e1, ((((e2.pull 1 rfl).drop).pull 1 rfl).drop)⟩
  rw [← hy]
  generalize (Ar.write t y).1 = tt at *
  generalize (Ar.write t y).2 = rr at *
  clear hy
  obtain ⟨ys, yi, yg, ym, yx, yy, yvx, yvy, yh, yp, yl⟩ := y
  simp only [Bn.val] at WX RX
  clear h hg hl hn hf hfm
  obtain ⟨k0, k1, k2, k3, k4, k5, k6, k7, k8, k9, k10, k11, k12⟩ := T1.out
  clear T1
  go_enter Try.func12, Try.ntmps12
  go_upto_region 1 with fail
  generalize W.alloc (.cells #[.int .i64 3, .int .i64 ds, .int .i64 di, .int .i64 dg, .int .i64 dm, .int .i64 dx, .int .i64 dy, .int .i64 dvx, .int .i64 dvy, .int .i64 dh, .int .i64 dp, .int .i64 dl, .int .i64 dm_] DTY) = w0 at *
  generalize W.heap.size = q at *
  go_upto_region 6 with (go_at_call 31; refine (GX.out _ HB.out).mono ?_; rintro e w1 ⟨⟨xi_, rfl⟩, H1⟩; clear GX HB k0 k1 k2 k3 k4 k5 k6 k7 k8 k9 k10 k11 k12)
  generalize w1.heap.size = q2 at *
  generalize w1.alloc (.cells #[.int .i64 ds, .int .i64 di, .int .i64 dg, .int .i64 xm, .int .i64 xx, .int .i64 xy, .int .i64 xvx, .int .i64 xvy, .int .i64 xh, .int .i64 xp, .int .i64 xl] 36) = w2 at *
  have H2 := Lib.hid H1
  obtain ⟨⟨m0, m1, m2, m3, m4, m5, m6, m7, m8, m9, m10⟩, _⟩ := Bx.b11 (H1.held 1 rfl)
  obtain ⟨⟨k0, k1, k2, k3, k4, k5, k6, k7, k8, k9, k10, k11, k12⟩, _⟩ := Bx.b13 (H1.held 2 rfl)
  clear H1
  go_wp2_with (first
    | (go_at_call 26; refine (WX.out _).mono ?_; rintro e w4 ⟨rfl, b4⟩; have H4 := H2.out.below b4; clear WX H2 b4 k0 k1 k2 k3 k4 k5 k6 k7 k8 k9 k10 k11 k12 m0 m1 m2 m3 m4 m5 m6 m7 m8 m9 m10)
    | (go_at_call 33; refine (RX.out _ _ H4).mono ?_; rintro e w3 ⟨rfl, H3⟩; clear RX H4))
  go_ret
  exact ⟨rfl, H3⟩
set_option maxHeartbeats 16000000 in
set_option maxRecDepth 100000 in
theorem rone_drop {xm xx xy xvx xvy xh xp xl : Int} (ds di dg dm dx dy dvx dvy dh dp dl dm_ : Int) (h : Sep w (stR s t :: L) W) (hf : Fit dm) (hfm : Fit dm_) {n : Nat} (hl : Le t n) (hn : n < 100000) (hg : Bu.get t (ds, di, dg) = some ⟨ds, di, dg, xm, xx, xy, xvx, xvy, xh, xp, xl⟩) : Calls Try.prog 12 #[.pointer (some ⟨s, 0, none⟩), .agg #[.int .i64 4, .int .i64 ds, .int .i64 di, .int .i64 dg, .int .i64 dm, .int .i64 dx, .int .i64 dy, .int .i64 dvx, .int .i64 dvy, .int .i64 dh, .int .i64 dp, .int .i64 dl, .int .i64 dm_]] W fun e V => e = .returned (.int .i64 (bdo t ⟨4, ⟨ds, di, dg, dm, dx, dy, dvx, dvy, dh, dp, dl⟩, dm_⟩).2) ∧ Sep w (stR s (bdo t ⟨4, ⟨ds, di, dg, dm, dx, dy, dvx, dvy, dh, dp, dl⟩, dm_⟩).1 :: L) V := by
  rw [bdo_drop (t := t) (b := ⟨ds, di, dg, dm, dx, dy, dvx, dvy, dh, dp, dl⟩) (x := ⟨ds, di, dg, xm, xx, xy, xvx, xvy, xh, xp, xl⟩) (m := dm_) hg]
  have HB : Hid (Sep w (stR s t :: box W.heap.size (.cells #[.int .i64 4, .int .i64 ds, .int .i64 di, .int .i64 dg, .int .i64 dm, .int .i64 dx, .int .i64 dy, .int .i64 dvx, .int .i64 dvy, .int .i64 dh, .int .i64 dp, .int .i64 dl, .int .i64 dm_] DTY) :: L) (W.alloc (.cells #[.int .i64 4, .int .i64 ds, .int .i64 di, .int .i64 dg, .int .i64 dm, .int .i64 dx, .int .i64 dy, .int .i64 dvx, .int .i64 dvy, .int .i64 dh, .int .i64 dp, .int .i64 dl, .int .i64 dm_] DTY))) := Lib.hid ((sep_box h _).pull 1 rfl)
  have T1 := Lib.hid (Bx.b13 (at1 W (.cells #[.int .i64 4, .int .i64 ds, .int .i64 di, .int .i64 dg, .int .i64 dm, .int .i64 dx, .int .i64 dy, .int .i64 dvx, .int .i64 dvy, .int .i64 dh, .int .i64 dp, .int .i64 dl, .int .i64 dm_] DTY))).1
  have GX : Hid (∀ V, Sep w (stR s t :: box W.heap.size (.cells #[.int .i64 4, .int .i64 ds, .int .i64 di, .int .i64 dg, .int .i64 dm, .int .i64 dx, .int .i64 dy, .int .i64 dvx, .int .i64 dvy, .int .i64 dh, .int .i64 dp, .int .i64 dl, .int .i64 dm_] DTY) :: L) V → Calls Try.prog 31 #[.pointer (some ⟨s, 0, none⟩), .agg #[.int .i64 ds, .int .i64 di, .int .i64 dg]] V fun e V' => (∃ i : Int, e = .returned (.tuple #[.agg #[.int .i64 ds, .int .i64 di, .int .i64 dg, .int .i64 xm, .int .i64 xx, .int .i64 xy, .int .i64 xvx, .int .i64 xvy, .int .i64 xh, .int .i64 xp, .int .i64 xl], .int .i64 i, .bool true])) ∧ Sep w (stR s t :: box V'.heap.size (.cells #[.int .i64 ds, .int .i64 di, .int .i64 dg, .int .i64 xm, .int .i64 xx, .int .i64 xy, .int .i64 xvx, .int .i64 xvy, .int .i64 xh, .int .i64 xp, .int .i64 xl] 36) :: box W.heap.size (.cells #[.int .i64 4, .int .i64 ds, .int .i64 di, .int .i64 dg, .int .i64 dm, .int .i64 dx, .int .i64 dy, .int .i64 dvx, .int .i64 dvy, .int .i64 dh, .int .i64 dp, .int .i64 dl, .int .i64 dm_] DTY) :: L) (V'.alloc (.cells #[.int .i64 ds, .int .i64 di, .int .i64 dg, .int .i64 xm, .int .i64 xx, .int .i64 xy, .int .i64 xvx, .int .i64 xvy, .int .i64 xh, .int .i64 xp, .int .i64 xl] 36))) := Lib.hid fun V hV => by
    have := hV.rget 0 rfl ds di dg
    rw [hg] at this
    exact this.mono fun e V' ⟨e1, e2⟩ => ⟨e1, (sep_box e2 _).pull 1 rfl⟩
  obtain ⟨y, hy⟩ : ∃ y, y = withoutB ⟨ds, di, dg, xm, xx, xy, xvx, xvy, xh, xp, xl⟩ dm_ := ⟨_, rfl⟩
  have WX : Hid (∀ V, Calls Try.prog 27 #[.agg #[.int .i64 ds, .int .i64 di, .int .i64 dg, .int .i64 xm, .int .i64 xx, .int .i64 xy, .int .i64 xvx, .int .i64 xvy, .int .i64 xh, .int .i64 xp, .int .i64 xl], .int .i64 dm_] V fun e V' => e = .returned y.val ∧ Below V.heap.size V V') := Lib.hid fun V => by rw [hy]; exact rwithout_any ⟨ds, di, dg, xm, xx, xy, xvx, xvy, xh, xp, xl⟩ dm_ hfm V
  have RX : Hid (∀ V q2, Sep w (stR s t :: box q2 (.cells #[.int .i64 ds, .int .i64 di, .int .i64 dg, .int .i64 xm, .int .i64 xx, .int .i64 xy, .int .i64 xvx, .int .i64 xvy, .int .i64 xh, .int .i64 xp, .int .i64 xl] 36) :: box W.heap.size (.cells #[.int .i64 4, .int .i64 ds, .int .i64 di, .int .i64 dg, .int .i64 dm, .int .i64 dx, .int .i64 dy, .int .i64 dvx, .int .i64 dvy, .int .i64 dh, .int .i64 dp, .int .i64 dl, .int .i64 dm_] DTY) :: L) V → Calls Try.prog 33 #[.pointer (some ⟨s, 0, none⟩), y.val] V fun e V' => e = .returned (.int .i64 (Ar.write t y).2) ∧ Sep w (stR s (Ar.write t y).1 :: L) V') := Lib.hid fun V q2 hV => (hV.rwrite y (by rw [hy]; exact fit_andNot _ _) hl hn).mono fun e V' ⟨e1, e2⟩ => ⟨e1, ((((e2.pull 1 rfl).drop).pull 1 rfl).drop)⟩
  rw [← hy]
  generalize (Ar.write t y).1 = tt at *
  generalize (Ar.write t y).2 = rr at *
  clear hy
  obtain ⟨ys, yi, yg, ym, yx, yy, yvx, yvy, yh, yp, yl⟩ := y
  simp only [Bn.val] at WX RX
  clear h hg hl hn hf hfm
  obtain ⟨k0, k1, k2, k3, k4, k5, k6, k7, k8, k9, k10, k11, k12⟩ := T1.out
  clear T1
  go_enter Try.func12, Try.ntmps12
  go_upto_region 1 with fail
  generalize W.alloc (.cells #[.int .i64 4, .int .i64 ds, .int .i64 di, .int .i64 dg, .int .i64 dm, .int .i64 dx, .int .i64 dy, .int .i64 dvx, .int .i64 dvy, .int .i64 dh, .int .i64 dp, .int .i64 dl, .int .i64 dm_] DTY) = w0 at *
  generalize W.heap.size = q at *
  go_upto_region 6 with (go_at_call 31; refine (GX.out _ HB.out).mono ?_; rintro e w1 ⟨⟨xi_, rfl⟩, H1⟩; clear GX HB k0 k1 k2 k3 k4 k5 k6 k7 k8 k9 k10 k11 k12)
  generalize w1.heap.size = q2 at *
  generalize w1.alloc (.cells #[.int .i64 ds, .int .i64 di, .int .i64 dg, .int .i64 xm, .int .i64 xx, .int .i64 xy, .int .i64 xvx, .int .i64 xvy, .int .i64 xh, .int .i64 xp, .int .i64 xl] 36) = w2 at *
  have H2 := Lib.hid H1
  obtain ⟨⟨m0, m1, m2, m3, m4, m5, m6, m7, m8, m9, m10⟩, _⟩ := Bx.b11 (H1.held 1 rfl)
  obtain ⟨⟨k0, k1, k2, k3, k4, k5, k6, k7, k8, k9, k10, k11, k12⟩, _⟩ := Bx.b13 (H1.held 2 rfl)
  clear H1
  go_wp2_with (first
    | (go_at_call 27; refine (WX.out _).mono ?_; rintro e w4 ⟨rfl, b4⟩; have H4 := H2.out.below b4; clear WX H2 b4 k0 k1 k2 k3 k4 k5 k6 k7 k8 k9 k10 k11 k12 m0 m1 m2 m3 m4 m5 m6 m7 m8 m9 m10)
    | (go_at_call 33; refine (RX.out _ _ H4).mono ?_; rintro e w3 ⟨rfl, H3⟩; clear RX H4))
  go_ret
  exact ⟨rfl, H3⟩
set_option maxHeartbeats 16000000 in
set_option maxRecDepth 100000 in
theorem rdo_put (ds di dg dm dx dy dvx dvy dh dp dl dm_ : Int) (h : Sep w (stR s t :: L) W) (hf : Fit dm) (hfm : Fit dm_) {n : Nat} (hl : Le t n) (hn : n < 100000) : Calls Try.prog 12 #[.pointer (some ⟨s, 0, none⟩), .agg #[.int .i64 1, .int .i64 ds, .int .i64 di, .int .i64 dg, .int .i64 dm, .int .i64 dx, .int .i64 dy, .int .i64 dvx, .int .i64 dvy, .int .i64 dh, .int .i64 dp, .int .i64 dl, .int .i64 dm_]] W fun e V => e = .returned (.int .i64 (bdo t ⟨1, ⟨ds, di, dg, dm, dx, dy, dvx, dvy, dh, dp, dl⟩, dm_⟩).2) ∧ Sep w (stR s (bdo t ⟨1, ⟨ds, di, dg, dm, dx, dy, dvx, dvy, dh, dp, dl⟩, dm_⟩).1 :: L) V := by
  rw [bdo_put]
  have HB : Hid (Sep w (stR s t :: box W.heap.size (.cells #[.int .i64 1, .int .i64 ds, .int .i64 di, .int .i64 dg, .int .i64 dm, .int .i64 dx, .int .i64 dy, .int .i64 dvx, .int .i64 dvy, .int .i64 dh, .int .i64 dp, .int .i64 dl, .int .i64 dm_] DTY) :: L) (W.alloc (.cells #[.int .i64 1, .int .i64 ds, .int .i64 di, .int .i64 dg, .int .i64 dm, .int .i64 dx, .int .i64 dy, .int .i64 dvx, .int .i64 dvy, .int .i64 dh, .int .i64 dp, .int .i64 dl, .int .i64 dm_] DTY))) := Lib.hid ((sep_box h _).pull 1 rfl)
  have T1 := Lib.hid (Bx.b13 (at1 W (.cells #[.int .i64 1, .int .i64 ds, .int .i64 di, .int .i64 dg, .int .i64 dm, .int .i64 dx, .int .i64 dy, .int .i64 dvx, .int .i64 dvy, .int .i64 dh, .int .i64 dp, .int .i64 dl, .int .i64 dm_] DTY))).1
  have RX : Hid (∀ V, Sep w (stR s t :: box W.heap.size (.cells #[.int .i64 1, .int .i64 ds, .int .i64 di, .int .i64 dg, .int .i64 dm, .int .i64 dx, .int .i64 dy, .int .i64 dvx, .int .i64 dvy, .int .i64 dh, .int .i64 dp, .int .i64 dl, .int .i64 dm_] DTY) :: L) V → Calls Try.prog 30 #[.pointer (some ⟨s, 0, none⟩), .agg #[.int .i64 ds, .int .i64 di, .int .i64 dg, .int .i64 dm, .int .i64 dx, .int .i64 dy, .int .i64 dvx, .int .i64 dvy, .int .i64 dh, .int .i64 dp, .int .i64 dl]] V fun e V' => e = .returned (.int .i64 (Ar.put t ⟨ds, di, dg, dm, dx, dy, dvx, dvy, dh, dp, dl⟩).2) ∧ Sep w (stR s (Ar.put t ⟨ds, di, dg, dm, dx, dy, dvx, dvy, dh, dp, dl⟩).1 :: L) V') := Lib.hid fun V hV => (hV.rput ⟨ds, di, dg, dm, dx, dy, dvx, dvy, dh, dp, dl⟩ hf hl hn).mono fun e V' ⟨e1, e2⟩ => ⟨e1, ((e2.pull 1 rfl).drop)⟩
  generalize (Ar.put t ⟨ds, di, dg, dm, dx, dy, dvx, dvy, dh, dp, dl⟩).1 = tt at *
  generalize (Ar.put t ⟨ds, di, dg, dm, dx, dy, dvx, dvy, dh, dp, dl⟩).2 = rr at *
  clear h hl hn hf hfm
  obtain ⟨k0, k1, k2, k3, k4, k5, k6, k7, k8, k9, k10, k11, k12⟩ := T1.out
  clear T1
  go_enter Try.func12, Try.ntmps12
  go_upto_region 1 with fail
  generalize W.alloc (.cells #[.int .i64 1, .int .i64 ds, .int .i64 di, .int .i64 dg, .int .i64 dm, .int .i64 dx, .int .i64 dy, .int .i64 dvx, .int .i64 dvy, .int .i64 dh, .int .i64 dp, .int .i64 dl, .int .i64 dm_] DTY) = w0 at *
  generalize W.heap.size = q at *
  go_wp2_with (go_at_call 30; refine (RX.out _ HB.out).mono ?_; rintro e w1 ⟨rfl, H1⟩; clear RX HB k0 k1 k2 k3 k4 k5 k6 k7 k8 k9 k10 k11 k12)
  go_ret
  exact ⟨rfl, H1⟩
set_option maxHeartbeats 16000000 in
set_option maxRecDepth 100000 in
theorem rdo_odd (k : Int) (h1 : k ≠ 1) (hk : ¬ (k = 2 ∨ k = 3 ∨ k = 4)) (ds di dg dm dx dy dvx dvy dh dp dl dm_ : Int) (h : Sep w (stR s t :: L) W) (hf : Fit dm) (hfm : Fit dm_) {n : Nat} (hl : Le t n) (hn : n < 100000) : Calls Try.prog 12 #[.pointer (some ⟨s, 0, none⟩), .agg #[.int .i64 k, .int .i64 ds, .int .i64 di, .int .i64 dg, .int .i64 dm, .int .i64 dx, .int .i64 dy, .int .i64 dvx, .int .i64 dvy, .int .i64 dh, .int .i64 dp, .int .i64 dl, .int .i64 dm_]] W fun e V => e = .returned (.int .i64 (bdo t ⟨k, ⟨ds, di, dg, dm, dx, dy, dvx, dvy, dh, dp, dl⟩, dm_⟩).2) ∧ Sep w (stR s (bdo t ⟨k, ⟨ds, di, dg, dm, dx, dy, dvx, dvy, dh, dp, dl⟩, dm_⟩).1 :: L) V := by
  rw [bdo_odd (d := ⟨k, ⟨ds, di, dg, dm, dx, dy, dvx, dvy, dh, dp, dl⟩, dm_⟩) h1 hk]
  have HB : Hid (Sep w (stR s t :: box W.heap.size (.cells #[.int .i64 k, .int .i64 ds, .int .i64 di, .int .i64 dg, .int .i64 dm, .int .i64 dx, .int .i64 dy, .int .i64 dvx, .int .i64 dvy, .int .i64 dh, .int .i64 dp, .int .i64 dl, .int .i64 dm_] DTY) :: L) (W.alloc (.cells #[.int .i64 k, .int .i64 ds, .int .i64 di, .int .i64 dg, .int .i64 dm, .int .i64 dx, .int .i64 dy, .int .i64 dvx, .int .i64 dvy, .int .i64 dh, .int .i64 dp, .int .i64 dl, .int .i64 dm_] DTY))) := Lib.hid ((sep_box h _).pull 1 rfl)
  have T1 := Lib.hid (Bx.b13 (at1 W (.cells #[.int .i64 k, .int .i64 ds, .int .i64 di, .int .i64 dg, .int .i64 dm, .int .i64 dx, .int .i64 dy, .int .i64 dvx, .int .i64 dvy, .int .i64 dh, .int .i64 dp, .int .i64 dl, .int .i64 dm_] DTY))).1
  have HE : Hid (Sep w (stR s t :: L) (W.alloc (.cells #[.int .i64 k, .int .i64 ds, .int .i64 di, .int .i64 dg, .int .i64 dm, .int .i64 dx, .int .i64 dy, .int .i64 dvx, .int .i64 dvy, .int .i64 dh, .int .i64 dp, .int .i64 dl, .int .i64 dm_] DTY))) := Lib.hid ((HB.out.pull 1 rfl).drop)
  clear h hl hn HB hf hfm
  obtain ⟨k0, k1, k2, k3, k4, k5, k6, k7, k8, k9, k10, k11, k12⟩ := T1.out
  clear T1
  by_cases t1 : k < 1
  · clear h1 hk
    go_enter Try.func12, Try.ntmps12
    go_upto_region 1 with fail
    generalize W.alloc (.cells #[.int .i64 k, .int .i64 ds, .int .i64 di, .int .i64 dg, .int .i64 dm, .int .i64 dx, .int .i64 dy, .int .i64 dvx, .int .i64 dvy, .int .i64 dh, .int .i64 dp, .int .i64 dl, .int .i64 dm_] DTY) = w0 at *
    generalize W.heap.size = q at *
    go_wp2
    go_ret
    exact ⟨rfl, HE.out⟩
  · have t2 : (4 : Int) < k := by omega
    clear h1 hk
    go_enter Try.func12, Try.ntmps12
    go_upto_region 1 with fail
    generalize W.alloc (.cells #[.int .i64 k, .int .i64 ds, .int .i64 di, .int .i64 dg, .int .i64 dm, .int .i64 dx, .int .i64 dy, .int .i64 dvx, .int .i64 dvy, .int .i64 dh, .int .i64 dp, .int .i64 dl, .int .i64 dm_] DTY) = w0 at *
    generalize W.heap.size = q at *
    go_wp2
    go_ret
    exact ⟨rfl, HE.out⟩
/-- one deed -/
theorem Sep.rdo (h : Sep w (stR s t :: L) W) (d : De) (hf0 : Fit d.b.m ∧ Fit d.m) {n : Nat} (hl : Le t n) (hn : n < 100000) : Calls Try.prog 12 #[.pointer (some ⟨s, 0, none⟩), d.val] W fun e V => e = .returned (.int .i64 (bdo t d).2) ∧ Sep w (stR s (bdo t d).1 :: L) V := by
  obtain ⟨k, ⟨ds, di, dg, dm, dx, dy, dvx, dvy, dh, dp, dl⟩, dm_⟩ := d
  obtain ⟨hf, hfm⟩ := hf0
  simp only at hf hfm
  by_cases h1 : k = 1
  · subst h1
    exact rdo_put ds di dg dm dx dy dvx dvy dh dp dl dm_ h hf hfm hl hn
  by_cases hk : k = 2 ∨ k = 3 ∨ k = 4
  · cases hg : Bu.get t (ds, di, dg) with
    | none => exact rone_none k hk ds di dg dm dx dy dvx dvy dh dp dl dm_ h hf hfm hl hn hg
    | some x =>
      obtain ⟨xs, xi, xg, xm, xx, xy, xvx, xvy, xh, xp, xl⟩ := x
      have hid := (mem_get hg).2
      simp only [Bn.id, Prod.mk.injEq] at hid
      obtain ⟨rfl, rfl, rfl⟩ := hid
      rcases hk with rfl | rfl | rfl
      · exact rone_rem _ _ _ dm dx dy dvx dvy dh dp dl dm_ h hf hfm hl hn hg
      · exact rone_set _ _ _ dm dx dy dvx dvy dh dp dl dm_ h hf hfm hl hn hg
      · exact rone_drop _ _ _ dm dx dy dvx dvy dh dp dl dm_ h hf hfm hl hn hg
  · exact rdo_odd k h1 hk ds di dg dm dx dy dvx dvy dh dp dl dm_ h hf hfm hl hn
end
end Go.Proofs.Yteollbioeamciaa
