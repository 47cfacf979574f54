/- Of any bytes a name, an entity and a command is read as the document says. Written by wip/tools/gencdlaw3.py. -/
import Derived.Test.YtdhlebmgeiiejaaGreatKDec
import Derived.Test.YtdhlebmgeiiejaaGreatKCdAs
import Derived.Test.YtdhlebmgeiiejaaGreatKCdTakeI
import Derived.Test.YtdhlebmgeiiejaaGreatKCdTakeB
import Derived.Test.YtdhlebmgeiiejaaGreatKCdTakeC
import Derived.Test.YtdhlebmgeiiejaaGreatKCdRef6
import Derived.Test.YtdhlebmgeiiejaaGreatKCdRef7
import Derived.Test.YtdhlebmgeiiejaaGreatKSame
import Derived.Test.YtdhlebmgeiiejaaGreatKPz
namespace Go.Proofs.YtdhlebmgeiiejaaGreat
open Go.RowKit Pz Cd
set_option linter.unusedVariables false
set_option linter.unusedSimpArgs false

set_option maxHeartbeats 16000000 in
set_option maxRecDepth 100000 in
theorem law_takes (w : World) (s : List UInt8) (hl : s.length ≤ 140737488351232) : Calls Tryz.prog 3 #[.string ⟨s.toArray⟩] w fun e w' => e = .returned (.bool true) ∧ Below w.heap.size w w' := by
  have AW : Hid (∀ W, Calls Tryz.prog 7 #[] W fun e w' => e = .returned (.bool true) ∧ Below W.heap.size W w') := Lib.hid fun W => awake_any W
  have OF := Lib.hid fun W => of_any s W (by omega)
  have C0 : Hid (∀ b W, CQ b W (Rr.of s) W → Calls Tryz.prog 9 #[.pointer (some ⟨b, 0, none⟩)] W fun e W' => e = .returned (.agg #[.int .i64 (takeID (Rr.of s)).1.1, .int .i64 (takeID (Rr.of s)).1.2.1, .int .i64 (takeID (Rr.of s)).1.2.2]) ∧ CQ b W (takeID (Rr.of s)).2 W') := Lib.hid fun b W hW => ctake_id hW
  have R0 : Hid (∀ b W, RQ b W (Rr.of s) W → Calls Tryz.prog 10 #[.pointer (some ⟨b, 0, none⟩)] W fun e W' => e = .returned (.agg #[.int .i64 (takeID (Rr.of s)).1.1, .int .i64 (takeID (Rr.of s)).1.2.1, .int .i64 (takeID (Rr.of s)).1.2.2]) ∧ RQ b W (takeID (Rr.of s)).2 W') := Lib.hid fun b W hW => rtakeid_any hW
  have C1 : Hid (∀ b W, CQ b W (Rr.of s) W → Calls Tryz.prog 12 #[.pointer (some ⟨b, 0, none⟩)] W fun e W' => e = .returned ((takeB (Rr.of s)).1.val) ∧ CQ b W (takeB (Rr.of s)).2 W') := Lib.hid fun b W hW => ctake_b hW
  have R1 : Hid (∀ b W, RQ b W (Rr.of s) W → Calls Tryz.prog 13 #[.pointer (some ⟨b, 0, none⟩)] W fun e W' => e = .returned ((takeB (Rr.of s)).1.val) ∧ RQ b W (takeB (Rr.of s)).2 W') := Lib.hid fun b W hW => rtakebundle_any hW
  have C2 : Hid (∀ b W, CQ b W (Rr.of s) W → Calls Tryz.prog 14 #[.pointer (some ⟨b, 0, none⟩)] W fun e W' => e = .returned ((takeC (Rr.of s)).1.val) ∧ CQ b W (takeC (Rr.of s)).2 W') := Lib.hid fun b W hW => ctake_c hW
  have R2 : Hid (∀ b W, RQ b W (Rr.of s) W → Calls Tryz.prog 15 #[.pointer (some ⟨b, 0, none⟩)] W fun e W' => e = .returned ((takeC (Rr.of s)).1.val) ∧ RQ b W (takeC (Rr.of s)).2 W') := Lib.hid fun b W hW => rtakecmd_any hW
  generalize takeID (Rr.of s) = p0 at *
  obtain ⟨v0, Q0⟩ := p0
  generalize takeB (Rr.of s) = p1 at *
  obtain ⟨v1, Q1⟩ := p1
  generalize takeC (Rr.of s) = p2 at *
  obtain ⟨v2, Q2⟩ := p2
  obtain ⟨x1, x2, x3⟩ := v0
  obtain ⟨ys, yi, yg, ym, yx, yy, yvx, yvy, yh, yp, yl⟩ := v1
  obtain ⟨zk, zs, zi, zg, ⟨zbs, zbi, zbg, zbm, zbx, zby, zbvx, zbvy, zbh, zbp, zbl⟩, zm⟩ := v2
  simp only [Bn.val, Cn.val] at C0 C1 C2 R0 R1 R2
  have EQ0 : ∀ V : World, (Op.equalIn 10000 29 (.agg #[.int .i64 x1, .int .i64 x2, .int .i64 x3]) (.agg #[.int .i64 x1, .int .i64 x2, .int .i64 x3])).run Tryz.prog V = .ok true V := fun V => by
    have := eq_id 9998 x1 x2 x3 x1 x2 x3 V
    simpa using this
  have EQ1 : ∀ V : World, (Op.equalIn 10000 34 (.agg #[.int .i64 ys, .int .i64 yi, .int .i64 yg, .int .i64 ym, .int .i64 yx, .int .i64 yy, .int .i64 yvx, .int .i64 yvy, .int .i64 yh, .int .i64 yp, .int .i64 yl]) (.agg #[.int .i64 ys, .int .i64 yi, .int .i64 yg, .int .i64 ym, .int .i64 yx, .int .i64 yy, .int .i64 yvx, .int .i64 yvy, .int .i64 yh, .int .i64 yp, .int .i64 yl])).run Tryz.prog V = .ok true V := fun V => by
    have := eq_bundle ys yi yg ym yx yy yvx yvy yh yp yl ys yi yg ym yx yy yvx yvy yh yp yl V
    simpa using this
  have EQ2 : ∀ V : World, (Op.equalIn 10000 38 (.agg #[.int .i64 zk, .int .i64 zs, .int .i64 zi, .int .i64 zg, .int .i64 zbs, .int .i64 zbi, .int .i64 zbg, .int .i64 zbm, .int .i64 zbx, .int .i64 zby, .int .i64 zbvx, .int .i64 zbvy, .int .i64 zbh, .int .i64 zbp, .int .i64 zbl, .int .i64 zm]) (.agg #[.int .i64 zk, .int .i64 zs, .int .i64 zi, .int .i64 zg, .int .i64 zbs, .int .i64 zbi, .int .i64 zbg, .int .i64 zbm, .int .i64 zbx, .int .i64 zby, .int .i64 zbvx, .int .i64 zbvy, .int .i64 zbh, .int .i64 zbp, .int .i64 zbl, .int .i64 zm])).run Tryz.prog V = .ok true V := fun V => by
    exact same_cmd zk zs zi zg zbs zbi zbg zbm zbx zby zbvx zbvy zbh zbp zbl zm V
  obtain ⟨z, hz⟩ : ∃ z, decide ((s.length : Int) > 3000) = z := ⟨_, rfl⟩
  have HB := Lib.hid (Below.refl w.heap.size w)
  go_enter Tryz.func3, Tryz.ntmps3
  cases z with
  | true =>
    clear C0 R0 EQ0 C1 R1 EQ1 C2 R2 EQ2 OF
    go_wp2_with fail
    refine (AW.out w).mono ?_
    rintro e w1 ⟨rfl, hb⟩
    go_wp2
    go_ret
    exact ⟨rfl, hb⟩
  | false =>
    go_wp2_with fail
    refine (OF.out _).mono ?_
    rintro e a0 ⟨r0, rfl, rd, hlo, hb⟩
    have hwr0 : w.heap.size ≤ r0 := Nat.le_trans HB.out.size hlo
    replace HB := Lib.hid (HB.out.trans (hb.mono HB.out.size))
    clear hb hlo
    have X := Lib.hid (at1 a0 (.cells #[.string ⟨s.toArray⟩, .bool false] RT))
    have hb := bel1 a0 (.cells #[.string ⟨s.toArray⟩, .bool false] RT)
    go_upto_region 4 with fail
    replace HB := Lib.hid (HB.out.trans (hb.mono HB.out.size))
    replace rd := Lib.hid (rd.below hb (lt_of_row rd))
    have hwx0 : w.heap.size ≤ a0.heap.size := Nat.le_trans (by omega : w.heap.size ≤ r0) (by have := lt_of_row rd.out; simp at this; omega)
    generalize a0.alloc (.cells #[.string ⟨s.toArray⟩, .bool false] RT) = b0 at *
    generalize a0.heap.size = x0b at *
    clear hb
    have CX := RX.start (q := Rr.of s) rd.out (fun h => by cases h) (by show s.length ≤ _; omega)
    go_wp2_with fail
    refine (C0.out r0 b0 CX).mono ?_
    rintro e c0 ⟨rfl, rc⟩
    have hne : x0b ≠ r0 := Bx.ne_type X.out rd.out (by decide)
    have XC : Rdr RT x0b s false c0 := (rc.grow.block _ (lt_of_row X.out) (by simp; omega)).trans X.out
    replace HB := Lib.hid (HB.out.grown rc.grow HB.out.size (fun k e => by cases e; exact hwr0))
    have DX := RX.start (q := Rr.of s) XC (fun h => by cases h) (by show s.length ≤ _; omega)
    go_wp2_with fail
    refine (R0.out x0b c0 DX).mono ?_
    rintro e d0 ⟨rfl, rx⟩
    have RC : Rdr CT r0 Q0.s Q0.bad d0 := (rx.grow.block _ (lt_of_row rc.rd) (by simp; omega)).trans rc.rd
    replace HB := Lib.hid (HB.out.grown rx.grow HB.out.size (fun k e => by cases e; exact hwx0))
    have AS := Lib.hid (as_any RC rx.rd rc.ok)
    clear rd X CX XC DX rc rx RC hne C0 R0
    go_wp2_with fail
    refine AS.out.mono ?_
    rintro e e0 ⟨rfl, hb⟩
    replace HB := Lib.hid (HB.out.trans (hb.mono HB.out.size))
    clear hb AS EQ0
    go_wp2_with fail
    refine (OF.out _).mono ?_
    rintro e a1 ⟨r1, rfl, rd, hlo, hb⟩
    have hwr1 : w.heap.size ≤ r1 := Nat.le_trans HB.out.size hlo
    replace HB := Lib.hid (HB.out.trans (hb.mono HB.out.size))
    clear hb hlo
    have X := Lib.hid (at1 a1 (.cells #[.string ⟨s.toArray⟩, .bool false] RT))
    have hb := bel1 a1 (.cells #[.string ⟨s.toArray⟩, .bool false] RT)
    go_upto_region 7 with fail
    replace HB := Lib.hid (HB.out.trans (hb.mono HB.out.size))
    replace rd := Lib.hid (rd.below hb (lt_of_row rd))
    have hwx1 : w.heap.size ≤ a1.heap.size := Nat.le_trans (by omega : w.heap.size ≤ r1) (by have := lt_of_row rd.out; simp at this; omega)
    generalize a1.alloc (.cells #[.string ⟨s.toArray⟩, .bool false] RT) = b1 at *
    generalize a1.heap.size = x1b at *
    clear hb
    have CX := RX.start (q := Rr.of s) rd.out (fun h => by cases h) (by show s.length ≤ _; omega)
    go_wp2_with fail
    refine (C1.out r1 b1 CX).mono ?_
    rintro e c1 ⟨rfl, rc⟩
    have hne : x1b ≠ r1 := Bx.ne_type X.out rd.out (by decide)
    have XC : Rdr RT x1b s false c1 := (rc.grow.block _ (lt_of_row X.out) (by simp; omega)).trans X.out
    replace HB := Lib.hid (HB.out.grown rc.grow HB.out.size (fun k e => by cases e; exact hwr1))
    have DX := RX.start (q := Rr.of s) XC (fun h => by cases h) (by show s.length ≤ _; omega)
    go_wp2_with fail
    refine (R1.out x1b c1 DX).mono ?_
    rintro e d1 ⟨rfl, rx⟩
    have RC : Rdr CT r1 Q1.s Q1.bad d1 := (rx.grow.block _ (lt_of_row rc.rd) (by simp; omega)).trans rc.rd
    replace HB := Lib.hid (HB.out.grown rx.grow HB.out.size (fun k e => by cases e; exact hwx1))
    have AS := Lib.hid (as_any RC rx.rd rc.ok)
    clear rd X CX XC DX rc rx RC hne C1 R1
    go_wp2_with fail
    refine AS.out.mono ?_
    rintro e e1 ⟨rfl, hb⟩
    replace HB := Lib.hid (HB.out.trans (hb.mono HB.out.size))
    clear hb AS EQ1
    go_wp2_with fail
    refine (OF.out _).mono ?_
    rintro e a2 ⟨r2, rfl, rd, hlo, hb⟩
    have hwr2 : w.heap.size ≤ r2 := Nat.le_trans HB.out.size hlo
    replace HB := Lib.hid (HB.out.trans (hb.mono HB.out.size))
    clear hb hlo
    have X := Lib.hid (at1 a2 (.cells #[.string ⟨s.toArray⟩, .bool false] RT))
    have hb := bel1 a2 (.cells #[.string ⟨s.toArray⟩, .bool false] RT)
    go_upto_region 10 with fail
    replace HB := Lib.hid (HB.out.trans (hb.mono HB.out.size))
    replace rd := Lib.hid (rd.below hb (lt_of_row rd))
    have hwx2 : w.heap.size ≤ a2.heap.size := Nat.le_trans (by omega : w.heap.size ≤ r2) (by have := lt_of_row rd.out; simp at this; omega)
    generalize a2.alloc (.cells #[.string ⟨s.toArray⟩, .bool false] RT) = b2 at *
    generalize a2.heap.size = x2b at *
    clear hb
    have CX := RX.start (q := Rr.of s) rd.out (fun h => by cases h) (by show s.length ≤ _; omega)
    go_wp2_with fail
    refine (C2.out r2 b2 CX).mono ?_
    rintro e c2 ⟨rfl, rc⟩
    have hne : x2b ≠ r2 := Bx.ne_type X.out rd.out (by decide)
    have XC : Rdr RT x2b s false c2 := (rc.grow.block _ (lt_of_row X.out) (by simp; omega)).trans X.out
    replace HB := Lib.hid (HB.out.grown rc.grow HB.out.size (fun k e => by cases e; exact hwr2))
    have DX := RX.start (q := Rr.of s) XC (fun h => by cases h) (by show s.length ≤ _; omega)
    go_wp2_with fail
    refine (R2.out x2b c2 DX).mono ?_
    rintro e d2 ⟨rfl, rx⟩
    have RC : Rdr CT r2 Q2.s Q2.bad d2 := (rx.grow.block _ (lt_of_row rc.rd) (by simp; omega)).trans rc.rd
    replace HB := Lib.hid (HB.out.grown rx.grow HB.out.size (fun k e => by cases e; exact hwx2))
    have AS := Lib.hid (as_any RC rx.rd rc.ok)
    clear rd X CX XC DX rc rx RC hne C2 R2
    go_wp2_with fail
    refine AS.out.mono ?_
    rintro e e2 ⟨rfl, hb⟩
    replace HB := Lib.hid (HB.out.trans (hb.mono HB.out.size))
    clear hb AS EQ2
    go_wp2_with fail
    refine (AW.out _).mono ?_
    rintro e w9 ⟨rfl, hb⟩
    replace HB := Lib.hid (HB.out.trans (hb.mono HB.out.size))
    clear hb AW
    go_wp2
    go_ret
    exact ⟨rfl, HB.out⟩
end Go.Proofs.YtdhlebmgeiiejaaGreat
