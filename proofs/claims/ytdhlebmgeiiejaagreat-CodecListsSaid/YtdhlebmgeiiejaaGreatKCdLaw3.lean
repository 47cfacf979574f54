/- Any lists have the document's bytes, and of any bytes lists are read that are not too long. Written by wip/tools/gencdlaw3.py. -/
import Derived.Test.YtdhlebmgeiiejaaGreatKDec
import Derived.Test.YtdhlebmgeiiejaaGreatKCdAs
import Derived.Test.YtdhlebmgeiiejaaGreatKCdTListI
import Derived.Test.YtdhlebmgeiiejaaGreatKCdTListB
import Derived.Test.YtdhlebmgeiiejaaGreatKCdTListC
import Derived.Test.YtdhlebmgeiiejaaGreatKRL
import Derived.Test.YtdhlebmgeiiejaaGreatKCdRLC
import Derived.Test.YtdhlebmgeiiejaaGreatKRB
import Derived.Test.YtdhlebmgeiiejaaGreatKSame
import Derived.Test.YtdhlebmgeiiejaaGreatKPz
namespace Go.Proofs.YtdhlebmgeiiejaaGreat
open Go.RowKit Pz Cd
set_option linter.unusedVariables false
set_option linter.unusedSimpArgs false

theorem Cd.takeL_most {α : Type} {K : Kind α} (most : Int) (q : Rr) : (K.takeL most q).1.length ≤ most.toNat := by
  unfold Kind.takeL
  simp only
  split
  · exact Nat.zero_le _
  · split
    · exact Nat.zero_le _
    · rename_i h _
      have := takeN_le (K := K) (tInt q).1.toNat (tInt q).2
      omega
set_option maxHeartbeats 16000000 in
set_option maxRecDepth 100000 in
theorem law_lists (w : World) (A : Option Addr) (cap : Nat) (l : List Bn) (hcap : l.length ≤ 140737488351232) (R : RdB w w.heap.size A l) (s : List UInt8) (hl : s.length ≤ 140737488351232) (most : Int) (HF : ∀ x ∈ l, x.Fits) : Calls Tryz.prog 4 #[.slice A l.length cap, .string ⟨s.toArray⟩, .int .i64 most] w fun e w' => e = .returned (.bool true) ∧ Below w.heap.size w w' := by
  have AW : Hid (∀ W, Calls Tryz.prog 7 #[] W fun e w' => e = .returned (.bool true) ∧ Below W.heap.size W w') := Lib.hid fun W => awake_any W
  have OF := Lib.hid fun W => of_any s W (by omega)
  have LB : Hid (l.length ≤ 50 → ∀ W, Below w.heap.size w W → Calls Tryz.prog 16 #[.func (.func 17) #[] #[], .slice A l.length cap] W fun e w' => e = .returned (.string ⟨(kB.putL l).toArray⟩) ∧ Below W.heap.size W w') := Lib.hid fun h50 W hW => clist_b ((R.below hW).more hW.size) (by omega)
  have RB : Hid (l.length ≤ 50 → ∀ W, Below w.heap.size w W → Calls Tryz.prog 18 #[.slice A l.length cap] W fun e w' => e = .returned (.string ⟨(kB.putL l).toArray⟩) ∧ Below W.heap.size W w') := Lib.hid fun h50 W hW => rlist_b ((R.below hW).more hW.size) (by omega) HF
  have C0 : Hid (s.length ≤ 3000 → ∀ b W, CQ b W (Rr.of s) W → Calls Tryz.prog 20 #[.pointer (some ⟨b, 0, none⟩), .int .i64 most, .func (.func 12) #[] #[]] W fun e W' => (∃ v, e = .returned v ∧ OwnB W' W.heap.size v (kB.takeL most (Rr.of s)).1) ∧ CQ b W (kB.takeL most (Rr.of s)).2 W') := Lib.hid fun hs b W hW => ctakelist_b most hW (.inl (by show s.length ≤ _; omega))
  have R0 : Hid (s.length ≤ 3000 → ∀ b W, RQ b W (Rr.of s) W → Calls Tryz.prog 21 #[.pointer (some ⟨b, 0, none⟩), .int .i64 most] W fun e W' => (∃ v, e = .returned v ∧ OwnB W' W.heap.size v (kB.takeL most (Rr.of s)).1) ∧ RQ b W (kB.takeL most (Rr.of s)).2 W') := Lib.hid fun hs b W hW => rtakelist_b most hW (.inl (by show s.length ≤ _; omega))
  have G0 := takeL_most (K := kB) most (Rr.of s)
  have C1 : Hid (s.length ≤ 3000 → ∀ b W, CQ b W (Rr.of s) W → Calls Tryz.prog 23 #[.pointer (some ⟨b, 0, none⟩), .int .i64 most, .func (.func 14) #[] #[]] W fun e W' => (∃ v, e = .returned v ∧ OwnC W' W.heap.size v (kC.takeL most (Rr.of s)).1) ∧ CQ b W (kC.takeL most (Rr.of s)).2 W') := Lib.hid fun hs b W hW => ctakelist_c most hW (.inl (by show s.length ≤ _; omega))
  have R1 : Hid (s.length ≤ 3000 → ∀ b W, RQ b W (Rr.of s) W → Calls Tryz.prog 24 #[.pointer (some ⟨b, 0, none⟩), .int .i64 most] W fun e W' => (∃ v, e = .returned v ∧ OwnC W' W.heap.size v (kC.takeL most (Rr.of s)).1) ∧ RQ b W (kC.takeL most (Rr.of s)).2 W') := Lib.hid fun hs b W hW => rtakelist_c most hW (.inl (by show s.length ≤ _; omega))
  have G1 := takeL_most (K := kC) most (Rr.of s)
  have C2 : Hid (s.length ≤ 3000 → ∀ b W, CQ b W (Rr.of s) W → Calls Tryz.prog 26 #[.pointer (some ⟨b, 0, none⟩), .int .i64 most, .func (.func 9) #[] #[]] W fun e W' => (∃ v, e = .returned v ∧ OwnN W' W.heap.size v (kID.takeL most (Rr.of s)).1) ∧ CQ b W (kID.takeL most (Rr.of s)).2 W') := Lib.hid fun hs b W hW => ctakelist_id most hW (.inl (by show s.length ≤ _; omega))
  have R2 : Hid (s.length ≤ 3000 → ∀ b W, RQ b W (Rr.of s) W → Calls Tryz.prog 27 #[.pointer (some ⟨b, 0, none⟩), .int .i64 most] W fun e W' => (∃ v, e = .returned v ∧ OwnN W' W.heap.size v (kID.takeL most (Rr.of s)).1) ∧ RQ b W (kID.takeL most (Rr.of s)).2 W') := Lib.hid fun hs b W hW => rtakelist_id most hW (.inl (by show s.length ≤ _; omega))
  have G2 := takeL_most (K := kID) most (Rr.of s)
  generalize kB.takeL most (Rr.of s) = p0 at *
  obtain ⟨v0, Q0⟩ := p0
  generalize kC.takeL most (Rr.of s) = p1 at *
  obtain ⟨v1, Q1⟩ := p1
  generalize kID.takeL most (Rr.of s) = p2 at *
  obtain ⟨v2, Q2⟩ := p2
  simp only at C0 C1 C2 R0 R1 R2 G0 G1 G2
  have S0 : Hid (most ≤ 1048576 → ∀ W B1 B2 u1 u2, OwnB W B1 u1 v0 → OwnB W B2 u2 v0 → Calls Tryz.prog 19 #[u1, u2] W fun e w' => e = .returned (.bool true) ∧ Below W.heap.size W w') := Lib.hid fun hm W B1 B2 u1 u2 o1 o2 => by
    obtain ⟨a1, d1, rfl⟩ := o1.form
    obtain ⟨a2, d2, rfl⟩ := o2.form
    exact rsame_yes (RdB.of_own o1) (RdB.of_own o2) (by omega)
  have S1 : Hid (most ≤ 1048576 → ∀ W B1 B2 u1 u2, OwnC W B1 u1 v1 → OwnC W B2 u2 v1 → Calls Tryz.prog 22 #[u1, u2] W fun e w' => e = .returned (.bool true) ∧ Below W.heap.size W w') := Lib.hid fun hm W B1 B2 u1 u2 o1 o2 => by
    obtain ⟨a1, d1, rfl⟩ := o1.form
    obtain ⟨a2, d2, rfl⟩ := o2.form
    exact rsamecmds_yes (RdC.of_own o1) (RdC.of_own o2) (by omega)
  have S2 : Hid (most ≤ 1048576 → ∀ W B1 B2 u1 u2, OwnN W B1 u1 v2 → OwnN W B2 u2 v2 → Calls Tryz.prog 25 #[u1, u2] W fun e w' => e = .returned (.bool true) ∧ Below W.heap.size W w') := Lib.hid fun hm W B1 B2 u1 u2 o1 o2 => by
    obtain ⟨a1, d1, rfl⟩ := o1.form
    obtain ⟨a2, d2, rfl⟩ := o2.form
    exact rsameids_yes (RdI3.of_own o1) (RdI3.of_own o2) (by omega)
  clear G0 G1 G2
  generalize (kB.putL l).toArray = pl at *
  obtain ⟨y1, g1⟩ : ∃ y, decide ((l.length : Int) > 50) = y := ⟨_, rfl⟩
  obtain ⟨y2, g2⟩ : ∃ y, decide ((s.length : Int) > 3000) = y := ⟨_, rfl⟩
  obtain ⟨y3, g3⟩ : ∃ y, decide (most > 1048576) = y := ⟨_, rfl⟩
  have HB := Lib.hid (Below.refl w.heap.size w)
  clear R HF
  cases y1 with
  | true =>
    clear OF LB RB C0 C1 C2 R0 R1 R2 S0 S1 S2 HB
    go_enter Tryz.func4, Tryz.ntmps4
    go_wp2_with fail
    refine (AW.out w).mono ?_
    rintro e w1 ⟨rfl, hb⟩
    go_wp2
    go_ret
    exact ⟨rfl, hb⟩
  | false =>
    cases y2 with
    | true =>
      clear OF LB RB C0 C1 C2 R0 R1 R2 S0 S1 S2 HB
      go_enter Tryz.func4, Tryz.ntmps4
      go_wp2_with fail
      refine (AW.out w).mono ?_
      rintro e w1 ⟨rfl, hb⟩
      go_wp2
      go_ret
      exact ⟨rfl, hb⟩
    | false =>
      cases y3 with
      | true =>
        clear OF LB RB C0 C1 C2 R0 R1 R2 S0 S1 S2 HB
        go_enter Tryz.func4, Tryz.ntmps4
        go_wp2_with fail
        refine (AW.out w).mono ?_
        rintro e w1 ⟨rfl, hb⟩
        go_wp2
        go_ret
        exact ⟨rfl, hb⟩
      | false =>
        have h50 : l.length ≤ 50 := by have := of_decide_eq_false g1; omega
        have hs3 : s.length ≤ 3000 := by have := of_decide_eq_false g2; omega
        have hm3 : most ≤ 1048576 := by have := of_decide_eq_false g3; omega
        replace LB := Lib.hid (LB.out h50)
        replace RB := Lib.hid (RB.out h50)
        replace C0 := Lib.hid (C0.out hs3)
        replace R0 := Lib.hid (R0.out hs3)
        replace S0 := Lib.hid (S0.out hm3)
        replace C1 := Lib.hid (C1.out hs3)
        replace R1 := Lib.hid (R1.out hs3)
        replace S1 := Lib.hid (S1.out hm3)
        replace C2 := Lib.hid (C2.out hs3)
        replace R2 := Lib.hid (R2.out hs3)
        replace S2 := Lib.hid (S2.out hm3)
        clear h50 hm3
        go_enter Tryz.func4, Tryz.ntmps4
        go_wp2_with fail
        refine (LB.out _ HB.out).mono ?_
        rintro e u1 ⟨rfl, hb⟩
        replace HB := Lib.hid (HB.out.trans (hb.mono HB.out.size))
        clear hb LB
        go_wp2_with fail
        refine (RB.out _ HB.out).mono ?_
        rintro e u2 ⟨rfl, hb⟩
        replace HB := Lib.hid (HB.out.trans (hb.mono HB.out.size))
        clear hb RB
        go_wp2_with fail
        refine (OF.out _).mono ?_
        rintro e a0 ⟨r0, rfl, rd, hlo, hb⟩
        have hwr0 : w.heap.size ≤ r0 := Nat.le_trans HB.out.size hlo
        replace HB := Lib.hid (HB.out.trans (hb.mono HB.out.size))
        clear hb hlo
        have X := Lib.hid (at1 a0 (.cells #[.string ⟨s.toArray⟩, .bool false] RT))
        have hb := bel1 a0 (.cells #[.string ⟨s.toArray⟩, .bool false] RT)
        go_upto_region 6 with fail
        replace HB := Lib.hid (HB.out.trans (hb.mono HB.out.size))
        replace rd := Lib.hid (rd.below hb (lt_of_row rd))
        have hwx0 : w.heap.size ≤ a0.heap.size := Nat.le_trans (by omega : w.heap.size ≤ r0) (by have := lt_of_row rd.out; simp at this; omega)
        generalize a0.alloc (.cells #[.string ⟨s.toArray⟩, .bool false] RT) = b0 at *
        generalize a0.heap.size = x0b at *
        clear hb
        have CX := RX.start (q := Rr.of s) rd.out (fun h => by cases h) (by show s.length ≤ _; omega)
        go_wp2_with fail
        refine (C0.out r0 b0 CX).mono ?_
        rintro e c0 ⟨⟨m0, rfl, oc⟩, rc⟩
        have hne : x0b ≠ r0 := Bx.ne_type X.out rd.out (by decide)
        have XC : Rdr RT x0b s false c0 := (rc.grow.block _ (lt_of_row X.out) (by simp; omega)).trans X.out
        have hxb : x0b < b0.heap.size := lt_of_row X.out
        replace HB := Lib.hid (HB.out.grown rc.grow HB.out.size (fun k e => by cases e; exact hwr0))
        have DX := RX.start (q := Rr.of s) XC (fun h => by cases h) (by show s.length ≤ _; omega)
        go_wp2_with fail
        refine (R0.out x0b c0 DX).mono ?_
        rintro e d0 ⟨⟨n0, rfl, od⟩, rx⟩
        have RC : Rdr CT r0 Q0.s Q0.bad d0 := (rx.grow.block _ (lt_of_row rc.rd) (by simp; omega)).trans rc.rd
        have oc2 := oc.kept (W' := d0) (fun g hg => rx.grow.block g (by obtain ⟨_, cur, h2⟩ := oc.blk hg; exact lt_of_row h2) (by have := (oc.blk hg).1; simp; omega))
        replace HB := Lib.hid (HB.out.grown rx.grow HB.out.size (fun k e => by cases e; exact hwx0))
        have SS := Lib.hid (S0.out d0 _ _ m0 n0 oc2 od)
        have AS := Lib.hid fun W (hW : Below d0.heap.size d0 W) => as_any (RC.below hW (lt_of_row RC)) (rx.rd.below hW (lt_of_row rx.rd)) rc.ok
        clear rd X CX XC DX rc rx RC hne C0 R0 S0 oc oc2 od hxb
        go_wp2_with fail
        refine SS.out.mono ?_
        rintro e e0 ⟨rfl, hb⟩
        have AS1 := Lib.hid (AS.out e0 hb)
        replace HB := Lib.hid (HB.out.trans (hb.mono HB.out.size))
        clear hb AS SS
        go_wp2_with fail
        refine AS1.out.mono ?_
        rintro e f0 ⟨rfl, hb⟩
        replace HB := Lib.hid (HB.out.trans (hb.mono HB.out.size))
        clear hb AS1
        go_wp2_with fail
        refine (OF.out _).mono ?_
        rintro e a1 ⟨r1, rfl, rd, hlo, hb⟩
        have hwr1 : w.heap.size ≤ r1 := Nat.le_trans HB.out.size hlo
        replace HB := Lib.hid (HB.out.trans (hb.mono HB.out.size))
        clear hb hlo
        have X := Lib.hid (at1 a1 (.cells #[.string ⟨s.toArray⟩, .bool false] RT))
        have hb := bel1 a1 (.cells #[.string ⟨s.toArray⟩, .bool false] RT)
        go_upto_region 9 with fail
        replace HB := Lib.hid (HB.out.trans (hb.mono HB.out.size))
        replace rd := Lib.hid (rd.below hb (lt_of_row rd))
        have hwx1 : w.heap.size ≤ a1.heap.size := Nat.le_trans (by omega : w.heap.size ≤ r1) (by have := lt_of_row rd.out; simp at this; omega)
        generalize a1.alloc (.cells #[.string ⟨s.toArray⟩, .bool false] RT) = b1 at *
        generalize a1.heap.size = x1b at *
        clear hb
        have CX := RX.start (q := Rr.of s) rd.out (fun h => by cases h) (by show s.length ≤ _; omega)
        go_wp2_with fail
        refine (C1.out r1 b1 CX).mono ?_
        rintro e c1 ⟨⟨m1, rfl, oc⟩, rc⟩
        have hne : x1b ≠ r1 := Bx.ne_type X.out rd.out (by decide)
        have XC : Rdr RT x1b s false c1 := (rc.grow.block _ (lt_of_row X.out) (by simp; omega)).trans X.out
        have hxb : x1b < b1.heap.size := lt_of_row X.out
        replace HB := Lib.hid (HB.out.grown rc.grow HB.out.size (fun k e => by cases e; exact hwr1))
        have DX := RX.start (q := Rr.of s) XC (fun h => by cases h) (by show s.length ≤ _; omega)
        go_wp2_with fail
        refine (R1.out x1b c1 DX).mono ?_
        rintro e d1 ⟨⟨n1, rfl, od⟩, rx⟩
        have RC : Rdr CT r1 Q1.s Q1.bad d1 := (rx.grow.block _ (lt_of_row rc.rd) (by simp; omega)).trans rc.rd
        have oc2 := oc.kept (W' := d1) (fun g hg => rx.grow.block g (by obtain ⟨_, cur, h2⟩ := oc.blk hg; exact lt_of_row h2) (by have := (oc.blk hg).1; simp; omega))
        replace HB := Lib.hid (HB.out.grown rx.grow HB.out.size (fun k e => by cases e; exact hwx1))
        have SS := Lib.hid (S1.out d1 _ _ m1 n1 oc2 od)
        have AS := Lib.hid fun W (hW : Below d1.heap.size d1 W) => as_any (RC.below hW (lt_of_row RC)) (rx.rd.below hW (lt_of_row rx.rd)) rc.ok
        clear rd X CX XC DX rc rx RC hne C1 R1 S1 oc oc2 od hxb
        go_wp2_with fail
        refine SS.out.mono ?_
        rintro e e1 ⟨rfl, hb⟩
        have AS1 := Lib.hid (AS.out e1 hb)
        replace HB := Lib.hid (HB.out.trans (hb.mono HB.out.size))
        clear hb AS SS
        go_wp2_with fail
        refine AS1.out.mono ?_
        rintro e f1 ⟨rfl, hb⟩
        replace HB := Lib.hid (HB.out.trans (hb.mono HB.out.size))
        clear hb AS1
        go_wp2_with fail
        refine (OF.out _).mono ?_
        rintro e a2 ⟨r2, rfl, rd, hlo, hb⟩
        have hwr2 : w.heap.size ≤ r2 := Nat.le_trans HB.out.size hlo
        replace HB := Lib.hid (HB.out.trans (hb.mono HB.out.size))
        clear hb hlo
        have X := Lib.hid (at1 a2 (.cells #[.string ⟨s.toArray⟩, .bool false] RT))
        have hb := bel1 a2 (.cells #[.string ⟨s.toArray⟩, .bool false] RT)
        go_upto_region 12 with fail
        replace HB := Lib.hid (HB.out.trans (hb.mono HB.out.size))
        replace rd := Lib.hid (rd.below hb (lt_of_row rd))
        have hwx2 : w.heap.size ≤ a2.heap.size := Nat.le_trans (by omega : w.heap.size ≤ r2) (by have := lt_of_row rd.out; simp at this; omega)
        generalize a2.alloc (.cells #[.string ⟨s.toArray⟩, .bool false] RT) = b2 at *
        generalize a2.heap.size = x2b at *
        clear hb
        have CX := RX.start (q := Rr.of s) rd.out (fun h => by cases h) (by show s.length ≤ _; omega)
        go_wp2_with fail
        refine (C2.out r2 b2 CX).mono ?_
        rintro e c2 ⟨⟨m2, rfl, oc⟩, rc⟩
        have hne : x2b ≠ r2 := Bx.ne_type X.out rd.out (by decide)
        have XC : Rdr RT x2b s false c2 := (rc.grow.block _ (lt_of_row X.out) (by simp; omega)).trans X.out
        have hxb : x2b < b2.heap.size := lt_of_row X.out
        replace HB := Lib.hid (HB.out.grown rc.grow HB.out.size (fun k e => by cases e; exact hwr2))
        have DX := RX.start (q := Rr.of s) XC (fun h => by cases h) (by show s.length ≤ _; omega)
        go_wp2_with fail
        refine (R2.out x2b c2 DX).mono ?_
        rintro e d2 ⟨⟨n2, rfl, od⟩, rx⟩
        have RC : Rdr CT r2 Q2.s Q2.bad d2 := (rx.grow.block _ (lt_of_row rc.rd) (by simp; omega)).trans rc.rd
        have oc2 := oc.kept (W' := d2) (fun g hg => rx.grow.block g (by obtain ⟨_, cur, h2⟩ := oc.blk hg; exact lt_of_row h2) (by have := (oc.blk hg).1; simp; omega))
        replace HB := Lib.hid (HB.out.grown rx.grow HB.out.size (fun k e => by cases e; exact hwx2))
        have SS := Lib.hid (S2.out d2 _ _ m2 n2 oc2 od)
        have AS := Lib.hid fun W (hW : Below d2.heap.size d2 W) => as_any (RC.below hW (lt_of_row RC)) (rx.rd.below hW (lt_of_row rx.rd)) rc.ok
        clear rd X CX XC DX rc rx RC hne C2 R2 S2 oc oc2 od hxb
        go_wp2_with fail
        refine SS.out.mono ?_
        rintro e e2 ⟨rfl, hb⟩
        have AS1 := Lib.hid (AS.out e2 hb)
        replace HB := Lib.hid (HB.out.trans (hb.mono HB.out.size))
        clear hb AS SS
        go_wp2_with fail
        refine AS1.out.mono ?_
        rintro e f2 ⟨rfl, hb⟩
        replace HB := Lib.hid (HB.out.trans (hb.mono HB.out.size))
        clear hb AS1
        go_wp2_with fail
        refine (AW.out _).mono ?_
        rintro e w9 ⟨rfl, hb⟩
        replace HB := Lib.hid (HB.out.trans (hb.mono HB.out.size))
        clear hb AW
        go_wp2
        go_ret
        exact ⟨rfl, HB.out⟩
end Go.Proofs.YtdhlebmgeiiejaaGreat
