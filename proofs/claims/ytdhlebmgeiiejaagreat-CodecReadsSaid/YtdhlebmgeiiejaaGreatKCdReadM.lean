/- The code's codec: a message is read. Written by wip/tools/gencdrm.py. -/
import Derived.Test.YtdhlebmgeiiejaaGreatKCdShape
import Derived.Test.YtdhlebmgeiiejaaGreatKCdFits
import Derived.Test.YtdhlebmgeiiejaaGreatKCdTListI
import Derived.Test.YtdhlebmgeiiejaaGreatKCdTListB
import Derived.Test.YtdhlebmgeiiejaaGreatKCdTListC
namespace Go.Proofs.YtdhlebmgeiiejaaGreat
open Go.RowKit Pz Cd
set_option linter.unusedVariables false
set_option linter.unusedSimpArgs false

namespace Cd
def rawLs (k : Int) (q : Rr) : (List Cn × List Bn × List NKy) × Rr :=
  if k = 1 then (((kC.takeL 64 q).1, [], []), (kC.takeL 64 q).2)
  else if k = 4 then (([], [], (kID.takeL 1024 q).1), (kID.takeL 1024 q).2)
  else if k = 7 then (([], (kB.takeL 1 q).1, []), (kB.takeL 1 q).2)
  else if k = 12 then (([], (kB.takeL 1024 q).1, []), (kB.takeL 1024 q).2)
  else (([], [], []), q)
/-- a message as it comes -/
def rawM (q : Rr) : Mn × Rr :=
  let k := tInt q
  let t := optT (hasT k.1) k.2
  let n := optT (hasN k.1) t.2
  let l := rawLs k.1 n.2
  (⟨k.1, t.1, n.1, l.1.1, l.1.2.1, l.1.2.2⟩, l.2)
end Cd
theorem Rw.other {α : Type} {enc : α → List Value} {T s : Nat} {W : World} {B : Nat} {v : Value} {l : List α} (h : Rw enc T s W B v l) {o j : Nat} {c : Array Value} {T' : TypeId} (ho : W.heap[o]? = some (.cells c T' (0, 0))) (hne : T ≠ T') (u : Value) : Rw enc T s (W.setCell ⟨o, j, none⟩ u) B v l :=
  h.kept fun b hb => by
    obtain ⟨_, cur, hc⟩ := h.blk hb
    exact Bx.ne (Bx.ne_type hc ho hne) _
/-- what is handed back: rows of one's own -/
def MsgOwn (W : World) (B : Nat) (m : Mn) (v : Value) : Prop := ∃ vc vb vi, v = .agg #[.int .i64 m.k, .int .i64 m.t, .int .i64 m.n, vc, vb, vi] ∧ OwnC W B vc m.c ∧ OwnB W B vb m.b ∧ OwnN W B vi m.i
set_option maxHeartbeats 16000000 in
set_option maxRecDepth 100000 in
theorem readmsg_1 {b : Nat} {w : World} {q : Rr} (h : CQ b w q w) (hk : (tInt q).1 = 1) : Calls Tryz.prog 75 #[.pointer (some ⟨b, 0, none⟩)] w fun e W' => (∃ v, e = .returned v ∧ MsgOwn W' w.heap.size (rawM q).1 v) ∧ CQ b w (rawM q).2 W' := by
  have e1 : hasT (tInt q).1 = true := by rw [hk]; rfl
  have e2 : hasN (tInt q).1 = false := by rw [hk]; rfl
  have e3 : nC (tInt q).1 = 64 := by rw [hk]; rfl
  have e4 : nB (tInt q).1 = 0 := by rw [hk]; rfl
  have e5 : nI (tInt q).1 = 0 := by rw [hk]; rfl
  have HM : rawM q = (⟨(tInt q).1, (tInt (tInt q).2).1, 0, (kC.takeL 64 (tInt (tInt q).2).2).1, [], []⟩, (kC.takeL 64 (tInt (tInt q).2).2).2) := by
    unfold rawM
    simp only [e1, e2]
    have hl : ∀ r, rawLs (tInt q).1 r = (((kC.takeL 64 r).1, [], []), (kC.takeL 64 r).2) := fun r => by
      unfold rawLs
      rw [if_pos hk]
    rw [hl]
    rfl
  rw [HM]
  clear HM
  have C0 := Lib.hid fun W (hW : CQ b w q W) => ctake_int hW
  have C1 := Lib.hid fun W (hW : CQ b w (tInt q).2 W) => ctake_int hW
  have SH := Lib.hid fun W => shape_any (tInt q).1 W
  simp only [shV] at SH
  rw [e1, e2, e3, e4, e5] at SH
  have TL : Hid (∀ W, CQ b w (tInt (tInt q).2).2 W → Calls Tryz.prog 23 #[.pointer (some ⟨b, 0, none⟩), .int .i64 64, .func (.func 14) #[] #[]] W fun e W' => (∃ v, e = .returned v ∧ OwnC W' w.heap.size v (kC.takeL 64 (tInt (tInt q).2).2).1) ∧ CQ b w (kC.takeL 64 (tInt (tInt q).2).2).2 W' ∧ W.grownBy W' (some b)) := Lib.hid fun W hW => (ctakelist_c 64 hW.rebase (.inr (by decide))).mono fun e W' ⟨⟨v, h1, h2⟩, h3⟩ => ⟨⟨v, h1, h2.base hW.grow.size⟩, hW.trans h3, h3.grow⟩
  clear e1 e2 e3 e4 e5 hk
  generalize (kC.takeL 64 (tInt (tInt q).2).2) = tl at *
  obtain ⟨ll, q9⟩ := tl
  generalize isK (tInt q).1 = rk at *
  generalize tInt (tInt q).2 = pt at *
  obtain ⟨tt, q5⟩ := pt
  generalize tInt q = pk at *
  obtain ⟨k, q1⟩ := pk
  simp only at *
  have hb := h.lt
  have B0 := Lib.hid (at1 w (.cells #[.int .i64 0, .int .i64 0, .int .i64 0, .slice none 0 0, .slice none 0 0, .slice none 0 0] MT))
  have HR := Lib.hid (h.below (bel1 w (.cells #[.int .i64 0, .int .i64 0, .int .i64 0, .slice none 0 0, .slice none 0 0, .slice none 0 0] MT)))
  clear h
  go_enter Tryz.func75, Tryz.ntmps75
  go_wp2_with fail
  generalize w.alloc (.cells #[.int .i64 0, .int .i64 0, .int .i64 0, .slice none 0 0, .slice none 0 0, .slice none 0 0] MT) = wa at *
  refine (C0.out _ HR.out).mono ?_
  rintro e w1 ⟨rfl, r1, g1⟩
  replace B0 := Lib.hid ((g1.block _ (lt_of_row B0.out) (by simp; omega)).trans B0.out)
  clear HR g1 C0
  have HR := Lib.hid r1
  clear r1
  go_upto_region 2 with fail
  have HA := Lib.hid (bel1 w1 (.cells #[.int .i64 k, .int .i64 0, .int .i64 0, .slice none 0 0, .slice none 0 0, .slice none 0 0] MT))
  have B1 := Lib.hid (at1 w1 (.cells #[.int .i64 k, .int .i64 0, .int .i64 0, .slice none 0 0, .slice none 0 0, .slice none 0 0] MT))
  have loB1 : w.heap.size ≤ w1.heap.size := HR.out.grow.size
  have ltB0B1 := lt_of_row B0.out
  replace B0 := Lib.hid ((HA.out.block _ (lt_of_row B0.out)).trans B0.out)
  replace HR := Lib.hid (HR.out.below HA.out)
  clear HA
  generalize w1.alloc (.cells #[.int .i64 k, .int .i64 0, .int .i64 0, .slice none 0 0, .slice none 0 0, .slice none 0 0] MT) = w2 at *
  generalize w1.heap.size = o1 at *
  obtain ⟨⟨m0, m1, m2, m3, m4, m5⟩, _⟩ := Bx.b6 B1.out
  go_wp2_with fail
  refine (SH.out _).mono ?_
  rintro e w3 ⟨rfl, hbb⟩
  replace B0 := Lib.hid ((hbb.block _ (lt_of_row B0.out)).trans B0.out)
  replace B1 := Lib.hid ((hbb.block _ (lt_of_row B1.out)).trans B1.out)
  replace HR := Lib.hid (HR.out.below hbb)
  clear hbb SH m0 m1 m2 m3 m4 m5
  go_upto_region 3 with fail
  have HA := Lib.hid (bel1 w3 (.cells #[.bool true, .bool false, .int .i64 64, .int .i64 0, .int .i64 0] SHT))
  have B2 := Lib.hid (at1 w3 (.cells #[.bool true, .bool false, .int .i64 64, .int .i64 0, .int .i64 0] SHT))
  have loB2 : w.heap.size ≤ w3.heap.size := HR.out.grow.size
  have ltB0B2 := lt_of_row B0.out
  have ltB1B2 := lt_of_row B1.out
  replace B0 := Lib.hid ((HA.out.block _ (lt_of_row B0.out)).trans B0.out)
  replace B1 := Lib.hid ((HA.out.block _ (lt_of_row B1.out)).trans B1.out)
  replace HR := Lib.hid (HR.out.below HA.out)
  clear HA
  generalize w3.alloc (.cells #[.bool true, .bool false, .int .i64 64, .int .i64 0, .int .i64 0] SHT) = w4 at *
  generalize w3.heap.size = o2 at *
  obtain ⟨⟨h0, h1, h2, h3, h4⟩, _⟩ := Bx.b5 B2.out
  go_wp2_with fail
  clear h0 h1 h2 h3 h4
  refine (C1.out _ HR.out).mono ?_
  rintro e w5 ⟨rfl, r1, g1⟩
  replace B0 := Lib.hid ((g1.block _ (lt_of_row B0.out) (by simp; omega)).trans B0.out)
  replace B1 := Lib.hid ((g1.block _ (lt_of_row B1.out) (by simp; omega)).trans B1.out)
  replace B2 := Lib.hid ((g1.block _ (lt_of_row B2.out) (by simp; omega)).trans B2.out)
  clear HR g1 C1
  have HR := Lib.hid r1
  clear r1
  obtain ⟨⟨m0, m1, m2, m3, m4, m5⟩, ⟨d0, d1, d2, d3, d4, d5⟩⟩ := Bx.b6 B1.out
  obtain ⟨⟨h0, h1, h2, h3, h4⟩, _⟩ := Bx.b5 B2.out
  go_upto_region 5 with fail
  clear m0 m1 m2 m3 m4 m5 d0 d1 d2 d3 d4 d5 h0 h1 h2 h3 h4
  have n1 : Hid ((w5.setCell ⟨o1, 1, none⟩ (.int .i64 tt)).heap[o1]? = some (.cells #[.int .i64 k, .int .i64 tt, .int .i64 0, .slice none 0 0, .slice none 0 0, .slice none 0 0] MT (0, 0))) := Lib.hid (heap_setCell_same _ o1 1 _ MT (.int .i64 tt) B1.out)
  have n0 : Hid ((w5.setCell ⟨o1, 1, none⟩ (.int .i64 tt)).heap[w.heap.size]? = some (.cells #[.int .i64 0, .int .i64 0, .int .i64 0, .slice none 0 0, .slice none 0 0, .slice none 0 0] MT (0, 0))) := Lib.hid ((Bx.ne (by omega) _).trans B0.out)
  have n2 : Hid ((w5.setCell ⟨o1, 1, none⟩ (.int .i64 tt)).heap[o2]? = some (.cells #[.bool true, .bool false, .int .i64 64, .int .i64 0, .int .i64 0] SHT (0, 0))) := Lib.hid ((Bx.ne (by omega) _).trans B2.out)
  replace HR := Lib.hid (RX.set HR.out loB1 1 (.int .i64 tt))
  replace B1 := n1
  replace B0 := n0
  replace B2 := n2
  clear n0 n1 n2
  generalize (w5.setCell ⟨o1, 1, none⟩ (.int .i64 tt)) = w6 at *
  obtain ⟨⟨h0, h1, h2, h3, h4⟩, _⟩ := Bx.b5 B2.out
  go_wp2_with fail
  clear h0 h1 h2 h3 h4
  refine (TL.out _ HR.out).mono ?_
  rintro e w7 ⟨⟨v9, rfl, ho9⟩, r1, g1⟩
  replace B0 := Lib.hid ((g1.block _ (lt_of_row B0.out) (by simp; omega)).trans B0.out)
  replace B1 := Lib.hid ((g1.block _ (lt_of_row B1.out) (by simp; omega)).trans B1.out)
  replace B2 := Lib.hid ((g1.block _ (lt_of_row B2.out) (by simp; omega)).trans B2.out)
  clear HR g1 TL
  have HR := Lib.hid r1
  clear r1
  have HO := Lib.hid ho9
  clear ho9
  obtain ⟨⟨m0, m1, m2, m3, m4, m5⟩, ⟨d0, d1, d2, d3, d4, d5⟩⟩ := Bx.b6 B1.out
  obtain ⟨⟨h0, h1, h2, h3, h4⟩, _⟩ := Bx.b5 B2.out
  obtain ⟨A9, c9, rfl⟩ := HO.out.form
  go_upto_region 13 with fail
  clear m0 m1 m2 m3 m4 m5 d0 d1 d2 d3 d4 d5 h0 h1 h2 h3 h4
  have n1 : Hid ((w7.setCell ⟨o1, 3, none⟩ (.slice A9 ll.length c9)).heap[o1]? = some (.cells #[.int .i64 k, .int .i64 tt, .int .i64 0, .slice A9 ll.length c9, .slice none 0 0, .slice none 0 0] MT (0, 0))) := Lib.hid (heap_setCell_same _ o1 3 _ MT (.slice A9 ll.length c9) B1.out)
  have n0 : Hid ((w7.setCell ⟨o1, 3, none⟩ (.slice A9 ll.length c9)).heap[w.heap.size]? = some (.cells #[.int .i64 0, .int .i64 0, .int .i64 0, .slice none 0 0, .slice none 0 0, .slice none 0 0] MT (0, 0))) := Lib.hid ((Bx.ne (by omega) _).trans B0.out)
  have n2 : Hid ((w7.setCell ⟨o1, 3, none⟩ (.slice A9 ll.length c9)).heap[o2]? = some (.cells #[.bool true, .bool false, .int .i64 64, .int .i64 0, .int .i64 0] SHT (0, 0))) := Lib.hid ((Bx.ne (by omega) _).trans B2.out)
  replace HO := Lib.hid (HO.out.other (j := 3) B1.out (by decide) (.slice A9 ll.length c9))
  replace HR := Lib.hid (RX.set HR.out loB1 3 (.slice A9 ll.length c9))
  replace B1 := n1
  replace B0 := n0
  replace B2 := n2
  clear n0 n1 n2
  generalize (w7.setCell ⟨o1, 3, none⟩ (.slice A9 ll.length c9)) = w8 at *
  obtain ⟨⟨k0, k1, k2, k3, k4, k5⟩, _⟩ := Bx.b6 B1.out
  obtain ⟨⟨l0, l1, l2, l3, l4, l5⟩, ⟨f0, f1, f2, f3, f4, f5⟩⟩ := Bx.b6 B0.out
  have HP := Lib.hid (Bx.b6 (Bx.set6 B0.out (.int .i64 k) (.int .i64 tt) (.int .i64 0) (.slice A9 ll.length c9) (.slice none 0 0) (.slice none 0 0))).1
  have HQ := Lib.hid (RX.set (RX.set (RX.set (RX.set (RX.set (RX.set HR.out (Nat.le_refl _) 0 (.int .i64 k)) (Nat.le_refl _) 1 (.int .i64 tt)) (Nat.le_refl _) 2 (.int .i64 0)) (Nat.le_refl _) 3 (.slice A9 ll.length c9)) (Nat.le_refl _) 4 (.slice none 0 0)) (Nat.le_refl _) 5 (.slice none 0 0))
  have s0 : w8.heap[w.heap.size]? = some (.cells #[.int .i64 0, .int .i64 0, .int .i64 0, .slice none 0 0, .slice none 0 0, .slice none 0 0] MT (0, 0)) := B0.out
  replace HO := Lib.hid (HO.out.other (j := 0) s0 (by decide) (.int .i64 k))
  have s1 : (w8.setCell ⟨w.heap.size, 0, none⟩ (.int .i64 k)).heap[w.heap.size]? = some (.cells #[.int .i64 k, .int .i64 0, .int .i64 0, .slice none 0 0, .slice none 0 0, .slice none 0 0] MT (0, 0)) := heap_setCell_same _ w.heap.size 0 _ MT (.int .i64 k) s0
  replace HO := Lib.hid (HO.out.other (j := 1) s1 (by decide) (.int .i64 tt))
  have s2 : ((w8.setCell ⟨w.heap.size, 0, none⟩ (.int .i64 k)).setCell ⟨w.heap.size, 1, none⟩ (.int .i64 tt)).heap[w.heap.size]? = some (.cells #[.int .i64 k, .int .i64 tt, .int .i64 0, .slice none 0 0, .slice none 0 0, .slice none 0 0] MT (0, 0)) := heap_setCell_same _ w.heap.size 1 _ MT (.int .i64 tt) s1
  replace HO := Lib.hid (HO.out.other (j := 2) s2 (by decide) (.int .i64 0))
  have s3 : (((w8.setCell ⟨w.heap.size, 0, none⟩ (.int .i64 k)).setCell ⟨w.heap.size, 1, none⟩ (.int .i64 tt)).setCell ⟨w.heap.size, 2, none⟩ (.int .i64 0)).heap[w.heap.size]? = some (.cells #[.int .i64 k, .int .i64 tt, .int .i64 0, .slice none 0 0, .slice none 0 0, .slice none 0 0] MT (0, 0)) := heap_setCell_same _ w.heap.size 2 _ MT (.int .i64 0) s2
  replace HO := Lib.hid (HO.out.other (j := 3) s3 (by decide) (.slice A9 ll.length c9))
  have s4 : ((((w8.setCell ⟨w.heap.size, 0, none⟩ (.int .i64 k)).setCell ⟨w.heap.size, 1, none⟩ (.int .i64 tt)).setCell ⟨w.heap.size, 2, none⟩ (.int .i64 0)).setCell ⟨w.heap.size, 3, none⟩ (.slice A9 ll.length c9)).heap[w.heap.size]? = some (.cells #[.int .i64 k, .int .i64 tt, .int .i64 0, .slice A9 ll.length c9, .slice none 0 0, .slice none 0 0] MT (0, 0)) := heap_setCell_same _ w.heap.size 3 _ MT (.slice A9 ll.length c9) s3
  replace HO := Lib.hid (HO.out.other (j := 4) s4 (by decide) (.slice none 0 0))
  have s5 : (((((w8.setCell ⟨w.heap.size, 0, none⟩ (.int .i64 k)).setCell ⟨w.heap.size, 1, none⟩ (.int .i64 tt)).setCell ⟨w.heap.size, 2, none⟩ (.int .i64 0)).setCell ⟨w.heap.size, 3, none⟩ (.slice A9 ll.length c9)).setCell ⟨w.heap.size, 4, none⟩ (.slice none 0 0)).heap[w.heap.size]? = some (.cells #[.int .i64 k, .int .i64 tt, .int .i64 0, .slice A9 ll.length c9, .slice none 0 0, .slice none 0 0] MT (0, 0)) := heap_setCell_same _ w.heap.size 4 _ MT (.slice none 0 0) s4
  replace HO := Lib.hid (HO.out.other (j := 5) s5 (by decide) (.slice none 0 0))
  clear s0 s1 s2 s3 s4 s5
  clear HR B0 B1 B2
  go_wp2
  obtain ⟨p0, p1, p2, p3, p4, p5⟩ := HP.out
  exact bodyPost_ret (v := .agg #[.int .i64 k, .int .i64 tt, .int .i64 0, .slice A9 ll.length c9, .slice none 0 0, .slice none 0 0]) (by simp [results, Tryz.results75, go_sem, p0, p1, p2, p3, p4, p5]) rfl ⟨⟨_, rfl, _, _, _, rfl, HO.out, rw_nil _ _, rw_nil _ _⟩, HQ.out⟩
set_option maxHeartbeats 16000000 in
set_option maxRecDepth 100000 in
theorem readmsg_2 {b : Nat} {w : World} {q : Rr} (h : CQ b w q w) (hk : (tInt q).1 = 2 ∨ (tInt q).1 = 3 ∨ (tInt q).1 = 5 ∨ (tInt q).1 = 6 ∨ (tInt q).1 = 11) : Calls Tryz.prog 75 #[.pointer (some ⟨b, 0, none⟩)] w fun e W' => (∃ v, e = .returned v ∧ MsgOwn W' w.heap.size (rawM q).1 v) ∧ CQ b w (rawM q).2 W' := by
  have e1 : hasT (tInt q).1 = true := by rcases hk with hk | hk | hk | hk | hk <;> (rw [hk]; rfl)
  have e2 : hasN (tInt q).1 = false := by rcases hk with hk | hk | hk | hk | hk <;> (rw [hk]; rfl)
  have e3 : nC (tInt q).1 = 0 := by rcases hk with hk | hk | hk | hk | hk <;> (rw [hk]; rfl)
  have e4 : nB (tInt q).1 = 0 := by rcases hk with hk | hk | hk | hk | hk <;> (rw [hk]; rfl)
  have e5 : nI (tInt q).1 = 0 := by rcases hk with hk | hk | hk | hk | hk <;> (rw [hk]; rfl)
  have HM : rawM q = (⟨(tInt q).1, (tInt (tInt q).2).1, 0, [], [], []⟩, (tInt (tInt q).2).2) := by
    unfold rawM
    simp only [e1, e2]
    have hl : ∀ r, rawLs (tInt q).1 r = (([], [], []), r) := fun r => by
      unfold rawLs
      rw [if_neg (by omega), if_neg (by omega), if_neg (by omega), if_neg (by omega)]
    rw [hl]
    rfl
  rw [HM]
  clear HM
  have C0 := Lib.hid fun W (hW : CQ b w q W) => ctake_int hW
  have C1 := Lib.hid fun W (hW : CQ b w (tInt q).2 W) => ctake_int hW
  have SH := Lib.hid fun W => shape_any (tInt q).1 W
  simp only [shV] at SH
  rw [e1, e2, e3, e4, e5] at SH
  clear e1 e2 e3 e4 e5 hk
  generalize isK (tInt q).1 = rk at *
  generalize tInt (tInt q).2 = pt at *
  obtain ⟨tt, q5⟩ := pt
  generalize tInt q = pk at *
  obtain ⟨k, q1⟩ := pk
  simp only at *
  have hb := h.lt
  have B0 := Lib.hid (at1 w (.cells #[.int .i64 0, .int .i64 0, .int .i64 0, .slice none 0 0, .slice none 0 0, .slice none 0 0] MT))
  have HR := Lib.hid (h.below (bel1 w (.cells #[.int .i64 0, .int .i64 0, .int .i64 0, .slice none 0 0, .slice none 0 0, .slice none 0 0] MT)))
  clear h
  go_enter Tryz.func75, Tryz.ntmps75
  go_wp2_with fail
  generalize w.alloc (.cells #[.int .i64 0, .int .i64 0, .int .i64 0, .slice none 0 0, .slice none 0 0, .slice none 0 0] MT) = wa at *
  refine (C0.out _ HR.out).mono ?_
  rintro e w1 ⟨rfl, r1, g1⟩
  replace B0 := Lib.hid ((g1.block _ (lt_of_row B0.out) (by simp; omega)).trans B0.out)
  clear HR g1 C0
  have HR := Lib.hid r1
  clear r1
  go_upto_region 2 with fail
  have HA := Lib.hid (bel1 w1 (.cells #[.int .i64 k, .int .i64 0, .int .i64 0, .slice none 0 0, .slice none 0 0, .slice none 0 0] MT))
  have B1 := Lib.hid (at1 w1 (.cells #[.int .i64 k, .int .i64 0, .int .i64 0, .slice none 0 0, .slice none 0 0, .slice none 0 0] MT))
  have loB1 : w.heap.size ≤ w1.heap.size := HR.out.grow.size
  have ltB0B1 := lt_of_row B0.out
  replace B0 := Lib.hid ((HA.out.block _ (lt_of_row B0.out)).trans B0.out)
  replace HR := Lib.hid (HR.out.below HA.out)
  clear HA
  generalize w1.alloc (.cells #[.int .i64 k, .int .i64 0, .int .i64 0, .slice none 0 0, .slice none 0 0, .slice none 0 0] MT) = w2 at *
  generalize w1.heap.size = o1 at *
  obtain ⟨⟨m0, m1, m2, m3, m4, m5⟩, _⟩ := Bx.b6 B1.out
  go_wp2_with fail
  refine (SH.out _).mono ?_
  rintro e w3 ⟨rfl, hbb⟩
  replace B0 := Lib.hid ((hbb.block _ (lt_of_row B0.out)).trans B0.out)
  replace B1 := Lib.hid ((hbb.block _ (lt_of_row B1.out)).trans B1.out)
  replace HR := Lib.hid (HR.out.below hbb)
  clear hbb SH m0 m1 m2 m3 m4 m5
  go_upto_region 3 with fail
  have HA := Lib.hid (bel1 w3 (.cells #[.bool true, .bool false, .int .i64 0, .int .i64 0, .int .i64 0] SHT))
  have B2 := Lib.hid (at1 w3 (.cells #[.bool true, .bool false, .int .i64 0, .int .i64 0, .int .i64 0] SHT))
  have loB2 : w.heap.size ≤ w3.heap.size := HR.out.grow.size
  have ltB0B2 := lt_of_row B0.out
  have ltB1B2 := lt_of_row B1.out
  replace B0 := Lib.hid ((HA.out.block _ (lt_of_row B0.out)).trans B0.out)
  replace B1 := Lib.hid ((HA.out.block _ (lt_of_row B1.out)).trans B1.out)
  replace HR := Lib.hid (HR.out.below HA.out)
  clear HA
  generalize w3.alloc (.cells #[.bool true, .bool false, .int .i64 0, .int .i64 0, .int .i64 0] SHT) = w4 at *
  generalize w3.heap.size = o2 at *
  obtain ⟨⟨h0, h1, h2, h3, h4⟩, _⟩ := Bx.b5 B2.out
  go_wp2_with fail
  clear h0 h1 h2 h3 h4
  refine (C1.out _ HR.out).mono ?_
  rintro e w5 ⟨rfl, r1, g1⟩
  replace B0 := Lib.hid ((g1.block _ (lt_of_row B0.out) (by simp; omega)).trans B0.out)
  replace B1 := Lib.hid ((g1.block _ (lt_of_row B1.out) (by simp; omega)).trans B1.out)
  replace B2 := Lib.hid ((g1.block _ (lt_of_row B2.out) (by simp; omega)).trans B2.out)
  clear HR g1 C1
  have HR := Lib.hid r1
  clear r1
  obtain ⟨⟨m0, m1, m2, m3, m4, m5⟩, ⟨d0, d1, d2, d3, d4, d5⟩⟩ := Bx.b6 B1.out
  obtain ⟨⟨h0, h1, h2, h3, h4⟩, _⟩ := Bx.b5 B2.out
  go_upto_region 5 with fail
  clear m0 m1 m2 m3 m4 m5 d0 d1 d2 d3 d4 d5 h0 h1 h2 h3 h4
  have n1 : Hid ((w5.setCell ⟨o1, 1, none⟩ (.int .i64 tt)).heap[o1]? = some (.cells #[.int .i64 k, .int .i64 tt, .int .i64 0, .slice none 0 0, .slice none 0 0, .slice none 0 0] MT (0, 0))) := Lib.hid (heap_setCell_same _ o1 1 _ MT (.int .i64 tt) B1.out)
  have n0 : Hid ((w5.setCell ⟨o1, 1, none⟩ (.int .i64 tt)).heap[w.heap.size]? = some (.cells #[.int .i64 0, .int .i64 0, .int .i64 0, .slice none 0 0, .slice none 0 0, .slice none 0 0] MT (0, 0))) := Lib.hid ((Bx.ne (by omega) _).trans B0.out)
  have n2 : Hid ((w5.setCell ⟨o1, 1, none⟩ (.int .i64 tt)).heap[o2]? = some (.cells #[.bool true, .bool false, .int .i64 0, .int .i64 0, .int .i64 0] SHT (0, 0))) := Lib.hid ((Bx.ne (by omega) _).trans B2.out)
  replace HR := Lib.hid (RX.set HR.out loB1 1 (.int .i64 tt))
  replace B1 := n1
  replace B0 := n0
  replace B2 := n2
  clear n0 n1 n2
  generalize (w5.setCell ⟨o1, 1, none⟩ (.int .i64 tt)) = w6 at *
  obtain ⟨⟨h0, h1, h2, h3, h4⟩, _⟩ := Bx.b5 B2.out
  go_upto_region 13 with fail
  clear h0 h1 h2 h3 h4
  obtain ⟨⟨k0, k1, k2, k3, k4, k5⟩, _⟩ := Bx.b6 B1.out
  obtain ⟨⟨l0, l1, l2, l3, l4, l5⟩, ⟨f0, f1, f2, f3, f4, f5⟩⟩ := Bx.b6 B0.out
  have HP := Lib.hid (Bx.b6 (Bx.set6 B0.out (.int .i64 k) (.int .i64 tt) (.int .i64 0) (.slice none 0 0) (.slice none 0 0) (.slice none 0 0))).1
  have HQ := Lib.hid (RX.set (RX.set (RX.set (RX.set (RX.set (RX.set HR.out (Nat.le_refl _) 0 (.int .i64 k)) (Nat.le_refl _) 1 (.int .i64 tt)) (Nat.le_refl _) 2 (.int .i64 0)) (Nat.le_refl _) 3 (.slice none 0 0)) (Nat.le_refl _) 4 (.slice none 0 0)) (Nat.le_refl _) 5 (.slice none 0 0))
  clear HR B0 B1 B2
  go_wp2
  obtain ⟨p0, p1, p2, p3, p4, p5⟩ := HP.out
  exact bodyPost_ret (v := .agg #[.int .i64 k, .int .i64 tt, .int .i64 0, .slice none 0 0, .slice none 0 0, .slice none 0 0]) (by simp [results, Tryz.results75, go_sem, p0, p1, p2, p3, p4, p5]) rfl ⟨⟨_, rfl, _, _, _, rfl, rw_nil _ _, rw_nil _ _, rw_nil _ _⟩, HQ.out⟩
set_option maxHeartbeats 16000000 in
set_option maxRecDepth 100000 in
theorem readmsg_3 {b : Nat} {w : World} {q : Rr} (h : CQ b w q w) (hk : (tInt q).1 = 4) : Calls Tryz.prog 75 #[.pointer (some ⟨b, 0, none⟩)] w fun e W' => (∃ v, e = .returned v ∧ MsgOwn W' w.heap.size (rawM q).1 v) ∧ CQ b w (rawM q).2 W' := by
  have e1 : hasT (tInt q).1 = true := by rw [hk]; rfl
  have e2 : hasN (tInt q).1 = false := by rw [hk]; rfl
  have e3 : nC (tInt q).1 = 0 := by rw [hk]; rfl
  have e4 : nB (tInt q).1 = 0 := by rw [hk]; rfl
  have e5 : nI (tInt q).1 = 1024 := by rw [hk]; rfl
  have HM : rawM q = (⟨(tInt q).1, (tInt (tInt q).2).1, 0, [], [], (kID.takeL 1024 (tInt (tInt q).2).2).1⟩, (kID.takeL 1024 (tInt (tInt q).2).2).2) := by
    unfold rawM
    simp only [e1, e2]
    have hl : ∀ r, rawLs (tInt q).1 r = (([], [], (kID.takeL 1024 r).1), (kID.takeL 1024 r).2) := fun r => by
      unfold rawLs
      rw [if_neg (by omega), if_pos hk]
    rw [hl]
    rfl
  rw [HM]
  clear HM
  have C0 := Lib.hid fun W (hW : CQ b w q W) => ctake_int hW
  have C1 := Lib.hid fun W (hW : CQ b w (tInt q).2 W) => ctake_int hW
  have SH := Lib.hid fun W => shape_any (tInt q).1 W
  simp only [shV] at SH
  rw [e1, e2, e3, e4, e5] at SH
  have TL : Hid (∀ W, CQ b w (tInt (tInt q).2).2 W → Calls Tryz.prog 26 #[.pointer (some ⟨b, 0, none⟩), .int .i64 1024, .func (.func 9) #[] #[]] W fun e W' => (∃ v, e = .returned v ∧ OwnN W' w.heap.size v (kID.takeL 1024 (tInt (tInt q).2).2).1) ∧ CQ b w (kID.takeL 1024 (tInt (tInt q).2).2).2 W' ∧ W.grownBy W' (some b)) := Lib.hid fun W hW => (ctakelist_id 1024 hW.rebase (.inr (by decide))).mono fun e W' ⟨⟨v, h1, h2⟩, h3⟩ => ⟨⟨v, h1, h2.base hW.grow.size⟩, hW.trans h3, h3.grow⟩
  clear e1 e2 e3 e4 e5 hk
  generalize (kID.takeL 1024 (tInt (tInt q).2).2) = tl at *
  obtain ⟨ll, q9⟩ := tl
  generalize isK (tInt q).1 = rk at *
  generalize tInt (tInt q).2 = pt at *
  obtain ⟨tt, q5⟩ := pt
  generalize tInt q = pk at *
  obtain ⟨k, q1⟩ := pk
  simp only at *
  have hb := h.lt
  have B0 := Lib.hid (at1 w (.cells #[.int .i64 0, .int .i64 0, .int .i64 0, .slice none 0 0, .slice none 0 0, .slice none 0 0] MT))
  have HR := Lib.hid (h.below (bel1 w (.cells #[.int .i64 0, .int .i64 0, .int .i64 0, .slice none 0 0, .slice none 0 0, .slice none 0 0] MT)))
  clear h
  go_enter Tryz.func75, Tryz.ntmps75
  go_wp2_with fail
  generalize w.alloc (.cells #[.int .i64 0, .int .i64 0, .int .i64 0, .slice none 0 0, .slice none 0 0, .slice none 0 0] MT) = wa at *
  refine (C0.out _ HR.out).mono ?_
  rintro e w1 ⟨rfl, r1, g1⟩
  replace B0 := Lib.hid ((g1.block _ (lt_of_row B0.out) (by simp; omega)).trans B0.out)
  clear HR g1 C0
  have HR := Lib.hid r1
  clear r1
  go_upto_region 2 with fail
  have HA := Lib.hid (bel1 w1 (.cells #[.int .i64 k, .int .i64 0, .int .i64 0, .slice none 0 0, .slice none 0 0, .slice none 0 0] MT))
  have B1 := Lib.hid (at1 w1 (.cells #[.int .i64 k, .int .i64 0, .int .i64 0, .slice none 0 0, .slice none 0 0, .slice none 0 0] MT))
  have loB1 : w.heap.size ≤ w1.heap.size := HR.out.grow.size
  have ltB0B1 := lt_of_row B0.out
  replace B0 := Lib.hid ((HA.out.block _ (lt_of_row B0.out)).trans B0.out)
  replace HR := Lib.hid (HR.out.below HA.out)
  clear HA
  generalize w1.alloc (.cells #[.int .i64 k, .int .i64 0, .int .i64 0, .slice none 0 0, .slice none 0 0, .slice none 0 0] MT) = w2 at *
  generalize w1.heap.size = o1 at *
  obtain ⟨⟨m0, m1, m2, m3, m4, m5⟩, _⟩ := Bx.b6 B1.out
  go_wp2_with fail
  refine (SH.out _).mono ?_
  rintro e w3 ⟨rfl, hbb⟩
  replace B0 := Lib.hid ((hbb.block _ (lt_of_row B0.out)).trans B0.out)
  replace B1 := Lib.hid ((hbb.block _ (lt_of_row B1.out)).trans B1.out)
  replace HR := Lib.hid (HR.out.below hbb)
  clear hbb SH m0 m1 m2 m3 m4 m5
  go_upto_region 3 with fail
  have HA := Lib.hid (bel1 w3 (.cells #[.bool true, .bool false, .int .i64 0, .int .i64 0, .int .i64 1024] SHT))
  have B2 := Lib.hid (at1 w3 (.cells #[.bool true, .bool false, .int .i64 0, .int .i64 0, .int .i64 1024] SHT))
  have loB2 : w.heap.size ≤ w3.heap.size := HR.out.grow.size
  have ltB0B2 := lt_of_row B0.out
  have ltB1B2 := lt_of_row B1.out
  replace B0 := Lib.hid ((HA.out.block _ (lt_of_row B0.out)).trans B0.out)
  replace B1 := Lib.hid ((HA.out.block _ (lt_of_row B1.out)).trans B1.out)
  replace HR := Lib.hid (HR.out.below HA.out)
  clear HA
  generalize w3.alloc (.cells #[.bool true, .bool false, .int .i64 0, .int .i64 0, .int .i64 1024] SHT) = w4 at *
  generalize w3.heap.size = o2 at *
  obtain ⟨⟨h0, h1, h2, h3, h4⟩, _⟩ := Bx.b5 B2.out
  go_wp2_with fail
  clear h0 h1 h2 h3 h4
  refine (C1.out _ HR.out).mono ?_
  rintro e w5 ⟨rfl, r1, g1⟩
  replace B0 := Lib.hid ((g1.block _ (lt_of_row B0.out) (by simp; omega)).trans B0.out)
  replace B1 := Lib.hid ((g1.block _ (lt_of_row B1.out) (by simp; omega)).trans B1.out)
  replace B2 := Lib.hid ((g1.block _ (lt_of_row B2.out) (by simp; omega)).trans B2.out)
  clear HR g1 C1
  have HR := Lib.hid r1
  clear r1
  obtain ⟨⟨m0, m1, m2, m3, m4, m5⟩, ⟨d0, d1, d2, d3, d4, d5⟩⟩ := Bx.b6 B1.out
  obtain ⟨⟨h0, h1, h2, h3, h4⟩, _⟩ := Bx.b5 B2.out
  go_upto_region 5 with fail
  clear m0 m1 m2 m3 m4 m5 d0 d1 d2 d3 d4 d5 h0 h1 h2 h3 h4
  have n1 : Hid ((w5.setCell ⟨o1, 1, none⟩ (.int .i64 tt)).heap[o1]? = some (.cells #[.int .i64 k, .int .i64 tt, .int .i64 0, .slice none 0 0, .slice none 0 0, .slice none 0 0] MT (0, 0))) := Lib.hid (heap_setCell_same _ o1 1 _ MT (.int .i64 tt) B1.out)
  have n0 : Hid ((w5.setCell ⟨o1, 1, none⟩ (.int .i64 tt)).heap[w.heap.size]? = some (.cells #[.int .i64 0, .int .i64 0, .int .i64 0, .slice none 0 0, .slice none 0 0, .slice none 0 0] MT (0, 0))) := Lib.hid ((Bx.ne (by omega) _).trans B0.out)
  have n2 : Hid ((w5.setCell ⟨o1, 1, none⟩ (.int .i64 tt)).heap[o2]? = some (.cells #[.bool true, .bool false, .int .i64 0, .int .i64 0, .int .i64 1024] SHT (0, 0))) := Lib.hid ((Bx.ne (by omega) _).trans B2.out)
  replace HR := Lib.hid (RX.set HR.out loB1 1 (.int .i64 tt))
  replace B1 := n1
  replace B0 := n0
  replace B2 := n2
  clear n0 n1 n2
  generalize (w5.setCell ⟨o1, 1, none⟩ (.int .i64 tt)) = w6 at *
  obtain ⟨⟨h0, h1, h2, h3, h4⟩, _⟩ := Bx.b5 B2.out
  go_wp2_with fail
  clear h0 h1 h2 h3 h4
  refine (TL.out _ HR.out).mono ?_
  rintro e w7 ⟨⟨v9, rfl, ho9⟩, r1, g1⟩
  replace B0 := Lib.hid ((g1.block _ (lt_of_row B0.out) (by simp; omega)).trans B0.out)
  replace B1 := Lib.hid ((g1.block _ (lt_of_row B1.out) (by simp; omega)).trans B1.out)
  replace B2 := Lib.hid ((g1.block _ (lt_of_row B2.out) (by simp; omega)).trans B2.out)
  clear HR g1 TL
  have HR := Lib.hid r1
  clear r1
  have HO := Lib.hid ho9
  clear ho9
  obtain ⟨⟨m0, m1, m2, m3, m4, m5⟩, ⟨d0, d1, d2, d3, d4, d5⟩⟩ := Bx.b6 B1.out
  obtain ⟨⟨h0, h1, h2, h3, h4⟩, _⟩ := Bx.b5 B2.out
  obtain ⟨A9, c9, rfl⟩ := HO.out.form
  go_upto_region 13 with fail
  clear m0 m1 m2 m3 m4 m5 d0 d1 d2 d3 d4 d5 h0 h1 h2 h3 h4
  have n1 : Hid ((w7.setCell ⟨o1, 5, none⟩ (.slice A9 ll.length c9)).heap[o1]? = some (.cells #[.int .i64 k, .int .i64 tt, .int .i64 0, .slice none 0 0, .slice none 0 0, .slice A9 ll.length c9] MT (0, 0))) := Lib.hid (heap_setCell_same _ o1 5 _ MT (.slice A9 ll.length c9) B1.out)
  have n0 : Hid ((w7.setCell ⟨o1, 5, none⟩ (.slice A9 ll.length c9)).heap[w.heap.size]? = some (.cells #[.int .i64 0, .int .i64 0, .int .i64 0, .slice none 0 0, .slice none 0 0, .slice none 0 0] MT (0, 0))) := Lib.hid ((Bx.ne (by omega) _).trans B0.out)
  have n2 : Hid ((w7.setCell ⟨o1, 5, none⟩ (.slice A9 ll.length c9)).heap[o2]? = some (.cells #[.bool true, .bool false, .int .i64 0, .int .i64 0, .int .i64 1024] SHT (0, 0))) := Lib.hid ((Bx.ne (by omega) _).trans B2.out)
  replace HO := Lib.hid (HO.out.other (j := 5) B1.out (by decide) (.slice A9 ll.length c9))
  replace HR := Lib.hid (RX.set HR.out loB1 5 (.slice A9 ll.length c9))
  replace B1 := n1
  replace B0 := n0
  replace B2 := n2
  clear n0 n1 n2
  generalize (w7.setCell ⟨o1, 5, none⟩ (.slice A9 ll.length c9)) = w8 at *
  obtain ⟨⟨k0, k1, k2, k3, k4, k5⟩, _⟩ := Bx.b6 B1.out
  obtain ⟨⟨l0, l1, l2, l3, l4, l5⟩, ⟨f0, f1, f2, f3, f4, f5⟩⟩ := Bx.b6 B0.out
  have HP := Lib.hid (Bx.b6 (Bx.set6 B0.out (.int .i64 k) (.int .i64 tt) (.int .i64 0) (.slice none 0 0) (.slice none 0 0) (.slice A9 ll.length c9))).1
  have HQ := Lib.hid (RX.set (RX.set (RX.set (RX.set (RX.set (RX.set HR.out (Nat.le_refl _) 0 (.int .i64 k)) (Nat.le_refl _) 1 (.int .i64 tt)) (Nat.le_refl _) 2 (.int .i64 0)) (Nat.le_refl _) 3 (.slice none 0 0)) (Nat.le_refl _) 4 (.slice none 0 0)) (Nat.le_refl _) 5 (.slice A9 ll.length c9))
  have s0 : w8.heap[w.heap.size]? = some (.cells #[.int .i64 0, .int .i64 0, .int .i64 0, .slice none 0 0, .slice none 0 0, .slice none 0 0] MT (0, 0)) := B0.out
  replace HO := Lib.hid (HO.out.other (j := 0) s0 (by decide) (.int .i64 k))
  have s1 : (w8.setCell ⟨w.heap.size, 0, none⟩ (.int .i64 k)).heap[w.heap.size]? = some (.cells #[.int .i64 k, .int .i64 0, .int .i64 0, .slice none 0 0, .slice none 0 0, .slice none 0 0] MT (0, 0)) := heap_setCell_same _ w.heap.size 0 _ MT (.int .i64 k) s0
  replace HO := Lib.hid (HO.out.other (j := 1) s1 (by decide) (.int .i64 tt))
  have s2 : ((w8.setCell ⟨w.heap.size, 0, none⟩ (.int .i64 k)).setCell ⟨w.heap.size, 1, none⟩ (.int .i64 tt)).heap[w.heap.size]? = some (.cells #[.int .i64 k, .int .i64 tt, .int .i64 0, .slice none 0 0, .slice none 0 0, .slice none 0 0] MT (0, 0)) := heap_setCell_same _ w.heap.size 1 _ MT (.int .i64 tt) s1
  replace HO := Lib.hid (HO.out.other (j := 2) s2 (by decide) (.int .i64 0))
  have s3 : (((w8.setCell ⟨w.heap.size, 0, none⟩ (.int .i64 k)).setCell ⟨w.heap.size, 1, none⟩ (.int .i64 tt)).setCell ⟨w.heap.size, 2, none⟩ (.int .i64 0)).heap[w.heap.size]? = some (.cells #[.int .i64 k, .int .i64 tt, .int .i64 0, .slice none 0 0, .slice none 0 0, .slice none 0 0] MT (0, 0)) := heap_setCell_same _ w.heap.size 2 _ MT (.int .i64 0) s2
  replace HO := Lib.hid (HO.out.other (j := 3) s3 (by decide) (.slice none 0 0))
  have s4 : ((((w8.setCell ⟨w.heap.size, 0, none⟩ (.int .i64 k)).setCell ⟨w.heap.size, 1, none⟩ (.int .i64 tt)).setCell ⟨w.heap.size, 2, none⟩ (.int .i64 0)).setCell ⟨w.heap.size, 3, none⟩ (.slice none 0 0)).heap[w.heap.size]? = some (.cells #[.int .i64 k, .int .i64 tt, .int .i64 0, .slice none 0 0, .slice none 0 0, .slice none 0 0] MT (0, 0)) := heap_setCell_same _ w.heap.size 3 _ MT (.slice none 0 0) s3
  replace HO := Lib.hid (HO.out.other (j := 4) s4 (by decide) (.slice none 0 0))
  have s5 : (((((w8.setCell ⟨w.heap.size, 0, none⟩ (.int .i64 k)).setCell ⟨w.heap.size, 1, none⟩ (.int .i64 tt)).setCell ⟨w.heap.size, 2, none⟩ (.int .i64 0)).setCell ⟨w.heap.size, 3, none⟩ (.slice none 0 0)).setCell ⟨w.heap.size, 4, none⟩ (.slice none 0 0)).heap[w.heap.size]? = some (.cells #[.int .i64 k, .int .i64 tt, .int .i64 0, .slice none 0 0, .slice none 0 0, .slice none 0 0] MT (0, 0)) := heap_setCell_same _ w.heap.size 4 _ MT (.slice none 0 0) s4
  replace HO := Lib.hid (HO.out.other (j := 5) s5 (by decide) (.slice A9 ll.length c9))
  clear s0 s1 s2 s3 s4 s5
  clear HR B0 B1 B2
  go_wp2
  obtain ⟨p0, p1, p2, p3, p4, p5⟩ := HP.out
  exact bodyPost_ret (v := .agg #[.int .i64 k, .int .i64 tt, .int .i64 0, .slice none 0 0, .slice none 0 0, .slice A9 ll.length c9]) (by simp [results, Tryz.results75, go_sem, p0, p1, p2, p3, p4, p5]) rfl ⟨⟨_, rfl, _, _, _, rfl, rw_nil _ _, rw_nil _ _, HO.out⟩, HQ.out⟩
set_option maxHeartbeats 16000000 in
set_option maxRecDepth 100000 in
theorem readmsg_4 {b : Nat} {w : World} {q : Rr} (h : CQ b w q w) (hk : (tInt q).1 = 7) : Calls Tryz.prog 75 #[.pointer (some ⟨b, 0, none⟩)] w fun e W' => (∃ v, e = .returned v ∧ MsgOwn W' w.heap.size (rawM q).1 v) ∧ CQ b w (rawM q).2 W' := by
  have e1 : hasT (tInt q).1 = false := by rw [hk]; rfl
  have e2 : hasN (tInt q).1 = true := by rw [hk]; rfl
  have e3 : nC (tInt q).1 = 0 := by rw [hk]; rfl
  have e4 : nB (tInt q).1 = 1 := by rw [hk]; rfl
  have e5 : nI (tInt q).1 = 0 := by rw [hk]; rfl
  have HM : rawM q = (⟨(tInt q).1, 0, (tInt (tInt q).2).1, [], (kB.takeL 1 (tInt (tInt q).2).2).1, []⟩, (kB.takeL 1 (tInt (tInt q).2).2).2) := by
    unfold rawM
    simp only [e1, e2]
    have hl : ∀ r, rawLs (tInt q).1 r = (([], (kB.takeL 1 r).1, []), (kB.takeL 1 r).2) := fun r => by
      unfold rawLs
      rw [if_neg (by omega), if_neg (by omega), if_pos hk]
    rw [hl]
    rfl
  rw [HM]
  clear HM
  have C0 := Lib.hid fun W (hW : CQ b w q W) => ctake_int hW
  have C1 := Lib.hid fun W (hW : CQ b w (tInt q).2 W) => ctake_int hW
  have SH := Lib.hid fun W => shape_any (tInt q).1 W
  simp only [shV] at SH
  rw [e1, e2, e3, e4, e5] at SH
  have TL : Hid (∀ W, CQ b w (tInt (tInt q).2).2 W → Calls Tryz.prog 20 #[.pointer (some ⟨b, 0, none⟩), .int .i64 1, .func (.func 12) #[] #[]] W fun e W' => (∃ v, e = .returned v ∧ OwnB W' w.heap.size v (kB.takeL 1 (tInt (tInt q).2).2).1) ∧ CQ b w (kB.takeL 1 (tInt (tInt q).2).2).2 W' ∧ W.grownBy W' (some b)) := Lib.hid fun W hW => (ctakelist_b 1 hW.rebase (.inr (by decide))).mono fun e W' ⟨⟨v, h1, h2⟩, h3⟩ => ⟨⟨v, h1, h2.base hW.grow.size⟩, hW.trans h3, h3.grow⟩
  clear e1 e2 e3 e4 e5 hk
  generalize (kB.takeL 1 (tInt (tInt q).2).2) = tl at *
  obtain ⟨ll, q9⟩ := tl
  generalize isK (tInt q).1 = rk at *
  generalize tInt (tInt q).2 = pt at *
  obtain ⟨tt, q5⟩ := pt
  generalize tInt q = pk at *
  obtain ⟨k, q1⟩ := pk
  simp only at *
  have hb := h.lt
  have B0 := Lib.hid (at1 w (.cells #[.int .i64 0, .int .i64 0, .int .i64 0, .slice none 0 0, .slice none 0 0, .slice none 0 0] MT))
  have HR := Lib.hid (h.below (bel1 w (.cells #[.int .i64 0, .int .i64 0, .int .i64 0, .slice none 0 0, .slice none 0 0, .slice none 0 0] MT)))
  clear h
  go_enter Tryz.func75, Tryz.ntmps75
  go_wp2_with fail
  generalize w.alloc (.cells #[.int .i64 0, .int .i64 0, .int .i64 0, .slice none 0 0, .slice none 0 0, .slice none 0 0] MT) = wa at *
  refine (C0.out _ HR.out).mono ?_
  rintro e w1 ⟨rfl, r1, g1⟩
  replace B0 := Lib.hid ((g1.block _ (lt_of_row B0.out) (by simp; omega)).trans B0.out)
  clear HR g1 C0
  have HR := Lib.hid r1
  clear r1
  go_upto_region 2 with fail
  have HA := Lib.hid (bel1 w1 (.cells #[.int .i64 k, .int .i64 0, .int .i64 0, .slice none 0 0, .slice none 0 0, .slice none 0 0] MT))
  have B1 := Lib.hid (at1 w1 (.cells #[.int .i64 k, .int .i64 0, .int .i64 0, .slice none 0 0, .slice none 0 0, .slice none 0 0] MT))
  have loB1 : w.heap.size ≤ w1.heap.size := HR.out.grow.size
  have ltB0B1 := lt_of_row B0.out
  replace B0 := Lib.hid ((HA.out.block _ (lt_of_row B0.out)).trans B0.out)
  replace HR := Lib.hid (HR.out.below HA.out)
  clear HA
  generalize w1.alloc (.cells #[.int .i64 k, .int .i64 0, .int .i64 0, .slice none 0 0, .slice none 0 0, .slice none 0 0] MT) = w2 at *
  generalize w1.heap.size = o1 at *
  obtain ⟨⟨m0, m1, m2, m3, m4, m5⟩, _⟩ := Bx.b6 B1.out
  go_wp2_with fail
  refine (SH.out _).mono ?_
  rintro e w3 ⟨rfl, hbb⟩
  replace B0 := Lib.hid ((hbb.block _ (lt_of_row B0.out)).trans B0.out)
  replace B1 := Lib.hid ((hbb.block _ (lt_of_row B1.out)).trans B1.out)
  replace HR := Lib.hid (HR.out.below hbb)
  clear hbb SH m0 m1 m2 m3 m4 m5
  go_upto_region 3 with fail
  have HA := Lib.hid (bel1 w3 (.cells #[.bool false, .bool true, .int .i64 0, .int .i64 1, .int .i64 0] SHT))
  have B2 := Lib.hid (at1 w3 (.cells #[.bool false, .bool true, .int .i64 0, .int .i64 1, .int .i64 0] SHT))
  have loB2 : w.heap.size ≤ w3.heap.size := HR.out.grow.size
  have ltB0B2 := lt_of_row B0.out
  have ltB1B2 := lt_of_row B1.out
  replace B0 := Lib.hid ((HA.out.block _ (lt_of_row B0.out)).trans B0.out)
  replace B1 := Lib.hid ((HA.out.block _ (lt_of_row B1.out)).trans B1.out)
  replace HR := Lib.hid (HR.out.below HA.out)
  clear HA
  generalize w3.alloc (.cells #[.bool false, .bool true, .int .i64 0, .int .i64 1, .int .i64 0] SHT) = w4 at *
  generalize w3.heap.size = o2 at *
  obtain ⟨⟨h0, h1, h2, h3, h4⟩, _⟩ := Bx.b5 B2.out
  go_wp2_with fail
  clear h0 h1 h2 h3 h4
  refine (C1.out _ HR.out).mono ?_
  rintro e w5 ⟨rfl, r1, g1⟩
  replace B0 := Lib.hid ((g1.block _ (lt_of_row B0.out) (by simp; omega)).trans B0.out)
  replace B1 := Lib.hid ((g1.block _ (lt_of_row B1.out) (by simp; omega)).trans B1.out)
  replace B2 := Lib.hid ((g1.block _ (lt_of_row B2.out) (by simp; omega)).trans B2.out)
  clear HR g1 C1
  have HR := Lib.hid r1
  clear r1
  obtain ⟨⟨m0, m1, m2, m3, m4, m5⟩, ⟨d0, d1, d2, d3, d4, d5⟩⟩ := Bx.b6 B1.out
  obtain ⟨⟨h0, h1, h2, h3, h4⟩, _⟩ := Bx.b5 B2.out
  go_upto_region 7 with fail
  clear m0 m1 m2 m3 m4 m5 d0 d1 d2 d3 d4 d5 h0 h1 h2 h3 h4
  have n1 : Hid ((w5.setCell ⟨o1, 2, none⟩ (.int .i64 tt)).heap[o1]? = some (.cells #[.int .i64 k, .int .i64 0, .int .i64 tt, .slice none 0 0, .slice none 0 0, .slice none 0 0] MT (0, 0))) := Lib.hid (heap_setCell_same _ o1 2 _ MT (.int .i64 tt) B1.out)
  have n0 : Hid ((w5.setCell ⟨o1, 2, none⟩ (.int .i64 tt)).heap[w.heap.size]? = some (.cells #[.int .i64 0, .int .i64 0, .int .i64 0, .slice none 0 0, .slice none 0 0, .slice none 0 0] MT (0, 0))) := Lib.hid ((Bx.ne (by omega) _).trans B0.out)
  have n2 : Hid ((w5.setCell ⟨o1, 2, none⟩ (.int .i64 tt)).heap[o2]? = some (.cells #[.bool false, .bool true, .int .i64 0, .int .i64 1, .int .i64 0] SHT (0, 0))) := Lib.hid ((Bx.ne (by omega) _).trans B2.out)
  replace HR := Lib.hid (RX.set HR.out loB1 2 (.int .i64 tt))
  replace B1 := n1
  replace B0 := n0
  replace B2 := n2
  clear n0 n1 n2
  generalize (w5.setCell ⟨o1, 2, none⟩ (.int .i64 tt)) = w6 at *
  obtain ⟨⟨h0, h1, h2, h3, h4⟩, _⟩ := Bx.b5 B2.out
  go_wp2_with fail
  clear h0 h1 h2 h3 h4
  refine (TL.out _ HR.out).mono ?_
  rintro e w7 ⟨⟨v9, rfl, ho9⟩, r1, g1⟩
  replace B0 := Lib.hid ((g1.block _ (lt_of_row B0.out) (by simp; omega)).trans B0.out)
  replace B1 := Lib.hid ((g1.block _ (lt_of_row B1.out) (by simp; omega)).trans B1.out)
  replace B2 := Lib.hid ((g1.block _ (lt_of_row B2.out) (by simp; omega)).trans B2.out)
  clear HR g1 TL
  have HR := Lib.hid r1
  clear r1
  have HO := Lib.hid ho9
  clear ho9
  obtain ⟨⟨m0, m1, m2, m3, m4, m5⟩, ⟨d0, d1, d2, d3, d4, d5⟩⟩ := Bx.b6 B1.out
  obtain ⟨⟨h0, h1, h2, h3, h4⟩, _⟩ := Bx.b5 B2.out
  obtain ⟨A9, c9, rfl⟩ := HO.out.form
  go_upto_region 13 with fail
  clear m0 m1 m2 m3 m4 m5 d0 d1 d2 d3 d4 d5 h0 h1 h2 h3 h4
  have n1 : Hid ((w7.setCell ⟨o1, 4, none⟩ (.slice A9 ll.length c9)).heap[o1]? = some (.cells #[.int .i64 k, .int .i64 0, .int .i64 tt, .slice none 0 0, .slice A9 ll.length c9, .slice none 0 0] MT (0, 0))) := Lib.hid (heap_setCell_same _ o1 4 _ MT (.slice A9 ll.length c9) B1.out)
  have n0 : Hid ((w7.setCell ⟨o1, 4, none⟩ (.slice A9 ll.length c9)).heap[w.heap.size]? = some (.cells #[.int .i64 0, .int .i64 0, .int .i64 0, .slice none 0 0, .slice none 0 0, .slice none 0 0] MT (0, 0))) := Lib.hid ((Bx.ne (by omega) _).trans B0.out)
  have n2 : Hid ((w7.setCell ⟨o1, 4, none⟩ (.slice A9 ll.length c9)).heap[o2]? = some (.cells #[.bool false, .bool true, .int .i64 0, .int .i64 1, .int .i64 0] SHT (0, 0))) := Lib.hid ((Bx.ne (by omega) _).trans B2.out)
  replace HO := Lib.hid (HO.out.other (j := 4) B1.out (by decide) (.slice A9 ll.length c9))
  replace HR := Lib.hid (RX.set HR.out loB1 4 (.slice A9 ll.length c9))
  replace B1 := n1
  replace B0 := n0
  replace B2 := n2
  clear n0 n1 n2
  generalize (w7.setCell ⟨o1, 4, none⟩ (.slice A9 ll.length c9)) = w8 at *
  obtain ⟨⟨k0, k1, k2, k3, k4, k5⟩, _⟩ := Bx.b6 B1.out
  obtain ⟨⟨l0, l1, l2, l3, l4, l5⟩, ⟨f0, f1, f2, f3, f4, f5⟩⟩ := Bx.b6 B0.out
  have HP := Lib.hid (Bx.b6 (Bx.set6 B0.out (.int .i64 k) (.int .i64 0) (.int .i64 tt) (.slice none 0 0) (.slice A9 ll.length c9) (.slice none 0 0))).1
  have HQ := Lib.hid (RX.set (RX.set (RX.set (RX.set (RX.set (RX.set HR.out (Nat.le_refl _) 0 (.int .i64 k)) (Nat.le_refl _) 1 (.int .i64 0)) (Nat.le_refl _) 2 (.int .i64 tt)) (Nat.le_refl _) 3 (.slice none 0 0)) (Nat.le_refl _) 4 (.slice A9 ll.length c9)) (Nat.le_refl _) 5 (.slice none 0 0))
  have s0 : w8.heap[w.heap.size]? = some (.cells #[.int .i64 0, .int .i64 0, .int .i64 0, .slice none 0 0, .slice none 0 0, .slice none 0 0] MT (0, 0)) := B0.out
  replace HO := Lib.hid (HO.out.other (j := 0) s0 (by decide) (.int .i64 k))
  have s1 : (w8.setCell ⟨w.heap.size, 0, none⟩ (.int .i64 k)).heap[w.heap.size]? = some (.cells #[.int .i64 k, .int .i64 0, .int .i64 0, .slice none 0 0, .slice none 0 0, .slice none 0 0] MT (0, 0)) := heap_setCell_same _ w.heap.size 0 _ MT (.int .i64 k) s0
  replace HO := Lib.hid (HO.out.other (j := 1) s1 (by decide) (.int .i64 0))
  have s2 : ((w8.setCell ⟨w.heap.size, 0, none⟩ (.int .i64 k)).setCell ⟨w.heap.size, 1, none⟩ (.int .i64 0)).heap[w.heap.size]? = some (.cells #[.int .i64 k, .int .i64 0, .int .i64 0, .slice none 0 0, .slice none 0 0, .slice none 0 0] MT (0, 0)) := heap_setCell_same _ w.heap.size 1 _ MT (.int .i64 0) s1
  replace HO := Lib.hid (HO.out.other (j := 2) s2 (by decide) (.int .i64 tt))
  have s3 : (((w8.setCell ⟨w.heap.size, 0, none⟩ (.int .i64 k)).setCell ⟨w.heap.size, 1, none⟩ (.int .i64 0)).setCell ⟨w.heap.size, 2, none⟩ (.int .i64 tt)).heap[w.heap.size]? = some (.cells #[.int .i64 k, .int .i64 0, .int .i64 tt, .slice none 0 0, .slice none 0 0, .slice none 0 0] MT (0, 0)) := heap_setCell_same _ w.heap.size 2 _ MT (.int .i64 tt) s2
  replace HO := Lib.hid (HO.out.other (j := 3) s3 (by decide) (.slice none 0 0))
  have s4 : ((((w8.setCell ⟨w.heap.size, 0, none⟩ (.int .i64 k)).setCell ⟨w.heap.size, 1, none⟩ (.int .i64 0)).setCell ⟨w.heap.size, 2, none⟩ (.int .i64 tt)).setCell ⟨w.heap.size, 3, none⟩ (.slice none 0 0)).heap[w.heap.size]? = some (.cells #[.int .i64 k, .int .i64 0, .int .i64 tt, .slice none 0 0, .slice none 0 0, .slice none 0 0] MT (0, 0)) := heap_setCell_same _ w.heap.size 3 _ MT (.slice none 0 0) s3
  replace HO := Lib.hid (HO.out.other (j := 4) s4 (by decide) (.slice A9 ll.length c9))
  have s5 : (((((w8.setCell ⟨w.heap.size, 0, none⟩ (.int .i64 k)).setCell ⟨w.heap.size, 1, none⟩ (.int .i64 0)).setCell ⟨w.heap.size, 2, none⟩ (.int .i64 tt)).setCell ⟨w.heap.size, 3, none⟩ (.slice none 0 0)).setCell ⟨w.heap.size, 4, none⟩ (.slice A9 ll.length c9)).heap[w.heap.size]? = some (.cells #[.int .i64 k, .int .i64 0, .int .i64 tt, .slice none 0 0, .slice A9 ll.length c9, .slice none 0 0] MT (0, 0)) := heap_setCell_same _ w.heap.size 4 _ MT (.slice A9 ll.length c9) s4
  replace HO := Lib.hid (HO.out.other (j := 5) s5 (by decide) (.slice none 0 0))
  clear s0 s1 s2 s3 s4 s5
  clear HR B0 B1 B2
  go_wp2
  obtain ⟨p0, p1, p2, p3, p4, p5⟩ := HP.out
  exact bodyPost_ret (v := .agg #[.int .i64 k, .int .i64 0, .int .i64 tt, .slice none 0 0, .slice A9 ll.length c9, .slice none 0 0]) (by simp [results, Tryz.results75, go_sem, p0, p1, p2, p3, p4, p5]) rfl ⟨⟨_, rfl, _, _, _, rfl, rw_nil _ _, HO.out, rw_nil _ _⟩, HQ.out⟩
set_option maxHeartbeats 16000000 in
set_option maxRecDepth 100000 in
theorem readmsg_5 {b : Nat} {w : World} {q : Rr} (h : CQ b w q w) (hk : (tInt q).1 = 8 ∨ (tInt q).1 = 9 ∨ (tInt q).1 = 10) : Calls Tryz.prog 75 #[.pointer (some ⟨b, 0, none⟩)] w fun e W' => (∃ v, e = .returned v ∧ MsgOwn W' w.heap.size (rawM q).1 v) ∧ CQ b w (rawM q).2 W' := by
  have e1 : hasT (tInt q).1 = false := by rcases hk with hk | hk | hk <;> (rw [hk]; rfl)
  have e2 : hasN (tInt q).1 = true := by rcases hk with hk | hk | hk <;> (rw [hk]; rfl)
  have e3 : nC (tInt q).1 = 0 := by rcases hk with hk | hk | hk <;> (rw [hk]; rfl)
  have e4 : nB (tInt q).1 = 0 := by rcases hk with hk | hk | hk <;> (rw [hk]; rfl)
  have e5 : nI (tInt q).1 = 0 := by rcases hk with hk | hk | hk <;> (rw [hk]; rfl)
  have HM : rawM q = (⟨(tInt q).1, 0, (tInt (tInt q).2).1, [], [], []⟩, (tInt (tInt q).2).2) := by
    unfold rawM
    simp only [e1, e2]
    have hl : ∀ r, rawLs (tInt q).1 r = (([], [], []), r) := fun r => by
      unfold rawLs
      rw [if_neg (by omega), if_neg (by omega), if_neg (by omega), if_neg (by omega)]
    rw [hl]
    rfl
  rw [HM]
  clear HM
  have C0 := Lib.hid fun W (hW : CQ b w q W) => ctake_int hW
  have C1 := Lib.hid fun W (hW : CQ b w (tInt q).2 W) => ctake_int hW
  have SH := Lib.hid fun W => shape_any (tInt q).1 W
  simp only [shV] at SH
  rw [e1, e2, e3, e4, e5] at SH
  clear e1 e2 e3 e4 e5 hk
  generalize isK (tInt q).1 = rk at *
  generalize tInt (tInt q).2 = pt at *
  obtain ⟨tt, q5⟩ := pt
  generalize tInt q = pk at *
  obtain ⟨k, q1⟩ := pk
  simp only at *
  have hb := h.lt
  have B0 := Lib.hid (at1 w (.cells #[.int .i64 0, .int .i64 0, .int .i64 0, .slice none 0 0, .slice none 0 0, .slice none 0 0] MT))
  have HR := Lib.hid (h.below (bel1 w (.cells #[.int .i64 0, .int .i64 0, .int .i64 0, .slice none 0 0, .slice none 0 0, .slice none 0 0] MT)))
  clear h
  go_enter Tryz.func75, Tryz.ntmps75
  go_wp2_with fail
  generalize w.alloc (.cells #[.int .i64 0, .int .i64 0, .int .i64 0, .slice none 0 0, .slice none 0 0, .slice none 0 0] MT) = wa at *
  refine (C0.out _ HR.out).mono ?_
  rintro e w1 ⟨rfl, r1, g1⟩
  replace B0 := Lib.hid ((g1.block _ (lt_of_row B0.out) (by simp; omega)).trans B0.out)
  clear HR g1 C0
  have HR := Lib.hid r1
  clear r1
  go_upto_region 2 with fail
  have HA := Lib.hid (bel1 w1 (.cells #[.int .i64 k, .int .i64 0, .int .i64 0, .slice none 0 0, .slice none 0 0, .slice none 0 0] MT))
  have B1 := Lib.hid (at1 w1 (.cells #[.int .i64 k, .int .i64 0, .int .i64 0, .slice none 0 0, .slice none 0 0, .slice none 0 0] MT))
  have loB1 : w.heap.size ≤ w1.heap.size := HR.out.grow.size
  have ltB0B1 := lt_of_row B0.out
  replace B0 := Lib.hid ((HA.out.block _ (lt_of_row B0.out)).trans B0.out)
  replace HR := Lib.hid (HR.out.below HA.out)
  clear HA
  generalize w1.alloc (.cells #[.int .i64 k, .int .i64 0, .int .i64 0, .slice none 0 0, .slice none 0 0, .slice none 0 0] MT) = w2 at *
  generalize w1.heap.size = o1 at *
  obtain ⟨⟨m0, m1, m2, m3, m4, m5⟩, _⟩ := Bx.b6 B1.out
  go_wp2_with fail
  refine (SH.out _).mono ?_
  rintro e w3 ⟨rfl, hbb⟩
  replace B0 := Lib.hid ((hbb.block _ (lt_of_row B0.out)).trans B0.out)
  replace B1 := Lib.hid ((hbb.block _ (lt_of_row B1.out)).trans B1.out)
  replace HR := Lib.hid (HR.out.below hbb)
  clear hbb SH m0 m1 m2 m3 m4 m5
  go_upto_region 3 with fail
  have HA := Lib.hid (bel1 w3 (.cells #[.bool false, .bool true, .int .i64 0, .int .i64 0, .int .i64 0] SHT))
  have B2 := Lib.hid (at1 w3 (.cells #[.bool false, .bool true, .int .i64 0, .int .i64 0, .int .i64 0] SHT))
  have loB2 : w.heap.size ≤ w3.heap.size := HR.out.grow.size
  have ltB0B2 := lt_of_row B0.out
  have ltB1B2 := lt_of_row B1.out
  replace B0 := Lib.hid ((HA.out.block _ (lt_of_row B0.out)).trans B0.out)
  replace B1 := Lib.hid ((HA.out.block _ (lt_of_row B1.out)).trans B1.out)
  replace HR := Lib.hid (HR.out.below HA.out)
  clear HA
  generalize w3.alloc (.cells #[.bool false, .bool true, .int .i64 0, .int .i64 0, .int .i64 0] SHT) = w4 at *
  generalize w3.heap.size = o2 at *
  obtain ⟨⟨h0, h1, h2, h3, h4⟩, _⟩ := Bx.b5 B2.out
  go_wp2_with fail
  clear h0 h1 h2 h3 h4
  refine (C1.out _ HR.out).mono ?_
  rintro e w5 ⟨rfl, r1, g1⟩
  replace B0 := Lib.hid ((g1.block _ (lt_of_row B0.out) (by simp; omega)).trans B0.out)
  replace B1 := Lib.hid ((g1.block _ (lt_of_row B1.out) (by simp; omega)).trans B1.out)
  replace B2 := Lib.hid ((g1.block _ (lt_of_row B2.out) (by simp; omega)).trans B2.out)
  clear HR g1 C1
  have HR := Lib.hid r1
  clear r1
  obtain ⟨⟨m0, m1, m2, m3, m4, m5⟩, ⟨d0, d1, d2, d3, d4, d5⟩⟩ := Bx.b6 B1.out
  obtain ⟨⟨h0, h1, h2, h3, h4⟩, _⟩ := Bx.b5 B2.out
  go_upto_region 7 with fail
  clear m0 m1 m2 m3 m4 m5 d0 d1 d2 d3 d4 d5 h0 h1 h2 h3 h4
  have n1 : Hid ((w5.setCell ⟨o1, 2, none⟩ (.int .i64 tt)).heap[o1]? = some (.cells #[.int .i64 k, .int .i64 0, .int .i64 tt, .slice none 0 0, .slice none 0 0, .slice none 0 0] MT (0, 0))) := Lib.hid (heap_setCell_same _ o1 2 _ MT (.int .i64 tt) B1.out)
  have n0 : Hid ((w5.setCell ⟨o1, 2, none⟩ (.int .i64 tt)).heap[w.heap.size]? = some (.cells #[.int .i64 0, .int .i64 0, .int .i64 0, .slice none 0 0, .slice none 0 0, .slice none 0 0] MT (0, 0))) := Lib.hid ((Bx.ne (by omega) _).trans B0.out)
  have n2 : Hid ((w5.setCell ⟨o1, 2, none⟩ (.int .i64 tt)).heap[o2]? = some (.cells #[.bool false, .bool true, .int .i64 0, .int .i64 0, .int .i64 0] SHT (0, 0))) := Lib.hid ((Bx.ne (by omega) _).trans B2.out)
  replace HR := Lib.hid (RX.set HR.out loB1 2 (.int .i64 tt))
  replace B1 := n1
  replace B0 := n0
  replace B2 := n2
  clear n0 n1 n2
  generalize (w5.setCell ⟨o1, 2, none⟩ (.int .i64 tt)) = w6 at *
  obtain ⟨⟨h0, h1, h2, h3, h4⟩, _⟩ := Bx.b5 B2.out
  go_upto_region 13 with fail
  clear h0 h1 h2 h3 h4
  obtain ⟨⟨k0, k1, k2, k3, k4, k5⟩, _⟩ := Bx.b6 B1.out
  obtain ⟨⟨l0, l1, l2, l3, l4, l5⟩, ⟨f0, f1, f2, f3, f4, f5⟩⟩ := Bx.b6 B0.out
  have HP := Lib.hid (Bx.b6 (Bx.set6 B0.out (.int .i64 k) (.int .i64 0) (.int .i64 tt) (.slice none 0 0) (.slice none 0 0) (.slice none 0 0))).1
  have HQ := Lib.hid (RX.set (RX.set (RX.set (RX.set (RX.set (RX.set HR.out (Nat.le_refl _) 0 (.int .i64 k)) (Nat.le_refl _) 1 (.int .i64 0)) (Nat.le_refl _) 2 (.int .i64 tt)) (Nat.le_refl _) 3 (.slice none 0 0)) (Nat.le_refl _) 4 (.slice none 0 0)) (Nat.le_refl _) 5 (.slice none 0 0))
  clear HR B0 B1 B2
  go_wp2
  obtain ⟨p0, p1, p2, p3, p4, p5⟩ := HP.out
  exact bodyPost_ret (v := .agg #[.int .i64 k, .int .i64 0, .int .i64 tt, .slice none 0 0, .slice none 0 0, .slice none 0 0]) (by simp [results, Tryz.results75, go_sem, p0, p1, p2, p3, p4, p5]) rfl ⟨⟨_, rfl, _, _, _, rfl, rw_nil _ _, rw_nil _ _, rw_nil _ _⟩, HQ.out⟩
set_option maxHeartbeats 16000000 in
set_option maxRecDepth 100000 in
theorem readmsg_6 {b : Nat} {w : World} {q : Rr} (h : CQ b w q w) (hk : (tInt q).1 = 12) : Calls Tryz.prog 75 #[.pointer (some ⟨b, 0, none⟩)] w fun e W' => (∃ v, e = .returned v ∧ MsgOwn W' w.heap.size (rawM q).1 v) ∧ CQ b w (rawM q).2 W' := by
  have e1 : hasT (tInt q).1 = true := by rw [hk]; rfl
  have e2 : hasN (tInt q).1 = false := by rw [hk]; rfl
  have e3 : nC (tInt q).1 = 0 := by rw [hk]; rfl
  have e4 : nB (tInt q).1 = 1024 := by rw [hk]; rfl
  have e5 : nI (tInt q).1 = 0 := by rw [hk]; rfl
  have HM : rawM q = (⟨(tInt q).1, (tInt (tInt q).2).1, 0, [], (kB.takeL 1024 (tInt (tInt q).2).2).1, []⟩, (kB.takeL 1024 (tInt (tInt q).2).2).2) := by
    unfold rawM
    simp only [e1, e2]
    have hl : ∀ r, rawLs (tInt q).1 r = (([], (kB.takeL 1024 r).1, []), (kB.takeL 1024 r).2) := fun r => by
      unfold rawLs
      rw [if_neg (by omega), if_neg (by omega), if_neg (by omega), if_pos hk]
    rw [hl]
    rfl
  rw [HM]
  clear HM
  have C0 := Lib.hid fun W (hW : CQ b w q W) => ctake_int hW
  have C1 := Lib.hid fun W (hW : CQ b w (tInt q).2 W) => ctake_int hW
  have SH := Lib.hid fun W => shape_any (tInt q).1 W
  simp only [shV] at SH
  rw [e1, e2, e3, e4, e5] at SH
  have TL : Hid (∀ W, CQ b w (tInt (tInt q).2).2 W → Calls Tryz.prog 20 #[.pointer (some ⟨b, 0, none⟩), .int .i64 1024, .func (.func 12) #[] #[]] W fun e W' => (∃ v, e = .returned v ∧ OwnB W' w.heap.size v (kB.takeL 1024 (tInt (tInt q).2).2).1) ∧ CQ b w (kB.takeL 1024 (tInt (tInt q).2).2).2 W' ∧ W.grownBy W' (some b)) := Lib.hid fun W hW => (ctakelist_b 1024 hW.rebase (.inr (by decide))).mono fun e W' ⟨⟨v, h1, h2⟩, h3⟩ => ⟨⟨v, h1, h2.base hW.grow.size⟩, hW.trans h3, h3.grow⟩
  clear e1 e2 e3 e4 e5 hk
  generalize (kB.takeL 1024 (tInt (tInt q).2).2) = tl at *
  obtain ⟨ll, q9⟩ := tl
  generalize isK (tInt q).1 = rk at *
  generalize tInt (tInt q).2 = pt at *
  obtain ⟨tt, q5⟩ := pt
  generalize tInt q = pk at *
  obtain ⟨k, q1⟩ := pk
  simp only at *
  have hb := h.lt
  have B0 := Lib.hid (at1 w (.cells #[.int .i64 0, .int .i64 0, .int .i64 0, .slice none 0 0, .slice none 0 0, .slice none 0 0] MT))
  have HR := Lib.hid (h.below (bel1 w (.cells #[.int .i64 0, .int .i64 0, .int .i64 0, .slice none 0 0, .slice none 0 0, .slice none 0 0] MT)))
  clear h
  go_enter Tryz.func75, Tryz.ntmps75
  go_wp2_with fail
  generalize w.alloc (.cells #[.int .i64 0, .int .i64 0, .int .i64 0, .slice none 0 0, .slice none 0 0, .slice none 0 0] MT) = wa at *
  refine (C0.out _ HR.out).mono ?_
  rintro e w1 ⟨rfl, r1, g1⟩
  replace B0 := Lib.hid ((g1.block _ (lt_of_row B0.out) (by simp; omega)).trans B0.out)
  clear HR g1 C0
  have HR := Lib.hid r1
  clear r1
  go_upto_region 2 with fail
  have HA := Lib.hid (bel1 w1 (.cells #[.int .i64 k, .int .i64 0, .int .i64 0, .slice none 0 0, .slice none 0 0, .slice none 0 0] MT))
  have B1 := Lib.hid (at1 w1 (.cells #[.int .i64 k, .int .i64 0, .int .i64 0, .slice none 0 0, .slice none 0 0, .slice none 0 0] MT))
  have loB1 : w.heap.size ≤ w1.heap.size := HR.out.grow.size
  have ltB0B1 := lt_of_row B0.out
  replace B0 := Lib.hid ((HA.out.block _ (lt_of_row B0.out)).trans B0.out)
  replace HR := Lib.hid (HR.out.below HA.out)
  clear HA
  generalize w1.alloc (.cells #[.int .i64 k, .int .i64 0, .int .i64 0, .slice none 0 0, .slice none 0 0, .slice none 0 0] MT) = w2 at *
  generalize w1.heap.size = o1 at *
  obtain ⟨⟨m0, m1, m2, m3, m4, m5⟩, _⟩ := Bx.b6 B1.out
  go_wp2_with fail
  refine (SH.out _).mono ?_
  rintro e w3 ⟨rfl, hbb⟩
  replace B0 := Lib.hid ((hbb.block _ (lt_of_row B0.out)).trans B0.out)
  replace B1 := Lib.hid ((hbb.block _ (lt_of_row B1.out)).trans B1.out)
  replace HR := Lib.hid (HR.out.below hbb)
  clear hbb SH m0 m1 m2 m3 m4 m5
  go_upto_region 3 with fail
  have HA := Lib.hid (bel1 w3 (.cells #[.bool true, .bool false, .int .i64 0, .int .i64 1024, .int .i64 0] SHT))
  have B2 := Lib.hid (at1 w3 (.cells #[.bool true, .bool false, .int .i64 0, .int .i64 1024, .int .i64 0] SHT))
  have loB2 : w.heap.size ≤ w3.heap.size := HR.out.grow.size
  have ltB0B2 := lt_of_row B0.out
  have ltB1B2 := lt_of_row B1.out
  replace B0 := Lib.hid ((HA.out.block _ (lt_of_row B0.out)).trans B0.out)
  replace B1 := Lib.hid ((HA.out.block _ (lt_of_row B1.out)).trans B1.out)
  replace HR := Lib.hid (HR.out.below HA.out)
  clear HA
  generalize w3.alloc (.cells #[.bool true, .bool false, .int .i64 0, .int .i64 1024, .int .i64 0] SHT) = w4 at *
  generalize w3.heap.size = o2 at *
  obtain ⟨⟨h0, h1, h2, h3, h4⟩, _⟩ := Bx.b5 B2.out
  go_wp2_with fail
  clear h0 h1 h2 h3 h4
  refine (C1.out _ HR.out).mono ?_
  rintro e w5 ⟨rfl, r1, g1⟩
  replace B0 := Lib.hid ((g1.block _ (lt_of_row B0.out) (by simp; omega)).trans B0.out)
  replace B1 := Lib.hid ((g1.block _ (lt_of_row B1.out) (by simp; omega)).trans B1.out)
  replace B2 := Lib.hid ((g1.block _ (lt_of_row B2.out) (by simp; omega)).trans B2.out)
  clear HR g1 C1
  have HR := Lib.hid r1
  clear r1
  obtain ⟨⟨m0, m1, m2, m3, m4, m5⟩, ⟨d0, d1, d2, d3, d4, d5⟩⟩ := Bx.b6 B1.out
  obtain ⟨⟨h0, h1, h2, h3, h4⟩, _⟩ := Bx.b5 B2.out
  go_upto_region 5 with fail
  clear m0 m1 m2 m3 m4 m5 d0 d1 d2 d3 d4 d5 h0 h1 h2 h3 h4
  have n1 : Hid ((w5.setCell ⟨o1, 1, none⟩ (.int .i64 tt)).heap[o1]? = some (.cells #[.int .i64 k, .int .i64 tt, .int .i64 0, .slice none 0 0, .slice none 0 0, .slice none 0 0] MT (0, 0))) := Lib.hid (heap_setCell_same _ o1 1 _ MT (.int .i64 tt) B1.out)
  have n0 : Hid ((w5.setCell ⟨o1, 1, none⟩ (.int .i64 tt)).heap[w.heap.size]? = some (.cells #[.int .i64 0, .int .i64 0, .int .i64 0, .slice none 0 0, .slice none 0 0, .slice none 0 0] MT (0, 0))) := Lib.hid ((Bx.ne (by omega) _).trans B0.out)
  have n2 : Hid ((w5.setCell ⟨o1, 1, none⟩ (.int .i64 tt)).heap[o2]? = some (.cells #[.bool true, .bool false, .int .i64 0, .int .i64 1024, .int .i64 0] SHT (0, 0))) := Lib.hid ((Bx.ne (by omega) _).trans B2.out)
  replace HR := Lib.hid (RX.set HR.out loB1 1 (.int .i64 tt))
  replace B1 := n1
  replace B0 := n0
  replace B2 := n2
  clear n0 n1 n2
  generalize (w5.setCell ⟨o1, 1, none⟩ (.int .i64 tt)) = w6 at *
  obtain ⟨⟨h0, h1, h2, h3, h4⟩, _⟩ := Bx.b5 B2.out
  go_wp2_with fail
  clear h0 h1 h2 h3 h4
  refine (TL.out _ HR.out).mono ?_
  rintro e w7 ⟨⟨v9, rfl, ho9⟩, r1, g1⟩
  replace B0 := Lib.hid ((g1.block _ (lt_of_row B0.out) (by simp; omega)).trans B0.out)
  replace B1 := Lib.hid ((g1.block _ (lt_of_row B1.out) (by simp; omega)).trans B1.out)
  replace B2 := Lib.hid ((g1.block _ (lt_of_row B2.out) (by simp; omega)).trans B2.out)
  clear HR g1 TL
  have HR := Lib.hid r1
  clear r1
  have HO := Lib.hid ho9
  clear ho9
  obtain ⟨⟨m0, m1, m2, m3, m4, m5⟩, ⟨d0, d1, d2, d3, d4, d5⟩⟩ := Bx.b6 B1.out
  obtain ⟨⟨h0, h1, h2, h3, h4⟩, _⟩ := Bx.b5 B2.out
  obtain ⟨A9, c9, rfl⟩ := HO.out.form
  go_upto_region 13 with fail
  clear m0 m1 m2 m3 m4 m5 d0 d1 d2 d3 d4 d5 h0 h1 h2 h3 h4
  have n1 : Hid ((w7.setCell ⟨o1, 4, none⟩ (.slice A9 ll.length c9)).heap[o1]? = some (.cells #[.int .i64 k, .int .i64 tt, .int .i64 0, .slice none 0 0, .slice A9 ll.length c9, .slice none 0 0] MT (0, 0))) := Lib.hid (heap_setCell_same _ o1 4 _ MT (.slice A9 ll.length c9) B1.out)
  have n0 : Hid ((w7.setCell ⟨o1, 4, none⟩ (.slice A9 ll.length c9)).heap[w.heap.size]? = some (.cells #[.int .i64 0, .int .i64 0, .int .i64 0, .slice none 0 0, .slice none 0 0, .slice none 0 0] MT (0, 0))) := Lib.hid ((Bx.ne (by omega) _).trans B0.out)
  have n2 : Hid ((w7.setCell ⟨o1, 4, none⟩ (.slice A9 ll.length c9)).heap[o2]? = some (.cells #[.bool true, .bool false, .int .i64 0, .int .i64 1024, .int .i64 0] SHT (0, 0))) := Lib.hid ((Bx.ne (by omega) _).trans B2.out)
  replace HO := Lib.hid (HO.out.other (j := 4) B1.out (by decide) (.slice A9 ll.length c9))
  replace HR := Lib.hid (RX.set HR.out loB1 4 (.slice A9 ll.length c9))
  replace B1 := n1
  replace B0 := n0
  replace B2 := n2
  clear n0 n1 n2
  generalize (w7.setCell ⟨o1, 4, none⟩ (.slice A9 ll.length c9)) = w8 at *
  obtain ⟨⟨k0, k1, k2, k3, k4, k5⟩, _⟩ := Bx.b6 B1.out
  obtain ⟨⟨l0, l1, l2, l3, l4, l5⟩, ⟨f0, f1, f2, f3, f4, f5⟩⟩ := Bx.b6 B0.out
  have HP := Lib.hid (Bx.b6 (Bx.set6 B0.out (.int .i64 k) (.int .i64 tt) (.int .i64 0) (.slice none 0 0) (.slice A9 ll.length c9) (.slice none 0 0))).1
  have HQ := Lib.hid (RX.set (RX.set (RX.set (RX.set (RX.set (RX.set HR.out (Nat.le_refl _) 0 (.int .i64 k)) (Nat.le_refl _) 1 (.int .i64 tt)) (Nat.le_refl _) 2 (.int .i64 0)) (Nat.le_refl _) 3 (.slice none 0 0)) (Nat.le_refl _) 4 (.slice A9 ll.length c9)) (Nat.le_refl _) 5 (.slice none 0 0))
  have s0 : w8.heap[w.heap.size]? = some (.cells #[.int .i64 0, .int .i64 0, .int .i64 0, .slice none 0 0, .slice none 0 0, .slice none 0 0] MT (0, 0)) := B0.out
  replace HO := Lib.hid (HO.out.other (j := 0) s0 (by decide) (.int .i64 k))
  have s1 : (w8.setCell ⟨w.heap.size, 0, none⟩ (.int .i64 k)).heap[w.heap.size]? = some (.cells #[.int .i64 k, .int .i64 0, .int .i64 0, .slice none 0 0, .slice none 0 0, .slice none 0 0] MT (0, 0)) := heap_setCell_same _ w.heap.size 0 _ MT (.int .i64 k) s0
  replace HO := Lib.hid (HO.out.other (j := 1) s1 (by decide) (.int .i64 tt))
  have s2 : ((w8.setCell ⟨w.heap.size, 0, none⟩ (.int .i64 k)).setCell ⟨w.heap.size, 1, none⟩ (.int .i64 tt)).heap[w.heap.size]? = some (.cells #[.int .i64 k, .int .i64 tt, .int .i64 0, .slice none 0 0, .slice none 0 0, .slice none 0 0] MT (0, 0)) := heap_setCell_same _ w.heap.size 1 _ MT (.int .i64 tt) s1
  replace HO := Lib.hid (HO.out.other (j := 2) s2 (by decide) (.int .i64 0))
  have s3 : (((w8.setCell ⟨w.heap.size, 0, none⟩ (.int .i64 k)).setCell ⟨w.heap.size, 1, none⟩ (.int .i64 tt)).setCell ⟨w.heap.size, 2, none⟩ (.int .i64 0)).heap[w.heap.size]? = some (.cells #[.int .i64 k, .int .i64 tt, .int .i64 0, .slice none 0 0, .slice none 0 0, .slice none 0 0] MT (0, 0)) := heap_setCell_same _ w.heap.size 2 _ MT (.int .i64 0) s2
  replace HO := Lib.hid (HO.out.other (j := 3) s3 (by decide) (.slice none 0 0))
  have s4 : ((((w8.setCell ⟨w.heap.size, 0, none⟩ (.int .i64 k)).setCell ⟨w.heap.size, 1, none⟩ (.int .i64 tt)).setCell ⟨w.heap.size, 2, none⟩ (.int .i64 0)).setCell ⟨w.heap.size, 3, none⟩ (.slice none 0 0)).heap[w.heap.size]? = some (.cells #[.int .i64 k, .int .i64 tt, .int .i64 0, .slice none 0 0, .slice none 0 0, .slice none 0 0] MT (0, 0)) := heap_setCell_same _ w.heap.size 3 _ MT (.slice none 0 0) s3
  replace HO := Lib.hid (HO.out.other (j := 4) s4 (by decide) (.slice A9 ll.length c9))
  have s5 : (((((w8.setCell ⟨w.heap.size, 0, none⟩ (.int .i64 k)).setCell ⟨w.heap.size, 1, none⟩ (.int .i64 tt)).setCell ⟨w.heap.size, 2, none⟩ (.int .i64 0)).setCell ⟨w.heap.size, 3, none⟩ (.slice none 0 0)).setCell ⟨w.heap.size, 4, none⟩ (.slice A9 ll.length c9)).heap[w.heap.size]? = some (.cells #[.int .i64 k, .int .i64 tt, .int .i64 0, .slice none 0 0, .slice A9 ll.length c9, .slice none 0 0] MT (0, 0)) := heap_setCell_same _ w.heap.size 4 _ MT (.slice A9 ll.length c9) s4
  replace HO := Lib.hid (HO.out.other (j := 5) s5 (by decide) (.slice none 0 0))
  clear s0 s1 s2 s3 s4 s5
  clear HR B0 B1 B2
  go_wp2
  obtain ⟨p0, p1, p2, p3, p4, p5⟩ := HP.out
  exact bodyPost_ret (v := .agg #[.int .i64 k, .int .i64 tt, .int .i64 0, .slice none 0 0, .slice A9 ll.length c9, .slice none 0 0]) (by simp [results, Tryz.results75, go_sem, p0, p1, p2, p3, p4, p5]) rfl ⟨⟨_, rfl, _, _, _, rfl, rw_nil _ _, HO.out, rw_nil _ _⟩, HQ.out⟩
set_option maxHeartbeats 16000000 in
set_option maxRecDepth 100000 in
theorem readmsg_7 {b : Nat} {w : World} {q : Rr} (h : CQ b w q w) (hk : ¬ (1 ≤ (tInt q).1 ∧ (tInt q).1 ≤ 12)) : Calls Tryz.prog 75 #[.pointer (some ⟨b, 0, none⟩)] w fun e W' => (∃ v, e = .returned v ∧ MsgOwn W' w.heap.size (rawM q).1 v) ∧ CQ b w (rawM q).2 W' := by
  have e1 : hasT (tInt q).1 = false := by unfold hasT; rw [Bool.or_eq_false_iff, Bool.or_eq_false_iff, Bool.and_eq_false_iff]; simp only [decide_eq_false_iff_not]; omega
  have e2 : hasN (tInt q).1 = false := by unfold hasN; rw [Bool.and_eq_false_iff]; simp only [decide_eq_false_iff_not]; omega
  have e3 : nC (tInt q).1 = 0 := by unfold nC; rw [if_neg (by omega)]
  have e4 : nB (tInt q).1 = 0 := by unfold nB; rw [if_neg (by omega), if_neg (by omega)]
  have e5 : nI (tInt q).1 = 0 := by unfold nI; rw [if_neg (by omega)]
  have HM : rawM q = (⟨(tInt q).1, 0, 0, [], [], []⟩, (tInt q).2) := by
    unfold rawM
    simp only [e1, e2]
    have hl : ∀ r, rawLs (tInt q).1 r = (([], [], []), r) := fun r => by
      unfold rawLs
      rw [if_neg (by omega), if_neg (by omega), if_neg (by omega), if_neg (by omega)]
    rw [hl]
    rfl
  rw [HM]
  clear HM
  have C0 := Lib.hid fun W (hW : CQ b w q W) => ctake_int hW
  have SH := Lib.hid fun W => shape_any (tInt q).1 W
  simp only [shV] at SH
  rw [e1, e2, e3, e4, e5] at SH
  clear e1 e2 e3 e4 e5 hk
  generalize isK (tInt q).1 = rk at *
  generalize tInt q = pk at *
  obtain ⟨k, q1⟩ := pk
  simp only at *
  have hb := h.lt
  have B0 := Lib.hid (at1 w (.cells #[.int .i64 0, .int .i64 0, .int .i64 0, .slice none 0 0, .slice none 0 0, .slice none 0 0] MT))
  have HR := Lib.hid (h.below (bel1 w (.cells #[.int .i64 0, .int .i64 0, .int .i64 0, .slice none 0 0, .slice none 0 0, .slice none 0 0] MT)))
  clear h
  go_enter Tryz.func75, Tryz.ntmps75
  go_wp2_with fail
  generalize w.alloc (.cells #[.int .i64 0, .int .i64 0, .int .i64 0, .slice none 0 0, .slice none 0 0, .slice none 0 0] MT) = wa at *
  refine (C0.out _ HR.out).mono ?_
  rintro e w1 ⟨rfl, r1, g1⟩
  replace B0 := Lib.hid ((g1.block _ (lt_of_row B0.out) (by simp; omega)).trans B0.out)
  clear HR g1 C0
  have HR := Lib.hid r1
  clear r1
  go_upto_region 2 with fail
  have HA := Lib.hid (bel1 w1 (.cells #[.int .i64 k, .int .i64 0, .int .i64 0, .slice none 0 0, .slice none 0 0, .slice none 0 0] MT))
  have B1 := Lib.hid (at1 w1 (.cells #[.int .i64 k, .int .i64 0, .int .i64 0, .slice none 0 0, .slice none 0 0, .slice none 0 0] MT))
  have loB1 : w.heap.size ≤ w1.heap.size := HR.out.grow.size
  have ltB0B1 := lt_of_row B0.out
  replace B0 := Lib.hid ((HA.out.block _ (lt_of_row B0.out)).trans B0.out)
  replace HR := Lib.hid (HR.out.below HA.out)
  clear HA
  generalize w1.alloc (.cells #[.int .i64 k, .int .i64 0, .int .i64 0, .slice none 0 0, .slice none 0 0, .slice none 0 0] MT) = w2 at *
  generalize w1.heap.size = o1 at *
  obtain ⟨⟨m0, m1, m2, m3, m4, m5⟩, _⟩ := Bx.b6 B1.out
  go_wp2_with fail
  refine (SH.out _).mono ?_
  rintro e w3 ⟨rfl, hbb⟩
  replace B0 := Lib.hid ((hbb.block _ (lt_of_row B0.out)).trans B0.out)
  replace B1 := Lib.hid ((hbb.block _ (lt_of_row B1.out)).trans B1.out)
  replace HR := Lib.hid (HR.out.below hbb)
  clear hbb SH m0 m1 m2 m3 m4 m5
  go_upto_region 3 with fail
  have HA := Lib.hid (bel1 w3 (.cells #[.bool false, .bool false, .int .i64 0, .int .i64 0, .int .i64 0] SHT))
  have B2 := Lib.hid (at1 w3 (.cells #[.bool false, .bool false, .int .i64 0, .int .i64 0, .int .i64 0] SHT))
  have loB2 : w.heap.size ≤ w3.heap.size := HR.out.grow.size
  have ltB0B2 := lt_of_row B0.out
  have ltB1B2 := lt_of_row B1.out
  replace B0 := Lib.hid ((HA.out.block _ (lt_of_row B0.out)).trans B0.out)
  replace B1 := Lib.hid ((HA.out.block _ (lt_of_row B1.out)).trans B1.out)
  replace HR := Lib.hid (HR.out.below HA.out)
  clear HA
  generalize w3.alloc (.cells #[.bool false, .bool false, .int .i64 0, .int .i64 0, .int .i64 0] SHT) = w4 at *
  generalize w3.heap.size = o2 at *
  obtain ⟨⟨h0, h1, h2, h3, h4⟩, _⟩ := Bx.b5 B2.out
  go_upto_region 13 with fail
  clear h0 h1 h2 h3 h4
  obtain ⟨⟨k0, k1, k2, k3, k4, k5⟩, _⟩ := Bx.b6 B1.out
  obtain ⟨⟨l0, l1, l2, l3, l4, l5⟩, ⟨f0, f1, f2, f3, f4, f5⟩⟩ := Bx.b6 B0.out
  have HP := Lib.hid (Bx.b6 (Bx.set6 B0.out (.int .i64 k) (.int .i64 0) (.int .i64 0) (.slice none 0 0) (.slice none 0 0) (.slice none 0 0))).1
  have HQ := Lib.hid (RX.set (RX.set (RX.set (RX.set (RX.set (RX.set HR.out (Nat.le_refl _) 0 (.int .i64 k)) (Nat.le_refl _) 1 (.int .i64 0)) (Nat.le_refl _) 2 (.int .i64 0)) (Nat.le_refl _) 3 (.slice none 0 0)) (Nat.le_refl _) 4 (.slice none 0 0)) (Nat.le_refl _) 5 (.slice none 0 0))
  clear HR B0 B1 B2
  go_wp2
  obtain ⟨p0, p1, p2, p3, p4, p5⟩ := HP.out
  exact bodyPost_ret (v := .agg #[.int .i64 k, .int .i64 0, .int .i64 0, .slice none 0 0, .slice none 0 0, .slice none 0 0]) (by simp [results, Tryz.results75, go_sem, p0, p1, p2, p3, p4, p5]) rfl ⟨⟨_, rfl, _, _, _, rfl, rw_nil _ _, rw_nil _ _, rw_nil _ _⟩, HQ.out⟩
theorem creadmsg_any {b : Nat} {w : World} {q : Rr} (h : CQ b w q w) : Calls Tryz.prog 75 #[.pointer (some ⟨b, 0, none⟩)] w fun e W' => (∃ v, e = .returned v ∧ MsgOwn W' w.heap.size (rawM q).1 v) ∧ CQ b w (rawM q).2 W' := by
  by_cases k0 : 1 ≤ (tInt q).1 ∧ (tInt q).1 ≤ 12
  · by_cases k1 : (tInt q).1 = 1
    · exact readmsg_1 h k1
    · by_cases k4 : (tInt q).1 = 4
      · exact readmsg_3 h k4
      · by_cases k7 : (tInt q).1 = 7
        · exact readmsg_4 h k7
        · by_cases k12 : (tInt q).1 = 12
          · exact readmsg_6 h k12
          · by_cases k5 : (tInt q).1 = 8 ∨ (tInt q).1 = 9 ∨ (tInt q).1 = 10
            · exact readmsg_5 h k5
            · exact readmsg_2 h (by omega)
  · exact readmsg_7 h k0
end Go.Proofs.YtdhlebmgeiiejaaGreat
