/- The code's Find, Without. Written by wip/tools/genpc8.py. -/
import Derived.Test.YtookmjdnmmfkfaaPcCode7
import Derived.Test.YtookmjdnmmfkfaaPcCode5
import Derived.Deep.DeepCutAuto
namespace Go.Proofs.Ytookmjdnmmfkfaa
open Go.RowKit Pz
set_option linter.unusedVariables false

set_option maxHeartbeats 16000000 in
set_option maxRecDepth 100000 in
theorem find_any {w : World} {A : Option Addr} {cap : Nat} {l : List Bn} (R : RdB w w.heap.size A l) (hl : l.length ≤ 140737488351232) (s i g : Int) :
    Calls Try.prog 28 #[.slice A l.length cap, .agg #[.int .i64 s, .int .i64 i, .int .i64 g]] w fun e w' => e = .returned (.tuple #[.int .i64 (findAt l (s, i, g) : Int), .bool (foundAt l (s, i, g))]) ∧ Below w.heap.size w w' := by
  have B1 := bel1 w (.cells #[.int .i64 s, .int .i64 i, .int .i64 g] 23)
  have H1 := at1 w (.cells #[.int .i64 s, .int .i64 i, .int .i64 g] 23)
  have ID : Hid (∀ W, Below (w.alloc (.cells #[.int .i64 s, .int .i64 i, .int .i64 g] 23)).heap.size (w.alloc (.cells #[.int .i64 s, .int .i64 i, .int .i64 g] 23)) W → (W.cell? ⟨w.heap.size, 0, none⟩ = some (.int .i64 s) ∧ W.cell? ⟨w.heap.size, 1, none⟩ = some (.int .i64 i) ∧ W.cell? ⟨w.heap.size, 2, none⟩ = some (.int .i64 g)) ∧ Below w.heap.size w W) := Lib.hid fun W hW => ⟨(Bx.b3 ((hW.block _ (Bx.lt H1)).trans H1)).1, B1.trans (hW.mono B1.size)⟩
  have AT : Hid (∀ W, Below w.heap.size w W → ∀ j (hj : j < l.length), ∃ ga oa, A = some ⟨ga, oa, none⟩ ∧ (W.cell? ⟨ga, oa + j * 11, none⟩ = some (.int .i64 l[j].s) ∧ W.cell? ⟨ga, oa + j * 11 + 1, none⟩ = some (.int .i64 l[j].i) ∧ W.cell? ⟨ga, oa + j * 11 + 2, none⟩ = some (.int .i64 l[j].g))) := Lib.hid fun W hW j hj => by
    obtain ⟨ga, oa, e, _, q0, q1, q2, _⟩ := (R.below hW) j _ (List.getElem?_eq_getElem hj)
    exact ⟨ga, oa, e, q0, q1, q2⟩
  have IX := Lib.hid (index_any (w := w.alloc (.cells #[.int .i64 s, .int .i64 i, .int .i64 g] 23)) (cap := cap) (RdB.more (R.below B1) B1.size) hl (Bx.b3 H1).1.1 (Bx.b3 H1).1.2.1 (Bx.b3 H1).1.2.2)
  have BB := Lib.hid (Below.refl (w.alloc (.cells #[.int .i64 s, .int .i64 i, .int .i64 g] 23)).heap.size (w.alloc (.cells #[.int .i64 s, .int .i64 i, .int .i64 g] 23)))
  have LE := findAt_le l (s, i, g)
  have IO : Hid (idxOf l (s, i, g) = if findAt l (s, i, g) < l.length then (findAt l (s, i, g) : Int) else -1) := Lib.hid rfl
  have FO : Hid (foundAt l (s, i, g) = match l[findAt l (s, i, g)]? with | some b => sameID b.id (s, i, g) | none => false) := Lib.hid rfl
  generalize idxOf l (s, i, g) = res at *
  generalize foundAt l (s, i, g) = fo at *
  generalize findAt l (s, i, g) = k at *
  clear H1 B1 R
  go_enter Try.func28, Try.ntmps28
  go_upto_region 1 with fail
  generalize w.alloc (.cells #[.int .i64 s, .int .i64 i, .int .i64 g] 23) = w1 at *
  by_cases hk : k < l.length
  · have e1 : res = (k : Int) := by rw [IO.out, if_pos hk]
    have e2 : fo = sameID l[k].id (s, i, g) := by rw [FO.out, List.getElem?_eq_getElem hk]
    subst e1
    have t1 : decide ((k : Int) < 0) = false := decide_eq_false (by omega)
    have t2 : (k : Int) < (l.length : Int) := by omega
    have EQ : ∀ W : World, (Op.equalIn 10000 23 (.agg #[.int .i64 l[k].s, .int .i64 l[k].i, .int .i64 l[k].g]) (.agg #[.int .i64 s, .int .i64 i, .int .i64 g])).run Try.prog W = .ok (sameID l[k].id (s, i, g)) W := fun W => eq_id 9998 l[k].s l[k].i l[k].g s i g W
    rw [← e2] at EQ
    clear e2 FO IO LE
    have AK : Hid (∀ W, Below w.heap.size w W → ∃ ga oa, A = some ⟨ga, oa, none⟩ ∧ (W.cell? ⟨ga, oa + k * 11, none⟩ = some (.int .i64 l[k].s) ∧ W.cell? ⟨ga, oa + k * 11 + 1, none⟩ = some (.int .i64 l[k].i) ∧ W.cell? ⟨ga, oa + k * 11 + 2, none⟩ = some (.int .i64 l[k].g))) := Lib.hid fun W hW => AT.out W hW k hk
    clear AT
    generalize l[k].s = x0 at *
    generalize l[k].i = x1 at *
    generalize l[k].g = x2 at *
    generalize l.length = n at *
    go_upto_region 4 with (go_at_call 43; refine (IX.out).mono ?_; rintro e w2 ⟨rfl, hb2⟩; replace BB := Lib.hid hb2; clear hb2 IX)
    obtain ⟨⟨d0, d1, d2⟩, HB⟩ := ID.out w2 BB.out
    obtain ⟨ga, oa, rfl, c0, c1, c2⟩ := AK.out w2 HB
    clear AK ID BB
    replace HB := Lib.hid HB
    go_quiet (fail)
    rename_i nq
    have FB := Lib.hid (Below.dn' HB.out nq)
    go_wp2
    go_ret2
    exact ⟨rfl, FB.out⟩
  · have e1 : res = -1 := by rw [IO.out, if_neg hk]
    have e2 : fo = false := by rw [FO.out, List.getElem?_eq_none (by omega)]
    have e3 : k = l.length := by omega
    subst e1 e2
    replace e3 := Lib.hid e3
    clear FO IO LE AT hk
    go_wp2_with (go_at_call 43; refine (IX.out).mono ?_; rintro e w2 ⟨rfl, hb2⟩; replace BB := Lib.hid hb2; clear hb2 IX)
    obtain ⟨_, HB⟩ := ID.out w2 BB.out
    go_ret2
    rw [e3.out]
    exact ⟨rfl, HB⟩
theorem W2.put {w W : World} {rb : Nat} {a c : Bn} (h : W2 w rb a c W) (x : Bn) : W2 w rb x c (((((((((((W.setCell ⟨w.heap.size, 0, none⟩ (.int .i64 x.s)).setCell ⟨w.heap.size, 1, none⟩ (.int .i64 x.i)).setCell ⟨w.heap.size, 2, none⟩ (.int .i64 x.g)).setCell ⟨w.heap.size, 3, none⟩ (.int .i64 x.m)).setCell ⟨w.heap.size, 4, none⟩ (.int .i64 x.x)).setCell ⟨w.heap.size, 5, none⟩ (.int .i64 x.y)).setCell ⟨w.heap.size, 6, none⟩ (.int .i64 x.vx)).setCell ⟨w.heap.size, 7, none⟩ (.int .i64 x.vy)).setCell ⟨w.heap.size, 8, none⟩ (.int .i64 x.h)).setCell ⟨w.heap.size, 9, none⟩ (.int .i64 x.p)).setCell ⟨w.heap.size, 10, none⟩ (.int .i64 x.l)) := by
  have h1 := h.rb
  refine ⟨Bx.put11 h.bel (Nat.le_refl _) (.int .i64 x.s) (.int .i64 x.i) (.int .i64 x.g) (.int .i64 x.m) (.int .i64 x.x) (.int .i64 x.y) (.int .i64 x.vx) (.int .i64 x.vy) (.int .i64 x.h) (.int .i64 x.p) (.int .i64 x.l), Bx.set11 h.own (.int .i64 x.s) (.int .i64 x.i) (.int .i64 x.g) (.int .i64 x.m) (.int .i64 x.x) (.int .i64 x.y) (.int .i64 x.vx) (.int .i64 x.vy) (.int .i64 x.h) (.int .i64 x.p) (.int .i64 x.l), ?_, ?_, h.rb⟩
  · simp only [Bx.ne (W := _) (show w.heap.size + 1 ≠ w.heap.size by omega)]
    exact h.oth
  · simp only [Bx.ne (W := _) (show rb ≠ w.heap.size by omega)]
    exact h.res
set_option maxHeartbeats 16000000 in
set_option maxRecDepth 100000 in
/-- components taken away -/
theorem cwithout_any (b : Bn) (n : Int) (w : World) : Calls Try.prog 21 #[b.val, .int .i64 n] w fun e w' => e = .returned (withoutB b n).val ∧ Below w.heap.size w w' := by
  have C1 : Hid (∀ W, Calls Try.prog 19 #[b.val, Bn.val ⟨0, 0, 0, n, 0, 0, 0, 0, 0, 0, 0⟩] W fun e w' => e = .returned (withB b ⟨0, 0, 0, n, 0, 0, 0, 0, 0, 0, 0⟩).val ∧ Below W.heap.size W w') := Lib.hid fun W => cwith_any b ⟨0, 0, 0, n, 0, 0, 0, 0, 0, 0, 0⟩ W
  have EV : withoutB b n = { withB b ⟨0, 0, 0, n, 0, 0, 0, 0, 0, 0, 0⟩ with m := bits .andNot .i64 (bits .or .i64 b.m n) n } := by
    unfold withoutB withB
    simp only
    rw [andNot_or]
  rw [EV]
  clear EV
  have EM : (withB b ⟨0, 0, 0, n, 0, 0, 0, 0, 0, 0, 0⟩).m = bits .or .i64 b.m n := rfl
  rw [← EM]
  clear EM
  generalize withB b ⟨0, 0, 0, n, 0, 0, 0, 0, 0, 0, 0⟩ = x at *
  obtain ⟨us, ui, ug, um, ux, uy, uvx, uvy, uh, up, ul⟩ := b
  obtain ⟨xs, xi, xg, xm, xx, xy, xvx, xvy, xh, xp, xl⟩ := x
  simp only [Bn.val] at *
  obtain ⟨Xm, hXm⟩ : ∃ X, bits .andNot .i64 xm n = X := ⟨_, rfl⟩
  rw [hXm]
  have HB : Hid (W2 w (w.heap.size + 1) ⟨us, ui, ug, um, ux, uy, uvx, uvy, uh, up, ul⟩ Bn.zero ((w.alloc (.cells #[.int .i64 us, .int .i64 ui, .int .i64 ug, .int .i64 um, .int .i64 ux, .int .i64 uy, .int .i64 uvx, .int .i64 uvy, .int .i64 uh, .int .i64 up, .int .i64 ul] 25)).alloc (.cells #[.int .i64 0, .int .i64 0, .int .i64 0, .int .i64 0, .int .i64 0, .int .i64 0, .int .i64 0, .int .i64 0, .int .i64 0, .int .i64 0, .int .i64 0] 25))) := Lib.hid ⟨bel2 w _ _, at2a w _ _, at2b w _ _, at2b w _ _, by omega⟩
  go_enter Try.func21, Try.ntmps21
  go_upto_region 1 with fail
  generalize (w.alloc (.cells #[.int .i64 us, .int .i64 ui, .int .i64 ug, .int .i64 um, .int .i64 ux, .int .i64 uy, .int .i64 uvx, .int .i64 uvy, .int .i64 uh, .int .i64 up, .int .i64 ul] 25)).alloc (.cells #[.int .i64 0, .int .i64 0, .int .i64 0, .int .i64 0, .int .i64 0, .int .i64 0, .int .i64 0, .int .i64 0, .int .i64 0, .int .i64 0, .int .i64 0] 25) = V0 at *
  obtain ⟨⟨k0, k1, k2, k3, k4, k5, k6, k7, k8, k9, k10⟩, ⟨f0, f1, f2, f3, f4, f5, f6, f7, f8, f9, f10⟩⟩ := Bx.b11 HB.out.own
  go_upto_region 2 with (go_at_call 19; with_reducible refine (C1.out _).mono ?_; rintro e w2 ⟨rfl, hb2⟩; clear k0 k1 k2 k3 k4 k5 k6 k7 k8 k9 k10 f0 f1 f2 f3 f4 f5 f6 f7 f8 f9 f10; replace HB := Lib.hid (HB.out.step hb2); clear hb2; obtain ⟨⟨k0, k1, k2, k3, k4, k5, k6, k7, k8, k9, k10⟩, ⟨f0, f1, f2, f3, f4, f5, f6, f7, f8, f9, f10⟩⟩ := Bx.b11 HB.out.own)
  replace HB := Lib.hid (HB.out.put ⟨xs, xi, xg, xm, xx, xy, xvx, xvy, xh, xp, xl⟩)
  simp only at HB
  clear k0 k1 k2 k3 k4 k5 k6 k7 k8 k9 k10 f0 f1 f2 f3 f4 f5 f6 f7 f8 f9 f10
  generalize (((((((((((w2.setCell ⟨w.heap.size, 0, none⟩ (.int .i64 xs)).setCell ⟨w.heap.size, 1, none⟩ (.int .i64 xi)).setCell ⟨w.heap.size, 2, none⟩ (.int .i64 xg)).setCell ⟨w.heap.size, 3, none⟩ (.int .i64 xm)).setCell ⟨w.heap.size, 4, none⟩ (.int .i64 xx)).setCell ⟨w.heap.size, 5, none⟩ (.int .i64 xy)).setCell ⟨w.heap.size, 6, none⟩ (.int .i64 xvx)).setCell ⟨w.heap.size, 7, none⟩ (.int .i64 xvy)).setCell ⟨w.heap.size, 8, none⟩ (.int .i64 xh)).setCell ⟨w.heap.size, 9, none⟩ (.int .i64 xp)).setCell ⟨w.heap.size, 10, none⟩ (.int .i64 xl)) = V2 at *
  obtain ⟨⟨k0, k1, k2, k3, k4, k5, k6, k7, k8, k9, k10⟩, ⟨f0, f1, f2, f3, f4, f5, f6, f7, f8, f9, f10⟩⟩ := Bx.b11 HB.out.own
  have HB6 := Lib.hid (HB.out.set_m Xm)
  clear HB
  go_upto_region 3 with fail
  clear k0 k1 k2 k3 k4 k5 k6 k7 k8 k9 k10 f0 f1 f2 f3 f4 f5 f6 f7 f8 f9 f10
  generalize V2.setCell ⟨w.heap.size, 3, none⟩ (.int .i64 Xm) = V6 at *
  obtain ⟨⟨k0, k1, k2, k3, k4, k5, k6, k7, k8, k9, k10⟩, _⟩ := Bx.b11 HB6.out.own
  obtain ⟨⟨n0, n1, n2, n3, n4, n5, n6, n7, n8, n9, n10⟩, ⟨p0, p1, p2, p3, p4, p5, p6, p7, p8, p9, p10⟩, HF⟩ := HB6.out.fin
  clear HB6
  go_wp2
  obtain ⟨⟨r0, r1, r2, r3, r4, r5, r6, r7, r8, r9, r10⟩, hbel⟩ := HF.out
  exact bodyPost_ret (v := .agg #[.int .i64 xs, .int .i64 xi, .int .i64 xg, .int .i64 Xm, .int .i64 xx, .int .i64 xy, .int .i64 xvx, .int .i64 xvy, .int .i64 xh, .int .i64 xp, .int .i64 xl]) (by simp [results, Try.results21, go_sem, r0, r1, r2, r3, r4, r5, r6, r7, r8, r9, r10]) rfl ⟨rfl, hbel⟩
end Go.Proofs.Ytookmjdnmmfkfaa
