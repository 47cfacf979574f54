/- The code's codec: may all things of a list be? Written by wip/tools/gencdmb.py. -/
import Derived.Test.YtdhlebmgeiiejaaGreatKCdRow
import Derived.Test.YtdhlebmgeiiejaaGreatKPc
import Derived.Test.YtdhlebmgeiiejaaGreatKRdr
import Derived.Shelf.Abstract
namespace Go.Proofs.YtdhlebmgeiiejaaGreat
open Go.RowKit Go.Shelf Pz Cd
set_option linter.unusedVariables false
set_option linter.unusedSimpArgs false

theorem em_chk_c : ∀ args w, (callFunc 50 args).run Tryz.prog w = .ok (.enter 50 args) w := enters_of Tryz.func50 (by kernel_rfl) rfl
theorem em_clo_c : ∀ args w, (callFunc 117 args).run Tryz.prog w = .ok (.enter 117 args) w := enters_of Tryz.func117 (by kernel_rfl) rfl
set_option maxHeartbeats 16000000 in
set_option maxRecDepth 100000 in
theorem cclo_c (x : Cn) (p : Nat) (w : World) (hp : w.heap[p]? = some (.cells #[.func (.func 50) #[] #[]] 85 (0, 0))) : Calls Tryz.prog 117 #[x.val, .pointer (some ⟨p, 0, none⟩)] w fun e w' => e = .returned (.bool (!mayCmd x)) ∧ Below w.heap.size w w' := by
  have EN := em_chk_c
  have CKK : Hid (∀ W, Calls Tryz.prog 50 #[x.val] W fun e w' => e = .returned (.int .i64 (errB (mayCmd x))) ∧ Below W.heap.size W w') := Lib.hid fun W => checkcmd_any _ W
  generalize mayCmd x = r at *
  obtain ⟨xk, xs, xi, xg, ⟨xbs, xbi, xbg, xbm, xbx, xby, xbvx, xbvy, xbh, xbp, xbl⟩, xm⟩ := x
  simp only [Cn.val] at *
  have HB := Lib.hid (bel1 w (.cells #[.int .i64 xk, .int .i64 xs, .int .i64 xi, .int .i64 xg, .int .i64 xbs, .int .i64 xbi, .int .i64 xbg, .int .i64 xbm, .int .i64 xbx, .int .i64 xby, .int .i64 xbvx, .int .i64 xbvy, .int .i64 xbh, .int .i64 xbp, .int .i64 xbl, .int .i64 xm] 38))
  obtain ⟨⟨c0, c1, c2, c3, c4, c5, c6, c7, c8, c9, c10, c11, c12, c13, c14, c15⟩, _⟩ := Bx.b16 (at1 w (.cells #[.int .i64 xk, .int .i64 xs, .int .i64 xi, .int .i64 xg, .int .i64 xbs, .int .i64 xbi, .int .i64 xbg, .int .i64 xbm, .int .i64 xbx, .int .i64 xby, .int .i64 xbvx, .int .i64 xbvy, .int .i64 xbh, .int .i64 xbp, .int .i64 xbl, .int .i64 xm] 38))
  have k0 := (Bx.b1 ((HB.out.block _ (lt_of_row hp)).trans hp)).1
  clear hp
  cases r with
  | false =>
    rw [show errB false = 1 from rfl] at CKK
    go_enter Tryz.func117, Tryz.ntmps117
    go_upto_region 1 with fail
    generalize w.alloc (.cells #[.int .i64 xk, .int .i64 xs, .int .i64 xi, .int .i64 xg, .int .i64 xbs, .int .i64 xbi, .int .i64 xbg, .int .i64 xbm, .int .i64 xbx, .int .i64 xby, .int .i64 xbvx, .int .i64 xbvy, .int .i64 xbh, .int .i64 xbp, .int .i64 xbl, .int .i64 xm] 38) = w1 at *
    go_wp2_with fail
    with_reducible refine (CKK.out _).mono ?_
    rintro e w2 ⟨rfl, b2⟩
    replace HB := Lib.hid (HB.out.trans (b2.mono HB.out.size))
    clear c0 c1 c2 c3 c4 c5 c6 c7 c8 c9 c10 c11 c12 c13 c14 c15 k0 b2 CKK
    go_wp2
    go_ret
    exact ⟨rfl, HB.out⟩
  | true =>
    rw [show errB true = 0 from rfl] at CKK
    go_enter Tryz.func117, Tryz.ntmps117
    go_upto_region 1 with fail
    generalize w.alloc (.cells #[.int .i64 xk, .int .i64 xs, .int .i64 xi, .int .i64 xg, .int .i64 xbs, .int .i64 xbi, .int .i64 xbg, .int .i64 xbm, .int .i64 xbx, .int .i64 xby, .int .i64 xbvx, .int .i64 xbvy, .int .i64 xbh, .int .i64 xbp, .int .i64 xbl, .int .i64 xm] 38) = w1 at *
    go_wp2_with fail
    with_reducible refine (CKK.out _).mono ?_
    rintro e w2 ⟨rfl, b2⟩
    replace HB := Lib.hid (HB.out.trans (b2.mono HB.out.size))
    clear c0 c1 c2 c3 c4 c5 c6 c7 c8 c9 c10 c11 c12 c13 c14 c15 k0 b2 CKK
    go_wp2
    go_ret
    exact ⟨rfl, HB.out⟩
set_option maxHeartbeats 16000000 in
set_option maxRecDepth 100000 in
theorem cindex_c {w : World} {A : Option Addr} {cap : Nat} {l : List Cn} (R : RdC w w.heap.size A l) (hl : l.length ≤ 140737488351232) {p : Nat} (hp : w.heap[p]? = some (.cells #[.func (.func 50) #[] #[]] 85 (0, 0))) :
    Calls Tryz.prog 128 #[.slice A l.length cap, .func (.func 117) #[] #[.pointer (some ⟨p, 0, none⟩)]] w fun e w' => (∃ i : Int, e = .returned (.int .i64 i) ∧ decide (i ≥ 0) = !l.all mayCmd) ∧ Below w.heap.size w w' := by
  have EG := em_clo_c
  have AT : Hid (∀ W, Below w.heap.size w W → ∀ j (hj : j < l.length), ∃ ga oa, A = some ⟨ga, oa, none⟩ ∧ (W.cell? ⟨ga, oa + j * 16, none⟩ = some (.int .i64 l[j].k) ∧ W.cell? ⟨ga, oa + j * 16 + 1, none⟩ = some (.int .i64 l[j].s) ∧ W.cell? ⟨ga, oa + j * 16 + 2, none⟩ = some (.int .i64 l[j].i) ∧ W.cell? ⟨ga, oa + j * 16 + 3, none⟩ = some (.int .i64 l[j].g) ∧ W.cell? ⟨ga, oa + j * 16 + 4, none⟩ = some (.int .i64 l[j].b.s) ∧ W.cell? ⟨ga, oa + j * 16 + 5, none⟩ = some (.int .i64 l[j].b.i) ∧ W.cell? ⟨ga, oa + j * 16 + 6, none⟩ = some (.int .i64 l[j].b.g) ∧ W.cell? ⟨ga, oa + j * 16 + 7, none⟩ = some (.int .i64 l[j].b.m) ∧ W.cell? ⟨ga, oa + j * 16 + 8, none⟩ = some (.int .i64 l[j].b.x) ∧ W.cell? ⟨ga, oa + j * 16 + 9, none⟩ = some (.int .i64 l[j].b.y) ∧ W.cell? ⟨ga, oa + j * 16 + 10, none⟩ = some (.int .i64 l[j].b.vx) ∧ W.cell? ⟨ga, oa + j * 16 + 11, none⟩ = some (.int .i64 l[j].b.vy) ∧ W.cell? ⟨ga, oa + j * 16 + 12, none⟩ = some (.int .i64 l[j].b.h) ∧ W.cell? ⟨ga, oa + j * 16 + 13, none⟩ = some (.int .i64 l[j].b.p) ∧ W.cell? ⟨ga, oa + j * 16 + 14, none⟩ = some (.int .i64 l[j].b.l) ∧ W.cell? ⟨ga, oa + j * 16 + 15, none⟩ = some (.int .i64 l[j].m))) := Lib.hid fun W hW j hj => by
    obtain ⟨ga, oa, e, _, k1⟩ := (R.below hW) j _ (List.getElem?_eq_getElem hj)
    exact ⟨ga, oa, e, k1⟩
  have CL : Hid (∀ W, Below w.heap.size w W → ∀ x, Calls Tryz.prog 117 #[x.val, .pointer (some ⟨p, 0, none⟩)] W fun e w' => e = .returned (.bool (!mayCmd x)) ∧ Below W.heap.size W w') := Lib.hid fun W hW x => cclo_c x p W ((hW.block _ (lt_of_row hp)).trans hp)
  clear R hp
  go_enter Tryz.func128, Tryz.ntmps128
  go_wp2
  go_loopw [8] (fun ix wr => ∃ k : Nat, k ≤ l.length ∧ ix = .int .i64 k ∧ Hid (Below w.heap.size w wr) ∧ Hid ((l.take k).all mayCmd = true)) (fun ix _ => l.length - (intOf ix).toNat)
  case atStart => exact ⟨0, Nat.zero_le _, rfl, Lib.hid (Below.refl _ _), Lib.hid (by simp)⟩
  case round =>
    obtain ⟨k, hk, rfl, HB, HI⟩ := hrel
    by_cases hkl : k < l.length
    · have t1 : (k : Int) < (l.length : Int) := by omega
      obtain ⟨ga, oa, rfl, c0, c1, c2, c3, c4, c5, c6, c7, c8, c9, c10, c11, c12, c13, c14, c15⟩ := AT.out wr HB.out k hkl
      have FF := Lib.hid (CL.out wr HB.out l[k])
      have NX : Hid (mayCmd l[k] = true → (l.take (k + 1)).all mayCmd = true) := Lib.hid fun h => by
        rw [List.take_succ_eq_append_getElem hkl, List.all_append, HI.out]
        simp [h]
      have ND : Hid (mayCmd l[k] = false → decide ((k : Int) ≥ 0) = !l.all mayCmd) := Lib.hid fun h => by
        have h2 : l.all mayCmd = false := by
          rw [List.all_eq_false]
          exact ⟨l[k], List.getElem_mem _, by rw [h]; decide⟩
        rw [h2, decide_eq_true (by omega)]
        rfl
      clear AT CL HI
      generalize hx : l[k] = x at *
      clear hx
      generalize hr : mayCmd x = r at *
      clear hr
      obtain ⟨xk, xs, xi, xg, ⟨xbs, xbi, xbg, xbm, xbx, xby, xbvx, xbvy, xbh, xbp, xbl⟩, xm⟩ := x
      simp only [Cn.val] at *
      generalize hn : l.length = n at *
      cases r with
      | true =>
        replace NX := Lib.hid (NX.out rfl)
        clear ND
        go_wp2_with (go_at_call 117; with_reducible refine (FF.out).mono ?_; rintro e w' ⟨rfl, hb2⟩; replace HB := Lib.hid (HB.out.trans (hb2.mono HB.out.size)); clear hb2 FF c0 c1 c2 c3 c4 c5 c6 c7 c8 c9 c10 c11 c12 c13 c14 c15)
        go_roundw
        case rel => exact ⟨k + 1, by omega, by go_num, HB, NX⟩
        case measure => simp [intOf]; omega
      | false =>
        replace ND := Lib.hid (ND.out rfl)
        clear NX
        go_wp2_with (go_at_call 117; with_reducible refine (FF.out).mono ?_; rintro e w' ⟨rfl, hb2⟩; replace HB := Lib.hid (HB.out.trans (hb2.mono HB.out.size)); clear hb2 FF c0 c1 c2 c3 c4 c5 c6 c7 c8 c9 c10 c11 c12 c13 c14 c15)
        go_ret
        exact ⟨⟨_, rfl, ND.out⟩, HB.out⟩
    · have t1 : ¬ (k : Int) < (l.length : Int) := by omega
      have E1 : Hid (decide ((-1 : Int) ≥ 0) = !l.all mayCmd) := Lib.hid (by
        have := HI.out
        rw [List.take_of_length_le (by omega)] at this
        rw [this]
        rfl)
      clear AT CL HI
      generalize l.length = n at *
      go_wp2
      go_ret
      exact ⟨⟨_, rfl, E1.out⟩, HB.out⟩
set_option maxHeartbeats 16000000 in
set_option maxRecDepth 100000 in
theorem ccontains_c {w : World} {A : Option Addr} {cap : Nat} {l : List Cn} (R : RdC w w.heap.size A l) (hl : l.length ≤ 140737488351232) {p : Nat} (hp : w.heap[p]? = some (.cells #[.func (.func 50) #[] #[]] 85 (0, 0))) :
    Calls Tryz.prog 116 #[.slice A l.length cap, .func (.func 117) #[] #[.pointer (some ⟨p, 0, none⟩)]] w fun e w' => e = .returned (.bool (!l.all mayCmd)) ∧ Below w.heap.size w w' := by
  have CI := Lib.hid (cindex_c (cap := cap) R hl hp)
  generalize l.all mayCmd = r at *
  clear R hp
  generalize l.length = n at *
  go_enter Tryz.func116, Tryz.ntmps116
  go_wp2_with fail
  refine CI.out.mono ?_
  rintro e w' ⟨⟨i, rfl, hi⟩, hb⟩
  clear CI
  go_wp2
  go_ret
  rw [← hi]
  exact ⟨rfl, hb⟩
set_option maxHeartbeats 16000000 in
set_option maxRecDepth 100000 in
theorem clistmay_c {w : World} {A : Option Addr} {cap : Nat} {l : List Cn} (R : RdC w w.heap.size A l) (hl : l.length ≤ 140737488351232) (most : Int) :
    Calls Tryz.prog 102 #[.slice A l.length cap, .int .i64 most, .func (.func 50) #[] #[]] w fun e w' => e = .returned (.bool (kC.okL most l)) ∧ Below w.heap.size w w' := by
  have hb := bel1 w (.cells #[.func (.func 50) #[] #[]] 85)
  have CF := Lib.hid (ccontains_c (cap := cap) ((R.below hb).more hb.size) hl (at1 w (.cells #[.func (.func 50) #[] #[]] 85)))
  have HE : kC.okL most l = (decide ((l.length : Int) ≤ most) && l.all mayCmd) := rfl
  rw [HE]
  clear HE R
  generalize l.all mayCmd = r at *
  replace hb := Lib.hid hb
  by_cases hm : (l.length : Int) ≤ most
  · rw [decide_eq_true hm, Bool.true_and]
    generalize l.length = n at *
    go_enter Tryz.func102, Tryz.ntmps102
    go_wp2_with (go_at_call 116; refine CF.out.mono ?_; rintro e w2 ⟨rfl, b2⟩; replace hb := Lib.hid (hb.out.trans (b2.mono hb.out.size)); clear b2 CF)
    go_ret
    exact ⟨rfl, hb.out⟩
  · rw [decide_eq_false hm, Bool.false_and]
    generalize l.length = n at *
    go_enter Tryz.func102, Tryz.ntmps102
    go_wp2
    go_ret
    exact ⟨rfl, hb.out⟩
end Go.Proofs.YtdhlebmgeiiejaaGreat
