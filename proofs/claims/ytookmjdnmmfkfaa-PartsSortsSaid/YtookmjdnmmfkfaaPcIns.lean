/- The library's insertionSortCmpFunc, over a row of one's own. Written by wip/tools/genins.py. -/
import Derived.Test.YtookmjdnmmfkfaaPcSw
import Derived.BigRegion
namespace Go.Proofs.Ytookmjdnmmfkfaa
open Go.RowKit Pz Go.Shelf
set_option linter.unusedVariables false

namespace Pz
/-- X, of which the part ahead of place i is sorted -/
def InsO (P X Q R : List Bn) (i : Nat) : Prop := (X = [] ∧ R = P ++ (X ++ Q)) ∨ ∃ Z Y : List Bn, 0 < Z.length ∧ P.length + Z.length = i ∧ R = P ++ (Z ++ (Y ++ Q)) ∧ Srt Z ∧ Alike (Z ++ Y) X ∧ Z.length + Y.length = X.length
/-- and the one that stood at i is at j -/
def InsI (P X Q R : List Bn) (i j : Nat) : Prop := ∃ (Z1 : List Bn) (y : Bn) (Z2 Y : List Bn), P.length + Z1.length = j ∧ j + Z2.length = i ∧ R = P ++ (Z1 ++ (y :: (Z2 ++ (Y ++ Q)))) ∧ Srt (Z1 ++ Z2) ∧ (∀ z ∈ Z2, before y.id z.id = true) ∧ Alike ((Z1 ++ Z2) ++ (y :: Y)) X ∧ Z1.length + Z2.length + 1 + Y.length = X.length
theorem InsO.start (P X Q : List Bn) : InsO P X Q (P ++ (X ++ Q)) (P.length + 1) := by
  cases X with
  | nil => exact .inl ⟨rfl, rfl⟩
  | cons x r => exact .inr ⟨[x], r, by simp, rfl, by simp, List.pairwise_singleton _ _, Alike.refl _, by simp; omega⟩
theorem InsO.done {P X Q R : List Bn} {i : Nat} (h : InsO P X Q R i) (hi : ¬ i < P.length + X.length) : ∃ Z, Srt Z ∧ Alike Z X ∧ R = P ++ (Z ++ Q) := by
  rcases h with ⟨rfl, rfl⟩ | ⟨Z, Y, h0, h1, rfl, h2, h3, h4⟩
  · exact ⟨[], List.Pairwise.nil, Alike.refl _, rfl⟩
  · have : Y = [] := List.length_eq_zero_iff.1 (by omega)
    subst this
    rw [List.append_nil] at h3
    exact ⟨Z, h2, h3, by simp⟩
theorem InsO.begin_ {P X Q R : List Bn} {i : Nat} (h : InsO P X Q R i) (h0 : P.length < i) (hi : i < P.length + X.length) : InsI P X Q R i i := by
  rcases h with ⟨rfl, rfl⟩ | ⟨Z, Y, _, h1, rfl, h2, h3, h4⟩
  · simp at hi; omega
  · cases Y with
    | nil => simp at h4; omega
    | cons y Y => exact ⟨Z, y, [], Y, h1, rfl, by simp, by rw [List.append_nil]; exact h2, fun z hz => by simp at hz, by rw [List.append_nil]; exact h3, by simp only [List.length_cons, List.length_nil] at h4 ⊢; omega⟩
theorem InsI.bds {P X Q R : List Bn} {i j : Nat} (h : InsI P X Q R i j) : P.length ≤ j ∧ j ≤ i ∧ i < R.length := by
  obtain ⟨Z1, y, Z2, Y, h1, h2, rfl, _⟩ := h
  simp only [List.length_append, List.length_cons]
  omega
theorem InsI.end_ {P X Q R : List Bn} {i j : Nat} (h : InsI P X Q R i j) (hs : j = P.length ∨ ∃ x y, R[j]? = some x ∧ R[j - 1]? = some y ∧ P.length < j ∧ before x.id y.id = false) : InsO P X Q R (i + 1) := by
  obtain ⟨Z1, x, Z2, Y, h1, h2, rfl, h3, h4, h5, h6⟩ := h
  have hz : ∀ z ∈ Z1, before x.id z.id = false := fun z hz => by
    rcases hs with e | ⟨x', y, hx, hy, hj, hb⟩
    · have : Z1 = [] := List.length_eq_zero_iff.1 (by omega)
      rw [this] at hz
      cases hz
    · rw [List.getElem?_append_right (by omega), List.getElem?_append_right (by omega), show j - P.length - Z1.length = 0 by omega] at hx
      simp only [List.getElem?_cons_zero, Option.some.injEq] at hx
      subst hx
      rcases List.eq_nil_or_concat Z1 with e | ⟨Z0, z0, e⟩
      · rw [e] at hz
        cases hz
      · rw [List.concat_eq_append] at e
        subst e
        simp only [List.length_append, List.length_cons, List.length_nil] at h1
        rw [List.getElem?_append_right (by omega), List.append_assoc, List.getElem?_append_right (by omega), show j - 1 - P.length - Z0.length = 0 by omega] at hy
        simp only [List.cons_append, List.getElem?_cons_zero, Option.some.injEq] at hy
        subst hy
        rcases List.mem_append.1 hz with hz | hz
        · exact le_trans' ((srt_app.1 (srt_app.1 h3).1).2.2 z hz z0 (List.mem_singleton.2 rfl)) hb
        · rw [List.mem_singleton.1 hz]
          exact hb
  obtain ⟨q1, q2⟩ := srt_mid h3 hz h4
  refine .inr ⟨Z1 ++ x :: Z2, Y, by simp only [List.length_append, List.length_cons]; omega, by simp only [List.length_append, List.length_cons]; omega, by simp [List.append_assoc], q1, ?_, by simp only [List.length_append, List.length_cons]; omega⟩
  refine Alike.trans (Alike.app q2 (Alike.refl Y)) ?_
  rw [List.append_assoc]
  exact h5
theorem InsI.down {P X Q R : List Bn} {i j : Nat} (h : InsI P X Q R i (j + 1)) {x y : Bn} (hx : R[j + 1]? = some x) (hy : R[j]? = some y) (hj : P.length ≤ j) (hb : before x.id y.id = true) : InsI P X Q ((R.set (j + 1) y).set j x) i j := by
  have e0 := sw_is hy hx
  rw [List.set_comm _ _ (by omega)] at e0
  obtain ⟨Z1, x', Z2, Y, h1, h2, rfl, h3, h4, h5, h6⟩ := h
  rw [← e0]
  clear e0
  rw [List.getElem?_append_right (by omega), List.getElem?_append_right (by omega), show j + 1 - P.length - Z1.length = 0 by omega] at hx
  simp only [List.getElem?_cons_zero, Option.some.injEq] at hx
  subst hx
  rcases List.eq_nil_or_concat Z1 with e | ⟨Z0, z0, e⟩
  · rw [e] at h1
    simp at h1
    omega
  · rw [List.concat_eq_append] at e
    subst e
    simp only [List.length_append, List.length_cons, List.length_nil] at h1 h6
    rw [List.getElem?_append_right (by omega), List.append_assoc, List.getElem?_append_right (by omega), show j - P.length - Z0.length = 0 by omega] at hy
    simp only [List.cons_append, List.getElem?_cons_zero, Option.some.injEq] at hy
    subst hy
    refine ⟨Z0, x', z0 :: Z2, Y, by omega, by simp only [List.length_cons]; omega, ?_, by simpa using h3, fun z hz => ?_, by simpa using h5, by simp only [List.length_cons]; omega⟩
    · have := sw_parts (P ++ Z0) [] (Z2 ++ (Y ++ Q)) z0 x'
      simp only [List.length_append, List.length_nil, Nat.add_zero, List.nil_append] at this
      rw [show P.length + Z0.length = j by omega] at this
      simpa [List.append_assoc] using this
    · rcases List.mem_cons.1 hz with rfl | hz
      · exact hb
      · exact h4 z hz
end Pz
set_option maxHeartbeats 16000000 in
set_option maxRecDepth 100000 in
theorem insertion_any {B : Nat} {A : Option Addr} {N c : Nat} {P X Q : List Bn} {w : World} (h : Rs B A N c (P ++ (X ++ Q)) w w) (hN : N ≤ 1000000) (hBw : B ≤ w.heap.size) {a b : Nat} (ha : P.length = a) (hb : a + X.length = b) :
    Calls Try.prog 54 #[.slice A N c, .int .i64 (a : Int), .int .i64 (b : Int), .func (.func 42) #[] #[]] w fun e w' => e = .returned (.tuple #[]) ∧ ∃ Z, Srt Z ∧ Pz.Alike Z X ∧ Rs B A N c (P ++ (Z ++ Q)) w w' := by
  have H0 := Lib.hid h
  have hlen := h.len
  simp only [List.length_append] at hlen
  have bN : b ≤ N := by omega
  have aN : a ≤ 1000000 := by omega
  have O0 := Lib.hid (InsO.start P X Q)
  rw [ha] at O0
  have DONE : Hid (∀ (R : List Bn) (i : Nat), InsO P X Q R i → ¬ i < b → ∃ Z, Srt Z ∧ Pz.Alike Z X ∧ R = P ++ (Z ++ Q)) := Lib.hid fun R i h hi => h.done (by omega)
  have BEG : Hid (∀ (R : List Bn) (i : Nat), InsO P X Q R i → a < i → i < b → InsI P X Q R i i) := Lib.hid fun R i h h0 hi => h.begin_ (by omega) (by omega)
  have BDS : Hid (∀ (R : List Bn) (i j : Nat), InsI P X Q R i j → a ≤ j ∧ j ≤ i ∧ i < R.length) := Lib.hid fun R i j h => by have := h.bds; omega
  have STOP : Hid (∀ (R : List Bn) (i j : Nat), InsI P X Q R i j → (j = a ∨ ∃ x y, R[j]? = some x ∧ R[j - 1]? = some y ∧ a < j ∧ before x.id y.id = false) → InsO P X Q R (i + 1)) := Lib.hid fun R i j h hs => h.end_ (by rw [ha]; exact hs)
  have DOWN : Hid (∀ (R : List Bn) (i j : Nat), InsI P X Q R i (j + 1) → ∀ x y : Bn, R[j + 1]? = some x → R[j]? = some y → a ≤ j → before x.id y.id = true → InsI P X Q ((R.set (j + 1) y).set j x) i j) := Lib.hid fun R i j h x y hx hy hj hb => h.down hx hy (by omega) hb
  generalize hD : P ++ (X ++ Q) = D at *
  clear hD hlen h ha hb
  have EG := enters42
  have hBB := Lib.hid hBw
  go_enter Try.func54, Try.ntmps54
  go_wp2
  go_loopw [8] (fun ix wr => ∃ (i : Nat) (R : List Bn), ix = .int .i64 i ∧ a < i ∧ i ≤ 1000001 ∧ Hid (Rs B A N c R w wr) ∧ Hid (InsO P X Q R i)) (fun ix _ => b - (intOf ix).toNat)
  case atStart => exact ⟨a + 1, D, by go_num, by omega, by omega, H0, O0⟩
  case round =>
    obtain ⟨i, R, rfl, hai, hi1, HR, HO⟩ := hrel
    clear H0 O0
    by_cases hib : i < b
    · have t1 : (i : Int) < (b : Int) := by omega
      have I0 := Lib.hid (BEG.out R i HO.out hai hib)
      clear HO BEG DONE
      go_wp2
      go_loopw [9] (fun jx wr => ∃ (j : Nat) (R2 : List Bn), jx = .int .i64 j ∧ a ≤ j ∧ j ≤ i ∧ Hid (Rs B A N c R2 w wr) ∧ Hid (InsI P X Q R2 i j)) (fun jx _ => (intOf jx).toNat)
      case atStart => exact ⟨i, R, rfl, Nat.le_of_lt hai, Nat.le_refl _, HR, I0⟩
      case round =>
        clear HR I0
        obtain ⟨j, R2, rfl, haj, hji, HR, HI⟩ := hrel
        obtain ⟨_, _, q3⟩ := BDS.out R2 i j HI.out
        rw [HR.out.len] at q3
        by_cases hja : a < j
        · have t2 : decide ((j : Int) > (a : Int)) = true := decide_eq_true (by omega)
          have t2' : (a : Int) < (j : Int) := by omega
          have t2'' : decide (a < j) = true := decide_eq_true hja
          obtain ⟨j', hj'⟩ : ∃ j', j = j' + 1 := ⟨j - 1, by omega⟩
          have ws : IntKind.i64.wrap ((j : Int) - 1) = (j' : Int) := by
            rw [IntWalk.i64_in _ (by omega)]
            omega
          have la : (j : Int) < (N : Int) := by omega
          have lb : (j' : Int) < (N : Int) := by omega
          have hl2 := HR.out.len
          obtain ⟨x, hx⟩ : ∃ x, R2[j]? = some x := ⟨_, List.getElem?_eq_getElem (by omega)⟩
          obtain ⟨y, hy⟩ : ∃ y, R2[j']? = some y := ⟨_, List.getElem?_eq_getElem (by omega)⟩
          have NO : Hid (before x.id y.id = false → InsO P X Q R2 (i + 1)) := Lib.hid fun hb => STOP.out R2 i j HI.out (.inr ⟨x, y, hx, by rw [show j - 1 = j' by omega]; exact hy, hja, hb⟩)
          have YES : Hid (before x.id y.id = true → InsI P X Q ((R2.set j y).set j' x) i j') := Lib.hid fun hb => by
            have := DOWN.out R2 i j' (by rw [← hj']; exact HI.out) x y (by rw [← hj']; exact hx) hy (by omega) hb
            rwa [← hj'] at this
          have LESS : Hid (∀ p : Lat grows wr, Calls Try.prog 42 #[x.val, y.val] p.W fun e w' => e = .returned (.int .i64 (cmpB x.id y.id)) ∧ Below p.W.heap.size p.W w') := Lib.hid fun p => less_any x y p.W
          have CL := cmp_lt x.id y.id
          generalize cmpB x.id y.id = r at *
          generalize before x.id y.id = bf at *
          have hroom := HR.out.room (k := j) (by omega)
          have hjj : j' < j := by omega
          have haj' : a ≤ j' := by omega
          replace hj' := Lib.hid hj'
          obtain ⟨g, o, rfl, px⟩ := HR.out.get hx
          obtain ⟨g', o', e, py⟩ := HR.out.get hy
          cases e
          have HX := Lib.hid hx
          have HY := Lib.hid hy
          clear hx hy hl2 HI q3 STOP DOWN BDS
          obtain ⟨xs, xi, xg, xm, xx, xy, xvx, xvy, xh, xp, xl⟩ := x
          obtain ⟨ys, yi, yg, ym, yx, yy, yvx, yvy, yh, yp, yl⟩ := y
          simp only [Bn.val] at *
          have c0 := fun p => (px p).1
          have e0 := fun p => (py p).1
          have c1 := fun p => (px p).2.1
          have e1 := fun p => (py p).2.1
          have c2 := fun p => (px p).2.2.1
          have e2 := fun p => (py p).2.2.1
          have c3 := fun p => (px p).2.2.2.1
          have e3 := fun p => (py p).2.2.2.1
          have c4 := fun p => (px p).2.2.2.2.1
          have e4 := fun p => (py p).2.2.2.2.1
          have c5 := fun p => (px p).2.2.2.2.2.1
          have e5 := fun p => (py p).2.2.2.2.2.1
          have c6 := fun p => (px p).2.2.2.2.2.2.1
          have e6 := fun p => (py p).2.2.2.2.2.2.1
          have c7 := fun p => (px p).2.2.2.2.2.2.2.1
          have e7 := fun p => (py p).2.2.2.2.2.2.2.1
          have c8 := fun p => (px p).2.2.2.2.2.2.2.2.1
          have e8 := fun p => (py p).2.2.2.2.2.2.2.2.1
          have c9 := fun p => (px p).2.2.2.2.2.2.2.2.2.1
          have e9 := fun p => (py p).2.2.2.2.2.2.2.2.2.1
          have c10 := fun p => (px p).2.2.2.2.2.2.2.2.2.2
          have e10 := fun p => (py p).2.2.2.2.2.2.2.2.2.2
          clear px py
          go_upto_region 4 with fail
          refine Og.grow 17 (by kernel_rfl) (by kernel_rfl) fun hc hf => ?_
          clear hc hf
          simp only [List.take_succ_cons, List.take_zero, List.drop_succ_cons, List.drop_zero]
          iterate 14 (refine Og.det [] rfl (fun J hJ => ?_); go_simp; refine hJ _ _ ?_; clear hJ J)
          refine Og.det [] rfl (fun J hJ => ?_)
          go_simp
          with_reducible refine ⟨_, fun p => Og.lays (LESS.out p), hJ _ _ ?_⟩
          clear hJ J
          iterate 2 (refine Og.det [] rfl (fun J hJ => ?_); go_simp; refine hJ _ _ ?_; clear hJ J)
          refine Og.fin fun W hW => ?_
          simp only [Og.opened_nil]
          clear c0 c1 c2 c3 c4 c5 c6 c7 c8 c9 c10 e0 e1 e2 e3 e4 e5 e6 e7 e8 e9 e10 LESS
          replace HR := Lib.hid (HR.out.grown (Nat.le_of_lt hroom) hW)
          clear hW
          cases bf with
          | false =>
            have NX := Lib.hid (NO.out rfl)
            clear NO YES
            go_wp2
            go_roundw
            case rel => exact ⟨i + 1, R2, by go_num, by omega, by omega, HR, NX⟩
            case measure => simp [intOf]; omega
          | true =>
            have NX := Lib.hid (YES.out rfl)
            clear NO YES
            have hjN : j < N := by omega
            have hjN' : j' < N := by omega
            go_upto_region 6 with fail
            obtain ⟨g', o', e, px⟩ := HR.out.get HX.out
            cases e
            obtain ⟨g', o', e, py⟩ := HR.out.get HY.out
            cases e
            simp only at px py
            clear HX HY
            have c0 := (px ⟨W.drew, Below.d' (Below.refl _ _)⟩).1
            have e0 := (py ⟨W.drew, Below.d' (Below.refl _ _)⟩).1
            have c1 := (px ⟨W.drew, Below.d' (Below.refl _ _)⟩).2.1
            have e1 := (py ⟨W.drew, Below.d' (Below.refl _ _)⟩).2.1
            have c2 := (px ⟨W.drew, Below.d' (Below.refl _ _)⟩).2.2.1
            have e2 := (py ⟨W.drew, Below.d' (Below.refl _ _)⟩).2.2.1
            have c3 := (px ⟨W.drew, Below.d' (Below.refl _ _)⟩).2.2.2.1
            have e3 := (py ⟨W.drew, Below.d' (Below.refl _ _)⟩).2.2.2.1
            have c4 := (px ⟨W.drew, Below.d' (Below.refl _ _)⟩).2.2.2.2.1
            have e4 := (py ⟨W.drew, Below.d' (Below.refl _ _)⟩).2.2.2.2.1
            have c5 := (px ⟨W.drew, Below.d' (Below.refl _ _)⟩).2.2.2.2.2.1
            have e5 := (py ⟨W.drew, Below.d' (Below.refl _ _)⟩).2.2.2.2.2.1
            have c6 := (px ⟨W.drew, Below.d' (Below.refl _ _)⟩).2.2.2.2.2.2.1
            have e6 := (py ⟨W.drew, Below.d' (Below.refl _ _)⟩).2.2.2.2.2.2.1
            have c7 := (px ⟨W.drew, Below.d' (Below.refl _ _)⟩).2.2.2.2.2.2.2.1
            have e7 := (py ⟨W.drew, Below.d' (Below.refl _ _)⟩).2.2.2.2.2.2.2.1
            have c8 := (px ⟨W.drew, Below.d' (Below.refl _ _)⟩).2.2.2.2.2.2.2.2.1
            have e8 := (py ⟨W.drew, Below.d' (Below.refl _ _)⟩).2.2.2.2.2.2.2.2.1
            have c9 := (px ⟨W.drew, Below.d' (Below.refl _ _)⟩).2.2.2.2.2.2.2.2.2.1
            have e9 := (py ⟨W.drew, Below.d' (Below.refl _ _)⟩).2.2.2.2.2.2.2.2.2.1
            have c10 := (px ⟨W.drew, Below.d' (Below.refl _ _)⟩).2.2.2.2.2.2.2.2.2.2
            have e10 := (py ⟨W.drew, Below.d' (Below.refl _ _)⟩).2.2.2.2.2.2.2.2.2.2
            clear px py
            simp only at c0 c1 c2 c3 c4 c5 c6 c7 c8 c9 c10 e0 e1 e2 e3 e4 e5 e6 e7 e8 e9 e10
            obtain ⟨g', o', e, ⟨q9, z0, z1, z2, z3, z4, z5, z6, z7, z8, z9, z10⟩, ⟨y0, y1, y2, y3, y4, y5, y6, y7, y8, y9, y10⟩, HP⟩ := HR.out.put (k := j) hjN ⟨ys, yi, yg, ym, yx, yy, yvx, yvy, yh, yp, yl⟩
            cases e
            clear HR
            simp only at HP
            obtain ⟨g', o', e, ⟨q2, p0, p1, p2, p3, p4, p5, p6, p7, p8, p9, p10⟩, ⟨h0, h1, h2, h3, h4, h5, h6, h7, h8, h9, h10⟩, HP2⟩ := HP.out.put (k := j') hjN' ⟨xs, xi, xg, xm, xx, xy, xvx, xvy, xh, xp, xl⟩
            cases e
            clear HP
            simp only at HP2
            go_big_region
            clear c0 c1 c2 c3 c4 c5 c6 c7 c8 c9 c10 e0 e1 e2 e3 e4 e5 e6 e7 e8 e9 e10 z0 z1 z2 z3 z4 z5 z6 z7 z8 z9 z10 y0 y1 y2 y3 y4 y5 y6 y7 y8 y9 y10 p0 p1 p2 p3 p4 p5 p6 p7 p8 p9 p10 h0 h1 h2 h3 h4 h5 h6 h7 h8 h9 h10
            have HP3 := Lib.hid (HP2.out.grown (by have := HP2.out.room (k := j) hjN; omega) (Below.d' (Below.refl _ _)))
            clear HP2
            go_wp2
            go_roundw
            case rel => exact ⟨j', _, rfl, haj', by omega, HP3, NX⟩
            case measure => simp [intOf]; omega
        · have ej : j = a := by omega
          have t2 : decide ((j : Int) > (a : Int)) = false := decide_eq_false (by omega)
          have t2'' : decide (a < j) = false := decide_eq_false hja
          have NX := Lib.hid (STOP.out R2 i j HI.out (.inl ej))
          clear HI ej q3 STOP DOWN BDS
          go_upto_region 4 with fail
          go_quiet (fail)
          rename_i nq
          replace HR := Lib.hid (HR.out.grown (Nat.le_trans hBB.out HR.out.bel.size) (below_dn wr nq))
          generalize wr.drewN nq = wx at *
          go_wp2
          go_roundw
          case rel => exact ⟨i + 1, R2, by go_num, by omega, by omega, HR, NX⟩
          case measure => simp [intOf]; omega
    · have t1 : ¬ (i : Int) < (b : Int) := by omega
      have DN := Lib.hid (DONE.out R i HO.out hib)
      clear HO BEG DONE STOP DOWN BDS
      go_wp2
      go_end0
      obtain ⟨Z, z1, z2, z3⟩ := DN.out
      refine ⟨rfl, Z, z1, z2, ?_⟩
      rw [← z3]
      exact HR.out
end Go.Proofs.Ytookmjdnmmfkfaa
