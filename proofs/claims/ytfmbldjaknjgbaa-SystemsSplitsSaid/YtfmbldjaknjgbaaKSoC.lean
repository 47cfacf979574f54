/- SoIns, SoPass, SoStab, SoSorted, in one text. -/
import Derived.Test.YtfmbldjaknjgbaaKSoA
import Derived.BigRegion
import Derived.Test.YtfmbldjaknjgbaaKSoB
import Derived.Test.YtfmbldjaknjgbaaKSoSymC1
import Derived.Test.YtfmbldjaknjgbaaKSoSymC2
import Derived.Test.YtfmbldjaknjgbaaKBase
import Derived.Laws.OwnMore
import Derived.Lib.SliceRun
namespace Go.Proofs.Ytfmbldjaknjgbaa
open Go.RowKit Pz Go.Shelf
set_option linter.unusedVariables false
variable {κ : Bn → K3} {fn : Nat} {cap : Array Value}

namespace Pz
/-- X, of which the part ahead of place i is sorted -/
def InsO (κ : Bn → K3) (P X Q R : List Bn) (i : Nat) : Prop := (X = [] ∧ R = P ++ (X ++ Q)) ∨ ∃ Z Y : List Bn, 0 < Z.length ∧ P.length + Z.length = i ∧ R = P ++ (Z ++ (Y ++ Q)) ∧ Srt κ Z ∧ Alike κ (Z ++ Y) X ∧ Z.length + Y.length = X.length
/-- and the one that stood at i is at j -/
def InsI (κ : Bn → K3) (P X Q R : List Bn) (i j : Nat) : Prop := ∃ (Z1 : List Bn) (y : Bn) (Z2 Y : List Bn), P.length + Z1.length = j ∧ j + Z2.length = i ∧ R = P ++ (Z1 ++ (y :: (Z2 ++ (Y ++ Q)))) ∧ Srt κ (Z1 ++ Z2) ∧ (∀ z ∈ Z2, before (κ y) (κ z) = true) ∧ Alike κ ((Z1 ++ Z2) ++ (y :: Y)) X ∧ Z1.length + Z2.length + 1 + Y.length = X.length
theorem InsO.start (P X Q : List Bn) : InsO κ P X Q (P ++ (X ++ Q)) (P.length + 1) := by
  cases X with
  | nil => exact .inl ⟨rfl, rfl⟩
  | cons x r => exact .inr ⟨[x], r, by simp, rfl, by simp, List.pairwise_singleton _ _, Alike.refl _, by simp; omega⟩
theorem InsO.done {P X Q R : List Bn} {i : Nat} (h : InsO κ P X Q R i) (hi : ¬ i < P.length + X.length) : ∃ Z, Srt κ Z ∧ Alike κ Z X ∧ R = P ++ (Z ++ Q) := by
  rcases h with ⟨rfl, rfl⟩ | ⟨Z, Y, h0, h1, rfl, h2, h3, h4⟩
  · exact ⟨[], List.Pairwise.nil, Alike.refl _, rfl⟩
  · have : Y = [] := List.length_eq_zero_iff.1 (by omega)
    subst this
    rw [List.append_nil] at h3
    exact ⟨Z, h2, h3, by simp⟩
theorem InsO.begin_ {P X Q R : List Bn} {i : Nat} (h : InsO κ P X Q R i) (h0 : P.length < i) (hi : i < P.length + X.length) : InsI κ P X Q R i i := by
  rcases h with ⟨rfl, rfl⟩ | ⟨Z, Y, _, h1, rfl, h2, h3, h4⟩
  · simp at hi; omega
  · cases Y with
    | nil => simp at h4; omega
    | cons y Y => exact ⟨Z, y, [], Y, h1, rfl, by simp, by rw [List.append_nil]; exact h2, fun z hz => by simp at hz, by rw [List.append_nil]; exact h3, by simp only [List.length_cons, List.length_nil] at h4 ⊢; omega⟩
theorem InsI.bds {P X Q R : List Bn} {i j : Nat} (h : InsI κ P X Q R i j) : P.length ≤ j ∧ j ≤ i ∧ i < R.length := by
  obtain ⟨Z1, y, Z2, Y, h1, h2, rfl, _⟩ := h
  simp only [List.length_append, List.length_cons]
  omega
theorem InsI.end_ {P X Q R : List Bn} {i j : Nat} (h : InsI κ P X Q R i j) (hs : j = P.length ∨ ∃ x y, R[j]? = some x ∧ R[j - 1]? = some y ∧ P.length < j ∧ before (κ x) (κ y) = false) : InsO κ P X Q R (i + 1) := by
  obtain ⟨Z1, x, Z2, Y, h1, h2, rfl, h3, h4, h5, h6⟩ := h
  have hz : ∀ z ∈ Z1, before (κ x) (κ z) = false := fun z hz => by
    rcases hs with e | ⟨x', y, hx, hy, hj, hb⟩
    · have : Z1 = [] := List.length_eq_zero_iff.1 (by omega)
      rw [this] at hz
      cases hz
    · rw [List.getElem?_append_right (by omega), List.getElem?_append_right (by omega), show j - P.length - Z1.length = 0 by omega] at hx
      simp only [List.getElem?_cons_zero, Option.some.injEq] at hx
      subst hx
      rcases List.eq_nil_or_concat Z1 with e | ⟨Z0, z0, e⟩
      · rw [e] at hz
        cases hz
      · rw [List.concat_eq_append] at e
        subst e
        simp only [List.length_append, List.length_cons, List.length_nil] at h1
        rw [List.getElem?_append_right (by omega), List.append_assoc, List.getElem?_append_right (by omega), show j - 1 - P.length - Z0.length = 0 by omega] at hy
        simp only [List.cons_append, List.getElem?_cons_zero, Option.some.injEq] at hy
        subst hy
        rcases List.mem_append.1 hz with hz | hz
        · exact le_trans' ((srt_app.1 (srt_app.1 h3).1).2.2 z hz z0 (List.mem_singleton.2 rfl)) hb
        · rw [List.mem_singleton.1 hz]
          exact hb
  obtain ⟨q1, q2⟩ := srt_mid h3 hz h4
  refine .inr ⟨Z1 ++ x :: Z2, Y, by simp only [List.length_append, List.length_cons]; omega, by simp only [List.length_append, List.length_cons]; omega, by simp [List.append_assoc], q1, ?_, by simp only [List.length_append, List.length_cons]; omega⟩
  refine Alike.trans (Alike.app q2 (Alike.refl Y)) ?_
  rw [List.append_assoc]
  exact h5
theorem InsI.down {P X Q R : List Bn} {i j : Nat} (h : InsI κ P X Q R i (j + 1)) {x y : Bn} (hx : R[j + 1]? = some x) (hy : R[j]? = some y) (hj : P.length ≤ j) (hb : before (κ x) (κ y) = true) : InsI κ P X Q ((R.set (j + 1) y).set j x) i j := by
  have e0 := sw_is hy hx
  rw [List.set_comm _ _ (by omega)] at e0
  obtain ⟨Z1, x', Z2, Y, h1, h2, rfl, h3, h4, h5, h6⟩ := h
  rw [← e0]
  clear e0
  rw [List.getElem?_append_right (by omega), List.getElem?_append_right (by omega), show j + 1 - P.length - Z1.length = 0 by omega] at hx
  simp only [List.getElem?_cons_zero, Option.some.injEq] at hx
  subst hx
  rcases List.eq_nil_or_concat Z1 with e | ⟨Z0, z0, e⟩
  · rw [e] at h1
    simp at h1
    omega
  · rw [List.concat_eq_append] at e
    subst e
    simp only [List.length_append, List.length_cons, List.length_nil] at h1 h6
    rw [List.getElem?_append_right (by omega), List.append_assoc, List.getElem?_append_right (by omega), show j - P.length - Z0.length = 0 by omega] at hy
    simp only [List.cons_append, List.getElem?_cons_zero, Option.some.injEq] at hy
    subst hy
    refine ⟨Z0, x', z0 :: Z2, Y, by omega, by simp only [List.length_cons]; omega, ?_, by simpa using h3, fun z hz => ?_, by simpa using h5, by simp only [List.length_cons]; omega⟩
    · have := sw_parts (P ++ Z0) [] (Z2 ++ (Y ++ Q)) z0 x'
      simp only [List.length_append, List.length_nil, Nat.add_zero, List.nil_append] at this
      rw [show P.length + Z0.length = j by omega] at this
      simpa [List.append_assoc] using this
    · rcases List.mem_cons.1 hz with rfl | hz
      · exact hb
      · exact h4 z hz
end Pz
set_option maxHeartbeats 16000000 in
set_option maxRecDepth 100000 in
theorem insertion_any {B : Nat} {A : Option Addr} {N c : Nat} {P X Q : List Bn} {w : World} (h : Rs B A N c (P ++ (X ++ Q)) w w) (hN : N ≤ 1000000) (hBw : B ≤ w.heap.size) (HC : CmpAt κ fn cap B w) {a b : Nat} (ha : P.length = a) (hb : a + X.length = b) :
    Calls Try.prog 88 #[.slice A N c, .int .i64 (a : Int), .int .i64 (b : Int), .func (.func fn) #[] cap] w fun e w' => e = .returned (.tuple #[]) ∧ ∃ Z, Srt κ Z ∧ Pz.Alike κ Z X ∧ Rs B A N c (P ++ (Z ++ Q)) w w' := by
  have H0 := Lib.hid h
  have hlen := h.len
  simp only [List.length_append] at hlen
  have bN : b ≤ N := by omega
  have aN : a ≤ 1000000 := by omega
  have O0 := Lib.hid (InsO.start (κ := κ) P X Q)
  rw [ha] at O0
  have DONE : Hid (∀ (R : List Bn) (i : Nat), InsO κ P X Q R i → ¬ i < b → ∃ Z, Srt κ Z ∧ Pz.Alike κ Z X ∧ R = P ++ (Z ++ Q)) := Lib.hid fun R i h hi => h.done (by omega)
  have BEG : Hid (∀ (R : List Bn) (i : Nat), InsO κ P X Q R i → a < i → i < b → InsI κ P X Q R i i) := Lib.hid fun R i h h0 hi => h.begin_ (by omega) (by omega)
  have BDS : Hid (∀ (R : List Bn) (i j : Nat), InsI κ P X Q R i j → a ≤ j ∧ j ≤ i ∧ i < R.length) := Lib.hid fun R i j h => by have := h.bds; omega
  have STOP : Hid (∀ (R : List Bn) (i j : Nat), InsI κ P X Q R i j → (j = a ∨ ∃ x y, R[j]? = some x ∧ R[j - 1]? = some y ∧ a < j ∧ before (κ x) (κ y) = false) → InsO κ P X Q R (i + 1)) := Lib.hid fun R i j h hs => h.end_ (by rw [ha]; exact hs)
  have DOWN : Hid (∀ (R : List Bn) (i j : Nat), InsI κ P X Q R i (j + 1) → ∀ x y : Bn, R[j + 1]? = some x → R[j]? = some y → a ≤ j → before (κ x) (κ y) = true → InsI κ P X Q ((R.set (j + 1) y).set j x) i j) := Lib.hid fun R i j h x y hx hy hj hb => h.down hx hy (by omega) hb
  generalize hD : P ++ (X ++ Q) = D at *
  clear hD hlen h ha hb
  have EG := HC.ent
  have HLS := Lib.hid HC
  clear HC
  have hBB := Lib.hid hBw
  go_enter Try.func88, Try.ntmps88
  go_wp2
  go_loopw [8] (fun ix wr => ∃ (i : Nat) (R : List Bn), ix = .int .i64 i ∧ a < i ∧ i ≤ 1000001 ∧ Hid (Rs B A N c R w wr) ∧ Hid (InsO κ P X Q R i)) (fun ix _ => b - (intOf ix).toNat)
  case atStart => exact ⟨a + 1, D, by go_num, by omega, by omega, H0, O0⟩
  case round =>
    obtain ⟨i, R, rfl, hai, hi1, HR, HO⟩ := hrel
    clear H0 O0
    by_cases hib : i < b
    · have t1 : (i : Int) < (b : Int) := by omega
      have I0 := Lib.hid (BEG.out R i HO.out hai hib)
      clear HO BEG DONE
      go_wp2
      go_loopw [9] (fun jx wr => ∃ (j : Nat) (R2 : List Bn), jx = .int .i64 j ∧ a ≤ j ∧ j ≤ i ∧ Hid (Rs B A N c R2 w wr) ∧ Hid (InsI κ P X Q R2 i j)) (fun jx _ => (intOf jx).toNat)
      case atStart => exact ⟨i, R, rfl, Nat.le_of_lt hai, Nat.le_refl _, HR, I0⟩
      case round =>
        clear HR I0
        obtain ⟨j, R2, rfl, haj, hji, HR, HI⟩ := hrel
        obtain ⟨_, _, q3⟩ := BDS.out R2 i j HI.out
        rw [HR.out.len] at q3
        by_cases hja : a < j
        · have t2 : decide ((j : Int) > (a : Int)) = true := decide_eq_true (by omega)
          have t2' : (a : Int) < (j : Int) := by omega
          have t2'' : decide (a < j) = true := decide_eq_true hja
          obtain ⟨j', hj'⟩ : ∃ j', j = j' + 1 := ⟨j - 1, by omega⟩
          have ws : IntKind.i64.wrap ((j : Int) - 1) = (j' : Int) := by
            rw [IntWalk.i64_in _ (by omega)]
            omega
          have la : (j : Int) < (N : Int) := by omega
          have lb : (j' : Int) < (N : Int) := by omega
          have hl2 := HR.out.len
          obtain ⟨x, hx⟩ : ∃ x, R2[j]? = some x := ⟨_, List.getElem?_eq_getElem (by omega)⟩
          obtain ⟨y, hy⟩ : ∃ y, R2[j']? = some y := ⟨_, List.getElem?_eq_getElem (by omega)⟩
          have NO : Hid (before (κ x) (κ y) = false → InsO κ P X Q R2 (i + 1)) := Lib.hid fun hb => STOP.out R2 i j HI.out (.inr ⟨x, y, hx, by rw [show j - 1 = j' by omega]; exact hy, hja, hb⟩)
          have YES : Hid (before (κ x) (κ y) = true → InsI κ P X Q ((R2.set j y).set j' x) i j') := Lib.hid fun hb => by
            have := DOWN.out R2 i j' (by rw [← hj']; exact HI.out) x y (by rw [← hj']; exact hx) hy (by omega) hb
            rwa [← hj'] at this
          have LESS : Hid (∀ p : Lat grows wr, Calls Try.prog fn (#[x.val, y.val] ++ cap) p.W fun e w' => e = .returned (.int .i64 (cmpB (κ x) (κ y))) ∧ Below p.W.heap.size p.W w') := Lib.hid fun p => HLS.out.less x y p.W (HR.out.bel.trans ((lat_below p).mono (Nat.le_trans hBB.out HR.out.bel.size)))
          have CL := cmp_lt (κ x) (κ y)
          generalize cmpB (κ x) (κ y) = r at *
          generalize before (κ x) (κ y) = bf at *
          have hroom := HR.out.room (k := j) (by omega)
          have hjj : j' < j := by omega
          have haj' : a ≤ j' := by omega
          replace hj' := Lib.hid hj'
          obtain ⟨g, o, rfl, px⟩ := HR.out.get hx
          obtain ⟨g', o', e, py⟩ := HR.out.get hy
          cases e
          have HX := Lib.hid hx
          have HY := Lib.hid hy
          clear hx hy hl2 HI q3 STOP DOWN BDS
          obtain ⟨xs, xi, xg, xm, xx, xy, xvx, xvy, xh, xp, xl⟩ := x
          obtain ⟨ys, yi, yg, ym, yx, yy, yvx, yvy, yh, yp, yl⟩ := y
          simp only [Bn.val] at *
          have c0 := fun p => (px p).1
          have e0 := fun p => (py p).1
          have c1 := fun p => (px p).2.1
          have e1 := fun p => (py p).2.1
          have c2 := fun p => (px p).2.2.1
          have e2 := fun p => (py p).2.2.1
          have c3 := fun p => (px p).2.2.2.1
          have e3 := fun p => (py p).2.2.2.1
          have c4 := fun p => (px p).2.2.2.2.1
          have e4 := fun p => (py p).2.2.2.2.1
          have c5 := fun p => (px p).2.2.2.2.2.1
          have e5 := fun p => (py p).2.2.2.2.2.1
          have c6 := fun p => (px p).2.2.2.2.2.2.1
          have e6 := fun p => (py p).2.2.2.2.2.2.1
          have c7 := fun p => (px p).2.2.2.2.2.2.2.1
          have e7 := fun p => (py p).2.2.2.2.2.2.2.1
          have c8 := fun p => (px p).2.2.2.2.2.2.2.2.1
          have e8 := fun p => (py p).2.2.2.2.2.2.2.2.1
          have c9 := fun p => (px p).2.2.2.2.2.2.2.2.2.1
          have e9 := fun p => (py p).2.2.2.2.2.2.2.2.2.1
          have c10 := fun p => (px p).2.2.2.2.2.2.2.2.2.2
          have e10 := fun p => (py p).2.2.2.2.2.2.2.2.2.2
          clear px py
          go_upto_region 4 with fail
          refine Og.grow 17 (by kernel_rfl) (by kernel_rfl) fun hc hf => ?_
          clear hc hf
          simp only [List.take_succ_cons, List.take_zero, List.drop_succ_cons, List.drop_zero]
          iterate 14 (refine Og.det [] rfl (fun J hJ => ?_); go_simp; refine hJ _ _ ?_; clear hJ J)
          refine Og.det [] rfl (fun J hJ => ?_)
          go_simp
          with_reducible refine ⟨_, fun p => Og.lays (LESS.out p), hJ _ _ ?_⟩
          clear hJ J
          iterate 2 (refine Og.det [] rfl (fun J hJ => ?_); go_simp; refine hJ _ _ ?_; clear hJ J)
          refine Og.fin fun W hW => ?_
          simp only [Og.opened_nil]
          clear c0 c1 c2 c3 c4 c5 c6 c7 c8 c9 c10 e0 e1 e2 e3 e4 e5 e6 e7 e8 e9 e10 LESS
          replace HR := Lib.hid (HR.out.grown (Nat.le_of_lt hroom) hW)
          clear hW
          cases bf with
          | false =>
            have NX := Lib.hid (NO.out rfl)
            clear NO YES
            go_wp2
            go_roundw
            case rel => exact ⟨i + 1, R2, by go_num, by omega, by omega, HR, NX⟩
            case measure => simp [intOf]; omega
          | true =>
            have NX := Lib.hid (YES.out rfl)
            clear NO YES
            have hjN : j < N := by omega
            have hjN' : j' < N := by omega
            go_upto_region 6 with fail
            obtain ⟨g', o', e, px⟩ := HR.out.get HX.out
            cases e
            obtain ⟨g', o', e, py⟩ := HR.out.get HY.out
            cases e
            simp only at px py
            clear HX HY
            have c0 := (px ⟨W.drew, Below.d' (Below.refl _ _)⟩).1
            have e0 := (py ⟨W.drew, Below.d' (Below.refl _ _)⟩).1
            have c1 := (px ⟨W.drew, Below.d' (Below.refl _ _)⟩).2.1
            have e1 := (py ⟨W.drew, Below.d' (Below.refl _ _)⟩).2.1
            have c2 := (px ⟨W.drew, Below.d' (Below.refl _ _)⟩).2.2.1
            have e2 := (py ⟨W.drew, Below.d' (Below.refl _ _)⟩).2.2.1
            have c3 := (px ⟨W.drew, Below.d' (Below.refl _ _)⟩).2.2.2.1
            have e3 := (py ⟨W.drew, Below.d' (Below.refl _ _)⟩).2.2.2.1
            have c4 := (px ⟨W.drew, Below.d' (Below.refl _ _)⟩).2.2.2.2.1
            have e4 := (py ⟨W.drew, Below.d' (Below.refl _ _)⟩).2.2.2.2.1
            have c5 := (px ⟨W.drew, Below.d' (Below.refl _ _)⟩).2.2.2.2.2.1
            have e5 := (py ⟨W.drew, Below.d' (Below.refl _ _)⟩).2.2.2.2.2.1
            have c6 := (px ⟨W.drew, Below.d' (Below.refl _ _)⟩).2.2.2.2.2.2.1
            have e6 := (py ⟨W.drew, Below.d' (Below.refl _ _)⟩).2.2.2.2.2.2.1
            have c7 := (px ⟨W.drew, Below.d' (Below.refl _ _)⟩).2.2.2.2.2.2.2.1
            have e7 := (py ⟨W.drew, Below.d' (Below.refl _ _)⟩).2.2.2.2.2.2.2.1
            have c8 := (px ⟨W.drew, Below.d' (Below.refl _ _)⟩).2.2.2.2.2.2.2.2.1
            have e8 := (py ⟨W.drew, Below.d' (Below.refl _ _)⟩).2.2.2.2.2.2.2.2.1
            have c9 := (px ⟨W.drew, Below.d' (Below.refl _ _)⟩).2.2.2.2.2.2.2.2.2.1
            have e9 := (py ⟨W.drew, Below.d' (Below.refl _ _)⟩).2.2.2.2.2.2.2.2.2.1
            have c10 := (px ⟨W.drew, Below.d' (Below.refl _ _)⟩).2.2.2.2.2.2.2.2.2.2
            have e10 := (py ⟨W.drew, Below.d' (Below.refl _ _)⟩).2.2.2.2.2.2.2.2.2.2
            clear px py
            simp only at c0 c1 c2 c3 c4 c5 c6 c7 c8 c9 c10 e0 e1 e2 e3 e4 e5 e6 e7 e8 e9 e10
            obtain ⟨g', o', e, ⟨q9, z0, z1, z2, z3, z4, z5, z6, z7, z8, z9, z10⟩, ⟨y0, y1, y2, y3, y4, y5, y6, y7, y8, y9, y10⟩, HP⟩ := HR.out.put (k := j) hjN ⟨ys, yi, yg, ym, yx, yy, yvx, yvy, yh, yp, yl⟩
            cases e
            clear HR
            simp only at HP
            obtain ⟨g', o', e, ⟨q2, p0, p1, p2, p3, p4, p5, p6, p7, p8, p9, p10⟩, ⟨h0, h1, h2, h3, h4, h5, h6, h7, h8, h9, h10⟩, HP2⟩ := HP.out.put (k := j') hjN' ⟨xs, xi, xg, xm, xx, xy, xvx, xvy, xh, xp, xl⟩
            cases e
            clear HP
            simp only at HP2
            go_big_region
            clear c0 c1 c2 c3 c4 c5 c6 c7 c8 c9 c10 e0 e1 e2 e3 e4 e5 e6 e7 e8 e9 e10 z0 z1 z2 z3 z4 z5 z6 z7 z8 z9 z10 y0 y1 y2 y3 y4 y5 y6 y7 y8 y9 y10 p0 p1 p2 p3 p4 p5 p6 p7 p8 p9 p10 h0 h1 h2 h3 h4 h5 h6 h7 h8 h9 h10
            have HP3 := Lib.hid (HP2.out.grown (by have := HP2.out.room (k := j) hjN; omega) (Below.d' (Below.refl _ _)))
            clear HP2
            go_wp2
            go_roundw
            case rel => exact ⟨j', _, rfl, haj', by omega, HP3, NX⟩
            case measure => simp [intOf]; omega
        · have ej : j = a := by omega
          have t2 : decide ((j : Int) > (a : Int)) = false := decide_eq_false (by omega)
          have t2'' : decide (a < j) = false := decide_eq_false hja
          have NX := Lib.hid (STOP.out R2 i j HI.out (.inl ej))
          clear HI ej q3 STOP DOWN BDS
          go_upto_region 4 with fail
          go_quiet (fail)
          rename_i nq
          replace HR := Lib.hid (HR.out.grown (Nat.le_trans hBB.out HR.out.bel.size) (below_dn wr nq))
          generalize wr.drewN nq = wx at *
          go_wp2
          go_roundw
          case rel => exact ⟨i + 1, R2, by go_num, by omega, by omega, HR, NX⟩
          case measure => simp [intOf]; omega
    · have t1 : ¬ (i : Int) < (b : Int) := by omega
      have DN := Lib.hid (DONE.out R i HO.out hib)
      clear HO BEG DONE STOP DOWN BDS
      go_wp2
      go_end0
      obtain ⟨Z, z1, z2, z3⟩ := DN.out
      refine ⟨rfl, Z, z1, z2, ?_⟩
      rw [← z3]
      exact HR.out
end Go.Proofs.Ytfmbldjaknjgbaa
namespace Go.Proofs.Ytfmbldjaknjgbaa
open Go.RowKit Pz
set_option linter.unusedVariables false
variable {κ : Bn → K3} {fn : Nat} {cap : Array Value}

theorem sym_all : ∀ n, SymAt κ fn cap n
  | 0 => fun B A N c P X Y Q W a m b h hN hB HC hX hY sX sY ha hm hb hn => by omega
  | n + 1 => fun B A N c P X Y Q W a m b h hN hB HC hX hY sX sY ha hm hb hn => by
    by_cases h1 : X.length = 1
    · obtain ⟨x0, rfl⟩ := List.length_eq_one_iff.1 h1
      exact syma_any h hN hB HC hY sY ha (by simpa using hm) hb
    · by_cases h2 : Y.length = 1
      · obtain ⟨y0, rfl⟩ := List.length_eq_one_iff.1 h2
        exact symb_any h hN hB HC (by omega) sX ha hm (by simpa using hb)
      · by_cases h3 : (a + b) / 2 < m
        · exact symc1_any (sym_all n) h hN hB HC (by omega) (by omega) sX sY ha hm hb hn h3
        · exact symc2_any (sym_all n) h hN hB HC (by omega) (by omega) sX sY ha hm hb hn h3
namespace Pz
/-- the s ones from place i on are sorted -/
def Bl (κ : Bn → K3) (R : List Bn) (i s : Nat) : Prop := Srt κ ((R.drop i).take s)
theorem Bl.one (R : List Bn) (i : Nat) : Bl κ R i 1 := by
  unfold Bl
  cases h : (R.drop i).take 1 with
  | nil => exact List.Pairwise.nil
  | cons x r =>
    have hl := congrArg List.length h
    rw [List.length_take, List.length_cons] at hl
    have : r = [] := List.length_eq_zero_iff.1 (by omega)
    rw [this]
    exact List.pairwise_singleton _ _
theorem Bl.past {R : List Bn} {i s : Nat} (h : R.length ≤ i) : Bl κ R i s := by
  unfold Bl
  rw [List.drop_eq_nil_of_le h, List.take_nil]
  exact List.Pairwise.nil
theorem Bl.ahead {P X Z Q : List Bn} {i s : Nat} (h : Bl κ (P ++ (X ++ Q)) i s) (hi : i + s ≤ P.length) : Bl κ (P ++ (Z ++ Q)) i s := by
  unfold Bl at h ⊢
  rw [List.drop_append_of_le_length (by omega), List.take_append_of_le_length (by rw [List.length_drop]; omega)] at h ⊢
  exact h
theorem Bl.behind {P X Z Q : List Bn} {i s : Nat} (h : Bl κ (P ++ (X ++ Q)) i s) (hl : Z.length = X.length) (hi : P.length + X.length ≤ i) : Bl κ (P ++ (Z ++ Q)) i s := by
  unfold Bl at h ⊢
  have e : ∀ Y : List Bn, Y.length = X.length → (P ++ (Y ++ Q)).drop i = Q.drop (i - (P.length + X.length)) := fun Y hY => by
    rw [← List.append_assoc, List.drop_append, List.drop_eq_nil_of_le (by rw [List.length_append]; omega), List.nil_append, List.length_append, hY]
  rw [e Z hl]
  rw [e X rfl] at h
  exact h
theorem Bl.mid {P Z Q : List Bn} {s : Nat} (hz : Srt κ Z) (hs : Z.length = s ∨ Z.length ≤ s ∧ Q = []) : Bl κ (P ++ (Z ++ Q)) P.length s := by
  unfold Bl
  rw [List.drop_left]
  rcases hs with rfl | ⟨h, rfl⟩
  · rw [List.take_left]
    exact hz
  · rw [List.append_nil, List.take_of_length_le h]
    exact hz
theorem dvd_step {d i a : Nat} (h1 : d ∣ i) (h2 : d ∣ a) (h : i < a) : i + d ≤ a := by
  obtain ⟨x, rfl⟩ := h1
  obtain ⟨y, rfl⟩ := h2
  have hxy : x < y := Nat.lt_of_mul_lt_mul_left h
  have := Nat.mul_le_mul_left d (show x + 1 ≤ y by omega)
  rwa [Nat.mul_succ] at this
/-- all blocks of s are sorted -/
structure Full (κ : Bn → K3) (d : List Bn) (s : Nat) (R : List Bn) : Prop where
  alike : Alike κ R d
  blk : ∀ i, s ∣ i → Bl κ R i s
/-- blocks of s become blocks of t; what is ahead of a is done -/
structure Pass (κ : Bn → K3) (d : List Bn) (s t a : Nat) (R : List Bn) : Prop where
  alike : Alike κ R d
  at_ : t ∣ a
  st : s ∣ t
  done : ∀ i, t ∣ i → i < a → Bl κ R i t
  todo : ∀ i, s ∣ i → a ≤ i → Bl κ R i s
theorem Full.pass {d R : List Bn} {s : Nat} (h : Full κ d s R) : Pass κ d s (2 * s) 0 R :=
  ⟨h.alike, Nat.dvd_zero _, Nat.dvd_mul_left _ _, fun i _ hi => by omega, fun i hi _ => h.blk i hi⟩
theorem Pass.first (d : List Bn) : Pass κ d 1 20 0 d := ⟨Alike.refl _, Nat.dvd_zero _, Nat.one_dvd _, fun i _ hi => by omega, fun i _ _ => Bl.one _ _⟩
theorem Full.sorted {d R : List Bn} {s : Nat} (h : Full κ d s R) (hs : R.length ≤ s) : R = sortL κ d := by
  have := h.blk 0 (Nat.dvd_zero _)
  unfold Bl at this
  rw [List.drop_zero, List.take_of_length_le hs] at this
  exact sorted_is this h.alike
theorem Pass.step {d P X Q Z : List Bn} {s t a : Nat} (h : Pass κ d s t a (P ++ (X ++ Q))) (ht : 0 < t) (ha : P.length = a) (hX : X.length = t) (hl : Z.length = X.length) (hz : Srt κ Z) (hA : Alike κ Z X) : Pass κ d s t (a + t) (P ++ (Z ++ Q)) := by
  refine ⟨(Alike.app (Alike.refl P) (Alike.app hA (Alike.refl Q))).trans h.alike, (Nat.dvd_add_right h.at_).2 (Nat.dvd_refl t), h.st, fun i hi hlt => ?_, fun i hi hle => ?_⟩
  · by_cases hia : i < a
    · exact (h.done i hi hia).ahead (by have := dvd_step hi h.at_ hia; omega)
    · have : i = a := by
        rcases Nat.lt_or_ge a i with hlt2 | hge
        · have := dvd_step h.at_ hi hlt2
          omega
        · omega
      subst this
      rw [← ha]
      exact Bl.mid hz (.inl (by omega))
  · exact (h.todo i hi (by omega)).behind hl (by omega)
theorem Pass.last {d P X Z : List Bn} {s t a : Nat} (h : Pass κ d s t a (P ++ (X ++ []))) (ht : 0 < t) (ha : P.length = a) (hX : X.length < t) (hl : Z.length = X.length) (hz : Srt κ Z) (hA : Alike κ Z X) : Full κ d t (P ++ (Z ++ [])) := by
  refine ⟨(Alike.app (Alike.refl P) (Alike.app hA (Alike.refl []))).trans h.alike, fun i hi => ?_⟩
  by_cases hia : i < a
  · exact (h.done i hi hia).ahead (by have := dvd_step hi h.at_ hia; omega)
  · by_cases hea : i = a
    · subst hea
      rw [← ha]
      exact Bl.mid hz (.inr ⟨by omega, rfl⟩)
    · have := dvd_step h.at_ hi (by omega)
      exact Bl.past (by simp only [List.length_append, List.length_nil]; omega)
theorem Pass.rest {d R : List Bn} {s t a : Nat} (h : Pass κ d s t a R) (hs : R.length ≤ a + s) (hst : s ≤ t) (ht : 0 < t) : Full κ d t R := by
  refine ⟨h.alike, fun i hi => ?_⟩
  by_cases hia : i < a
  · exact h.done i hi hia
  · by_cases hea : i = a
    · subst hea
      have := h.todo i (Nat.dvd_trans h.st h.at_) (Nat.le_refl _)
      unfold Bl at this ⊢
      rw [List.take_of_length_le (by rw [List.length_drop]; omega)] at this ⊢
      exact this
    · have := dvd_step h.at_ hi (by omega)
      exact Bl.past (by omega)
theorem three {R : List Bn} {a b : Nat} (h1 : a ≤ b) (h2 : b ≤ R.length) : R = R.take a ++ ((R.drop a).take (b - a) ++ R.drop b) ∧ (R.take a).length = a ∧ ((R.drop a).take (b - a)).length = b - a := by
  refine ⟨?_, by rw [List.length_take]; omega, by rw [List.length_take, List.length_drop]; omega⟩
  have e : R.drop b = (R.drop a).drop (b - a) := by rw [List.drop_drop]; congr 1; omega
  rw [e, List.take_append_drop, List.take_append_drop]
end Pz
section
variable {B : Nat} {A : Option Addr} {N c : Nat} {d : List Bn} {w : World}
/-- the insertion sort of a block -/
theorem ins_block (hN : N ≤ 1000000) (hBw : B ≤ w.heap.size) (HC : CmpAt κ fn cap B w) {R : List Bn} {W : World} (h : Rs B A N c R w W) {a b : Nat} (hp : Pass κ d 1 20 a R) (hab : a + 20 = b) (hb : b ≤ N) :
    Calls Try.prog 88 #[.slice A N c, .int .i64 (a : Int), .int .i64 (b : Int), .func (.func fn) #[] cap] W fun e w' => e = .returned (.tuple #[]) ∧ ∃ R2, Rs B A N c R2 w w' ∧ Pass κ d 1 20 b R2 := by
  obtain ⟨e, l1, l2⟩ := three (R := R) (a := a) (b := b) (by omega) (by rw [h.len]; exact hb)
  have hs : Rs B A N c (R.take a ++ ((R.drop a).take (b - a) ++ R.drop b)) W W := by rw [← e]; exact ⟨h.own, h.len, Below.refl _ _⟩
  rw [e] at hp
  refine (insertion_any hs hN (Nat.le_trans hBw h.bel.size) (HC.below h.bel) l1 (by omega)).mono ?_
  rintro ee w' ⟨he, Z, z1, z2, z3⟩
  have lz : Z.length = ((R.drop a).take (b - a)).length := by
    have q1 := z3.len
    have q2 := hs.len
    simp only [List.length_append] at q1 q2
    omega
  refine ⟨he, _, h.again z3, ?_⟩
  have := hp.step (by decide) l1 (by omega) lz z1 z2
  rwa [hab] at this
theorem ins_last (hN : N ≤ 1000000) (hBw : B ≤ w.heap.size) (HC : CmpAt κ fn cap B w) {R : List Bn} {W : World} (h : Rs B A N c R w W) {a : Nat} (hp : Pass κ d 1 20 a R) (ha : a ≤ N) (hb : N < a + 20) :
    Calls Try.prog 88 #[.slice A N c, .int .i64 (a : Int), .int .i64 (N : Int), .func (.func fn) #[] cap] W fun e w' => e = .returned (.tuple #[]) ∧ ∃ R2, Rs B A N c R2 w w' ∧ Full κ d 20 R2 := by
  obtain ⟨e, l1, l2⟩ := three (R := R) (a := a) (b := N) ha (by rw [h.len]; exact Nat.le_refl _)
  have hq : R.drop N = [] := List.drop_eq_nil_of_le (by rw [h.len]; exact Nat.le_refl _)
  rw [hq] at e
  have hs : Rs B A N c (R.take a ++ ((R.drop a).take (N - a) ++ [])) W W := by rw [← e]; exact ⟨h.own, h.len, Below.refl _ _⟩
  rw [e] at hp
  refine (insertion_any hs hN (Nat.le_trans hBw h.bel.size) (HC.below h.bel) l1 (by omega)).mono ?_
  rintro ee w' ⟨he, Z, z1, z2, z3⟩
  have lz : Z.length = ((R.drop a).take (N - a)).length := by
    have q1 := z3.len
    have q2 := hs.len
    simp only [List.length_append] at q1 q2
    omega
  exact ⟨he, _, h.again z3, hp.last (by decide) l1 (by omega) lz z1 z2⟩
/-- two blocks beside each other -/
theorem sym_block (hN : N ≤ 1000000) (hBw : B ≤ w.heap.size) (HC : CmpAt κ fn cap B w) {R : List Bn} {W : World} (h : Rs B A N c R w W) {s a m b : Nat} (hs0 : 0 < s) (hp : Pass κ d s (2 * s) a R) (hm : a + s = m) (hab : a + 2 * s = b) (hb : b ≤ N) :
    Calls Try.prog 89 #[.slice A N c, .int .i64 (a : Int), .int .i64 (m : Int), .int .i64 (b : Int), .func (.func fn) #[] cap] W fun e w' => e = .returned (.tuple #[]) ∧ ∃ R2, Rs B A N c R2 w w' ∧ Pass κ d s (2 * s) b R2 := by
  obtain ⟨e, l1, l2⟩ := three (R := R) (a := a) (b := b) (by omega) (by rw [h.len]; exact hb)
  obtain ⟨e2, l3, l4⟩ := three (R := (R.drop a).take (b - a)) (a := 0) (b := s) (by omega) (by omega)
  have hX := hp.todo a (Nat.dvd_trans hp.st hp.at_) (Nat.le_refl _)
  have hY := hp.todo m (by rw [← hm]; exact (Nat.dvd_add_right (Nat.dvd_trans hp.st hp.at_)).2 (Nat.dvd_refl s)) (by omega)
  have eX : (R.drop a).take s = ((R.drop a).take (b - a)).take s := by rw [List.take_take, Nat.min_eq_left (by omega)]
  have eY : (R.drop m).take s = ((R.drop a).take (b - a)).drop s := by
    rw [List.drop_take, List.drop_drop]
    rw [hm]
    congr 1
    omega
  unfold Bl at hX hY
  rw [eX] at hX
  rw [eY] at hY
  have hsplit : (R.drop a).take (b - a) = ((R.drop a).take (b - a)).take s ++ ((R.drop a).take (b - a)).drop s := (List.take_append_drop _ _).symm
  have lX : (((R.drop a).take (b - a)).take s).length = s := by rw [List.length_take]; omega
  have lY : (((R.drop a).take (b - a)).drop s).length = s := by rw [List.length_drop]; omega
  have hs : Rs B A N c (R.take a ++ ((R.drop a).take (b - a) ++ R.drop b)) W W := by rw [← e]; exact ⟨h.own, h.len, Below.refl _ _⟩
  rw [e] at hp
  generalize (R.drop a).take (b - a) = M at *
  have hs2 : Rs B A N c (R.take a ++ (M.take s ++ (M.drop s ++ R.drop b))) W W := by
    rw [← List.append_assoc (M.take s), List.take_append_drop]
    exact hs
  refine (sym_all _ B A N c (R.take a) (M.take s) (M.drop s) (R.drop b) W a m b hs2 hN (Nat.le_trans hBw h.bel.size) (HC.below h.bel) (by omega) (by omega) hX hY l1 (by omega) (by omega) (Nat.le_refl _)).mono ?_
  rintro ee w' ⟨he, Z, z1, z2, z3⟩
  rw [List.take_append_drop] at z2
  have lz : Z.length = M.length := by
    have q1 := z3.len
    have q2 := hs.len
    simp only [List.length_append] at q1 q2
    omega
  refine ⟨he, _, h.again z3, ?_⟩
  have := hp.step (by omega) l1 (by omega) lz z1 z2
  rwa [hab] at this
theorem sym_last (hN : N ≤ 1000000) (hBw : B ≤ w.heap.size) (HC : CmpAt κ fn cap B w) {R : List Bn} {W : World} (h : Rs B A N c R w W) {s a m : Nat} (hs0 : 0 < s) (hp : Pass κ d s (2 * s) a R) (hm : a + s = m) (hmN : m < N) (hb : N < a + 2 * s) :
    Calls Try.prog 89 #[.slice A N c, .int .i64 (a : Int), .int .i64 (m : Int), .int .i64 (N : Int), .func (.func fn) #[] cap] W fun e w' => e = .returned (.tuple #[]) ∧ ∃ R2, Rs B A N c R2 w w' ∧ Full κ d (2 * s) R2 := by
  obtain ⟨e, l1, l2⟩ := three (R := R) (a := a) (b := N) (by omega) (by rw [h.len]; exact Nat.le_refl _)
  have hq : R.drop N = [] := List.drop_eq_nil_of_le (by rw [h.len]; exact Nat.le_refl _)
  rw [hq] at e
  have hX := hp.todo a (Nat.dvd_trans hp.st hp.at_) (Nat.le_refl _)
  have hY := hp.todo m (by rw [← hm]; exact (Nat.dvd_add_right (Nat.dvd_trans hp.st hp.at_)).2 (Nat.dvd_refl s)) (by omega)
  have eX : (R.drop a).take s = ((R.drop a).take (N - a)).take s := by rw [List.take_take, Nat.min_eq_left (by omega)]
  have eY : (R.drop m).take s = ((R.drop a).take (N - a)).drop s := by
    rw [List.drop_take, List.drop_drop, hm, List.take_of_length_le (by rw [List.length_drop, h.len]; omega), List.take_of_length_le (by rw [List.length_drop, h.len]; omega)]
  unfold Bl at hX hY
  rw [eX] at hX
  rw [eY] at hY
  have lX : (((R.drop a).take (N - a)).take s).length = s := by rw [List.length_take]; omega
  have lY : (((R.drop a).take (N - a)).drop s).length = N - m := by rw [List.length_drop]; omega
  have hs : Rs B A N c (R.take a ++ ((R.drop a).take (N - a) ++ [])) W W := by rw [← e]; exact ⟨h.own, h.len, Below.refl _ _⟩
  rw [e] at hp
  generalize (R.drop a).take (N - a) = M at *
  have hs2 : Rs B A N c (R.take a ++ (M.take s ++ (M.drop s ++ []))) W W := by
    rw [← List.append_assoc (M.take s), List.take_append_drop]
    exact hs
  refine (sym_all _ B A N c (R.take a) (M.take s) (M.drop s) [] W a m N hs2 hN (Nat.le_trans hBw h.bel.size) (HC.below h.bel) (by omega) (by omega) hX hY l1 (by omega) (by omega) (Nat.le_refl _)).mono ?_
  rintro ee w' ⟨he, Z, z1, z2, z3⟩
  rw [List.take_append_drop] at z2
  have lz : Z.length = M.length := by
    have q1 := z3.len
    have q2 := hs.len
    simp only [List.length_append] at q1 q2
    omega
  exact ⟨he, _, h.again z3, hp.last (by omega) l1 (by omega) lz z1 z2⟩
end
end Go.Proofs.Ytfmbldjaknjgbaa
namespace Go.Proofs.Ytfmbldjaknjgbaa
open Go.RowKit Pz
set_option linter.unusedVariables false
variable {κ : Bn → K3} {fn : Nat} {cap : Array Value}

set_option maxHeartbeats 16000000 in
set_option maxRecDepth 100000 in
theorem stable_any {B : Nat} {A : Option Addr} {N c : Nat} {d : List Bn} {w : World} (h : Rs B A N c d w w) (hN : N ≤ 1000000) (hBw : B ≤ w.heap.size) (HC : CmpAt κ fn cap B w) :
    Calls Try.prog 81 #[.slice A N c, .int .i64 (N : Int), .func (.func fn) #[] cap] w fun e w' => e = .returned (.tuple #[]) ∧ Rs B A N c (sortL κ d) w w' := by
  have H0 := Lib.hid h
  have P0 := Lib.hid (Pass.first (κ := κ) d)
  have INSC : Hid (∀ (R : List Bn) (W : World) (a b : Nat), Rs B A N c R w W → Pass κ d 1 20 a R → a + 20 = b → b ≤ N → Calls Try.prog 88 #[.slice A N c, .int .i64 (a : Int), .int .i64 (b : Int), .func (.func fn) #[] cap] W fun e w' => e = .returned (.tuple #[]) ∧ ∃ R2, Rs B A N c R2 w w' ∧ Pass κ d 1 20 b R2) := Lib.hid fun R W a b h hp h1 h2 => ins_block hN hBw HC h hp h1 h2
  have INSE : Hid (∀ (R : List Bn) (W : World) (a : Nat), Rs B A N c R w W → Pass κ d 1 20 a R → a ≤ N → N < a + 20 → Calls Try.prog 88 #[.slice A N c, .int .i64 (a : Int), .int .i64 (N : Int), .func (.func fn) #[] cap] W fun e w' => e = .returned (.tuple #[]) ∧ ∃ R2, Rs B A N c R2 w w' ∧ Full κ d 20 R2) := Lib.hid fun R W a h hp h1 h2 => ins_last hN hBw HC h hp h1 h2
  have SYC : Hid (∀ (R : List Bn) (W : World) (s a m b : Nat), Rs B A N c R w W → 0 < s → Pass κ d s (2 * s) a R → a + s = m → a + 2 * s = b → b ≤ N → Calls Try.prog 89 #[.slice A N c, .int .i64 (a : Int), .int .i64 (m : Int), .int .i64 (b : Int), .func (.func fn) #[] cap] W fun e w' => e = .returned (.tuple #[]) ∧ ∃ R2, Rs B A N c R2 w w' ∧ Pass κ d s (2 * s) b R2) := Lib.hid fun R W s a m b h h0 hp h1 h2 h3 => sym_block hN hBw HC h h0 hp h1 h2 h3
  have SYE : Hid (∀ (R : List Bn) (W : World) (s a m : Nat), Rs B A N c R w W → 0 < s → Pass κ d s (2 * s) a R → a + s = m → m < N → N < a + 2 * s → Calls Try.prog 89 #[.slice A N c, .int .i64 (a : Int), .int .i64 (m : Int), .int .i64 (N : Int), .func (.func fn) #[] cap] W fun e w' => e = .returned (.tuple #[]) ∧ ∃ R2, Rs B A N c R2 w w' ∧ Full κ d (2 * s) R2) := Lib.hid fun R W s a m h h0 hp h1 h2 h3 => sym_last hN hBw HC h h0 hp h1 h2 h3
  have SY0 : Hid (∀ (R : List Bn) (W : World) (s a m : Nat), Rs B A N c R w W → 0 < s → Pass κ d s (2 * s) a R → a + s = m → ¬ m < N → Full κ d (2 * s) R) := Lib.hid fun R W s a m h h0 hp h1 h2 => hp.rest (by rw [h.len]; omega) (by omega) (by omega)
  have FIN : Hid (∀ (R : List Bn) (W : World) (s : Nat), Rs B A N c R w W → Full κ d s R → ¬ s < N → Rs B A N c (sortL κ d) w W) := Lib.hid fun R W s h hf hs => by
    have := hf.sorted (by rw [h.len]; omega)
    rw [← this]
    exact h
  generalize sortL κ d = G at *
  clear h hBw HC
  go_enter Try.func81, Try.ntmps81
  go_wp2
  go_loopw [7, 8] (fun ax bx wr => ∃ (a b : Nat) (R : List Bn), ax = .int .i64 a ∧ bx = .int .i64 b ∧ a + 20 = b ∧ a ≤ N ∧ Hid (Rs B A N c R w wr) ∧ Hid (Pass κ d 1 20 a R)) (fun ax _ _ => N - (intOf ax).toNat)
  case atStart => exact ⟨0, 20, d, rfl, rfl, rfl, Nat.zero_le _, H0, P0⟩
  case round =>
    obtain ⟨a, b, R, rfl, rfl, hab, haN, HR, HP⟩ := hrel
    clear H0 P0
    by_cases hbN : b ≤ N
    · have t1 : (b : Int) ≤ (N : Int) := by omega
      obtain ⟨b2, hb2⟩ : ∃ b2, b2 = b + 20 := ⟨_, rfl⟩
      have wb : IntKind.i64.wrap ((b : Int) + 20) = (b2 : Int) := by rw [IntWalk.i64_in _ (by omega)]; omega
      have C1 := Lib.hid (INSC.out R wr a b HR.out HP.out hab hbN)
      have hab2 : a < b := by omega
      have e2 : b + 20 = b2 := hb2.symm
      replace e2 := Lib.hid e2
      clear hb2 INSC INSE SYC SYE SY0 FIN HR HP
      go_wp2_with (go_at_call 88; with_reducible refine (C1.out).mono ?_; rintro e w' ⟨rfl, R2, hr, hp⟩; have HR2 := Lib.hid hr; have HP2 := Lib.hid hp; clear hr hp C1)
      go_roundw
      case rel => exact ⟨b, b2, R2, rfl, rfl, e2.out, hbN, HR2, HP2⟩
      case measure => simp [intOf]; omega
    · have t1 : ¬ (b : Int) ≤ (N : Int) := by omega
      have C1 := Lib.hid (INSE.out R wr a HR.out HP.out haN (by omega))
      clear INSC INSE HR HP
      go_wp2_with (go_at_call 88; with_reducible refine (C1.out).mono ?_; rintro e w' ⟨rfl, R2, hr, hp⟩; have HR2 := Lib.hid hr; have HF2 := Lib.hid hp; clear hr hp C1)
      go_loopw [6] (fun sx wr => ∃ (s : Nat) (R : List Bn), sx = .int .i64 s ∧ 20 ≤ s ∧ s ≤ 2000000 ∧ Hid (Rs B A N c R w wr) ∧ Hid (Full κ d s R)) (fun sx _ => N - (intOf sx).toNat)
      case atStart => exact ⟨20, R2, rfl, by omega, by omega, HR2, HF2⟩
      case round =>
        clear HR2 HF2
        obtain ⟨s, R, rfl, h20, hs6, HR, HF⟩ := hrel
        by_cases hsN : s < N
        · have t2 : (s : Int) < (N : Int) := by omega
          obtain ⟨s2, hs2⟩ : ∃ s2, s2 = 2 * s := ⟨_, rfl⟩
          have ws : IntKind.i64.wrap (2 * (s : Int)) = (s2 : Int) := by rw [IntWalk.i64_in _ (by omega)]; omega
          have ws' : IntKind.i64.wrap ((s : Int) * 2) = (s2 : Int) := by rw [IntWalk.i64_in _ (by omega)]; omega
          have P1 := HF.out.pass
          rw [← hs2] at P1
          replace P1 := Lib.hid P1
          have e2 := Lib.hid hs2
          have h2s : s2 ≤ 2000000 := by omega
          have h1s : s < s2 := by omega
          clear HF hs2 FIN
          go_wp2
          go_loopw [7, 8] (fun ax bx wr => ∃ (a b : Nat) (R : List Bn), ax = .int .i64 a ∧ bx = .int .i64 b ∧ Hid (a + s2 = b) ∧ a ≤ N ∧ b ≤ 4000000 ∧ a < b ∧ Hid (Rs B A N c R w wr) ∧ Hid (Pass κ d s s2 a R)) (fun ax _ _ => N - (intOf ax).toNat)
          case atStart => exact ⟨0, s2, R, rfl, rfl, Lib.hid (by omega), Nat.zero_le _, by omega, by omega, HR, P1⟩
          case round =>
            clear HR P1
            obtain ⟨a, b, R, rfl, rfl, hab, haN, hb6, hab2, HR, HP⟩ := hrel
            obtain ⟨m, hm⟩ : ∃ m, m = a + s := ⟨_, rfl⟩
            have wm : IntKind.i64.wrap ((a : Int) + (s : Int)) = (m : Int) := by rw [IntWalk.i64_in _ (by omega)]; omega
            have hm6 : m ≤ 4000000 := by omega
            by_cases hbN : b ≤ N
            · have t3 : (b : Int) ≤ (N : Int) := by omega
              obtain ⟨b2, hb2⟩ : ∃ b2, b2 = b + s2 := ⟨_, rfl⟩
              have wb : IntKind.i64.wrap ((b : Int) + (s2 : Int)) = (b2 : Int) := by rw [IntWalk.i64_in _ (by omega)]; omega
              have C1 := SYC.out R wr s a m b HR.out (by omega) (by rw [← e2.out]; exact HP.out) hm.symm (by have := hab.out; have := e2.out; omega) hbN
              rw [← e2.out] at C1
              replace C1 := Lib.hid C1
              have e3 : Hid (b + s2 = b2) := Lib.hid hb2.symm
              have hb7 : b2 ≤ 4000000 := by omega
              have hb8 : b < b2 := by omega
              replace hm := Lib.hid hm
              clear hb2 SYC SYE SY0 HR HP
              go_wp2_with (go_at_call 89; with_reducible refine (C1.out).mono ?_; rintro e w' ⟨rfl, R2, hr, hp⟩; have HR2 := Lib.hid hr; have HP2 := Lib.hid hp; clear hr hp C1)
              go_roundw
              case rel => exact ⟨b, b2, R2, rfl, rfl, e3, hbN, hb7, hb8, HR2, HP2⟩
              case measure => simp [intOf]; omega
            · have t3 : ¬ (b : Int) ≤ (N : Int) := by omega
              have HPP : Pass κ d s (2 * s) a R := by rw [← e2.out]; exact HP.out
              by_cases hmN : m < N
              · have t4 : (m : Int) < (N : Int) := by omega
                have C1 := SYE.out R wr s a m HR.out (by omega) HPP hm.symm hmN (by have := hab.out; have := e2.out; omega)
                rw [← e2.out] at C1
                replace C1 := Lib.hid C1
                replace hm := Lib.hid hm
                clear HPP SYC SYE SY0 HR HP
                go_wp2_with (go_at_call 89; with_reducible refine (C1.out).mono ?_; rintro e w' ⟨rfl, R2, hr, hp⟩; have HR2 := Lib.hid hr; have HF2 := Lib.hid hp; clear hr hp C1)
                go_roundw
                case rel => exact ⟨s2, R2, rfl, by omega, h2s, HR2, HF2⟩
                case measure => simp [intOf]; omega
              · have t4 : ¬ (m : Int) < (N : Int) := by omega
                have C1 := SY0.out R wr s a m HR.out (by omega) HPP hm.symm hmN
                rw [← e2.out] at C1
                have HF2 := Lib.hid C1
                replace hm := Lib.hid hm
                clear C1 HPP SYC SYE SY0 HP
                go_wp2
                go_roundw
                case rel => exact ⟨s2, R, rfl, by omega, h2s, HR, HF2⟩
                case measure => simp [intOf]; omega
        · have t2 : ¬ (s : Int) < (N : Int) := by omega
          have HG := Lib.hid (FIN.out R wr s HR.out HF.out hsN)
          clear HR HF SYC SYE SY0 FIN
          go_wp2
          go_end0
          exact ⟨rfl, HG.out⟩
set_option maxHeartbeats 16000000 in
theorem sortstable_any {B : Nat} {A : Option Addr} {N c : Nat} {d : List Bn} {w : World} (h : Rs B A N c d w w) (hN : N ≤ 1000000) (hBw : B ≤ w.heap.size) (HC : CmpAt κ fn cap B w) :
    Calls Try.prog 66 #[.slice A N c, .func (.func fn) #[] cap] w fun e w' => e = .returned (.tuple #[]) ∧ Rs B A N c (sortL κ d) w w' := by
  have C1 := Lib.hid (stable_any h hN hBw HC)
  generalize sortL κ d = G at *
  clear h hN hBw HC
  go_enter Try.func66, Try.ntmps66
  go_wp2_with (go_at_call 81; with_reducible refine (C1.out).mono ?_; rintro e w' ⟨rfl, hr⟩; have HR2 := Lib.hid hr; clear hr C1)
  go_end0
  exact ⟨rfl, HR2.out⟩
end Go.Proofs.Ytfmbldjaknjgbaa
namespace Go.Proofs.Ytfmbldjaknjgbaa
open Go.RowKit Pz
set_option linter.unusedVariables false

/-- an append of entities to a row of none -/
theorem app_bn (W : World) {l : List Bn} {A : Option Addr} {cap : Nat} (R : RdB W W.heap.size A l) (hl : l.length ≤ 1000000) (ty : TypeId) :
    ∃ A' c' w', (Builtin.append_ #[22, 22] ty #[.slice (some ⟨W.heap.size, 0, none⟩) 0 0, .slice A l.length cap]).run Try.prog (W.alloc (.cells #[] 34)) = .ok (.slice A' l.length c') w' ∧
      OwnB w' W.heap.size (.slice A' l.length c') l ∧ Below W.heap.size W w' := by
  have h0 : OwnB (W.alloc (.cells #[] 34)) W.heap.size (.slice (some ⟨W.heap.size, 0, none⟩) 0 0) [] :=
    .inr ⟨W.heap.size, 0, 0, #[], rfl, Nat.le_refl _, at1 W _, Nat.le_refl _, by decide, by simp, fun j x hj => by simp at hj⟩
  cases hll : l with
  | nil =>
    subst hll
    refine ⟨some ⟨W.heap.size, 0, none⟩, 0, W.alloc (.cells #[] 34), ?_, h0, bel1 W _⟩
    obtain ⟨i, hi, hz, h2, h3⟩ := info_parts bundle_info
    cases A <;> simp [Builtin.append_, run_underlying Try.underlying22, sizeOf, typeInfo, hi, Builtin.lenOf, Builtin.firstCells, storeCells, loadCells, loadCellsFrom]
  | cons x0 r0 =>
    rw [← hll]
    obtain ⟨g, o, rfl, _⟩ := R 0 x0 (by rw [hll]; rfl)
    have hpos : 0 < l.length := by rw [hll]; simp
    obtain ⟨v', w', hr, ho, hg, hb⟩ := h0.app (P := Try.prog) (t := 22) (ty := ty) Try.underlying22 bundle_info rfl (by decide) bnE_len bnE_one (by rw [size1]; omega) l ⟨g, o, none⟩ cap (fun j x hj => by
      obtain ⟨g', o', e, hg, KS⟩ := (R.below (bel1 W (.cells #[] 34))) j x hj
      cases e
      intro c u hu
      have hc : c < 11 := (List.getElem?_eq_some_iff.1 hu).1
      rw [Addr.add_mid, ← Nat.add_assoc]
      have : c = 0 ∨ c = 1 ∨ c = 2 ∨ c = 3 ∨ c = 4 ∨ c = 5 ∨ c = 6 ∨ c = 7 ∨ c = 8 ∨ c = 9 ∨ c = 10 := by omega
      rcases this with rfl | rfl | rfl | rfl | rfl | rfl | rfl | rfl | rfl | rfl | rfl
      · have e1 : u = .int .i64 x.s := by simpa [bnE] using hu.symm
        rw [e1]
        exact KS.1
      · have e1 : u = .int .i64 x.i := by simpa [bnE] using hu.symm
        rw [e1]
        exact KS.2.1
      · have e1 : u = .int .i64 x.g := by simpa [bnE] using hu.symm
        rw [e1]
        exact KS.2.2.1
      · have e1 : u = .int .i64 x.m := by simpa [bnE] using hu.symm
        rw [e1]
        exact KS.2.2.2.1
      · have e1 : u = .int .i64 x.x := by simpa [bnE] using hu.symm
        rw [e1]
        exact KS.2.2.2.2.1
      · have e1 : u = .int .i64 x.y := by simpa [bnE] using hu.symm
        rw [e1]
        exact KS.2.2.2.2.2.1
      · have e1 : u = .int .i64 x.vx := by simpa [bnE] using hu.symm
        rw [e1]
        exact KS.2.2.2.2.2.2.1
      · have e1 : u = .int .i64 x.vy := by simpa [bnE] using hu.symm
        rw [e1]
        exact KS.2.2.2.2.2.2.2.1
      · have e1 : u = .int .i64 x.h := by simpa [bnE] using hu.symm
        rw [e1]
        exact KS.2.2.2.2.2.2.2.2.1
      · have e1 : u = .int .i64 x.p := by simpa [bnE] using hu.symm
        rw [e1]
        exact KS.2.2.2.2.2.2.2.2.2.1
      · have e1 : u = .int .i64 x.l := by simpa [bnE] using hu.symm
        rw [e1]
        exact KS.2.2.2.2.2.2.2.2.2.2
      ) (by simpa using hl) (by decide) (.inl hpos)
    obtain ⟨A', c', hv⟩ := ho.form
    rw [List.nil_append] at ho hv
    subst hv
    exact ⟨A', c', w', hr, ho, ((Below.refl W.heap.size W).alloc (Nat.le_refl _) _).grown hg (by rw [size1]; omega) (fun k hk => (h0.blk hk).1)⟩
set_option maxHeartbeats 16000000 in
set_option maxRecDepth 100000 in
theorem clone_any {w : World} {l : List Bn} {A : Option Addr} {cap : Nat} (R : RdB w w.heap.size A l) (hl : l.length ≤ 1000000) :
    Calls Try.prog 65 #[.slice A l.length cap] w fun e w' => (∃ A' c', e = .returned (.slice A' l.length c') ∧ OwnB w' w.heap.size (.slice A' l.length c') l) ∧ Below w.heap.size w w' := by
  obtain ⟨A', c', w2, hr, ho, hb⟩ := app_bn w (cap := cap) R hl 22
  have HR := Lib.hid hr
  have HO := Lib.hid ho
  have HB := Lib.hid hb
  have N0 : Hid (A = none → l = []) := Lib.hid fun e => by
    cases l with
    | nil => rfl
    | cons x r =>
      obtain ⟨g, o, e2, _⟩ := R 0 x rfl
      rw [e] at e2
      cases e2
  have EQN := fun (W : World) (a : Option Addr) (n c : Nat) => Lib.run_eql_slice_nil (P := Try.prog) W 22 34 a n c 0 0 Try.underlying22
  clear R hr ho hb
  cases A with
  | none =>
    have e := N0.out rfl
    subst e
    go_enter Try.func65, Try.ntmps65
    go_wp2
    go_ret
    exact ⟨⟨none, 0, rfl, .inl ⟨rfl, rfl⟩⟩, Below.refl _ _⟩
  | some a =>
    generalize hn : l.length = n at *
    go_enter Try.func65, Try.ntmps65
    go_wp2_with (at_builtin; refine wpList_append _ rfl (.tmp 5) (.tmp 6) _ _ rfl _ _ rfl rfl _ _ HR.out ?_; clear HR)
    go_ret
    exact ⟨⟨A', c', rfl, HO.out⟩, HB.out⟩
set_option maxHeartbeats 16000000 in
set_option maxRecDepth 100000 in
theorem sorted_any {w : World} {l : List Bn} {A : Option Addr} {cap : Nat} (R : RdB w w.heap.size A l) (hl : l.length ≤ 1000000) :
    Calls Try.prog 34 #[.slice A l.length cap] w fun e w' => (∃ A' c', e = .returned (.slice A' l.length c') ∧ OwnB w' w.heap.size (.slice A' l.length c') (sortL Bn.id l)) ∧ Below w.heap.size w w' := by
  have C1 := Lib.hid (clone_any (cap := cap) R hl)
  have S1 : Hid (∀ (A' : Option Addr) (c' : Nat) (W : World), OwnB W w.heap.size (.slice A' l.length c') l → Below w.heap.size w W → Calls Try.prog 66 #[.slice A' l.length c', .func (.func 67) #[] #[]] W fun e w' => e = .returned (.tuple #[]) ∧ OwnB w' w.heap.size (.slice A' l.length c') (sortL Bn.id l) ∧ Below w.heap.size w w') := Lib.hid fun A' c' W ho hb => by
    refine (sortstable_any (B := w.heap.size) (w := W) ⟨ho, rfl, Below.refl _ _⟩ hl hb.size (cmp_names _ _)).mono ?_
    rintro e w' ⟨he, hr⟩
    exact ⟨he, hr.own, hb.trans hr.bel⟩
  generalize hn : l.length = n at *
  generalize sortL Bn.id l = G at *
  clear hn R hl
  go_enter Try.func34, Try.ntmps34
  go_wp2_with (first
    | (go_at_call 65; with_reducible refine (C1.out).mono ?_; rintro e w2 ⟨⟨A2, c2, rfl, ho⟩, hb⟩; have S2 := Lib.hid (S1.out A2 c2 w2 ho hb); clear ho hb C1 S1)
    | (go_at_call 66; with_reducible refine (S2.out).mono ?_; rintro e w2 ⟨rfl, ho, hb⟩; have HO := Lib.hid ho; have HB := Lib.hid hb; clear ho hb S2))
  go_ret
  exact ⟨⟨_, _, rfl, HO.out⟩, HB.out⟩
end Go.Proofs.Ytfmbldjaknjgbaa
