/- The law QueryNarrows, walked. Written by wip/tools/genquL4.py. -/
import Derived.Test.YtgmgenggboicnaaKQuF
import Derived.Test.YtgmgenggboicnaaKQuE
import Derived.BigQuiet
namespace Go.Proofs.Ytgmgenggboicnaa
open Go.RowKit Go.Shelf Pz Ar Qu
set_option linter.unusedVariables false
set_option linter.unusedSimpArgs false

set_option maxHeartbeats 16000000 in
set_option maxRecDepth 100000 in
theorem law_narrows (w : World) (A : Option Addr) (c : Nat) (l : List Bn) (hc : l.length ≤ c) (hcap : c ≤ 140737488351232) (R : RdB w w.heap.size A l) (q0 q1 : Int) (h0 : Fit q0) (h1 : Fit q1) (p0 p1 : Int) (g0 : Fit p0) (g1 : Fit p1) :
    Calls Try.prog 10 #[.slice A l.length c, qV q0 q1, qV p0 p1] w fun e w' => e = .returned (.bool true) ∧ Below w.heap.size w w' := by
  have BE0 := bel2 w (.cells #[.int .i64 q0, .int .i64 q1] QTY) (.cells #[.int .i64 p0, .int .i64 p1] QTY)
  have T0 := at2a w (.cells #[.int .i64 q0, .int .i64 q1] QTY) (.cells #[.int .i64 p0, .int .i64 p1] QTY)
  have T1 := at2b w (.cells #[.int .i64 q0, .int .i64 q1] QTY) (.cells #[.int .i64 p0, .int .i64 p1] QTY)
  have MD := Lib.hid (made_mk (c := c) ((R.below BE0).more BE0.size) (by omega))
  have AW := Lib.hid qawake_any
  have H0 := Lib.hid (And.intro h0 g0)
  clear R hc hcap h0 h1 g0 g1
  generalize l.length = n0 at *
  go_enter Try.func10, Try.ntmps10
  go_upto_region 1 with fail
  generalize (w.alloc (.cells #[.int .i64 q0, .int .i64 q1] QTY)).alloc (.cells #[.int .i64 p0, .int .i64 p1] QTY) = w1 at *
  go_upto_region 2 with (go_at_call 31; refine MD.out.mono ?_; rintro e w2 ⟨s, P, A2, c2, rfl, hk⟩; have MK := Lib.hid hk; clear MD hk)
  have BE := Lib.hid (BE0.trans (MK.out.bel.mono BE0.size))
  have T2 := Lib.hid ((MK.out.bel.block _ (Bx.lt T0)).trans T0)
  have T3 := Lib.hid ((MK.out.bel.block _ (Bx.lt T1)).trans T1)
  have SB0 := told_more (q1 := q1) (p1 := p1) H0.out.1 H0.out.2 (all (addAll P))
  have CW : Hid (∀ V, Below w2.heap.size w2 V → ∀ x y, Calls Try.prog 34 #[.pointer (some ⟨s, 0, none⟩), qV x y] V fun e w' => ∃ A c, e = .returned (.slice A ((told x y yes (all (addAll P))).map Bn.id).length c) ∧ OwnI w' V.heap.size (.slice A ((told x y yes (all (addAll P))).map Bn.id).length c) ((told x y yes (all (addAll P))).map Bn.id) ∧ Below V.heap.size V w') := Lib.hid fun V hV x y => qids_any (fun U hU => MK.out.src U (hV.trans (hU.mono hV.size))) x y
  have hfew : (told q0 q1 yes (all (addAll P))).length ≤ 100 := Nat.le_trans (told_le _ _ _ _) (by rw [total_all, total_addAll MK.out.ok.may]; exact Nat.le_trans MK.out.few (by decide))
  have C1 := Lib.hid fun V hV => CW.out V hV q0 q1
  have C2 := Lib.hid fun V hV => CW.out V hV (bits .or .i64 q0 p0) (bits .or .i64 q1 p1)
  have SB := SB0.map Bn.id
  have hW : ((told q0 q1 yes (all (addAll P))).map Bn.id).length ≤ 100 := by rw [List.length_map]; exact hfew
  have QB : Hid (∀ V, Below w2.heap.size w2 V → (V.cell? ⟨w.heap.size, 0, none⟩ = some (.int .i64 q0) ∧ V.cell? ⟨w.heap.size, 1, none⟩ = some (.int .i64 q1)) ∧ (V.cell? ⟨w.heap.size + 1, 0, none⟩ = some (.int .i64 p0) ∧ V.cell? ⟨w.heap.size + 1, 1, none⟩ = some (.int .i64 p1))) := Lib.hid fun V hV => ⟨(Bx.b2 ((hV.block _ (Bx.lt T2.out)).trans T2.out)).1, (Bx.b2 ((hV.block _ (Bx.lt T3.out)).trans T3.out)).1⟩
  clear CW MK T0 T1 T2 T3 BE0 SB0 hfew H0
  generalize (told q0 q1 yes (all (addAll P))).map Bn.id = WL at *
  generalize (told (bits .or .i64 q0 p0) (bits .or .i64 q1 p1) yes (all (addAll P))).map Bn.id = LL at *
  have hLL := SB.length_le
  obtain ⟨⟨k0, k1⟩, ⟨k2, k3⟩⟩ := QB.out w2 (Below.refl _ _)
  go_upto_region 6 with (first
    | (go_at_call 34; with_reducible refine (C2.out _ b3).mono ?_; rintro e w4 ⟨A4, c4, rfl, o4, b4'⟩; have b4 := b3.trans (b4'.mono b3.size); have o3' := o3.below b4'; clear C2 b4' o3)
    | (go_at_call 34; with_reducible refine (C1.out _ (Below.refl _ _)).mono ?_; rintro e w3 ⟨A3, c3, rfl, o3, b3⟩; clear C1 k0 k1 k2 k3; obtain ⟨⟨k0, k1⟩, ⟨k2, k3⟩⟩ := QB.out _ b3))
  have RW := Lib.hid fun V (hV : Below w4.heap.size w4 V) => o3'.below hV
  have RL := Lib.hid fun V (hV : Below w4.heap.size w4 V) => o4.below hV
  have BE4 := Lib.hid (BE.out.trans (b4.mono BE.out.size))
  have SBh := Lib.hid SB
  clear k0 k1 k2 k3 QB b3 b4 o3' o4 BE SB
  go_loopw [11, 12] (fun kx ix wr => ∃ k i : Nat, k ≤ WL.length ∧ i ≤ LL.length ∧ kx = .int .i64 k ∧ ix = .int .i64 i ∧ Hid (Below w4.heap.size w4 wr) ∧ Hid ((LL.drop i).Sublist (WL.drop k))) (fun kx ix _ => LL.length - (intOf ix).toNat)
  case atStart => exact ⟨0, 0, Nat.zero_le _, Nat.zero_le _, rfl, rfl, Lib.hid (Below.refl _ _), SBh⟩
  case round =>
    obtain ⟨k, i, hk, hi, rfl, rfl, HB, HS⟩ := hrel
    clear SBh
    have hWi : (WL.length : Int) ≤ 100 := by omega
    have hLi : (LL.length : Int) ≤ 100 := by omega
    by_cases hil : i < LL.length
    · have t1 : (i : Int) < (LL.length : Int) := by omega
      obtain ⟨x, hx⟩ : ∃ x, LL[i]? = some x := ⟨_, List.getElem?_eq_getElem hil⟩
      have HX := Lib.hid hx
      go_wp2
      go_loopw [11] (fun kx wr => ∃ k : Nat, k ≤ WL.length ∧ kx = .int .i64 k ∧ Hid (Below w4.heap.size w4 wr) ∧ Hid ((LL.drop i).Sublist (WL.drop k))) (fun kx _ => WL.length - (intOf kx).toNat)
      case atStart => exact ⟨k, hk, rfl, HB, HS⟩
      case round =>
        clear HB HS hk
        obtain ⟨k, hk, rfl, HB, HS⟩ := hrel
        by_cases hkl : k < WL.length
        · have t2 : decide ((k : Int) < (WL.length : Int)) = true := decide_eq_true (by omega)
          have t2' : decide (k < WL.length) = true := decide_eq_true hkl
          have t3 : (k : Int) < (WL.length : Int) := by omega
          have t4 : ((k : Int) == (WL.length : Int)) = false := by rw [beq_eq_false_iff_ne]; omega
          obtain ⟨y, hy⟩ : ∃ y, WL[k]? = some y := ⟨_, List.getElem?_eq_getElem hkl⟩
          obtain ⟨gx, ox, rfl, _, ⟨x0, x1, x2⟩, _⟩ := owni_at (RL.out wr HB.out) HX.out
          obtain ⟨gy, oy, rfl, _, ⟨y0, y1, y2⟩, _⟩ := owni_at (RW.out wr HB.out) hy
          have NX := Lib.hid fun q => Below.dn' HB.out q
          have eL : LL.drop i = x :: LL.drop (i + 1) := by
            rw [List.drop_eq_getElem_cons hil]
            have := HX.out
            rw [List.getElem?_eq_getElem hil] at this
            rw [Option.some.inj this]
          have eW : WL.drop k = y :: WL.drop (k + 1) := by
            rw [List.drop_eq_getElem_cons hkl]
            rw [List.getElem?_eq_getElem hkl] at hy
            rw [Option.some.inj hy]
          have SEQ : Hid (y = x → (LL.drop (i + 1)).Sublist (WL.drop k)) := Lib.hid fun e => by
            have h := HS.out
            rw [eL] at h
            exact (List.sublist_cons_self _ _).trans h
          have SNE : Hid (y ≠ x → (LL.drop i).Sublist (WL.drop (k + 1))) := Lib.hid fun e => by
            have h := HS.out
            rw [eL, eW] at h
            rw [eL]
            cases h
            · assumption
            · exact absurd rfl e
          clear eL eW HS hx HB RL RW hy
          obtain ⟨xa, xb, xc⟩ := x
          obtain ⟨ya, yb, yc⟩ := y
          simp only at x0 x1 x2 y0 y1 y2
          by_cases hyx : (ya, yb, yc) = (xa, xb, xc)
          · have S2 := Lib.hid (SEQ.out hyx)
            have hne : ((ya == xa) && ((yb == xb) && (yc == xc))) = true := by
              simp only [Prod.mk.injEq] at hyx
              simp [hyx.1, hyx.2.1, hyx.2.2]
            have EQ : ∀ V : World, (Op.equalIn 10000 31 (.agg #[.int .i64 ya, .int .i64 yb, .int .i64 yc]) (.agg #[.int .i64 xa, .int .i64 xb, .int .i64 xc])).run Try.prog V = .ok true V := fun V => by
              rw [eq_id 9998 ya yb yc xa xb xc V, hne]
            clear SEQ SNE hyx hne HX
            go_upto_region 8 with fail
            go_quiet (fail)
            go_wp2
            go_roundw
            case rel => exact ⟨k, i + 1, by omega, by omega, rfl, by go_num, Lib.hid (NX.out _), S2⟩
            case measure => simp [intOf]; omega
          · have S2 := Lib.hid (SNE.out hyx)
            have hne : ((ya == xa) && ((yb == xb) && (yc == xc))) = false := by
              rw [Bool.eq_false_iff]
              intro h
              simp only [Bool.and_eq_true, beq_iff_eq] at h
              exact hyx (by rw [h.1, h.2.1, h.2.2])
            have EQ : ∀ V : World, (Op.equalIn 10000 31 (.agg #[.int .i64 ya, .int .i64 yb, .int .i64 yc]) (.agg #[.int .i64 xa, .int .i64 xb, .int .i64 xc])).run Try.prog V = .ok false V := fun V => by
              rw [eq_id 9998 ya yb yc xa xb xc V, hne]
            clear SEQ SNE hyx hne HX
            go_upto_region 8 with fail
            go_quiet (fail)
            go_wp2
            go_roundw
            case rel => exact ⟨k + 1, by omega, by go_num, Lib.hid (NX.out _), S2⟩
            case measure => simp [intOf]; omega
        · exfalso
          have h := HS.out.length_le
          rw [List.length_drop, List.length_drop] at h
          omega
    · obtain rfl : i = LL.length := by omega
      have t1 : ¬ (LL.length : Int) < (LL.length : Int) := by omega
      have t2 : decide ((LL.length : Int) ≤ (WL.length : Int)) = true := decide_eq_true (by omega)
      have t2' : decide (LL.length ≤ WL.length) = true := decide_eq_true hLL
      clear RL RW HS
      generalize hwl : WL.length = nW at *
      generalize hll : LL.length = nL at *
      go_wp2_with (go_at_call 30; refine (AW.out _).mono ?_; rintro e w8 ⟨rfl, b8⟩; clear AW)
      go_ret
      exact ⟨rfl, BE4.out.trans ((HB.out.trans (b8.mono HB.out.size)).mono BE4.out.size)⟩
end Go.Proofs.Ytgmgenggboicnaa
