/- The law QueryFars, walked. Written by wip/tools/genquL6.py. -/
import Derived.Test.YtgmgenggboicnaaKQuF
import Derived.Test.YtgmgenggboicnaaKQuE
import Derived.Test.YtgmgenggboicnaaKLaw
import Derived.BigQuiet
import Derived.Lib.MinMax
namespace Go.Proofs.Ytgmgenggboicnaa
open Go.RowKit Go.Shelf Pz Ar Qu
set_option linter.unusedVariables false
set_option linter.unusedSimpArgs false

theorem told_congr {q0 q1 : Int} {P Q : Bn → Bool} {l : List Bn} (h : ∀ x ∈ l, P x = Q x) : told q0 q1 P l = told q0 q1 Q l := by
  unfold told wants
  congr 1
  exact List.filter_congr fun x hx => by rw [h x hx]
theorem told_holds {q0 q1 : Int} {P : Bn → Bool} {l : List Bn} {x : Bn} (h : x ∈ told q0 q1 P l) : P x = true := by
  have := (sortL_srt (κ := Bn.id) (wants q0 q1 P l)).2.mem h
  have h2 := (List.mem_filter.1 this).2
  rw [Bool.and_eq_true] at h2
  exact h2.2
theorem square {x y d : Int} (hx : -100000 < x ∧ x < 100000) (hy : -100000 < y ∧ y < 100000) (hd : 0 ≤ d ∧ d < 100000) {b : Bn} (h : may b = true) : decide (Rc.far b.x b.y x y ≤ d) = Rc.hasR (x - d) (y - d) (x + d + 1) (y + d + 1) b.x b.y := by
  obtain ⟨⟨h1, h2⟩, ⟨h3, h4⟩⟩ := may_fits h
  unfold Rc.hasR Rc.far Rc.dist
  rw [Rc.clamp_in h1 h2, Rc.clamp_in h3 h4, Rc.clamp_in (n := x) (by omega) (by omega), Rc.clamp_in (n := y) (by omega) (by omega), Rc.clamp_in (n := x - d) (by omega) (by omega), Rc.clamp_in (n := y - d) (by omega) (by omega), Rc.clamp_in (n := x + d + 1) (by omega) (by omega), Rc.clamp_in (n := y + d + 1) (by omega) (by omega)]
  rw [decide_eq_decide]
  omega
theorem far_nonneg (x y u v : Int) : 0 ≤ Rc.far x y u v := by unfold Rc.far Rc.dist; omega
/-- those that are near: in the order of how far they are -/
theorem nears_rise {q0 q1 X Y D : Int} {l : List Bn} {i j : Nat} {a b : Bn} (ha : (nears q0 q1 X Y D l)[i]? = some a) (hb : (nears q0 q1 X Y D l)[j]? = some b) (hij : i < j) : Rc.far a.x a.y X Y ≤ Rc.far b.x b.y X Y := by
  have hs := (sortL_srt (κ := farK X Y) (told q0 q1 (fun x => decide (Rc.far x.x x.y X Y ≤ D)) l)).1
  obtain ⟨h1, e1⟩ := List.getElem?_eq_some_iff.1 ha
  obtain ⟨h2, e2⟩ := List.getElem?_eq_some_iff.1 hb
  have := List.pairwise_iff_getElem.1 hs i j h1 h2 hij
  unfold nears at e1 e2
  rw [e1, e2, before_far] at this
  have := of_decide_eq_false this
  omega
theorem nears_mem {q0 q1 X Y D : Int} {l : List Bn} {x : Bn} (h : x ∈ nears q0 q1 X Y D l) : x ∈ l ∧ Rc.far x.x x.y X Y ≤ D := by
  have := (sortL_srt (κ := farK X Y) (told q0 q1 (fun x => decide (Rc.far x.x x.y X Y ≤ D)) l)).2.mem h
  exact ⟨told_mem this, of_decide_eq_true (told_holds (P := fun x => decide (Rc.far x.x x.y X Y ≤ D)) this)⟩
theorem tmod_bd (a : Int) : -100000 < a.tmod 100000 ∧ a.tmod 100000 < 100000 := by
  have h2 := Int.tmod_lt_of_pos a (b := 100000) (by decide)
  have := Int.tmod_lt_of_pos (-a) (b := 100000) (by decide)
  rw [Int.neg_tmod] at this
  omega
set_option maxHeartbeats 16000000 in
set_option maxRecDepth 100000 in
theorem law_fars (w : World) (A : Option Addr) (c : Nat) (l : List Bn) (hc : l.length ≤ c) (hcap : c ≤ 140737488351232) (R : RdB w w.heap.size A l) (q0 q1 : Int) (h0 : Fit q0) (h1 : Fit q1) (X Y D : Int) :
    Calls Try.prog 13 #[.slice A l.length c, qV q0 q1, .agg #[.int .i64 X, .int .i64 Y, .int .i64 D]] w fun e w' => e = .returned (.bool true) ∧ Below w.heap.size w w' := by
  obtain ⟨x, hx⟩ : ∃ x, X.tmod 100000 = x := ⟨_, rfl⟩
  obtain ⟨y, hy⟩ : ∃ y, Y.tmod 100000 = y := ⟨_, rfl⟩
  obtain ⟨d0, hd0⟩ : ∃ d, D.tmod 100000 = d := ⟨_, rfl⟩
  obtain ⟨d, hd⟩ : ∃ d, max 0 d0 = d := ⟨_, rfl⟩
  have bx := tmod_bd X
  have bY := tmod_bd Y
  have bd := tmod_bd D
  rw [hx] at bx
  rw [hy] at bY
  rw [hd0] at bd
  have bd2 : 0 ≤ d ∧ d < 100000 := by omega
  have BE0 := bel2 w (.cells #[.int .i64 q0, .int .i64 q1] QTY) (.cells #[.int .i64 X, .int .i64 Y, .int .i64 D] 69)
  have T0 := at2a w (.cells #[.int .i64 q0, .int .i64 q1] QTY) (.cells #[.int .i64 X, .int .i64 Y, .int .i64 D] 69)
  have T1 := at2b w (.cells #[.int .i64 q0, .int .i64 q1] QTY) (.cells #[.int .i64 X, .int .i64 Y, .int .i64 D] 69)
  have AW := Lib.hid qawake_any
  have RH := Lib.hid R
  have hln : l.length ≤ 140737488351232 := by omega
  clear hc hcap h0 h1 R
  go_enter Try.func13, Try.ntmps13
  go_upto_region 1 with fail
  generalize (w.alloc (.cells #[.int .i64 q0, .int .i64 q1] QTY)).alloc (.cells #[.int .i64 X, .int .i64 Y, .int .i64 D] 69) = w1 at *
  obtain ⟨⟨k0, k1, k2⟩, ⟨f0, f1, f2⟩⟩ := Bx.b3 T1
  have T1' := Bx.set3 T1 (.int .i64 x) (.int .i64 y) (.int .i64 d)
  have T0' := (Bx.ne3 (W := w1) (b := w.heap.size + 1) (k := w.heap.size) (by omega) (.int .i64 x) (.int .i64 y) (.int .i64 d)).trans T0
  have BE1 := Bx.put3 BE0 (b := w.heap.size + 1) (by omega) (.int .i64 x) (.int .i64 y) (.int .i64 d)
  go_upto_region 2 with fail
  clear k0 k1 k2 f0 f1 f2 T0 T1 BE0
  generalize (((w1.setCell ⟨w.heap.size + 1, 0, none⟩ (.int .i64 x)).setCell ⟨w.heap.size + 1, 1, none⟩ (.int .i64 y)).setCell ⟨w.heap.size + 1, 2, none⟩ (.int .i64 d)) = w0 at *
  have MD := Lib.hid (made_mk (c := c) ((RH.out.below BE1).more BE1.size) hln)
  clear RH hln hd hd0 hx hy bd
  generalize l.length = n0 at *
  go_upto_region 3 with (go_at_call 31; refine MD.out.mono ?_; rintro e w2 ⟨s, P, A2, c2, rfl, hk⟩; have MK := Lib.hid hk; clear MD hk)
  have BE := Lib.hid (BE1.trans (MK.out.bel.mono BE1.size))
  have T2 := Lib.hid ((MK.out.bel.block _ (Bx.lt T0')).trans T0')
  have T3 := Lib.hid ((MK.out.bel.block _ (Bx.lt T1')).trans T1')
  have QB : Hid (∀ V, Below w2.heap.size w2 V → (V.cell? ⟨w.heap.size, 0, none⟩ = some (.int .i64 q0) ∧ V.cell? ⟨w.heap.size, 1, none⟩ = some (.int .i64 q1)) ∧ (V.cell? ⟨w.heap.size + 1, 0, none⟩ = some (.int .i64 x) ∧ V.cell? ⟨w.heap.size + 1, 1, none⟩ = some (.int .i64 y) ∧ V.cell? ⟨w.heap.size + 1, 2, none⟩ = some (.int .i64 d))) := Lib.hid fun V hV => ⟨(Bx.b2 ((hV.block _ (Bx.lt T2.out)).trans T2.out)).1, (Bx.b3 ((hV.block _ (Bx.lt T3.out)).trans T3.out)).1⟩
  have hmay := (MK.out.src _ (Below.refl _ _)).may
  have HG := Lib.hid (addAll_good MK.out.ok)
  have hlen : (told q0 q1 (fun b => Rc.hasR (x - d) (y - d) (x + d + 1) (y + d + 1) b.x b.y) (all (addAll P))).length = ((nears q0 q1 x y d (all (addAll P))).map Bn.id).length := by
    rw [List.length_map, nears_len]
    congr 1
    exact told_congr fun b hb => (square bx bY bd2 (hmay b hb)).symm
  have C1 : Hid (∀ V, Below w2.heap.size w2 V → Calls Try.prog 41 #[.pointer (some ⟨s, 0, none⟩), qV q0 q1, .int .i64 x, .int .i64 y, .int .i64 d] V fun e w' => ∃ A c, e = .returned (.slice A ((nears q0 q1 x y d (all (addAll P))).map Bn.id).length c) ∧ OwnI w' V.heap.size (.slice A ((nears q0 q1 x y d (all (addAll P))).map Bn.id).length c) ((nears q0 q1 x y d (all (addAll P))).map Bn.id) ∧ Below V.heap.size V w') := Lib.hid fun V hV => qnear_any (fun U hU => MK.out.src U (hV.trans (hU.mono hV.size))) q0 q1 x y d
  have C2 : Hid (∀ V, Below w2.heap.size w2 V → Calls Try.prog 39 #[.pointer (some ⟨s, 0, none⟩), qV q0 q1, .agg #[.int .i64 (x - d), .int .i64 (y - d), .int .i64 (x + d + 1), .int .i64 (y + d + 1)]] V fun e w' => ∃ A c, e = .returned (.slice A ((nears q0 q1 x y d (all (addAll P))).map Bn.id).length c) ∧ Below V.heap.size V w') := Lib.hid fun V hV => by
    refine (qwithin_any (fun U hU => MK.out.src U (hV.trans (hU.mono hV.size))) q0 q1 (a := x - d) (b := y - d) (c := x + d + 1) (d := y + d + 1) (by unfold I; omega) (by unfold I; omega) (by unfold I; omega) (by unfold I; omega)).mono ?_
    rintro e U ⟨A', c', rfl, _, hb⟩
    exact ⟨A', c', by rw [List.length_map, hlen], hb⟩
  have GT : Hid (∀ V, Below w2.heap.size w2 V → ∀ k1 k2 k3, Calls Try.prog 17 #[.pointer (some ⟨s, 0, none⟩), .agg #[.int .i64 k1, .int .i64 k2, .int .i64 k3]] V fun e U => e = .returned (cgetV (addAll P) (k1, k2, k3)) ∧ Below V.heap.size V U) := Lib.hid fun V hV k1 k2 k3 => by
    obtain ⟨F, hC⟩ := (MK.out.own.below hV).one.cs
    exact get_any hC k1 k2 k3
  have w1' : IntKind.i64.wrap (x - d) = x - d := IntWalk.i64_in _ (by omega)
  have w2' : IntKind.i64.wrap (y - d) = y - d := IntWalk.i64_in _ (by omega)
  have w3' : IntKind.i64.wrap (x + d) = x + d := IntWalk.i64_in _ (by omega)
  have w4' : IntKind.i64.wrap (y + d) = y + d := IntWalk.i64_in _ (by omega)
  have w5' : IntKind.i64.wrap (x + d + 1) = x + d + 1 := IntWalk.i64_in _ (by omega)
  have w6' : IntKind.i64.wrap (y + d + 1) = y + d + 1 := IntWalk.i64_in _ (by omega)
  have NM : Hid (∀ (i : Nat) (b : Bn), (nears q0 q1 x y d (all (addAll P)))[i]? = some b → b ∈ all (addAll P) ∧ Rc.far b.x b.y x y ≤ d ∧ ∀ (j : Nat) (e : Bn), i < j → (nears q0 q1 x y d (all (addAll P)))[j]? = some e → Rc.far b.x b.y x y ≤ Rc.far e.x e.y x y) := Lib.hid fun i b hb => ⟨(nears_mem (List.mem_of_getElem? hb)).1, (nears_mem (List.mem_of_getElem? hb)).2, fun j e hij he => nears_rise hb he hij⟩
  have hfew : (nears q0 q1 x y d (all (addAll P))).length ≤ 100 := by
    rw [nears_len]
    exact Nat.le_trans (told_le _ _ _ _) (by rw [total_all, total_addAll MK.out.ok.may]; exact Nat.le_trans MK.out.few (by decide))
  clear hlen hmay T0' T1' BE1 T2 T3 MK
  generalize hN : nears q0 q1 x y d (all (addAll P)) = N at *
  clear hN
  generalize hNI : N.map Bn.id = NI at *
  have hNL : NI.length = N.length := by rw [← hNI, List.length_map]
  obtain ⟨⟨k0, k1⟩, ⟨k2, k3, k4⟩⟩ := QB.out w2 (Below.refl _ _)
  have nn : ((NI.length : Int) != (NI.length : Int)) = false := by simp
  have HNI := Lib.hid hNI
  have HNL := Lib.hid hNL
  clear hNI hNL
  go_upto_region 9 with (first
    | (go_at_call 41; refine (C1.out _ (Below.refl _ _)).mono ?_; rintro e w3 ⟨A3, c3, rfl, o3, b3⟩; clear C1 k0 k1 k2 k3 k4; obtain ⟨⟨k0, k1⟩, ⟨k2, k3, k4⟩⟩ := QB.out w3 b3)
    | (go_at_call 39; refine (C2.out _ b3).mono ?_; rintro e w4 ⟨A4, c4, rfl, b4⟩; clear C2))
  have b24 := b3.trans (b4.mono b3.size)
  have RN := Lib.hid fun V (hV : Below w4.heap.size w4 V) => (o3.below b4).below hV
  have BE4 := Lib.hid (BE.out.trans (b24.mono BE.out.size))
  have QB4 := Lib.hid fun V (hV : Below w4.heap.size w4 V) => (QB.out V (b24.trans (hV.mono b24.size))).2
  have GT4 := Lib.hid fun V (hV : Below w4.heap.size w4 V) k1 k2 k3 => GT.out V (b24.trans (hV.mono b24.size)) k1 k2 k3
  have HF := Lib.hid fun x' y' V => rfar_all x y x' y' V
  have hNI4 : (NI.length : Int) ≤ 100 := by have := HNL.out; omega
  clear k0 k1 k2 k3 k4 o3 b3 b4 b24 QB GT BE w1' w2' w3' w4' w5' w6' nn
  go_loopw [11, 12] (fun lx ix wr => ∃ (i : Nat) (lv : Int), i ≤ NI.length ∧ ix = .int .i64 i ∧ lx = .int .i64 lv ∧ Hid (Below w4.heap.size w4 wr) ∧ Hid (∀ (j : Nat) (e : Bn), i ≤ j → N[j]? = some e → lv ≤ Rc.far e.x e.y x y)) (fun lx ix _ => NI.length - (intOf ix).toNat)
  case atStart => exact ⟨0, 0, Nat.zero_le _, rfl, rfl, Lib.hid (Below.refl _ _), Lib.hid fun j e _ _ => far_nonneg _ _ _ _⟩
  case round =>
    obtain ⟨i, lv, hi, rfl, rfl, HB, HS⟩ := hrel
    by_cases hil : i < NI.length
    · have t1 : (i : Int) < (NI.length : Int) := by omega
      obtain ⟨b, hb⟩ : ∃ b, N[i]? = some b := ⟨_, List.getElem?_eq_getElem (by have := HNL.out; omega)⟩
      have hbi : NI[i]? = some b.id := by rw [← HNI.out, List.getElem?_map, hb]; rfl
      obtain ⟨gx, ox, rfl, -, ⟨x0, x1, x2⟩, -⟩ := owni_at (RN.out wr HB.out) hbi
      obtain ⟨hba, hbd, hbr⟩ := NM.out i b hb
      obtain ⟨m, r, -, hf, hg, -⟩ := find_all HG.out hba
      have GX : Hid (∀ V, Below w4.heap.size w4 V → Calls Try.prog 17 #[.pointer (some ⟨s, 0, none⟩), .agg #[.int .i64 b.s, .int .i64 b.i, .int .i64 b.g]] V fun e U => e = .returned (.tuple #[b.val, .bool true]) ∧ Below V.heap.size V U) := Lib.hid fun V hV => by
        have := GT4.out V hV b.s b.i b.g
        unfold cgetV at this
        rw [show (b.s, b.i, b.g) = b.id from rfl, hf] at this
        simp only [hg] at this
        exact this
      have hlv := HS.out i b (Nat.le_refl _) hb
      have NS : Hid (∀ (j : Nat) (e : Bn), i + 1 ≤ j → N[j]? = some e → Rc.far b.x b.y x y ≤ Rc.far e.x e.y x y) := Lib.hid fun j e hj he => hbr j e hj he
      have FB := Lib.hid fun V => HF.out b.x b.y V
      rw [far_comm] at FB
      obtain ⟨f, hf'⟩ : ∃ f, f = Rc.far b.x b.y x y := ⟨_, rfl⟩
      rw [← hf'] at FB NS hlv hbd
      have e1 : decide (f < lv) = false := decide_eq_false (by omega)
      have e2 : decide (f > d) = false := decide_eq_false (by omega)
      have HBr : Hid (∀ V, Below wr.heap.size wr V → Below w4.heap.size w4 V) := Lib.hid fun V hV => HB.out.trans (hV.mono HB.out.size)
      have QBr : Hid (∀ V, Below wr.heap.size wr V → V.cell? ⟨w.heap.size + 1, 0, none⟩ = some (.int .i64 x) ∧ V.cell? ⟨w.heap.size + 1, 1, none⟩ = some (.int .i64 y) ∧ V.cell? ⟨w.heap.size + 1, 2, none⟩ = some (.int .i64 d)) := Lib.hid fun V hV => QB4.out V (HBr.out V hV)
      clear hb hbi hba hbd hbr hf hg hlv hf' HS RN NM HG GT4 HF HNI HNL AW
      obtain ⟨xs, xi, xg, xm, xx, xY, xvx, xvy, xh, xp, xl⟩ := b
      simp only [Bn.id, Bn.val] at *
      go_wp2_with (first
        | (go_at_call 17; refine (GX.out _ HB.out).mono ?_; rintro e w5 ⟨rfl, b5⟩; have B5 := b5.trans ((bel1 w5 (.cells #[.int .i64 xs, .int .i64 xi, .int .i64 xg, .int .i64 xm, .int .i64 xx, .int .i64 xY, .int .i64 xvx, .int .i64 xvy, .int .i64 xh, .int .i64 xp, .int .i64 xl] BTY)).mono b5.size); obtain ⟨m0, m1, m2⟩ := QBr.out _ B5; obtain ⟨⟨k0, k1, k2, k3, k4, k5, k6, k7, k8, k9, k10⟩, _⟩ := Bx.b11 (at1 w5 (.cells #[.int .i64 xs, .int .i64 xi, .int .i64 xg, .int .i64 xm, .int .i64 xx, .int .i64 xY, .int .i64 xvx, .int .i64 xvy, .int .i64 xh, .int .i64 xp, .int .i64 xl] BTY)); clear GX b5)
        | (go_at_call 46; refine (FB.out _).mono ?_; rintro e w6 ⟨rfl, rfl⟩; clear FB))
      go_roundw
      case rel => exact ⟨i + 1, f, by omega, by go_num, rfl, Lib.hid (HBr.out _ B5), NS⟩
      case measure => simp [intOf]; omega
    · obtain rfl : i = NI.length := by omega
      have t1 : ¬ (NI.length : Int) < (NI.length : Int) := by omega
      clear RN NM HG GT4 HF HS
      go_wp2_with (go_at_call 30; refine (AW.out _).mono ?_; rintro e w8 ⟨rfl, b8⟩; clear AW)
      go_ret
      exact ⟨rfl, BE4.out.trans ((HB.out.trans (b8.mono HB.out.size)).mono BE4.out.size)⟩
end Go.Proofs.Ytgmgenggboicnaa
