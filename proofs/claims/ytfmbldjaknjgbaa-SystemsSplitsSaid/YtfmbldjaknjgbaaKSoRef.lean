/- The document's parts: Sorted. Written by wip/tools/genso.py. -/
import Derived.Test.YtfmbldjaknjgbaaKSoA
import Derived.Test.YtfmbldjaknjgbaaKPw
import Derived.Deep.DeepCutAuto
namespace Go.Proofs.Ytfmbldjaknjgbaa
open Go.RowKit Pz
set_option linter.unusedVariables false

set_option maxHeartbeats 16000000 in
set_option maxRecDepth 100000 in
theorem rsorted_any {w : World} {A : Option Addr} {cap : Nat} {l : List Bn} (R : RdB w w.heap.size A l) (hl : l.length ≤ 1000) :
    Calls Try.prog 37 #[.slice A l.length cap] w fun e w' => (∃ A' c', e = .returned (.slice A' l.length c') ∧ OwnB w' w.heap.size (.slice A' l.length c') (sortL Bn.id l)) ∧ Below w.heap.size w w' := by
  have AT : Hid (∀ W, Below w.heap.size w W → ∀ j (hj : j < l.length), ∃ ga oa, A = some ⟨ga, oa, none⟩ ∧ (W.cell? ⟨ga, oa + j * 11, none⟩ = some (.int .i64 l[j].s) ∧ W.cell? ⟨ga, oa + j * 11 + 1, none⟩ = some (.int .i64 l[j].i) ∧ W.cell? ⟨ga, oa + j * 11 + 2, none⟩ = some (.int .i64 l[j].g) ∧ W.cell? ⟨ga, oa + j * 11 + 3, none⟩ = some (.int .i64 l[j].m) ∧ W.cell? ⟨ga, oa + j * 11 + 4, none⟩ = some (.int .i64 l[j].x) ∧ W.cell? ⟨ga, oa + j * 11 + 5, none⟩ = some (.int .i64 l[j].y) ∧ W.cell? ⟨ga, oa + j * 11 + 6, none⟩ = some (.int .i64 l[j].vx) ∧ W.cell? ⟨ga, oa + j * 11 + 7, none⟩ = some (.int .i64 l[j].vy) ∧ W.cell? ⟨ga, oa + j * 11 + 8, none⟩ = some (.int .i64 l[j].h) ∧ W.cell? ⟨ga, oa + j * 11 + 9, none⟩ = some (.int .i64 l[j].p) ∧ W.cell? ⟨ga, oa + j * 11 + 10, none⟩ = some (.int .i64 l[j].l))) := Lib.hid fun W hW j hj => by
    obtain ⟨ga, oa, e, _, k1⟩ := (R.below hW) j _ (List.getElem?_eq_getElem hj)
    exact ⟨ga, oa, e, k1⟩
  have SL : Hid (∀ i, i ≤ l.length → (sortP Bn.id l i).length = i) := Lib.hid fun i hi => sortP_len (κ := Bn.id) l i hi
  have SS : Hid (∀ i (hi : i < l.length), sortP Bn.id l (i + 1) = ins Bn.id l[i] (sortP Bn.id l i)) := Lib.hid fun i hi => sortP_succ (κ := Bn.id) hi
  have S0 : Hid (OwnB w w.heap.size (.slice none 0 0) (sortP Bn.id l 0)) := Lib.hid (by rw [sortP_zero]; exact rw_nil _ _)
  have SE : Hid (sortP Bn.id l l.length = sortL Bn.id l) := Lib.hid (sortP_all (κ := Bn.id) l)
  clear R
  go_enter Try.func37, Try.ntmps37
  go_wp2
  go_loopw [4, 3] (fun ix v wr => ∃ (i : Nat) (A3 : Option Addr) (cq : Nat), i ≤ l.length ∧ ix = .int .i64 i ∧ v = .slice A3 i cq ∧ Hid (OwnB wr w.heap.size (.slice A3 i cq) (sortP Bn.id l i)) ∧ Hid (Below w.heap.size w wr)) (fun ix _ _ => l.length - (intOf ix).toNat)
  case atStart => exact ⟨0, none, 0, Nat.zero_le _, rfl, rfl, S0, Lib.hid (Below.refl _ _)⟩
  case round =>
    obtain ⟨i, A3, cq, hi, rfl, rfl, HO, HB⟩ := hrel
    clear S0
    by_cases hil : i < l.length
    · have t1 : (i : Int) < (l.length : Int) := by omega
      obtain ⟨ga, oa, rfl, c0, c1, c2, c3, c4, c5, c6, c7, c8, c9, c10⟩ := AT.out wr HB.out i hil
      obtain ⟨v', w', HR, HO2, HB2⟩ := push_bn wr HO.out HB.out.size (by rw [SL.out i hi]; omega) l[i] 22
      have hln : (sortP Bn.id l i ++ [l[i]]).length = i + 1 := by rw [List.length_append, SL.out i hi]; rfl
      obtain ⟨A4, cr, hv⟩ := HO2.form
      obtain ⟨n1, hn1⟩ : ∃ n1, n1 = i + 1 := ⟨_, rfl⟩
      rw [hln, ← hn1] at hv
      subst hv
      have HRH := Lib.hid HR
      have HN1 := Lib.hid hn1
      have hn1' : (n1 : Int) ≤ 1001 := by omega
      have HOL : Hid (OwnB w' w.heap.size (.slice A4 n1 cr) (sortP Bn.id l i ++ [l[i]])) := Lib.hid HO2
      have HB3 := Lib.hid (HB.out.trans HB2)
      have hol := Hole.start (κ := Bn.id) l[i] (sortP Bn.id l i)
      have NXT := SS.out i hil
      have SLI := SL.out i hi
      rw [SLI] at hol
      have HH := Lib.hid hol
      have NX : Hid (∀ R k, Hole Bn.id l[i] (sortP Bn.id l i) R k → insK Bn.id l[i] (sortP Bn.id l i) k = k → R.set k l[i] = sortP Bn.id l (i + 1)) := Lib.hid fun R k h1 h2 => by rw [NXT]; exact h1.fin h2
      have HLEN : Hid (∀ R k, Hole Bn.id l[i] (sortP Bn.id l i) R k → R.length = n1) := Lib.hid fun R k h => by rw [h.len, SLI, hn1]
      have AI : Hid (∀ W, Below w.heap.size w W → W.cell? ⟨ga, oa + i * 11, none⟩ = some (.int .i64 l[i].s) ∧ W.cell? ⟨ga, oa + i * 11 + 1, none⟩ = some (.int .i64 l[i].i) ∧ W.cell? ⟨ga, oa + i * 11 + 2, none⟩ = some (.int .i64 l[i].g) ∧ W.cell? ⟨ga, oa + i * 11 + 3, none⟩ = some (.int .i64 l[i].m) ∧ W.cell? ⟨ga, oa + i * 11 + 4, none⟩ = some (.int .i64 l[i].x) ∧ W.cell? ⟨ga, oa + i * 11 + 5, none⟩ = some (.int .i64 l[i].y) ∧ W.cell? ⟨ga, oa + i * 11 + 6, none⟩ = some (.int .i64 l[i].vx) ∧ W.cell? ⟨ga, oa + i * 11 + 7, none⟩ = some (.int .i64 l[i].vy) ∧ W.cell? ⟨ga, oa + i * 11 + 8, none⟩ = some (.int .i64 l[i].h) ∧ W.cell? ⟨ga, oa + i * 11 + 9, none⟩ = some (.int .i64 l[i].p) ∧ W.cell? ⟨ga, oa + i * 11 + 10, none⟩ = some (.int .i64 l[i].l)) := Lib.hid fun W hW => by
        obtain ⟨g', o', e, k1⟩ := AT.out W hW i hil
        cases e
        exact k1
      clear HR HO2 HB2 hln hol NXT SL SS HO AT SLI SE hn1
      generalize sortP Bn.id l i = out at *
      generalize l[i] = x at *
      generalize l.length = n at *
      go_wp2_with (at_builtin; refine wpList_append _ rfl (.tmp 14) (.tmp 19) _ _ rfl _ (.slice (some ⟨_, 0, none⟩) 1 1) rfl rfl _ _ HRH.out ?_; clear HRH c0 c1 c2 c3 c4 c5 c6 c7 c8 c9 c10)
      go_loopw [5] (fun kx wr2 => ∃ (k : Nat) (R : List Bn), k ≤ i ∧ kx = .int .i64 k ∧ Hid (OwnB wr2 w.heap.size (.slice A4 n1 cr) R) ∧ Hid (Below w.heap.size w wr2) ∧ Hid (Hole Bn.id x out R k)) (fun kx _ => (intOf kx).toNat)
      case atStart => exact ⟨i, _, Nat.le_refl _, rfl, HOL, HB3, HH⟩
      case round =>
        obtain ⟨k, R, hk, rfl, HOX, HBX, HL⟩ := hrel
        clear HOL HB3 HH
        have hkn : k < n1 := by have := HN1.out; omega
        by_cases h0 : 0 < k
        · obtain ⟨k', hk'⟩ : ∃ k', k = k' + 1 := ⟨k - 1, by omega⟩
          obtain ⟨y, hy⟩ : ∃ y, R[k']? = some y := ⟨_, List.getElem?_eq_getElem (by have := HLEN.out R k HL.out; omega)⟩
          have t2 : decide ((k : Int) > 0) = true := decide_eq_true (by omega)
          have t2' : decide (0 < k) = true := decide_eq_true h0
          have ws : IntKind.i64.wrap ((k : Int) - 1) = (k' : Int) := by
            have := HN1.out
            rw [IntWalk.i64_in _ (by omega)]
            omega
          have tk : (k' : Int) < (n1 : Int) := by omega
          have tn : (k : Int) < (n1 : Int) := by omega
          have HOY := HOX.out
          rw [← HLEN.out R k HL.out] at HOY
          obtain ⟨gb, ob, rfl, hgb, _, _⟩ := own_at HOY hy
          have RB := RdB.of_own HOY
          have PB : ∀ p : Lat grows wr, Below w.heap.size w p.W := fun p => HBX.out.trans ((lat_below p).mono HBX.out.size)
          have b0' : ∀ p : Lat grows wr, p.W.cell? ⟨gb, ob + k' * 11, none⟩ = some (.int .i64 y.s) := fun p => by
            obtain ⟨g', o', e, _, h0, h1, h2, _⟩ := (RB.below (lat_below p)) k' y hy
            cases e; exact h0
          have b1' : ∀ p : Lat grows wr, p.W.cell? ⟨gb, ob + k' * 11 + 1, none⟩ = some (.int .i64 y.i) := fun p => by
            obtain ⟨g', o', e, _, h0, h1, h2, _⟩ := (RB.below (lat_below p)) k' y hy
            cases e; exact h1
          have b2' : ∀ p : Lat grows wr, p.W.cell? ⟨gb, ob + k' * 11 + 2, none⟩ = some (.int .i64 y.g) := fun p => by
            obtain ⟨g', o', e, _, h0, h1, h2, _⟩ := (RB.below (lat_below p)) k' y hy
            cases e; exact h2
          have a0' : ∀ p : Lat grows wr, p.W.cell? ⟨ga, oa + i * 11, none⟩ = some (.int .i64 x.s) := fun p => (AI.out _ (PB p)).1
          have a1' : ∀ p : Lat grows wr, p.W.cell? ⟨ga, oa + i * 11 + 1, none⟩ = some (.int .i64 x.i) := fun p => (AI.out _ (PB p)).2.1
          have a2' : ∀ p : Lat grows wr, p.W.cell? ⟨ga, oa + i * 11 + 2, none⟩ = some (.int .i64 x.g) := fun p => (AI.out _ (PB p)).2.2.1
          have BF : Hid (∀ p : Lat grows wr, Calls Try.prog 69 #[.agg #[.int .i64 x.s, .int .i64 x.i, .int .i64 x.g], .agg #[.int .i64 y.s, .int .i64 y.i, .int .i64 y.g]] p.W fun e w' => e = .returned (.bool (before x.id y.id)) ∧ Below p.W.heap.size p.W w') := Lib.hid fun p => before_any x.s x.i x.g y.s y.i y.g p.W
          have HK9 : Hid (before x.id y.id = false → insK Bn.id x out k = k) := Lib.hid fun hb => by
            have h8 := HL.out
            rw [hk'] at h8 ⊢
            exact h8.stop hy hb
          have HD9 : Hid (before x.id y.id = true → Hole Bn.id x out (R.set k y) k') := Lib.hid fun hb => by
            have h8 := HL.out
            rw [hk'] at h8 ⊢
            exact h8.down hy hb
          replace hk' := Lib.hid hk'
          generalize before x.id y.id = bf at *
          clear RB HOY hgb PB h0
          go_upto_region 7 with fail
          refine Og.grow 16 (by kernel_rfl) (by kernel_rfl) fun hc hf => ?_
          clear hc hf
          simp only [List.take_succ_cons, List.take_zero, List.drop_succ_cons, List.drop_zero]
          iterate 14 (refine Og.det [] rfl (fun J hJ => ?_); go_simp; refine hJ _ _ ?_; clear hJ J)
          refine Og.det [] rfl (fun J hJ => ?_)
          go_simp
          with_reducible refine ⟨_, fun p => Og.lays (BF.out p), hJ _ _ ?_⟩
          clear hJ J
          (refine Og.det [] rfl (fun J hJ => ?_); go_simp; refine hJ _ _ ?_; clear hJ J)
          refine Og.fin fun W hW => ?_
          simp only [Og.opened_nil]
          replace HOX := Lib.hid (HOX.out.below hW)
          replace HBX := Lib.hid (HBX.out.trans (hW.mono HBX.out.size))
          clear hW a0' a1' a2' b0' b1' b2' BF
          cases bf with
          | false =>
            have HK := Lib.hid (HK9.out rfl)
            clear HK9 HD9 HB
            obtain ⟨g, o, e0, ⟨y0, hy0, d0, d1, d2, d3, d4, d5, d6, d7, d8, d9, d10⟩, ⟨f0, f1, f2, f3, f4, f5, f6, f7, f8, f9, f10⟩, HP⟩ := row_put HOX.out (HLEN.out R k HL.out) hkn x
            cases e0
            have EQX := NX.out R k HL.out HK.out
            rw [EQX] at HP
            have HBX2 : Hid (Below w.heap.size w _) := Lib.hid (HBX.out.trans (HP.out.2.mono (Nat.le_refl _)))
            have HPO := Lib.hid HP.out.1
            obtain ⟨c0, c1, c2, c3, c4, c5, c6, c7, c8, c9, c10⟩ := AI.out W HBX.out
            clear EQX HP HOX HBX HL HK HLEN NX hy0
            generalize y0.s = q0 at *
            go_wp2
            go_roundw
            case rel => exact ⟨i + 1, _, _, by omega, by go_num, by rw [HN1.out], by have h9 := HPO.out; rw [HN1.out] at h9; exact Lib.hid h9, HBX2⟩
            case measure => simp [intOf]; omega
          | true =>
            have HD := Lib.hid (HD9.out rfl)
            have HOZ := HOX.out
            rw [← HLEN.out R k HL.out] at HOZ
            obtain ⟨gc, oc, e, _, ⟨d0, d1, d2, d3, d4, d5, d6, d7, d8, d9, d10⟩, _⟩ := own_at HOZ hy
            cases e
            obtain ⟨g, o, e, ⟨y0, hy0, c0, c1, c2, c3, c4, c5, c6, c7, c8, c9, c10⟩, ⟨f0, f1, f2, f3, f4, f5, f6, f7, f8, f9, f10⟩, HP⟩ := row_put HOX.out (HLEN.out R k HL.out) hkn y
            cases e
            have HBX2 : Hid (Below w.heap.size w _) := Lib.hid (HBX.out.trans (HP.out.2.mono (Nat.le_refl _)))
            have HPO := Lib.hid HP.out.1
            have tkk : k' < k := by have := hk'.out; omega
            have tke : k' ≤ i := by omega
            clear HP HOX HBX HL HLEN NX hy0 HK9 HD9 HB HOZ AI
            go_wp2
            go_roundw
            case rel => exact ⟨k', _, tke, by go_num, HPO, HBX2, HD⟩
            case measure => simp [intOf]; omega
        · have t2 : decide ((k : Int) > 0) = false := decide_eq_false (by omega)
          have t2' : decide (0 < k) = false := decide_eq_false h0
          have HK : Hid (insK Bn.id x out k = k) := Lib.hid (by
            have e : k = 0 := by omega
            rw [e]; rfl)
          have tn : (k : Int) < (n1 : Int) := by omega
          clear h0 HB
          go_upto_region 7 with fail
          go_quiet (fail)
          rename_i nq
          replace HOX := Lib.hid (HOX.out.below (below_dn wr nq))
          replace HBX := Lib.hid (HBX.out.trans ((below_dn wr nq).mono HBX.out.size))
          generalize wr.drewN nq = wx at *
          obtain ⟨g, o, rfl, ⟨y0, hy0, d0, d1, d2, d3, d4, d5, d6, d7, d8, d9, d10⟩, ⟨f0, f1, f2, f3, f4, f5, f6, f7, f8, f9, f10⟩, HP⟩ := row_put HOX.out (HLEN.out R k HL.out) hkn x
          have EQX := NX.out R k HL.out HK.out
          rw [EQX] at HP
          have HBX2 : Hid (Below w.heap.size w _) := Lib.hid (HBX.out.trans (HP.out.2.mono (Nat.le_refl _)))
          have HPO := Lib.hid HP.out.1
          obtain ⟨c0, c1, c2, c3, c4, c5, c6, c7, c8, c9, c10⟩ := AI.out wx HBX.out
          clear EQX HP HOX HBX HL HK HLEN NX hy0
          generalize y0.s = q0 at *
          go_wp2
          go_roundw
          case rel => exact ⟨i + 1, _, _, by omega, by go_num, by rw [HN1.out], by have h9 := HPO.out; rw [HN1.out] at h9; exact Lib.hid h9, HBX2⟩
          case measure => simp [intOf]; omega
    · obtain rfl : i = l.length := by omega
      have t1 : ¬ (l.length : Int) < (l.length : Int) := by omega
      have HF : Hid (OwnB wr w.heap.size (.slice A3 l.length cq) (sortL Bn.id l)) := Lib.hid (by rw [← SE.out]; exact HO.out)
      clear HO AT SL SS SE
      go_wp2
      go_ret
      exact ⟨⟨_, _, rfl, HF.out⟩, HB.out⟩
end Go.Proofs.Ytfmbldjaknjgbaa
