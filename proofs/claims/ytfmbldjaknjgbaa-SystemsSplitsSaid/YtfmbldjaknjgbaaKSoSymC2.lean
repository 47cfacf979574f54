/- The library's symMergeCmpFunc, over a row of one's own: both rows have more. Written by wip/tools/gensym.py. -/
import Derived.Test.YtfmbldjaknjgbaaKSoB
import Derived.BigRegion
namespace Go.Proofs.Ytfmbldjaknjgbaa
open Go.RowKit Pz Go.Shelf
set_option linter.unusedVariables false
variable {κ : Bn → K3} {fn : Nat} {cap : Array Value}

set_option maxHeartbeats 16000000 in
set_option maxRecDepth 100000 in
theorem symc2_any {n0 : Nat} (IH : SymAt κ fn cap n0) {B : Nat} {A : Option Addr} {N c : Nat} {P X Y Q : List Bn} {w : World} (h : Rs B A N c (P ++ (X ++ (Y ++ Q))) w w) (hN : N ≤ 1000000) (hBw : B ≤ w.heap.size) (HC : CmpAt κ fn cap B w) (hX : 1 < X.length) (hY : 1 < Y.length) (sX : Srt κ X) (sY : Srt κ Y) {a m b : Nat} (ha : P.length = a) (hm : a + X.length = m) (hb : m + Y.length = b) (hn0 : X.length + Y.length ≤ n0 + 1) (hmm : ¬ (a + b) / 2 < m) :
    Calls Try.prog 89 #[.slice A N c, .int .i64 (a : Int), .int .i64 (m : Int), .int .i64 (b : Int), .func (.func fn) #[] cap] w fun e w' => e = .returned (.tuple #[]) ∧ ∃ Z, Srt κ Z ∧ Pz.Alike κ Z (X ++ Y) ∧ Rs B A N c (P ++ (Z ++ Q)) w w' := by
  have hlen := h.len
  simp only [List.length_append] at hlen
  have bN : b ≤ N := by omega
  have b6 : b ≤ 1000000 := by omega
  obtain ⟨x1, hx1⟩ : ∃ x, (P ++ (X ++ (Y ++ Q)))[a]? = some x := ⟨_, List.getElem?_eq_getElem (by simp only [List.length_append]; omega)⟩
  obtain ⟨g0, o0, rfl, _⟩ := h.get hx1
  clear hx1
  have H0 := Lib.hid h
  obtain ⟨mid, hmid⟩ : ∃ mid, mid = (a + b) / 2 := ⟨_, rfl⟩
  obtain ⟨n, hn⟩ : ∃ n, n = mid + m := ⟨_, rfl⟩
  obtain ⟨p, hp⟩ : ∃ p, n = p + 1 := ⟨n - 1, by omega⟩
  have emid : ((a : Int) + (b : Int)) / 2 = (mid : Int) := by omega
  obtain ⟨lo, hi, hcase⟩ : ∃ lo hi, (mid < m ∧ lo = n - b ∧ hi = mid) ∨ (¬ mid < m ∧ lo = a ∧ hi = m) := by
    by_cases hc : mid < m
    · exact ⟨_, _, .inl ⟨hc, rfl, rfl⟩⟩
    · exact ⟨_, _, .inr ⟨hc, rfl, rfl⟩⟩
  have B1 : a ≤ lo := by rcases hcase with ⟨_, _, _⟩ | ⟨_, _, _⟩ <;> omega
  have B2 : lo ≤ hi := by rcases hcase with ⟨_, _, _⟩ | ⟨_, _, _⟩ <;> omega
  have B3 : hi ≤ m := by rcases hcase with ⟨_, _, _⟩ | ⟨_, _, _⟩ <;> omega
  have B4 : hi ≤ mid := by rcases hcase with ⟨_, _, _⟩ | ⟨_, _, _⟩ <;> omega
  have B5 : n ≤ lo + b := by rcases hcase with ⟨_, _, _⟩ | ⟨_, _, _⟩ <;> omega
  have PB : Hid (∀ h, lo ≤ h → h < hi → p - h < N ∧ h < N ∧ h ≤ p) := Lib.hid fun h h1 h2 => by omega
  have TAIL : Hid (STail κ (P ++ (X ++ (Y ++ Q))) X Y a m n p lo hi) := Lib.hid (stail ha hm hb sX sY hX hY hmid hn hp hcase B1 B2 B3 B4 B5)
  have REST : Hid (SRest κ fn cap B g0 o0 N c P X Y Q (P ++ (X ++ (Y ++ Q))) w a m b n mid lo hi) := Lib.hid (srest IH hN hBw HC sX sY ha hm hb hn0 hX hY hlen hmid hn hcase B1 B2 B3 B4 B5)
  have w1 : IntKind.i64.wrap ((m : Int) - (a : Int)) = (X.length : Int) := by rw [IntWalk.i64_in _ (by omega)]; omega
  have w1' : ((X.length : Int) == 1) = false := beq_eq_false_iff_ne.2 (by omega)
  have w2 : IntKind.i64.wrap ((b : Int) - (m : Int)) = (Y.length : Int) := by rw [IntWalk.i64_in _ (by omega)]; omega
  have w2' : ((Y.length : Int) == 1) = false := beq_eq_false_iff_ne.2 (by omega)
  have w3 : IntKind.i64.wrap ((mid : Int) + (m : Int)) = (n : Int) := by rw [IntWalk.i64_in _ (by omega)]; omega
  have w4 : IntKind.i64.wrap ((n : Int) - 1) = (p : Int) := by rw [IntWalk.i64_in _ (by omega)]; omega
  have n6 : n ≤ 2000000 := by omega
  have pn : p < n := by omega
  have m6 : mid ≤ 1000000 := by omega
  have nlo : Hid (∀ s, s ≤ hi → s ≤ n) := Lib.hid fun s h => by omega
  clear sX sY IH ha hm hb
  generalize hD : (P ++ (X ++ (Y ++ Q))) = D at *
  generalize hlx : X.length = lx at *
  generalize hly : Y.length = ly at *
  clear hlx hly hD hlen h hX hY hn0
  have hBB := Lib.hid hBw
  have EG := HC.ent
  have HLS := Lib.hid HC
  clear HC
  rcases hcase with ⟨hcm, elo, ehi⟩ | ⟨hcm, elo, ehi⟩
  · exfalso; omega
  · have t0 : ¬ (m : Int) > (mid : Int) := by omega
    replace hmid := Lib.hid hmid
    replace hn := Lib.hid hn
    replace hp := Lib.hid hp
    replace elo := Lib.hid elo
    replace ehi := Lib.hid ehi
    skip
    go_enter Try.func89, Try.ntmps89
    go_upto_region 33 with fail
    go_loopw [20, 21] (fun ix jx wr => ∃ i j : Nat, ix = .int .i64 i ∧ jx = .int .i64 j ∧ lo ≤ i ∧ i ≤ j ∧ j ≤ hi ∧ Hid (Rs B (some ⟨g0, o0, none⟩) N c D w wr) ∧ Hid (i = lo ∨ (lo < i ∧ Ls κ D (p - (i - 1)) ((i - 1)) false)) ∧ Hid (j = hi ∨ (j < hi ∧ Ls κ D (p - j) (j) true))) (fun ix jx _ => (intOf jx).toNat - (intOf ix).toNat)
    case atStart => exact ⟨lo, hi, (by rw [elo.out]), (by rw [ehi.out]), Nat.le_refl _, B2, Nat.le_refl _, H0, Lib.hid (.inl rfl), Lib.hid (.inl rfl)⟩
    case round =>
      obtain ⟨i, j, rfl, rfl, hlo, hij, hhi, HR, HL, HH⟩ := hrel
      clear H0
      by_cases hlt : i < j
      · as_aux_lemma =>
        have t1 : (i : Int) < (j : Int) := by omega
        obtain ⟨h, hh⟩ : ∃ h, h = (i + j) / 2 := ⟨_, rfl⟩
        have eh : ((i : Int) + (j : Int)) / 2 = (h : Int) := by omega
        have h1 : i ≤ h := by omega
        have h2 : h < j := by omega
        clear hh
        have hl2 := HR.out.len
        obtain ⟨q1, q2, q3⟩ := PB.out h (by omega) (by omega)
        obtain ⟨x, hx⟩ : ∃ x, D[p - h]? = some x := ⟨_, List.getElem?_eq_getElem (by omega)⟩
        obtain ⟨y, hy⟩ : ∃ y, D[h]? = some y := ⟨_, List.getElem?_eq_getElem (by omega)⟩
        have NL : Hid (before (κ x) (κ y) = false → h + 1 = lo ∨ (lo < h + 1 ∧ Ls κ D (p - (h + 1 - 1)) ((h + 1 - 1)) false)) := Lib.hid fun hb => .inr ⟨by omega, x, y, by first | exact hx | (rw [Nat.add_sub_cancel]; exact hx), by first | exact hy | (rw [Nat.add_sub_cancel]; exact hy), hb⟩
        have NR : Hid (before (κ x) (κ y) = true → h = hi ∨ (h < hi ∧ Ls κ D (p - h) (h) true)) := Lib.hid fun hb => .inr ⟨by omega, x, y, hx, hy, hb⟩
        obtain ⟨ph, hph⟩ : ∃ ph, ph = p - h := ⟨_, rfl⟩
        have wq : IntKind.i64.wrap ((p : Int) - (h : Int)) = (ph : Int) := by rw [IntWalk.i64_in _ (by omega)]; omega
        have lp : (ph : Int) < (N : Int) := by omega
        have lh : (h : Int) < (N : Int) := by omega
        rw [← hph] at hx
        replace hph := Lib.hid hph
        have LESS : Hid (∀ p : Lat grows wr, Calls Try.prog fn (#[x.val, y.val] ++ cap) p.W fun e w' => e = .returned (.int .i64 (cmpB (κ x) (κ y))) ∧ Below p.W.heap.size p.W w') := Lib.hid fun p => HLS.out.less x y p.W (HR.out.bel.trans ((lat_below p).mono (Nat.le_trans hBB.out HR.out.bel.size)))
        have CL := cmp_lt (κ x) (κ y)
        generalize cmpB (κ x) (κ y) = r at *
        generalize before (κ x) (κ y) = bf at *
        have hroom := HR.out.room (k := p - h) (by omega)
        obtain ⟨g, o, e, px⟩ := HR.out.get hx
        cases e
        obtain ⟨g', o', e, py⟩ := HR.out.get hy
        cases e
        clear hx hy hl2
        obtain ⟨xs, xi, xg, xm, xx, xy, xvx, xvy, xh, xp, xl⟩ := x
        obtain ⟨ys, yi, yg, ym, yx, yy, yvx, yvy, yh, yp, yl⟩ := y
        simp only [Bn.val] at *
        have c0 := fun p => (px p).1
        have e0 := fun p => (py p).1
        have c1 := fun p => (px p).2.1
        have e1 := fun p => (py p).2.1
        have c2 := fun p => (px p).2.2.1
        have e2 := fun p => (py p).2.2.1
        have c3 := fun p => (px p).2.2.2.1
        have e3 := fun p => (py p).2.2.2.1
        have c4 := fun p => (px p).2.2.2.2.1
        have e4 := fun p => (py p).2.2.2.2.1
        have c5 := fun p => (px p).2.2.2.2.2.1
        have e5 := fun p => (py p).2.2.2.2.2.1
        have c6 := fun p => (px p).2.2.2.2.2.2.1
        have e6 := fun p => (py p).2.2.2.2.2.2.1
        have c7 := fun p => (px p).2.2.2.2.2.2.2.1
        have e7 := fun p => (py p).2.2.2.2.2.2.2.1
        have c8 := fun p => (px p).2.2.2.2.2.2.2.2.1
        have e8 := fun p => (py p).2.2.2.2.2.2.2.2.1
        have c9 := fun p => (px p).2.2.2.2.2.2.2.2.2.1
        have e9 := fun p => (py p).2.2.2.2.2.2.2.2.2.1
        have c10 := fun p => (px p).2.2.2.2.2.2.2.2.2.2
        have e10 := fun p => (py p).2.2.2.2.2.2.2.2.2.2
        clear px py
        have HL2 := HL
        have HH2 := HH
        clear HL HH TAIL
        go_upto_region 35 with fail
        refine Og.grow 14 (by kernel_rfl) (by kernel_rfl) fun hc hf => ?_
        clear hc hf
        simp only [List.take_succ_cons, List.take_zero, List.drop_succ_cons, List.drop_zero]
        iterate 11 (refine Og.det [] rfl (fun J hJ => ?_); go_simp; refine hJ _ _ ?_; clear hJ J)
        refine Og.det [] rfl (fun J hJ => ?_)
        go_simp
        with_reducible refine ⟨_, fun p => Og.lays (LESS.out p), hJ _ _ ?_⟩
        clear hJ J
        iterate 2 (refine Og.det [] rfl (fun J hJ => ?_); go_simp; refine hJ _ _ ?_; clear hJ J)
        refine Og.fin fun W hW => ?_
        simp only [Og.opened_nil]
        clear c0 c1 c2 c3 c4 c5 c6 c7 c8 c9 c10 e0 e1 e2 e3 e4 e5 e6 e7 e8 e9 e10 LESS
        replace HR := Lib.hid (HR.out.grown (Nat.le_of_lt hroom) hW)
        clear hW
        cases bf with
        | false =>
          have NX := Lib.hid (NL.out rfl)
          clear NL NR
          go_wp2
          go_roundw
          case rel => exact ⟨h + 1, j, by go_num, rfl, by omega, by omega, hhi, HR, NX, HH2⟩
          case measure => simp [intOf]; omega
        | true =>
          have NX := Lib.hid (NR.out rfl)
          clear NL NR
          go_wp2
          go_roundw
          case rel => exact ⟨i, h, rfl, rfl, hlo, h1, by omega, HR, HL2, NX⟩
          case measure => simp [intOf]; omega
      · have e : j = i := by omega
        subst e
        have t1 : ¬ (j : Int) < (j : Int) := by omega
        obtain ⟨X1, X2, Y1, Y2, eX, eY, l1, l2, k1, k2⟩ := TAIL.out j hlo hhi HL.out HH.out
        obtain ⟨RT, ST, R1, E1, R2⟩ := REST.out j X1 X2 Y1 Y2 hlo hhi eX eY l1 l2 k1 k2
        clear REST TAIL eX eY l1 l2 k1 k2 HL HH PB
        have jn := nlo.out j hhi
        obtain ⟨e, he⟩ : ∃ e, e = n - j := ⟨_, rfl⟩
        rw [← he] at RT ST R2
        replace RT := Lib.hid RT
        replace ST := Lib.hid ST
        replace R1 := Lib.hid R1
        replace E1 := Lib.hid E1
        replace R2 := Lib.hid R2
        have w6 : IntKind.i64.wrap ((n : Int) - (j : Int)) = (e : Int) := by rw [IntWalk.i64_in _ (by omega)]; omega
        replace he := Lib.hid he
        clear jn nlo
        go_upto_region 39 with fail
        go_cut [185] (fun v wx => v = .bool (decide (j < m ∧ m < e)) ∧ wx = wr)
        case first =>
         as_aux_lemma =>
          by_cases g1 : j < m
          · have t3 : (j : Int) < (m : Int) := by omega
            by_cases g2 : m < e
            · have t4 : (m : Int) < (e : Int) := by omega
              go_wp2
              go_meet
              exact ⟨by rw [decide_eq_true (And.intro g1 g2)], rfl⟩
            · have t4 : ¬ (m : Int) < (e : Int) := by omega
              go_wp2
              go_meet
              exact ⟨by rw [decide_eq_false (fun h : j < m ∧ m < e => g2 h.2)], rfl⟩
          · have t3 : ¬ (j : Int) < (m : Int) := by omega
            go_wp2
            go_meet
            exact ⟨by rw [decide_eq_false (fun h : j < m ∧ m < e => g1 h.1)], rfl⟩
        obtain ⟨hv, hw⟩ := hcut
        subst hv hw
        have G1 : Hid (decide (j < m ∧ m < e) = true → j < m ∧ m < e) := Lib.hid of_decide_eq_true
        have G2 : Hid (decide (j < m ∧ m < e) = false → ¬ (j < m ∧ m < e)) := Lib.hid of_decide_eq_false
        generalize decide (j < m ∧ m < e) = dd at *
        go_upto_if 185 with fail
        go_cut [] (fun wx => Rs B (some ⟨g0, o0, none⟩) N c (P ++ (X1 ++ (Y1 ++ (X2 ++ (Y2 ++ Q))))) w wx)
        case first =>
         as_aux_lemma =>
          cases dd with
          | false =>
            have er := ST.out (G2.out rfl)
            have HF : Hid (Rs B (some ⟨g0, o0, none⟩) N c (P ++ (X1 ++ (Y1 ++ (X2 ++ (Y2 ++ Q))))) w wc) := Lib.hid (by rw [← er]; exact HR.out)
            clear er ST RT R1 E1 R2 G1 G2
            go_wp2
            go_meet
            exact HF.out
          | true =>
            have q := G1.out rfl
            have CA := Lib.hid (RT.out wc q.1 q.2 HR.out)
            clear q ST RT R1 E1 R2 G1 G2
            go_wp2_with (go_at_call 91; with_reducible refine (CA.out).mono ?_; rintro e w' ⟨rfl, hs⟩; replace hs := Lib.hid hs)
            go_meet
            exact hs.out
        clear HR G1 G2 RT ST
        have HR := Lib.hid hcut
        clear hcut
        go_upto_region 41 with fail
        go_cut [199] (fun v wx => v = .bool (decide (a < j ∧ j < mid)) ∧ wx = wc)
        case first =>
         as_aux_lemma =>
          by_cases g1 : a < j
          · have t3 : (a : Int) < (j : Int) := by omega
            by_cases g2 : j < mid
            · have t4 : (j : Int) < (mid : Int) := by omega
              go_wp2
              go_meet
              exact ⟨by rw [decide_eq_true (And.intro g1 g2)], rfl⟩
            · have t4 : ¬ (j : Int) < (mid : Int) := by omega
              go_wp2
              go_meet
              exact ⟨by rw [decide_eq_false (fun h : a < j ∧ j < mid => g2 h.2)], rfl⟩
          · have t3 : ¬ (a : Int) < (j : Int) := by omega
            go_wp2
            go_meet
            exact ⟨by rw [decide_eq_false (fun h : a < j ∧ j < mid => g1 h.1)], rfl⟩
        obtain ⟨hv, hw⟩ := hcut
        subst hv hw
        have G1 : Hid (decide (a < j ∧ j < mid) = true → a < j ∧ j < mid) := Lib.hid of_decide_eq_true
        have G2 : Hid (decide (a < j ∧ j < mid) = false → ¬ (a < j ∧ j < mid)) := Lib.hid of_decide_eq_false
        generalize decide (a < j ∧ j < mid) = dd at *
        go_upto_if 199 with fail
        go_cut [] (fun wx => ∃ Z, Srt κ Z ∧ Pz.Alike κ Z (X1 ++ Y1) ∧ Rs B (some ⟨g0, o0, none⟩) N c (P ++ (Z ++ (X2 ++ (Y2 ++ Q)))) w wx)
        case first =>
         as_aux_lemma =>
          cases dd with
          | false =>
            have HF := Lib.hid (E1.out wc (G2.out rfl) HR.out)
            clear R1 E1 R2 G1 G2
            go_wp2
            go_meet
            exact HF.out
          | true =>
            have q := G1.out rfl
            have CA := Lib.hid (R1.out wc q.1 q.2 HR.out)
            clear q R1 E1 R2 G1 G2
            go_wp2_with (go_at_call 89; with_reducible refine (CA.out).mono ?_; rintro e w' ⟨rfl, hs⟩; replace hs := Lib.hid hs)
            go_meet
            exact hs.out
        clear HR G1 G2 R1 E1
        obtain ⟨Z, z1, z2, HR⟩ := hcut
        replace HR := Lib.hid HR
        obtain ⟨R3, E3⟩ := R2.out Z z1 z2
        replace R3 := Lib.hid R3
        replace E3 := Lib.hid E3
        clear z1 z2 R2
        by_cases g1 : mid < e ∧ e < b
        · as_aux_lemma =>
          have t3 : (mid : Int) < (e : Int) := by omega
          have t4 : (e : Int) < (b : Int) := by omega
          have CA := Lib.hid (R3.out wc g1.1 g1.2 HR.out)
          clear R3 E3 g1
          go_wp2_with (go_at_call 89; with_reducible refine (CA.out).mono ?_; rintro e w' ⟨rfl, hs⟩; replace hs := Lib.hid hs)
          go_end0
          exact ⟨rfl, hs.out⟩
        · as_aux_lemma =>
          have HF := Lib.hid (E3.out wc g1 HR.out)
          clear R3 E3
          by_cases g2 : mid < e
          · have t3 : (mid : Int) < (e : Int) := by omega
            have t4 : ¬ (e : Int) < (b : Int) := by omega
            clear g1
            go_wp2
            go_end0
            exact ⟨rfl, HF.out⟩
          · have t3 : ¬ (mid : Int) < (e : Int) := by omega
            clear g1
            go_wp2
            go_end0
            exact ⟨rfl, HF.out⟩
end Go.Proofs.Ytfmbldjaknjgbaa
