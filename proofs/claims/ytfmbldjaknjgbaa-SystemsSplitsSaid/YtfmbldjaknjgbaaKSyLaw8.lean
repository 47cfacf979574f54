/- The law SystemsSplits, walked. Written by wip/tools/gensy.py. -/
import Derived.Test.YtfmbldjaknjgbaaKSyLaw6
import Derived.Test.YtfmbldjaknjgbaaKSyC
namespace Go.Proofs.Ytfmbldjaknjgbaa
open Go.RowKit Pz Sp
set_option linter.unusedVariables false
set_option linter.unusedSimpArgs false

theorem bn_push {w W : World} {L : List Piece} {v : Value} {xs : List Bn} (h : Sep w (rowB v xs :: L) W) (x : Bn) (hn : xs.length + 1 ≤ 1000000) :
    ∃ A' c' V, (Builtin.append_ #[22, 22] 22 #[v, .slice (some ⟨W.heap.size, 0, none⟩) 1 1]).run Try.prog (W.alloc (.cells #[.int .i64 x.s, .int .i64 x.i, .int .i64 x.g, .int .i64 x.m, .int .i64 x.x, .int .i64 x.y, .int .i64 x.vx, .int .i64 x.vy, .int .i64 x.h, .int .i64 x.p, .int .i64 x.l] 34)) = .ok (.slice A' (xs.length + 1) c') V ∧ Sep w (rowB (.slice A' (xs.length + 1) c') (xs ++ [x]) :: L) V := by
  obtain ⟨G, ⟨h1, h2⟩, _, next⟩ := h.one
  obtain ⟨v', V, hr, ho, hg, hv, _⟩ := app_x (enc := bnE) (T := 34) (s := 11) (t := 22) Try.underlying22 bundle_info rfl (by decide) bnE_len bnE_one h1 (Nat.zero_le _) x hn (by decide) 22
  obtain ⟨A', c', rfl⟩ := ho.form
  have el : (xs ++ [x]).length = xs.length + 1 := by simp
  rw [el] at hr ho hv
  exact ⟨A', c', V, hr, next V (rowB _ (xs ++ [x])) (fun k => (Value.slice A' (xs.length + 1) c').ownBlock = some k) ⟨hg.os, hg.tape, hg.output, hg.size, fun k hk hn => hg.block k hk fun e => hn ((h2 k).2 e.symm)⟩ ⟨ho, fun k => Iff.rfl⟩ fun k hk => (hv k hk).imp (fun e => (h2 k).2 e) id⟩
set_option maxHeartbeats 16000000 in
set_option maxRecDepth 100000 in
theorem law_splits (K : SyCt) (w : World) (r : Int) (A : Option Addr) (c : Nat) (l : List Bn) (hc : l.length ≤ c) (hcap : c ≤ 140737488351232) (hF : ∀ x ∈ l, Fit x.m) (R : RdB w w.heap.size A l) (pick : Int) :
    Calls Try.prog 7 #[.int .i64 r, .slice A l.length c, .int .i64 pick] w fun e w' => e = .returned (.bool true) ∧ Below w.heap.size w w' := by
  have UN := Lib.hid (unlike_any R hc hcap hF)
  have K0 := Lib.hid K
  have AW := Lib.hid K.awake
  clear R hF hc hcap K
  generalize l.length = m1 at *
  go_enter Try.func7, Try.ntmps7
  go_upto_region 4 with (go_at_call 27; refine UN.out.mono ?_; rintro e w1 ⟨U, A1, d1, rfl, o1, u1, u2, b1⟩; clear UN)
  have H1 := Lib.hid (sep_row (sep_new w) b1 o1)
  replace u1 := Lib.hid u1
  clear o1 b1
  go_loopw [7, 8, 9] (fun a b i wr => ∃ (j : Nat) (P Q : List Bn), j ≤ U.length ∧ i = .int .i64 j ∧ Hid ((U.take j).Perm (P ++ Q) ∧ Sep w [rowB a P, rowB b Q, rowB (.slice A1 U.length d1) U] wr)) (fun _ _ i _ => U.length - (intOf i).toNat)
  case atStart => exact ⟨0, [], [], by omega, rfl, Lib.hid ⟨by simp, row_none bnE 34 11 (row_none bnE 34 11 H1.out)⟩⟩
  case round =>
    obtain ⟨j, P, Q, hj, rfl, HP⟩ := hrel
    clear H1
    by_cases hlt : j < U.length
    · have t1 : (j : Int) < (U.length : Int) := by omega
      have hxj := List.getElem?_eq_getElem hlt
      have hpl : P.length + Q.length = j := by
        have := HP.out.1.length_eq
        rw [List.length_take, List.length_append] at this
        omega
      obtain ⟨g, o, hA, _, z0, z1, z2, z3, z4, z5, z6, z7, z8, z9, z10⟩ := (RdB.of_own (HP.out.2.rows 2 rfl)) j _ hxj
      have TK := List.take_append_getElem hlt
      obtain ⟨Aa, ca, V1, hr1, s1⟩ := bn_push HP.out.2 U[j] (by omega)
      obtain ⟨Ab, cb, V2, hr2, s2⟩ := bn_push (HP.out.2.pull 1 rfl) U[j] (by omega)
      have NA : Hid ((U.take (j + 1)).Perm ((P ++ [U[j]]) ++ Q) ∧ Sep w [rowB (.slice Aa (P.length + 1) ca) (P ++ [U[j]]), rowB _ Q, rowB (.slice A1 U.length d1) U] V1) := Lib.hid ⟨by
        rw [← TK, List.append_assoc]
        exact (HP.out.1.append_right _).trans (by rw [List.append_assoc]; exact List.Perm.append_left _ List.perm_append_comm), s1⟩
      have NB : Hid ((U.take (j + 1)).Perm (P ++ (Q ++ [U[j]])) ∧ Sep w [rowB _ P, rowB (.slice Ab (Q.length + 1) cb) (Q ++ [U[j]]), rowB (.slice A1 U.length d1) U] V2) := Lib.hid ⟨by
        rw [← TK, ← List.append_assoc]
        exact HP.out.1.append_right _, s2.pull 1 rfl⟩
      subst hA
      clear HP hxj TK s1 s2 K0 AW u1
      generalize U[j] = b at *
      obtain ⟨qs, qi, qg, qm, qx, qy, qvx, qvy, qh, qp, ql⟩ := b
      dsimp only at z0 z1 z2 z3 z4 z5 z6 z7 z8 z9 z10 hr1 hr2
      replace hr1 := Lib.hid hr1
      replace hr2 := Lib.hid hr2
      generalize U.length = nU at *
      go_wp2_with (first
        | (at_builtin; refine wpList_append _ rfl (.tmp 29) (.tmp 34) _ _ rfl _ _ rfl rfl _ _ hr1.out ?_)
        | (at_builtin; refine wpList_append _ rfl (.tmp 36) (.tmp 41) _ _ rfl _ _ rfl rfl _ _ hr2.out ?_))
      · go_roundw
        case rel => exact ⟨j + 1, _, _, by omega, by go_num, NA⟩
        case measure => simp [intOf]; omega
      · go_roundw
        case rel => exact ⟨j + 1, _, _, by omega, by go_num, NB⟩
        case measure => simp [intOf]; omega
    · obtain rfl : j = U.length := by omega
      have t1 : ¬ ((U.length : Int) < (U.length : Int)) := by omega
      have HPp := HP.out.1
      rw [List.take_length] at HPp
      obtain ⟨Aa, ca, rfl⟩ := (HP.out.2.rows 0 rfl).form
      obtain ⟨Ab, cb, rfl⟩ := (HP.out.2.rows 1 rfl).form
      obtain ⟨SE, SL⟩ := Sy.splits (r := r) HPp (fun z hz => (u1.out z hz).1) u2
      have hpl : P.length + Q.length = U.length := by
        have := HPp.length_eq
        rw [List.length_append] at this
        omega
      have RU := Lib.hid (RdB.of_own (HP.out.2.rows 2 rfl))
      have RP := Lib.hid (RdB.of_own (HP.out.2.rows 0 rfl))
      have RQ := Lib.hid (RdB.of_own (HP.out.2.rows 1 rfl))
      have HB := Lib.hid HP.out.2.bel
      have fU : ∀ z ∈ U, Fit z.m := fun z hz => (u1.out z hz).2
      have fP : ∀ z ∈ P, Fit z.m := fun z hz => fU z (HPp.mem_iff.2 (List.mem_append_left _ hz))
      have fQ : ∀ z ∈ Q, Fit z.m := fun z hz => fU z (HPp.mem_iff.2 (List.mem_append_right _ hz))
      have HU : Hid (∀ (W : World) (A : Option Addr) (c : Nat), RdB W W.heap.size A U → Calls Try.prog 13 #[.int .i64 r, .slice A U.length c, .slice none 0 0] W fun e V => ∃ A' c', e = .returned (.slice A' (Sy.hits r U []).length c') ∧ OwnH V W.heap.size (.slice A' (Sy.hits r U []).length c') (Sy.hits r U []) ∧ Below W.heap.size W V) := Lib.hid fun W A c a => K0.out.hits W A none c 0 U [] r a (fun j z hz => by simp at hz) (by omega) (Nat.zero_le _) fU (fun z hz => by cases hz)
      have HY := Lib.hid fun (W : World) (A A' : Option Addr) (c c' : Nat) (a : RdB W W.heap.size A P) (b : RdB W W.heap.size A' Q) => K0.out.hits W A A' c c' P Q r a b (by omega) (by omega) fP fQ
      have HZ := Lib.hid fun (W : World) (A A' : Option Addr) (c c' : Nat) (a : RdB W W.heap.size A Q) (b : RdB W W.heap.size A' P) => K0.out.hits W A A' c c' Q P r a b (by omega) (by omega) fQ fP
      have hlen : ∀ a b : List Bn, a.length ≤ 60 → (Sy.hits r a b).length ≤ 60 := fun a b h => by
        have := List.length_filterMap_le (Sy.hitOf r a b) (sortL Bn.id a)
        rw [sort_len] at this
        show (List.filterMap _ _).length ≤ _
        omega
      have lX := hlen U [] u2
      have lY := hlen P Q (by omega)
      have lZ := hlen Q P (by omega)
      have bX := Sy.hits_bd (r := r) (own := U) (others := [])
      have bY := Sy.hits_bd (r := r) (own := P) (others := Q)
      have bZ := Sy.hits_bd (r := r) (own := Q) (others := P)
      clear HP HPp fU fP fQ K0 u1 hlen hpl
      generalize Sy.hits r U [] = X at *
      generalize Sy.hits r P Q = Y at *
      generalize Sy.hits r Q P = Z at *
      have SX := Lib.hid fun (W : World) (A : Option Addr) (c B : Nat) (h : OwnH W B (.slice A X.length c) X) (s i g : Int) => sum_any h (by omega) bX s i g
      have SY := Lib.hid fun (W : World) (A : Option Addr) (c B : Nat) (h : OwnH W B (.slice A Y.length c) Y) (s i g : Int) => sum_any h (by omega) bY s i g
      have SZ := Lib.hid fun (W : World) (A : Option Addr) (c B : Nat) (h : OwnH W B (.slice A Z.length c) Z) (s i g : Int) => sum_any h (by omega) bZ s i g
      have WR : Hid (∀ id, -9223372036854775808 ≤ Sy.sumH Y id + Sy.sumH Z id ∧ Sy.sumH Y id + Sy.sumH Z id ≤ 9223372036854775807) := Lib.hid fun id => by
        have y1 := Sy.sumH_bd id bY
        have z1 := Sy.sumH_bd id bZ
        omega
      have SE' := Lib.hid SE
      have w60 : IntKind.i64.wrap ((Y.length : Int) + (Z.length : Int)) = (X.length : Int) := by
        rw [SL, Int.natCast_add]
        exact IntWalk.i64_in _ ⟨by omega, by omega⟩
      have eq60 : ((X.length : Int) == (X.length : Int)) = true := by simp
      clear SE SL bX bY bZ lX lY lZ
      generalize hX : X.length = n1 at *
      generalize hY : Y.length = n2 at *
      generalize hZ : Z.length = n3 at *
      replace hX := Lib.hid hX
      replace hY := Lib.hid hY
      replace hZ := Lib.hid hZ
      go_upto_region 12 with (first
        | (go_at_call 13; refine (HU.out _ _ _ RU.out).mono ?_; rintro e w3 ⟨X1, x1, rfl, oX, b3⟩; replace RU := Lib.hid ((RU.out.below b3).more b3.size); replace RP := Lib.hid ((RP.out.below b3).more b3.size); replace RQ := Lib.hid ((RQ.out.below b3).more b3.size); replace HB := Lib.hid (HB.out.trans (b3.mono HB.out.size)); replace oX := Lib.hid oX; clear HU b3)
        | (go_at_call 13; refine (HY.out _ _ _ _ _ RP.out RQ.out).mono ?_; rintro e w4 ⟨Y1, y1, rfl, oY, b4⟩; replace RU := Lib.hid ((RU.out.below b4).more b4.size); replace RP := Lib.hid ((RP.out.below b4).more b4.size); replace RQ := Lib.hid ((RQ.out.below b4).more b4.size); replace HB := Lib.hid (HB.out.trans (b4.mono HB.out.size)); replace oX := Lib.hid (ownh_below oX.out b4); replace oY := Lib.hid oY; clear HY b4)
        | (go_at_call 13; refine (HZ.out _ _ _ _ _ RQ.out RP.out).mono ?_; rintro e w5 ⟨Z1, z1, rfl, oZ, b5⟩; replace RU := Lib.hid ((RU.out.below b5).more b5.size); replace HB := Lib.hid (HB.out.trans (b5.mono HB.out.size)); replace oX := Lib.hid (ownh_below oX.out b5); replace oY := Lib.hid (ownh_below oY.out b5); replace oZ := Lib.hid oZ; clear HZ RP RQ b5))
      go_loopw [13] (fun i wz => ∃ k : Nat, k ≤ U.length ∧ i = .int .i64 k ∧ Hid (Below w5.heap.size w5 wz)) (fun i _ => U.length - (intOf i).toNat)
      case atStart => exact ⟨0, by omega, rfl, Lib.hid (Below.refl _ _)⟩
      case round =>
        obtain ⟨k, hk, rfl, HW⟩ := hrel
        by_cases hku : k < U.length
        · have t2 : (k : Int) < (U.length : Int) := by omega
          have CC : Hid (∀ W, Below w5.heap.size w5 W → ∃ g o, A1 = some ⟨g, o, none⟩ ∧ W.cell? ⟨g, o + k * 11, none⟩ = some (.int .i64 U[k].s) ∧ W.cell? ⟨g, o + k * 11 + 1, none⟩ = some (.int .i64 U[k].i) ∧ W.cell? ⟨g, o + k * 11 + 2, none⟩ = some (.int .i64 U[k].g)) := Lib.hid fun W hW => by
            obtain ⟨g, o, e, _, a0, a1, a2, _⟩ := (RU.out.below hW) k _ (List.getElem?_eq_getElem hku)
            exact ⟨g, o, e, a0, a1, a2⟩
          generalize U[k] = b at *
          obtain ⟨qs, qi, qg, qm, qx, qy, qvx, qvy, qh, qp, ql⟩ := b
          obtain ⟨g, o, hA, _⟩ := CC.out wr HW.out
          subst hA
          have LB := Lib.hid fun p : Lat grows wr => HW.out.trans (p.h.mono HW.out.size)
          have DD : Hid (∀ p : Lat grows wr, p.W.cell? ⟨g, o + k * 11, none⟩ = some (.int .i64 qs) ∧ p.W.cell? ⟨g, o + k * 11 + 1, none⟩ = some (.int .i64 qi) ∧ p.W.cell? ⟨g, o + k * 11 + 2, none⟩ = some (.int .i64 qg)) := Lib.hid fun p => by
            obtain ⟨g', o', e, h⟩ := CC.out p.W (LB.out p)
            cases e
            exact h
          have d0 := fun p => (DD.out p).1
          have d1' := fun p => (DD.out p).2.1
          have d2 := fun p => (DD.out p).2.2
          have GX := Lib.hid fun p : Lat grows wr => SX.out p.W X1 x1 _ (ownh_below oX.out (LB.out p)) qs qi qg
          have GY := Lib.hid fun p : Lat grows wr => SY.out p.W Y1 y1 _ (ownh_below oY.out (LB.out p)) qs qi qg
          have GZ := Lib.hid fun p : Lat grows wr => SZ.out p.W Z1 z1 _ (ownh_below oZ.out (LB.out p)) qs qi qg
          have e3 := SE'.out (qs, qi, qg)
          have wr3 := WR.out (qs, qi, qg)
          rw [e3] at GX
          generalize Sy.sumH Y (qs, qi, qg) = sy at *
          generalize Sy.sumH Z (qs, qi, qg) = sz at *
          have s1 : IntKind.i64.wrap (sy + sz) = sy + sz := IntWalk.i64_in _ ⟨wr3.1, wr3.2⟩
          have ne : (sy + sz != sy + sz) = false := by simp
          have HX := Lib.hid fun W (hW : Below wr.heap.size wr W) => HW.out.trans (hW.mono HW.out.size)
          clear CC DD SX SY SZ SE' WR e3 wr3 oX oY oZ RU LB HW AW HB
          generalize U.length = nU at *
          go_upto_region 14 with fail
          refine Og.grow 23 (by kernel_rfl) (by kernel_rfl) fun hc hf => ?_
          clear hc hf
          simp only [List.take_succ_cons, List.take_zero, List.drop_succ_cons, List.drop_zero]
          iterate 23
           (refine Og.det [] rfl (fun J hJ => ?_)
            go_simp
            first
            | (with_reducible refine ⟨_, fun p => Og.lays (GX.out p), hJ _ _ ?_⟩)
            | (with_reducible refine ⟨_, fun p => Og.lays (GY.out p), hJ _ _ ?_⟩)
            | (with_reducible refine ⟨_, fun p => Og.lays (GZ.out p), hJ _ _ ?_⟩)
            | (refine hJ _ _ ?_)
            clear hJ J)
          refine Og.fin fun W hW => ?_
          simp only [Og.opened_nil]
          have HN := Lib.hid (HX.out W hW)
          clear d0 d1' d2 GX GY GZ HX hW
          go_wp2
          go_roundw
          case rel => exact ⟨k + 1, by omega, by go_num, HN⟩
          case measure => simp [intOf]; omega
        · obtain rfl : k = U.length := by omega
          have t2 : ¬ ((U.length : Int) < (U.length : Int)) := by omega
          replace HB := Lib.hid (HB.out.trans (HW.out.mono HB.out.size))
          clear SX SY SZ SE' WR oX oY oZ RU HW
          generalize U.length = nU at *
          go_wp2_with (go_at_call 16; refine (AW.out _).mono ?_; rintro e w8 ⟨rfl, b6⟩; replace HB := Lib.hid (HB.out.trans (b6.mono HB.out.size)); clear AW b6)
          go_ret
          exact ⟨rfl, HB.out⟩
end Go.Proofs.Ytfmbldjaknjgbaa
