/- SyTk, SyHt, SyHR, SySame, in one text. -/
import Derived.Test.YtfmbldjaknjgbaaKSyA
import Derived.Test.YtfmbldjaknjgbaaKSp
import Derived.Test.YtfmbldjaknjgbaaKPz
import Derived.Test.YtfmbldjaknjgbaaKRc
import Derived.Deep.DeepCutAuto
import Derived.Test.YtfmbldjaknjgbaaKSoRef
import Derived.Test.YtfmbldjaknjgbaaKRw
import Derived.BigQuiet
namespace Go.Proofs.Ytfmbldjaknjgbaa
open Go.RowKit Pz Sp
set_option linter.unusedVariables false
set_option linter.unusedSimpArgs false

set_option maxHeartbeats 4000000 in
set_option maxRecDepth 100000 in
theorem rtakes_any {w : World} {A : Option Addr} {c : Nat} {l : List Bn} (R : RdB w w.heap.size A l) (hl : l.length ≤ 1000) (hF : ∀ x ∈ l, Fit x.m) (qs qi qg qm qx qy qvx qvy qh qp ql r s : Int) (hs : -1073741824 ≤ s ∧ s ≤ 1073741824) :
    Calls Try.prog 39 #[.agg #[.int .i64 qs, .int .i64 qi, .int .i64 qg, .int .i64 qm, .int .i64 qx, .int .i64 qy, .int .i64 qvx, .int .i64 qvy, .int .i64 qh, .int .i64 qp, .int .i64 ql], .slice A l.length c, .int .i64 r, .int .i64 s] w fun e w' => e = .returned (.int .i64 (Sy.takes ⟨qs, qi, qg, qm, qx, qy, qvx, qvy, qh, qp, ql⟩ r s l)) ∧ Below w.heap.size w w' := by
  have H0 : Hid (Sep w [box w.heap.size (.cells #[.int .i64 qs, .int .i64 qi, .int .i64 qg, .int .i64 qm, .int .i64 qx, .int .i64 qy, .int .i64 qvx, .int .i64 qvy, .int .i64 qh, .int .i64 qp, .int .i64 ql] 34)] (w.alloc (.cells #[.int .i64 qs, .int .i64 qi, .int .i64 qg, .int .i64 qm, .int .i64 qx, .int .i64 qy, .int .i64 qvx, .int .i64 qvy, .int .i64 qh, .int .i64 qp, .int .i64 ql] 34))) := Lib.hid (sep_box (sep_new w) _)
  have RD := Lib.hid fun V (hV : Below w.heap.size w V) => R.below hV
  have FX0 : Hid (∀ x ∈ l, Fit x.m) := Lib.hid hF
  have TB := Lib.hid fun j => Sy.takes_bd ⟨qs, qi, qg, qm, qx, qy, qvx, qvy, qh, qp, ql⟩ r (l.take j) s hs
  have TS : Hid (∀ (j : Nat) (hj : j < l.length), Sy.takes ⟨qs, qi, qg, qm, qx, qy, qvx, qvy, qh, qp, ql⟩ r s (l.take (j + 1)) = if Sy.meets ⟨qs, qi, qg, qm, qx, qy, qvx, qvy, qh, qp, ql⟩ r l[j] then Rc.clamp (Sy.takes ⟨qs, qi, qg, qm, qx, qy, qvx, qvy, qh, qp, ql⟩ r s (l.take j) + Rc.clamp l[j].p) else Sy.takes ⟨qs, qi, qg, qm, qx, qy, qvx, qvy, qh, qp, ql⟩ r s (l.take j)) := Lib.hid fun j hj => Sy.takes_take s (List.getElem?_eq_getElem hj)
  have TE : Hid (Sy.takes ⟨qs, qi, qg, qm, qx, qy, qvx, qvy, qh, qp, ql⟩ r s (l.take l.length) = Sy.takes ⟨qs, qi, qg, qm, qx, qy, qvx, qvy, qh, qp, ql⟩ r s l) := Lib.hid (by rw [List.take_length])
  have TZ : Hid (s = Sy.takes ⟨qs, qi, qg, qm, qx, qy, qvx, qvy, qh, qp, ql⟩ r s (l.take 0)) := Lib.hid rfl
  have hl6 : (l.length : Int) ≤ 1000 := by omega
  clear R hl hF hs
  go_enter Try.func39, Try.ntmps39
  go_upto_region 1 with fail
  generalize w.alloc (.cells #[.int .i64 qs, .int .i64 qi, .int .i64 qg, .int .i64 qm, .int .i64 qx, .int .i64 qy, .int .i64 qvx, .int .i64 qvy, .int .i64 qh, .int .i64 qp, .int .i64 ql] 34) = w0 at *
  go_wp2
  go_loopw [3, 9] (fun v i wr => ∃ j : Nat, j ≤ l.length ∧ v = .int .i64 (Sy.takes ⟨qs, qi, qg, qm, qx, qy, qvx, qvy, qh, qp, ql⟩ r s (l.take j)) ∧ i = .int .i64 j ∧ Hid (Sep w [box w.heap.size (.cells #[.int .i64 qs, .int .i64 qi, .int .i64 qg, .int .i64 qm, .int .i64 qx, .int .i64 qy, .int .i64 qvx, .int .i64 qvy, .int .i64 qh, .int .i64 qp, .int .i64 ql] 34)] wr)) (fun v i _ => l.length - (intOf i).toNat)
  case atStart => exact ⟨0, Nat.zero_le _, by rw [← TZ.out], rfl, H0⟩
  case round =>
    obtain ⟨j, hj, rfl, rfl, HP⟩ := hrel
    clear H0 TZ
    by_cases hjn : j < l.length
    · have q1 : (j : Int) < (l.length : Int) := by omega
      obtain ⟨g, o, rfl, _, KC⟩ := RD.out wr HP.out.bel j _ (List.getElem?_eq_getElem hjn)
      have HN : Hid (Sep w [box w.heap.size (.cells #[.int .i64 qs, .int .i64 qi, .int .i64 qg, .int .i64 qm, .int .i64 qx, .int .i64 qy, .int .i64 qvx, .int .i64 qvy, .int .i64 qh, .int .i64 qp, .int .i64 ql] 34)] (wr.alloc (.cells #[.int .i64 l[j].s, .int .i64 l[j].i, .int .i64 l[j].g, .int .i64 l[j].m, .int .i64 l[j].x, .int .i64 l[j].y, .int .i64 l[j].vx, .int .i64 l[j].vy, .int .i64 l[j].h, .int .i64 l[j].p, .int .i64 l[j].l] 34))) := Lib.hid (HP.out.below (bel1 wr _))
      have T1 := (Bx.b11 (at1 wr (.cells #[.int .i64 l[j].s, .int .i64 l[j].i, .int .i64 l[j].g, .int .i64 l[j].m, .int .i64 l[j].x, .int .i64 l[j].y, .int .i64 l[j].vx, .int .i64 l[j].vy, .int .i64 l[j].h, .int .i64 l[j].p, .int .i64 l[j].l] 34))).1
      have B1 := (Bx.b11 (HN.out.held 0 rfl)).1
      have BX : Hid (∀ W, Calls Try.prog 38 #[.int .i64 l[j].m, .int .i64 8] W fun e w' => e = .returned (.bool (bitB l[j].m 3)) ∧ W = w') := Lib.hid fun W => bit_any _ (FX0.out _ (List.getElem_mem hjn)) 3 (by decide) W
      have FX := Lib.hid fun W => rfar_all qx qy l[j].x l[j].y W
      have C1 := Lib.hid fun W => rclamp_all l[j].p W
      have hS1 := Lib.hid (TS.out j hjn)
      have bd := TB.out j
      have bc := Sy.clamp_bd l[j].p
      have EQ := fun V => eq_id 9998 l[j].s l[j].i l[j].g qs qi qg V
      have hme : Sy.meets ⟨qs, qi, qg, qm, qx, qy, qvx, qvy, qh, qp, ql⟩ r l[j] = ((!((l[j].s == qs) && ((l[j].i == qi) && (l[j].g == qg))) && bitB l[j].m 3) && decide (Rc.far qx qy l[j].x l[j].y ≤ r)) := by
        unfold Sy.meets
        congr 2
        simp only [Bn.id, ne_eq, Prod.mk.injEq]
        rw [Bool.eq_iff_iff]
        simp
      rw [hme] at hS1
      clear hme RD FX0 TB TS TE HP
      obtain ⟨k0, k1, k2, k3, k4, k5, k6, k7, k8, k9, k10⟩ := KC
      obtain ⟨m0, m1, m2, m3, m4, m5, m6, m7, m8, m9, m10⟩ := T1
      obtain ⟨n0, n1, n2, n3, n4, n5, n6, n7, n8, n9, n10⟩ := B1
      generalize hSj : Sy.takes ⟨qs, qi, qg, qm, qx, qy, qvx, qvy, qh, qp, ql⟩ r s (l.take (j + 1)) = S1 at *
      generalize Sy.takes ⟨qs, qi, qg, qm, qx, qy, qvx, qvy, qh, qp, ql⟩ r s (l.take j) = S0 at *
      generalize ((l[j].s == qs) && ((l[j].i == qi) && (l[j].g == qg))) = same at *
      generalize bitB l[j].m 3 = bit at *
      generalize Rc.far qx qy l[j].x l[j].y = d at *
      generalize Rc.clamp l[j].p = cp at *
      have C2 := Lib.hid fun W => rclamp_all (S0 + cp) W
      have wr1 : IntKind.i64.wrap (S0 + cp) = S0 + cp := IntWalk.i64_in _ ⟨by omega, by omega⟩
      generalize l[j].s = y0 at *
      generalize l[j].i = y1 at *
      generalize l[j].g = y2 at *
      generalize l[j].m = y3 at *
      generalize l[j].x = y4 at *
      generalize l[j].y = y5 at *
      generalize l[j].vx = y6 at *
      generalize l[j].vy = y7 at *
      generalize l[j].h = y8 at *
      generalize l[j].p = y9 at *
      generalize l[j].l = y10 at *
      simp at EQ
      cases same with
      | true =>
        have hv : S1 = S0 := by have := hS1.out; simpa using this
        replace hSj := Lib.hid hSj
        clear hS1 BX FX C1 C2
        have hS1 := Lib.hid (hSj.out.trans hv)
        go_wp2
        go_roundw
        case rel => exact ⟨j + 1, by omega, by rw [hS1.out], by go_num, HN⟩
        case measure => simp [intOf]; omega
      | false =>
        cases bit with
        | false =>
          have hv : S1 = S0 := by have := hS1.out; simpa using this
          replace hSj := Lib.hid hSj
          clear hS1 FX C1 C2
          have hS1 := Lib.hid (hSj.out.trans hv)
          go_wp2_with (first
            | (go_at_call 38; refine (BX.out _).mono ?_; rintro e w4 ⟨rfl, rfl⟩; clear BX))
          go_roundw
          case rel => exact ⟨j + 1, by omega, by rw [hS1.out], by go_num, HN⟩
          case measure => simp [intOf]; omega
        | true =>
          by_cases hd : d ≤ r
          · have hv : S1 = Rc.clamp (S0 + cp) := by have := hS1.out; simpa [hd] using this
            replace hSj := Lib.hid hSj
            clear hS1
            have hS1 := Lib.hid (hSj.out.trans hv)
            go_wp2_with (first
              | (go_at_call 38; refine (BX.out _).mono ?_; rintro e w4 ⟨rfl, rfl⟩; clear BX)
              | (go_at_call 71; refine (FX.out _).mono ?_; rintro e w5 ⟨rfl, rfl⟩; clear FX)
              | (go_at_call 49; refine (C1.out _).mono ?_; rintro e w6 ⟨rfl, rfl⟩; clear C1)
              | (go_at_call 49; refine (C2.out _).mono ?_; rintro e w7 ⟨rfl, rfl⟩; clear C2))
            go_roundw
            case rel => exact ⟨j + 1, by omega, by rw [hS1.out], by go_num, HN⟩
            case measure => simp [intOf]; omega
          · have hv : S1 = S0 := by have := hS1.out; simpa [hd] using this
            replace hSj := Lib.hid hSj
            clear hS1 C1 C2
            have hS1 := Lib.hid (hSj.out.trans hv)
            go_wp2_with (first
              | (go_at_call 38; refine (BX.out _).mono ?_; rintro e w4 ⟨rfl, rfl⟩; clear BX)
              | (go_at_call 71; refine (FX.out _).mono ?_; rintro e w5 ⟨rfl, rfl⟩; clear FX))
            go_roundw
            case rel => exact ⟨j + 1, by omega, by rw [hS1.out], by go_num, HN⟩
            case measure => simp [intOf]; omega
    · obtain rfl : j = l.length := by omega
      have q1 : ¬ (l.length : Int) < (l.length : Int) := by omega
      have hb := Lib.hid HP.out.bel
      clear RD FX0 TB TS HP
      rw [TE.out]
      go_wp2
      go_ret
      exact ⟨rfl, hb.out⟩
end Go.Proofs.Ytfmbldjaknjgbaa
namespace Go.Proofs.Ytfmbldjaknjgbaa
open Go.RowKit Pz Sp
set_option linter.unusedVariables false
set_option linter.unusedSimpArgs false

abbrev HK := (Int × Int × Int) × Int
abbrev htE (x : HK) : List Value := [.int .i64 x.1.1, .int .i64 x.1.2.1, .int .i64 x.1.2.2, .int .i64 x.2]
abbrev OwnH (W : World) (B : Nat) (v : Value) (l : List HK) : Prop := Rw htE 63 4 W B v l
theorem htE_len (x : HK) : (htE x).length = 4 := rfl
theorem htE_one (x : HK) : ∀ u ∈ htE x, u.oneCell' = true := by
  intro u hu
  simp only [htE, List.mem_cons, List.not_mem_nil, or_false] at hu
  rcases hu with rfl | rfl | rfl | rfl <;> rfl
theorem hit_info : (Try.prog.info? 63).map (fun i => (i.zero, i.size, i.bytes)) = some (some (.agg #[.int .i64 0, .int .i64 0, .int .i64 0, .int .i64 0]), 4, 32) := by kernel_rfl
theorem b_hit (a b c d : Int) (V : World) : (Instr.build 63 #[(0, .agg #[.int .i64 a, .int .i64 b, .int .i64 c]), (1, .int .i64 d)]).run Try.prog V = .ok (.agg #[.int .i64 a, .int .i64 b, .int .i64 c, .int .i64 d]) V := by kernel_rfl
theorem b_hits (a b c d : Int) (V : World) : (Instr.buildSlice 25 1 #[(0, .agg #[.int .i64 a, .int .i64 b, .int .i64 c, .int .i64 d])]).run Try.prog V = .ok (.slice (some ⟨V.heap.size, 0, none⟩) 1 1) (V.alloc (.cells #[.int .i64 a, .int .i64 b, .int .i64 c, .int .i64 d] 63)) := by kernel_rfl
theorem hit_at {W : World} {B c n : Nat} {A : Option Addr} {l : List HK} (h : OwnH W B (.slice A n c) l) {j : Nat} {x : HK} (hk : l[j]? = some x) : ∃ g o, A = some ⟨g, o, none⟩ ∧ g < W.heap.size ∧ (W.cell? ⟨g, o + j * 4, none⟩ = some (.int .i64 x.1.1) ∧ W.cell? ⟨g, o + j * 4 + 1, none⟩ = some (.int .i64 x.1.2.1) ∧ W.cell? ⟨g, o + j * 4 + 2, none⟩ = some (.int .i64 x.1.2.2) ∧ W.cell? ⟨g, o + j * 4 + 3, none⟩ = some (.int .i64 x.2)) := by
  obtain ⟨g, o, c', e, hB, hg, hc⟩ := h.at_ hk
  cases e
  exact ⟨g, o, rfl, hg, (hc 0 _ rfl).1, (hc 1 _ rfl).1, (hc 2 _ rfl).1, (hc 3 _ rfl).1⟩
section
variable {w W V : World} {L : List Piece}
/-- a hit more -/
theorem hit_push {v : Value} {xs : List HK} (h : Sep w (row htE 63 4 v xs :: L) W) (x : HK) (hn : xs.length + 1 ≤ 1000000) :
    ∃ A' c' V, (Builtin.append_ #[25, 25] 25 #[v, .slice (some ⟨W.heap.size, 0, none⟩) 1 1]).run Try.prog (W.alloc (.cells #[.int .i64 x.1.1, .int .i64 x.1.2.1, .int .i64 x.1.2.2, .int .i64 x.2] 63)) = .ok (.slice A' (xs.length + 1) c') V ∧ Sep w (row htE 63 4 (.slice A' (xs.length + 1) c') (xs ++ [x]) :: L) V := by
  obtain ⟨G, ⟨h1, h2⟩, _, next⟩ := h.one
  obtain ⟨v', V, hr, ho, hg, hv, _⟩ := app_x (enc := htE) (T := 63) (s := 4) (t := 25) Try.underlying25 hit_info rfl (by decide) htE_len htE_one h1 (Nat.zero_le _) x hn (by decide) 25
  obtain ⟨A', c', rfl⟩ := ho.form
  have el : (xs ++ [x]).length = xs.length + 1 := by simp
  rw [el] at hr ho hv
  exact ⟨A', c', V, hr, next V (row htE 63 4 _ (xs ++ [x])) (fun k => (Value.slice A' (xs.length + 1) c').ownBlock = some k) ⟨hg.os, hg.tape, hg.output, hg.size, fun k hk hn => hg.block k hk fun e => hn ((h2 k).2 e.symm)⟩ ⟨ho, fun k => Iff.rfl⟩ fun k hk => (hv k hk).imp (fun e => (h2 k).2 e) id⟩
end
theorem fm_take {α β : Type} (f : α → Option β) {l : List α} {j : Nat} (hj : j < l.length) : (l.take (j + 1)).filterMap f = (l.take j).filterMap f ++ (f l[j]).toList := by
  rw [List.take_add_one, List.getElem?_eq_getElem hj, List.filterMap_append]
  cases h : f l[j] <;> simp [h]
end Go.Proofs.Ytfmbldjaknjgbaa
namespace Go.Proofs.Ytfmbldjaknjgbaa
open Go.RowKit Pz Sp
set_option linter.unusedVariables false
set_option linter.unusedSimpArgs false

theorem sort_len (κ : Bn → K3) (l : List Bn) : (sortL κ l).length = l.length := by rw [← sortP_all]; exact sortP_len l _ (Nat.le_refl _)
set_option maxHeartbeats 4000000 in
set_option maxRecDepth 100000 in
theorem rhits_any {w : World} {A A2 : Option Addr} {c c2 : Nat} {own others : List Bn} (R : RdB w w.heap.size A own) (R2 : RdB w w.heap.size A2 others) (hl : own.length ≤ 1000) (hl2 : others.length ≤ 1000) (hF : ∀ x ∈ own, Fit x.m) (hF2 : ∀ x ∈ others, Fit x.m) (r : Int) :
    Calls Try.prog 14 #[.int .i64 r, .slice A own.length c, .slice A2 others.length c2] w fun e w' => ∃ A' c', e = .returned (.slice A' (Sy.hits r own others).length c') ∧ OwnH w' w.heap.size (.slice A' (Sy.hits r own others).length c') (Sy.hits r own others) ∧ Below w.heap.size w w' := by
  obtain ⟨SL, hSL⟩ : ∃ SL, SL = sortL Bn.id own := ⟨_, rfl⟩
  have hn : SL.length = own.length := by rw [hSL, sort_len]
  have hmem : ∀ x ∈ SL, x ∈ own := fun x hx => (sortL_srt own).2.mem (by rw [← hSL]; exact hx)
  have SO : Hid (Calls Try.prog 37 #[.slice A own.length c] w fun e V => ∃ As cs, e = .returned (.slice As SL.length cs) ∧ OwnB V w.heap.size (.slice As SL.length cs) SL ∧ Below w.heap.size w V) := Lib.hid ((rsorted_any R hl).mono fun e V ⟨⟨As, cs, e1, e2⟩, e3⟩ => ⟨As, cs, by rw [hn]; exact e1, by rw [hn, hSL]; exact e2, e3⟩)
  have FX : Hid (∀ x ∈ SL, Fit x.m) := Lib.hid fun x hx => hF x (hmem x hx)
  have T1 : Hid (∀ V, Below w.heap.size w V → ∀ x : Bn, Calls Try.prog 39 #[x.val, .slice A own.length c, .int .i64 r, .int .i64 0] V fun e V' => e = .returned (.int .i64 (Sy.takes x r 0 own)) ∧ Below V.heap.size V V') := Lib.hid fun V hV x => rtakes_any ((R.below hV).more hV.size) hl hF x.s x.i x.g x.m x.x x.y x.vx x.vy x.h x.p x.l r 0 (by decide)
  have T2 : Hid (∀ V, Below w.heap.size w V → ∀ (x : Bn) (s : Int), -1073741824 ≤ s ∧ s ≤ 1073741824 → Calls Try.prog 39 #[x.val, .slice A2 others.length c2, .int .i64 r, .int .i64 s] V fun e V' => e = .returned (.int .i64 (Sy.takes x r s others)) ∧ Below V.heap.size V V') := Lib.hid fun V hV x s hs => rtakes_any ((R2.below hV).more hV.size) hl2 hF2 x.s x.i x.g x.m x.x x.y x.vx x.vy x.h x.p x.l r s hs
  have BD : Hid (∀ x : Bn, -1073741824 ≤ Sy.takes x r 0 own ∧ Sy.takes x r 0 own ≤ 1073741824) := Lib.hid fun x => Sy.takes_bd x r own 0 (by decide)
  have EH : Hid (Sy.hits r own others = (SL.take SL.length).filterMap (Sy.hitOf r own others)) := Lib.hid (by rw [List.take_length, hSL]; rfl)
  have hl6 : (SL.length : Int) ≤ 1000 := by omega
  have hl7 : SL.length ≤ 1000 := by omega
  clear R R2 hF hF2 hmem hSL hn hl hl2
  go_enter Try.func14, Try.ntmps14
  go_wp2_with (go_at_call 37; refine SO.out.mono ?_; rintro e w1 ⟨As, cs, rfl, o1, b1⟩; clear SO)
  have H0 : Hid (Sep w [row htE 63 4 (.slice none (0 : Nat) 0) ((SL.take 0).filterMap (Sy.hitOf r own others)), rowB (.slice As SL.length cs) SL] w1) := Lib.hid (row_none htE 63 4 (sep_row (sep_new w) b1 o1))
  clear o1 b1
  go_loopw [7, 9] (fun v i wr => ∃ j A' m c', j ≤ SL.length ∧ m = ((SL.take j).filterMap (Sy.hitOf r own others)).length ∧ v = .slice A' m c' ∧ i = .int .i64 j ∧ Hid (Sep w [row htE 63 4 (.slice A' m c') ((SL.take j).filterMap (Sy.hitOf r own others)), rowB (.slice As SL.length cs) SL] wr)) (fun v i _ => SL.length - (intOf i).toNat)
  case atStart => exact ⟨0, none, 0, 0, Nat.zero_le _, rfl, rfl, rfl, H0⟩
  case round =>
    obtain ⟨j, A', m, c', hj, hm, rfl, rfl, HP⟩ := hrel
    clear H0
    by_cases hjn : j < SL.length
    · have q1 : (j : Int) < (SL.length : Int) := by omega
      have hx := List.getElem?_eq_getElem hjn
      have HR0 := HP.out.rows 1 rfl
      obtain ⟨g, o, hA, _, _, _⟩ := own_at HR0 hx
      have KX : Hid (∀ P V, Sep w [P, rowB (.slice As SL.length cs) SL] V → V.cell? ⟨g, o + j * 11, none⟩ = some (.int .i64 SL[j].s) ∧ V.cell? ⟨g, o + j * 11 + 1, none⟩ = some (.int .i64 SL[j].i) ∧ V.cell? ⟨g, o + j * 11 + 2, none⟩ = some (.int .i64 SL[j].g) ∧ V.cell? ⟨g, o + j * 11 + 3, none⟩ = some (.int .i64 SL[j].m) ∧ V.cell? ⟨g, o + j * 11 + 4, none⟩ = some (.int .i64 SL[j].x) ∧ V.cell? ⟨g, o + j * 11 + 5, none⟩ = some (.int .i64 SL[j].y) ∧ V.cell? ⟨g, o + j * 11 + 6, none⟩ = some (.int .i64 SL[j].vx) ∧ V.cell? ⟨g, o + j * 11 + 7, none⟩ = some (.int .i64 SL[j].vy) ∧ V.cell? ⟨g, o + j * 11 + 8, none⟩ = some (.int .i64 SL[j].h) ∧ V.cell? ⟨g, o + j * 11 + 9, none⟩ = some (.int .i64 SL[j].p) ∧ V.cell? ⟨g, o + j * 11 + 10, none⟩ = some (.int .i64 SL[j].l)) := Lib.hid fun P V hV => by
        obtain ⟨g', o', e, _, h, _⟩ := own_at (hV.rows 1 rfl) hx
        rw [hA] at e
        cases e
        exact h
      subst hA
      have hmN : m ≤ 1000 := by
        rw [hm]
        have := List.length_filterMap_le (Sy.hitOf r own others) (SL.take j)
        rw [List.length_take] at this
        omega
      have BX : Hid (∀ W, Calls Try.prog 38 #[.int .i64 SL[j].m, .int .i64 4] W fun e w' => e = .returned (.bool (bitB SL[j].m 2)) ∧ W = w') := Lib.hid fun W => bit_any _ (FX.out _ (List.getElem_mem hjn)) 2 (by decide) W
      obtain ⟨P, hP⟩ : ∃ P, P = row htE 63 4 (.slice A' m c') ((SL.take j).filterMap (Sy.hitOf r own others)) := ⟨_, rfl⟩
      rw [← hP] at HP
      have TA : Hid (∀ V, Sep w [P, rowB (.slice (some ⟨g, o, none⟩) SL.length cs) SL] V → Calls Try.prog 39 #[SL[j].val, .slice A own.length c, .int .i64 r, .int .i64 0] V fun e V' => e = .returned (.int .i64 (Sy.takes SL[j] r 0 own)) ∧ Sep w [P, rowB (.slice (some ⟨g, o, none⟩) SL.length cs) SL] V') := Lib.hid fun V hV => (T1.out V hV.bel SL[j]).mono fun e V' ⟨a, b⟩ => ⟨a, hV.below b⟩
      have TB : Hid (∀ V, Sep w [P, rowB (.slice (some ⟨g, o, none⟩) SL.length cs) SL] V → Calls Try.prog 39 #[SL[j].val, .slice A2 others.length c2, .int .i64 r, .int .i64 (Sy.takes SL[j] r 0 own)] V fun e V' => e = .returned (.int .i64 (Sy.takes SL[j] r (Sy.takes SL[j] r 0 own) others)) ∧ Sep w [P, rowB (.slice (some ⟨g, o, none⟩) SL.length cs) SL] V') := Lib.hid fun V hV => (T2.out V hV.bel SL[j] _ (BD.out _)).mono fun e V' ⟨a, b⟩ => ⟨a, hV.below b⟩
      have FM := fm_take (Sy.hitOf r own others) hjn
      have PU : Hid (∀ V, Sep w [P, rowB (.slice (some ⟨g, o, none⟩) SL.length cs) SL] V → Sy.hitOf r own others SL[j] = some (SL[j].id, Sy.takes SL[j] r (Sy.takes SL[j] r 0 own) others) → ∃ A2' c2' V', (Builtin.append_ #[25, 25] 25 #[.slice A' m c', .slice (some ⟨V.heap.size, 0, none⟩) 1 1]).run Try.prog (V.alloc (.cells #[.int .i64 SL[j].s, .int .i64 SL[j].i, .int .i64 SL[j].g, .int .i64 (Sy.takes SL[j] r (Sy.takes SL[j] r 0 own) others)] 63)) = .ok (.slice A2' (m + 1) c2') V' ∧ m + 1 = ((SL.take (j + 1)).filterMap (Sy.hitOf r own others)).length ∧ Hid (Sep w [row htE 63 4 (.slice A2' (m + 1) c2') ((SL.take (j + 1)).filterMap (Sy.hitOf r own others)), rowB (.slice (some ⟨g, o, none⟩) SL.length cs) SL] V')) := Lib.hid fun V hV hh => by
        rw [hP] at hV
        rw [hh] at FM
        obtain ⟨a, b, V', h1, h2⟩ := hit_push hV (SL[j].id, Sy.takes SL[j] r (Sy.takes SL[j] r 0 own) others) (by rw [← hm]; omega)
        rw [← hm] at h1 h2
        rw [FM]
        exact ⟨a, b, V', h1, by simp [hm], Lib.hid h2⟩
      have NO : Hid (∀ V, Sep w [P, rowB (.slice (some ⟨g, o, none⟩) SL.length cs) SL] V → Sy.hitOf r own others SL[j] = none → m = ((SL.take (j + 1)).filterMap (Sy.hitOf r own others)).length ∧ Hid (Sep w [row htE 63 4 (.slice A' m c') ((SL.take (j + 1)).filterMap (Sy.hitOf r own others)), rowB (.slice (some ⟨g, o, none⟩) SL.length cs) SL] V)) := Lib.hid fun V hV hh => by
        rw [hP] at hV
        rw [hh] at FM
        simp only [Option.toList_none, List.append_nil] at FM
        rw [FM]
        exact ⟨hm, Lib.hid hV⟩
      have HO : Sy.hitOf r own others SL[j] = if bitB SL[j].m 2 = true ∧ 0 < Sy.takes SL[j] r (Sy.takes SL[j] r 0 own) others then some (SL[j].id, Sy.takes SL[j] r (Sy.takes SL[j] r 0 own) others) else none := rfl
      obtain ⟨k0, k1, k2, k3, k4, k5, k6, k7, k8, k9, k10⟩ := KX.out _ _ HP.out
      clear FM hm hP T1 T2 BD FX EH hx HR0
      simp only [Bn.val] at TA TB
      generalize Sy.takes SL[j] r (Sy.takes SL[j] r 0 own) others = s2 at *
      generalize Sy.takes SL[j] r 0 own = s1 at *
      generalize bitB SL[j].m 2 = bit at *
      replace HO := Lib.hid HO
      cases bit with
      | false =>
        have hno : Sy.hitOf r own others SL[j] = none := by rw [HO.out, if_neg (by simp)]
        obtain ⟨hm2, HN⟩ := NO.out _ HP.out hno
        have hm3 := Lib.hid hm2
        clear NO PU HO hno TA TB hm2
        go_wp2_with (go_at_call 38; refine (BX.out _).mono ?_; rintro e w3 ⟨rfl, rfl⟩; clear BX)
        go_roundw
        case rel => exact ⟨j + 1, _, _, _, by omega, hm3.out, rfl, by go_num, HN⟩
        case measure => simp [intOf]; omega
      | true =>
        by_cases h0 : 0 < s2
        · have hyes : Sy.hitOf r own others SL[j] = some (SL[j].id, s2) := by rw [HO.out, if_pos ⟨rfl, h0⟩]
          have t1 : s2 > 0 := h0
          have PV : Hid (∀ V, Sep w [P, rowB (.slice (some ⟨g, o, none⟩) SL.length cs) SL] V → ∃ A2' c2' V', (Builtin.append_ #[25, 25] 25 #[.slice A' m c', .slice (some ⟨V.heap.size, 0, none⟩) 1 1]).run Try.prog (V.alloc (.cells #[.int .i64 SL[j].s, .int .i64 SL[j].i, .int .i64 SL[j].g, .int .i64 s2] 63)) = .ok (.slice A2' (m + 1) c2') V' ∧ m + 1 = ((SL.take (j + 1)).filterMap (Sy.hitOf r own others)).length ∧ Hid (Sep w [row htE 63 4 (.slice A2' (m + 1) c2') ((SL.take (j + 1)).filterMap (Sy.hitOf r own others)), rowB (.slice (some ⟨g, o, none⟩) SL.length cs) SL] V')) := Lib.hid fun V hV => PU.out V hV hyes
          have bh := fun V => b_hit SL[j].s SL[j].i SL[j].g s2 V
          have bhs := fun V => b_hits SL[j].s SL[j].i SL[j].g s2 V
          clear NO PU HO hyes
          generalize SL[j].s = y0 at *
          generalize SL[j].i = y1 at *
          generalize SL[j].g = y2 at *
          generalize SL[j].m = y3 at *
          generalize SL[j].x = y4 at *
          generalize SL[j].y = y5 at *
          generalize SL[j].vx = y6 at *
          generalize SL[j].vy = y7 at *
          generalize SL[j].h = y8 at *
          generalize SL[j].p = y9 at *
          generalize SL[j].l = y10 at *
          go_wp2_with (first
            | (go_at_call 38; refine (BX.out _).mono ?_; rintro e w3 ⟨rfl, rfl⟩; clear BX)
            | (go_at_call 39; refine (TA.out _ HP.out).mono ?_; rintro e w4 ⟨rfl, h4⟩; clear TA HP k0 k1 k2 k3 k4 k5 k6 k7 k8 k9 k10; obtain ⟨k0, k1, k2, k3, k4, k5, k6, k7, k8, k9, k10⟩ := KX.out _ _ h4)
            | (go_at_call 39; refine (TB.out _ h4).mono ?_; rintro e w5 ⟨rfl, h5⟩; clear TB h4 k0 k1 k2 k3 k4 k5 k6 k7 k8 k9 k10; obtain ⟨k0, k1, k2, k3, k4, k5, k6, k7, k8, k9, k10⟩ := KX.out _ _ h5; obtain ⟨A2', c2', V', hr, hm2, HN⟩ := PV.out _ h5; have HR := Lib.hid hr; have hm3 := Lib.hid hm2; clear PV hr hm2 h5)
            | (at_builtin; refine wpList_append _ rfl (.tmp 43) (.tmp 51) _ _ rfl _ _ rfl rfl _ _ HR.out ?_))
          go_roundw
          case rel => exact ⟨j + 1, _, _, _, by omega, hm3.out, rfl, by go_num, HN⟩
          case measure => simp [intOf]; omega
        · have hno : Sy.hitOf r own others SL[j] = none := by rw [HO.out, if_neg (fun h => h0 h.2)]
          have t1 : ¬ s2 > 0 := h0
          have NV : Hid (∀ V, Sep w [P, rowB (.slice (some ⟨g, o, none⟩) SL.length cs) SL] V → m = ((SL.take (j + 1)).filterMap (Sy.hitOf r own others)).length ∧ Hid (Sep w [row htE 63 4 (.slice A' m c') ((SL.take (j + 1)).filterMap (Sy.hitOf r own others)), rowB (.slice (some ⟨g, o, none⟩) SL.length cs) SL] V)) := Lib.hid fun V hV => NO.out V hV hno
          clear NO PU HO hno
          generalize SL[j].s = y0 at *
          generalize SL[j].i = y1 at *
          generalize SL[j].g = y2 at *
          generalize SL[j].m = y3 at *
          generalize SL[j].x = y4 at *
          generalize SL[j].y = y5 at *
          generalize SL[j].vx = y6 at *
          generalize SL[j].vy = y7 at *
          generalize SL[j].h = y8 at *
          generalize SL[j].p = y9 at *
          generalize SL[j].l = y10 at *
          go_wp2_with (first
            | (go_at_call 38; refine (BX.out _).mono ?_; rintro e w3 ⟨rfl, rfl⟩; clear BX)
            | (go_at_call 39; refine (TA.out _ HP.out).mono ?_; rintro e w4 ⟨rfl, h4⟩; clear TA HP k0 k1 k2 k3 k4 k5 k6 k7 k8 k9 k10; obtain ⟨k0, k1, k2, k3, k4, k5, k6, k7, k8, k9, k10⟩ := KX.out _ _ h4)
            | (go_at_call 39; refine (TB.out _ h4).mono ?_; rintro e w5 ⟨rfl, h5⟩; clear TB h4 k0 k1 k2 k3 k4 k5 k6 k7 k8 k9 k10; obtain ⟨k0, k1, k2, k3, k4, k5, k6, k7, k8, k9, k10⟩ := KX.out _ _ h5; obtain ⟨hm2, HN⟩ := NV.out _ h5; have hm3 := Lib.hid hm2; clear NV hm2 h5))
          go_roundw
          case rel => exact ⟨j + 1, _, _, _, by omega, hm3.out, rfl, by go_num, HN⟩
          case measure => simp [intOf]; omega
    · obtain rfl : j = SL.length := by omega
      have q1 : ¬ (SL.length : Int) < (SL.length : Int) := by omega
      have FIN : Hid (OwnH wr w.heap.size (.slice A' m c') (Sy.hits r own others) ∧ m = (Sy.hits r own others).length ∧ Below w.heap.size w wr) := Lib.hid (by
        rw [EH.out]
        obtain ⟨G, ⟨g1, g2⟩, g3, _⟩ := HP.out.one
        refine ⟨?_, hm, HP.out.bel⟩
        rcases g1 with h | ⟨g, off, cap, cur, e, h1, h2⟩
        · exact .inl h
        · refine .inr ⟨g, off, cap, cur, e, g3 g ((g2 g).2 (by rw [e]; rfl)), h2⟩)
      have hm3 := Lib.hid hm
      clear FX T1 T2 BD EH HP hm
      go_wp2
      go_ret
      obtain ⟨f1, f2, f3⟩ := FIN.out
      rw [← f2]
      exact ⟨_, _, rfl, f1, f3⟩
end Go.Proofs.Ytfmbldjaknjgbaa
namespace Go.Proofs.Ytfmbldjaknjgbaa
open Go.RowKit Pz Sp
set_option linter.unusedVariables false
set_option linter.unusedSimpArgs false

set_option maxHeartbeats 4000000 in
set_option maxRecDepth 100000 in
theorem eq_hit (p0 p1 p2 p3 q0 q1 q2 q3 : Int) (w : World) : (Op.equalIn (9999 + 1) 63 (.agg #[.int .i64 p0, .int .i64 p1, .int .i64 p2, .int .i64 p3]) (.agg #[.int .i64 q0, .int .i64 q1, .int .i64 q2, .int .i64 q3])).run Try.prog w = .ok (((p0 == q0) && ((p1 == q1) && (p2 == q2))) && (p3 == q3)) w := by
  have u3 := Try.underlying3
  have a3 := Try.isAgg3
  have z3 := Try.sizeOf3
  have hS : Try.prog.underlying 63 = some (.struct (Try.prog.fieldsOf 63)) := by kernel_rfl
  have hp : Try.prog.stoodInHeld 63 = false := by kernel_rfl
  have E := fun W => eq_id 9997 p0 p1 p2 q0 q1 q2 W
  have u23 := Try.underlying32
  have a23 := Try.isAgg32
  have z23 := Try.sizeOf32
  generalize ((p0 == q0) && ((p1 == q1) && (p2 == q2))) = b at *
  rw [run_equalIn_agg w _ 63 _ _ hS hp]
  simp only [Program.fieldsOf, Try.underlying63]
  go_simp
  cases b with
  | false => rfl
  | true => exact ite_end
set_option maxHeartbeats 16000000 in
set_option maxRecDepth 100000 in
/-- two rows of the same hits -/
theorem rsameh_yes {w : World} {A1 A2 : Option Addr} {c1 c2 B1 B2 : Nat} {l : List HK} (R1 : OwnH w B1 (.slice A1 l.length c1) l) (R2 : OwnH w B2 (.slice A2 l.length c2) l) (hl : l.length ≤ 1000000) :
    Calls Try.prog 12 #[.slice A1 l.length c1, .slice A2 l.length c2] w fun e w' => e = .returned (.bool true) ∧ Below w.heap.size w w' := by
  have AT : Hid (∀ W, Below w.heap.size w W → ∀ j (hj : j < l.length), ∃ g o g2 o2, A1 = some ⟨g, o, none⟩ ∧ A2 = some ⟨g2, o2, none⟩ ∧ (W.cell? ⟨g, o + j * 4, none⟩ = some (.int .i64 l[j].1.1) ∧ W.cell? ⟨g, o + j * 4 + 1, none⟩ = some (.int .i64 l[j].1.2.1) ∧ W.cell? ⟨g, o + j * 4 + 2, none⟩ = some (.int .i64 l[j].1.2.2) ∧ W.cell? ⟨g, o + j * 4 + 3, none⟩ = some (.int .i64 l[j].2)) ∧ (W.cell? ⟨g2, o2 + j * 4, none⟩ = some (.int .i64 l[j].1.1) ∧ W.cell? ⟨g2, o2 + j * 4 + 1, none⟩ = some (.int .i64 l[j].1.2.1) ∧ W.cell? ⟨g2, o2 + j * 4 + 2, none⟩ = some (.int .i64 l[j].1.2.2) ∧ W.cell? ⟨g2, o2 + j * 4 + 3, none⟩ = some (.int .i64 l[j].2)) ∧
      ∀ V : World, (Op.equalIn 10000 63 (.agg #[.int .i64 l[j].1.1, .int .i64 l[j].1.2.1, .int .i64 l[j].1.2.2, .int .i64 l[j].2]) (.agg #[.int .i64 l[j].1.1, .int .i64 l[j].1.2.1, .int .i64 l[j].1.2.2, .int .i64 l[j].2])).run Try.prog V = .ok true V) := Lib.hid fun W hW j hj => by
    obtain ⟨g, o, e1, hg, a0, a1, a2, a3⟩ := hit_at R1 (List.getElem?_eq_getElem hj)
    obtain ⟨g2, o2, e2, hg2, b0, b1, b2, b3⟩ := hit_at R2 (List.getElem?_eq_getElem hj)
    have ca := fun k => hW.cell (p := ⟨g, k, none⟩) hg
    have cb := fun k => hW.cell (p := ⟨g2, k, none⟩) hg2
    refine ⟨g, o, g2, o2, e1, e2, ⟨(ca _).trans a0, (ca _).trans a1, (ca _).trans a2, (ca _).trans a3⟩, ⟨(cb _).trans b0, (cb _).trans b1, (cb _).trans b2, (cb _).trans b3⟩, fun V => ?_⟩
    have := eq_hit l[j].1.1 l[j].1.2.1 l[j].1.2.2 l[j].2 l[j].1.1 l[j].1.2.1 l[j].1.2.2 l[j].2 V
    simpa using this
  clear R1 R2
  have hnn : ((l.length : Int) != (l.length : Int)) = false := by simp
  have hn : (l.length : Int) ≤ 1000000 := by omega
  go_enter Try.func12, Try.ntmps12
  go_wp2
  go_loopw [5] (fun i wr => ∃ j : Nat, j ≤ l.length ∧ i = .int .i64 j ∧ Hid (Below w.heap.size w wr)) (fun i _ => l.length - (intOf i).toNat)
  case atStart => exact ⟨0, Nat.zero_le _, rfl, Lib.hid (Below.refl _ _)⟩
  case round =>
    obtain ⟨j, hj, rfl, HB⟩ := hrel
    by_cases hjn : j < l.length
    · have t1 : (j : Int) < (l.length : Int) := by omega
      obtain ⟨g, o, g2, o2, rfl, rfl, ⟨h0, h1, h2, h3⟩, ⟨m0, m1, m2, m3⟩, EQ⟩ := AT.out wr HB.out j hjn
      have NX : Hid (∀ m, Below w.heap.size w (wr.drewN m)) := Lib.hid fun m => Below.dn' HB.out m
      clear AT HB
      generalize l[j].1.1 = y0 at *
      generalize l[j].1.2.1 = y1 at *
      generalize l[j].1.2.2 = y2 at *
      generalize l[j].2 = y3 at *
      generalize l.length = n at *
      go_wp2
      go_quiet (fail)
      go_wp2
      go_roundw
      case rel => exact ⟨j + 1, by omega, by go_num, Lib.hid (NX.out _)⟩
      case measure => simp [intOf]; omega
    · obtain rfl : j = l.length := by omega
      have t1 : ¬ (l.length : Int) < (l.length : Int) := by omega
      clear AT
      generalize l.length = n at *
      go_wp2
      go_ret
      exact ⟨rfl, HB.out⟩
end Go.Proofs.Ytfmbldjaknjgbaa
