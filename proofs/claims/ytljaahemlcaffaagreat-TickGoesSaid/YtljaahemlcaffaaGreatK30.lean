/- Entities that may be, in a world, of unlike names. Written by wip/tools/gentk.py. Commands that may be; those that begin have names that nobody has. Written by wip/tools/gentk.py. The document's parts: Same of two rows that are the same. Rows of the same names. -/
import Derived.Test.YtljaahemlcaffaaGreatK29
import Derived.Test.YtljaahemlcaffaaGreatK11
import Derived.Test.YtljaahemlcaffaaGreatK02
import Derived.Test.YtljaahemlcaffaaGreatK04
import Derived.Test.YtljaahemlcaffaaGreatK05
import Derived.Test.YtljaahemlcaffaaGreatK13
import Derived.BigQuiet
import Derived.Deep.QuietTactic
import Derived.Deep.DeepCutAuto
import Derived.Deep.LoopGhost
import Derived.Deep.CutBlock
namespace Go.Proofs.YtljaahemlcaffaaGreat
open Go.RowKit Pz Sp
set_option linter.unusedVariables false
set_option linter.unusedSimpArgs false

/-- entities that may be, in the world, of unlike names -/
structure Lv (C R S : Int) (U : List Bn) : Prop where
  un : Tk.Un U
  may : ∀ b ∈ U, Pz.may b = true
  there : ∀ b ∈ U, Zn.There C R (Zn.of C R S b.x b.y)
  fits : ∀ b ∈ U, b.Fits
theorem lv_nil (C R S : Int) : Lv C R S [] := ⟨List.nodup_nil, fun _ h => by simp at h, fun _ h => by simp at h, fun _ h => by simp at h⟩
theorem Lv.push {C R S : Int} {U : List Bn} (h : Lv C R S U) {b : Bn} (h1 : Pz.may b = true) (h2 : Zn.There C R (Zn.of C R S b.x b.y)) (h3 : b.Fits) (h4 : ∀ z ∈ U, z.id ≠ b.id) : Lv C R S (U ++ [b]) := by
  have key : ∀ {P : Bn → Prop}, (∀ z ∈ U, P z) → P b → ∀ z ∈ U ++ [b], P z := fun {P} a c z hz => by
    rcases List.mem_append.1 hz with h | h
    · exact a z h
    · rw [List.mem_singleton.1 h]; exact c
  exact ⟨Tk.un_app h.un (by simp [Tk.Un]) fun x hx y hy => by rw [List.mem_singleton.1 hy]; exact h4 x hx, key h.may h1, key h.there h2, key h.fits h3⟩
theorem into_fit {x e : Int} (h0 : 0 < e) (h1 : e ≤ 4194304) : Fit (Zn.into x e) := by unfold Fit Zn.into; omega
theorem ent_push {w W : World} {L : List Piece} {v : Value} {U : List Bn} (h : Sep w (rowB v U :: L) W) (x : Bn) (hn : U.length + 1 ≤ 1000000) :
    ∃ v' V, ((Builtin.append_ #[24, 24] 24 #[v, .slice (some ⟨W.heap.size, 0, none⟩) 1 1]).run Tryz.prog (W.alloc (.cells #[.int .i64 x.s, .int .i64 x.i, .int .i64 x.g, .int .i64 x.m, .int .i64 x.x, .int .i64 x.y, .int .i64 x.vx, .int .i64 x.vy, .int .i64 x.h, .int .i64 x.p, .int .i64 x.l] 42)) = .ok v' V) ∧ Sep w (rowB v' (U ++ [x]) :: L) V := by
  obtain ⟨G, ⟨h1, h2⟩, _, next⟩ := h.one
  obtain ⟨v', V, hr, ho, hg, hv, _⟩ := app_x (enc := bnE) (T := 42) (s := 11) (t := 24) Tryz.underlying24 bundle_info rfl (by decide) bnE_len bnE_one h1 (Nat.zero_le _) x hn (by decide) 24
  exact ⟨v', V, hr, next V (rowB v' (U ++ [x])) (fun k => v'.ownBlock = some k) ⟨hg.os, hg.tape, hg.output, hg.size, fun k hk hn => hg.block k hk fun e => hn ((h2 k).2 e.symm)⟩ ⟨ho, fun k => Iff.rfl⟩ fun k hk => (hv k hk).imp (fun e => (h2 k).2 e) id⟩
theorem lv_fin {w W : World} {L : List Piece} {v : Value} {U : List Bn} (h : Sep w (rowB v U :: L) W) : OwnB W w.heap.size v U ∧ Below w.heap.size w W := by
  obtain ⟨G, ⟨g1, g2⟩, g3, _⟩ := h.one
  refine ⟨?_, h.bel⟩
  rcases g1 with h | ⟨g, off, cap, cur, e, h1, h2⟩
  · exact .inl h
  · refine .inr ⟨g, off, cap, cur, e, g3 g ((g2 g).2 (by rw [e]; rfl)), h2⟩
set_option maxHeartbeats 8000000 in
set_option maxRecDepth 100000 in
theorem living_any {w : World} (cC cR cS cD cV cN cQ : Int) (ok : Zn.Ok cC cR cS cD cV) {A : Option Addr} {c : Nat} {l : List Bn} (R : RdB w w.heap.size A l) (hl : l.length ≤ 140737488351232) (hF : ∀ x ∈ l, x.Fits) :
    Calls Tryz.prog 11 #[.agg #[.int .i64 cC, .int .i64 cR, .int .i64 cS, .int .i64 cD, .int .i64 cV, .int .i64 cN, .int .i64 cQ], .slice A l.length c] w fun e w' => ∃ (U : List Bn) (A' : Option Addr) (c' : Nat), e = .returned (.slice A' U.length c') ∧ OwnB w' w.heap.size (.slice A' U.length c') U ∧ Lv cC cR cS U ∧ U.length ≤ 60 ∧ Below w.heap.size w w' := by
  have H0 : Hid (Sep w [box w.heap.size (.cells #[.int .i64 cC, .int .i64 cR, .int .i64 cS, .int .i64 cD, .int .i64 cV, .int .i64 cN, .int .i64 cQ] 23)] (w.alloc (.cells #[.int .i64 cC, .int .i64 cR, .int .i64 cS, .int .i64 cD, .int .i64 cV, .int .i64 cN, .int .i64 cQ] 23))) := Lib.hid (sep_box (sep_new w) _)
  have RD := Lib.hid fun V (hV : Below w.heap.size w V) => R.below hV
  have FX := Lib.hid hF
  have IN := Lib.hid fun x y W => rin_any cC cR cS cD cV cN cQ x y W ok
  have hc := Zn.side_bd (q := cC) ok.s0 ok.s1 (by have := ok.c0; omega) ok.c1
  have hr := Zn.side_bd (q := cR) ok.s0 ok.s1 (by have := ok.r0; omega) ok.r1
  have pc : 0 < cC * cS := Int.mul_pos (by have := ok.c0; omega) (by have := ok.s0; omega)
  have pr : 0 < cR * cS := Int.mul_pos (by have := ok.r0; omega) (by have := ok.s0; omega)
  have TH : Hid (∀ x y, Zn.There cC cR (Zn.of cC cR cS (Zn.into x (cC * cS)) (Zn.into y (cR * cS)))) := Lib.hid fun x y => Zn.of_in ok (Zn.into_in pc).1 (Zn.into_in pc).2 (Zn.into_in pr).1 (Zn.into_in pr).2
  have IF : Hid ((∀ x, Fit (Zn.into x (cC * cS))) ∧ ∀ y, Fit (Zn.into y (cR * cS))) := Lib.hid ⟨fun x => into_fit pc hc.2, fun y => into_fit pr hr.2⟩
  clear R hF hc hr pc pr
  go_enter Tryz.func11, Tryz.ntmps11
  go_upto_region 1 with fail
  generalize w.alloc (.cells #[.int .i64 cC, .int .i64 cR, .int .i64 cS, .int .i64 cD, .int .i64 cV, .int .i64 cN, .int .i64 cQ] 23) = w0 at *
  go_wp2
  go_loopw [5, 6] (fun v s wr => ∃ (j : Nat) (U : List Bn), j ≤ l.length ∧ j ≤ 60 ∧ s = .int .i64 j ∧ U.length ≤ j ∧ Hid (Lv cC cR cS U) ∧ Hid (Sep w [rowB v U, box w.heap.size (.cells #[.int .i64 cC, .int .i64 cR, .int .i64 cS, .int .i64 cD, .int .i64 cV, .int .i64 cN, .int .i64 cQ] 23)] wr)) (fun _ s _ => l.length - (intOf s).toNat)
  case atStart => exact ⟨0, [], by omega, by omega, rfl, by simp, Lib.hid (lv_nil _ _ _), Lib.hid (row_none bnE 42 11 H0.out)⟩
  case round =>
    clear H0
    obtain ⟨j, U, hj, hj6, rfl, hU, HL, HP⟩ := hrel
    obtain ⟨Ao, co, rfl⟩ := (HP.out.rows 0 rfl).form
    by_cases hlt : j < l.length
    · have t1 : (j : Int) < (l.length : Int) := by omega
      by_cases hlt6 : j < 60
      · have t2 : (j : Int) < 60 := by omega
        have hxj := List.getElem?_eq_getElem hlt
        obtain ⟨g, o, rfl, _, z0, z1, z2, z3, z4, z5, z6, z7, z8, z9, z10⟩ := RD.out wr HP.out.bel j _ hxj
        have fj := Lib.hid (FX.out _ (List.getElem_mem hlt))
        clear FX hxj RD
        generalize l[j] = b at *
        obtain ⟨qs, qi, qg, qm, qx, qy, qvx, qvy, qh, qp, ql⟩ := b
        dsimp only at z0 z1 z2 z3 z4 z5 z6 z7 z8 z9 z10
        have HN : Hid (Sep w [box wr.heap.size (.cells #[.int .i64 qs, .int .i64 qi, .int .i64 qg, .int .i64 qm, .int .i64 qx, .int .i64 qy, .int .i64 qvx, .int .i64 qvy, .int .i64 qh, .int .i64 qp, .int .i64 ql] 42), rowB (.slice Ao U.length co) U, box w.heap.size (.cells #[.int .i64 cC, .int .i64 cR, .int .i64 cS, .int .i64 cD, .int .i64 cV, .int .i64 cN, .int .i64 cQ] 23)] (wr.alloc (.cells #[.int .i64 qs, .int .i64 qi, .int .i64 qg, .int .i64 qm, .int .i64 qx, .int .i64 qy, .int .i64 qvx, .int .i64 qvy, .int .i64 qh, .int .i64 qp, .int .i64 ql] 42))) := Lib.hid (sep_box HP.out _)
        have hwr := HP.out.bel.size
        clear HP
        have IX := Lib.hid (IN.out qx qy)
        clear IN
        go_upto_region 6 with fail
        clear z0 z1 z2 z3 z4 z5 z6 z7 z8 z9 z10
        generalize wr.alloc (.cells #[.int .i64 qs, .int .i64 qi, .int .i64 qg, .int .i64 qm, .int .i64 qx, .int .i64 qy, .int .i64 qvx, .int .i64 qvy, .int .i64 qh, .int .i64 qp, .int .i64 ql] 42) = w1 at *
        generalize wr.heap.size = B0 at *
        obtain ⟨⟨f0, f1, f2, f3, f4, f5, f6, f7, f8, f9, f10⟩, _⟩ := Bx.b11 (HN.out.held 0 rfl)
        obtain ⟨⟨g0, g1, g2, g3, g4, g5, g6⟩, _⟩ := box7 (HN.out.held 2 rfl)
        go_upto_region 7 with (go_at_call 30; with_reducible refine (IX.out _).mono ?_; rintro e w2 ⟨rfl, b2⟩; clear IX f0 f1 f2 f3 f4 f5 f6 f7 f8 f9 f10 g0 g1 g2 g3 g4 g5 g6; have H2 := Lib.hid (HN.out.below b2); clear HN b2)
        obtain ⟨⟨f0, f1, f2, f3, f4, f5, f6, f7, f8, f9, f10⟩, ⟨z0, z1, z2, z3, z4, z5, z6, z7, z8, z9, z10⟩⟩ := Bx.b11 (H2.out.held 0 rfl)
        have H3 := Lib.hid ((H2.out.cell (o := 4) (.int .i64 (Zn.into qx (cC * cS)))).cell (o := 5) (.int .i64 (Zn.into qy (cR * cS))))
        simp only [List.setIfInBounds_toArray, List.set_cons_succ, List.set_cons_zero] at H3
        clear H2
        have fm := fj.out.m
        have MX := Lib.hid fun W => may_any ⟨qs, qi, qg, qm, (Zn.into qx (cC * cS)), (Zn.into qy (cR * cS)), qvx, qvy, qh, qp, ql⟩ fm W
        have TX := Lib.hid (TH.out qx qy)
        have FN : Hid (Bn.Fits ⟨qs, qi, qg, qm, (Zn.into qx (cC * cS)), (Zn.into qy (cR * cS)), qvx, qvy, qh, qp, ql⟩) := Lib.hid ⟨fj.out.s, fj.out.i, fj.out.g, fj.out.m, IF.out.1 qx, IF.out.2 qy, fj.out.vx, fj.out.vy, fj.out.h, fj.out.p, fj.out.l⟩
        clear TH IF fj fm
        go_upto_region 9 with fail
        clear f0 f1 f2 f3 f4 f5 f6 f7 f8 f9 f10 z0 z1 z2 z3 z4 z5 z6 z7 z8 z9 z10
        generalize (w2.setCell ⟨B0, 4, none⟩ (.int .i64 (Zn.into qx (cC * cS)))).setCell ⟨B0, 5, none⟩ (.int .i64 (Zn.into qy (cR * cS))) = w3 at *
        generalize (Zn.into qx (cC * cS)) = X at *
        generalize (Zn.into qy (cR * cS)) = Y at *
        obtain ⟨⟨f0, f1, f2, f3, f4, f5, f6, f7, f8, f9, f10⟩, _⟩ := Bx.b11 (H3.out.held 0 rfl)
        obtain ⟨mb, hmb⟩ : ∃ mb, may ⟨qs, qi, qg, qm, X, Y, qvx, qvy, qh, qp, ql⟩ = mb := ⟨_, rfl⟩
        rw [hmb] at MX
        replace hmb := Lib.hid hmb
        dsimp only [Bn.val] at MX
        go_upto_region 11 with (go_at_call 26; with_reducible refine (MX.out _).mono ?_; rintro e w4 ⟨rfl, b4⟩; clear MX f0 f1 f2 f3 f4 f5 f6 f7 f8 f9 f10; have H4 := Lib.hid (H3.out.below b4); clear H3 b4)
        go_loopw [10, 11] (fun f k ws => ∃ (p : Bool) (m : Nat), m ≤ U.length ∧ k = .int .i64 m ∧ f = .bool p ∧ Hid (p = true → mb = true ∧ ∀ z ∈ U.take m, z.id ≠ (qs, qi, qg)) ∧ Hid (Sep w [box B0 (.cells #[.int .i64 qs, .int .i64 qi, .int .i64 qg, .int .i64 qm, .int .i64 X, .int .i64 Y, .int .i64 qvx, .int .i64 qvy, .int .i64 qh, .int .i64 qp, .int .i64 ql] 42), rowB (.slice Ao U.length co) U, box w.heap.size (.cells #[.int .i64 cC, .int .i64 cR, .int .i64 cS, .int .i64 cD, .int .i64 cV, .int .i64 cN, .int .i64 cQ] 23)] ws)) (fun _ k _ => U.length - (intOf k).toNat)
        case atStart => exact ⟨mb, 0, by omega, rfl, rfl, Lib.hid fun h => ⟨h, by simp⟩, H4⟩
        case round =>
          clear H4
          obtain ⟨p, m, hm, rfl, rfl, HM, HS⟩ := hrel
          by_cases hmu : m < U.length
          · have t3 : (m : Int) < (U.length : Int) := by omega
            have tU : (U.length : Int) ≤ 60 := by omega
            obtain ⟨⟨f0, f1, f2, f3, f4, f5, f6, f7, f8, f9, f10⟩, _⟩ := Bx.b11 (HS.out.held 0 rfl)
            obtain ⟨g2, o2, e2, _, u0, u1, u2, _⟩ := (RdB.of_own (HS.out.rows 1 rfl)) m _ (List.getElem?_eq_getElem hmu)
            cases e2
            have NX : Hid (∀ n, Sep w [box B0 (.cells #[.int .i64 qs, .int .i64 qi, .int .i64 qg, .int .i64 qm, .int .i64 X, .int .i64 Y, .int .i64 qvx, .int .i64 qvy, .int .i64 qh, .int .i64 qp, .int .i64 ql] 42), rowB (.slice (some ⟨g2, o2, none⟩) U.length co) U, box w.heap.size (.cells #[.int .i64 cC, .int .i64 cR, .int .i64 cS, .int .i64 cD, .int .i64 cV, .int .i64 cN, .int .i64 cQ] 23)] (wr.drewN n)) := Lib.hid fun n => HS.out.below (Below.dn' (Below.refl _ wr) n)
            have TK : Hid ((∀ z ∈ U.take m, z.id ≠ (qs, qi, qg)) → U[m].id ≠ (qs, qi, qg) → ∀ z ∈ U.take (m + 1), z.id ≠ (qs, qi, qg)) := Lib.hid fun a b z hz => by
              rw [List.take_succ_eq_append_getElem hmu, List.mem_append] at hz
              rcases hz with hz | hz
              · exact a z hz
              · rw [List.mem_singleton.1 hz]; exact b
            clear HS TX FN HL hmb
            replace HM := Lib.hid HM.out
            generalize hUm : U[m] = z at *
            clear hUm
            obtain ⟨z0, z1, z2, z3, z4, z5, z6, z7, z8, z9, z10⟩ := z
            dsimp only at u0 u1 u2
            simp only [Bn.id] at TK
            generalize hnu : U.length = nu at *
            clear hnu
            have EQ := fun V => eq_id 9998 z0 z1 z2 qs qi qg V
            simp only [Nat.reduceAdd] at EQ
            cases p with
            | false =>
              clear EQ
              have NX2 := Lib.hid (show false = true → mb = true ∧ ∀ z ∈ U.take (m + 1), z.id ≠ (qs, qi, qg) from fun h => by cases h)
              go_wp2
              go_quiet (fail)
              go_wp2
              go_roundw
              case rel => exact ⟨false, m + 1, by omega, by go_num, rfl, Lib.hid (fun h => by first | exact NX2.out h | exact NX2.out trivial | cases h), Lib.hid (NX.out _)⟩
              case measure => simp [intOf]; omega
            | true =>
              obtain ⟨eb, heb⟩ : ∃ eb, ((z0 == qs) && ((z1 == qi) && (z2 == qg))) = eb := ⟨_, rfl⟩
              have hne : eb = false → (z0, z1, z2) ≠ (qs, qi, qg) := fun e h => by
                simp only [Prod.mk.injEq] at h
                rw [← heb] at e
                simp [h.1, h.2.1, h.2.2] at e
              rw [heb] at EQ
              clear heb
              cases eb with
              | false =>
                have NX2 := Lib.hid (show true = true → mb = true ∧ ∀ z ∈ U.take (m + 1), z.id ≠ (qs, qi, qg) from fun _ => ⟨(HM.out rfl).1, TK.out (HM.out rfl).2 (hne rfl)⟩)
                go_wp2
                go_quiet (fail)
                go_wp2
                go_roundw
                case rel => exact ⟨true, m + 1, by omega, by go_num, rfl, Lib.hid (fun h => by first | exact NX2.out h | exact NX2.out trivial | cases h), Lib.hid (NX.out _)⟩
                case measure => simp [intOf]; omega
              | true =>
                have NX2 := Lib.hid (show false = true → mb = true ∧ ∀ z ∈ U.take (m + 1), z.id ≠ (qs, qi, qg) from fun h => by cases h)
                go_wp2
                go_quiet (fail)
                go_wp2
                go_roundw
                case rel => exact ⟨false, m + 1, by omega, by go_num, rfl, Lib.hid (fun h => by first | exact NX2.out h | exact NX2.out trivial | cases h), Lib.hid (NX.out _)⟩
                case measure => simp [intOf]; omega
          · obtain rfl : m = U.length := by omega
            have t3 : ¬ ((U.length : Int) < (U.length : Int)) := by omega
            cases p with
            | false =>
              have HE := Lib.hid HS.out.drop
              clear HS HM TX FN hmb
              go_wp2
              go_roundw
              case rel => exact ⟨j + 1, U, by omega, by omega, by go_num, by omega, HL, HE⟩
              case measure => simp [intOf]; omega
            | true =>
              obtain ⟨hm1, hm2⟩ := HM.out rfl
              rw [List.take_length] at hm2
              have HL2 : Hid (Lv cC cR cS (U ++ [⟨qs, qi, qg, qm, X, Y, qvx, qvy, qh, qp, ql⟩])) := Lib.hid (HL.out.push (hmb.out.trans hm1) TX.out FN.out hm2)
              obtain ⟨⟨f0, f1, f2, f3, f4, f5, f6, f7, f8, f9, f10⟩, _⟩ := Bx.b11 (HS.out.held 0 rfl)
              obtain ⟨v', w', hr, ho⟩ := ent_push (show Sep w [rowB (.slice Ao U.length co) U, box w.heap.size (.cells #[.int .i64 cC, .int .i64 cR, .int .i64 cS, .int .i64 cD, .int .i64 cV, .int .i64 cN, .int .i64 cQ] 23)] wr from HS.out.drop) ⟨qs, qi, qg, qm, X, Y, qvx, qvy, qh, qp, ql⟩ (by omega)
              have HR := Lib.hid hr
              have HE := Lib.hid ho
              have hl1 : (U ++ [(⟨qs, qi, qg, qm, X, Y, qvx, qvy, qh, qp, ql⟩ : Bn)]).length ≤ j + 1 := by rw [List.length_append]; exact Nat.succ_le_succ hU
              clear hr ho HS HM TX FN hmb HL hm1 hm2
              go_wp2_with (at_builtin; refine wpList_append _ rfl (.tmp 59) (.tmp 61) _ _ rfl _ _ rfl rfl _ _ HR.out ?_)
              go_roundw
              case rel => exact ⟨j + 1, _, by omega, by omega, by go_num, hl1, HL2, HE⟩
              case measure => simp [intOf]; omega
      · have t2 : ¬ (j : Int) < 60 := by omega
        have FIN := lv_fin HP.out
        have hU6 : U.length ≤ 60 := by omega
        have HF := Lib.hid FIN
        clear FIN HP FX RD IN TH IF
        go_wp2
        go_ret
        exact ⟨U, Ao, co, rfl, HF.out.1, HL.out, hU6, HF.out.2⟩
    · have t1 : ¬ (j : Int) < (l.length : Int) := by omega
      have FIN := lv_fin HP.out
      have hU6 : U.length ≤ 60 := by omega
      have HF := Lib.hid FIN
      clear FIN HP FX RD IN TH IF
      go_wp2
      go_ret
      exact ⟨U, Ao, co, rfl, HF.out.1, HL.out, hU6, HF.out.2⟩
end Go.Proofs.YtljaahemlcaffaaGreat
namespace Go.Proofs.YtljaahemlcaffaaGreat
open Go.RowKit Pz Sp
set_option linter.unusedVariables false
set_option linter.unusedSimpArgs false

/-- told so that nobody comes twice -/
structure CFit (c : Cn) : Prop where
  k : Fit c.k
  m : Fit c.m
  s : Fit c.s
  i : Fit c.i
  g : Fit c.g
  b : c.b.Fits
structure Od (l : List Bn) (O : List Cn) : Prop where
  may : ∀ c ∈ O, mayCmd c = true
  fits : ∀ c ∈ O, CFit c
  new : ∀ c ∈ O, c.k = 1 → ∀ z ∈ l, z.id ≠ c.b.id
  fresh : Tk.Fresh O
theorem od_nil (l : List Bn) : Od l [] := ⟨fun _ h => by simp at h, fun _ h => by simp at h, fun _ h => by simp at h, List.Pairwise.nil⟩
theorem Od.push {l : List Bn} {O : List Cn} (h : Od l O) {c : Cn} (h1 : mayCmd c = true) (h2 : CFit c) (h3 : c.k = 1 → ∀ z ∈ l, z.id ≠ c.b.id) (h4 : c.k = 1 → ∀ z ∈ O, z.k = 1 → z.b.id ≠ c.b.id) : Od l (O ++ [c]) := by
  have key : ∀ {P : Cn → Prop}, (∀ z ∈ O, P z) → P c → ∀ z ∈ O ++ [c], P z := fun {P} a c z hz => by
    rcases List.mem_append.1 hz with h | h
    · exact a z h
    · rw [List.mem_singleton.1 h]; exact c
  refine ⟨key h.may h1, key h.fits h2, key h.new h3, ?_⟩
  unfold Tk.Fresh
  rw [List.pairwise_append]
  refine ⟨h.fresh, by simp, fun a ha b hb ka kb => ?_⟩
  rw [List.mem_singleton.1 hb] at kb ⊢
  exact h4 kb a ha ka
theorem Od.told {l : List Bn} {O : List Cn} (h : Od l O) (hu : Tk.Un l) : Tk.Told l O := ⟨hu, fun c hc hk => Tk.at_none.2 (h.new c hc hk), h.fresh⟩
theorem cmd_push {w W : World} {L : List Piece} {v : Value} {U : List Cn} (h : Sep w (row cnE 55 16 (v) U :: L) W) (x : Cn) (hn : U.length + 1 ≤ 1000000) :
    ∃ v' V, (Builtin.append_ #[25, 25] 25 #[v, .slice (some ⟨W.heap.size, 0, none⟩) 1 1]).run Tryz.prog (W.alloc (.cells (cnE x).toArray 55)) = .ok v' V ∧ Sep w (row cnE 55 16 (v') (U ++ [x]) :: L) V := by
  obtain ⟨G, ⟨h1, h2⟩, _, next⟩ := h.one
  obtain ⟨v', V, hr, ho, hg, hv, _⟩ := app_x (enc := cnE) (T := 55) (s := 16) (t := 25) Tryz.underlying25 cmd_info rfl (by decide) cnE_len cnE_one h1 (Nat.zero_le _) x hn (by decide) 25
  exact ⟨v', V, hr, next V (row cnE 55 16 (v') (U ++ [x])) (fun k => v'.ownBlock = some k) ⟨hg.os, hg.tape, hg.output, hg.size, fun k hk hn => hg.block k hk fun e => hn ((h2 k).2 e.symm)⟩ ⟨ho, fun k => Iff.rfl⟩ fun k hk => (hv k hk).imp (fun e => (h2 k).2 e) id⟩
theorem od_fin {w W : World} {L : List Piece} {v : Value} {U : List Cn} (h : Sep w (row cnE 55 16 (v) U :: L) W) : OwnC W w.heap.size v U ∧ Below w.heap.size w W := by
  obtain ⟨G, ⟨g1, g2⟩, g3, _⟩ := h.one
  refine ⟨?_, h.bel⟩
  rcases g1 with h | ⟨g, off, cap, cur, e, h1, h2⟩
  · exact .inl h
  · refine .inr ⟨g, off, cap, cur, e, g3 g ((g2 g).2 (by rw [e]; rfl)), h2⟩
set_option maxHeartbeats 8000000 in
set_option maxRecDepth 100000 in
theorem orders_any {w : World} {A A2 : Option Addr} {c c2 : Nat} {l : List Bn} {cs : List Cn} (R : RdB w w.heap.size A l) (R2 : RdC w w.heap.size A2 cs) (hl : l.length ≤ 1000) (hl2 : cs.length ≤ 140737488351232) (hF : ∀ x ∈ cs, CFit x) :
    Calls Tryz.prog 12 #[.slice A l.length c, .slice A2 cs.length c2] w fun e w' => ∃ (O : List Cn) (A' : Option Addr) (c' : Nat), e = .returned (.slice A' O.length c') ∧ OwnC w' w.heap.size (.slice A' O.length c') O ∧ Od l O ∧ O.length ≤ 40 ∧ Below w.heap.size w w' := by
  have RL := Lib.hid fun V (hV : Below w.heap.size w V) => R.below hV
  have RC := Lib.hid fun V (hV : Below w.heap.size w V) => R2.below hV
  have FX := Lib.hid hF
  have hll : (l.length : Int) ≤ 1000 := by omega
  clear R R2 hF
  go_enter Tryz.func12, Tryz.ntmps12
  go_wp2
  go_loopg [5, 6] cs.length (fun gg v s wr => ∃ (j : Nat) (O : List Cn), j ≤ cs.length ∧ j ≤ 40 ∧ cs.length - j ≤ gg ∧ s = .int .i64 j ∧ O.length ≤ j ∧ Hid (Od l O) ∧ Hid (Sep w [row cnE 55 16 (v) O] wr))
  case atStart => exact ⟨0, [], by omega, by omega, by omega, rfl, by simp, Lib.hid (od_nil _), Lib.hid (row_none cnE 55 16 (sep_new w))⟩
  case round =>
    obtain ⟨j, O, hj, hj4, hgg, rfl, hU, HO, HP⟩ := hrel
    obtain ⟨Ao, co, rfl⟩ := (HP.out.rows 0 rfl).form
    by_cases hlt : j < cs.length
    · have t1 : (j : Int) < (cs.length : Int) := by omega
      by_cases hlt4 : j < 40
      · have t2 : (j : Int) < 40 := by omega
        have hxj := List.getElem?_eq_getElem hlt
        have fj := Lib.hid (FX.out _ (List.getElem_mem hlt))
        obtain ⟨g, o, rfl, _, y0, y1, y2, y3, y4, y5, y6, y7, y8, y9, y10, y11, y12, y13, y14, y15⟩ := RC.out wr HP.out.bel j _ hxj
        have QC : Hid (∀ W, Below w.heap.size w W → W.cell? ⟨g, o + j * 16, none⟩ = some (.int .i64 cs[j].k) ∧ W.cell? ⟨g, o + j * 16 + 1, none⟩ = some (.int .i64 cs[j].s) ∧ W.cell? ⟨g, o + j * 16 + 2, none⟩ = some (.int .i64 cs[j].i) ∧ W.cell? ⟨g, o + j * 16 + 3, none⟩ = some (.int .i64 cs[j].g) ∧ W.cell? ⟨g, o + j * 16 + 4, none⟩ = some (.int .i64 cs[j].b.s) ∧ W.cell? ⟨g, o + j * 16 + 5, none⟩ = some (.int .i64 cs[j].b.i) ∧ W.cell? ⟨g, o + j * 16 + 6, none⟩ = some (.int .i64 cs[j].b.g) ∧ W.cell? ⟨g, o + j * 16 + 7, none⟩ = some (.int .i64 cs[j].b.m) ∧ W.cell? ⟨g, o + j * 16 + 8, none⟩ = some (.int .i64 cs[j].b.x) ∧ W.cell? ⟨g, o + j * 16 + 9, none⟩ = some (.int .i64 cs[j].b.y) ∧ W.cell? ⟨g, o + j * 16 + 10, none⟩ = some (.int .i64 cs[j].b.vx) ∧ W.cell? ⟨g, o + j * 16 + 11, none⟩ = some (.int .i64 cs[j].b.vy) ∧ W.cell? ⟨g, o + j * 16 + 12, none⟩ = some (.int .i64 cs[j].b.h) ∧ W.cell? ⟨g, o + j * 16 + 13, none⟩ = some (.int .i64 cs[j].b.p) ∧ W.cell? ⟨g, o + j * 16 + 14, none⟩ = some (.int .i64 cs[j].b.l) ∧ W.cell? ⟨g, o + j * 16 + 15, none⟩ = some (.int .i64 cs[j].m)) := Lib.hid fun W hW => by
          obtain ⟨g', o', e, _, h⟩ := RC.out W hW j _ hxj
          cases e
          exact h
        clear FX hxj RC
        generalize cs[j] = cmd at *
        obtain ⟨dk, ds_, di_, dg_, ⟨ds, di, dg, dm, dx, dy, dvx, dvy, dh, dp, dl⟩, cm_⟩ := cmd
        dsimp only at y0 y1 y2 y3 y4 y5 y6 y7 y8 y9 y10 y11 y12 y13 y14 y15 QC
        have MX := Lib.hid fun W => maycmd_any ⟨dk, ds_, di_, dg_, ⟨ds, di, dg, dm, dx, dy, dvx, dvy, dh, dp, dl⟩, cm_⟩ fj.out.b.m W
        obtain ⟨mb, hmb⟩ : ∃ mb, mayCmd ⟨dk, ds_, di_, dg_, ⟨ds, di, dg, dm, dx, dy, dvx, dvy, dh, dp, dl⟩, cm_⟩ = mb := ⟨_, rfl⟩
        rw [hmb] at MX
        replace hmb := Lib.hid hmb
        dsimp only [Cn.val] at MX
        go_upto_block 2 with (go_at_call 31; with_reducible refine (MX.out _).mono ?_; rintro e w2 ⟨rfl, b2⟩; clear MX y0 y1 y2 y3 y4 y5 y6 y7 y8 y9 y10 y11 y12 y13 y14 y15; have H2 := Lib.hid (HP.out.below b2); clear HP b2)
        go_cut [7, 8] from 10 to 99 (fun f _ wx => ∃ p : Bool, f = .bool p ∧ Hid (p = true → mb = true ∧ (dk = 1 → ∀ z ∈ l, z.id ≠ (ds, di, dg))) ∧ Hid (Sep w [row cnE 55 16 (.slice Ao O.length co) O] wx))
        case first =>
          go_wp2_with fail
          by_cases hk : dk = 1
          · subst hk
            go_loopw [7, 8] (fun f k ws => ∃ (p : Bool) (m : Nat), m ≤ l.length ∧ k = .int .i64 m ∧ f = .bool p ∧ Hid (p = true → mb = true ∧ ∀ z ∈ l.take m, z.id ≠ (ds, di, dg)) ∧ Hid (Sep w [row cnE 55 16 (.slice Ao O.length co) O] ws)) (fun _ k _ => l.length - (intOf k).toNat)
            case atStart => exact ⟨mb, 0, by omega, rfl, rfl, Lib.hid fun h => ⟨h, by simp⟩, H2⟩
            case round =>
              clear H2
              obtain ⟨p, m, hm, rfl, rfl, HM, HS⟩ := hrel
              obtain ⟨y0, y1, y2, y3, y4, y5, y6, y7, y8, y9, y10, y11, y12, y13, y14, y15⟩ := QC.out wr HS.out.bel
              by_cases hmu : m < l.length
              · have t3 : (m : Int) < (l.length : Int) := by omega
                obtain ⟨g2, o2, e2, _, u0, u1, u2, _⟩ := RL.out wr HS.out.bel m _ (List.getElem?_eq_getElem hmu)
                subst e2
                have NX : Hid (∀ n, Sep w [row cnE 55 16 (.slice Ao O.length co) O] (wr.drewN n)) := Lib.hid fun n => HS.out.below (Below.dn' (Below.refl _ wr) n)
                have TK : Hid ((∀ z ∈ l.take m, z.id ≠ (ds, di, dg)) → l[m].id ≠ (ds, di, dg) → ∀ z ∈ l.take (m + 1), z.id ≠ (ds, di, dg)) := Lib.hid fun a b z hz => by
                  rw [List.take_succ_eq_append_getElem hmu, List.mem_append] at hz
                  rcases hz with hz | hz
                  · exact a z hz
                  · rw [List.mem_singleton.1 hz]; exact b
                clear HS HO hmb fj QC RL
                replace HM := Lib.hid HM.out
                generalize hUm : l[m] = z at *
                clear hUm
                obtain ⟨z0, z1, z2, z3, z4, z5, z6, z7, z8, z9, z10⟩ := z
                dsimp only at u0 u1 u2
                simp only [Bn.id] at TK
                generalize l.length = nu at *
                generalize cs.length = nc at *
                have EQ := fun V => eq_id 9998 z0 z1 z2 ds di dg V
                simp only [Nat.reduceAdd] at EQ
                cases p with
                | false =>
                  clear EQ
                  have NX2 := Lib.hid (show false = true → mb = true ∧ ∀ z ∈ l.take (m + 1), z.id ≠ (ds, di, dg) from fun h => by cases h)
                  go_wp2
                  go_quiet (fail)
                  go_wp2
                  go_roundw
                  case rel => exact ⟨false, m + 1, by omega, by go_num, rfl, Lib.hid (fun h => by first | exact NX2.out h | exact NX2.out trivial | cases h), Lib.hid (NX.out _)⟩
                  case measure => simp [intOf]; omega
                | true =>
                  obtain ⟨eb, heb⟩ : ∃ eb, ((z0 == ds) && ((z1 == di) && (z2 == dg))) = eb := ⟨_, rfl⟩
                  have hne : eb = false → (z0, z1, z2) ≠ (ds, di, dg) := fun e h => by
                    simp only [Prod.mk.injEq] at h
                    rw [← heb] at e
                    simp [h.1, h.2.1, h.2.2] at e
                  rw [heb] at EQ
                  clear heb
                  cases eb with
                  | false =>
                    have NX2 := Lib.hid (show true = true → mb = true ∧ ∀ z ∈ l.take (m + 1), z.id ≠ (ds, di, dg) from fun _ => ⟨(HM.out rfl).1, TK.out (HM.out rfl).2 (hne rfl)⟩)
                    go_wp2
                    go_quiet (fail)
                    go_wp2
                    go_roundw
                    case rel => exact ⟨true, m + 1, by omega, by go_num, rfl, Lib.hid (fun h => by first | exact NX2.out h | exact NX2.out trivial | cases h), Lib.hid (NX.out _)⟩
                    case measure => simp [intOf]; omega
                  | true =>
                    have NX2 := Lib.hid (show false = true → mb = true ∧ ∀ z ∈ l.take (m + 1), z.id ≠ (ds, di, dg) from fun h => by cases h)
                    go_wp2
                    go_quiet (fail)
                    go_wp2
                    go_roundw
                    case rel => exact ⟨false, m + 1, by omega, by go_num, rfl, Lib.hid (fun h => by first | exact NX2.out h | exact NX2.out trivial | cases h), Lib.hid (NX.out _)⟩
                    case measure => simp [intOf]; omega
              · obtain rfl : m = l.length := by omega
                have t3 : ¬ ((l.length : Int) < (l.length : Int)) := by omega
                rw [List.take_length] at HM
                go_wp2
                go_meet
                case rel => exact ⟨p, rfl, Lib.hid fun h => ⟨(HM.out h).1, fun _ => (HM.out h).2⟩, HS⟩
          · have k1 : (dk == 1) = false := by simp [hk]
            have hK := Lib.hid hk
            clear hk
            go_loopw [7, 8] (fun f k ws => k = .int .i64 0 ∧ f = .bool mb ∧ Hid (Sep w [row cnE 55 16 (.slice Ao O.length co) O] ws)) (fun _ _ _ => 0)
            case atStart => exact ⟨rfl, rfl, H2⟩
            case round =>
              clear H2
              obtain ⟨rfl, rfl, HS⟩ := hrel
              obtain ⟨y0, y1, y2, y3, y4, y5, y6, y7, y8, y9, y10, y11, y12, y13, y14, y15⟩ := QC.out wr HS.out.bel
              by_cases hl0 : 0 < l.length
              · have t3 : (0 : Int) < (l.length : Int) := by omega
                go_wp2
                go_meet
                case rel => exact ⟨mb, rfl, Lib.hid fun h => ⟨h, fun e => absurd e hK.out⟩, HS⟩
              · have t3 : ¬ (0 : Int) < (l.length : Int) := by omega
                go_wp2
                go_meet
                case rel => exact ⟨mb, rfl, Lib.hid fun h => ⟨h, fun e => absurd e hK.out⟩, HS⟩
        case rest =>
          clear H2
          obtain ⟨p, rfl, HM, HS⟩ := hcut
          go_upto_block 4 with fail
          go_cut [7, 9] from 10 to 99 (fun f _ wx => ∃ p' : Bool, f = .bool p' ∧ Hid (p' = true → p = true ∧ (dk = 1 → ∀ z ∈ O, z.k = 1 → z.b.id ≠ (ds, di, dg))) ∧ Hid (Sep w [row cnE 55 16 (.slice Ao O.length co) O] wx))
          case first =>
            go_wp2_with fail
            by_cases hk : dk = 1
            · subst hk
              go_loopw [7, 9] (fun f k ws => ∃ (p' : Bool) (m : Nat), m ≤ O.length ∧ k = .int .i64 m ∧ f = .bool p' ∧ Hid (p' = true → p = true ∧ ∀ z ∈ O.take m, z.k = 1 → z.b.id ≠ (ds, di, dg)) ∧ Hid (Sep w [row cnE 55 16 (.slice Ao O.length co) O] ws)) (fun _ k _ => O.length - (intOf k).toNat)
              case atStart => exact ⟨p, 0, by omega, rfl, rfl, Lib.hid fun h => ⟨h, by simp⟩, HS⟩
              case round =>
                clear HS
                obtain ⟨p', m, hm, rfl, rfl, HM2, HS⟩ := hrel
                obtain ⟨y0, y1, y2, y3, y4, y5, y6, y7, y8, y9, y10, y11, y12, y13, y14, y15⟩ := QC.out wr HS.out.bel
                by_cases hmu : m < O.length
                · have t3 : (m : Int) < (O.length : Int) := by omega
                  have tO : (O.length : Int) ≤ 40 := by omega
                  obtain ⟨g2, o2, e2, _, u0, u1, u2, u3, u4, u5, u6, u7, u8, u9, u10, u11, u12, u13, u14, u15⟩ := RdC.of_own (HS.out.rows 0 rfl) m _ (List.getElem?_eq_getElem hmu)
                  cases e2
                  have NX : Hid (∀ n, Sep w [row cnE 55 16 (.slice (some ⟨g2, o2, none⟩) O.length co) O] (wr.drewN n)) := Lib.hid fun n => HS.out.below (Below.dn' (Below.refl _ wr) n)
                  have TK : Hid ((∀ z ∈ O.take m, z.k = 1 → z.b.id ≠ (ds, di, dg)) → (O[m].k = 1 → O[m].b.id ≠ (ds, di, dg)) → ∀ z ∈ O.take (m + 1), z.k = 1 → z.b.id ≠ (ds, di, dg)) := Lib.hid fun a b z hz => by
                    rw [List.take_succ_eq_append_getElem hmu, List.mem_append] at hz
                    rcases hz with hz | hz
                    · exact a z hz
                    · rw [List.mem_singleton.1 hz]; exact b
                  clear HS HO hmb fj QC RL HM
                  replace HM2 := Lib.hid HM2.out
                  generalize hUm : O[m] = z at *
                  clear hUm
                  obtain ⟨zk, z1_, z2_, z3_, ⟨z0, z1, z2, z3, z4, z5, z6, z7, z8, z9, z10⟩, zm⟩ := z
                  dsimp only at u0 u1 u2 u3 u4 u5 u6 u7 u8 u9 u10 u11 u12 u13 u14 u15
                  simp only [Bn.id] at TK
                  generalize hnu : O.length = nu at *
                  clear hnu
                  generalize l.length = nl at *
                  generalize cs.length = nc at *
                  have EQ := fun V => eq_id 9998 z0 z1 z2 ds di dg V
                  simp only [Nat.reduceAdd] at EQ
                  cases p' with
                  | false =>
                    clear EQ
                    have NX2 := Lib.hid (show false = true → p = true ∧ ∀ z ∈ O.take (m + 1), z.k = 1 → z.b.id ≠ (ds, di, dg) from fun h => by cases h)
                    go_wp2
                    go_quiet (fail)
                    go_wp2
                    go_roundw
                    case rel => exact ⟨false, m + 1, by omega, by go_num, rfl, Lib.hid (fun h => by first | exact NX2.out h | exact NX2.out trivial | cases h), Lib.hid (NX.out _)⟩
                    case measure => simp [intOf]; omega
                  | true =>
                    by_cases hzk : zk = 1
                    · have kz : (zk == 1) = true := by simp [hzk]
                      obtain ⟨eb, heb⟩ : ∃ eb, ((z0 == ds) && ((z1 == di) && (z2 == dg))) = eb := ⟨_, rfl⟩
                      have hne : eb = false → (z0, z1, z2) ≠ (ds, di, dg) := fun e h => by
                        simp only [Prod.mk.injEq] at h
                        rw [← heb] at e
                        simp [h.1, h.2.1, h.2.2] at e
                      rw [heb] at EQ
                      clear heb
                      cases eb with
                      | false =>
                        have NX2 := Lib.hid (show true = true → p = true ∧ ∀ z ∈ O.take (m + 1), z.k = 1 → z.b.id ≠ (ds, di, dg) from fun _ => ⟨(HM2.out rfl).1, TK.out (HM2.out rfl).2 fun _ => hne rfl⟩)
                        go_wp2
                        go_quiet (fail)
                        go_wp2
                        go_roundw
                        case rel => exact ⟨true, m + 1, by omega, by go_num, rfl, Lib.hid (fun h => by first | exact NX2.out h | exact NX2.out trivial | cases h), Lib.hid (NX.out _)⟩
                        case measure => simp [intOf]; omega
                      | true =>
                        have NX2 := Lib.hid (show false = true → p = true ∧ ∀ z ∈ O.take (m + 1), z.k = 1 → z.b.id ≠ (ds, di, dg) from fun h => by cases h)
                        go_wp2
                        go_quiet (fail)
                        go_wp2
                        go_roundw
                        case rel => exact ⟨false, m + 1, by omega, by go_num, rfl, Lib.hid (fun h => by first | exact NX2.out h | exact NX2.out trivial | cases h), Lib.hid (NX.out _)⟩
                        case measure => simp [intOf]; omega
                    · have kz : (zk == 1) = false := by simp [hzk]
                      clear EQ
                      have NX2 := Lib.hid (show true = true → p = true ∧ ∀ z ∈ O.take (m + 1), z.k = 1 → z.b.id ≠ (ds, di, dg) from fun _ => ⟨(HM2.out rfl).1, TK.out (HM2.out rfl).2 fun e => absurd e hzk⟩)
                      go_wp2
                      go_quiet (fail)
                      go_wp2
                      go_roundw
                      case rel => exact ⟨true, m + 1, by omega, by go_num, rfl, Lib.hid (fun h => by first | exact NX2.out h | exact NX2.out trivial | cases h), Lib.hid (NX.out _)⟩
                      case measure => simp [intOf]; omega
                · obtain rfl : m = O.length := by omega
                  have t3 : ¬ ((O.length : Int) < (O.length : Int)) := by omega
                  rw [List.take_length] at HM2
                  go_wp2
                  go_meet
                  case rel => exact ⟨p', rfl, Lib.hid fun h => ⟨(HM2.out h).1, fun _ => (HM2.out h).2⟩, HS⟩
            · have k1 : (dk == 1) = false := by simp [hk]
              have hK := Lib.hid hk
              clear hk
              go_loopw [7, 9] (fun f k ws => k = .int .i64 0 ∧ f = .bool p ∧ Hid (Sep w [row cnE 55 16 (.slice Ao O.length co) O] ws)) (fun _ _ _ => 0)
              case atStart => exact ⟨rfl, rfl, HS⟩
              case round =>
                clear HS
                obtain ⟨rfl, rfl, HS⟩ := hrel
                obtain ⟨y0, y1, y2, y3, y4, y5, y6, y7, y8, y9, y10, y11, y12, y13, y14, y15⟩ := QC.out wr HS.out.bel
                by_cases hO0 : 0 < O.length
                · have t4 : (0 : Int) < (O.length : Int) := by omega
                  go_wp2
                  go_meet
                  case rel => exact ⟨p, rfl, Lib.hid fun h => ⟨h, fun e => absurd e hK.out⟩, HS⟩
                · have t4 : ¬ (0 : Int) < (O.length : Int) := by omega
                  go_wp2
                  go_meet
                  case rel => exact ⟨p, rfl, Lib.hid fun h => ⟨h, fun e => absurd e hK.out⟩, HS⟩
          case rest =>
            clear HS
            obtain ⟨p', rfl, HM2, HS⟩ := hcut
            cases p' with
            | false =>
              clear HM HM2 hmb QC RL
              go_wp2
              go_roundg (cs.length - (j + 1))
              case measure => omega
              case rel => exact ⟨j + 1, O, by omega, by omega, by omega, by go_num, by omega, HO, HS⟩
            | true =>
              obtain ⟨hp1, hm3⟩ := HM2.out rfl
              obtain ⟨hm1, hm2⟩ := HM.out hp1
              have HO2 : Hid (Od l (O ++ [⟨dk, ds_, di_, dg_, ⟨ds, di, dg, dm, dx, dy, dvx, dvy, dh, dp, dl⟩, cm_⟩])) := Lib.hid (HO.out.push (hmb.out.trans hm1) fj.out hm2 hm3)
              obtain ⟨y0, y1, y2, y3, y4, y5, y6, y7, y8, y9, y10, y11, y12, y13, y14, y15⟩ := QC.out wc HS.out.bel
              obtain ⟨v', w', hr, ho⟩ := cmd_push HS.out ⟨dk, ds_, di_, dg_, ⟨ds, di, dg, dm, dx, dy, dvx, dvy, dh, dp, dl⟩, cm_⟩ (by omega)
              have HR := Lib.hid hr
              have HE := Lib.hid ho
              have hl1 : (O ++ [(⟨dk, ds_, di_, dg_, ⟨ds, di, dg, dm, dx, dy, dvx, dvy, dh, dp, dl⟩, cm_⟩ : Cn)]).length ≤ j + 1 := by rw [List.length_append]; exact Nat.succ_le_succ hU
              clear hr ho HS hmb HO RL HM HM2 hm1 hm2 hm3 hp1
              go_wp2_with (at_builtin; refine wpList_append _ rfl (.tmp 93) (.tmp 98) _ _ rfl _ _ rfl rfl _ _ HR.out ?_)
              go_roundg (cs.length - (j + 1))
              case measure => omega
              case rel => exact ⟨j + 1, _, by omega, by omega, by omega, by go_num, hl1, HO2, HE⟩
      · have t2 : ¬ (j : Int) < 40 := by omega
        have hU6 : O.length ≤ 40 := by omega
        have HF := Lib.hid (od_fin HP.out)
        clear HP FX RL RC
        go_wp2
        go_ret
        exact ⟨O, Ao, co, rfl, HF.out.1, HO.out, hU6, HF.out.2⟩
    · have t1 : ¬ (j : Int) < (cs.length : Int) := by omega
      have hU6 : O.length ≤ 40 := by omega
      have HF := Lib.hid (od_fin HP.out)
      clear HP FX RL RC
      go_wp2
      go_ret
      exact ⟨O, Ao, co, rfl, HF.out.1, HO.out, hU6, HF.out.2⟩
end Go.Proofs.YtljaahemlcaffaaGreat
namespace Go.Proofs.YtljaahemlcaffaaGreat
open Go.RowKit Pz
set_option linter.unusedVariables false

set_option maxHeartbeats 16000000 in
set_option maxRecDepth 100000 in
/-- two rows of the same entities -/
theorem rsame_yes {w : World} {A1 A2 : Option Addr} {c1 c2 : Nat} {l : List Bn} (R1 : RdB w w.heap.size A1 l) (R2 : RdB w w.heap.size A2 l) (hl : l.length ≤ 140737488351232) :
    Calls Tryz.prog 16 #[.slice A1 l.length c1, .slice A2 l.length c2] w fun e w' => e = .returned (.bool true) ∧ Below w.heap.size w w' := by
  have AT : Hid (∀ W, Below w.heap.size w W → ∀ j (hj : j < l.length), ∃ g o g2 o2, A1 = some ⟨g, o, none⟩ ∧ A2 = some ⟨g2, o2, none⟩ ∧ (W.cell? ⟨g, o + j * 11, none⟩ = some (.int .i64 l[j].s) ∧ W.cell? ⟨g, o + j * 11 + 1, none⟩ = some (.int .i64 l[j].i) ∧ W.cell? ⟨g, o + j * 11 + 2, none⟩ = some (.int .i64 l[j].g) ∧ W.cell? ⟨g, o + j * 11 + 3, none⟩ = some (.int .i64 l[j].m) ∧ W.cell? ⟨g, o + j * 11 + 4, none⟩ = some (.int .i64 l[j].x) ∧ W.cell? ⟨g, o + j * 11 + 5, none⟩ = some (.int .i64 l[j].y) ∧ W.cell? ⟨g, o + j * 11 + 6, none⟩ = some (.int .i64 l[j].vx) ∧ W.cell? ⟨g, o + j * 11 + 7, none⟩ = some (.int .i64 l[j].vy) ∧ W.cell? ⟨g, o + j * 11 + 8, none⟩ = some (.int .i64 l[j].h) ∧ W.cell? ⟨g, o + j * 11 + 9, none⟩ = some (.int .i64 l[j].p) ∧ W.cell? ⟨g, o + j * 11 + 10, none⟩ = some (.int .i64 l[j].l)) ∧ (W.cell? ⟨g2, o2 + j * 11, none⟩ = some (.int .i64 l[j].s) ∧ W.cell? ⟨g2, o2 + j * 11 + 1, none⟩ = some (.int .i64 l[j].i) ∧ W.cell? ⟨g2, o2 + j * 11 + 2, none⟩ = some (.int .i64 l[j].g) ∧ W.cell? ⟨g2, o2 + j * 11 + 3, none⟩ = some (.int .i64 l[j].m) ∧ W.cell? ⟨g2, o2 + j * 11 + 4, none⟩ = some (.int .i64 l[j].x) ∧ W.cell? ⟨g2, o2 + j * 11 + 5, none⟩ = some (.int .i64 l[j].y) ∧ W.cell? ⟨g2, o2 + j * 11 + 6, none⟩ = some (.int .i64 l[j].vx) ∧ W.cell? ⟨g2, o2 + j * 11 + 7, none⟩ = some (.int .i64 l[j].vy) ∧ W.cell? ⟨g2, o2 + j * 11 + 8, none⟩ = some (.int .i64 l[j].h) ∧ W.cell? ⟨g2, o2 + j * 11 + 9, none⟩ = some (.int .i64 l[j].p) ∧ W.cell? ⟨g2, o2 + j * 11 + 10, none⟩ = some (.int .i64 l[j].l)) ∧
      ∀ V : World, (Op.equalIn 10000 42 (Bn.val l[j]) (Bn.val l[j])).run Tryz.prog V = .ok true V) := Lib.hid fun W hW j hj => by
    obtain ⟨g, o, e1, _, k1⟩ := (R1.below hW) j _ (List.getElem?_eq_getElem hj)
    obtain ⟨g2, o2, e2, _, k2⟩ := (R2.below hW) j _ (List.getElem?_eq_getElem hj)
    refine ⟨g, o, g2, o2, e1, e2, k1, k2, fun V => ?_⟩
    have := eq_bundle l[j].s l[j].i l[j].g l[j].m l[j].x l[j].y l[j].vx l[j].vy l[j].h l[j].p l[j].l l[j].s l[j].i l[j].g l[j].m l[j].x l[j].y l[j].vx l[j].vy l[j].h l[j].p l[j].l V
    simpa using this
  clear R1 R2
  have hnn : ((l.length : Int) != (l.length : Int)) = false := by simp
  have hn : (l.length : Int) ≤ 140737488351232 := by omega
  go_enter Tryz.func16, Tryz.ntmps16
  go_wp2
  go_loopw [5] (fun i wr => ∃ j : Nat, j ≤ l.length ∧ i = .int .i64 j ∧ Hid (Below w.heap.size w wr)) (fun i _ => l.length - (intOf i).toNat)
  case atStart => exact ⟨0, Nat.zero_le _, rfl, Lib.hid (Below.refl _ _)⟩
  case round =>
    obtain ⟨j, hj, rfl, HB⟩ := hrel
    by_cases hjn : j < l.length
    · have t1 : (j : Int) < (l.length : Int) := by omega
      obtain ⟨g, o, g2, o2, rfl, rfl, ⟨h0, h1, h2, h3, h4, h5, h6, h7, h8, h9, h10⟩, ⟨m0, m1, m2, m3, m4, m5, m6, m7, m8, m9, m10⟩, EQ⟩ := AT.out wr HB.out j hjn
      have NX : Hid (∀ m, Below w.heap.size w (wr.drewN m)) := Lib.hid fun m => Below.dn' HB.out m
      clear AT HB
      simp only [Bn.val] at EQ
      generalize l[j].s = y0 at *
      generalize l[j].i = y1 at *
      generalize l[j].g = y2 at *
      generalize l[j].m = y3 at *
      generalize l[j].x = y4 at *
      generalize l[j].y = y5 at *
      generalize l[j].vx = y6 at *
      generalize l[j].vy = y7 at *
      generalize l[j].h = y8 at *
      generalize l[j].p = y9 at *
      generalize l[j].l = y10 at *
      generalize l.length = n at *
      go_wp2
      go_quiet (fail)
      go_wp2
      go_roundw
      case rel => exact ⟨j + 1, by omega, by go_num, Lib.hid (NX.out _)⟩
      case measure => simp [intOf]; omega
    · obtain rfl : j = l.length := by omega
      have t1 : ¬ (l.length : Int) < (l.length : Int) := by omega
      clear AT
      generalize l.length = n at *
      go_wp2
      go_ret
      exact ⟨rfl, HB.out⟩
end Go.Proofs.YtljaahemlcaffaaGreat
namespace Go.Proofs.YtljaahemlcaffaaGreat
open Go.RowKit Pz
set_option linter.unusedVariables false
set_option linter.unusedSimpArgs false

set_option maxHeartbeats 16000000 in
set_option maxRecDepth 100000 in
theorem rsameids_yes {w : World} {A1 A2 : Option Addr} {c1 c2 : Nat} {l : List NKy} (R1 : RdI3 w w.heap.size A1 l) (R2 : RdI3 w w.heap.size A2 l) (hl : l.length ≤ 140737488351232) :
    Calls Tryz.prog 45 #[.slice A1 l.length c1, .slice A2 l.length c2] w fun e w' => e = .returned (.bool true) ∧ Below w.heap.size w w' := by
  have AT : Hid (∀ W, Below w.heap.size w W → ∀ j (hj : j < l.length), ∃ g o g2 o2, A1 = some ⟨g, o, none⟩ ∧ A2 = some ⟨g2, o2, none⟩ ∧ (W.cell? ⟨g, o + j * 3, none⟩ = some (.int .i64 l[j].1) ∧ W.cell? ⟨g, o + j * 3 + 1, none⟩ = some (.int .i64 l[j].2.1) ∧ W.cell? ⟨g, o + j * 3 + 2, none⟩ = some (.int .i64 l[j].2.2)) ∧ (W.cell? ⟨g2, o2 + j * 3, none⟩ = some (.int .i64 l[j].1) ∧ W.cell? ⟨g2, o2 + j * 3 + 1, none⟩ = some (.int .i64 l[j].2.1) ∧ W.cell? ⟨g2, o2 + j * 3 + 2, none⟩ = some (.int .i64 l[j].2.2)) ∧
      ∀ V : World, (Op.equalIn 10000 40 (.agg #[.int .i64 l[j].1, .int .i64 l[j].2.1, .int .i64 l[j].2.2]) (.agg #[.int .i64 l[j].1, .int .i64 l[j].2.1, .int .i64 l[j].2.2])).run Tryz.prog V = .ok true V) := Lib.hid fun W hW j hj => by
    obtain ⟨g, o, e1, _, k1⟩ := (R1.below hW) j _ (List.getElem?_eq_getElem hj)
    obtain ⟨g2, o2, e2, _, k2⟩ := (R2.below hW) j _ (List.getElem?_eq_getElem hj)
    refine ⟨g, o, g2, o2, e1, e2, k1, k2, fun V => ?_⟩
    have := eq_id 9998 l[j].1 l[j].2.1 l[j].2.2 l[j].1 l[j].2.1 l[j].2.2 V
    simpa using this
  clear R1 R2
  have hnn : ((l.length : Int) != (l.length : Int)) = false := by simp
  have hn : (l.length : Int) ≤ 140737488351232 := by omega
  go_enter Tryz.func45, Tryz.ntmps45
  go_wp2
  go_loopw [5] (fun i wr => ∃ j : Nat, j ≤ l.length ∧ i = .int .i64 j ∧ Hid (Below w.heap.size w wr)) (fun i _ => l.length - (intOf i).toNat)
  case atStart => exact ⟨0, Nat.zero_le _, rfl, Lib.hid (Below.refl _ _)⟩
  case round =>
    obtain ⟨j, hj, rfl, HB⟩ := hrel
    by_cases hjn : j < l.length
    · have t1 : (j : Int) < (l.length : Int) := by omega
      obtain ⟨g, o, g2, o2, rfl, rfl, ⟨h0, h1, h2⟩, ⟨m0, m1, m2⟩, EQ⟩ := AT.out wr HB.out j hjn
      have NX : Hid (∀ m, Below w.heap.size w (wr.drewN m)) := Lib.hid fun m => Below.dn' HB.out m
      clear AT HB
      generalize l[j].1 = y0 at *
      generalize l[j].2.1 = y1 at *
      generalize l[j].2.2 = y2 at *
      generalize l.length = n at *
      go_wp2
      go_quiet (fail)
      go_wp2
      go_roundw
      case rel => exact ⟨j + 1, by omega, by go_num, Lib.hid (NX.out _)⟩
      case measure => simp [intOf]; omega
    · obtain rfl : j = l.length := by omega
      have t1 : ¬ (l.length : Int) < (l.length : Int) := by omega
      clear AT
      generalize l.length = n at *
      go_wp2
      go_ret
      exact ⟨rfl, HB.out⟩
end Go.Proofs.YtljaahemlcaffaaGreat
