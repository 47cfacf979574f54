/- The document's store: Tables. -/
import Derived.Test.YteohkbepefjjlaaKArRCopy
namespace Go.Proofs.Yteohkbepefjjlaa
open Go.RowKit Pz Ar
set_option linter.unusedVariables false
set_option linter.unusedSimpArgs false

abbrev TBT : TypeId := 50
/-- a table in the making, in its box -/
structure TbI (w Wb : World) (bt m : Nat) (u : Value) (ks : List NK) (W : World) : Prop where
  bel : Below bt Wb W
  box : W.heap[bt]? = some (.cells #[.int .i64 (m : Int), u] TBT (0, 0))
  row : OwnI W bt u ks
theorem TbI.step {w Wb W : World} {bt m : Nat} {u : Value} {ks : List NK} (h : TbI w Wb bt m u ks W) (k : NK) (hl : ks.length + 1 ≤ 1000000) :
    ∃ A c, u = .slice A ks.length c ∧ ∃ A' n' c' V, (Builtin.append_ #[48, 48] 48 #[u, .slice (some ⟨W.heap.size, 0, none⟩) 1 1]).run Try.prog (W.alloc (.cells #[.int .i64 k.1, .int .i64 k.2.1, .int .i64 k.2.2] 33)) = .ok (.slice A' n' c') V ∧
      V.cell? ⟨bt, 1, none⟩ = some u ∧ V.frozen? ⟨bt, 1, none⟩ = false ∧ Hid (TbI w Wb bt m (.slice A' n' c') (ks ++ [k]) (V.setCell ⟨bt, 1, none⟩ (.slice A' n' c'))) := by
  obtain ⟨A, c, rfl⟩ := h.row.form
  have hbt := Bx.lt h.box
  obtain ⟨v', V, hr, ho, hg, _, hf⟩ := app_x (enc := idE) (T := 33) (s := 3) (t := 48) Try.underlying48 id_info rfl (by decide) idE_len idE_one h.row (Nat.le_of_lt hbt) k hl (by decide) 48
  obtain ⟨A', c', rfl⟩ := ho.form
  have hbV : V.heap[bt]? = some (.cells #[.int .i64 (m : Int), .slice A ks.length c] TBT (0, 0)) := (hg.block bt hbt (fun e => by
    obtain ⟨_, cur, hc⟩ := h.row.blk e.symm
    exact Bx.ne_type hc h.box (by decide) rfl)).trans h.box
  refine ⟨A, c, rfl, A', _, c', V, hr, (Bx.b2 hbV).1.2, (Bx.b2 hbV).2.2, Lib.hid ⟨(below_row h.bel hg (Nat.le_of_lt hbt) hf).setCell (p := ⟨bt, 1, none⟩) (Nat.le_refl _) _, Bx.set hbV _, ho.kept fun b hb => Bx.ne (fun e => ?_) _⟩⟩
  obtain ⟨_, cur, hc⟩ := ho.blk hb
  exact Bx.ne_type hc hbV (by decide) e
set_option maxHeartbeats 16000000 in
set_option maxRecDepth 100000 in
theorem rtables_any {F : Foot} {p : Nat} {t : Tb} {w : World} (h : RS F p t w) : Calls Try.prog 35 #[.pointer (some ⟨p, 0, none⟩)] w fun e w' => ∃ A' c', e = .returned (.slice A' (tabs t).length c') ∧ TabsAt w' w.heap.size (.slice A' (tabs t).length c') (tabs t) ∧ Below w.heap.size w w' := by
  have HA : Hid (∀ W, Below w.heap.size w W → ∀ m, m < 32 → ∃ A c, W.cell? ⟨p, m, none⟩ = some (.slice A (t m).length c) ∧ OwnB W 0 (.slice A (t m).length c) (t m)) := Lib.hid fun W hW m hm => (h.below hW).at_ hm
  have HF := Lib.hid h.few
  have hp := h.lt p h.mine
  clear h
  go_enter Try.func35, Try.ntmps35
  go_wp2
  go_loopw [3, 4] (fun u ix wr => ∃ m : Nat, m ≤ 32 ∧ ix = .int .i64 m ∧ Hid (TabsAt wr w.heap.size u (tabsTo t m)) ∧ Hid (Below w.heap.size w wr)) (fun u ix _ => 32 - (intOf ix).toNat)
  case atStart => exact ⟨0, Nat.zero_le _, rfl, Lib.hid (tabs_nil _ _), Lib.hid (Below.refl _ _)⟩
  case round =>
    obtain ⟨m, hm, rfl, HO, HB⟩ := hrel
    by_cases hml : m < 32
    · have t1 : (m : Int) < 32 := by omega
      obtain ⟨A, c, hc, ho⟩ := HA.out wr HB.out m hml
      obtain ⟨Au, cu, rfl⟩ := HO.out.form
      have hfew := HF.out m
      by_cases hne : 0 < (t m).length
      · have t2 : decide (((t m).length : Int) = 0) = false := decide_eq_false (by omega)
        have t2' : (((t m).length : Int) == 0) = false := by rw [beq_eq_false_iff_ne]; omega
        have B1 := bel1 wr (.cells #[.int .i64 (m : Int), .slice none 0 0] TBT)
        have T1 := at1 wr (.cells #[.int .i64 (m : Int), .slice none 0 0] TBT)
        have s1 := size1 wr (.cells #[.int .i64 (m : Int), .slice none 0 0] TBT)
        have I0 : Hid (TbI w wr wr.heap.size m (.slice none 0 0) [] (wr.alloc (.cells #[.int .i64 (m : Int), .slice none 0 0] TBT))) := Lib.hid ⟨B1, T1, .inl ⟨rfl, rfl⟩⟩
        have RD : Hid (∀ W, Below wr.heap.size wr W → W.cell? ⟨p, m, none⟩ = some (.slice A (t m).length c) ∧ ∀ j x, (t m)[j]? = some x → ∃ g o, A = some ⟨g, o, none⟩ ∧ Cells11 W g (o + j * 11) x) := Lib.hid fun W hW => by
          refine ⟨(hW.cell (p := ⟨p, m, none⟩) (by have := HB.out.size; show p < wr.heap.size; omega)).trans hc, fun j x hx => ?_⟩
          obtain ⟨g, o, e, _, hcells, _⟩ := own_at (ho.below hW) hx
          exact ⟨g, o, e, hcells⟩
        have hT := tabsTo_yes hne
        have hlen := tabsTo_le t m
        have PUSH : Hid (∀ W u, TbI w wr wr.heap.size m u ((t m).map Bn.id) W → ∃ A1 n1 c1, u = .slice A1 n1 c1 ∧ ∃ A' n' c' V, (Builtin.append_ #[46, 46] 46 #[.slice Au (tabsTo t m).length cu, .slice (some ⟨W.heap.size, 0, none⟩) 1 1]).run Try.prog (W.alloc (.cells #[.int .i64 (m : Int), u] TBT)) = .ok (.slice A' n' c') V ∧ Hid (TabsAt V w.heap.size (.slice A' n' c') (tabsTo t (m + 1)) ∧ Below w.heap.size w V)) := Lib.hid fun W u hI => by
          obtain ⟨A1, c1, rfl⟩ := hI.row.form
          have hWs := hI.bel.size
          obtain ⟨A', n', c', V, hr, hTA, hg, hf⟩ := (HO.out.below hI.bel).push (m := m) (Nat.le_trans HB.out.size hWs) (hI.row.base HB.out.size) (by omega) 46
          rw [← hT] at hTA
          exact ⟨A1, _, c1, rfl, A', n', c', V, hr, Lib.hid ⟨hTA, below_row (HB.out.trans (hI.bel.mono HB.out.size)) hg (Nat.le_trans HB.out.size hWs) hf⟩⟩
        clear ho hT B1 T1 s1 HO HA HF
        go_upto_region 7 with fail
        generalize wr = W0 at *
        have I1 : Hid (TbI w W0 W0.heap.size m (.slice none 0 0) (((t m).map Bn.id).take 0) (W0.alloc (.cells #[.int .i64 (m : Int), .slice none 0 0] TBT))) := I0
        clear I0
        generalize W0.alloc (.cells #[.int .i64 (m : Int), .slice none 0 0] TBT) = W1 at *
        obtain ⟨bt, hbt⟩ : ∃ bt, bt = W0.heap.size := ⟨_, rfl⟩
        rw [← hbt] at I1 PUSH ⊢
        have hbt2 := Lib.hid hbt
        clear hbt
        go_wp2
        go_loopw [6] (fun ix wq => ∃ (j : Nat) (u : Value), j ≤ (t m).length ∧ ix = .int .i64 j ∧ Hid (TbI w W0 bt m u (((t m).map Bn.id).take j) wq)) (fun ix _ => (t m).length - (intOf ix).toNat)
        case atStart => exact ⟨0, _, Nat.zero_le _, rfl, I1⟩
        case round =>
          obtain ⟨j, u, hj, rfl, HI⟩ := hrel
          clear I1
          have hbW : Below W0.heap.size W0 wr := by have := HI.out.bel; rw [hbt2.out] at this; exact this
          obtain ⟨hcw, hcells⟩ := RD.out wr hbW
          by_cases hjl : j < (t m).length
          · have t3 : (j : Int) < ((t m).length : Int) := by omega
            have t4 : ((t m).length : Int) ≤ 100000 := by omega
            have hx := List.getElem?_eq_getElem hjl
            obtain ⟨g, o, rfl, y0, y1, y2, _⟩ := hcells j _ hx
            have hTk : ((t m).map Bn.id).take (j + 1) = ((t m).map Bn.id).take j ++ [(t m)[j].id] := by
              rw [List.take_add_one, List.getElem?_map, hx]; rfl
            have HI2 : TbI w W0 bt m u (((t m).map Bn.id).take j) wr.drew := ⟨HI.out.bel.drew, HI.out.box, HI.out.row.kept fun _ _ => rfl⟩
            obtain ⟨A1, c1, hu, A', n', c', V, hr, kv, fv, FIN⟩ := HI2.step (t m)[j].id (by rw [List.length_take, List.length_map]; omega)
            rw [← hTk] at FIN
            have hbox := HI.out.box
            have kb := (Bx.b2 hbox).1.2
            have kb2 := (Bx.b2 (((bel1 wr (.cells #[.int .i64 (t m)[j].id.1, .int .i64 (t m)[j].id.2.1, .int .i64 (t m)[j].id.2.2] 33)).block _ (Bx.lt hbox)).trans hbox)).1.2
            have HR := Lib.hid hr
            clear hr HI HI2 hTk hx hcells hbox hbW
            generalize (t m)[j] = x at *
            obtain ⟨xs, xi, xg, xm, xx, xy, xvx, xvy, xh, xp, xl⟩ := x
            simp only [Bn.id] at *
            generalize (((t m).map Bn.id).take j).length = nk at hu
            subst hu
            go_upto_region 10 with fail
            go_region_law (refine step_append rfl (.tmp 33) (.tmp 44) 48 48 rfl (.slice A1 nk c1) (.slice (some ⟨wr.heap.size, 0, none⟩) 1 1) (by simp [Act.eval]) (by simp [Act.eval]) (.slice A' n' c') V HR.out ?_)
            all_goals
              go_wp2
              go_roundw
              case rel => exact ⟨j + 1, _, by omega, by go_num, FIN⟩
              case measure => simp [intOf]; omega
          · obtain rfl : j = (t m).length := by omega
            have t3 : ¬ ((t m).length : Int) < ((t m).length : Int) := by omega
            have HI2 := HI.out
            rw [List.take_of_length_le (by simp)] at HI2
            obtain ⟨A1, n1, c1, rfl, A', n', c', V, hr, FX⟩ := PUSH.out wr u HI2
            have kb := Bx.b2 HI2.box
            obtain ⟨⟨kb0, kb1⟩, _⟩ := kb
            have HR := Lib.hid hr
            clear hr HI HI2 hcells hbW PUSH
            go_wp2_with (at_builtin; refine wpList_append _ rfl (.tmp 47) (.tmp 49) _ _ rfl _ _ rfl rfl _ _ HR.out ?_)
            go_roundw
            case rel => exact ⟨m + 1, by omega, by go_num, Lib.hid FX.out.1, Lib.hid FX.out.2⟩
            case measure => simp [intOf]; omega
      · have t2 : decide (((t m).length : Int) = 0) = true := decide_eq_true (by omega)
        have HV := HO.out
        have hT := tabsTo_no hne
        have e0 : (t m).length = 0 := by omega
        rw [e0] at hc t2
        clear ho HO HA HF
        go_wp2
        go_roundw
        case rel => exact ⟨m + 1, by omega, by go_num, Lib.hid (by rw [hT]; exact HV), HB⟩
        case measure => simp [intOf]; omega
    · obtain rfl : m = 32 := by omega
      have t1 : ¬ (32 : Int) < 32 := by omega
      obtain ⟨Au, cu, rfl⟩ := HO.out.form
      go_wp2
      go_ret
      exact ⟨Au, cu, rfl, HO.out, HB.out⟩
end Go.Proofs.Yteohkbepefjjlaa
