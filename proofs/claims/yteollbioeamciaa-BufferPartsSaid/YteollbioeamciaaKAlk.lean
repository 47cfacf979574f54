/- ArTSame, ArRAll, ArRTab, ArAlike, BuTwo, in one text. -/
import Derived.Test.YteollbioeamciaaKTab
import Derived.Test.YteollbioeamciaaKPz
import Derived.Test.YteollbioeamciaaKSeq
import Derived.Test.YteollbioeamciaaKTwo
import Derived.Test.YteollbioeamciaaKMem
namespace Go.Proofs.Yteollbioeamciaa
open Go.RowKit Pz Ar
set_option linter.unusedVariables false
set_option linter.unusedSimpArgs false

set_option maxHeartbeats 16000000 in
set_option maxRecDepth 100000 in
theorem tsame_yes {w : World} {A1 A2 : Option Addr} {c1 c2 B1 B2 : Nat} {T : List (Nat × List NK)} (H1 : TabsAt w B1 (.slice A1 T.length c1) T) (H2 : TabsAt w B2 (.slice A2 T.length c2) T) (hl : T.length ≤ 1000000) (hk : ∀ x ∈ T, x.2.length ≤ 1000000) :
    Calls Try.prog 36 #[.slice A1 T.length c1, .slice A2 T.length c2] w fun e w' => e = .returned (.bool true) ∧ Below w.heap.size w w' := by
  have AT : Hid (∀ W, Below w.heap.size w W → ∀ j (hj : j < T.length), ∃ g o g2 o2, A1 = some ⟨g, o, none⟩ ∧ A2 = some ⟨g2, o2, none⟩ ∧ W.cell? ⟨g, o + j * 2, none⟩ = some (.int .i64 (T[j].1 : Int)) ∧ W.cell? ⟨g2, o2 + j * 2, none⟩ = some (.int .i64 (T[j].1 : Int)) ∧ ∃ a c a2 c2, W.cell? ⟨g, o + j * 2 + 1, none⟩ = some (.slice a T[j].2.length c) ∧ W.cell? ⟨g2, o2 + j * 2 + 1, none⟩ = some (.slice a2 T[j].2.length c2) ∧
      Hid (∀ k (hk : k < T[j].2.length), ∃ d e d2 e2, a = some ⟨d, e, none⟩ ∧ a2 = some ⟨d2, e2, none⟩ ∧ (W.cell? ⟨d, e + k * 3, none⟩ = some (.int .i64 T[j].2[k].1) ∧ W.cell? ⟨d, e + k * 3 + 1, none⟩ = some (.int .i64 T[j].2[k].2.1) ∧ W.cell? ⟨d, e + k * 3 + 2, none⟩ = some (.int .i64 T[j].2[k].2.2)) ∧ (W.cell? ⟨d2, e2 + k * 3, none⟩ = some (.int .i64 T[j].2[k].1) ∧ W.cell? ⟨d2, e2 + k * 3 + 1, none⟩ = some (.int .i64 T[j].2[k].2.1) ∧ W.cell? ⟨d2, e2 + k * 3 + 2, none⟩ = some (.int .i64 T[j].2[k].2.2)))) := Lib.hid fun W hW j hj => by
    obtain ⟨g, o, e1, _, k1, a, c, s1, o1⟩ := (H1.below hW).at_ (List.getElem?_eq_getElem hj)
    obtain ⟨g2, o2, e2, _, k2, a2, c2, s2, o2'⟩ := (H2.below hW).at_ (List.getElem?_eq_getElem hj)
    refine ⟨g, o, g2, o2, e1, e2, k1, k2, a, c, a2, c2, s1, s2, Lib.hid fun k hk => ?_⟩
    obtain ⟨d, e, f1, _, x1, _⟩ := owni_at o1 (List.getElem?_eq_getElem hk)
    obtain ⟨d2, e2, f2, _, x2, _⟩ := owni_at o2' (List.getElem?_eq_getElem hk)
    exact ⟨d, e, d2, e2, f1, f2, x1, x2⟩
  have LK : Hid (∀ j (hj : j < T.length), T[j].2.length ≤ 1000000) := Lib.hid fun j hj => hk _ (List.getElem_mem hj)
  clear H1 H2 hk
  have hn : (T.length : Int) ≤ 1000000 := by omega
  have hnn : ((T.length : Int) != (T.length : Int)) = false := by simp
  go_enter Try.func36, Try.ntmps36
  go_wp2
  go_loopw [5] (fun i wr => ∃ j : Nat, j ≤ T.length ∧ i = .int .i64 j ∧ Hid (Below w.heap.size w wr)) (fun i _ => T.length - (intOf i).toNat)
  case atStart => exact ⟨0, Nat.zero_le _, rfl, Lib.hid (Below.refl _ _)⟩
  case round =>
    obtain ⟨j, hj, rfl, HB⟩ := hrel
    by_cases hjn : j < T.length
    · have t1 : (j : Int) < (T.length : Int) := by omega
      obtain ⟨g, o, g2, o2, rfl, rfl, k1, k2, a, c, a2, c2, s1, s2, _⟩ := AT.out wr HB.out j hjn
      have NX : Hid (∀ m, Below w.heap.size w (wr.drewN m)) := Lib.hid fun m => Below.dn' HB.out m
      have l1 := LK.out j hjn
      have nm : ((T[j].1 : Int) != (T[j].1 : Int)) = false := by simp
      have nm2 : ((T[j].2.length : Int) != (T[j].2.length : Int)) = false := by simp
      have d1 : decide ((T[j].1 : Int) = (T[j].1 : Int)) = true := by simp
      have d2 : decide ((T[j].2.length : Int) = (T[j].2.length : Int)) = true := by simp
      obtain ⟨mj, hmj⟩ : ∃ m : Int, m = (T[j].1 : Int) := ⟨_, rfl⟩
      rw [← hmj] at k1 k2 nm d1
      clear hmj
      go_wp2
      go_quiet (fail)
      clear k1 k2 s1 s2 nm nm2 d1 d2 HB
      go_wp2
      go_loopw [6] (fun ix wq => ∃ k : Nat, k ≤ T[j].2.length ∧ ix = .int .i64 k ∧ Hid (Below w.heap.size w wq)) (fun ix _ => T[j].2.length - (intOf ix).toNat)
      case atStart => exact ⟨0, Nat.zero_le _, rfl, Lib.hid (NX.out _)⟩
      case round =>
        obtain ⟨k, hk, rfl, HB⟩ := hrel
        clear NX
        obtain ⟨g', o', g2', o2', eg, eg2, k1, k2, a, c, a2, c2, s1, s2, KS⟩ := AT.out wr HB.out j hjn
        cases eg
        cases eg2
        clear k1 k2
        by_cases hkl : k < T[j].2.length
        · have t3 : (k : Int) < (T[j].2.length : Int) := by omega
          have hk4 : (T[j].2.length : Int) ≤ 1000000 := by omega
          obtain ⟨d, e, d2, e2, rfl, rfl, ⟨y0, y1, y2⟩, ⟨z0, z1, z2⟩⟩ := KS.out k hkl
          have NX : Hid (∀ m, Below w.heap.size w (wr.drewN m)) := Lib.hid fun m => Below.dn' HB.out m
          have EQ : ∀ V : World, (Op.equalIn 10000 34 (.agg #[.int .i64 T[j].2[k].1, .int .i64 T[j].2[k].2.1, .int .i64 T[j].2[k].2.2]) (.agg #[.int .i64 T[j].2[k].1, .int .i64 T[j].2[k].2.1, .int .i64 T[j].2[k].2.2])).run Try.prog V = .ok true V := fun V => by
            have := eq_id 9998 T[j].2[k].1 T[j].2[k].2.1 T[j].2[k].2.2 T[j].2[k].1 T[j].2[k].2.1 T[j].2[k].2.2 V
            simpa using this
          clear KS AT LK HB
          generalize T[j].2[k].1 = q0 at *
          generalize T[j].2[k].2.1 = q1 at *
          generalize T[j].2[k].2.2 = q2 at *
          go_wp2
          go_quiet (fail)
          go_wp2
          go_roundw
          case rel => exact ⟨k + 1, by omega, by go_num, Lib.hid (NX.out _)⟩
          case measure => simp [intOf]; omega
        · have t3 : ¬ (k : Int) < (T[j].2.length : Int) := by omega
          clear KS AT LK
          go_wp2
          go_roundw
          case rel => exact ⟨j + 1, by omega, by go_num, HB⟩
          case measure => simp [intOf]; omega
    · obtain rfl : j = T.length := by omega
      have t1 : ¬ (T.length : Int) < (T.length : Int) := by omega
      clear AT LK
      generalize T.length = n at *
      go_wp2
      go_ret
      exact ⟨rfl, HB.out⟩
end Go.Proofs.Yteollbioeamciaa
namespace Go.Proofs.Yteollbioeamciaa
open Go.RowKit Pz Ar
set_option linter.unusedVariables false
set_option linter.unusedSimpArgs false

theorem sum_mono (f g : Nat → Nat) (h : ∀ a, f a ≤ g a) : ∀ l : List Nat, (l.map f).sum ≤ (l.map g).sum
  | [] => Nat.le_refl _
  | a :: l => by
    rw [List.map_cons, List.map_cons, List.sum_cons, List.sum_cons]
    have := h a
    have := sum_mono f g h l
    omega
theorem total_mono {s t : Tb} (h : ∀ a, (s a).length ≤ (t a).length) : total s ≤ total t := sum_mono _ _ h _
/-- a row appended whole to one's own -/
theorem app_more {W : World} {B B2 : Nat} {v : Value} {l r : List Bn} {A : Option Addr} {c : Nat} (h : OwnB W B v l) (hB : B ≤ W.heap.size) (hr : OwnB W B2 (.slice A r.length c) r) (hl : l.length + r.length ≤ 1000000) (ty : TypeId) :
    ∃ v' w', (Builtin.append_ #[26, 26] ty #[v, .slice A r.length c]).run Try.prog W = .ok v' w' ∧ OwnB w' B v' (l ++ r) ∧ W.grownBy w' v.ownBlock ∧ ∀ g, v.ownBlock = some g → B ≤ g := by
  by_cases h0 : 0 < r.length
  · obtain ⟨g, o, c', e, _, hg, hc⟩ := hr.at_ (j := 0) (List.getElem?_eq_getElem h0)
    cases e
    obtain ⟨v', w', hrun, ho, hgr, _⟩ := h.app (P := Try.prog) (t := 26) (ty := ty) Try.underlying26 bundle_info rfl (by decide) bnE_len bnE_one hB r ⟨g, o, none⟩ c (fun j y hj c2 u hu => by
      obtain ⟨g2, o2, c3, e2, _, _, hc2⟩ := hr.at_ hj
      cases e2
      rw [Addr.add_mid]
      exact (hc2 c2 u hu).1) hl (by decide) (.inl h0)
    exact ⟨v', w', hrun, ho, hgr, fun g e => (h.blk e).1⟩
  · obtain rfl : r = [] := List.length_eq_zero_iff.1 (by omega)
    obtain ⟨i, hi, _, h2, _⟩ := info_parts (P := Try.prog) bundle_info
    have hs : Src Try.prog i.size 26 (.slice A 0 c) 0 [] W := by
      cases A with
      | none => exact Src.ofNil W Try.underlying26 c
      | some a => exact Src.ofSlice W Try.underlying26 a 0 c [] (by simp) (fun j u hj => by simp at hj) (by simp)
    obtain ⟨A', c', rfl⟩ := h.form
    have hle : l.length ≤ c' := by
      rcases h with ⟨e, e2⟩ | ⟨_, _, _, _, e, _, _, e3, _⟩
      · subst e2
        have := congrArg (fun v => match v with | Value.slice _ _ c => c | _ => 0) e
        simp at this ⊢
      · cases e; exact e3
    exact ⟨_, W, run_append_nothing W _ _ ty _ i Try.underlying26 hi A' l.length c' hle _ hs, by simpa using h, World.grownBy.refl W _, fun g e => (h.blk e).1⟩
set_option maxHeartbeats 8000000 in
set_option maxRecDepth 100000 in
theorem rall_any {F : Foot} {p : Nat} {t : Tb} {w : World} (h : RS F p t w) (hl : total t ≤ 100000) : Calls Try.prog 34 #[.pointer (some ⟨p, 0, none⟩)] w fun e w' => ∃ A c, e = .returned (.slice A (all t).length c) ∧ OwnB w' w.heap.size (.slice A (all t).length c) (all t) ∧ Below w.heap.size w w' := by
  have HA : Hid (∀ W, Below w.heap.size w W → ∀ m, m < 32 → ∃ A c, W.cell? ⟨p, m, none⟩ = some (.slice A (t m).length c) ∧ OwnB W 0 (.slice A (t m).length c) (t m)) := Lib.hid fun W hW m hm => (h.below hW).at_ hm
  have HL : Hid (∀ m, m < 32 → ((List.range m).flatMap t).length + (t m).length ≤ 1000000) := Lib.hid fun m hm => by
    have h1 := total_all (upto t m (t m).length)
    rw [all_upto t (by omega), if_pos hm, List.length_append, List.take_length] at h1
    have h2 := total_mono (s := upto t m (t m).length) (t := t) (fun a => by unfold upto; split; exact Nat.le_refl _; split; (rename_i e; subst e; rw [List.length_take]; omega); simp)
    omega
  clear h
  go_enter Try.func34, Try.ntmps34
  go_wp2
  go_loopw [3, 4] (fun u ix wr => ∃ m : Nat, m ≤ 32 ∧ ix = .int .i64 m ∧ Hid (OwnB wr w.heap.size u ((List.range m).flatMap t)) ∧ Hid (Below w.heap.size w wr)) (fun u ix _ => 32 - (intOf ix).toNat)
  case atStart => exact ⟨0, Nat.zero_le _, rfl, Lib.hid (.inl ⟨rfl, rfl⟩), Lib.hid (Below.refl _ _)⟩
  case round =>
    obtain ⟨m, hm, rfl, HO, HB⟩ := hrel
    by_cases hml : m < 32
    · have t1 : (m : Int) < 32 := by omega
      obtain ⟨A, c, hc, ho⟩ := HA.out wr HB.out m hml
      obtain ⟨Au, cu, hu⟩ := HO.out.form
      obtain ⟨v', w', hr, ho', hg, hf⟩ := app_more HO.out HB.out.size ho (HL.out m hml) 26
      generalize ((List.range m).flatMap t).length = n0 at hu
      have HV : Hid (OwnB w' w.heap.size v' ((List.range (m + 1)).flatMap t)) := Lib.hid (by rw [← flat_next, List.take_length]; exact ho')
      have HN := Lib.hid (below_row HB.out hg HB.out.size hf)
      have HR := Lib.hid hr
      clear ho hr ho' hg hf HO
      subst hu
      go_wp2_with (at_builtin; refine wpList_append _ rfl (.tmp 9) (.tmp 15) _ _ rfl _ _ rfl rfl _ _ HR.out ?_)
      go_roundw
      case rel => exact ⟨m + 1, by omega, by go_num, HV, HN⟩
      case measure => simp [intOf]; omega
    · obtain rfl : m = 32 := by omega
      have t1 : ¬ (32 : Int) < 32 := by omega
      have HO2 : OwnB wr w.heap.size _ (all t) := HO.out
      clear HO
      obtain ⟨Au, cu, hu⟩ := HO2.form
      subst hu
      replace HO2 := Lib.hid HO2
      go_wp2
      go_ret
      exact ⟨Au, cu, rfl, HO2.out, HB.out⟩
end Go.Proofs.Yteollbioeamciaa
namespace Go.Proofs.Yteollbioeamciaa
open Go.RowKit Pz Ar
set_option linter.unusedVariables false
set_option linter.unusedSimpArgs false

abbrev TBT : TypeId := 94
/-- a table in the making, in its box -/
structure TbI (w Wb : World) (bt m : Nat) (u : Value) (ks : List NK) (W : World) : Prop where
  bel : Below bt Wb W
  box : W.heap[bt]? = some (.cells #[.int .i64 (m : Int), u] TBT (0, 0))
  row : OwnI W bt u ks
theorem TbI.step {w Wb W : World} {bt m : Nat} {u : Value} {ks : List NK} (h : TbI w Wb bt m u ks W) (k : NK) (hl : ks.length + 1 ≤ 1000000) :
    ∃ A c, u = .slice A ks.length c ∧ ∃ A' n' c' V, (Builtin.append_ #[92, 92] 92 #[u, .slice (some ⟨W.heap.size, 0, none⟩) 1 1]).run Try.prog (W.alloc (.cells #[.int .i64 k.1, .int .i64 k.2.1, .int .i64 k.2.2] 34)) = .ok (.slice A' n' c') V ∧
      V.cell? ⟨bt, 1, none⟩ = some u ∧ V.frozen? ⟨bt, 1, none⟩ = false ∧ Hid (TbI w Wb bt m (.slice A' n' c') (ks ++ [k]) (V.setCell ⟨bt, 1, none⟩ (.slice A' n' c'))) := by
  obtain ⟨A, c, rfl⟩ := h.row.form
  have hbt := Bx.lt h.box
  obtain ⟨v', V, hr, ho, hg, _, hf⟩ := app_x (enc := idE) (T := 34) (s := 3) (t := 92) Try.underlying92 id_info rfl (by decide) idE_len idE_one h.row (Nat.le_of_lt hbt) k hl (by decide) 92
  obtain ⟨A', c', rfl⟩ := ho.form
  have hbV : V.heap[bt]? = some (.cells #[.int .i64 (m : Int), .slice A ks.length c] TBT (0, 0)) := (hg.block bt hbt (fun e => by
    obtain ⟨_, cur, hc⟩ := h.row.blk e.symm
    exact Bx.ne_type hc h.box (by decide) rfl)).trans h.box
  refine ⟨A, c, rfl, A', _, c', V, hr, (Bx.b2 hbV).1.2, (Bx.b2 hbV).2.2, Lib.hid ⟨(below_row h.bel hg (Nat.le_of_lt hbt) hf).setCell (p := ⟨bt, 1, none⟩) (Nat.le_refl _) _, Bx.set hbV _, ho.kept fun b hb => Bx.ne (fun e => ?_) _⟩⟩
  obtain ⟨_, cur, hc⟩ := ho.blk hb
  exact Bx.ne_type hc hbV (by decide) e
set_option maxHeartbeats 16000000 in
set_option maxRecDepth 100000 in
theorem rtables_any {F : Foot} {p : Nat} {t : Tb} {w : World} (h : RS F p t w) : Calls Try.prog 38 #[.pointer (some ⟨p, 0, none⟩)] w fun e w' => ∃ A' c', e = .returned (.slice A' (tabs t).length c') ∧ TabsAt w' w.heap.size (.slice A' (tabs t).length c') (tabs t) ∧ Below w.heap.size w w' := by
  have HA : Hid (∀ W, Below w.heap.size w W → ∀ m, m < 32 → ∃ A c, W.cell? ⟨p, m, none⟩ = some (.slice A (t m).length c) ∧ OwnB W 0 (.slice A (t m).length c) (t m)) := Lib.hid fun W hW m hm => (h.below hW).at_ hm
  have HF := Lib.hid h.few
  have hp := h.lt p h.mine
  clear h
  go_enter Try.func38, Try.ntmps38
  go_wp2
  go_loopw [3, 4] (fun u ix wr => ∃ m : Nat, m ≤ 32 ∧ ix = .int .i64 m ∧ Hid (TabsAt wr w.heap.size u (tabsTo t m)) ∧ Hid (Below w.heap.size w wr)) (fun u ix _ => 32 - (intOf ix).toNat)
  case atStart => exact ⟨0, Nat.zero_le _, rfl, Lib.hid (tabs_nil _ _), Lib.hid (Below.refl _ _)⟩
  case round =>
    obtain ⟨m, hm, rfl, HO, HB⟩ := hrel
    by_cases hml : m < 32
    · have t1 : (m : Int) < 32 := by omega
      obtain ⟨A, c, hc, ho⟩ := HA.out wr HB.out m hml
      obtain ⟨Au, cu, rfl⟩ := HO.out.form
      have hfew := HF.out m
      by_cases hne : 0 < (t m).length
      · have t2 : decide (((t m).length : Int) = 0) = false := decide_eq_false (by omega)
        have t2' : (((t m).length : Int) == 0) = false := by rw [beq_eq_false_iff_ne]; omega
        have B1 := bel1 wr (.cells #[.int .i64 (m : Int), .slice none 0 0] TBT)
        have T1 := at1 wr (.cells #[.int .i64 (m : Int), .slice none 0 0] TBT)
        have s1 := size1 wr (.cells #[.int .i64 (m : Int), .slice none 0 0] TBT)
        have I0 : Hid (TbI w wr wr.heap.size m (.slice none 0 0) [] (wr.alloc (.cells #[.int .i64 (m : Int), .slice none 0 0] TBT))) := Lib.hid ⟨B1, T1, .inl ⟨rfl, rfl⟩⟩
        have RD : Hid (∀ W, Below wr.heap.size wr W → W.cell? ⟨p, m, none⟩ = some (.slice A (t m).length c) ∧ ∀ j x, (t m)[j]? = some x → ∃ g o, A = some ⟨g, o, none⟩ ∧ Cells11 W g (o + j * 11) x) := Lib.hid fun W hW => by
          refine ⟨(hW.cell (p := ⟨p, m, none⟩) (by have := HB.out.size; show p < wr.heap.size; omega)).trans hc, fun j x hx => ?_⟩
          obtain ⟨g, o, e, _, hcells, _⟩ := own_at (ho.below hW) hx
          exact ⟨g, o, e, hcells⟩
        have hT := tabsTo_yes hne
        have hlen := tabsTo_le t m
        have PUSH : Hid (∀ W u, TbI w wr wr.heap.size m u ((t m).map Bn.id) W → ∃ A1 n1 c1, u = .slice A1 n1 c1 ∧ ∃ A' n' c' V, (Builtin.append_ #[76, 76] 76 #[.slice Au (tabsTo t m).length cu, .slice (some ⟨W.heap.size, 0, none⟩) 1 1]).run Try.prog (W.alloc (.cells #[.int .i64 (m : Int), u] TBT)) = .ok (.slice A' n' c') V ∧ Hid (TabsAt V w.heap.size (.slice A' n' c') (tabsTo t (m + 1)) ∧ Below w.heap.size w V)) := Lib.hid fun W u hI => by
          obtain ⟨A1, c1, rfl⟩ := hI.row.form
          have hWs := hI.bel.size
          obtain ⟨A', n', c', V, hr, hTA, hg, hf⟩ := (HO.out.below hI.bel).push (m := m) (Nat.le_trans HB.out.size hWs) (hI.row.base HB.out.size) (by omega) 76
          rw [← hT] at hTA
          exact ⟨A1, _, c1, rfl, A', n', c', V, hr, Lib.hid ⟨hTA, below_row (HB.out.trans (hI.bel.mono HB.out.size)) hg (Nat.le_trans HB.out.size hWs) hf⟩⟩
        clear ho hT B1 T1 s1 HO HA HF
        go_upto_region 7 with fail
        generalize wr = W0 at *
        have I1 : Hid (TbI w W0 W0.heap.size m (.slice none 0 0) (((t m).map Bn.id).take 0) (W0.alloc (.cells #[.int .i64 (m : Int), .slice none 0 0] TBT))) := I0
        clear I0
        generalize W0.alloc (.cells #[.int .i64 (m : Int), .slice none 0 0] TBT) = W1 at *
        obtain ⟨bt, hbt⟩ : ∃ bt, bt = W0.heap.size := ⟨_, rfl⟩
        rw [← hbt] at I1 PUSH ⊢
        have hbt2 := Lib.hid hbt
        clear hbt
        go_wp2
        go_loopw [6] (fun ix wq => ∃ (j : Nat) (u : Value), j ≤ (t m).length ∧ ix = .int .i64 j ∧ Hid (TbI w W0 bt m u (((t m).map Bn.id).take j) wq)) (fun ix _ => (t m).length - (intOf ix).toNat)
        case atStart => exact ⟨0, _, Nat.zero_le _, rfl, I1⟩
        case round =>
          obtain ⟨j, u, hj, rfl, HI⟩ := hrel
          clear I1
          have hbW : Below W0.heap.size W0 wr := by have := HI.out.bel; rw [hbt2.out] at this; exact this
          obtain ⟨hcw, hcells⟩ := RD.out wr hbW
          by_cases hjl : j < (t m).length
          · have t3 : (j : Int) < ((t m).length : Int) := by omega
            have t4 : ((t m).length : Int) ≤ 100000 := by omega
            have hx := List.getElem?_eq_getElem hjl
            obtain ⟨g, o, rfl, y0, y1, y2, _⟩ := hcells j _ hx
            have hTk : ((t m).map Bn.id).take (j + 1) = ((t m).map Bn.id).take j ++ [(t m)[j].id] := by
              rw [List.take_add_one, List.getElem?_map, hx]; rfl
            have HI2 : TbI w W0 bt m u (((t m).map Bn.id).take j) wr.drew := ⟨HI.out.bel.drew, HI.out.box, HI.out.row.kept fun _ _ => rfl⟩
            obtain ⟨A1, c1, hu, A', n', c', V, hr, kv, fv, FIN⟩ := HI2.step (t m)[j].id (by rw [List.length_take, List.length_map]; omega)
            rw [← hTk] at FIN
            have hbox := HI.out.box
            have kb := (Bx.b2 hbox).1.2
            have kb2 := (Bx.b2 (((bel1 wr (.cells #[.int .i64 (t m)[j].id.1, .int .i64 (t m)[j].id.2.1, .int .i64 (t m)[j].id.2.2] 34)).block _ (Bx.lt hbox)).trans hbox)).1.2
            have HR := Lib.hid hr
            clear hr HI HI2 hTk hx hcells hbox hbW
            generalize (t m)[j] = x at *
            obtain ⟨xs, xi, xg, xm, xx, xy, xvx, xvy, xh, xp, xl⟩ := x
            simp only [Bn.id] at *
            generalize (((t m).map Bn.id).take j).length = nk at hu
            subst hu
            go_upto_region 10 with fail
            go_region_law (refine step_append rfl (.tmp 33) (.tmp 44) 92 92 rfl (.slice A1 nk c1) (.slice (some ⟨wr.heap.size, 0, none⟩) 1 1) (by simp [Act.eval]) (by simp [Act.eval]) (.slice A' n' c') V HR.out ?_)
            all_goals
              go_wp2
              go_roundw
              case rel => exact ⟨j + 1, _, by omega, by go_num, FIN⟩
              case measure => simp [intOf]; omega
          · obtain rfl : j = (t m).length := by omega
            have t3 : ¬ ((t m).length : Int) < ((t m).length : Int) := by omega
            have HI2 := HI.out
            rw [List.take_of_length_le (by simp)] at HI2
            obtain ⟨A1, n1, c1, rfl, A', n', c', V, hr, FX⟩ := PUSH.out wr u HI2
            have kb := Bx.b2 HI2.box
            obtain ⟨⟨kb0, kb1⟩, _⟩ := kb
            have HR := Lib.hid hr
            clear hr HI HI2 hcells hbW PUSH
            go_wp2_with (at_builtin; refine wpList_append _ rfl (.tmp 47) (.tmp 49) _ _ rfl _ _ rfl rfl _ _ HR.out ?_)
            go_roundw
            case rel => exact ⟨m + 1, by omega, by go_num, Lib.hid FX.out.1, Lib.hid FX.out.2⟩
            case measure => simp [intOf]; omega
      · have t2 : decide (((t m).length : Int) = 0) = true := decide_eq_true (by omega)
        have HV := HO.out
        have hT := tabsTo_no hne
        have e0 : (t m).length = 0 := by omega
        rw [e0] at hc t2
        clear ho HO HA HF
        go_wp2
        go_roundw
        case rel => exact ⟨m + 1, by omega, by go_num, Lib.hid (by rw [hT]; exact HV), HB⟩
        case measure => simp [intOf]; omega
    · obtain rfl : m = 32 := by omega
      have t1 : ¬ (32 : Int) < 32 := by omega
      obtain ⟨Au, cu, rfl⟩ := HO.out.form
      go_wp2
      go_ret
      exact ⟨Au, cu, rfl, HO.out, HB.out⟩
end Go.Proofs.Yteollbioeamciaa
namespace Go.Proofs.Yteollbioeamciaa
open Go.RowKit Pz Ar
set_option linter.unusedVariables false
set_option linter.unusedSimpArgs false

set_option maxHeartbeats 16000000 in
set_option maxRecDepth 100000 in
theorem alike_any {w : World} {F G : Foot} {s r : Nat} {t : Tb} (hC : CS F s t w) (hR : RS G r t w) (hl : total t ≤ 10000) :
    Calls Try.prog 13 #[.pointer (some ⟨s, 0, none⟩), .pointer (some ⟨r, 0, none⟩)] w fun e w' => e = .returned (.bool true) ∧ Below w.heap.size w w' := by
  have hg := hC.good
  have ht : total t = (all t).length := by rw [total_all]
  have RA := Lib.hid (rall_any hR (by omega))
  have TL : (tabs t).length ≤ 32 := by rw [tabs_to]; exact tabsTo_le t 32
  have TK : ∀ x ∈ tabs t, x.2.length ≤ 1000000 := fun x hx => by
    obtain ⟨m, hm, he⟩ := List.mem_filterMap.1 hx
    split at he
    · cases he
    · cases he
      rw [List.length_map]
      have := hC.few m
      omega
  have HL := Lib.hid fun W (hW : Below w.heap.size w W) => len_any (hC.below hW)
  have HA : Hid (∀ W, Below w.heap.size w W → Calls Try.prog 35 #[.pointer (some ⟨s, 0, none⟩), .int .i64 10000] W fun e V => ∃ A c, e = .returned (.slice A (all t).length c) ∧ OwnB V W.heap.size (.slice A (all t).length c) (all t) ∧ Below W.heap.size W V) := Lib.hid fun W hW => by
    have := all_any (hC.below hW) 10000 (by decide) (by omega)
    rw [List.take_of_length_le (by omega)] at this
    exact this
  have HT := Lib.hid fun W (hW : Below w.heap.size w W) => tables_any (hC.below hW)
  have RT := Lib.hid fun W (hW : Below w.heap.size w W) => rtables_any (hR.below hW)
  have FX : Hid (∀ j (hj : j < (all t).length), ∃ m i, Ar.find t (all t)[j].id = some (m, i) ∧ (t m)[i]? = some (all t)[j]) := Lib.hid fun j hj => by
    obtain ⟨m, i, _, hx⟩ := all_mem (List.getElem_mem hj)
    exact ⟨m, i, find_is hg hx, hx⟩
  have GX := Lib.hid fun W (hW : Below w.heap.size w W) => get_any (hC.below hW)
  have RX := Lib.hid fun W (hW : Below w.heap.size w W) => row_any (hC.below hW)
  have DX := Lib.hid fun W (hW : Below w.heap.size w W) => rGet_any (hR.below hW)
  rw [ht] at HL
  have hl2 : ((all t).length : Int) ≤ 10000 := by omega
  have hnn : (((all t).length : Int) != ((all t).length : Int)) = false := by simp
  have hrs : (all t).length ≤ 140737488351232 := by omega
  clear hC hR hl ht hg
  generalize all t = L at *
  generalize tabs t = T at *
  go_enter Try.func13, Try.ntmps13
  go_wp2_with (first
    | (go_at_call 34; refine RA.out.mono ?_; rintro e w1 ⟨A1, c1, rfl, o1, b1⟩; have RL := RdB.of_own o1; have B1 := b1; clear o1 b1 RA)
    | (go_at_call 24; refine (HL.out _ B1).mono ?_; rintro e w2 ⟨rfl, rfl⟩; clear HL)
    | (go_at_call 35; refine (HA.out _ B1).mono ?_; rintro e w3 ⟨A3, c3, rfl, o3, b3⟩; have RM := RdB.of_own o3; have RL3 := (RL.below b3).more b3.size; have B3 := B1.trans (b3.mono B1.size); clear o3 b3 HA B1 RL)
    | (go_at_call 23; refine (rsame_yes RM RL3 hrs).mono ?_; rintro e w4 ⟨rfl, b4⟩; have B4 := B3.trans (b4.mono B3.size); have RL4 := (RL3.below b4).more b4.size; clear RM RL3 b4 B3)
    | (go_at_call 37; refine (HT.out _ B4).mono ?_; rintro e w5 ⟨A5, c5, rfl, T5, b5⟩; have B5 := B4.trans (b5.mono B4.size); have RL5 := (RL4.below b5).more b5.size; clear RL4 b5 B4 HT)
    | (go_at_call 38; refine (RT.out _ B5).mono ?_; rintro e w6 ⟨A6, c6, rfl, T6, b6⟩; have B6 := B5.trans (b6.mono B5.size); have RL6 := (RL5.below b6).more b6.size; have T5' := T5.below b6; clear RL5 b6 B5 RT T5)
    | (go_at_call 36; refine (tsame_yes T5' T6 (by omega) TK).mono ?_; rintro e w7 ⟨rfl, b7⟩; have B7 := Lib.hid (B6.trans (b7.mono B6.size)); have RL7 := Lib.hid ((RL6.below b7).more b7.size); clear RL6 b7 B6 T5' T6 TK TL))
  go_loopw [6] (fun i wr => ∃ j : Nat, j ≤ L.length ∧ i = .int .i64 j ∧ Hid (Below w7.heap.size w7 wr)) (fun i _ => L.length - (intOf i).toNat)
  case atStart => exact ⟨0, Nat.zero_le _, rfl, Lib.hid (Below.refl _ _)⟩
  case round =>
    obtain ⟨j, hj, rfl, HB⟩ := hrel
    by_cases hjn : j < L.length
    · have t1 : (j : Int) < (L.length : Int) := by omega
      obtain ⟨m, i, hf, hx⟩ := FX.out j hjn
      obtain ⟨g, o, rfl, _⟩ := (RL7.out.below HB.out) j _ (List.getElem?_eq_getElem hjn)
      have RC0 : Hid (∀ W, Below w7.heap.size w7 W → W.cell? ⟨g, o + j * 11, none⟩ = some (.int .i64 L[j].s) ∧ W.cell? ⟨g, o + j * 11 + 1, none⟩ = some (.int .i64 L[j].i) ∧ W.cell? ⟨g, o + j * 11 + 2, none⟩ = some (.int .i64 L[j].g) ∧ W.cell? ⟨g, o + j * 11 + 3, none⟩ = some (.int .i64 L[j].m) ∧ W.cell? ⟨g, o + j * 11 + 4, none⟩ = some (.int .i64 L[j].x) ∧ W.cell? ⟨g, o + j * 11 + 5, none⟩ = some (.int .i64 L[j].y) ∧ W.cell? ⟨g, o + j * 11 + 6, none⟩ = some (.int .i64 L[j].vx) ∧ W.cell? ⟨g, o + j * 11 + 7, none⟩ = some (.int .i64 L[j].vy) ∧ W.cell? ⟨g, o + j * 11 + 8, none⟩ = some (.int .i64 L[j].h) ∧ W.cell? ⟨g, o + j * 11 + 9, none⟩ = some (.int .i64 L[j].p) ∧ W.cell? ⟨g, o + j * 11 + 10, none⟩ = some (.int .i64 L[j].l)) := Lib.hid fun W hW => by
        obtain ⟨g', o', e, _, hc⟩ := (RL7.out.below hW) j _ (List.getElem?_eq_getElem hjn)
        cases e
        exact hc
      have GC0 : Hid (∀ W, Below w7.heap.size w7 W → Calls Try.prog 25 #[.pointer (some ⟨s, 0, none⟩), .agg #[.int .i64 L[j].s, .int .i64 L[j].i, .int .i64 L[j].g]] W fun e V => e = .returned (.tuple #[L[j].val, .bool true]) ∧ Below W.heap.size W V) := Lib.hid fun W hW => by
        have := GX.out W (B7.out.trans (hW.mono B7.out.size)) L[j].s L[j].i L[j].g
        unfold cgetV at this
        rw [hf] at this
        simp only [hx] at this
        exact this
      have RW0 : Hid (∀ W, Below w7.heap.size w7 W → Calls Try.prog 39 #[.pointer (some ⟨s, 0, none⟩), .agg #[.int .i64 L[j].s, .int .i64 L[j].i, .int .i64 L[j].g]] W fun e V => e = .returned (.tuple #[.int .i64 (i : Int), .bool true]) ∧ Below W.heap.size W V) := Lib.hid fun W hW => by
        have := RX.out W (B7.out.trans (hW.mono B7.out.size)) L[j].s L[j].i L[j].g
        rw [hf] at this
        exact this
      have DC0 : Hid (∀ W, Below w7.heap.size w7 W → Calls Try.prog 31 #[.pointer (some ⟨r, 0, none⟩), .agg #[.int .i64 L[j].s, .int .i64 L[j].i, .int .i64 L[j].g]] W fun e V => e = .returned (.tuple #[L[j].val, .int .i64 (i : Int), .bool true]) ∧ Below W.heap.size W V) := Lib.hid fun W hW => by
        have := DX.out W (B7.out.trans (hW.mono B7.out.size)) L[j].s L[j].i L[j].g
        unfold getV at this
        rw [hf] at this
        simp only [hx] at this
        exact this
      have h0 : Hb w7 [] wr := ⟨HB.out, fun x hx => by cases hx⟩
      have LN := L.length
      clear FX GX RX DX RL7 hf hx HB
      generalize hxx : L[j] = x at *
      clear hxx
      obtain ⟨bs, bi, bg, bm, bx, bY, bvx, bvy, bh, bp, bl⟩ := x
      simp only [Bn.val] at *
      generalize hii : (i : Int) = ri at *
      clear hii
      have nm : (ri != ri) = false := by simp
      have dm : decide (ri = ri) = true := by simp
      have EQ := eq_bundle bs bi bg bm bx bY bvx bvy bh bp bl bs bi bg bm bx bY bvx bvy bh bp bl
      simp at EQ
      obtain ⟨k0, k1, k2, k3, k4, k5, k6, k7, k8, k9, k10⟩ := RC0.out wr h0.1
      go_wp2_with (first
        | (go_at_call 25; refine (GC0.out _ h0.1).mono ?_; rintro e w8 ⟨rfl, b8⟩; have h1 := (h0.below b8).hold (.cells #[.int .i64 bs, .int .i64 bi, .int .i64 bg, .int .i64 bm, .int .i64 bx, .int .i64 bY, .int .i64 bvx, .int .i64 bvy, .int .i64 bh, .int .i64 bp, .int .i64 bl] 36); clear GC0 h0 b8 k0 k1 k2 k3 k4 k5 k6 k7 k8 k9 k10; obtain ⟨k0, k1, k2, k3, k4, k5, k6, k7, k8, k9, k10⟩ := RC0.out _ h1.1)
        | (go_at_call 39; refine (RW0.out _ h1.1).mono ?_; rintro e w9 ⟨rfl, b9⟩; have h2 := h1.below b9; clear RW0 h1 b9 k0 k1 k2 k3 k4 k5 k6 k7 k8 k9 k10; obtain ⟨k0, k1, k2, k3, k4, k5, k6, k7, k8, k9, k10⟩ := RC0.out _ h2.1)
        | (go_at_call 31; refine (DC0.out _ h2.1).mono ?_; rintro e w10 ⟨rfl, b10⟩; have h3 := (h2.below b10).hold (.cells #[.int .i64 bs, .int .i64 bi, .int .i64 bg, .int .i64 bm, .int .i64 bx, .int .i64 bY, .int .i64 bvx, .int .i64 bvy, .int .i64 bh, .int .i64 bp, .int .i64 bl] 36); clear DC0 h2 b10 k0 k1 k2 k3 k4 k5 k6 k7 k8 k9 k10; obtain ⟨k0, k1, k2, k3, k4, k5, k6, k7, k8, k9, k10⟩ := RC0.out _ h3.1; obtain ⟨⟨m0, m1, m2, m3, m4, m5, m6, m7, m8, m9, m10⟩, _⟩ := Bx.b11 (h3.held (x := (w8.heap.size, .cells #[.int .i64 bs, .int .i64 bi, .int .i64 bg, .int .i64 bm, .int .i64 bx, .int .i64 bY, .int .i64 bvx, .int .i64 bvy, .int .i64 bh, .int .i64 bp, .int .i64 bl] 36 (0, 0))) (by simp))))
      have NX : Hid (∀ m, Below w7.heap.size w7 ((w10.alloc (.cells #[.int .i64 bs, .int .i64 bi, .int .i64 bg, .int .i64 bm, .int .i64 bx, .int .i64 bY, .int .i64 bvx, .int .i64 bvy, .int .i64 bh, .int .i64 bp, .int .i64 bl] 36)).drewN m)) := Lib.hid fun m => Below.dn' h3.1 m
      generalize w10.alloc (.cells #[.int .i64 bs, .int .i64 bi, .int .i64 bg, .int .i64 bm, .int .i64 bx, .int .i64 bY, .int .i64 bvx, .int .i64 bvy, .int .i64 bh, .int .i64 bp, .int .i64 bl] 36) = w11 at *
      go_quiet (fail)
      go_wp2
      go_roundw
      case rel => exact ⟨j + 1, by omega, by go_num, Lib.hid (NX.out _)⟩
      case measure => simp [intOf]; omega
    · obtain rfl : j = L.length := by omega
      have t1 : ¬ (L.length : Int) < (L.length : Int) := by omega
      clear FX GX RX DX RL7
      generalize L.length = n at *
      go_wp2
      go_ret
      exact ⟨rfl, B7.out.trans (HB.out.mono B7.out.size)⟩
end Go.Proofs.Yteollbioeamciaa
namespace Go.Proofs.Yteollbioeamciaa
open Go.RowKit Pz Ar
set_option linter.unusedVariables false
set_option linter.unusedSimpArgs false

section
variable {w W V : World} {s r : Nat} {t u : Tb} {K : List (Nat × Obj)}
theorem P2.alike (h : P2 w s r t t K W) (hl : total t ≤ 10000) : Calls Try.prog 13 #[.pointer (some ⟨s, 0, none⟩), .pointer (some ⟨r, 0, none⟩)] W fun e V => e = .returned (.bool true) ∧ P2 w s r t t K V := by
  obtain ⟨F, hC⟩ := h.cs
  obtain ⟨G, hR⟩ := h.rs
  exact (alike_any hC hR hl).mono fun e V ⟨e1, e2⟩ => ⟨e1, h.below e2⟩
theorem Ar.gets {t : Tb} (k : NK) : ∃ (x : Bn) (i : Int), cgetV t k = .tuple #[x.val, .bool (Ar.find t k).isSome] ∧ getV t k = .tuple #[x.val, .int .i64 i, .bool (Ar.find t k).isSome] ∧ ∀ m j, Ar.find t k = some (m, j) → (t m)[j]? = some x := by
  cases hf : Ar.find t k with
  | none => exact ⟨⟨0, 0, 0, 0, 0, 0, 0, 0, 0, 0, 0⟩, 0, by unfold cgetV; rw [hf]; rfl, by unfold getV; rw [hf]; rfl, fun m j e => by cases e⟩
  | some y =>
    obtain ⟨m, i⟩ := y
    obtain ⟨_, x, hx, _⟩ := find_at hf
    exact ⟨x, i, by unfold cgetV; rw [hf]; simp only [hx]; rfl, by unfold getV; rw [hf]; simp only [hx]; rfl, fun m' j e => by cases e; exact hx⟩
theorem P2.get (h : P2 w s r t u K W) (k1 k2 k3 : Int) : Calls Try.prog 25 #[.pointer (some ⟨s, 0, none⟩), .agg #[.int .i64 k1, .int .i64 k2, .int .i64 k3]] W fun e V => e = .returned (cgetV t (k1, k2, k3)) ∧ P2 w s r t u K V := by
  obtain ⟨F, hC⟩ := h.cs
  exact (get_any hC k1 k2 k3).mono fun e V ⟨e1, e2⟩ => ⟨e1, h.below e2⟩
theorem P2.rget (h : P2 w s r t u K W) (k1 k2 k3 : Int) : Calls Try.prog 31 #[.pointer (some ⟨r, 0, none⟩), .agg #[.int .i64 k1, .int .i64 k2, .int .i64 k3]] W fun e V => e = .returned (getV u (k1, k2, k3)) ∧ P2 w s r t u K V := by
  obtain ⟨G, hR⟩ := h.rs
  exact (rGet_any hR k1 k2 k3).mono fun e V ⟨e1, e2⟩ => ⟨e1, h.below e2⟩
end
end Go.Proofs.Yteollbioeamciaa
