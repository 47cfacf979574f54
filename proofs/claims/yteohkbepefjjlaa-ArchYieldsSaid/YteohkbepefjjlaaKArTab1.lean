/- The code's Tables. -/
import Derived.Test.YteohkbepefjjlaaKArNames
namespace Go.Proofs.Yteohkbepefjjlaa
open Go.RowKit Pz Ar
set_option linter.unusedVariables false
set_option linter.unusedSimpArgs false

namespace Ar
def tabsTo (t : Tb) (m : Nat) : List (Nat × List NK) := (List.range m).filterMap (fun m => if (t m).isEmpty then none else some (m, (t m).map Bn.id))
theorem tabsTo_yes {t : Tb} {m : Nat} (h : 0 < (t m).length) : tabsTo t (m + 1) = tabsTo t m ++ [(m, (t m).map Bn.id)] := by
  unfold tabsTo
  rw [List.range_succ, List.filterMap_append]
  have : (t m).isEmpty = false := by cases hl : t m with | nil => rw [hl] at h; simp at h | cons _ _ => rfl
  rw [List.filterMap_cons, this]
  rfl
theorem tabsTo_no {t : Tb} {m : Nat} (h : ¬ 0 < (t m).length) : tabsTo t (m + 1) = tabsTo t m := by
  unfold tabsTo
  rw [List.range_succ, List.filterMap_append]
  have : (t m).isEmpty = true := by cases hl : t m with | nil => rfl | cons _ _ => rw [hl] at h; simp at h
  rw [List.filterMap_cons, this]
  simp
theorem tabsTo_le (t : Tb) (m : Nat) : (tabsTo t m).length ≤ m := by
  have := List.length_filterMap_le (fun m => if (t m).isEmpty then none else some (m, (t m).map Bn.id)) (List.range m)
  simpa [tabsTo] using this
theorem tabs_to (t : Tb) : tabs t = tabsTo t 32 := rfl
end Ar
theorem idx_tab {ds : List Value} {m : Nat} {A : Option Addr} {n c : Nat} (hl : ds.length = 32) (hm : m < 32) (hv : ds[m]? = some (.slice A n c)) (w : World) : (Instr.index 27 (.agg ds.toArray) (.int .i64 (m : Int))).run Try.prog w = .ok (.slice A n c) w := by
  have hu : Try.prog.underlying 27 = some (.array 32 26) := Try.underlying27
  have h1 : (m : Int) < 32 := by omega
  simp [Instr.index, run_underlying hu, asIntOf, h1, go_sem, part, hv]
  omega
theorem CS.range {F : Foot} {p : Nat} {t : Tb} {w : World} (h : CS F p t w) : ∃ ds : List Value, ds.length = 32 ∧ (∀ W, Below w.heap.size w W → W.rangeAt p 0 ds) ∧ ∀ m, m < 32 → ∃ A c, ds[m]? = some (.slice A (t m).length c) ∧ OwnB w 0 (.slice A (t m).length c) (t m) ∧ ∀ g, (Value.slice A (t m).length c).ownBlock = some g → F g := by
  obtain ⟨cs, mv, L, h1, h2, h3, _⟩ := h.head
  refine ⟨(cs.extract 0 (0 + 32)).toList, by simp [h2], fun W hW => ?_, fun m hm => ?_⟩
  · exact World.rangeAt_of_block ((hW.block p (h.lt p h.mine)).trans h1) 0 32
  · obtain ⟨v, hv, ho, hvF⟩ := h3.tab m hm
    obtain ⟨A, c, rfl⟩ := ho.form
    refine ⟨A, c, ?_, ho, hvF⟩
    rw [Array.getElem?_toList, Array.getElem?_extract]
    have : m < min 32 cs.size := by omega
    simp [this, hv]
set_option maxHeartbeats 8000000 in
set_option maxRecDepth 100000 in
theorem tables_any {F : Foot} {p : Nat} {t : Tb} {w : World} (h : CS F p t w) : Calls Try.prog 19 #[.pointer (some ⟨p, 0, none⟩)] w fun e w' => ∃ A' c', e = .returned (.slice A' (tabs t).length c') ∧ TabsAt w' w.heap.size (.slice A' (tabs t).length c') (tabs t) ∧ Below w.heap.size w w' := by
  obtain ⟨ds, hdl, hrg, hds⟩ := h.range
  have hfew := h.few
  have HR := Lib.hid (hrg w (Below.refl _ _))
  have IDX := Lib.hid fun m A n c hm hv => idx_tab (ds := ds) (m := m) (A := A) (n := n) (c := c) hdl hm hv
  have HD : Hid (∀ m, m < 32 → ∃ A c, ds[m]? = some (.slice A (t m).length c) ∧ ∀ W, Below w.heap.size w W → RdB W W.heap.size A (t m)) := Lib.hid fun m hm => by
    obtain ⟨A, c, h1, h2, _⟩ := hds m hm
    exact ⟨A, c, h1, fun W hW => RdB.of_own (h2.below hW)⟩
  replace hfew := Lib.hid hfew
  replace hdl := Lib.hid hdl
  clear h hds hrg
  go_enter Try.func19, Try.ntmps19
  go_wp2_with (refine wpList_load_mid rfl 27 (.tmp 10) rfl p 0 rfl ds _ HR.out Try.underlying27 rfl (by rw [hdl.out]; kernel_rfl) ?_)
  go_loopw [3, 12] (fun u ix wr => ∃ j : Nat, j ≤ 32 ∧ ix = .int .i64 j ∧ Hid (TabsAt wr w.heap.size u (tabsTo t j)) ∧ Hid (Below w.heap.size w wr)) (fun u ix _ => 32 - (intOf ix).toNat)
  case atStart => exact ⟨0, Nat.zero_le _, rfl, Lib.hid (tabs_nil _ _), Lib.hid (Below.refl _ _)⟩
  case round =>
    obtain ⟨j, hj, rfl, HO, HB⟩ := hrel
    by_cases hjl : j < 32
    · have t1 : (j : Int) < 32 := by omega
      obtain ⟨A, c, hv, hrd⟩ := HD.out j hjl
      have IX := IDX.out j A _ c hjl hv
      obtain ⟨Au, cu, rfl⟩ := HO.out.form
      by_cases hne : 0 < (t j).length
      · have t2 : (0 : Int) < ((t j).length : Int) := by omega
        have NM := Lib.hid (names_any (A := A) (c := c) (hrd wr HB.out) (hfew.out j))
        have hT := tabsTo_yes hne
        have hlen := tabsTo_le t j
        clear hv hrd
        go_wp2_with (first
          | (refine NM.out.mono ?_
             rintro e w2 ⟨A2, c2, rfl, hI, hb2⟩
             obtain ⟨A3, n3, c3, w3, hr, hTA, hg, hf⟩ := (HO.out.below hb2).push (m := j) (Nat.le_trans HB.out.size hb2.size) (hI.base HB.out.size) (by omega) 46
             rw [List.length_map] at hr)
          | (at_builtin; refine wpList_append _ rfl (.tmp 19) (.tmp 24) _ _ rfl _ _ rfl rfl _ _ hr ?_))
        have HN := Lib.hid (below_row ((HB.out.trans (hb2.mono HB.out.size))) hg (Nat.le_trans HB.out.size hb2.size) hf)
        rw [← hT] at hTA
        have HV := Lib.hid hTA
        clear hr hTA hg hf hT hlen NM hI hb2 HO
        go_wp2
        go_roundw
        case rel => exact ⟨j + 1, by omega, by go_num, HV, HN⟩
        case measure => simp [intOf]; omega
      · have t2 : ¬ (0 : Int) < ((t j).length : Int) := by omega
        have HV := HO.out
        rw [← tabsTo_no hne] at HV
        replace HV := Lib.hid HV
        clear hv hrd HO
        go_wp2
        go_roundw
        case rel => exact ⟨j + 1, by omega, by go_num, by first | exact HV | (have := HV.out; rw [tabsTo_no hne] at this ⊢; exact Lib.hid this), HB⟩
        case measure => simp [intOf]; omega
    · obtain rfl : j = 32 := by omega
      have t2 : ¬ (32 : Int) < 32 := by omega
      obtain ⟨Au, cu, rfl⟩ := HO.out.form
      go_wp2
      go_ret
      exact ⟨Au, cu, rfl, HO.out, HB.out⟩
set_option maxHeartbeats 8000000 in
set_option maxRecDepth 100000 in
theorem tables_nil (w : World) : Calls Try.prog 19 #[.pointer none] w fun e w' => e = .returned (.slice none 0 0) ∧ w = w' := by
  go_enter Try.func19, Try.ntmps19
  go_wp2
  go_ret
  exact ⟨rfl, rfl⟩
end Go.Proofs.Yteohkbepefjjlaa
