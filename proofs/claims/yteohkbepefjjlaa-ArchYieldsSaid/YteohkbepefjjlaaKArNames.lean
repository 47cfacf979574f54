/- The code's names of a table. -/
import Derived.Test.YteohkbepefjjlaaKArRows
namespace Go.Proofs.Yteohkbepefjjlaa
open Go.RowKit Pz Ar
set_option linter.unusedVariables false
set_option linter.unusedSimpArgs false

set_option maxHeartbeats 8000000 in
set_option maxRecDepth 100000 in
theorem names_any {w : World} {A : Option Addr} {c : Nat} {l : List Bn} (h : RdB w w.heap.size A l) (hl : l.length ≤ 100000) : Calls Try.prog 39 #[.slice A l.length c] w fun e w' => ∃ A' c', e = .returned (.slice A' (l.map Bn.id).length c') ∧ OwnI w' w.heap.size (.slice A' (l.map Bn.id).length c') (l.map Bn.id) ∧ Below w.heap.size w w' := by
  have HR := Lib.hid h
  clear h
  have hl1 : (l.length : Int) ≤ 100000 := by omega
  go_enter Try.func39, Try.ntmps39
  go_wp2
  go_loopw [3, 8] (fun u ix wr => ∃ j : Nat, j ≤ l.length ∧ ix = .int .i64 j ∧ Hid (OwnI wr w.heap.size u ((l.map Bn.id).take j)) ∧ Hid (Below w.heap.size w wr)) (fun u ix _ => l.length - (intOf ix).toNat)
  case atStart => exact ⟨0, Nat.zero_le _, rfl, Lib.hid (.inl ⟨rfl, by simp⟩), Lib.hid (Below.refl _ _)⟩
  case round =>
    rename_i u0 ix0
    obtain ⟨j, hj, rfl, HO, HB⟩ := hrel
    by_cases hjl : j < l.length
    · have t1 : (j : Int) < (l.length : Int) := by omega
      have hjj := List.getElem?_eq_getElem hjl
      obtain ⟨g, o, rfl, hg, ⟨y0, y1, y2, y3, y4, y5, y6, y7, y8, y9, y10⟩⟩ := (HR.out.below HB.out) j _ hjj
      have hT : (l.map Bn.id).take (j + 1) = (l.map Bn.id).take j ++ [l[j].id] := by
        rw [List.take_add_one, List.getElem?_map, hjj]
        rfl
      generalize l[j] = x at *
      obtain ⟨xs, xi, xg, xm, xx, xy, xvx, xvy, xh, xp, xl⟩ := x
      simp only [Bn.id] at *
      have B1 := bel1 wr (bobj ⟨xs, xi, xg, xm, xx, xy, xvx, xvy, xh, xp, xl⟩)
      obtain ⟨⟨k0, k1, k2, _⟩, _⟩ := Bx.b11 (at1 wr (bobj ⟨xs, xi, xg, xm, xx, xy, xvx, xvy, xh, xp, xl⟩))
      obtain ⟨v', w', hr, ho, hgr, _, hf⟩ := app_x (enc := idE) (T := 33) (s := 3) (t := 48) Try.underlying48 id_info rfl (by decide) idE_len idE_one (HO.out.below B1) (by have := B1.size; have := HB.out.size; omega) (xs, xi, xg) (by rw [List.length_take, List.length_map]; omega) (by decide) 48
      have HN := Lib.hid (below_row (HB.out.trans (B1.mono HB.out.size)) hgr (by have := B1.size; have := HB.out.size; omega) hf)
      rw [← hT] at ho
      rw [size1] at hr
      have HV := Lib.hid ho
      have HRun := Lib.hid hr
      clear hT ho hr hgr hf B1 HO HB hjj
      simp only [bobj, idE] at *
      go_wp2_with (at_builtin; refine wpList_append _ rfl (.tmp 12) (.tmp 15) _ _ rfl _ _ rfl rfl _ _ HRun.out ?_)
      go_roundw
      case rel => exact ⟨j + 1, by omega, by go_num, HV, HN⟩
      case measure => simp [intOf]; omega
    · obtain rfl : j = l.length := by omega
      have t2 : ¬ (l.length : Int) < (l.length : Int) := by omega
      have HO2 := HO.out
      rw [List.take_of_length_le (by simp)] at HO2
      obtain ⟨A', c', rfl⟩ := HO2.form
      go_wp2
      go_ret
      exact ⟨A', c', by simp, by simpa using HO2, HB.out⟩
end Go.Proofs.Yteohkbepefjjlaa
