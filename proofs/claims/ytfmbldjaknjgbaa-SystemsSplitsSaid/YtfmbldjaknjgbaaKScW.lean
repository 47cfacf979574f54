/- The code: withPower, taken. Written by wip/tools/gensy.py. -/
import Derived.Test.YtfmbldjaknjgbaaKScD
namespace Go.Proofs.Ytfmbldjaknjgbaa
open Go.RowKit Pz Sp
set_option linter.unusedVariables false
set_option linter.unusedSimpArgs false

theorem b_two (A A2 : Option Addr) (n c n2 c2 : Nat) (V : World) : (Instr.buildSlice 98 2 #[(0, .slice A n c), (1, .slice A2 n2 c2)]).run Try.prog V = .ok (.slice (some ⟨V.heap.size, 0, none⟩) 2 2) (V.alloc (.cells #[.slice A n c, .slice A2 n2 c2] 22)) := by kernel_rfl
set_option maxHeartbeats 4000000 in
set_option maxRecDepth 100000 in
theorem power_any {w : World} {A A2 : Option Addr} {c c2 : Nat} {own others : List Bn} (R : RdB w w.heap.size A own) (R2 : RdB w w.heap.size A2 others) (hl : own.length ≤ 1000) (hl2 : others.length ≤ 1000) :
    Calls Try.prog 33 #[.slice A own.length c, .slice A2 others.length c2] w fun e V => ∃ A' m c', e = .returned (.slice A' m c') ∧ m = ((own ++ others).filter pw).length ∧ OwnB V w.heap.size (.slice A' m c') ((own ++ others).filter pw) ∧ Below w.heap.size w V := by
  have B1 := bel1 w (.cells #[.slice A own.length c, .slice A2 others.length c2] 22)
  have CC := Lib.hid (concat_any (cz := 2) ((R.below B1).more B1.size) ((R2.below B1).more B1.size) hl hl2 (at1 w (.cells #[.slice A own.length c, .slice A2 others.length c2] 22)))
  have DD : Hid (∀ V A' c', Below w.heap.size w V → OwnB V w.heap.size (.slice A' (own.length + others.length) c') (own ++ others) → Calls Try.prog 62 #[.slice A' (own.length + others.length) c', .func (.func 64) #[] #[]] V fun e V' => ∃ m c', e = .returned (.slice A' m c') ∧ m = ((own ++ others).filter pw).length ∧ OwnB V' w.heap.size (.slice A' m c') ((own ++ others).filter pw) ∧ Below w.heap.size V V') := Lib.hid fun V A' c' hV ho => by
    have e : (own ++ others).length = own.length + others.length := List.length_append
    rw [← e] at ho ⊢
    exact del_any ho hV.size (by omega)
  have HB := Lib.hid B1
  have bt := fun V => b_two A A2 own.length c others.length c2 V
  clear R R2 B1
  generalize own.length = n1 at *
  generalize others.length = n2 at *
  generalize own ++ others = all at *
  go_enter Try.func33, Try.ntmps33
  go_wp2_with (first
    | (go_at_call 63; with_reducible refine CC.out.mono ?_; rintro e w1 ⟨A1, c1, rfl, ho, hb⟩; have D1 := Lib.hid (DD.out w1 A1 c1 (HB.out.trans (hb.mono (by simp))) (ho.base (by simp))); have H1 := Lib.hid (HB.out.trans (hb.mono (by simp))); clear CC DD ho hb HB)
    | (go_at_call 62; with_reducible refine D1.out.mono ?_; rintro e w2 ⟨m, c2', rfl, hm, ho, hb⟩; have FIN := Lib.hid (show m = (all.filter pw).length ∧ OwnB w2 w.heap.size (.slice A1 m c2') (all.filter pw) ∧ Below w.heap.size w w2 from ⟨hm, ho, H1.out.trans hb⟩); clear hm ho hb D1))
  go_ret
  exact ⟨A1, m, c2', rfl, FIN.out.1, FIN.out.2.1, FIN.out.2.2⟩
end Go.Proofs.Ytfmbldjaknjgbaa
