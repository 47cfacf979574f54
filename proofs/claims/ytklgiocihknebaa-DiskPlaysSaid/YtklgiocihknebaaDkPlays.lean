/- DiskPlays. -/
import Derived.Test.YtklgiocihknebaaDkAlike
namespace Go.Proofs.Ytklgiocihknebaa
open Go.RowKit Go.Maps Dk
set_option linter.unusedVariables false
set_option maxHeartbeats 8000000 in
set_option maxRecDepth 100000 in
theorem law_plays (w : World) (A : Option Addr) (cap : Nat) (l : List DD) (hl : l.length ≤ cap) (hc : cap ≤ 140737488351232) (hf : ∀ x ∈ l, x.Fine) (R : ReadsK w w.heap.size A 5 (l.map DD.row)) :
    Calls Try.prog 3 #[.slice A l.length cap] w fun e w' => e = .returned (.bool true) ∧ Below w.heap.size w w' := by
  have N := Lib.hid (new_at w w rfl)
  have FEW : Hid (∀ w3, Below w.heap.size w w3 → Calls Try.prog 13 #[.slice A l.length cap] w3 fun e w' => (∃ v, e = .returned v ∧ ∃ D, Few D ∧ OwnD w' w3.heap.size v D) ∧ Below w3.heap.size w3 w') :=
    Lib.hid fun w3 h => few_any w3 A cap l hl hc hf h.size (R.below h)
  clear R hf
  go_enter Try.func3, Try.ntmps3
  go_wp2_with (first
    | (go_at_call 12; refine N.out.mono ?_; rintro e w2 ⟨d, rfl, H0⟩; have B3 := Lib.hid (H0.bel.alloc H0.size (.cells #[.slice none 0 0, .bool false, .int .i64 0, .bool false] 28)); have RN := Lib.hid (ref_new w2 H0.size); have D3 := Lib.hid (H0.out.1.below ((Below.refl _ _).alloc (Nat.le_refl _) (.cells #[.slice none 0 0, .bool false, .int .i64 0, .bool false] 28))))
    | (go_at_call 13; refine (FEW.out _ B3.out).mono ?_; rintro e w4 ⟨⟨v, rfl, D, hFw, hO⟩, hb⟩; obtain ⟨A', c', rfl⟩ := ownd_form hO; have FW := Lib.hid hFw; have OD := Lib.hid hO; have PP := P2.start (D3.out.below hb) (RN.out.below hb) (Nat.le_trans B3.out.size hb.size); have BB := Lib.hid (B3.out.trans (hb.mono B3.out.size)); have hD60 := hFw.1; clear hFw hO hb B3 RN D3 H0))
  generalize hr2 : w2.heap.size = r at *
  clear N FEW
  go_loopw [5] (fun i wr => ∃ (k : Nat) (K : St), k ≤ D.length ∧ i = .int .i64 k ∧ P2 w4 w.heap.size d r K K wr) (fun i _ => D.length - (intOf i).toNat)
  case atStart => exact ⟨0, Dk.new, Nat.zero_le _, rfl, PP⟩
  case round =>
    obtain ⟨k, K, hk, rfl, hp⟩ := hrel
    clear PP
    by_cases hlt : k < D.length
    · have hlt' : (k : Int) < (D.length : Int) := by omega
      obtain ⟨g, rfl, c0, c1, c2, c3, c4⟩ := ownd_at (ownd_kp OD.out (p := isBoth) (fun _ => rfl) hp.out.2.2.2.kp) hlt
      have hx := (FW.out.2 _ (List.getElem_mem hlt)).1
      have HX := Lib.hid hx
      clear hx
      generalize D[k] = x at *
      go_wp2_with (first
        | (go_at_call 14; refine (step_any hp x HX.out).mono ?_; rintro e w5 ⟨rfl, hp2⟩)
        | (go_at_call 15; refine (alike_any _ hp2.out.1 hp2.out.2.1).mono ?_; rintro e w6 ⟨rfl, hb6⟩; have hp3 := hp2.below hb6; clear hb6))
      go_roundw
      case rel => exact ⟨k + 1, _, by omega, by go_num, hp3⟩
      case measure => simp [intOf]; omega
    · have hlt' : ¬ (k : Int) < (D.length : Int) := by omega
      clear OD FW
      go_wp2_with (first
        | (go_at_call 16; refine (awake_any _).mono ?_; rintro e w10 ⟨rfl, hb4⟩; have HB4 := Lib.hid hb4; clear hb4))
      go_ret
      exact ⟨rfl, BB.out.trans (hp.bel.trans (HB4.out.mono hp.size))⟩
end Go.Proofs.Ytklgiocihknebaa
