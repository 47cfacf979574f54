/- DiskCopies. -/
import Derived.Test.YtklgiocihknebaaDkAlike
import Derived.Test.YtklgiocihknebaaDkRef10
namespace Go.Proofs.Ytklgiocihknebaa
open Go.RowKit Go.Maps Dk
set_option linter.unusedVariables false
/-- the document's copy, in a box of its own -/
theorem ref_boxed {wb : World} {B B1 : Nat} {K : St} {v : Value} {q : Int} (ok : Ok K) (hq : ∀ n, K.room = some n → q = (n : Int)) (ho : OwnF wb B1 v K.L) (hB : B ≤ B1) (hs : B ≤ wb.heap.size) :
    RefAt (wb.alloc (.cells #[v, .bool K.room.isSome, .int .i64 q, .bool K.dead] 28)) B wb.heap.size K ∧ Below wb.heap.size wb (wb.alloc (.cells #[v, .bool K.room.isSome, .int .i64 q, .bool K.dead] 28)) := by
  have hal := bel1 wb (.cells #[v, .bool K.room.isSome, .int .i64 q, .bool K.dead] 28)
  have hw := ownf_below ho hal
  exact ⟨⟨v, q, ok, hs, at1 wb _, hq, hw.1, hw.2.imp id fun ⟨g, cap, cur, a, b, d⟩ => ⟨g, cap, cur, a, Nat.le_trans hB b, d⟩⟩, hal⟩

set_option maxHeartbeats 8000000 in
set_option maxRecDepth 100000 in
theorem law_copies (w : World) (A : Option Addr) (cap : Nat) (l : List DD) (hl : l.length ≤ cap) (hc : cap ≤ 140737488351232) (hf : ∀ x ∈ l, x.Fine) (R : ReadsK w w.heap.size A 5 (l.map DD.row))
    (A' : Option Addr) (cap' : Nat) (m : List DD) (hm : m.length ≤ cap') (hc' : cap' ≤ 140737488351232) (hf' : ∀ x ∈ m, x.Fine) (R' : ReadsK w w.heap.size A' 5 (m.map DD.row)) :
    Calls Try.prog 8 #[.slice A l.length cap, .slice A' m.length cap'] w fun e w' => e = .returned (.bool true) ∧ Below w.heap.size w w' := by
  have N := Lib.hid (new_at w w rfl)
  have FEW1 : Hid (∀ w3, Below w.heap.size w w3 → Calls Try.prog 13 #[.slice A l.length cap] w3 fun e w' => (∃ v, e = .returned v ∧ ∃ D, Few D ∧ OwnD w' w3.heap.size v D) ∧ Below w3.heap.size w3 w') :=
    Lib.hid fun w3 h => few_any w3 A cap l hl hc hf h.size (R.below h)
  have FEW2 : Hid (∀ w3, Below w.heap.size w w3 → Calls Try.prog 13 #[.slice A' m.length cap'] w3 fun e w' => (∃ v, e = .returned v ∧ ∃ D, Few D ∧ OwnD w' w3.heap.size v D) ∧ Below w3.heap.size w3 w') :=
    Lib.hid fun w3 h => few_any w3 A' cap' m hm hc' hf' h.size (R'.below h)
  clear R hf R' hf'
  go_enter Try.func8, Try.ntmps8
  go_wp2_with (first
    | (go_at_call 12; refine N.out.mono ?_; rintro e w2 ⟨d, rfl, H0⟩; have B3 := Lib.hid (H0.bel.alloc H0.size (.cells #[.slice none 0 0, .bool false, .int .i64 0, .bool false] 28)); have RN := Lib.hid (ref_new w2 H0.size); have D3 := Lib.hid (H0.out.1.below ((Below.refl _ _).alloc (Nat.le_refl _) (.cells #[.slice none 0 0, .bool false, .int .i64 0, .bool false] 28))))
    | (go_at_call 13; refine (FEW1.out _ B3.out).mono ?_; rintro e w4 ⟨⟨v, rfl, D, hFw, hO⟩, hb⟩; obtain ⟨A1, c1, rfl⟩ := ownd_form hO; have FW := Lib.hid hFw; have OD4 := Lib.hid hO; have D4 := Lib.hid (D3.out.below hb); have R4 := Lib.hid (RN.out.below hb); have B4 := Lib.hid (B3.out.trans (hb.mono B3.out.size)); have hD60 := hFw.1; clear hFw hO hb B3 RN D3 H0 FEW1)
    | (go_at_call 13; refine (FEW2.out _ B4.out).mono ?_; rintro e w5 ⟨⟨v, rfl, E, hFw, hO⟩, hb⟩; obtain ⟨A2, c2, rfl⟩ := ownd_form hO; have FX := Lib.hid hFw; have OE := Lib.hid hO; have OD := Lib.hid (ownd_below OD4.out hb); have PP := P2.start (D4.out.below hb) (R4.out.below hb) (Nat.le_trans B4.out.size hb.size); have BB := Lib.hid (B4.out.trans (hb.mono B4.out.size)); have hE60 := hFw.1; clear hFw hO hb B4 R4 D4 OD4))
  generalize hr2 : w2.heap.size = r at *
  clear N FEW2
  go_loopw [7] (fun i wr => ∃ (k : Nat) (K : St), k ≤ D.length ∧ i = .int .i64 k ∧ P2 w5 w.heap.size d r K K wr) (fun i _ => D.length - (intOf i).toNat)
  case atStart => exact ⟨0, Dk.new, Nat.zero_le _, rfl, PP⟩
  case round =>
    obtain ⟨k, K, hk, rfl, hp⟩ := hrel
    clear PP
    by_cases hlt : k < D.length
    · have hlt' : (k : Int) < (D.length : Int) := by omega
      obtain ⟨g, rfl, k0, k1, k2, k3, k4⟩ := ownd_at (ownd_kp OD.out (p := isBoth) (fun _ => rfl) hp.out.2.2.2.kp) hlt
      have hx := (FW.out.2 _ (List.getElem_mem hlt)).1
      have HX := Lib.hid hx
      clear hx
      generalize D[k] = x at *
      go_wp2_with (go_at_call 14; refine (step_any hp x HX.out).mono ?_; rintro e w6 ⟨rfl, hp2⟩)
      go_roundw
      case rel => exact ⟨k + 1, _, by omega, by go_num, hp2⟩
      case measure => simp [intOf]; omega
    · have hlt' : ¬ (k : Int) < (D.length : Int) := by omega
      have OE1 := Lib.hid (ownd_kp OE.out (p := isBoth) (fun _ => rfl) hp.out.2.2.2.kp)
      have hok := Lib.hid hp.out.1.ok
      have CP := Lib.hid (copy_any wr hp.out.1)
      clear OD FW OE
      obtain ⟨wa, rfl⟩ : ∃ wa, wa = wr := ⟨_, rfl⟩
      go_wp2_with (first
        | (go_at_call 27; refine CP.out.mono ?_; rintro e wc ⟨⟨c, rfl, hdc⟩, hbc⟩; have HDC := Lib.hid hdc; have HBC := Lib.hid hbc; clear hdc hbc CP)
        | (go_at_call 28; refine (rcopy_any wc (hp.out.2.1.below HBC.out)).mono ?_; rintro e wb ⟨⟨u, rfl, v, q, rfl, ⟨A3, n3, c3, rfl⟩, hq, ho⟩, hbd⟩; have RX := Lib.hid (ref_boxed hok.out hq ho HBC.out.size (Nat.le_trans HBC.out.size hbd.size)); have BD := Lib.hid (HBC.out.trans (hbd.mono HBC.out.size)); have DC := Lib.hid (HDC.out.below hbd); clear hq ho hbd)
        | (go_at_call 15; refine (alike_any _ (DC.out.below RX.out.2) RX.out.1).mono ?_; rintro e w6 ⟨rfl, hb6⟩; have PX := (P2.start (DC.out.below RX.out.2) RX.out.1 (Nat.le_trans BD.out.size RX.out.2.size)).below hb6; have BX := Lib.hid (BD.out.trans ((RX.out.2.mono BD.out.size).trans (hb6.mono (Nat.le_trans BD.out.size RX.out.2.size)))); clear hb6 RX DC HDC HBC BD))
      have PY := PX.again
      have OE2 := Lib.hid (ownd_below OE1.out BX.out)
      clear PX OE1
      generalize hxb : wb.heap.size = xb at *
      clear hxb hok
      go_loopw [10] (fun i wr => ∃ (k : Nat) (K2 : St), k ≤ E.length ∧ i = .int .i64 k ∧ P2 w6 wa.heap.size c xb K2 K2 wr) (fun i _ => E.length - (intOf i).toNat)
      case atStart => exact ⟨0, K, Nat.zero_le _, rfl, PY⟩
      case round =>
        obtain ⟨k, K2, hk, rfl, hp2⟩ := hrel
        clear PY
        by_cases hlt : k < E.length
        · have hlt' : (k : Int) < (E.length : Int) := by omega
          obtain ⟨g, rfl, k0, k1, k2, k3, k4⟩ := ownd_at (ownd_kp OE2.out (p := isBoth) (fun _ => rfl) hp2.out.2.2.2.kp) hlt
          have hx := (FX.out.2 _ (List.getElem_mem hlt)).1
          have HX := Lib.hid hx
          clear hx
          generalize E[k] = x at *
          go_wp2_with (go_at_call 14; refine (step_any hp2 x HX.out).mono ?_; rintro e w7 ⟨rfl, hp3⟩)
          go_roundw
          case rel => exact ⟨k + 1, _, by omega, by go_num, hp3⟩
          case measure => simp [intOf]; omega
        · have hlt' : ¬ (k : Int) < (E.length : Int) := by omega
          clear OE2 FX
          have BZ := Lib.hid (BX.out.trans hp2.bel)
          go_wp2_with (first
            | (go_at_call 16; refine (awake_any w9).mono ?_; rintro e w10 ⟨rfl, hb4⟩; have BF := Lib.hid (BG.out.trans (hb4.mono BG.out.size)); clear hb4)
            | (go_at_call 15; refine (alike_any w8 (hp2.out.1.below H8.out) (hp2.out.2.1.below H8.out)).mono ?_; rintro e w9 ⟨rfl, hb9⟩; have BG := Lib.hid (BH.out.trans (hb9.mono BH.out.size)); clear hb9)
            | (go_at_call 15; refine (alike_any _ (hp.out.1.below BZ.out) (hp.out.2.1.below BZ.out)).mono ?_; rintro e w8 ⟨rfl, hb8⟩; have H8 := Lib.hid hb8; have BH := Lib.hid (BZ.out.trans (hb8.mono BZ.out.size)); clear hb8))
          go_ret
          exact ⟨rfl, BB.out.trans (hp.bel.trans (BF.out.mono hp.size))⟩
end Go.Proofs.Ytklgiocihknebaa
