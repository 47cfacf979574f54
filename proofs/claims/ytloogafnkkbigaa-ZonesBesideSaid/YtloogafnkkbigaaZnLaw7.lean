/- The law's walk: Beside. -/
import Derived.Test.YtloogafnkkbigaaZnLaw6
namespace Go.Proofs.Ytloogafnkkbigaa
open Go.RowKit
open Zn (Ok There)

theorem back_in {C R S D V k z : Int} (ok : Ok C R S D V) (h : z ∈ Zn.beside C R k) : k ∈ Zn.beside C R z := by
  have := Zn.beside_mem.1 h
  exact Zn.beside_mem.2 ⟨this.2.1, this.1, fun e => this.2.2.1 e.symm, by rw [Zn.next_comm ok this.2.1 this.1]; exact this.2.2.2⟩

set_option maxHeartbeats 8000000 in
set_option maxRecDepth 100000 in
theorem law_beside (w : World) (C0 R0 S0 D0 V0 N0 Q0 : Int) (_ : Fits C0 ∧ Fits R0 ∧ Fits S0 ∧ Fits D0 ∧ Fits V0 ∧ Fits N0 ∧ Fits Q0) (k : Int) (_ : I k) :
    Calls Try.prog 6 #[.agg #[.int .i64 C0, .int .i64 R0, .int .i64 S0, .int .i64 D0, .int .i64 V0, .int .i64 N0, .int .i64 Q0], .int .i64 k] w fun e w' => e = .returned (.bool true) ∧ Below w.heap.size w w' := by
  have MY := Lib.hid (fun W => may_any C0 R0 S0 D0 V0 N0 Q0 W)
  have ok := Zn.may_ok C0 R0 S0 D0 V0
  have okb := Zn.may_okB C0 R0 S0 D0 V0 N0 Q0
  generalize Zn.mC C0 = C at *
  generalize Zn.mC R0 = R at *
  generalize Zn.mD S0 D0 = D at *
  generalize Zn.mD S0 V0 = V at *
  generalize Zn.mS S0 = S at *
  generalize Zn.mN N0 = N at *
  generalize Zn.mQ Q0 = Q at *
  have NW := Lib.hid (fun W => new_yes C R S D V N Q W okb)
  have BK := Lib.hid (fun W b (h : MapAt W b C R S D V N Q) => beside_any b C R S D V N Q k W h ok)
  have BZ := Lib.hid (fun W b z (h : MapAt W b C R S D V N Q) => beside_any b C R S D V N Q z W h ok)
  have RB := Lib.hid (fun W => rbeside_any C R S D V N Q k W ok)
  have IN := Lib.hid (fun z (h : z ∈ Zn.beside C R k) => (⟨back_in ok h, Zn.beside_bd ok z⟩ : k ∈ Zn.beside C R z ∧ (Zn.beside C R z).length ≤ 16))
  have ln := Zn.beside_bd ok k
  clear ok okb
  generalize hL : Zn.beside C R k = L at BK RB IN ln
  clear hL
  go_enter Try.func6, Try.ntmps6
  go_wp2_with fail
  refine (MY.out _).mono ?_
  rintro e w1 ⟨rfl, b1⟩
  have Z1 := Lib.hid (show w.heap.size < w1.heap.size by have := b1.size; rw [size1] at this; omega)
  have B1 := Lib.hid ((bel1 w _).trans (b1.mono (by rw [size1]; omega)))
  have P1 := Lib.hid ((b1.block w.heap.size (by rw [size1]; omega)).trans (at1 w _))
  clear b1 MY
  obtain ⟨⟨k0, k1, k2, k3, k4, k5, k6⟩, f0, f1, f2, f3, f4, f5, f6⟩ := box7 P1.out
  go_wp2_with fail
  refine (NW.out _).mono ?_
  rintro e w2 ⟨b, rfl, hb, hm2, b2⟩
  have B2 := Lib.hid ((set7 B1.out _ (Nat.le_refl _) _ _ _ _ _ _ _).trans (b2.mono (by rw [set7_size]; have := Z1.out; omega)))
  have P2 := Lib.hid ((b2.block w.heap.size (by rw [set7_size]; have := Z1.out; omega)).trans (set7_same P1.out _ _ _ _ _ _ _))
  have Z2 := Lib.hid (show w.heap.size < w2.heap.size by have := b2.size; rw [set7_size] at this; have := Z1.out; omega)
  have M2 := Lib.hid hm2
  clear b2 hm2 hb P1 Z1 B1 NW k0 k1 k2 k3 k4 k5 k6 f0 f1 f2 f3 f4 f5 f6
  go_wp2_with fail
  refine (BK.out _ _ M2.out).mono ?_
  rintro e w3 ⟨vl, rfl, ol, b3⟩
  have B3 := Lib.hid (B2.out.trans (b3.mono B2.out.size))
  have M3 := Lib.hid (M2.out.below b3)
  have P3 := Lib.hid ((b3.block _ Z2.out).trans P2.out)
  have Z3 := Lib.hid (Nat.lt_of_lt_of_le Z2.out b3.size)
  have OL := Lib.hid ol
  obtain ⟨A, ca, rfl, rA⟩ := own_at ol
  have R3 := Lib.hid rA
  clear b3 ol rA B2 M2 P2 Z2 BK
  go_wp2
  go_loopw [8, 9, 10, 11] (fun s _ _ _ wr => ∃ m : Nat, m ≤ L.length ∧ s = .int .i64 m ∧ Hid (Below w3.heap.size w3 wr)) (fun s _ _ _ _ => L.length - (intOf s).toNat)
  case atStart => exact ⟨0, by omega, rfl, Lib.hid (Below.refl _ _)⟩
  case round =>
    obtain ⟨m, hm, rfl, hbel⟩ := hrel
    by_cases hlt : m < L.length
    · have Rr := Lib.hid (reads_more R3.out hbel.out)
      obtain ⟨g, off, eA, hg, hcell⟩ := reads_int Rr.out (k := m) hlt
      subst eA
      have hi := IN.out L[m] (List.getElem_mem hlt)
      have Bm := Lib.hid (fun W (h : MapAt W b C R S D V N Q) => BZ.out W b L[m] h)
      clear IN BZ Rr
      generalize L[m] = z at *
      generalize Zn.beside C R z = Lz at *
      obtain ⟨hin, hlz⟩ := hi
      have HIN := Lib.hid hin
      clear hin
      go_wp2_with fail
      refine (Bm.out _ (M3.out.below hbel.out)).mono ?_
      rintro e w4 ⟨v4, rfl, o4, b4⟩
      have B4 := Lib.hid (hbel.out.trans (b4.mono hbel.out.size))
      obtain ⟨A4, c4, rfl, rA4⟩ := own_at o4
      have R4 := Lib.hid rA4
      clear b4 o4 rA4 hbel hcell hg Bm
      go_wp2
      go_loopw [10, 11] (fun t s wr => ∃ j : Nat, j ≤ Lz.length ∧ s = .int .i64 j ∧ t = .bool (decide (k ∈ Lz.take j)) ∧ Hid (w4 = wr)) (fun _ s _ => Lz.length - (intOf s).toNat)
      case atStart => exact ⟨0, by omega, rfl, by simp, Lib.hid rfl⟩
      case round =>
        obtain ⟨j, hj, rfl, rfl, hw⟩ := hrel
        have hw' := hw.out
        subst hw'
        clear hw
        by_cases hlt2 : j < Lz.length
        · obtain ⟨g4, off4, eA, hg4, hc4⟩ := reads_int R4.out (k := j) hlt2
          subst eA
          have ST := Lib.hid (show decide (k ∈ Lz.take (j + 1)) = (decide (k ∈ Lz.take j) || decide (Lz[j] = k)) by
            rw [← List.take_append_getElem hlt2, Bool.eq_iff_iff]
            simp only [List.mem_append, List.mem_singleton, Bool.or_eq_true, decide_eq_true_eq]
            constructor
            · rintro (h | h)
              · exact .inl h
              · exact .inr h.symm
            · rintro (h | h)
              · exact .inl h
              · exact .inr h.symm)
          generalize Lz[j] = a at *
          generalize decide (k ∈ Lz.take j) = p at *
          cases p
          · by_cases ha : a = k
            · have H := Lib.hid (show decide (k ∈ Lz.take (j + 1)) = true by rw [ST.out]; simp [ha])
              clear ST
              go_wp2
              go_roundw
              case rel => exact ⟨j + 1, by omega, by go_num, by rw [H.out], Lib.hid trivial⟩
              case measure => simp [intOf]; omega
            · have H := Lib.hid (show decide (k ∈ Lz.take (j + 1)) = false by rw [ST.out]; simp [ha])
              clear ST
              go_wp2
              go_roundw
              case rel => exact ⟨j + 1, by omega, by go_num, by rw [H.out, beq_false_of_ne ha], Lib.hid trivial⟩
              case measure => simp [intOf]; omega
          · have H := Lib.hid (show decide (k ∈ Lz.take (j + 1)) = true by rw [ST.out]; simp)
            clear ST hc4
            go_wp2
            go_roundw
            case rel => exact ⟨j + 1, by omega, by go_num, by rw [H.out], Lib.hid trivial⟩
            case measure => simp [intOf]; omega
        · obtain rfl : j = Lz.length := by omega
          rw [List.take_length, decide_eq_true HIN.out]
          go_wp2
          go_roundw
          case rel => exact ⟨m + 1, by omega, by go_num, B4⟩
          case measure => simp [intOf]; omega
    · obtain rfl : m = L.length := by omega
      obtain ⟨k0, k1, k2, k3, k4, k5, k6⟩ := (box7 ((hbel.out.block _ Z3.out).trans P3.out)).1
      have OW := Lib.hid (own_below OL.out hbel.out)
      clear IN BZ OL M3 P3 R3
      go_wp2_with fail
      refine (RB.out _).mono ?_
      rintro e w5 ⟨v5, rfl, o5, b5⟩
      have B5 := Lib.hid (hbel.out.trans (b5.mono hbel.out.size))
      have SM := Lib.hid (same_own (by omega) (own_below OW.out b5) o5)
      clear o5 b5 OW k0 k1 k2 k3 k4 k5 k6
      go_wp2_with fail
      refine SM.out.mono ?_
      rintro e w6 ⟨rfl, b6⟩
      have B6 := Lib.hid (B5.out.trans (b6.mono B5.out.size))
      clear b6
      go_wp2_with fail
      refine (awake_hid.out _).mono ?_
      rintro e w7 ⟨rfl, b7⟩
      go_wp2
      go_ret
      exact ⟨rfl, B3.out.trans ((B6.out.trans (b7.mono B6.out.size)).mono B3.out.size)⟩
end Go.Proofs.Ytloogafnkkbigaa
