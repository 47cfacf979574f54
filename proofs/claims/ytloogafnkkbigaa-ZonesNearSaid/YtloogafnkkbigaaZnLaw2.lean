/- The law's walk: Covers. -/
import Derived.Test.YtloogafnkkbigaaZnLaw1
namespace Go.Proofs.Ytloogafnkkbigaa
open Go.RowKit
open Zn (Ok There)

theorem has_zone_any {C R S D V k : Int} (ok : Ok C R S D V) (hk : There C R k) (x y : Int) (hx : I x) (hy : I y) (W : World) :
    Calls Try.prog 29 #[.agg #[.int .i64 (Zn.zone C R S k).a, .int .i64 (Zn.zone C R S k).b, .int .i64 (Zn.zone C R S k).c, .int .i64 (Zn.zone C R S k).d], .int .i64 x, .int .i64 y] W fun e w' => e = .returned (.bool (decide (Zn.of C R S x y = k))) ∧ Below W.heap.size W w' := by
  have := has_any (Zn.zone C R S k).a (Zn.zone C R S k).b (Zn.zone C R S k).c (Zn.zone C R S k).d x y W (zone_i ok hk).1.1 (zone_i ok hk).1.2 (zone_i ok hk).2.1 (zone_i ok hk).2.2 hx hy
  rwa [has_same, Zn.has_zone ok hk] at this
theorem has_world_any {C R S D V : Int} (ok : Ok C R S D V) (x y : Int) (hx : I x) (hy : I y) (W : World) :
    Calls Try.prog 29 #[.agg #[.int .i64 0, .int .i64 0, .int .i64 (C * S), .int .i64 (R * S)], .int .i64 x, .int .i64 y] W fun e w' => e = .returned (.bool (decide (0 ≤ x ∧ x < C * S ∧ 0 ≤ y ∧ y < R * S))) ∧ Below W.heap.size W w' := by
  have m1 := Zn.side_bd (q := C) ok.s0 ok.s1 (by have := ok.c0; omega) ok.c1
  have m2 := Zn.side_bd (q := R) ok.s0 ok.s1 (by have := ok.r0; omega) ok.r1
  have := has_any 0 0 (C * S) (R * S) x y W (by decide) (by decide) (by unfold I; omega) (by unfold I; omega) hx hy
  rwa [has_world ok] at this
theorem of_world {C R S D V x y : Int} (ok : Ok C R S D V) : (Zn.of C R S x y = -1 ∧ decide (0 ≤ x ∧ x < C * S ∧ 0 ≤ y ∧ y < R * S) = false) ∨ (There C R (Zn.of C R S x y) ∧ decide (0 ≤ x ∧ x < C * S ∧ 0 ≤ y ∧ y < R * S) = true) := by
  by_cases h : 0 ≤ x ∧ x < C * S ∧ 0 ≤ y ∧ y < R * S
  · exact .inr ⟨Zn.of_in ok h.1 h.2.1 h.2.2.1 h.2.2.2, decide_eq_true h⟩
  · exact .inl ⟨if_neg h, decide_eq_false h⟩

set_option maxHeartbeats 4000000 in
set_option maxRecDepth 100000 in
theorem law_covers (w : World) (C0 R0 S0 D0 V0 N0 Q0 : Int) (_ : Fits C0 ∧ Fits R0 ∧ Fits S0 ∧ Fits D0 ∧ Fits V0 ∧ Fits N0 ∧ Fits Q0) (x : Int) (hx : I x) (y : Int) (hy : I y) :
    Calls Try.prog 7 #[.agg #[.int .i64 C0, .int .i64 R0, .int .i64 S0, .int .i64 D0, .int .i64 V0, .int .i64 N0, .int .i64 Q0], .int .i64 x, .int .i64 y] w fun e w' => e = .returned (.bool true) ∧ Below w.heap.size w w' := by
  have MY := Lib.hid (fun W => may_any C0 R0 S0 D0 V0 N0 Q0 W)
  have ok := Zn.may_ok C0 R0 S0 D0 V0
  have okb := Zn.may_okB C0 R0 S0 D0 V0 N0 Q0
  generalize Zn.mC C0 = C at *
  generalize Zn.mC R0 = R at *
  generalize Zn.mD S0 D0 = D at *
  generalize Zn.mD S0 V0 = V at *
  generalize Zn.mS S0 = S at *
  generalize Zn.mN N0 = N at *
  generalize Zn.mQ Q0 = Q at *
  have NW := Lib.hid (fun W => new_yes C R S D V N Q W okb)
  have OF := Lib.hid (fun W b (h : MapAt W b C R S D V N Q) => of_any b C R S D V N Q x y W h ok hx hy)
  have CN := Lib.hid (fun W b (h : MapAt W b C R S D V N Q) => count_any b C R S D V N Q W h ok)
  have WD := Lib.hid (fun W b (h : MapAt W b C R S D V N Q) => world_any b C R S D V N Q W h ok)
  have ZN := Lib.hid (fun W b k (h : MapAt W b C R S D V N Q) => zzone_any b C R S D V N Q k W h ok)
  have HZ := Lib.hid (fun W k (hk : There C R k) => has_zone_any ok hk x y hx hy W)
  have HW := Lib.hid (fun W => has_world_any ok x y hx hy W)
  have OW := Lib.hid (of_world (x := x) (y := y) ok)
  have mb := Zn.mul_bd ok
  obtain ⟨M, hM⟩ : ∃ M : Nat, C * R = (M : Int) := ⟨(C * R).toNat, by omega⟩
  have TH := Lib.hid (fun (m : Nat) (hm : m < M) => show There C R (m : Int) from ⟨by omega, by omega⟩)
  have HT := Lib.hid (fun (k : Int) (h : There C R k) => show 0 ≤ k ∧ k < (M : Int) from ⟨h.1, by have := h.2; omega⟩)
  rw [hM] at CN mb
  clear ok okb hx hy hM
  generalize Zn.of C R S x y = k at *
  generalize decide (0 ≤ x ∧ x < C * S ∧ 0 ≤ y ∧ y < R * S) = hw at *
  generalize C * S = cs at *
  generalize R * S = rs at *
  go_enter Try.func7, Try.ntmps7
  go_wp2_with fail
  refine (MY.out _).mono ?_
  rintro e w1 ⟨rfl, b1⟩
  have B1 := Lib.hid ((bel1 w _).trans (b1.mono (by rw [size1]; omega)))
  clear b1 MY
  go_wp2_with fail
  refine (NW.out _).mono ?_
  rintro e w2 ⟨b, rfl, _, hm2, b2⟩
  have B2 := Lib.hid (B1.out.trans (b2.mono B1.out.size))
  have M2 := Lib.hid hm2
  clear b2 hm2 B1 NW
  go_wp2_with fail
  refine (OF.out _ _ M2.out).mono ?_
  rintro e w3 ⟨rfl, b3⟩
  have B3 := Lib.hid (B2.out.trans (b3.mono B2.out.size))
  have M3 := Lib.hid (M2.out.below b3)
  clear b3 B2 M2 OF
  go_wp2
  go_loopw [9, 11] (fun s i wr => ∃ m : Nat, ∃ z : Int, m ≤ M ∧ i = .int .i64 m ∧ s = .int .i64 z ∧ ((0 ≤ k ∧ k < m ∧ z = 1) ∨ ((k < 0 ∨ (m : Int) ≤ k) ∧ z = 0)) ∧ Below w3.heap.size w3 wr) (fun _ i _ => M - (intOf i).toNat)
  case atStart => exact ⟨0, 0, Nat.zero_le _, rfl, rfl, .inr ⟨by omega, rfl⟩, Below.refl _ _⟩
  case round =>
    obtain ⟨m, z, hm, rfl, rfl, hz, hbel⟩ := hrel
    have Mr := Lib.hid (M3.out.below hbel)
    have Br := Lib.hid hbel
    have HZZ := Lib.hid hz
    clear hbel hz
    go_wp2_with fail
    refine (CN.out _ _ Mr.out).mono ?_
    rintro e w4 ⟨rfl, b4⟩
    have M4 := Lib.hid (Mr.out.below b4)
    have B4 := Lib.hid (Br.out.trans (b4.mono Br.out.size))
    clear b4 Mr Br CN
    by_cases hlt : m < M
    · have Zm := Lib.hid (ZN.out w4 b m M4.out)
      have Hm := Lib.hid (fun W => HZ.out W m (TH.out m hlt))
      clear ZN HZ TH HT
      generalize (Zn.zone C R S m).a = z0 at *
      generalize (Zn.zone C R S m).b = z1 at *
      generalize (Zn.zone C R S m).c = z2 at *
      generalize (Zn.zone C R S m).d = z3 at *
      by_cases hk : k = (m : Int)
      · rw [decide_eq_true hk] at Hm
        have hz0 : z = 0 := by have := HZZ.out; omega
        subst hz0
        subst hk
        go_wp2_with fail
        refine Zm.out.mono ?_
        rintro e w5 ⟨rfl, b5⟩
        go_wp2_with fail
        refine (Hm.out _).mono ?_
        rintro e w6 ⟨rfl, b6⟩
        have B6 := Lib.hid ((B4.out.trans (b5.mono B4.out.size)).trans (b6.mono (by have := B4.out.size; have := b5.size; omega)))
        clear b5 b6 HZZ
        go_wp2
        go_roundw
        case rel => exact ⟨m + 1, 1, by omega, by go_num, rfl, .inl ⟨by omega, by omega, rfl⟩, B6.out⟩
        case measure => simp [intOf]; omega
      · rw [decide_eq_false hk] at Hm
        go_wp2_with fail
        refine Zm.out.mono ?_
        rintro e w5 ⟨rfl, b5⟩
        go_wp2_with fail
        refine (Hm.out _).mono ?_
        rintro e w6 ⟨rfl, b6⟩
        have B6 := Lib.hid ((B4.out.trans (b5.mono B4.out.size)).trans (b6.mono (by have := B4.out.size; have := b5.size; omega)))
        clear b5 b6
        go_wp2
        go_roundw
        case rel => exact ⟨m + 1, z, by omega, by go_num, rfl, by have := HZZ.out; omega, B6.out⟩
        case measure => simp [intOf]; omega
    · obtain rfl : m = M := by omega
      have hcase : (k = -1 ∧ hw = false ∧ z = 0) ∨ (0 ≤ k ∧ hw = true ∧ z = 1) := by
        rcases OW.out with ⟨h1, h2⟩ | ⟨h1, h2⟩
        · refine .inl ⟨h1, h2, ?_⟩
          have := HZZ.out
          omega
        · have := HT.out k h1
          refine .inr ⟨this.1, h2, ?_⟩
          have := HZZ.out
          omega
      clear HZZ OW HT TH ZN HZ
      have hk1 : Hid (hw = !(k == -1)) := Lib.hid (by rcases hcase with ⟨rfl, rfl, _⟩ | ⟨hk0, rfl, _⟩; rfl; rw [eq_comm, Bool.not_eq_true']; exact beq_false_of_ne (by omega))
      rcases hcase with ⟨rfl, rfl, rfl⟩ | ⟨hk0, rfl, rfl⟩
      all_goals
        go_wp2_with fail
        refine (WD.out _ _ M4.out).mono ?_
        rintro e w5 ⟨rfl, b5⟩
        go_wp2_with fail
        refine (HW.out _).mono ?_
        rintro e w6 ⟨rfl, b6⟩
        have B6 := Lib.hid ((B4.out.trans (b5.mono B4.out.size)).trans (b6.mono (by have := B4.out.size; have := b5.size; omega)))
        clear b5 b6
        go_wp2_with fail
        refine (awake_hid.out _).mono ?_
        rintro e w7 ⟨rfl, b7⟩
        go_wp2
        go_ret
        exact ⟨ret_bool (by first | rfl | exact hk1.out.symm), B3.out.trans ((B6.out.trans (b7.mono B6.out.size)).mono B3.out.size)⟩
end Go.Proofs.Ytloogafnkkbigaa
