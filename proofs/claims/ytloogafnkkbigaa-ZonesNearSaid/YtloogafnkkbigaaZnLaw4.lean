/- The law's walk: Near. -/
import Derived.Test.YtloogafnkkbigaaZnLaw3
namespace Go.Proofs.Ytloogafnkkbigaa
open Go.RowKit
open Zn (Ok There)

theorem gap_zone_any {C R S D V k : Int} (ok : Ok C R S D V) (hk : There C R k) (x y : Int) (hx : I x) (hy : I y) (W : World) :
    Calls Try.prog 32 #[.agg #[.int .i64 (Zn.zone C R S k).a, .int .i64 (Zn.zone C R S k).b, .int .i64 (Zn.zone C R S k).c, .int .i64 (Zn.zone C R S k).d], .int .i64 x, .int .i64 y] W fun e w' => e = .returned (.int .i64 (Zn.gapZ C R S k x y)) ∧ Below W.heap.size W w' :=
  gap_any (Zn.zone C R S k).a (Zn.zone C R S k).b (Zn.zone C R S k).c (Zn.zone C R S k).d x y W (zone_i ok hk).1.1 (zone_i ok hk).1.2 (zone_i ok hk).2.1 (zone_i ok hk).2.2 hx hy
/-- what is told of a zone is so -/
theorem near_fits {C R S D V x y : Int} (ok : Ok C R S D V) {m : Int} (hm : There C R m) :
    (Zn.of C R S x y = -1 ∧ m ∉ Zn.near C R S D x y) ∨ (0 ≤ Zn.of C R S x y ∧ m = Zn.of C R S x y ∧ m ∉ Zn.near C R S D x y) ∨
    (0 ≤ Zn.of C R S x y ∧ m ≠ Zn.of C R S x y ∧ Zn.gapZ C R S m x y ≤ D ∧ m ∈ Zn.near C R S D x y ∧ m ∈ Zn.beside C R (Zn.of C R S x y)) ∨
    (0 ≤ Zn.of C R S x y ∧ m ≠ Zn.of C R S x y ∧ ¬ Zn.gapZ C R S m x y ≤ D ∧ m ∉ Zn.near C R S D x y) := by
  have hn := Zn.near_mem (x := x) (y := y) (z := m) ok
  rcases Zn.of_bd ok x y with h | h
  · exact .inl ⟨h, fun h' => by have := (hn.1 h').1.1; omega⟩
  · right
    have h0 := h.1
    by_cases e : m = Zn.of C R S x y
    · exact .inl ⟨h0, e, fun h' => (hn.1 h').2.2.1 e⟩
    · right
      by_cases g : Zn.gapZ C R S m x y ≤ D
      · exact .inl ⟨h0, e, g, hn.2 ⟨h, hm, e, g⟩, Zn.beside_mem.2 ⟨h, hm, e, Zn.near_next ok hm h g⟩⟩
      · exact .inr ⟨h0, e, g, fun h' => g (hn.1 h').2.2.2⟩

set_option maxHeartbeats 8000000 in
set_option maxRecDepth 100000 in
theorem law_near (w : World) (C0 R0 S0 D0 V0 N0 Q0 : Int) (_ : Fits C0 ∧ Fits R0 ∧ Fits S0 ∧ Fits D0 ∧ Fits V0 ∧ Fits N0 ∧ Fits Q0) (x : Int) (hx : I x) (y : Int) (hy : I y) :
    Calls Try.prog 9 #[.agg #[.int .i64 C0, .int .i64 R0, .int .i64 S0, .int .i64 D0, .int .i64 V0, .int .i64 N0, .int .i64 Q0], .int .i64 x, .int .i64 y] w fun e w' => e = .returned (.bool true) ∧ Below w.heap.size w w' := by
  have MY := Lib.hid (fun W => may_any C0 R0 S0 D0 V0 N0 Q0 W)
  have ok := Zn.may_ok C0 R0 S0 D0 V0
  have okb := Zn.may_okB C0 R0 S0 D0 V0 N0 Q0
  generalize Zn.mC C0 = C at *
  generalize Zn.mC R0 = R at *
  generalize Zn.mD S0 D0 = D at *
  generalize Zn.mD S0 V0 = V at *
  generalize Zn.mS S0 = S at *
  generalize Zn.mN N0 = N at *
  generalize Zn.mQ Q0 = Q at *
  have NW := Lib.hid (fun W => new_yes C R S D V N Q W okb)
  have NE := Lib.hid (fun W b (h : MapAt W b C R S D V N Q) => znear_any b C R S D V N Q x y W h ok hx hy)
  have OF := Lib.hid (fun W b (h : MapAt W b C R S D V N Q) => of_any b C R S D V N Q x y W h ok hx hy)
  have CN := Lib.hid (fun W b (h : MapAt W b C R S D V N Q) => count_any b C R S D V N Q W h ok)
  have ZN := Lib.hid (fun W b k (h : MapAt W b C R S D V N Q) => zzone_any b C R S D V N Q k W h ok)
  have GZ := Lib.hid (fun W k (hk : There C R k) => gap_zone_any ok hk x y hx hy W)
  have BE := Lib.hid (fun W b (h : MapAt W b C R S D V N Q) => beside_any b C R S D V N Q (Zn.of C R S x y) W h ok)
  have ln := Zn.near_bd ok x y
  have lb := Zn.beside_bd ok (Zn.of C R S x y)
  have mb := Zn.mul_bd ok
  obtain ⟨M, hM⟩ : ∃ M : Nat, C * R = (M : Int) := ⟨(C * R).toNat, by omega⟩
  have TH := Lib.hid (fun (m : Nat) (hm : m < M) => show There C R (m : Int) from ⟨by omega, by omega⟩)
  have FT := Lib.hid (fun (m : Nat) (hm : m < M) => near_fits (x := x) (y := y) ok (show There C R (m : Int) from ⟨by omega, by omega⟩))
  have SO := Lib.hid (List.pairwise_iff_getElem.1 (Zn.near_sorted C R S D x y))
  rw [hM] at CN mb
  clear ok okb hx hy hM
  generalize Zn.of C R S x y = k at *
  generalize Zn.near C R S D x y = L at *
  generalize Zn.beside C R k = LB at *
  go_enter Try.func9, Try.ntmps9
  go_wp2_with fail
  refine (MY.out _).mono ?_
  rintro e w1 ⟨rfl, b1⟩
  have Z1 := Lib.hid (show w.heap.size < w1.heap.size by have := b1.size; rw [size1] at this; omega)
  have B1 := Lib.hid ((bel1 w _).trans (b1.mono (by rw [size1]; omega)))
  have P1 := Lib.hid ((b1.block w.heap.size (by rw [size1]; omega)).trans (at1 w _))
  clear b1 MY
  obtain ⟨⟨k0, k1, k2, k3, k4, k5, k6⟩, f0, f1, f2, f3, f4, f5, f6⟩ := box7 P1.out
  go_wp2_with fail
  refine (NW.out _).mono ?_
  rintro e w2 ⟨b, rfl, hb, hm2, b2⟩
  have B2 := Lib.hid ((set7 B1.out _ (Nat.le_refl _) _ _ _ _ _ _ _).trans (b2.mono (by rw [set7_size]; have := Z1.out; omega)))
  have P2 := Lib.hid ((b2.block w.heap.size (by rw [set7_size]; have := Z1.out; omega)).trans (set7_same P1.out _ _ _ _ _ _ _))
  have Z2 := Lib.hid (show w.heap.size < w2.heap.size by have := b2.size; rw [set7_size] at this; have := Z1.out; omega)
  have M2 := Lib.hid hm2
  clear b2 hm2 hb P1 Z1 B1 NW k0 k1 k2 k3 k4 k5 k6 f0 f1 f2 f3 f4 f5 f6
  go_wp2_with fail
  refine (NE.out _ _ M2.out).mono ?_
  rintro e w3 ⟨vl, rfl, ol, b3⟩
  have B3 := Lib.hid (B2.out.trans (b3.mono B2.out.size))
  have M3 := Lib.hid (M2.out.below b3)
  have P3 := Lib.hid ((b3.block _ Z2.out).trans P2.out)
  have Z3 := Lib.hid (Nat.lt_of_lt_of_le Z2.out b3.size)
  obtain ⟨A, ca, rfl, rA⟩ := own_at ol
  have R3 := Lib.hid rA
  clear b3 ol rA B2 M2 P2 Z2 NE
  go_wp2_with fail
  refine (OF.out _ _ M3.out).mono ?_
  rintro e w4 ⟨rfl, b4⟩
  have B4 := Lib.hid (B3.out.trans (b4.mono B3.out.size))
  have M4 := Lib.hid (M3.out.below b4)
  have P4 := Lib.hid ((b4.block _ Z3.out).trans P3.out)
  have Z4 := Lib.hid (Nat.lt_of_lt_of_le Z3.out b4.size)
  have R4 := Lib.hid (reads_more R3.out b4)
  clear b4 B3 M3 P3 Z3 R3 OF
  go_wp2
  go_loopw [11, 12] (fun i _ wr => ∃ m : Nat, m ≤ M ∧ i = .int .i64 m ∧ Below w4.heap.size w4 wr) (fun i _ _ => M - (intOf i).toNat)
  case atStart => exact ⟨0, Nat.zero_le _, rfl, Below.refl _ _⟩
  case round =>
    obtain ⟨m, hm, rfl, hbel⟩ := hrel
    have Mr := Lib.hid (M4.out.below hbel)
    have Br := Lib.hid hbel
    clear hbel
    go_wp2_with fail
    refine (CN.out _ _ Mr.out).mono ?_
    rintro e w5 ⟨rfl, b5⟩
    have M5 := Lib.hid (Mr.out.below b5)
    have B5 := Lib.hid (Br.out.trans (b5.mono Br.out.size))
    clear b5 Mr Br CN
    by_cases hlt : m < M
    · have Zm := Lib.hid (fun W (h : Below w5.heap.size w5 W) => ZN.out W b m (M5.out.below h))
      have Gm := Lib.hid (fun W => GZ.out W m (TH.out m hlt))
      have Fm := FT.out m hlt
      have P5 := (box7 ((B5.out.block _ Z4.out).trans P4.out)).1.2.2.2.1
      have z5 : w.heap.size < w5.heap.size := by have := Z4.out; have := B5.out.size; omega
      have R5 := Lib.hid (reads_more R4.out B5.out)
      clear ZN GZ TH FT SO
      generalize (Zn.zone C R S m).a = z0 at *
      generalize (Zn.zone C R S m).b = z1 at *
      generalize (Zn.zone C R S m).c = z2 at *
      generalize (Zn.zone C R S m).d = z3 at *
      generalize Zn.gapZ C R S m x y = g at *
      rcases Fm with ⟨h1, h2⟩ | ⟨h1, h2, h3⟩ | ⟨h1, h2, h3, h4, h5⟩ | ⟨h1, h2, h3, h4⟩
      · have LH := Lib.hid (fun W (h : Below w5.heap.size w5 W) => show Calls Try.prog 31 #[.slice A L.length ca, .int .i64 (m : Int)] W fun e w' => (e = .returned (.bool false) ∧ W = w') by
          have := lhas_any A ca L m W (by omega) (reads_more R5.out h)
          rwa [decide_eq_false h2] at this)
        clear h2
        subst h1
        go_wp2
        refine Og.grow 19 (by kernel_rfl) (by kernel_rfl) fun hc hf => ?_
        simp only [List.take_succ_cons, List.take_zero, List.drop_succ_cons, List.drop_zero]
        repeat (refine Og.det [] rfl (fun K hK => ?_); (try subst hvf); go_simp; generalize hvf : Value.bool false = vf; first | (refine hK _ _ ?_; clear hK K) | (with_reducible refine ⟨_, fun p => Og.lays (Zm.out _ (lat_below p)), hK _ _ ?_⟩; clear hK K) | (with_reducible refine ⟨_, fun p => Og.lays (Gm.out _), hK _ _ ?_⟩; clear hK K))
        subst hvf
        refine Og.fin fun W hW => ?_
        simp only [Og.opened_nil]
        have B6 := Lib.hid (B5.out.trans (hW.mono B5.out.size))
        have M6 := Lib.hid (M5.out.below hW)
        have LW := Lib.hid (LH.out W hW)
        clear hc hf hW z5 P5 LH
        go_wp2_with fail
        refine LW.out.mono ?_
        rintro e w' ⟨rfl, rfl⟩
        go_wp2
        go_roundw
        case rel => exact ⟨m + 1, by omega, by go_num, B6.out⟩
        case measure => simp [intOf]; omega
      · have LH := Lib.hid (fun W (h : Below w5.heap.size w5 W) => show Calls Try.prog 31 #[.slice A L.length ca, .int .i64 (m : Int)] W fun e w' => (e = .returned (.bool false) ∧ W = w') by
          have := lhas_any A ca L m W (by omega) (reads_more R5.out h)
          rwa [decide_eq_false h3] at this)
        have t1 : decide (0 ≤ k) = true := decide_eq_true h1
        clear h3
        subst h2
        go_wp2
        refine Og.grow 19 (by kernel_rfl) (by kernel_rfl) fun hc hf => ?_
        simp only [List.take_succ_cons, List.take_zero, List.drop_succ_cons, List.drop_zero]
        repeat (refine Og.det [] rfl (fun K hK => ?_); (try subst hvf); go_simp; generalize hvf : Value.bool false = vf; first | (refine hK _ _ ?_; clear hK K) | (with_reducible refine ⟨_, fun p => Og.lays (Zm.out _ (lat_below p)), hK _ _ ?_⟩; clear hK K) | (with_reducible refine ⟨_, fun p => Og.lays (Gm.out _), hK _ _ ?_⟩; clear hK K))
        subst hvf
        refine Og.fin fun W hW => ?_
        simp only [Og.opened_nil]
        have B6 := Lib.hid (B5.out.trans (hW.mono B5.out.size))
        have M6 := Lib.hid (M5.out.below hW)
        have LW := Lib.hid (LH.out W hW)
        clear hc hf hW z5 P5 LH
        go_wp2_with fail
        refine LW.out.mono ?_
        rintro e w' ⟨rfl, rfl⟩
        go_wp2
        go_roundw
        case rel => exact ⟨m + 1, by omega, by go_num, B6.out⟩
        case measure => simp [intOf]; omega
      · have LH := Lib.hid (fun W (h : Below w5.heap.size w5 W) => show Calls Try.prog 31 #[.slice A L.length ca, .int .i64 (m : Int)] W fun e w' => (e = .returned (.bool true) ∧ W = w') by
          have := lhas_any A ca L m W (by omega) (reads_more R5.out h)
          rwa [decide_eq_true h4] at this)
        have H5 := Lib.hid (show decide ((m : Int) ∈ LB) = true from decide_eq_true h5)
        have t1 : decide (0 ≤ k) = true := decide_eq_true h1
        have t2 : ((m : Int) != k) = true := by simpa using h2
        have t3 : decide (g ≤ D) = true := decide_eq_true h3
        clear h4 h5
        go_wp2
        refine Og.grow 19 (by kernel_rfl) (by kernel_rfl) fun hc hf => ?_
        simp only [List.take_succ_cons, List.take_zero, List.drop_succ_cons, List.drop_zero]
        repeat (refine Og.det [] rfl (fun K hK => ?_); (try subst hvf); go_simp; generalize hvf : Value.bool false = vf; first | (refine hK _ _ ?_; clear hK K) | (with_reducible refine ⟨_, fun p => Og.lays (Zm.out _ (lat_below p)), hK _ _ ?_⟩; clear hK K) | (with_reducible refine ⟨_, fun p => Og.lays (Gm.out _), hK _ _ ?_⟩; clear hK K))
        subst hvf
        refine Og.fin fun W hW => ?_
        simp only [Og.opened_nil]
        have B6 := Lib.hid (B5.out.trans (hW.mono B5.out.size))
        have M6 := Lib.hid (M5.out.below hW)
        have LW := Lib.hid (LH.out W hW)
        clear hc hf hW z5 P5 LH
        go_wp2_with fail
        refine LW.out.mono ?_
        rintro e w' ⟨rfl, rfl⟩
        go_wp2_with fail
        refine (BE.out _ _ M6.out).mono ?_
        rintro e w7 ⟨v7, rfl, o7, b7⟩
        have B7 := Lib.hid (B6.out.trans (b7.mono B6.out.size))
        obtain ⟨A7, c7, rfl, rA7⟩ := own_at o7
        have LB7 := Lib.hid (lhas_any A7 c7 LB m w7 (by omega) rA7)
        rw [H5.out] at LB7
        clear b7 o7 rA7 H5
        go_wp2_with fail
        refine LB7.out.mono ?_
        rintro e w' ⟨rfl, rfl⟩
        go_wp2
        go_roundw
        case rel => exact ⟨m + 1, by omega, by go_num, B7.out⟩
        case measure => simp [intOf]; omega
      · have LH := Lib.hid (fun W (h : Below w5.heap.size w5 W) => show Calls Try.prog 31 #[.slice A L.length ca, .int .i64 (m : Int)] W fun e w' => (e = .returned (.bool false) ∧ W = w') by
          have := lhas_any A ca L m W (by omega) (reads_more R5.out h)
          rwa [decide_eq_false h4] at this)
        have t1 : decide (0 ≤ k) = true := decide_eq_true h1
        have t2 : ((m : Int) != k) = true := by simpa using h2
        have t3 : decide (g ≤ D) = false := decide_eq_false (by omega)
        clear h4
        go_wp2
        refine Og.grow 19 (by kernel_rfl) (by kernel_rfl) fun hc hf => ?_
        simp only [List.take_succ_cons, List.take_zero, List.drop_succ_cons, List.drop_zero]
        repeat (refine Og.det [] rfl (fun K hK => ?_); (try subst hvf); go_simp; generalize hvf : Value.bool false = vf; first | (refine hK _ _ ?_; clear hK K) | (with_reducible refine ⟨_, fun p => Og.lays (Zm.out _ (lat_below p)), hK _ _ ?_⟩; clear hK K) | (with_reducible refine ⟨_, fun p => Og.lays (Gm.out _), hK _ _ ?_⟩; clear hK K))
        subst hvf
        refine Og.fin fun W hW => ?_
        simp only [Og.opened_nil]
        have B6 := Lib.hid (B5.out.trans (hW.mono B5.out.size))
        have M6 := Lib.hid (M5.out.below hW)
        have LW := Lib.hid (LH.out W hW)
        clear hc hf hW z5 P5 LH
        go_wp2_with fail
        refine LW.out.mono ?_
        rintro e w' ⟨rfl, rfl⟩
        go_wp2
        go_roundw
        case rel => exact ⟨m + 1, by omega, by go_num, B6.out⟩
        case measure => simp [intOf]; omega
    · clear FT TH ZN GZ M4 M5 P4 Z4 BE
      go_wp2
      go_loopw [13] (fun i wr => ∃ n : Nat, n + 1 ≤ max 1 L.length ∧ i = .int .i64 ((n : Int) + 1) ∧ Below w4.heap.size w4 wr) (fun i _ => L.length + 1 - (intOf i).toNat)
      case atStart => exact ⟨0, by omega, rfl, B5.out⟩
      case round =>
        obtain ⟨n, hn, rfl, hbel⟩ := hrel
        have Bn := Lib.hid hbel
        by_cases hlt2 : n + 1 < L.length
        · have Rn := Lib.hid (reads_more R4.out hbel)
          obtain ⟨g, off, eA, hg, c0⟩ := reads_int Rn.out (k := n) (by omega)
          subst eA
          obtain ⟨g', off', eA, hg', c1⟩ := reads_int Rn.out (k := n + 1) hlt2
          obtain ⟨rfl, rfl⟩ : g = g' ∧ off = off' := by simpa using eA
          have hso := SO.out n (n + 1) (by omega) hlt2 (by omega)
          have s0 : IntKind.i64.wrap (n : Int) = n := IntWalk.i64_in _ ⟨by omega, by omega⟩
          have i0 : (n : Int) < L.length := by omega
          have i1 : (n : Int) + 1 < L.length := by omega
          have i2 : (0 : Int) ≤ (n : Int) + 1 := by omega
          have i3 : ((n : Int) + 1).toNat = n + 1 := by omega
          generalize L[n] = a at *
          generalize L[n + 1] = c at *
          clear hbel eA SO
          have lg : g < wr.heap.size := hg
          have nle : ¬ c ≤ a := by omega
          clear hso hg hg'
          go_wp2
          refine Og.grow 10 (by kernel_rfl) (by kernel_rfl) fun hc hf => ?_
          simp only [List.take_succ_cons, List.take_zero, List.drop_succ_cons, List.drop_zero]
          repeat (refine Og.det [] rfl (fun K hK => ?_); go_simp; refine hK _ _ ?_; clear hK K)
          refine Og.fin fun W hW => ?_
          simp only [Og.opened_nil]
          have B6 := Lib.hid (Bn.out.trans (hW.mono Bn.out.size))
          clear hc hf hW c0 c1 lg
          go_wp2
          go_roundw
          case rel => exact ⟨n + 1, by omega, by go_num, B6.out⟩
          case measure => simp [intOf]; omega
        · clear SO
          go_wp2_with fail
          refine (awake_hid.out _).mono ?_
          rintro e w7 ⟨rfl, b7⟩
          go_wp2
          go_ret
          exact ⟨rfl, B4.out.trans ((Bn.out.trans (b7.mono Bn.out.size)).mono B4.out.size)⟩
end Go.Proofs.Ytloogafnkkbigaa
