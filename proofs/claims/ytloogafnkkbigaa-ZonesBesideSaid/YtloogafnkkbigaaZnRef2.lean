/- The document's Of, Near: what they answer. -/
import Derived.Test.YtloogafnkkbigaaZnRZone
namespace Go.Proofs.Ytloogafnkkbigaa
open Go.RowKit
open Zn (Ok There)

theorem rhas_zone_any {C R S D V k : Int} (ok : Ok C R S D V) (hk : There C R k) (x y : Int) (hx : I x) (hy : I y) (W : World) :
    Calls Try.prog 40 #[.agg #[.int .i64 (Zn.zone C R S k).a, .int .i64 (Zn.zone C R S k).b, .int .i64 (Zn.zone C R S k).c, .int .i64 (Zn.zone C R S k).d], .int .i64 x, .int .i64 y] W fun e w' => e = .returned (.bool (decide (Zn.of C R S x y = k))) ∧ Below W.heap.size W w' := by
  have := rhas_any (Zn.zone C R S k).a (Zn.zone C R S k).b (Zn.zone C R S k).c (Zn.zone C R S k).d x y W (zone_i ok hk).1.1 (zone_i ok hk).1.2 (zone_i ok hk).2.1 (zone_i ok hk).2.2 hx hy
  rwa [Zn.has_zone ok hk] at this

/-- the config's box -/
def RcBox (w : World) (C R S D V N Q : Int) (wr : World) : Prop := Below w.heap.size w wr ∧ wr.heap[w.heap.size]? = C7 C R S D V N Q
theorem RcBox.lt {w : World} {C R S D V N Q : Int} {wr : World} (h : RcBox w C R S D V N Q wr) : w.heap.size < wr.heap.size := (Array.getElem?_eq_some_iff.1 h.2).1
theorem RcBox.next {w : World} {C R S D V N Q : Int} {wr W : World} (h : RcBox w C R S D V N Q wr) (hb : Below wr.heap.size wr W) : RcBox w C R S D V N Q W := ⟨h.1.trans (hb.mono h.1.size), (hb.block _ h.lt).trans h.2⟩
set_option maxHeartbeats 4000000 in
set_option maxRecDepth 100000 in
theorem rof_any (C R S D V N Q x y : Int) (w : World) (ok : Ok C R S D V) (hx : I x) (hy : I y) :
    Calls Try.prog 23 #[.agg #[.int .i64 C, .int .i64 R, .int .i64 S, .int .i64 D, .int .i64 V, .int .i64 N, .int .i64 Q], .int .i64 x, .int .i64 y] w fun e w' => e = .returned (.int .i64 (Zn.of C R S x y)) ∧ Below w.heap.size w w' := by
  have mb := Zn.mul_bd ok
  obtain ⟨M, hM⟩ : ∃ M : Nat, C * R = (M : Int) := ⟨(C * R).toNat, by omega⟩
  have ZN := Lib.hid (fun W (m : Nat) (hm : m < M) => rzone_any C R S D V N Q (m : Int) W ok (by unfold I; omega))
  have HS := Lib.hid (fun W (m : Nat) (hm : m < M) => rhas_zone_any ok (show There C R (m : Int) from ⟨by omega, by omega⟩) x y hx hy W)
  have OB := Lib.hid (show Zn.of C R S x y = -1 ∨ (0 ≤ Zn.of C R S x y ∧ Zn.of C R S x y < M) by rcases Zn.of_bd ok x y with h | h; exact .inl h; exact .inr ⟨h.1, by have := h.2; omega⟩)
  have w0 : IntKind.i64.wrap (C * R) = (M : Int) := by rw [hM]; exact IntWalk.i64_in _ ⟨by omega, by omega⟩
  rw [hM] at mb
  clear ok hx hy hM
  generalize Zn.of C R S x y = o at *
  go_enter Try.func23, Try.ntmps23
  go_wp2
  go_loopw [7] (fun s wr => ∃ m : Nat, m ≤ M ∧ s = .int .i64 m ∧ Hid (¬ (0 ≤ o ∧ o < m)) ∧ Hid (RcBox w C R S D V N Q wr)) (fun s _ => M - (intOf s).toNat)
  case atStart => exact ⟨0, by omega, rfl, Lib.hid (by omega), Lib.hid ⟨bel1 _ _, at1 _ _⟩⟩
  case round =>
    obtain ⟨m, hm, rfl, hno, hbx⟩ := hrel
    obtain ⟨k0, k1, k2, k3, k4, k5, k6⟩ := (box7 hbx.out.2).1
    by_cases hlt : m < M
    · have Zm := Lib.hid (fun W => ZN.out W m hlt)
      have Hm := Lib.hid (fun W => HS.out W m hlt)
      clear ZN HS
      generalize (Zn.zone C R S m).a = z0 at *
      generalize (Zn.zone C R S m).b = z1 at *
      generalize (Zn.zone C R S m).c = z2 at *
      generalize (Zn.zone C R S m).d = z3 at *
      go_wp2_with fail
      refine (Zm.out _).mono ?_
      rintro e w1 ⟨rfl, b1⟩
      have X1 := Lib.hid (hbx.out.next b1)
      clear b1 k0 k1 k2 k3 k4 k5 k6
      by_cases ho : o = (m : Int)
      · rw [decide_eq_true ho] at Hm
        have HO := Lib.hid ho
        clear ho
        go_wp2_with fail
        refine (Hm.out _).mono ?_
        rintro e w2 ⟨rfl, b2⟩
        have X2 := Lib.hid (X1.out.next b2)
        go_wp2
        go_ret
        exact ⟨ret_int HO.out.symm, X2.out.1⟩
      · rw [decide_eq_false ho] at Hm
        have HO := Lib.hid ho
        clear ho
        go_wp2_with fail
        refine (Hm.out _).mono ?_
        rintro e w2 ⟨rfl, b2⟩
        have X2 := Lib.hid (X1.out.next b2)
        go_wp2
        go_roundw
        case rel => exact ⟨m + 1, by omega, by go_num, Lib.hid (by have := hno.out; have := HO.out; omega), X2⟩
        case measure => simp [intOf]; omega
    · obtain rfl : m = M := by omega
      go_wp2
      go_ret
      exact ⟨ret_int (by have := OB.out; have := hno.out; omega), hbx.out.1⟩

theorem nr_hit {C R S D x y : Int} {m : Nat} (h : Zn.nrP C R S D x y m = true) : Zn.nr C R S D x y (m + 1) = Zn.nr C R S D x y m ++ [(m : Int)] := by rw [Zn.nr_succ, if_pos h]
theorem nr_miss {C R S D x y : Int} {m : Nat} (h : Zn.nrP C R S D x y m = false) : Zn.nr C R S D x y (m + 1) = Zn.nr C R S D x y m := by rw [Zn.nr_succ, h]; simp

set_option maxHeartbeats 4000000 in
set_option maxRecDepth 100000 in
theorem rnear_any (C R S D V N Q x y : Int) (w : World) (ok : Ok C R S D V) (hx : I x) (hy : I y) :
    Calls Try.prog 26 #[.agg #[.int .i64 C, .int .i64 R, .int .i64 S, .int .i64 D, .int .i64 V, .int .i64 N, .int .i64 Q], .int .i64 x, .int .i64 y] w fun e w' => ∃ v, e = .returned v ∧ Own w' w.heap.size v (Zn.near C R S D x y) ∧ Below w.heap.size w w' := by
  have OF := Lib.hid (fun W => rof_any C R S D V N Q x y W ok hx hy)
  rcases Zn.of_bd ok x y with ho | ho
  · rw [Zn.near_none ho]
    rw [ho] at OF
    clear ok hx hy
    go_enter Try.func26, Try.ntmps26
    go_wp2_with fail
    refine (OF.out _).mono ?_
    rintro e w1 ⟨rfl, b1⟩
    go_wp2
    go_ret
    exact ⟨_, rfl, own_nil _ _, (bel1 w _).trans (b1.mono (by rw [size1]; omega))⟩
  · rw [Zn.near_nr ok ho]
    have mb := Zn.mul_bd ok
    obtain ⟨M, hM⟩ : ∃ M : Nat, C * R = (M : Int) := ⟨(C * R).toNat, by omega⟩
    have ZN := Lib.hid (fun W (m : Nat) (hm : m < M) => rzone_any C R S D V N Q (m : Int) W ok (by unfold I; omega))
    have GP := Lib.hid (fun W (m : Nat) (hm : m < M) => rgap_zone_any ok (show There C R (m : Int) from ⟨by omega, by omega⟩) x y hx hy W)
    have w0 : IntKind.i64.wrap (C * R) = (M : Int) := by rw [hM]; exact IntWalk.i64_in _ ⟨by omega, by omega⟩
    have o0 := ho.1
    have HP := Lib.hid (fun m : Nat => show Zn.nrP C R S D x y m = (decide ((m : Int) ≠ Zn.of C R S x y) && decide (Zn.gapZ C R S m x y ≤ D)) from rfl)
    have eM : (C * R).toNat = M := by omega
    rw [eM]
    have HL := Lib.hid (fun m => Zn.nr_len C R S D x y m)
    rw [hM] at mb
    clear ok hx hy hM ho eM
    generalize Zn.of C R S x y = o at *
    obtain ⟨i0, hi, hz0, hz1, hz2⟩ := info_parts int_info
    have HI := Lib.hid (And.intro hi (And.intro hz0 (And.intro hz1 hz2)))
    clear hi hz0 hz1 hz2
    have hnl : ¬ o < 0 := by omega
    go_enter Try.func26, Try.ntmps26
    go_wp2_with fail
    refine (OF.out _).mono ?_
    rintro e w1 ⟨rfl, b1⟩
    have X1 := Lib.hid (show RcBox w C R S D V N Q w1 from RcBox.next ⟨bel1 _ _, at1 _ _⟩ b1)
    have l1 := X1.out.lt
    clear b1 OF
    go_wp2
    go_loopw [7, 9] (fun v s wr => ∃ m : Nat, m ≤ M ∧ s = .int .i64 m ∧ Hid (Own wr w1.heap.size v (Zn.nr C R S D x y m)) ∧ Hid (RcBox w C R S D V N Q wr) ∧ Hid (Below w1.heap.size w1 wr)) (fun _ s _ => M - (intOf s).toNat)
    case atStart => exact ⟨0, by omega, rfl, Lib.hid (own_nil _ _), X1, Lib.hid (Below.refl _ _)⟩
    case round =>
      obtain ⟨m, hm, rfl, hown, hbx, hb1⟩ := hrel
      obtain ⟨k0, k1, k2, k3, k4, k5, k6⟩ := (box7 hbx.out.2).1
      have hsz := hb1.out.size
      have hln := HL.out m
      have ltb := hbx.out.lt
      by_cases hlt : m < M
      · have Zm := Lib.hid (fun W => ZN.out W m hlt)
        have Gm := Lib.hid (fun W => GP.out W m hlt)
        have Pm := Lib.hid (HP.out m)
        clear ZN GP HP HL X1
        generalize (Zn.zone C R S m).a = z0 at *
        generalize (Zn.zone C R S m).b = z1 at *
        generalize (Zn.zone C R S m).c = z2 at *
        generalize (Zn.zone C R S m).d = z3 at *
        generalize Zn.gapZ C R S m x y = g at *
        by_cases ho : (m : Int) = o
        · have hP : Zn.nrP C R S D x y m = false := by rw [Pm.out]; simp [ho]
          have HO2 := hown.out
          rw [← nr_miss hP] at HO2
          have HN := Lib.hid HO2
          clear hP HO2 Pm
          subst ho
          go_wp2
          refine Og.grow 14 (by kernel_rfl) (by kernel_rfl) fun hc hf => ?_
          simp only [List.take_succ_cons, List.take_zero, List.drop_succ_cons, List.drop_zero]
          repeat (refine Og.det [] rfl (fun K hK => ?_); (try subst hvf); go_simp; generalize hvf : Value.bool false = vf; first | (refine hK _ _ ?_; clear hK K) | (with_reducible refine ⟨_, fun p => Og.lays (Zm.out _), hK _ _ ?_⟩; clear hK K) | (with_reducible refine ⟨_, fun p => Og.lays (Gm.out _), hK _ _ ?_⟩; clear hK K))
          subst hvf
          refine Og.fin fun W hW => ?_
          simp only [Og.opened_nil]
          have X2 := Lib.hid (hbx.out.next hW)
          have B2 := Lib.hid (hb1.out.trans (hW.mono hsz))
          have O2 := Lib.hid (own_below HN.out hW)
          clear hc hf hW k0 k1 k2 k3 k4 k5 k6 ltb
          go_wp2
          go_roundw
          case rel => exact ⟨m + 1, by omega, by go_num, O2, X2, B2⟩
          case measure => simp [intOf]; omega
        · have t2 : ((m : Int) != o) = true := by simpa using ho
          by_cases hg : g ≤ D
          · have hP : Zn.nrP C R S D x y m = true := by rw [Pm.out]; simp [ho, hg]
            have HPP := Lib.hid hP
            have t3 : decide (g ≤ D) = true := decide_eq_true hg
            clear hP Pm
            go_wp2
            refine Og.grow 14 (by kernel_rfl) (by kernel_rfl) fun hc hf => ?_
            simp only [List.take_succ_cons, List.take_zero, List.drop_succ_cons, List.drop_zero]
            repeat (refine Og.det [] rfl (fun K hK => ?_); go_simp; first | (refine hK _ _ ?_; clear hK K) | (with_reducible refine ⟨_, fun p => Og.lays (Zm.out _), hK _ _ ?_⟩; clear hK K) | (with_reducible refine ⟨_, fun p => Og.lays (Gm.out _), hK _ _ ?_⟩; clear hK K))
            refine Og.fin fun W hW => ?_
            simp only [Og.opened_nil]
            have X2 := Lib.hid (hbx.out.next hW)
            have B2 := Lib.hid (hb1.out.trans (hW.mono hsz))
            have O2 := Lib.hid (own_below hown.out hW)
            have hsW := hW.size
            clear hc hf hW k0 k1 k2 k3 k4 k5 k6 ltb
            go_wp2_with (at_builtin; refine wpList_append_own _ rfl _ _ 46 rfl w1.heap.size 3 i0 (.int .i64 0) 1 8 ints_und HI.out.1 HI.out.2.1 HI.out.2.2.1 HI.out.2.2.2 rfl (by decide) _ _ _ rfl (World.ownsRow.alloc O2.out _) ⟨W.heap.size, 0, none⟩ 1 1 [.int .i64 (m : Int)] rfl rfl (by intro j u hj; match j, hj with | 0, hj => simp at hj; subst hj; simp [Addr.add]) (by intro u hu; simp at hu; subst hu; rfl) (by unfold maxLen; omega) (by omega) (by rw [size1]; omega) ?_; intro v' w2 hown' hgrow _)
            have R' := push_step O2.out B2.out (by omega) hown' hgrow
            have XB := X2.out.next (W := W.alloc (.cells #[.int .i64 (m : Int)] 3)) (bel1 _ _)
            have R'' : RcBox w C R S D V N Q w2 := ⟨XB.1.grown hgrow (by rw [size1]; have := XB.1.size; rw [size1] at this; omega) (fun j hj => by have := (World.ownsRow.lt O2.out j hj).1; have := X2.out.lt; omega), (hgrow.block _ XB.lt (fun hj => by have := (World.ownsRow.lt O2.out _ hj.symm).1; omega)).trans XB.2⟩
            rw [← nr_hit HPP.out] at R'
            have R := Lib.hid R'
            have RX := Lib.hid R''
            clear R' R'' XB hown' hgrow O2 B2 X2 hown hb1 hbx
            go_wp2
            go_roundw
            case rel => exact ⟨m + 1, by omega, by go_num, Lib.hid R.out.1, RX, Lib.hid R.out.2⟩
            case measure => simp [intOf]; omega
          · have hP : Zn.nrP C R S D x y m = false := by rw [Pm.out]; simp [hg]
            have HO2 := hown.out
            rw [← nr_miss hP] at HO2
            have HN := Lib.hid HO2
            have t3 : decide (g ≤ D) = false := decide_eq_false hg
            clear hP HO2 Pm
            go_wp2
            refine Og.grow 14 (by kernel_rfl) (by kernel_rfl) fun hc hf => ?_
            simp only [List.take_succ_cons, List.take_zero, List.drop_succ_cons, List.drop_zero]
            repeat (refine Og.det [] rfl (fun K hK => ?_); (try subst hvf); go_simp; generalize hvf : Value.bool false = vf; first | (refine hK _ _ ?_; clear hK K) | (with_reducible refine ⟨_, fun p => Og.lays (Zm.out _), hK _ _ ?_⟩; clear hK K) | (with_reducible refine ⟨_, fun p => Og.lays (Gm.out _), hK _ _ ?_⟩; clear hK K))
            subst hvf
            refine Og.fin fun W hW => ?_
            simp only [Og.opened_nil]
            have X2 := Lib.hid (hbx.out.next hW)
            have B2 := Lib.hid (hb1.out.trans (hW.mono hsz))
            have O2 := Lib.hid (own_below HN.out hW)
            clear hc hf hW k0 k1 k2 k3 k4 k5 k6 ltb
            go_wp2
            go_roundw
            case rel => exact ⟨m + 1, by omega, by go_num, O2, X2, B2⟩
            case measure => simp [intOf]; omega
      · obtain rfl : m = M := by omega
        go_wp2
        go_ret
        exact ⟨_, rfl, own_base hown.out X1.out.1.size, hbx.out.1⟩
end Go.Proofs.Ytloogafnkkbigaa
