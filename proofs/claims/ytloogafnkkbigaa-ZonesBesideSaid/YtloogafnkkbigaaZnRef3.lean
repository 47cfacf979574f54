/- The document's Beside: what it answers. -/
import Derived.Test.YtloogafnkkbigaaZnRef2
import Derived.Test.YtloogafnkkbigaaRcTwo
namespace Go.Proofs.Ytloogafnkkbigaa
open Go.RowKit
open Zn (Ok There)

theorem grown_i (a b c d n : Int) : I (Rc.grown a b c d n).a ∧ I (Rc.grown a b c d n).b ∧ I (Rc.grown a b c d n).c ∧ I (Rc.grown a b c d n).d := by
  unfold Rc.grown
  split
  · exact ⟨by decide, by decide, by decide, by decide⟩
  · have f : ∀ z, I (Rc.clamp z) := fun z => by have := Rc.clamp_bd z; unfold I; omega
    exact ⟨f _, f _, f _, f _⟩
theorem two_i (a b c d p q r s : Int) : I (Rc.two a b c d p q r s).a ∧ I (Rc.two a b c d p q r s).b ∧ I (Rc.two a b c d p q r s).c ∧ I (Rc.two a b c d p q r s).d := by
  have h0 := Rc.clamp_bd a
  have h1 := Rc.clamp_bd b
  have h2 := Rc.clamp_bd c
  have h3 := Rc.clamp_bd d
  have h4 := Rc.clamp_bd p
  have h5 := Rc.clamp_bd q
  have h6 := Rc.clamp_bd r
  have h7 := Rc.clamp_bd s
  unfold Rc.two
  split
  · exact ⟨by decide, by decide, by decide, by decide⟩
  · unfold I
    simp only
    omega
theorem own_cell {W W' : World} {B b : Nat} {o : Obj} (h : W.heap[b]? = some o) (hb : Below B W W') (hl : b < B) : W'.heap[b]? = some o := (hb.block b hl).trans h

set_option maxHeartbeats 1000000 in
theorem rbeside_no (C R S D V N Q k : Int) (w : World) (ok : Ok C R S D V) (hk : ¬ There C R k) :
    Calls Try.prog 28 #[.agg #[.int .i64 C, .int .i64 R, .int .i64 S, .int .i64 D, .int .i64 V, .int .i64 N, .int .i64 Q], .int .i64 k] w fun e w' => e = .returned (.slice none 0 0) ∧ Below w.heap.size w w' := by
  have mb := Zn.mul_bd ok
  obtain ⟨M, hM⟩ : ∃ M : Nat, C * R = (M : Int) := ⟨(C * R).toNat, by omega⟩
  have w0 : IntKind.i64.wrap (C * R) = (M : Int) := by rw [hM]; exact IntWalk.i64_in _ ⟨by omega, by omega⟩
  have hk' : k < 0 ∨ (M : Int) ≤ k := by unfold There at hk; omega
  clear hk mb hM ok
  rcases hk' with h | h
  · go_enter Try.func28, Try.ntmps28
    go_wp2
    go_ret
    exact ⟨rfl, bel1 _ _⟩
  · have h0 : ¬ k < 0 := by omega
    go_enter Try.func28, Try.ntmps28
    go_wp2
    go_ret
    exact ⟨rfl, bel1 _ _⟩
set_option maxHeartbeats 4000000 in
set_option maxRecDepth 100000 in
theorem rbeside_some (C R S D V N Q k : Int) (w : World) (ok : Ok C R S D V) (hk : There C R k) :
    Calls Try.prog 28 #[.agg #[.int .i64 C, .int .i64 R, .int .i64 S, .int .i64 D, .int .i64 V, .int .i64 N, .int .i64 Q], .int .i64 k] w fun e w' => ∃ v, e = .returned v ∧ Own w' w.heap.size v (Zn.beside C R k) ∧ Below w.heap.size w w' := by
  have mb := Zn.mul_bd ok
  obtain ⟨M, hM⟩ : ∃ M : Nat, C * R = (M : Int) := ⟨(C * R).toNat, by omega⟩
  have w0 : IntKind.i64.wrap (C * R) = (M : Int) := by rw [hM]; exact IntWalk.i64_in _ ⟨by omega, by omega⟩
  have kI : I k := by unfold There at hk; unfold I; omega
  have ZK := Lib.hid (fun W => rzone_any C R S D V N Q k W ok kI)
  have GR := Lib.hid (fun W => rgrow_any (Zn.zone C R S k).a (Zn.zone C R S k).b (Zn.zone C R S k).c (Zn.zone C R S k).d 1 W (zone_i ok hk).1.1 (zone_i ok hk).1.2 (zone_i ok hk).2.1 (zone_i ok hk).2.2 (by decide))
  have gi := grown_i (Zn.zone C R S k).a (Zn.zone C R S k).b (Zn.zone C R S k).c (Zn.zone C R S k).d 1
  have ZN := Lib.hid (fun W (m : Nat) (hm : m < M) => rzone_any C R S D V N Q (m : Int) W ok (by unfold I; omega))
  have th : ∀ m : Nat, m < M → There C R (m : Int) := fun m hm => ⟨by omega, by omega⟩
  have NX := Lib.hid (fun (m : Nat) (hm : m < M) => Zn.next_two ok hk (th m hm))
  have zi := Lib.hid (fun (m : Nat) (hm : m < M) => zone_i ok (th m hm))
  have HP := Lib.hid (fun m : Nat => show Zn.besP C k m = (decide ((m : Int) ≠ k) && Zn.nextB C k m) from rfl)
  have HL := Lib.hid (fun m => Zn.bes_len C k m)
  have HB : Zn.beside C R k = Zn.bes C k M := by unfold Zn.beside; rw [if_pos hk, hM]; rfl
  rw [HB]
  have k0' : ¬ k < 0 := by have := hk.1; omega
  have k1' : ¬ (M : Int) ≤ k := by have := hk.2; omega
  rw [hM] at mb
  clear ok hM hk th HB kI
  generalize Rc.grown (Zn.zone C R S k).a (Zn.zone C R S k).b (Zn.zone C R S k).c (Zn.zone C R S k).d 1 = gg at *
  obtain ⟨g0, g1, g2, g3⟩ := gg
  simp only at gi GR NX
  generalize (Zn.zone C R S k).a = y0 at *
  generalize (Zn.zone C R S k).b = y1 at *
  generalize (Zn.zone C R S k).c = y2 at *
  generalize (Zn.zone C R S k).d = y3 at *
  obtain ⟨i0, hi, hz0, hz1, hz2⟩ := info_parts int_info
  have HI := Lib.hid (And.intro hi (And.intro hz0 (And.intro hz1 hz2)))
  have GI := Lib.hid gi
  clear hi hz0 hz1 hz2 gi
  go_enter Try.func28, Try.ntmps28
  go_wp2_with fail
  refine (ZK.out _).mono ?_
  rintro e w1 ⟨rfl, b1⟩
  have X1 := Lib.hid (show RcBox w C R S D V N Q w1 from RcBox.next ⟨bel1 _ _, at1 _ _⟩ b1)
  clear b1 ZK
  go_wp2_with fail
  refine (GR.out _).mono ?_
  rintro e w2 ⟨rfl, b2⟩
  have X2 := Lib.hid (X1.out.next b2)
  clear b2 X1 GR
  have X3 := Lib.hid (X2.out.next (bel1 w2 (.cells #[.int .i64 g0, .int .i64 g1, .int .i64 g2, .int .i64 g3] 35)))
  have G3 := Lib.hid (at1 w2 (.cells #[.int .i64 g0, .int .i64 g1, .int .i64 g2, .int .i64 g3] 35))
  have lw := X2.out.lt
  go_wp2
  go_loopw [5, 7] (fun v s wr => ∃ m : Nat, m ≤ M ∧ s = .int .i64 m ∧ Hid (Own wr (w2.heap.size + 1) v (Zn.bes C k m)) ∧ Hid (RcBox w C R S D V N Q wr) ∧ Hid (wr.heap[w2.heap.size]? = some (.cells #[.int .i64 g0, .int .i64 g1, .int .i64 g2, .int .i64 g3] 35 (0, 0))) ∧ w2.heap.size + 1 ≤ wr.heap.size) (fun _ s _ => M - (intOf s).toNat)
  case atStart => exact ⟨0, by omega, rfl, Lib.hid (own_nil _ _), X3, G3, by rw [size1]; omega⟩
  case round =>
    obtain ⟨m, hm, rfl, hown, hbx, hgx, hsz⟩ := hrel
    clear X2 X3 G3
    obtain ⟨k0, k1, k2, k3, k4, k5, k6⟩ := (box7 hbx.out.2).1
    obtain ⟨l0, l1, l2, l3⟩ := (box4 hgx.out).1
    have hln := HL.out m
    have ltb := hbx.out.lt
    have ltg : w2.heap.size < wr.heap.size := by omega
    by_cases hlt : m < M
    · have Zm := Lib.hid (fun W => ZN.out W m hlt)
      have Tm := Lib.hid (fun W => rtwo_any g0 g1 g2 g3 (Zn.zone C R S m).a (Zn.zone C R S m).b (Zn.zone C R S m).c (Zn.zone C R S m).d W GI.out ⟨(zi.out m hlt).1.1, (zi.out m hlt).1.2, (zi.out m hlt).2.1, (zi.out m hlt).2.2⟩)
      have ti := two_i g0 g1 g2 g3 (Zn.zone C R S m).a (Zn.zone C R S m).b (Zn.zone C R S m).c (Zn.zone C R S m).d
      have Xm := NX.out m hlt
      have Pm := Lib.hid (HP.out m)
      clear ZN HP HL NX zi GI
      unfold Rc.twR at Xm
      simp only at Xm
      generalize (Zn.zone C R S m).a = z0 at *
      generalize (Zn.zone C R S m).b = z1 at *
      generalize (Zn.zone C R S m).c = z2 at *
      generalize (Zn.zone C R S m).d = z3 at *
      generalize Rc.two g0 g1 g2 g3 z0 z1 z2 z3 = tt at *
      obtain ⟨t0, t1, t2, t3⟩ := tt
      simp only at Tm ti Xm
      have Nm := Lib.hid (fun W => show Calls Try.prog 45 #[.agg #[.int .i64 t0, .int .i64 t1, .int .i64 t2, .int .i64 t3]] W fun e w' => (e = .returned (.bool (!Zn.nextB C k m)) ∧ Below W.heap.size W w') by have := rnone_walk t0 t1 t2 t3 W ti.1 ti.2.1 ti.2.2.1 ti.2.2.2; rwa [Xm] at this)
      clear Xm ti
      generalize Zn.nextB C k m = nb at *
      by_cases ho : (m : Int) = k
      · have hP : Zn.besP C k m = false := by rw [Pm.out]; simp [ho]
        have HO2 := hown.out
        rw [← bes_miss hP] at HO2
        have HN := Lib.hid HO2
        clear hP HO2 Pm
        subst ho
        go_wp2
        refine Og.grow 12 (by kernel_rfl) (by kernel_rfl) fun hc hf => ?_
        simp only [List.take_succ_cons, List.take_zero, List.drop_succ_cons, List.drop_zero]
        repeat (refine Og.det [] rfl (fun K hK => ?_); (try subst hvf); go_simp; generalize hvf : Value.bool false = vf; first | (refine hK _ _ ?_; clear hK K) | (with_reducible refine ⟨_, fun p => Og.lays (Zm.out _), hK _ _ ?_⟩; clear hK K) | (with_reducible refine ⟨_, fun p => Og.lays (Tm.out _), hK _ _ ?_⟩; clear hK K) | (with_reducible refine ⟨_, fun p => Og.lays (Nm.out _), hK _ _ ?_⟩; clear hK K))
        subst hvf
        refine Og.fin fun W hW => ?_
        simp only [Og.opened_nil]
        have X2 := Lib.hid (hbx.out.next hW)
        have G2 := Lib.hid (own_cell hgx.out hW ltg)
        have O2 := Lib.hid (own_below HN.out hW)
        have hsW := hW.size
        clear hc hf hW k0 k1 k2 k3 k4 k5 k6 l0 l1 l2 l3 ltb
        go_wp2
        go_roundw
        case rel => exact ⟨m + 1, by omega, by go_num, O2, X2, G2, by omega⟩
        case measure => simp [intOf]; omega
      · have tt2 : ((m : Int) != k) = true := by simpa using ho
        cases nb
        · have hP : Zn.besP C k m = false := by rw [Pm.out]; simp
          have HO2 := hown.out
          rw [← bes_miss hP] at HO2
          have HN := Lib.hid HO2
          clear hP HO2 Pm
          go_wp2
          refine Og.grow 12 (by kernel_rfl) (by kernel_rfl) fun hc hf => ?_
          simp only [List.take_succ_cons, List.take_zero, List.drop_succ_cons, List.drop_zero]
          repeat (refine Og.det [] rfl (fun K hK => ?_); (try subst hvf); go_simp; generalize hvf : Value.bool false = vf; first | (refine hK _ _ ?_; clear hK K) | (with_reducible refine ⟨_, fun p => Og.lays (Zm.out _), hK _ _ ?_⟩; clear hK K) | (with_reducible refine ⟨_, fun p => Og.lays (Tm.out _), hK _ _ ?_⟩; clear hK K) | (with_reducible refine ⟨_, fun p => Og.lays (Nm.out _), hK _ _ ?_⟩; clear hK K))
          subst hvf
          refine Og.fin fun W hW => ?_
          simp only [Og.opened_nil]
          have X2 := Lib.hid (hbx.out.next hW)
          have G2 := Lib.hid (own_cell hgx.out hW ltg)
          have O2 := Lib.hid (own_below HN.out hW)
          have hsW := hW.size
          clear hc hf hW k0 k1 k2 k3 k4 k5 k6 l0 l1 l2 l3 ltb
          go_wp2
          go_roundw
          case rel => exact ⟨m + 1, by omega, by go_num, O2, X2, G2, by omega⟩
          case measure => simp [intOf]; omega
        · have hP : Zn.besP C k m = true := by rw [Pm.out]; simp [ho]
          have HPP := Lib.hid hP
          clear hP Pm
          go_wp2
          refine Og.grow 12 (by kernel_rfl) (by kernel_rfl) fun hc hf => ?_
          simp only [List.take_succ_cons, List.take_zero, List.drop_succ_cons, List.drop_zero]
          repeat (refine Og.det [] rfl (fun K hK => ?_); go_simp; first | (refine hK _ _ ?_; clear hK K) | (with_reducible refine ⟨_, fun p => Og.lays (Zm.out _), hK _ _ ?_⟩; clear hK K) | (with_reducible refine ⟨_, fun p => Og.lays (Tm.out _), hK _ _ ?_⟩; clear hK K) | (with_reducible refine ⟨_, fun p => Og.lays (Nm.out _), hK _ _ ?_⟩; clear hK K))
          refine Og.fin fun W hW => ?_
          simp only [Og.opened_nil]
          have X2 := Lib.hid (hbx.out.next hW)
          have G2 := Lib.hid (own_cell hgx.out hW ltg)
          have O2 := Lib.hid (own_below hown.out hW)
          have hsW := hW.size
          clear hc hf hW k0 k1 k2 k3 k4 k5 k6 l0 l1 l2 l3 ltb
          go_wp2_with (at_builtin; refine wpList_append_own _ rfl _ _ 46 rfl (w2.heap.size + 1) 3 i0 (.int .i64 0) 1 8 ints_und HI.out.1 HI.out.2.1 HI.out.2.2.1 HI.out.2.2.2 rfl (by decide) _ _ _ rfl (World.ownsRow.alloc O2.out _) ⟨W.heap.size, 0, none⟩ 1 1 [.int .i64 (m : Int)] rfl rfl (by intro j u hj; match j, hj with | 0, hj => simp at hj; subst hj; simp [Addr.add]) (by intro u hu; simp at hu; subst hu; rfl) (by unfold maxLen; omega) (by omega) (by rw [size1]; omega) ?_; intro v' w3 hown' hgrow _)
          have R' := push_step O2.out (Below.refl (w2.heap.size + 1) W) (by omega) hown' hgrow
          have XB := X2.out.next (W := W.alloc (.cells #[.int .i64 (m : Int)] 3)) (bel1 _ _)
          have R'' : RcBox w C R S D V N Q w3 := ⟨XB.1.grown hgrow (by rw [size1]; have := XB.1.size; rw [size1] at this; omega) (fun j hj => by have := (World.ownsRow.lt O2.out j hj).1; omega), (hgrow.block _ XB.lt (fun hj => by have := (World.ownsRow.lt O2.out _ hj.symm).1; omega)).trans XB.2⟩
          have G3 : w3.heap[w2.heap.size]? = some (.cells #[.int .i64 g0, .int .i64 g1, .int .i64 g2, .int .i64 g3] 35 (0, 0)) := (hgrow.block _ (by rw [size1]; omega) (fun hj => by have := (World.ownsRow.lt O2.out _ hj.symm).1; omega)).trans (own_cell G2.out (bel1 W _) (by omega))
          have hs3 : w2.heap.size + 1 ≤ w3.heap.size := by have := R'.2.size; omega
          rw [← bes_hit HPP.out] at R'
          have R := Lib.hid R'
          have RX := Lib.hid R''
          have RG := Lib.hid G3
          clear R' R'' XB hown' hgrow O2 X2 hown hbx hgx G3 G2
          go_wp2
          go_roundw
          case rel => exact ⟨m + 1, by omega, by go_num, Lib.hid R.out.1, RX, RG, hs3⟩
          case measure => simp [intOf]; omega
    · obtain rfl : m = M := by omega
      go_wp2
      go_ret
      exact ⟨_, rfl, own_base hown.out (by omega), hbx.out.1⟩
theorem rbeside_any (C R S D V N Q k : Int) (w : World) (ok : Ok C R S D V) :
    Calls Try.prog 28 #[.agg #[.int .i64 C, .int .i64 R, .int .i64 S, .int .i64 D, .int .i64 V, .int .i64 N, .int .i64 Q], .int .i64 k] w fun e w' => ∃ v, e = .returned v ∧ Own w' w.heap.size v (Zn.beside C R k) ∧ Below w.heap.size w w' := by
  by_cases hk : There C R k
  · exact rbeside_some C R S D V N Q k w ok hk
  · refine (rbeside_no C R S D V N Q k w ok hk).mono fun e w' hh => ⟨_, hh.1, ?_, hh.2⟩
    unfold Zn.beside
    rw [if_neg hk]
    exact own_nil _ _
end Go.Proofs.Ytloogafnkkbigaa
