/- The document's Cut: what it answers. -/
import Derived.Test.YteagndjoppnbgaaRcTwo
import Derived.Test.YteagndjoppnbgaaRcCut
namespace Go.Proofs.Yteagndjoppnbgaa
open Go.RowKit

/-- what lies there at each round's head: the result's box, and the new one's -/
structure RCutAt (w : World) (g : Nat) (r : Rc.R) (W : World) : Prop where
  bel : Below w.heap.size w W
  out : w.heap.size < g
  top : g < W.heap.size
  res : W.heap[w.heap.size]? = some (.cells #[.int .i64 0, .int .i64 0, .int .i64 0, .int .i64 0] 23 (0, 0))
  cut : W.heap[g]? = some (.cells #[.int .i64 r.a, .int .i64 r.b, .int .i64 r.c, .int .i64 r.d] 23 (0, 0))
theorem RCutAt.step {w W W' : World} {g : Nat} {r : Rc.R} (h : RCutAt w g r W) (hb : Below W.heap.size W W') : RCutAt w g r W' :=
  have h1 := h.out
  have h2 := h.top
  ⟨h.bel.trans (hb.mono h.bel.size), h1, Nat.lt_of_lt_of_le h2 hb.size, (hb.block _ (by omega)).trans h.res, (hb.block _ h2).trans h.cut⟩
theorem RCutAt.set {w W : World} {g : Nat} {r : Rc.R} (h : RCutAt w g r W) (s : Rc.R) :
    RCutAt w g s ((((W.setCell ⟨g, 0, none⟩ (.int .i64 s.a)).setCell ⟨g, 1, none⟩ (.int .i64 s.b)).setCell ⟨g, 2, none⟩ (.int .i64 s.c)).setCell ⟨g, 3, none⟩ (.int .i64 s.d)) := by
  have h1 := h.out
  have h2 := h.top
  exact ⟨set4 h.bel _ (by omega) _ _ _ _, h1, by rw [set4_size]; omega, (set4_other (by omega) _ _ _ _).trans h.res, set4_same h.cut _ _ _ _⟩

set_option maxHeartbeats 2000000 in
set_option maxRecDepth 100000 in
theorem rcut_none (A : Option Addr) (cap : Nat) (w : World) :
    Calls Try.prog 16 #[.slice A 0 cap] w fun e w' => e = .returned (.agg #[.int .i64 0, .int .i64 0, .int .i64 0, .int .i64 0]) ∧ Below w.heap.size w w' := by
  obtain ⟨⟨k0, k1, k2, k3⟩, f0, f1, f2, f3⟩ := box4 (at1 w (.cells #[.int .i64 0, .int .i64 0, .int .i64 0, .int .i64 0] 23))
  go_enter Try.func16, Try.ntmps16
  go_wp2
  exact bodyPost_ret (v := .agg #[.int .i64 0, .int .i64 0, .int .i64 0, .int .i64 0]) (by simp [results, Try.results16, go_sem]) rfl ⟨rfl, bel1 _ _⟩

theorem cut_in (x : Int × Int × Int × Int) (l : List (Int × Int × Int × Int)) : I (Rc.cut x l).a ∧ I (Rc.cut x l).b ∧ I (Rc.cut x l).c ∧ I (Rc.cut x l).d := by
  unfold Rc.cut
  obtain ⟨h1, h2, h3, h4⟩ := Rc.ctd_bd (Rc.fold x l).1 (Rc.fold x l).2.1 (Rc.fold x l).2.2.1 (Rc.fold x l).2.2.2
  exact ⟨⟨by omega, by omega⟩, ⟨by omega, by omega⟩, ⟨by omega, by omega⟩, ⟨by omega, by omega⟩⟩

set_option maxHeartbeats 2000000 in
set_option maxRecDepth 100000 in
theorem rcut_some (A : Option Addr) (cap : Nat) (x : Int × Int × Int × Int) (l : List (Int × Int × Int × Int)) (w : World) (B : Nat) (hB : B ≤ w.heap.size) (hcap : l.length ≤ 1000000000000000) (hr : ReadsK w B A 4 ((x :: l).map rectRow)) (hi : ∀ y ∈ x :: l, I y.1 ∧ I y.2.1 ∧ I y.2.2.1 ∧ I y.2.2.2)
    (c0 c1 c2 c3 : Int) (hres : Rc.cut x l = ⟨c0, c1, c2, c3⟩) :
    Calls Try.prog 16 #[.slice A (l.length + 1) cap] w fun e w' => e = .returned (.agg #[.int .i64 c0, .int .i64 c1, .int .i64 c2, .int .i64 c3]) ∧ Below w.heap.size w w' := by
  obtain ⟨b, off, rfl, hb, hc⟩ := cells4 hr (by simp)
  obtain ⟨x0, x1, x2, x3⟩ := hc 0 (by simp)
  simp only [Nat.zero_mul, Nat.add_zero, List.getElem_cons_zero] at x0 x1 x2 x3
  have HC := Lib.hid hc
  clear hc hr
  have hbw : b < w.heap.size := by omega
  have HI := Lib.hid hi
  have T0 := Lib.hid (fun W => show Calls Try.prog 26 #[.agg #[.int .i64 x.1, .int .i64 x.2.1, .int .i64 x.2.2.1, .int .i64 x.2.2.2], .agg #[.int .i64 x.1, .int .i64 x.2.1, .int .i64 x.2.2.1, .int .i64 x.2.2.2]] W fun e w' => (e = .returned (.agg #[.int .i64 (Rc.cut x []).a, .int .i64 (Rc.cut x []).b, .int .i64 (Rc.cut x []).c, .int .i64 (Rc.cut x []).d]) ∧ Below W.heap.size W w') by
    have := rtwo_any x.1 x.2.1 x.2.2.1 x.2.2.2 x.1 x.2.1 x.2.2.1 x.2.2.2 W (hi x (by simp)) (hi x (by simp))
    rwa [Rc.two_self] at this)
  have HR := Lib.hid hres
  clear hi hres
  go_enter Try.func16, Try.ntmps16
  go_wp2
  have i0 : (0 : Int) < ↑l.length + 1 := by omega
  refine Og.grow 8 (by kernel_rfl) (by kernel_rfl) fun hc hf => ?_
  simp only [List.take_succ_cons, List.take_zero, List.drop_succ_cons, List.drop_zero]
  iterate 7 (refine Og.det [] rfl (fun K hK => ?_); go_simp; first | (refine hK _ _ ?_; clear hK K) | (refine ⟨_, fun p => Og.lays (T0.out _), hK _ _ ?_⟩; clear hK K))
  refine Og.such 3 (Og.Box (w.heap.size + 1) #[.int .i64 0, .int .i64 0, .int .i64 0, .int .i64 0] 23) [] rfl (Og.Box.lasts _ _ _) (Og.Box.noBool _ _ _) (fun K hK => ?_)
  go_simp
  refine ⟨fun p => Og.Box.new _ _ (by have := p.h.size; rw [size1] at this; exact this) _ _, hK _ _ ?_⟩
  clear hK K
  refine Og.fin fun W hW => ?_
  simp only [Og.opened_cons, Og.opened_nil]
  rintro v ⟨g, rfl, g1, g2, g3⟩
  clear hc hf
  have A0 : RCutAt w g ⟨0, 0, 0, 0⟩ W := ⟨(bel1 w _).trans (hW.mono (by rw [size1]; omega)), by omega, g2, (hW.block _ (by rw [size1]; omega)).trans (at1 w _), g3⟩
  have H0 := Lib.hid A0
  obtain ⟨⟨k0, k1, k2, k3⟩, f0, f1, f2, f3⟩ := box4 A0.cut
  clear hW g3 A0 x0 x1 x2 x3 T0
  go_wp2
  have A1 := H0.out.set (Rc.cut x [])
  clear H0 k0 k1 k2 k3 f0 f1 f2 f3
  generalize (((W.setCell ⟨g, 0, none⟩ (.int .i64 (Rc.cut x []).a)).setCell ⟨g, 1, none⟩ (.int .i64 (Rc.cut x []).b)).setCell ⟨g, 2, none⟩ (.int .i64 (Rc.cut x []).c)).setCell ⟨g, 3, none⟩ (.int .i64 (Rc.cut x []).d) = W1 at *
  go_loopw [4] (fun i wr => ∃ k : Nat, k ≤ l.length ∧ i = .int .i64 ((k : Int) + 1) ∧ RCutAt w g (Rc.cut x (l.take k)) wr) (fun i _ => l.length + 1 - (intOf i).toNat)
  case atStart => exact ⟨0, Nat.zero_le _, rfl, A1⟩
  case round =>
    obtain ⟨k, hk, rfl, hat⟩ := hrel
    by_cases hlt : k < l.length
    · obtain ⟨y0, y1, y2, y3⟩ := HC.out (k + 1) (by simpa using hlt)
      simp only [List.getElem_cons_succ] at y0 y1 y2 y3
      obtain ⟨y, hy⟩ : ∃ y, y = l[k] := ⟨_, rfl⟩
      rw [← hy] at y0 y1 y2 y3
      have z0 := (hat.bel.cell (p := ⟨b, off + (k + 1) * 4, none⟩) hbw).trans y0
      have z1 := (hat.bel.cell (p := ⟨b, off + (k + 1) * 4 + 1, none⟩) hbw).trans y1
      have z2 := (hat.bel.cell (p := ⟨b, off + (k + 1) * 4 + 2, none⟩) hbw).trans y2
      have z3 := (hat.bel.cell (p := ⟨b, off + (k + 1) * 4 + 3, none⟩) hbw).trans y3
      clear y0 y1 y2 y3
      obtain ⟨⟨k0, k1, k2, k3⟩, f0, f1, f2, f3⟩ := box4 hat.cut
      have HT := Lib.hid hat
      have HN := Lib.hid (show Rc.twR (Rc.cut x (l.take k)) y = Rc.cut x (l.take (k + 1)) by rw [hy, List.take_succ_eq_append_getElem hlt, Rc.cut_snoc])
      have T := Lib.hid (fun W => rtwo_any (Rc.cut x (l.take k)).a (Rc.cut x (l.take k)).b (Rc.cut x (l.take k)).c (Rc.cut x (l.take k)).d y.1 y.2.1 y.2.2.1 y.2.2.2 W (cut_in x (l.take k)) (HI.out y (by rw [hy]; exact List.mem_cons_of_mem _ (List.getElem_mem _))))
      clear hat hy HI HC HR A1
      generalize Rc.cut x (l.take k) = r at *
      go_wp2
      have j0 : (0 : Int) ≤ ↑k + 1 := by omega
      have j1 : (↑k + 1 : Int) < ↑l.length + 1 := by omega
      have j2 : ((↑k : Int) + 1).toNat = k + 1 := by omega
      have hs1 : g < wr.heap.size := HT.out.top
      have hs2 : b < wr.heap.size := Nat.lt_of_lt_of_le hbw HT.out.bel.size
      refine Og.grow 6 (by kernel_rfl) (by kernel_rfl) fun hc hf => ?_
      simp only [List.take_succ_cons, List.take_zero, List.drop_succ_cons, List.drop_zero]
      iterate 6 (refine Og.det [] rfl (fun K hK => ?_); go_simp; first | (refine hK _ _ ?_; clear hK K) | (refine ⟨_, fun p => Og.lays (T.out _), hK _ _ ?_⟩; clear hK K))
      refine Og.fin fun W5 hW => ?_
      simp only [Og.opened_nil]
      have A5 := Lib.hid (HT.out.step hW)
      clear hc hf hW HT k0 k1 k2 k3 f0 f1 f2 f3 z0 z1 z2 z3 T j0 j1 j2 hs1 hs2
      obtain ⟨⟨k0, k1, k2, k3⟩, f0, f1, f2, f3⟩ := box4 A5.out.cut
      go_wp2
      go_roundw
      case rel =>
        refine ⟨k + 1, by omega, by go_num, ?_⟩
        rw [← HN.out]
        exact A5.out.set (Rc.twR r y)
      case measure => simp [intOf]; omega
    · have HL := Lib.hid (show l.take k = l by rw [show k = l.length by omega, List.take_length])
      rw [HL.out, HR.out] at hat
      obtain ⟨⟨k0, k1, k2, k3⟩, f0, f1, f2, f3⟩ := box4 hat.cut
      obtain ⟨⟨m0, m1, m2, m3⟩, n0, n1, n2, n3⟩ := box4 hat.res
      have HT := Lib.hid hat
      have ho := hat.out
      clear hat HI HC HL A1 HR
      go_wp2
      exact bodyPost_ret (v := .agg #[.int .i64 c0, .int .i64 c1, .int .i64 c2, .int .i64 c3]) (by simp [results, Try.results16, go_sem, m0, m1, m2, m3]) rfl ⟨rfl, set4 HT.out.bel _ (Nat.le_refl _) _ _ _ _⟩
end Go.Proofs.Yteagndjoppnbgaa
