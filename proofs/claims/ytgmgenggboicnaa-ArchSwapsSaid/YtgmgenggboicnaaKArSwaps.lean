/- The law ArchSwaps, walked. Written by wip/tools/genswaps.py. -/
import Derived.Test.YtgmgenggboicnaaKLaw
import Derived.BigQuiet
namespace Go.Proofs.Ytgmgenggboicnaa
open Go.RowKit Pz Ar
set_option linter.unusedVariables false
set_option linter.unusedSimpArgs false

set_option maxHeartbeats 16000000 in
set_option maxRecDepth 100000 in
theorem law_swaps (w : World) (A : Option Addr) (c : Nat) (l0 : List Dd) (hc : l0.length ≤ c) (hcap : c ≤ 140737488351232) (hF : ∀ x ∈ l0, Fit x.b.m) (R : RdD w w.heap.size A l0) (a : Int) :
    Calls Try.prog 4 #[.slice A l0.length c, .int .i64 a] w fun e w' => e = .returned (.bool true) ∧ Below w.heap.size w w' := by
  have MD := Lib.hid (made_any R hc hcap hF)
  have hl6 : (l0.take 60).length ≤ 60 := by rw [List.length_take]; omega
  have htot := deeds_few hl6
  have hgood := deeds_good (l0.take 60)
  obtain ⟨s, hs⟩ : ∃ s, s = w.heap.size := ⟨_, rfl⟩
  rw [← hs] at MD
  clear hs hc hcap hF R hl6
  generalize deeds (l0.take 60) = t at *
  generalize l0.length = n0 at *
  have AW := Lib.hid awake_any
  have htot2 : total t ≤ 10000 := by omega
  obtain ⟨n, hn⟩ : ∃ n, n = (all t).length := ⟨_, rfl⟩
  have hnt : n = total t := by rw [hn, total_all]
  have ALLC : Hid (∀ W Φ, PX w s t Φ W → Calls Try.prog 22 #[.pointer (some ⟨s, 0, none⟩), .int .i64 10000] W fun e V => ∃ A c, e = .returned (.slice A n c) ∧ PX w s t (fun V => Φ V ∧ OwnB V W.heap.size (.slice A n c) (all t)) V) := Lib.hid fun W Φ h => by
    have := px_all h htot2
    rwa [← hn] at this
  by_cases hn0 : n = 0
  · have hnone : find t (0, 0, 0) = none := by
      cases hf : find t (0, 0, 0) with
      | none => rfl
      | some p =>
        obtain ⟨m, i⟩ := p
        obtain ⟨hm, b, hb, _⟩ := find_at hf
        have h1 := List.length_pos_of_mem (mem_all hm (List.mem_of_getElem? hb))
        omega
    have RM := Lib.hid (remove_no hnone)
    subst hn0
    clear hn hnt hnone hgood
    go_enter Try.func4, Try.ntmps4
    go_wp2_with (first
      | (go_at_call 15; refine MD.out.mono ?_; rintro e w2 ⟨rfl, h2⟩; have X2 := h2.px; clear MD h2)
      | (go_at_call 22; refine (ALLC.out _ _ X2).mono ?_; rintro e w3 ⟨A3, c3, rfl, X3⟩; clear X2 ALLC)
      | (go_at_call 23; refine (X3.remove 0 0 0 RM.out).mono ?_; rintro e w4 ⟨rfl, X4⟩; clear X3 RM)
      | (go_at_call 21; refine (AW.out _).mono ?_; rintro e w5 ⟨rfl, b5⟩; have X5 := X4.below b5; clear AW X4 b5))
    go_ret
    exact ⟨rfl, X5.bel⟩
  · have hpos : 0 < (n : Int) := by omega
    have q1 := ymod_lo a (n := (n : Int)) hpos
    have q2 := ymod_is a (n := (n : Int)) hpos
    obtain ⟨k, hk⟩ : ∃ k : Nat, a % (n : Int) = (k : Int) := ⟨(a % (n : Int)).toNat, by have := Int.emod_nonneg a (b := (n : Int)) (by omega); omega⟩
    have hkn : k < n := by have := Int.emod_lt_of_pos a hpos; omega
    rw [hk] at q2
    have s0 : IntKind.i64.wrap (a.tmod (n : Int) + (n : Int)) = a.tmod (n : Int) + (n : Int) := IntWalk.i64_in _ ⟨by omega, by omega⟩
    have nz : ((n : Int) == 0) = false := by rw [beq_eq_false_iff_ne]; omega
    have nz2 : decide ((n : Int) = 0) = false := decide_eq_false (by omega)
    have nz3 : (n : Int) ≠ 0 := by omega
    have tk : (k : Int) < (n : Int) := by omega
    have hn4 : (n : Int) ≤ 10000 := by omega
    obtain ⟨x, hxk⟩ : ∃ x, (all t)[k]? = some x := ⟨_, List.getElem?_eq_getElem (by omega)⟩
    obtain ⟨m, i, hm, hfx, hxi, hxm⟩ := find_all hgood (List.mem_of_getElem? hxk)
    clear q1 hk hnt
    have HXK := Lib.hid hxk
    have HXI := Lib.hid hxi
    have HFX := Lib.hid hfx
    have HGD := Lib.hid hgood
    have HN := Lib.hid hn
    have himl := (List.getElem?_eq_some_iff.1 hxi).1
    have hmt := len_total t hm
    have hi4 : (i : Int) ≤ 10000 := by omega
    have RX : Hid (∀ Φ W, PX w s t Φ W → Calls Try.prog 18 #[.pointer (some ⟨s, 0, none⟩), .agg #[.int .i64 x.s, .int .i64 x.i, .int .i64 x.g]] W fun e V => e = .returned (.tuple #[.int .i64 (i : Int), .bool true]) ∧ PX w s t Φ V) := Lib.hid fun Φ W h => by
      have := h.row x.s x.i x.g
      rw [show (x.s, x.i, x.g) = x.id from rfl, hfx] at this
      exact this
    clear hxk hxi hfx hgood hn
    obtain ⟨xs, xi, xg, xm, xx, xY, xvx, xvy, xh, xp, xl⟩ := x
    simp only [Bn.val, Bn.id] at *
    subst hxm
    go_enter Try.func4, Try.ntmps4
    go_upto_region 5 with (first
      | (go_at_call 15; refine MD.out.mono ?_; rintro e w2 ⟨rfl, h2⟩; have X2 := h2.px; clear MD h2)
      | (go_at_call 22; refine (ALLC.out _ _ X2).mono ?_; rintro e w3 ⟨A3, c3, rfl, X3⟩; clear X2 ALLC))
    obtain ⟨Φ0, X3', RW1⟩ : ∃ Φ : World → Prop, PX w s t Φ w3 ∧ (∀ V, Φ V → RdB V V.heap.size A3 (all t)) := ⟨_, X3, fun V h => by have := h.2; rw [HN.out] at this; exact RdB.of_own this⟩
    clear X3
    obtain ⟨g, o, rfl, _, KX⟩ := RW1 w3 X3'.is k _ HXK.out
    simp only at KX
    obtain ⟨k0, k1, k2, k3, k4, k5, k6, k7, k8, k9, k10⟩ := KX
    have X5 := X3'.box (.cells #[.int .i64 xs, .int .i64 xi, .int .i64 xg, .int .i64 (m : Int), .int .i64 xx, .int .i64 xY, .int .i64 xvx, .int .i64 xvy, .int .i64 xh, .int .i64 xp, .int .i64 xl] 33)
    obtain ⟨n_0, n_1, n_2, n_3, n_4, n_5, n_6, n_7, n_8, n_9, n_10⟩ := (Bx.b11 (at1 w3 (.cells #[.int .i64 xs, .int .i64 xi, .int .i64 xg, .int .i64 (m : Int), .int .i64 xx, .int .i64 xY, .int .i64 xvx, .int .i64 xvy, .int .i64 xh, .int .i64 xp, .int .i64 xl] 33))).1
    have hs3 := Lib.hid X3'.bel.size
    go_upto_region 9 with (go_at_call 18; refine (RX.out _ _ X5).mono ?_; rintro e w7 ⟨rfl, X7'⟩; clear X5 n_0 n_1 n_2 n_3 n_4 n_5 n_6 n_7 n_8 n_9 n_10 k0 k1 k2 k3 k4 k5 k6 k7 k8 k9 k10; obtain ⟨n_0, n_1, n_2, n_3, n_4, n_5, n_6, n_7, n_8, n_9, n_10⟩ := (Bx.b11 X7'.is.2).1)
    clear n_0 n_1 n_2 n_3 n_4 n_5 n_6 n_7 n_8 n_9 n_10 q2 s0 X3' RX hkn
    obtain ⟨bx, hbx⟩ : ∃ b, b = w3.heap.size := ⟨_, rfl⟩
    rw [← hbx] at X7' ⊢
    obtain ⟨Φ, X7, RW0, BW0⟩ : ∃ Φ : World → Prop, PX w s t Φ w7 ∧ (∀ V, Φ V → RdB V V.heap.size (some ⟨g, o, none⟩) (all t)) ∧ (∀ V, Φ V → V.heap[bx]? = some (.cells #[.int .i64 xs, .int .i64 xi, .int .i64 xg, .int .i64 (m : Int), .int .i64 xx, .int .i64 xY, .int .i64 xvx, .int .i64 xvy, .int .i64 xh, .int .i64 xp, .int .i64 xl] 33)) := ⟨_, X7', fun V h => RW1 V h.1, fun V h => h.2⟩
    clear X7' RW1 hbx
    have X7h := Lib.hid X7
    -- what stands there at any time
    have FC : Hid (∀ V, Φ V → ∀ j y, (all t)[j]? = some y → V.cell? ⟨g, o + j * 11, none⟩ = some (.int .i64 y.s) ∧ V.cell? ⟨g, o + j * 11 + 1, none⟩ = some (.int .i64 y.i) ∧ V.cell? ⟨g, o + j * 11 + 2, none⟩ = some (.int .i64 y.g) ∧ V.cell? ⟨g, o + j * 11 + 3, none⟩ = some (.int .i64 y.m) ∧ V.cell? ⟨g, o + j * 11 + 4, none⟩ = some (.int .i64 y.x) ∧ V.cell? ⟨g, o + j * 11 + 5, none⟩ = some (.int .i64 y.y) ∧ V.cell? ⟨g, o + j * 11 + 6, none⟩ = some (.int .i64 y.vx) ∧ V.cell? ⟨g, o + j * 11 + 7, none⟩ = some (.int .i64 y.vy) ∧ V.cell? ⟨g, o + j * 11 + 8, none⟩ = some (.int .i64 y.h) ∧ V.cell? ⟨g, o + j * 11 + 9, none⟩ = some (.int .i64 y.p) ∧ V.cell? ⟨g, o + j * 11 + 10, none⟩ = some (.int .i64 y.l)) := Lib.hid fun V hV j y hy => by
      obtain ⟨g', o', e, _, hc⟩ := RW0 V hV j y hy
      cases e
      exact hc
    have FB : Hid (∀ V, Φ V → V.cell? ⟨bx, 0, none⟩ = some (.int .i64 xs) ∧ V.cell? ⟨bx, 1, none⟩ = some (.int .i64 xi) ∧ V.cell? ⟨bx, 2, none⟩ = some (.int .i64 xg) ∧ V.cell? ⟨bx, 3, none⟩ = some (.int .i64 (m : Int)) ∧ V.cell? ⟨bx, 4, none⟩ = some (.int .i64 xx) ∧ V.cell? ⟨bx, 5, none⟩ = some (.int .i64 xY) ∧ V.cell? ⟨bx, 6, none⟩ = some (.int .i64 xvx) ∧ V.cell? ⟨bx, 7, none⟩ = some (.int .i64 xvy) ∧ V.cell? ⟨bx, 8, none⟩ = some (.int .i64 xh) ∧ V.cell? ⟨bx, 9, none⟩ = some (.int .i64 xp) ∧ V.cell? ⟨bx, 10, none⟩ = some (.int .i64 xl)) := Lib.hid fun V hV => (Bx.b11 (BW0 V hV)).1
    have RWX : Hid (∀ W, Below w7.heap.size w7 W → ∀ k1 k2 k3, Calls Try.prog 18 #[.pointer (some ⟨s, 0, none⟩), .agg #[.int .i64 k1, .int .i64 k2, .int .i64 k3]] W fun e V => e = .returned (rowV (find t (k1, k2, k3))) ∧ Below W.heap.size W V) := Lib.hid fun W hW k1 k2 k3 => by
      obtain ⟨F, hC⟩ := X7.one.cs
      exact row_any (hC.below hW) k1 k2 k3
    clear X7 RW0 BW0
    obtain ⟨q, hq⟩ : ∃ q, q = w7.heap.size := ⟨_, rfl⟩
    have L0 : Hid (Below q w7 (w7.alloc (.cells #[.int .i64 xs, .int .i64 xi, .int .i64 xg] 31)) ∧ ∃ z : Bn, (t m)[i]? = some z ∧ (w7.alloc (.cells #[.int .i64 xs, .int .i64 xi, .int .i64 xg] 31)).heap[q]? = some (.cells #[.int .i64 z.s, .int .i64 z.i, .int .i64 z.g] 31 (0, 0))) := Lib.hid (by rw [hq]; exact ⟨bel1 w7 _, _, HXI.out, at1 w7 _⟩)
    rw [← hq] at RWX ⊢
    have HQ := Lib.hid hq
    clear hq
    go_loopw [11, 12] (fun u j' wr => ∃ j M : Nat, j ≤ n ∧ j' = .int .i64 j ∧ u = .int .i64 M ∧ i ≤ M ∧ Hid (Below q w7 wr ∧ ∃ z : Bn, (t m)[M]? = some z ∧ wr.heap[q]? = some (.cells #[.int .i64 z.s, .int .i64 z.i, .int .i64 z.g] 31 (0, 0))) ∧ Hid (∀ j' y r, j' < j → (all t)[j']? = some y → find t y.id = some (m, r) → r ≤ M)) (fun u j' _ => n - (intOf j').toNat)
    case atStart => exact ⟨0, i, Nat.zero_le _, rfl, rfl, Nat.le_refl _, L0, Lib.hid fun j' y r h => by omega⟩
    case round =>
      obtain ⟨j, M, hj, rfl, rfl, hiM, HL, HM⟩ := hrel
      clear L0
      by_cases hjn : j < n
      · as_aux_lemma =>
        have t1 : (j : Int) < (n : Int) := by omega
        obtain ⟨y, hy⟩ : ∃ y, (all t)[j]? = some y := ⟨_, List.getElem?_eq_getElem (by have := HN.out; omega)⟩
        obtain ⟨my, ry, hmy, hfy, hyi, hym⟩ := find_all HGD.out (List.mem_of_getElem? hy)
        have hry := (List.getElem?_eq_some_iff.1 hyi).1
        have hmt2 := len_total t hmy
        have hry4 : (ry : Int) ≤ 10000 := by omega
        have hM4 : (M : Int) ≤ 10000 := by
          obtain ⟨_, z, hz, _⟩ := HL.out
          have := (List.getElem?_eq_some_iff.1 hz).1
          omega
        have FV : Hid (∀ V, Below q w7 V → Φ V) := Lib.hid fun V hV => (X7h.out.below (by rw [← HQ.out]; exact hV)).is
        have FC2 : Hid (∀ V, Below q w7 V → V.cell? ⟨g, o + j * 11, none⟩ = some (.int .i64 y.s) ∧ V.cell? ⟨g, o + j * 11 + 1, none⟩ = some (.int .i64 y.i) ∧ V.cell? ⟨g, o + j * 11 + 2, none⟩ = some (.int .i64 y.g) ∧ V.cell? ⟨g, o + j * 11 + 3, none⟩ = some (.int .i64 y.m) ∧ V.cell? ⟨g, o + j * 11 + 4, none⟩ = some (.int .i64 y.x) ∧ V.cell? ⟨g, o + j * 11 + 5, none⟩ = some (.int .i64 y.y) ∧ V.cell? ⟨g, o + j * 11 + 6, none⟩ = some (.int .i64 y.vx) ∧ V.cell? ⟨g, o + j * 11 + 7, none⟩ = some (.int .i64 y.vy) ∧ V.cell? ⟨g, o + j * 11 + 8, none⟩ = some (.int .i64 y.h) ∧ V.cell? ⟨g, o + j * 11 + 9, none⟩ = some (.int .i64 y.p) ∧ V.cell? ⟨g, o + j * 11 + 10, none⟩ = some (.int .i64 y.l)) := Lib.hid fun V hV => FC.out V (FV.out V hV) j y hy
        have RY : Hid (∀ W, Below q w7 W → Calls Try.prog 18 #[.pointer (some ⟨s, 0, none⟩), .agg #[.int .i64 y.s, .int .i64 y.i, .int .i64 y.g]] W fun e V => e = .returned (.tuple #[.int .i64 (ry : Int), .bool true]) ∧ Below W.heap.size W V) := Lib.hid fun W hW => by
          have := RWX.out W hW y.s y.i y.g
          rw [show (y.s, y.i, y.g) = y.id from rfl, hfy] at this
          exact this
        have SAME : Hid ((my = m → ry ≤ M) → ∀ j' y r, j' < j + 1 → (all t)[j']? = some y → find t y.id = some (m, r) → r ≤ M) := Lib.hid fun h j' y' r h1 h2 h3 => by
          by_cases e : j' = j
          · subst e
            rw [hy] at h2
            cases h2
            rw [hfy] at h3
            cases h3
            exact h rfl
          · exact HM.out j' y' r (by omega) h2 h3
        have UPP : Hid (my = m → M ≤ ry → ∀ j' y r, j' < j + 1 → (all t)[j']? = some y → find t y.id = some (m, r) → r ≤ ry) := Lib.hid fun h h' j' y' r h1 h2 h3 => by
          by_cases e : j' = j
          · subst e
            rw [hy] at h2
            cases h2
            rw [hfy] at h3
            cases h3
            exact Nat.le_refl _
          · exact Nat.le_trans (HM.out j' y' r (by omega) h2 h3) h'
        have HYI := Lib.hid hyi
        have hqs : Hid (q ≤ wr.heap.size) := Lib.hid (by rw [HQ.out]; exact HL.out.1.size)
        clear hy hfy hyi RWX AW HM X7h FC HXK HXI HFX HGD HN htot htot2
        obtain ⟨ys, yi, yg, ym, yx, yY, yvx, yvy, yh, yp, yl⟩ := y
        simp only [Bn.id] at *
        subst hym
        obtain ⟨k0, k1, k2, k3, k4, k5, k6, k7, k8, k9, k10⟩ := FC2.out wr HL.out.1
        go_upto_region 12 with (go_at_call 18; refine (RY.out _ HL.out.1).mono ?_; rintro e w8 ⟨rfl, b8⟩; clear k0 k1 k2 k3 k4 k5 k6 k7 k8 k9 k10 RY)
        have HL8 : Hid (Below q w7 w8 ∧ ∃ z : Bn, (t m)[M]? = some z ∧ w8.heap[q]? = some (.cells #[.int .i64 z.s, .int .i64 z.i, .int .i64 z.g] 31 (0, 0))) := Lib.hid (by
          obtain ⟨h1, z, h2, h3⟩ := HL.out
          exact ⟨h1.trans (b8.mono hqs.out), z, h2, (b8.block _ (Bx.lt h3)).trans h3⟩)
        clear HL b8
        obtain ⟨k0, k1, k2, k3, k4, k5, k6, k7, k8, k9, k10⟩ := FC2.out w8 HL8.out.1
        obtain ⟨n_0, n_1, n_2, n_3, n_4, n_5, n_6, n_7, n_8, n_9, n_10⟩ := FB.out w8 (FV.out w8 HL8.out.1)
        have HLD : Hid (∀ nq, Below q w7 (w8.drewN nq) ∧ ∃ z : Bn, (t m)[M]? = some z ∧ (w8.drewN nq).heap[q]? = some (.cells #[.int .i64 z.s, .int .i64 z.i, .int .i64 z.g] 31 (0, 0))) := Lib.hid fun nq => by
          obtain ⟨h1, z, h2, h3⟩ := HL8.out
          exact ⟨Below.dn' h1 nq, z, h2, h3⟩
        clear HL8 FV FB hqs
        by_cases hmm : my = m
        · have d1 : ((my : Int) == (m : Int)) = true := by rw [beq_iff_eq]; omega
          have d1' : decide ((my : Int) = (m : Int)) = true := decide_eq_true (by omega)
          by_cases hge : M ≤ ry
          · have d2 : decide ((ry : Int) ≥ (M : Int)) = true := decide_eq_true (by omega)
            have d2' : decide (M ≤ ry) = true := decide_eq_true hge
            have NX := Lib.hid (UPP.out hmm hge)
            clear SAME UPP
            replace hmm := Lib.hid hmm
            go_quiet (fail)
            rename_i nq
            clear n_0 n_1 n_2 n_3 n_4 n_5 n_6 n_7 n_8 n_9 n_10 k0 k1 k2 k3 k4 k5 k6 k7 k8 k9 k10
            obtain ⟨h1, z, h2, h3⟩ := HLD.out nq
            obtain ⟨k0, k1, k2, k3, k4, k5, k6, k7, k8, k9, k10⟩ := FC2.out _ h1
            obtain ⟨⟨z0, z1, z2⟩, ⟨f0, f1, f2⟩⟩ := Bx.b3 h3
            have NH : Hid (Below q w7 (((((w8.drewN nq).setCell ⟨q, 0, none⟩ (.int .i64 ys)).setCell ⟨q, 1, none⟩ (.int .i64 yi)).setCell ⟨q, 2, none⟩ (.int .i64 yg))) ∧ ∃ z : Bn, (t m)[ry]? = some z ∧ (((((w8.drewN nq).setCell ⟨q, 0, none⟩ (.int .i64 ys)).setCell ⟨q, 1, none⟩ (.int .i64 yi)).setCell ⟨q, 2, none⟩ (.int .i64 yg))).heap[q]? = some (.cells #[.int .i64 z.s, .int .i64 z.i, .int .i64 z.g] 31 (0, 0))) := Lib.hid ⟨Bx.put3 h1 (Nat.le_refl _) _ _ _, ⟨ys, yi, yg, (my : Int), yx, yY, yvx, yvy, yh, yp, yl⟩, by rw [show t m = t my by rw [hmm.out]]; exact HYI.out, Bx.set3 h3 _ _ _⟩
            clear h1 h2 h3 HLD FC2 HYI
            generalize w8.drewN nq = wq at *
            go_wp2
            go_roundw
            case rel => exact ⟨j + 1, ry, by omega, by go_num, rfl, by omega, NH, NX⟩
            case measure => simp [intOf]; omega
          · have d2 : decide ((ry : Int) ≥ (M : Int)) = false := decide_eq_false (by omega)
            have d2' : decide (M ≤ ry) = false := decide_eq_false hge
            have NX := Lib.hid (SAME.out fun _ => by omega)
            clear SAME UPP
            replace hmm := Lib.hid hmm
            go_quiet (fail)
            rename_i nq
            have NH := Lib.hid (HLD.out nq)
            clear n_0 n_1 n_2 n_3 n_4 n_5 n_6 n_7 n_8 n_9 n_10 k0 k1 k2 k3 k4 k5 k6 k7 k8 k9 k10 HLD FC2 HYI
            generalize w8.drewN nq = wq at *
            go_wp2
            go_roundw
            case rel => exact ⟨j + 1, M, by omega, by go_num, rfl, hiM, NH, NX⟩
            case measure => simp [intOf]; omega
        · have d1 : ((my : Int) == (m : Int)) = false := by rw [beq_eq_false_iff_ne]; omega
          have d1' : decide ((my : Int) = (m : Int)) = false := decide_eq_false (by omega)
          have NX := Lib.hid (SAME.out fun h => absurd h hmm)
          clear SAME UPP
          replace hmm := Lib.hid hmm
          go_quiet (fail)
          rename_i nq
          have NH := Lib.hid (HLD.out nq)
          clear n_0 n_1 n_2 n_3 n_4 n_5 n_6 n_7 n_8 n_9 n_10 k0 k1 k2 k3 k4 k5 k6 k7 k8 k9 k10 HLD FC2 HYI
          generalize w8.drewN nq = wq at *
          go_wp2
          go_roundw
          case rel => exact ⟨j + 1, M, by omega, by go_num, rfl, hiM, NH, NX⟩
          case measure => simp [intOf]; omega
      · obtain rfl : j = n := by omega
        have t1 : ¬ (j : Int) < (j : Int) := by omega
        obtain ⟨hLb, z, hz, hLz⟩ := HL.out
        have hML : M = (t m).length - 1 := last_row HGD.out hm (List.getElem?_eq_some_iff.1 hz).1 fun y hy r hr => by
          obtain ⟨j', hj'⟩ := List.mem_iff_getElem?.1 hy
          exact HM.out j' y r (by have := (List.getElem?_eq_some_iff.1 hj').1; have := HN.out; omega) hj' hr
        rw [hML] at hz
        have HZ := Lib.hid hz
        have X8 := X7h.out.more (by rw [← HQ.out]; exact hLb) (by rw [HQ.out]; exact Nat.le_refl _) hLz
        have htc := total_cut hm himl
        obtain ⟨n', hn'⟩ : ∃ n', j = n' + 1 := ⟨j - 1, by omega⟩
        have hn2 : total (cut0 t m i) = n' := by
          have := HN.out
          rw [total_all] at this
          omega
        have R1 := Lib.hid (remove_is HFX.out)
        have R2 := Lib.hid (remove_no (cut_gone HGD.out HXI.out))
        have wn : IntKind.i64.wrap ((j : Int) - 1) = (n' : Int) := by rw [IntWalk.i64_in _ (by omega)]; omega
        have nn : ((n' : Int) != (n' : Int)) = false := by simp
        have LENC : Hid (∀ Φ W, PX w s (cut0 t m i) Φ W → Calls Try.prog 20 #[.pointer (some ⟨s, 0, none⟩)] W fun e V => e = .returned (.int .i64 (n' : Int)) ∧ W = V) := Lib.hid fun Φ W h => by
          have := h.len
          rwa [hn2] at this
        -- the rows behind the removal
        have SG := Lib.hid fun (y : Bn) e => swap_gone (y := y) HGD.out HXI.out e
        have SL := Lib.hid fun (y : Bn) hy e1 e2 => swap_last (y := y) HGD.out HXI.out hz hy e1 e2
        have SS := Lib.hid fun (y : Bn) hy e1 e2 M I hf => swap_stay (y := y) HGD.out HXI.out hz hy e1 e2 (M := M) (I := I) hf
        have htot3 : total t + 1 ≤ 100000 := by omega
        simp only [Bn.id] at R1 R2 SG SL SS
        clear HL HM RWX hML hz HXK HXI HFX X7h hLb hLz htc hn' hn2
        generalize cut0 t m i = t2 at *
        obtain ⟨zs, zi, zg, zm, zx, zY, zvx, zvy, zh, zp, zl⟩ := z
        simp only [Bn.id] at *
        obtain ⟨n_0, n_1, n_2, n_3, n_4, n_5, n_6, n_7, n_8, n_9, n_10⟩ := FB.out wr X8.is.1
        obtain ⟨cp, hcp⟩ : ∃ b, b = wr.heap.size := ⟨_, rfl⟩
        go_upto_region 18 with (first
          | (go_at_call 24; refine (X8.copy htot3).mono ?_; rintro e w9 ⟨rfl, X9⟩; clear X8 n_0 n_1 n_2 n_3 n_4 n_5 n_6 n_7 n_8 n_9 n_10; obtain ⟨n_0, n_1, n_2, n_3, n_4, n_5, n_6, n_7, n_8, n_9, n_10⟩ := FB.out w9 X9.is.1.1)
          | (go_at_call 23; refine (X10.remove2 xs xi xg R2.out).mono ?_; rintro e w11 ⟨rfl, X11, sz11⟩; clear X10 R2 n_0 n_1 n_2 n_3 n_4 n_5 n_6 n_7 n_8 n_9 n_10)
          | (go_at_call 23; refine (X9.remove2 xs xi xg R1.out).mono ?_; rintro e w10 ⟨rfl, X10, sz10⟩; clear X9 R1 n_0 n_1 n_2 n_3 n_4 n_5 n_6 n_7 n_8 n_9 n_10; obtain ⟨n_0, n_1, n_2, n_3, n_4, n_5, n_6, n_7, n_8, n_9, n_10⟩ := FB.out w10 X10.is.1.1)
          | (go_at_call 20; refine (LENC.out _ _ X11).mono ?_; rintro e w12 ⟨rfl, rfl⟩; clear LENC))
        rw [← hcp] at X11 ⊢
        have H11 : Hid (PX w s t2 (fun U => (Φ U ∧ U.heap[q]? = some (.cells #[.int .i64 zs, .int .i64 zi, .int .i64 zg] 31 (0, 0))) ∧ (w9.heap.size ≤ U.heap.size → ∃ G, CS G cp t U)) w11 ∧ w9.heap.size ≤ w11.heap.size) := Lib.hid ⟨X11, by omega⟩
        clear X11 sz11 sz10 hcp
        go_loopw [16] (fun j' wr => ∃ j2 : Nat, j2 ≤ j ∧ j' = .int .i64 j2 ∧ Hid (PX w s t2 (fun U => (Φ U ∧ U.heap[q]? = some (.cells #[.int .i64 zs, .int .i64 zi, .int .i64 zg] 31 (0, 0))) ∧ (w9.heap.size ≤ U.heap.size → ∃ G, CS G cp t U)) wr ∧ w9.heap.size ≤ wr.heap.size)) (fun j' _ => j - (intOf j').toNat)
        case atStart => exact ⟨0, Nat.zero_le _, rfl, H11⟩
        case round =>
          obtain ⟨j2, hj2, rfl, HX⟩ := hrel
          clear H11
          by_cases hjl : j2 < j
          · have t5 : (j2 : Int) < (j : Int) := by omega
            obtain ⟨y, hy⟩ : ∃ y, (all t)[j2]? = some y := ⟨_, List.getElem?_eq_getElem (by have := HN.out; omega)⟩
            obtain ⟨my, ry, hmy, hfy, hyi, hym⟩ := find_all HGD.out (List.mem_of_getElem? hy)
            have hym2 := List.mem_of_getElem? hy
            have PV : Hid (∀ V, Below wr.heap.size wr V → PX w s t2 (fun U => (Φ U ∧ U.heap[q]? = some (.cells #[.int .i64 zs, .int .i64 zi, .int .i64 zg] 31 (0, 0))) ∧ (w9.heap.size ≤ U.heap.size → ∃ G, CS G cp t U)) V ∧ w9.heap.size ≤ V.heap.size) := Lib.hid fun V hV => ⟨HX.out.1.below hV, Nat.le_trans HX.out.2 hV.size⟩
            have FY : Hid (∀ V, Below wr.heap.size wr V → V.cell? ⟨g, o + j2 * 11, none⟩ = some (.int .i64 y.s) ∧ V.cell? ⟨g, o + j2 * 11 + 1, none⟩ = some (.int .i64 y.i) ∧ V.cell? ⟨g, o + j2 * 11 + 2, none⟩ = some (.int .i64 y.g) ∧ V.cell? ⟨g, o + j2 * 11 + 3, none⟩ = some (.int .i64 y.m) ∧ V.cell? ⟨g, o + j2 * 11 + 4, none⟩ = some (.int .i64 y.x) ∧ V.cell? ⟨g, o + j2 * 11 + 5, none⟩ = some (.int .i64 y.y) ∧ V.cell? ⟨g, o + j2 * 11 + 6, none⟩ = some (.int .i64 y.vx) ∧ V.cell? ⟨g, o + j2 * 11 + 7, none⟩ = some (.int .i64 y.vy) ∧ V.cell? ⟨g, o + j2 * 11 + 8, none⟩ = some (.int .i64 y.h) ∧ V.cell? ⟨g, o + j2 * 11 + 9, none⟩ = some (.int .i64 y.p) ∧ V.cell? ⟨g, o + j2 * 11 + 10, none⟩ = some (.int .i64 y.l)) := Lib.hid fun V hV => FC.out V (PV.out V hV).1.is.1.1 j2 y hy
            have FX : Hid (∀ V, Below wr.heap.size wr V → V.cell? ⟨bx, 0, none⟩ = some (.int .i64 xs) ∧ V.cell? ⟨bx, 1, none⟩ = some (.int .i64 xi) ∧ V.cell? ⟨bx, 2, none⟩ = some (.int .i64 xg) ∧ V.cell? ⟨bx, 3, none⟩ = some (.int .i64 (m : Int)) ∧ V.cell? ⟨bx, 4, none⟩ = some (.int .i64 xx) ∧ V.cell? ⟨bx, 5, none⟩ = some (.int .i64 xY) ∧ V.cell? ⟨bx, 6, none⟩ = some (.int .i64 xvx) ∧ V.cell? ⟨bx, 7, none⟩ = some (.int .i64 xvy) ∧ V.cell? ⟨bx, 8, none⟩ = some (.int .i64 xh) ∧ V.cell? ⟨bx, 9, none⟩ = some (.int .i64 xp) ∧ V.cell? ⟨bx, 10, none⟩ = some (.int .i64 xl)) := Lib.hid fun V hV => FB.out V (PV.out V hV).1.is.1.1
            have FZ : Hid (∀ V, Below wr.heap.size wr V → V.cell? ⟨q, 0, none⟩ = some (.int .i64 zs) ∧ V.cell? ⟨q, 1, none⟩ = some (.int .i64 zi) ∧ V.cell? ⟨q, 2, none⟩ = some (.int .i64 zg)) := Lib.hid fun V hV => (Bx.b3 (PV.out V hV).1.is.1.2).1
            have GT : Hid (∀ V, Below wr.heap.size wr V → Calls Try.prog 17 #[.pointer (some ⟨s, 0, none⟩), .agg #[.int .i64 y.s, .int .i64 y.i, .int .i64 y.g]] V fun e U => e = .returned (cgetV t2 y.id) ∧ Below V.heap.size V U) := Lib.hid fun V hV => by
              obtain ⟨F, hC⟩ := (PV.out V hV).1.one.cs
              exact get_any hC _ _ _
            have RT : Hid (∀ V, Below wr.heap.size wr V → Calls Try.prog 18 #[.pointer (some ⟨s, 0, none⟩), .agg #[.int .i64 y.s, .int .i64 y.i, .int .i64 y.g]] V fun e U => e = .returned (rowV (find t2 y.id)) ∧ Below V.heap.size V U) := Lib.hid fun V hV => by
              obtain ⟨F, hC⟩ := (PV.out V hV).1.one.cs
              exact row_any hC _ _ _
            have CT : Hid (∀ V, Below wr.heap.size wr V → Calls Try.prog 18 #[.pointer (some ⟨cp, 0, none⟩), .agg #[.int .i64 y.s, .int .i64 y.i, .int .i64 y.g]] V fun e U => e = .returned (.tuple #[.int .i64 (ry : Int), .bool true]) ∧ Below V.heap.size V U) := Lib.hid fun V hV => by
              obtain ⟨G, hC⟩ := (PV.out V hV).1.is.2 (PV.out V hV).2
              have := row_any hC y.s y.i y.g
              rw [show (y.s, y.i, y.g) = y.id from rfl, hfy] at this
              exact this
            have SG2 := Lib.hid (SG.out y)
            have SL2 := Lib.hid (SL.out y hym2)
            have SS2 := Lib.hid fun e1 e2 => SS.out y hym2 e1 e2 my ry (by exact hfy)
            have hid : y.id = (y.s, y.i, y.g) := rfl
            clear FC FB HX AW HGD HN HZ SG SL SS hy hmy hfy hyi hym hym2
            rw [hid] at GT RT
            clear hid
            have TF : (true != true) = false := rfl
            by_cases e1 : (y.s, y.i, y.g) = (xs, xi, xg)
            · as_aux_lemma =>
              have hg := SG2.out e1
              have g1 : cgetV t2 (y.s, y.i, y.g) = .tuple #[zeroB, .bool false] := by unfold cgetV; rw [hg]
              rw [g1] at GT
              rw [hg] at RT
              simp only [rowV] at RT
              have EQT := true
              have hne : ((y.s == xs) && ((y.i == xi) && (y.g == xg))) = true := by
                simp only [Prod.mk.injEq] at e1
                simp [e1.1, e1.2.1, e1.2.2]
              have EQI : ∀ V : World, (Op.equalIn 10000 31 (.agg #[.int .i64 y.s, .int .i64 y.i, .int .i64 y.g]) (.agg #[.int .i64 xs, .int .i64 xi, .int .i64 xg])).run Try.prog V = .ok true V := fun V => by
                rw [eq_id 9998 y.s y.i y.g xs xi xg V, hne]
              clear SG2 SL2 SS2 e1 hg g1 hne FZ
              obtain ⟨ys, yi, yg, ym, yx, yY, yvx, yvy, yh, yp, yl⟩ := y
              simp only [Bn.val] at *
              obtain ⟨k0, k1, k2, k3, k4, k5, k6, k7, k8, k9, k10⟩ := FY.out wr (Below.refl _ _)
              go_upto_region 23 with (first
                | (go_at_call 17; refine (GT.out _ (Below.refl _ _)).mono ?_; rintro e w13 ⟨rfl, b13⟩; have B13 := b13.trans ((bel1 w13 (.cells #[.int .i64 0, .int .i64 0, .int .i64 0, .int .i64 0, .int .i64 0, .int .i64 0, .int .i64 0, .int .i64 0, .int .i64 0, .int .i64 0, .int .i64 0] 33)).mono b13.size); clear k0 k1 k2 k3 k4 k5 k6 k7 k8 k9 k10 GT b13; obtain ⟨k0, k1, k2, k3, k4, k5, k6, k7, k8, k9, k10⟩ := FY.out _ B13)
                | (go_at_call 18; refine (CT.out _ B14).mono ?_; rintro e w15 ⟨rfl, b15⟩; have B15 := B14.trans (b15.mono B14.size); clear k0 k1 k2 k3 k4 k5 k6 k7 k8 k9 k10 CT b15 B14)
                | (go_at_call 18; refine (RT.out _ B13).mono ?_; rintro e w14 ⟨rfl, b14⟩; have B14 := B13.trans (b14.mono B13.size); clear k0 k1 k2 k3 k4 k5 k6 k7 k8 k9 k10 RT b14 B13; obtain ⟨k0, k1, k2, k3, k4, k5, k6, k7, k8, k9, k10⟩ := FY.out _ B14))
              obtain ⟨k0, k1, k2, k3, k4, k5, k6, k7, k8, k9, k10⟩ := FY.out _ B15
              obtain ⟨n_0, n_1, n_2, n_3, n_4, n_5, n_6, n_7, n_8, n_9, n_10⟩ := FX.out _ B15
              have NX := Lib.hid fun nq => PV.out _ (Below.dn' B15 nq)
              clear PV FY FX B15
              go_quiet (fail)
              go_wp2
              go_roundw
              case rel => exact ⟨j2 + 1, by omega, by go_num, Lib.hid (NX.out _)⟩
              case measure => simp [intOf]; omega
            · have hne : ((y.s == xs) && ((y.i == xi) && (y.g == xg))) = false := by
                rw [Bool.eq_false_iff]
                intro h
                simp only [Bool.and_eq_true, beq_iff_eq] at h
                exact e1 (by rw [h.1, h.2.1, h.2.2])
              have EQI : ∀ V : World, (Op.equalIn 10000 31 (.agg #[.int .i64 y.s, .int .i64 y.i, .int .i64 y.g]) (.agg #[.int .i64 xs, .int .i64 xi, .int .i64 xg])).run Try.prog V = .ok false V := fun V => by
                rw [eq_id 9998 y.s y.i y.g xs xi xg V, hne]
              by_cases e2 : (y.s, y.i, y.g) = (zs, zi, zg)
              · as_aux_lemma =>
                obtain ⟨hf, hg⟩ := SL2.out e1 e2
                have g1 : cgetV t2 (y.s, y.i, y.g) = .tuple #[y.val, .bool true] := by unfold cgetV; rw [hf]; simp only [hg]
                rw [g1] at GT
                rw [hf] at RT
                simp only [rowV] at RT
                have hne2 : ((y.s == zs) && ((y.i == zi) && (y.g == zg))) = true := by
                  simp only [Prod.mk.injEq] at e2
                  simp [e2.1, e2.2.1, e2.2.2]
                have EQI2 : ∀ V : World, (Op.equalIn 10000 31 (.agg #[.int .i64 y.s, .int .i64 y.i, .int .i64 y.g]) (.agg #[.int .i64 zs, .int .i64 zi, .int .i64 zg])).run Try.prog V = .ok true V := fun V => by
                  rw [eq_id 9998 y.s y.i y.g zs zi zg V, hne2]
                have di : ((i : Int) != (i : Int)) = false := by simp
                clear SG2 SL2 SS2 e1 e2 hf hg g1 hne hne2
                obtain ⟨ys, yi, yg, ym, yx, yY, yvx, yvy, yh, yp, yl⟩ := y
                simp only [Bn.val] at *
                have EQB := eq_bundle ys yi yg ym yx yY yvx yvy yh yp yl ys yi yg ym yx yY yvx yvy yh yp yl
                simp at EQB
                obtain ⟨k0, k1, k2, k3, k4, k5, k6, k7, k8, k9, k10⟩ := FY.out wr (Below.refl _ _)
                go_upto_region 23 with (first
                  | (go_at_call 17; refine (GT.out _ (Below.refl _ _)).mono ?_; rintro e w13 ⟨rfl, b13⟩; have B13 := b13.trans ((bel1 w13 (.cells #[.int .i64 ys, .int .i64 yi, .int .i64 yg, .int .i64 ym, .int .i64 yx, .int .i64 yY, .int .i64 yvx, .int .i64 yvy, .int .i64 yh, .int .i64 yp, .int .i64 yl] 33)).mono b13.size); have M13 := at1 w13 (.cells #[.int .i64 ys, .int .i64 yi, .int .i64 yg, .int .i64 ym, .int .i64 yx, .int .i64 yY, .int .i64 yvx, .int .i64 yvy, .int .i64 yh, .int .i64 yp, .int .i64 yl] 33); clear k0 k1 k2 k3 k4 k5 k6 k7 k8 k9 k10 GT b13; obtain ⟨k0, k1, k2, k3, k4, k5, k6, k7, k8, k9, k10⟩ := FY.out _ B13)
                  | (go_at_call 18; refine (CT.out _ B14).mono ?_; rintro e w15 ⟨rfl, b15⟩; have B15 := B14.trans (b15.mono B14.size); have M15 := (b15.block _ (Bx.lt M14)).trans M14; clear k0 k1 k2 k3 k4 k5 k6 k7 k8 k9 k10 CT b15 B14 M14)
                  | (go_at_call 18; refine (RT.out _ B13).mono ?_; rintro e w14 ⟨rfl, b14⟩; have B14 := B13.trans (b14.mono B13.size); have M14 := (b14.block _ (Bx.lt M13)).trans M13; clear k0 k1 k2 k3 k4 k5 k6 k7 k8 k9 k10 RT b14 B13 M13; obtain ⟨k0, k1, k2, k3, k4, k5, k6, k7, k8, k9, k10⟩ := FY.out _ B14))
                obtain ⟨k0, k1, k2, k3, k4, k5, k6, k7, k8, k9, k10⟩ := FY.out _ B15
                obtain ⟨n_0, n_1, n_2, n_3, n_4, n_5, n_6, n_7, n_8, n_9, n_10⟩ := FX.out _ B15
                obtain ⟨z0, z1, z2⟩ := FZ.out _ B15
                obtain ⟨m_0, m_1, m_2, m_3, m_4, m_5, m_6, m_7, m_8, m_9, m_10⟩ := (Bx.b11 M15).1
                have NX := Lib.hid fun nq => PV.out _ (Below.dn' B15 nq)
                clear PV FY FX FZ B15 M15
                go_quiet (fail)
                go_wp2
                go_quiet (fail)
                go_wp2
                go_quiet (fail)
                go_wp2
                go_roundw
                case rel => exact ⟨j2 + 1, by omega, by go_num, Lib.hid (NX.out _)⟩
                case measure => simp [intOf]; omega
              · as_aux_lemma =>
                obtain ⟨hf, hg⟩ := SS2.out e1 e2
                have g1 : cgetV t2 (y.s, y.i, y.g) = .tuple #[y.val, .bool true] := by unfold cgetV; rw [hf]; simp only [hg]
                rw [g1] at GT
                rw [hf] at RT
                simp only [rowV] at RT
                have hne2 : ((y.s == zs) && ((y.i == zi) && (y.g == zg))) = false := by
                  rw [Bool.eq_false_iff]
                  intro h
                  simp only [Bool.and_eq_true, beq_iff_eq] at h
                  exact e2 (by rw [h.1, h.2.1, h.2.2])
                have EQI2 : ∀ V : World, (Op.equalIn 10000 31 (.agg #[.int .i64 y.s, .int .i64 y.i, .int .i64 y.g]) (.agg #[.int .i64 zs, .int .i64 zi, .int .i64 zg])).run Try.prog V = .ok false V := fun V => by
                  rw [eq_id 9998 y.s y.i y.g zs zi zg V, hne2]
                have di : ((ry : Int) != (ry : Int)) = false := by simp
                clear SG2 SL2 SS2 e1 e2 hf hg g1 hne hne2
                obtain ⟨ys, yi, yg, ym, yx, yY, yvx, yvy, yh, yp, yl⟩ := y
                simp only [Bn.val] at *
                have EQB := eq_bundle ys yi yg ym yx yY yvx yvy yh yp yl ys yi yg ym yx yY yvx yvy yh yp yl
                simp at EQB
                obtain ⟨k0, k1, k2, k3, k4, k5, k6, k7, k8, k9, k10⟩ := FY.out wr (Below.refl _ _)
                go_upto_region 23 with (first
                  | (go_at_call 17; refine (GT.out _ (Below.refl _ _)).mono ?_; rintro e w13 ⟨rfl, b13⟩; have B13 := b13.trans ((bel1 w13 (.cells #[.int .i64 ys, .int .i64 yi, .int .i64 yg, .int .i64 ym, .int .i64 yx, .int .i64 yY, .int .i64 yvx, .int .i64 yvy, .int .i64 yh, .int .i64 yp, .int .i64 yl] 33)).mono b13.size); have M13 := at1 w13 (.cells #[.int .i64 ys, .int .i64 yi, .int .i64 yg, .int .i64 ym, .int .i64 yx, .int .i64 yY, .int .i64 yvx, .int .i64 yvy, .int .i64 yh, .int .i64 yp, .int .i64 yl] 33); clear k0 k1 k2 k3 k4 k5 k6 k7 k8 k9 k10 GT b13; obtain ⟨k0, k1, k2, k3, k4, k5, k6, k7, k8, k9, k10⟩ := FY.out _ B13)
                  | (go_at_call 18; refine (CT.out _ B14).mono ?_; rintro e w15 ⟨rfl, b15⟩; have B15 := B14.trans (b15.mono B14.size); have M15 := (b15.block _ (Bx.lt M14)).trans M14; clear k0 k1 k2 k3 k4 k5 k6 k7 k8 k9 k10 CT b15 B14 M14)
                  | (go_at_call 18; refine (RT.out _ B13).mono ?_; rintro e w14 ⟨rfl, b14⟩; have B14 := B13.trans (b14.mono B13.size); have M14 := (b14.block _ (Bx.lt M13)).trans M13; clear k0 k1 k2 k3 k4 k5 k6 k7 k8 k9 k10 RT b14 B13 M13; obtain ⟨k0, k1, k2, k3, k4, k5, k6, k7, k8, k9, k10⟩ := FY.out _ B14))
                obtain ⟨k0, k1, k2, k3, k4, k5, k6, k7, k8, k9, k10⟩ := FY.out _ B15
                obtain ⟨n_0, n_1, n_2, n_3, n_4, n_5, n_6, n_7, n_8, n_9, n_10⟩ := FX.out _ B15
                obtain ⟨z0, z1, z2⟩ := FZ.out _ B15
                obtain ⟨m_0, m_1, m_2, m_3, m_4, m_5, m_6, m_7, m_8, m_9, m_10⟩ := (Bx.b11 M15).1
                have NX := Lib.hid fun nq => PV.out _ (Below.dn' B15 nq)
                clear PV FY FX FZ B15 M15
                go_quiet (fail)
                go_wp2
                go_quiet (fail)
                go_wp2
                go_quiet (fail)
                go_wp2
                go_roundw
                case rel => exact ⟨j2 + 1, by omega, by go_num, Lib.hid (NX.out _)⟩
                case measure => simp [intOf]; omega
          · obtain rfl : j2 = j := by omega
            have t5 : ¬ (j2 : Int) < (j2 : Int) := by omega
            have HB := Lib.hid HX.out.1.bel
            clear FC FB HX HGD HN HZ SG SL SS
            go_wp2_with (go_at_call 21; refine (AW.out _).mono ?_; rintro e w20 ⟨rfl, b20⟩; clear AW)
            go_ret
            exact ⟨rfl, HB.out.trans (b20.mono HB.out.size)⟩
end Go.Proofs.Ytgmgenggboicnaa
