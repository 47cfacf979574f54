/- The law QueryAsks, walked. Written by wip/tools/genquL8.py. -/
import Derived.Test.YtgmgenggboicnaaKQuF
import Derived.Test.YtgmgenggboicnaaKQuE
import Derived.Test.YtgmgenggboicnaaKQuG
namespace Go.Proofs.Ytgmgenggboicnaa
open Go.RowKit Go.Shelf Pz Ar Qu
set_option linter.unusedVariables false
set_option linter.unusedSimpArgs false

set_option maxHeartbeats 16000000 in
set_option maxRecDepth 100000 in
theorem law_asks (w : World) (A : Option Addr) (c : Nat) (l : List Bn) (hc : l.length ≤ c) (hcap : c ≤ 140737488351232) (R : RdB w w.heap.size A l) (q0 q1 : Int) (h0 : Fit q0) (h1 : Fit q1) :
    Calls Try.prog 6 #[.slice A l.length c, qV q0 q1] w fun e w' => e = .returned (.bool true) ∧ Below w.heap.size w w' := by
  have BE0 := bel1 w (.cells #[.int .i64 q0, .int .i64 q1] QTY)
  have T0 := at1 w (.cells #[.int .i64 q0, .int .i64 q1] QTY)
  have MD := Lib.hid (made_mk (c := c) ((R.below BE0).more BE0.size) (by omega))
  have AW := Lib.hid qawake_any
  have H0 := Lib.hid h0
  clear R hc hcap h0 h1
  generalize l.length = n0 at *
  go_enter Try.func6, Try.ntmps6
  go_upto_region 1 with fail
  generalize w.alloc (.cells #[.int .i64 q0, .int .i64 q1] QTY) = w1 at *
  go_upto_region 2 with (go_at_call 31; refine MD.out.mono ?_; rintro e w2 ⟨s, P, A2, c2, rfl, hk⟩; have MK := Lib.hid hk; clear MD hk)
  have BE := Lib.hid (BE0.trans (MK.out.bel.mono BE0.size))
  have T2 := Lib.hid ((MK.out.bel.block _ (Bx.lt T0)).trans T0)
  have QB : Hid (∀ V, Below w2.heap.size w2 V → V.cell? ⟨w.heap.size, 0, none⟩ = some (.int .i64 q0) ∧ V.cell? ⟨w.heap.size, 1, none⟩ = some (.int .i64 q1)) := Lib.hid fun V hV => (Bx.b2 ((hV.block _ (Bx.lt T2.out)).trans T2.out)).1
  obtain ⟨G, hG⟩ : ∃ G, G = told q0 q1 yes P := ⟨_, rfl⟩
  have hsame : told q0 q1 yes (all (addAll P)) = G := by rw [hG]; exact told_same q0 q1 yes MK.out.apart.1 MK.out.apart.2.1 MK.out.apart.2.2
  have hcnt : (fil q0 q1 (all (addAll P))).length = G.length := by rw [← hsame, told_len, wants_yes]
  have hfew : G.length ≤ 60 := by rw [hG]; exact Nat.le_trans (told_le _ _ _ _) MK.out.few
  have htk : G.take 1000 = G := List.take_of_length_le (by omega)
  have C0 : Hid (Calls Try.prog 32 #[.slice A2 P.length c2, qV q0 q1] w2 fun e w' => ∃ A' c', e = .returned (.slice A' G.length c') ∧ OwnB w' w2.heap.size (.slice A' G.length c') G ∧ Below w2.heap.size w2 w') := Lib.hid (by
    rw [hG]; exact rof_any (MK.out.rd w2 (Below.refl _ _)) (Nat.le_trans MK.out.few (by decide)) MK.out.ok.may H0.out q1)
  obtain ⟨GI, hGI⟩ : ∃ GI, GI = G.map Bn.id := ⟨_, rfl⟩
  have hGL : GI.length ≤ 60 := by rw [hGI, List.length_map]; exact hfew
  have CN : Hid (∀ A c V, RdB V V.heap.size A G → Calls Try.prog 35 #[.slice A G.length c] V fun e w' => ∃ A' c', e = .returned (.slice A' GI.length c') ∧ OwnI w' V.heap.size (.slice A' GI.length c') GI ∧ Below V.heap.size V w') := Lib.hid fun A c V h => by
    rw [hGI]; exact rnames_any h (by omega)
  have C1 : Hid (∀ V, Below w2.heap.size w2 V → Calls Try.prog 34 #[.pointer (some ⟨s, 0, none⟩), qV q0 q1] V fun e w' => ∃ A c, e = .returned (.slice A GI.length c) ∧ OwnI w' V.heap.size (.slice A GI.length c) GI ∧ Below V.heap.size V w') := Lib.hid fun V hV => by
    rw [hGI, ← hsame]; exact qids_any (fun U hU => MK.out.src U (hV.trans (hU.mono hV.size))) q0 q1
  have C4 : Hid (∀ V, Below w2.heap.size w2 V → Calls Try.prog 36 #[.pointer (some ⟨s, 0, none⟩), qV q0 q1] V fun e w' => e = .returned (.int .i64 (G.length : Int)) ∧ Below V.heap.size V w') := Lib.hid fun V hV => by
    rw [← hcnt]; exact qcount_any (MK.out.src V hV) q0 q1
  have C5 : Hid (∀ V, Below w2.heap.size w2 V → Calls Try.prog 38 #[.pointer (some ⟨s, 0, none⟩), qV q0 q1, .int .i64 1000] V fun e w' => ∃ A c, e = .returned (.slice A G.length c) ∧ OwnB w' V.heap.size (.slice A G.length c) G ∧ Below V.heap.size V w') := Lib.hid fun V hV => by
    have := qall_any (fun U hU => MK.out.src U (hV.trans (hU.mono hV.size))) q0 q1 1000 (by decide)
    rw [hsame, htk] at this
    exact this
  have nn : ((G.length : Int) == (G.length : Int)) = true := by simp
  obtain ⟨k0, k1⟩ := QB.out w2 (Below.refl _ _)
  clear hG hGI hsame hcnt htk T0 T2 BE0 MK H0
  generalize P.length = nP at *
  go_upto_region 3 with (go_at_call 32; refine C0.out.mono ?_; rintro e w3 ⟨A3, c3, rfl, o3, b3⟩; clear C0 k0 k1; obtain ⟨k0, k1⟩ := QB.out _ b3)
  go_wp2_with (first
    | (go_at_call 34; refine (C1.out _ b3).mono ?_; rintro e w4 ⟨A4, c4, rfl, o4, b4⟩; have NM := Lib.hid (CN.out A3 c3 _ (RdB.of_own (o3.below b4))); have B4 := b3.trans (b4.mono b3.size); clear C1 CN k0 k1)
    | (go_at_call 35; refine NM.out.mono ?_; rintro e w5 ⟨A5, c5, rfl, o5, b5⟩; have SI := Lib.hid (sameids_yes (o4.below b5) o5 (by omega)); have B5 := B4.trans (b5.mono B4.size); clear NM o4 o5)
    | (go_at_call 33; refine SI.out.mono ?_; rintro e w6 ⟨rfl, b6⟩; have B6 := B5.trans (b6.mono B5.size); clear SI; obtain ⟨k0, k1⟩ := QB.out _ B6; have o6 := ((o3.below b4).below b5).below b6; clear o3 b3)
    | (go_at_call 36; refine (C4.out _ B6).mono ?_; rintro e w7 ⟨rfl, b7⟩; have B7 := B6.trans (b7.mono B6.size); clear C4 k0 k1; obtain ⟨k0, k1⟩ := QB.out _ B7; have o7 := o6.below b7; clear o6)
    | (go_at_call 38; refine (C5.out _ B7).mono ?_; rintro e w8 ⟨A8, c8, rfl, o8, b8⟩; have SM := Lib.hid (rsame_yes (c1 := c8) (c2 := c3) (RdB.of_own o8) (RdB.of_own (o7.below b8)) (by omega)); have B8 := B7.trans (b8.mono B7.size); clear C5 k0 k1 o7 o8)
    | (go_at_call 37; refine SM.out.mono ?_; rintro e w9 ⟨rfl, b9⟩; have B9 := B8.trans (b9.mono B8.size); clear SM)
    | (go_at_call 30; refine (AW.out _).mono ?_; rintro e w10 ⟨rfl, b10⟩; have B10 := B9.trans (b10.mono B9.size); clear AW))
  go_ret
  exact ⟨rfl, BE.out.trans (B10.mono BE.out.size)⟩
end Go.Proofs.Ytgmgenggboicnaa
