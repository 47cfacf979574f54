/- The law ArchTables, walked. Written by wip/tools/gentables.py. -/
import Derived.Test.YtgmgenggboicnaaKLaw
import Derived.Test.YtgmgenggboicnaaKStp
import Derived.BigQuiet
namespace Go.Proofs.Ytgmgenggboicnaa
open Go.RowKit Pz Ar
set_option linter.unusedVariables false
set_option linter.unusedSimpArgs false

set_option maxHeartbeats 4000000 in
set_option maxRecDepth 100000 in
theorem law_tables (w : World) (A : Option Addr) (c : Nat) (l0 : List Dd) (hc : l0.length ≤ c) (hcap : c ≤ 140737488351232) (hF : ∀ x ∈ l0, Fit x.b.m) (R : RdD w w.heap.size A l0) :
    Calls Try.prog 3 #[.slice A l0.length c] w fun e w' => e = .returned (.bool true) ∧ Below w.heap.size w w' := by
  have MD := Lib.hid (made_any R hc hcap hF)
  have hl6 : (l0.take 60).length ≤ 60 := by rw [List.length_take]; omega
  have htot := deeds_few hl6
  obtain ⟨s, hs⟩ : ∃ s, s = w.heap.size := ⟨_, rfl⟩
  rw [← hs] at MD
  clear hs hc hcap hF R hl6
  generalize deeds (l0.take 60) = t at *
  generalize l0.length = n0 at *
  have AW := Lib.hid awake_any
  have hTl : (tabs t).length ≤ 32 := by rw [tabs_to]; exact tabsTo_le _ 32
  go_enter Try.func3, Try.ntmps3
  go_wp2_with (first
    | (go_at_call 15; refine MD.out.mono ?_; rintro e w2 ⟨rfl, h2⟩; have H2 := Lib.hid h2; clear MD h2)
    | (go_at_call 16; refine H2.out.tables.mono ?_; rintro e w6 ⟨A6, c6, rfl, T6, b6⟩; have H6 := Lib.hid (H2.out.below b6); have TB := Lib.hid fun W (hW : Below w6.heap.size w6 W) => T6.below hW; clear H2 T6 b6))
  obtain ⟨F, hC⟩ := H6.out.cs
  have HG := Lib.hid hC.good
  have htot2 : total t ≤ 10000 := by omega
  have GT := Lib.hid fun W (hW : Below w6.heap.size w6 W) k1 k2 k3 => get_any (hC.below hW) k1 k2 k3
  have RW := Lib.hid fun W (hW : Below w6.heap.size w6 W) k1 k2 k3 => row_any (hC.below hW) k1 k2 k3
  have LX := Lib.hid fun W (hW : Below w6.heap.size w6 W) => len_any (hC.below hW)
  clear hC
  go_loopw [5, 6] (fun n i wr => ∃ q : Nat, q ≤ (tabs t).length ∧ i = .int .i64 q ∧ n = .int .i64 (rowsTo t q : Nat) ∧ Hid (Below w6.heap.size w6 wr)) (fun n i _ => (tabs t).length - (intOf i).toNat)
  case atStart => exact ⟨0, Nat.zero_le _, rfl, rfl, Lib.hid (Below.refl _ _)⟩
  case round =>
    obtain ⟨i, hi, rfl, rfl, HW⟩ := hrel
    have hT2 : ((tabs t).length : Int) ≤ 32 := by omega
    have hri := rowsTo_le t i
    by_cases hil : i < (tabs t).length
    · have t2 : (i : Int) < ((tabs t).length : Int) := by omega
      obtain ⟨⟨m, ks⟩, hik⟩ : ∃ y, (tabs t)[i]? = some y := ⟨_, List.getElem?_eq_getElem hil⟩
      obtain ⟨hm32, hks, hpos⟩ := tabs_at hik
      have hrs := rowsTo_succ hik
      have hkl : ks.length = (t m).length := by rw [hks, List.length_map]
      have hrl := rowsTo_le t (i + 1)
      have hn : (t m).length ≤ 10000 := by omega
      have NXT : Hid (rowsTo t (i + 1) = rowsTo t i + (t m).length) := Lib.hid hrs
      -- one row
      have RD : Hid (∀ W, Below w6.heap.size w6 W → ∀ j, j < (t m).length → ∃ (x : Bn) (g e : Nat) (g2 o2 : Nat) (A' : Option Addr) (c' : Nat), x.m = (m : Int) ∧ may x = true ∧ A6 = some ⟨g2, o2, none⟩ ∧ A' = some ⟨g, e, none⟩ ∧
          (∀ V, Below W.heap.size W V → V.cell? ⟨g2, o2 + i * 2, none⟩ = some (.int .i64 (m : Int)) ∧ V.cell? ⟨g2, o2 + i * 2 + 1, none⟩ = some (.slice A' (t m).length c') ∧ V.cell? ⟨g, e + j * 3, none⟩ = some (.int .i64 x.s) ∧ V.cell? ⟨g, e + j * 3 + 1, none⟩ = some (.int .i64 x.i) ∧ V.cell? ⟨g, e + j * 3 + 2, none⟩ = some (.int .i64 x.g)) ∧
          (∀ V, Below W.heap.size W V → Calls Try.prog 17 #[.pointer (some ⟨s, 0, none⟩), .agg #[.int .i64 x.s, .int .i64 x.i, .int .i64 x.g]] V fun e U => e = .returned (.tuple #[x.val, .bool true]) ∧ Below V.heap.size V U) ∧
          (∀ V, Below W.heap.size W V → Calls Try.prog 18 #[.pointer (some ⟨s, 0, none⟩), .agg #[.int .i64 x.s, .int .i64 x.i, .int .i64 x.g]] V fun e U => e = .returned (.tuple #[.int .i64 (j : Int), .bool true]) ∧ Below V.heap.size V U)) := Lib.hid fun W hW j hj => by
        obtain ⟨g2, o2, e2, _, tm, A', c', ts, OI⟩ := (TB.out W hW).at_ hik
        have hx := List.getElem?_eq_getElem hj
        have hkk : ks[j]? = some (t m)[j].id := by rw [hks, List.getElem?_map, hx]; rfl
        obtain ⟨g, e, e3, _, ⟨y0, y1, y2⟩, _⟩ := owni_at OI hkk
        obtain ⟨ok1, ok2⟩ := HG.out.ok m _ (List.mem_of_getElem? hx)
        have hfd := find_is HG.out hx
        rw [hkl] at ts
        refine ⟨(t m)[j], g, e, g2, o2, A', c', ok2, ok1, e2, e3, fun V hV => ?_, fun V hV => ?_, fun V hV => ?_⟩
        · exact ⟨(hV.cell (p := ⟨g2, _, none⟩) (World.block_lt_of_cell? _ _ tm)).trans tm, (hV.cell (p := ⟨g2, _, none⟩) (World.block_lt_of_cell? _ _ ts)).trans ts, (hV.cell (p := ⟨g, _, none⟩) (World.block_lt_of_cell? _ _ y0)).trans y0, (hV.cell (p := ⟨g, _, none⟩) (World.block_lt_of_cell? _ _ y1)).trans y1, (hV.cell (p := ⟨g, _, none⟩) (World.block_lt_of_cell? _ _ y2)).trans y2⟩
        · have := GT.out V (hW.trans (hV.mono hW.size)) (t m)[j].s (t m)[j].i (t m)[j].g
          unfold cgetV at this
          rw [show ((t m)[j].s, (t m)[j].i, (t m)[j].g) = (t m)[j].id from rfl, hfd] at this
          simp only [hx] at this
          exact this
        · have := RW.out V (hW.trans (hV.mono hW.size)) (t m)[j].s (t m)[j].i (t m)[j].g
          rw [show ((t m)[j].s, (t m)[j].i, (t m)[j].g) = (t m)[j].id from rfl, hfd] at this
          exact this
      have TBC : Hid (∀ W, Below w6.heap.size w6 W → ∃ (g2 o2 : Nat) (A' : Option Addr) (c' : Nat), A6 = some ⟨g2, o2, none⟩ ∧ (W.cell? ⟨g2, o2 + i * 2, none⟩ = some (.int .i64 (m : Int)) ∧ W.cell? ⟨g2, o2 + i * 2 + 1, none⟩ = some (.slice A' (t m).length c'))) := Lib.hid fun W hW => by
        obtain ⟨g2, o2, e2, _, tm, A', c', ts, OI⟩ := (TB.out W hW).at_ hik
        rw [hkl] at ts
        exact ⟨g2, o2, A', c', e2, tm, ts⟩
      have TBP : Hid (∀ i0, i = i0 + 1 → ∃ m0 : Nat, m0 < m ∧ ∃ g2 o2 : Nat, A6 = some ⟨g2, o2, none⟩ ∧ wr.cell? ⟨g2, o2 + i0 * 2, none⟩ = some (.int .i64 (m0 : Int))) := Lib.hid fun i0 e => by
        subst e
        obtain ⟨⟨m0, ks0⟩, hik0⟩ : ∃ y, (tabs t)[i0]? = some y := ⟨_, List.getElem?_eq_getElem (by omega)⟩
        have hlt := tabs_lt (Nat.lt_succ_self i0) hik0 hik
        obtain ⟨g3, o3, e3, _, tm0, _⟩ := (TB.out wr HW.out).at_ hik0
        exact ⟨m0, hlt, g3, o3, e3, tm0⟩
      clear AW LX hkl hks hik hrs hrl TB GT RW HG
      have hr6 : rowsTo t i ≤ 10000 := by omega
      have hr7 : rowsTo t i + (t m).length ≤ 10000 := by have := NXT.out; have := rowsTo_le t (i + 1); omega
      generalize hRR : rowsTo t i = rr at *
      generalize hR2 : rowsTo t (i + 1) = r2 at *
      clear hri htot htot2 H6
      generalize hlm : (t m).length = nm at *
      clear hlm
      generalize (tabs t).length = nT at *
      obtain ⟨g2, o2, A', c', rfl, tm, ts⟩ := TBC.out wr HW.out
      have d0 : decide ((nm : Int) = 0) = false := decide_eq_false (by omega)
      have d0' : ((nm : Int) == 0) = false := by rw [beq_eq_false_iff_ne]; omega
      have HW7 : Hid (∀ q, Below w6.heap.size w6 (wr.drewN q)) := Lib.hid fun q => Below.dn' HW.out q
      clear HW
      by_cases hi0 : 0 < i
      case' pos =>
        obtain ⟨i0, hi1⟩ : ∃ i0, i = i0 + 1 := ⟨i - 1, by omega⟩
        obtain ⟨m0, hm0, g3, o3, e3, tm0⟩ := TBP.out i0 hi1
        cases e3
        have dg : decide ((i : Int) > 0) = true := decide_eq_true (by omega)
        have dg2 : decide (0 < i) = true := decide_eq_true hi0
        have dm : decide ((m0 : Int) ≥ (m : Int)) = false := decide_eq_false (by omega)
        have dm2 : decide (m ≤ m0) = false := decide_eq_false (by omega)
        have ws : IntKind.i64.wrap ((i : Int) - 1) = (i0 : Int) := by rw [IntWalk.i64_in _ (by omega)]; omega
        have t3 : (i0 : Int) < (nT : Int) := by omega
        clear hm0 TBP hi1
        go_upto_region 7 with fail
        go_quiet (fail)
      case' neg =>
        have dg : decide ((i : Int) > 0) = false := decide_eq_false (by omega)
        have dg2 : decide (0 < i) = false := decide_eq_false hi0
        clear TBP
        go_upto_region 7 with fail
        go_quiet (fail)
      all_goals
        rename_i nq
        have HX0 := Lib.hid (HW7.out nq)
        clear HW7
        generalize wr.drewN nq = wq at *
        clear tm ts
        go_wp2
        go_loopw [5, 7] (fun n k wr => ∃ q : Nat, q ≤ nm ∧ k = .int .i64 q ∧ n = .int .i64 ((rr + q : Nat) : Int) ∧ Hid (Below w6.heap.size w6 wr)) (fun n k _ => nm - (intOf k).toNat)
        case atStart => exact ⟨0, Nat.zero_le _, rfl, rfl, HX0⟩
        case round =>
          obtain ⟨j, hj, rfl, rfl, HX⟩ := hrel
          clear HX0
          by_cases hjl : j < nm
          · as_aux_lemma =>
            have t4 : (j : Int) < (nm : Int) := by omega
            obtain ⟨x, g, e, g2', o2', A9, c9, hxm, hmay, e2, rfl, CL, GC, RC⟩ := RD.out wr HX.out j hjl
            cases e2
            have CLH := Lib.hid CL
            have GCH := Lib.hid GC
            have RCH := Lib.hid RC
            have MB : Hid (∀ V, Calls Try.prog 19 #[x.val] V fun e U => e = .returned (.bool true) ∧ Below V.heap.size V U) := Lib.hid fun V => by
              have := may_any x (by have := may_mask hmay; unfold Fit; omega) V
              rwa [hmay] at this
            have KW : Hid (∀ V, Below wr.heap.size wr V → Below w6.heap.size w6 V) := Lib.hid fun V hV => HX.out.trans (hV.mono HX.out.size)
            clear RD CL GC RC hmay
            obtain ⟨xs, xi, xg, xm, xx, xY, xvx, xvy, xh, xp, xl⟩ := x
            simp only [Bn.val] at *
            subst hxm
            have EQ : ∀ V : World, (Op.equalIn 10000 31 (.agg #[.int .i64 xs, .int .i64 xi, .int .i64 xg]) (.agg #[.int .i64 xs, .int .i64 xi, .int .i64 xg])).run Try.prog V = .ok true V := fun V => by
              have := eq_id 9998 xs xi xg xs xi xg V
              simpa using this
            have d1 : ((m : Int) != (m : Int)) = false := by simp
            have d2 : ((j : Int) != (j : Int)) = false := by simp
            obtain ⟨tm, ts, y0, y1, y2⟩ := CLH.out wr (Below.refl _ _)
            clear HX TBC
            go_upto_region 14 with (first
              | (go_at_call 17; refine (GCH.out _ (Below.refl _ _)).mono ?_; rintro e w7 ⟨rfl, b7⟩; have B8 := b7.trans ((bel1 w7 (.cells #[.int .i64 xs, .int .i64 xi, .int .i64 xg, .int .i64 (m : Int), .int .i64 xx, .int .i64 xY, .int .i64 xvx, .int .i64 xvy, .int .i64 xh, .int .i64 xp, .int .i64 xl] 33)).mono b7.size); have K8 := at1 w7 (.cells #[.int .i64 xs, .int .i64 xi, .int .i64 xg, .int .i64 (m : Int), .int .i64 xx, .int .i64 xY, .int .i64 xvx, .int .i64 xvy, .int .i64 xh, .int .i64 xp, .int .i64 xl] 33); have C8 := CLH.out _ B8; clear tm ts y0 y1 y2 b7; obtain ⟨tm, ts, y0, y1, y2⟩ := C8; have RR := RCH.out _ B8; clear GCH RCH)
              | (go_at_call 18; refine RR.mono ?_; rintro e w9 ⟨rfl, b9⟩; have B9 := B8.trans (b9.mono B8.size); have K9 := (b9.block _ (Bx.lt K8)).trans K8; clear tm ts y0 y1 y2 b9 RR K8 B8))
            have PW : ∀ p : Lat grows w9, Below wr.heap.size wr p.W := fun p => B9.trans (p.h.mono B9.size)
            try clear tm ts y0 y1 y2
            have tm := fun p : Lat grows w9 => (CLH.out p.W (PW p)).1
            have ts := fun p : Lat grows w9 => (CLH.out p.W (PW p)).2.1
            have y0 := fun p : Lat grows w9 => (CLH.out p.W (PW p)).2.2.1
            have y1 := fun p : Lat grows w9 => (CLH.out p.W (PW p)).2.2.2.1
            have y2 := fun p : Lat grows w9 => (CLH.out p.W (PW p)).2.2.2.2
            have KB : ∀ p : Lat grows w9, p.W.cell? ⟨w7.heap.size, 0, none⟩ = some (.int .i64 xs) ∧ p.W.cell? ⟨w7.heap.size, 1, none⟩ = some (.int .i64 xi) ∧ p.W.cell? ⟨w7.heap.size, 2, none⟩ = some (.int .i64 xg) ∧ p.W.cell? ⟨w7.heap.size, 3, none⟩ = some (.int .i64 (m : Int)) ∧ p.W.cell? ⟨w7.heap.size, 4, none⟩ = some (.int .i64 xx) ∧ p.W.cell? ⟨w7.heap.size, 5, none⟩ = some (.int .i64 xY) ∧ p.W.cell? ⟨w7.heap.size, 6, none⟩ = some (.int .i64 xvx) ∧ p.W.cell? ⟨w7.heap.size, 7, none⟩ = some (.int .i64 xvy) ∧ p.W.cell? ⟨w7.heap.size, 8, none⟩ = some (.int .i64 xh) ∧ p.W.cell? ⟨w7.heap.size, 9, none⟩ = some (.int .i64 xp) ∧ p.W.cell? ⟨w7.heap.size, 10, none⟩ = some (.int .i64 xl) := fun p => (Bx.b11 ((p.h.block _ (Bx.lt K9)).trans K9)).1
            have kb0 := fun p => (KB p).1
            have kb1 := fun p => (KB p).2.1
            have kb2 := fun p => (KB p).2.2.1
            have kb3 := fun p => (KB p).2.2.2.1
            have kb4 := fun p => (KB p).2.2.2.2.1
            have kb5 := fun p => (KB p).2.2.2.2.2.1
            have kb6 := fun p => (KB p).2.2.2.2.2.2.1
            have kb7 := fun p => (KB p).2.2.2.2.2.2.2.1
            have kb8 := fun p => (KB p).2.2.2.2.2.2.2.2.1
            have kb9 := fun p => (KB p).2.2.2.2.2.2.2.2.2.1
            have kb10 := fun p => (KB p).2.2.2.2.2.2.2.2.2.2
            have FIN : Hid (∀ W, Below w9.heap.size w9 W → Below w6.heap.size w6 W) := Lib.hid fun W hW => KW.out W (B9.trans (hW.mono B9.size))
            clear KB PW CLH K9 B9 KW
            refine Og.grow 39 (by kernel_rfl) (by kernel_rfl) fun hc hf => ?_
            clear hc hf
            simp only [List.take_succ_cons, List.take_zero, List.drop_succ_cons, List.drop_zero]
            iterate 36 (refine Og.det [] rfl (fun J hJ => ?_); go_simp; refine hJ _ _ ?_; clear hJ J)
            refine Og.det [] rfl (fun J hJ => ?_)
            go_simp
            with_reducible refine ⟨_, fun p => Og.lays (MB.out p.W), hJ _ _ ?_⟩
            clear hJ J
            iterate 2 (refine Og.det [] rfl (fun J hJ => ?_); go_simp; refine hJ _ _ ?_; clear hJ J)
            refine Og.fin fun W hW => ?_
            simp only [Og.opened_nil]
            have HN := Lib.hid (FIN.out W hW)
            clear FIN tm ts y0 y1 y2 kb0 kb1 kb2 kb3 kb4 kb5 kb6 kb7 kb8 kb9 kb10 MB hW
            go_wp2
            go_roundw
            case rel => exact ⟨j + 1, by omega, by go_num, by go_num, HN⟩
            case measure => simp [intOf]; omega
          · obtain rfl : j = nm := by omega
            have t4 : ¬ (j : Int) < (j : Int) := by omega
            have e9 := NXT.out
            obtain ⟨g9, o9, A9, c9, e2, tm, ts⟩ := TBC.out wr HX.out
            cases e2
            clear RD TBC
            go_wp2
            go_roundw
            case rel => exact ⟨i + 1, by omega, by go_num, by rw [hR2, e9], HX⟩
            case measure => simp [intOf]; omega
    · obtain rfl : i = (tabs t).length := by omega
      have t2 : ¬ ((tabs t).length : Int) < ((tabs t).length : Int) := by omega
      rw [rowsTo_all]
      have nm : ((total t : Int) == (total t : Int)) = true := by simp
      have HB6 := Lib.hid (H6.out.bel.trans (HW.out.mono H6.out.bel.size))
      clear RW GT
      generalize (tabs t).length = nT at *
      go_wp2_with (first
        | (go_at_call 20; refine (LX.out _ HW.out).mono ?_; rintro e w7 ⟨rfl, rfl⟩; clear LX)
        | (go_at_call 21; refine (AW.out _).mono ?_; rintro e w8 ⟨rfl, b8⟩; clear AW))
      go_ret
      exact ⟨rfl, HB6.out.trans (b8.mono HB6.out.size)⟩
end Go.Proofs.Ytgmgenggboicnaa
