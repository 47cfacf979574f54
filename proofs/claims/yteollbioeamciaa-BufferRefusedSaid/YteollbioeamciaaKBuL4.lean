/- The law BufferRefused, walked. Written by wip/tools/genbulaw.py. -/
import Derived.Test.YteollbioeamciaaKBuL2
import Derived.Test.YteollbioeamciaaKBuF
namespace Go.Proofs.Yteollbioeamciaa
open Go.RowKit Pz Ar Bu Sp
set_option linter.unusedVariables false
set_option linter.unusedSimpArgs false

theorem get_id {t : Tb} {k1 k2 k3 : Int} {x : Bn} (h : Bu.get t (k1, k2, k3) = some x) : x = ⟨k1, k2, k3, x.m, x.x, x.y, x.vx, x.vy, x.h, x.p, x.l⟩ := by
  have hid := (mem_get h).2
  obtain ⟨xs, xi, xg, xm, xx, xy, xvx, xvy, xh, xp, xl⟩ := x
  simp only [Bn.id, Prod.mk.injEq] at hid
  obtain ⟨rfl, rfl, rfl⟩ := hid
  rfl
set_option maxHeartbeats 16000000 in
set_option maxRecDepth 100000 in
theorem law_refused (w : World) (A1 : Option Addr) (c1 : Nat) (p0 : List De) (pc : p0.length ≤ c1) (pcap : c1 ≤ 140737488351232) (pF : ∀ x ∈ p0, Fit x.b.m ∧ Fit x.m) (pR : RdDe w w.heap.size A1 p0) (d : De) (dF : Fit d.b.m ∧ Fit d.m) :
    Calls Try.prog 7 #[.slice A1 p0.length c1, d.val] w fun e w' => e = .returned (.bool true) ∧ Below w.heap.size w w' := by
  have FWp := Lib.hid fun W (hW : Below w.heap.size w W) => few_any ((pR.below hW).more hW.size) pc pcap
  obtain ⟨p, hlp⟩ : ∃ l, l = p0.take 60 := ⟨_, rfl⟩
  have h6p : p.length ≤ 60 := by rw [hlp, List.length_take]; omega
  have RXp := Lib.hid fun W (hW : Below w.heap.size w W) => (pR.take 60).below hW
  have FXp : Hid (∀ x ∈ p, Fit x.b.m ∧ Fit x.m) := Lib.hid fun x hx => pF x (List.mem_of_mem_take (hlp ▸ hx))
  rw [← hlp] at RXp FWp
  clear hlp pR pF pc pcap
  have hp6 : (p.length : Int) ≤ 60 := by omega
  obtain ⟨t1, ht1⟩ : ∃ t, t = bdos T0 p := ⟨_, rfl⟩
  have e1 : Hid (bdos T0 (p.take p.length) = t1) := Lib.hid (by rw [List.take_length, ht1])
  have l1 : Le t1 60 := by
    have := le_few h6p p.length
    rw [List.take_length] at this
    rw [ht1]; exact this
  have gg : Hid (Ar.Good t1) := Lib.hid (by rw [ht1]; exact good_bdos p good_none)
  clear ht1
  obtain ⟨N, hN⟩ : ∃ N : Int, N = (total t1 : Int) := ⟨_, rfl⟩
  have hN0 : 0 ≤ N := by omega
  have hN1 : N ≤ 10000 := by have := total_few l1 (by decide); omega
  have DZ : Hid ((bdo t1 d).2 ≠ 0 → (bdo t1 d).1 = t1) := Lib.hid fun h => bdo_no h
  have DY : Hid ((bdo t1 d).2 = 0 → _) := Lib.hid fun h => bdo_yes gg.out h
  obtain ⟨dk, ⟨ds, di, dg, dm, dx, dy, dvx, dvy, dh, dp, dl⟩, dm_⟩ := d
  obtain ⟨dF1, dF2⟩ := dF
  simp only [De.val] at dF1 dF2 DY DZ ⊢
  have eA : (Array.replicate 32 (.slice none 0 0) : Array Value) = #[.slice none 0 0, .slice none 0 0, .slice none 0 0, .slice none 0 0, .slice none 0 0, .slice none 0 0, .slice none 0 0, .slice none 0 0, .slice none 0 0, .slice none 0 0, .slice none 0 0, .slice none 0 0, .slice none 0 0, .slice none 0 0, .slice none 0 0, .slice none 0 0, .slice none 0 0, .slice none 0 0, .slice none 0 0, .slice none 0 0, .slice none 0 0, .slice none 0 0, .slice none 0 0, .slice none 0 0, .slice none 0 0, .slice none 0 0, .slice none 0 0, .slice none 0 0, .slice none 0 0, .slice none 0 0, .slice none 0 0, .slice none 0 0] := rfl
  have AW := Lib.hid awake_any
  have H0 : Hid (Sep w [box w.heap.size (.cells #[.int .i64 dk, .int .i64 ds, .int .i64 di, .int .i64 dg, .int .i64 dm, .int .i64 dx, .int .i64 dy, .int .i64 dvx, .int .i64 dvy, .int .i64 dh, .int .i64 dp, .int .i64 dl, .int .i64 dm_] DTY)] (w.alloc (.cells #[.int .i64 dk, .int .i64 ds, .int .i64 di, .int .i64 dg, .int .i64 dm, .int .i64 dx, .int .i64 dy, .int .i64 dvx, .int .i64 dvy, .int .i64 dh, .int .i64 dp, .int .i64 dl, .int .i64 dm_] DTY))) := Lib.hid (sep_box (sep_new w) _)
  have NS := Lib.hid fun V (h : Sep w [box w.heap.size (.cells #[.int .i64 dk, .int .i64 ds, .int .i64 di, .int .i64 dg, .int .i64 dm, .int .i64 dx, .int .i64 dy, .int .i64 dvx, .int .i64 dvy, .int .i64 dh, .int .i64 dp, .int .i64 dl, .int .i64 dm_] DTY)] V) => sep_store h
  have NB := Lib.hid fun s V (h : Sep w [stC s T0, box w.heap.size (.cells #[.int .i64 dk, .int .i64 ds, .int .i64 di, .int .i64 dg, .int .i64 dm, .int .i64 dx, .int .i64 dy, .int .i64 dvx, .int .i64 dvy, .int .i64 dh, .int .i64 dp, .int .i64 dl, .int .i64 dm_] DTY)] V) => (sep_ref h).pull 1 rfl
  rw [eA] at NB
  generalize p0.length = n0 at *
  go_enter Try.func7, Try.ntmps7
  go_upto_region 1 with fail
  generalize w.alloc (.cells #[.int .i64 dk, .int .i64 ds, .int .i64 di, .int .i64 dg, .int .i64 dm, .int .i64 dx, .int .i64 dy, .int .i64 dvx, .int .i64 dvy, .int .i64 dh, .int .i64 dp, .int .i64 dl, .int .i64 dm_] DTY) = w0 at *
  go_wp2_with (first
    | (go_at_call 9; refine (NS.out _ H0.out).mono ?_; rintro e w1 ⟨rfl, h1'⟩; generalize w0.heap.size = s at *; have h1 := NB.out _ _ h1'; clear NS H0 h1' NB eA)
    | (go_at_call 10; refine (FWp.out _ h1.bel).mono ?_; rintro e w2 ⟨⟨c1', rfl, _, _⟩, rfl⟩; have h2 := Lib.hid h1; clear FWp h1))
  generalize w1.heap.size = r at *
  have h3 : Hid (Sep w [stC s (bdos T0 (p.take 0)), stR r (bdos T0 (p.take 0)), box w.heap.size (.cells #[.int .i64 dk, .int .i64 ds, .int .i64 di, .int .i64 dg, .int .i64 dm, .int .i64 dx, .int .i64 dy, .int .i64 dvx, .int .i64 dvy, .int .i64 dh, .int .i64 dp, .int .i64 dl, .int .i64 dm_] DTY)] _) := h2
  clear h2
  go_loopw [7] (fun i wr => ∃ j : Nat, j ≤ p.length ∧ i = .int .i64 j ∧ Hid (Sep w [stC s (bdos T0 (p.take j)), stR r (bdos T0 (p.take j)), box w.heap.size (.cells #[.int .i64 dk, .int .i64 ds, .int .i64 di, .int .i64 dg, .int .i64 dm, .int .i64 dx, .int .i64 dy, .int .i64 dvx, .int .i64 dvy, .int .i64 dh, .int .i64 dp, .int .i64 dl, .int .i64 dm_] DTY)] wr)) (fun i _ => p.length - (intOf i).toNat)
  case atStart => exact ⟨0, Nat.zero_le _, rfl, h3⟩
  case round =>
    obtain ⟨j, hj, rfl, HP⟩ := hrel
    clear h3
    by_cases hjn : j < p.length
    · have q1 : (j : Int) < (p.length : Int) := by omega
      have hx := List.getElem?_eq_getElem hjn
      obtain ⟨g, o, rfl, _⟩ := RXp.out wr HP.out.bel j _ hx
      have RC : Hid (∀ W, Below w.heap.size w W → W.cell? ⟨g, o + j * 13, none⟩ = some (.int .i64 p[j].k) ∧ W.cell? ⟨g, o + j * 13 + 1, none⟩ = some (.int .i64 p[j].b.s) ∧ W.cell? ⟨g, o + j * 13 + 2, none⟩ = some (.int .i64 p[j].b.i) ∧ W.cell? ⟨g, o + j * 13 + 3, none⟩ = some (.int .i64 p[j].b.g) ∧ W.cell? ⟨g, o + j * 13 + 4, none⟩ = some (.int .i64 p[j].b.m) ∧ W.cell? ⟨g, o + j * 13 + 5, none⟩ = some (.int .i64 p[j].b.x) ∧ W.cell? ⟨g, o + j * 13 + 6, none⟩ = some (.int .i64 p[j].b.y) ∧ W.cell? ⟨g, o + j * 13 + 7, none⟩ = some (.int .i64 p[j].b.vx) ∧ W.cell? ⟨g, o + j * 13 + 8, none⟩ = some (.int .i64 p[j].b.vy) ∧ W.cell? ⟨g, o + j * 13 + 9, none⟩ = some (.int .i64 p[j].b.h) ∧ W.cell? ⟨g, o + j * 13 + 10, none⟩ = some (.int .i64 p[j].b.p) ∧ W.cell? ⟨g, o + j * 13 + 11, none⟩ = some (.int .i64 p[j].b.l) ∧ W.cell? ⟨g, o + j * 13 + 12, none⟩ = some (.int .i64 p[j].m)) := Lib.hid fun W hW => by
        obtain ⟨g', o', e, _, hc⟩ := RXp.out W hW j _ hx
        cases e
        exact hc
      have hLe := le_few h6p j
      have hT := bdos_take T0 hx
      have SX : Hid (∀ V, Sep w [stC s (bdos T0 (p.take j)), stR r (bdos T0 (p.take j)), box w.heap.size (.cells #[.int .i64 dk, .int .i64 ds, .int .i64 di, .int .i64 dg, .int .i64 dm, .int .i64 dx, .int .i64 dy, .int .i64 dvx, .int .i64 dvy, .int .i64 dh, .int .i64 dp, .int .i64 dl, .int .i64 dm_] DTY)] V → Calls Try.prog 11 #[.pointer (some ⟨s, 0, none⟩), p[j].val] V fun e V' => e = .returned (.int .i64 (bdo (bdos T0 (p.take j)) p[j]).2) ∧ Sep w [stC s (bdos T0 (p.take (j + 1))), stR r (bdos T0 (p.take j)), box w.heap.size (.cells #[.int .i64 dk, .int .i64 ds, .int .i64 di, .int .i64 dg, .int .i64 dm, .int .i64 dx, .int .i64 dy, .int .i64 dvx, .int .i64 dvy, .int .i64 dh, .int .i64 dp, .int .i64 dl, .int .i64 dm_] DTY)] V') := Lib.hid fun V hV => by rw [hT]; exact hV.do_ p[j] hLe (by decide)
      have DX : Hid (∀ V, Sep w [stC s (bdos T0 (p.take (j + 1))), stR r (bdos T0 (p.take j)), box w.heap.size (.cells #[.int .i64 dk, .int .i64 ds, .int .i64 di, .int .i64 dg, .int .i64 dm, .int .i64 dx, .int .i64 dy, .int .i64 dvx, .int .i64 dvy, .int .i64 dh, .int .i64 dp, .int .i64 dl, .int .i64 dm_] DTY)] V → Calls Try.prog 12 #[.pointer (some ⟨r, 0, none⟩), p[j].val] V fun e V' => e = .returned (.int .i64 (bdo (bdos T0 (p.take j)) p[j]).2) ∧ Sep w [stC s (bdos T0 (p.take (j + 1))), stR r (bdos T0 (p.take (j + 1))), box w.heap.size (.cells #[.int .i64 dk, .int .i64 ds, .int .i64 di, .int .i64 dg, .int .i64 dm, .int .i64 dx, .int .i64 dy, .int .i64 dvx, .int .i64 dvy, .int .i64 dh, .int .i64 dp, .int .i64 dl, .int .i64 dm_] DTY)] V') := Lib.hid fun V hV => by
        have := (show Sep w [stR r (bdos T0 (p.take j)), stC s (bdos T0 (p.take (j + 1))), box w.heap.size (.cells #[.int .i64 dk, .int .i64 ds, .int .i64 di, .int .i64 dg, .int .i64 dm, .int .i64 dx, .int .i64 dy, .int .i64 dvx, .int .i64 dvy, .int .i64 dh, .int .i64 dp, .int .i64 dl, .int .i64 dm_] DTY)] V from hV.pull 1 rfl).rdo p[j] (FXp.out _ (List.getElem_mem hjn)) hLe (by decide)
        refine this.mono fun e V' ⟨e1, e2⟩ => ⟨e1, ?_⟩
        have h3 : Sep w [stC s (bdos T0 (p.take (j + 1))), stR r (bdo (bdos T0 (p.take j)) p[j]).1, box w.heap.size (.cells #[.int .i64 dk, .int .i64 ds, .int .i64 di, .int .i64 dg, .int .i64 dm, .int .i64 dx, .int .i64 dy, .int .i64 dvx, .int .i64 dvy, .int .i64 dh, .int .i64 dp, .int .i64 dl, .int .i64 dm_] DTY)] V' := e2.pull 1 rfl
        rw [← hT] at h3
        exact h3
      clear RXp FXp hLe hT hx AW DZ DY e1 gg hN hN0 hN1 l1
      obtain ⟨k0, k1, k2, k3, k4, k5, k6, k7, k8, k9, k10, k11, k12⟩ := RC.out _ HP.out.bel
      generalize (bdo (bdos T0 (p.take j)) p[j]).2 = rr at *
      simp only [De.val] at SX DX
      generalize p[j].k = v0 at *
      generalize p[j].b.s = v1 at *
      generalize p[j].b.i = v2 at *
      generalize p[j].b.g = v3 at *
      generalize p[j].b.m = v4 at *
      generalize p[j].b.x = v5 at *
      generalize p[j].b.y = v6 at *
      generalize p[j].b.vx = v7 at *
      generalize p[j].b.vy = v8 at *
      generalize p[j].b.h = v9 at *
      generalize p[j].b.p = v10 at *
      generalize p[j].b.l = v11 at *
      generalize p[j].m = v12 at *
      go_wp2_with (first
        | (go_at_call 11; refine (SX.out _ HP.out).mono ?_; rintro e w5 ⟨rfl, h5⟩; clear SX HP k0 k1 k2 k3 k4 k5 k6 k7 k8 k9 k10 k11 k12; obtain ⟨k0, k1, k2, k3, k4, k5, k6, k7, k8, k9, k10, k11, k12⟩ := RC.out _ h5.bel)
        | (go_at_call 12; refine (DX.out _ h5).mono ?_; rintro e w6 ⟨rfl, h6'⟩; have h6 := Lib.hid h6'; clear h6' h5 DX k0 k1 k2 k3 k4 k5 k6 k7 k8 k9 k10 k11 k12))
      go_roundw
      case rel => exact ⟨j + 1, by omega, by go_num, h6⟩
      case measure => simp [intOf]; omega
    · obtain rfl : j = p.length := by omega
      have q1 : ¬ (p.length : Int) < (p.length : Int) := by omega
      have HQ : Hid (Sep w [stC s t1, stR r t1, box w.heap.size (.cells #[.int .i64 dk, .int .i64 ds, .int .i64 di, .int .i64 dg, .int .i64 dm, .int .i64 dx, .int .i64 dy, .int .i64 dvx, .int .i64 dvy, .int .i64 dh, .int .i64 dp, .int .i64 dl, .int .i64 dm_] DTY)] wr) := by rw [e1.out] at HP; exact HP
      clear HP e1 RXp FXp
      generalize p.length = np at *
      have LN : Hid (∀ V, Sep w [stC s t1, stR r t1, box w.heap.size (.cells #[.int .i64 dk, .int .i64 ds, .int .i64 di, .int .i64 dg, .int .i64 dm, .int .i64 dx, .int .i64 dy, .int .i64 dvx, .int .i64 dvy, .int .i64 dh, .int .i64 dp, .int .i64 dl, .int .i64 dm_] DTY)] V → Calls Try.prog 24 #[.pointer (some ⟨s, 0, none⟩)] V fun e V' => e = .returned (.int .i64 N) ∧ V = V') := Lib.hid fun V hV => by
        rw [hN]; exact hV.len 0 rfl
      have AL : Hid (∀ x V, Sep w [stC s t1, x, stR r t1, box w.heap.size (.cells #[.int .i64 dk, .int .i64 ds, .int .i64 di, .int .i64 dg, .int .i64 dm, .int .i64 dx, .int .i64 dy, .int .i64 dvx, .int .i64 dvy, .int .i64 dh, .int .i64 dp, .int .i64 dl, .int .i64 dm_] DTY)] V → Calls Try.prog 13 #[.pointer (some ⟨s, 0, none⟩), .pointer (some ⟨r, 0, none⟩)] V fun e V' => e = .returned (.bool true) ∧ Sep w [stC s t1, x, stR r t1, box w.heap.size (.cells #[.int .i64 dk, .int .i64 ds, .int .i64 di, .int .i64 dg, .int .i64 dm, .int .i64 dx, .int .i64 dy, .int .i64 dvx, .int .i64 dvy, .int .i64 dh, .int .i64 dp, .int .i64 dl, .int .i64 dm_] DTY)] V') := Lib.hid fun x V hV => hV.alike 0 2 rfl rfl (total_few l1 (by decide))
      obtain ⟨e0, e1, e2, e3, e4, e5, e6, e7, e8, e9, e10, e11, e12⟩ := (Bx.b13 (HQ.out.held 2 rfl)).1
      by_cases hz : (bdo t1 ⟨dk, ⟨ds, di, dg, dm, dx, dy, dvx, dvy, dh, dp, dl⟩, dm_⟩).2 = 0
      · rcases DY.out hz with ⟨hk, g1, g2, hL⟩ | ⟨hk, ⟨x, g1⟩, g2, hL⟩ | ⟨hk, x, g1, g2, hL⟩ | ⟨hk, x, g1, g2, hL⟩
        · have hk' : dk = 1 := hk
          clear DY DZ gg hk
          subst hk'
          obtain ⟨t2, ht2⟩ : ∃ t, t = (bdo t1 ⟨1, ⟨ds, di, dg, dm, dx, dy, dvx, dvy, dh, dp, dl⟩, dm_⟩).1 := ⟨_, rfl⟩
          rw [← ht2] at g2 hL
          simp only [Bn.id] at g1 g2
          replace hL : (total t2 : Int) = N + 1 := by rw [hL, hN]; simp
          have GT : Hid (∀ V, Sep w [stC s t1, stR r t1, box w.heap.size (.cells #[.int .i64 1, .int .i64 ds, .int .i64 di, .int .i64 dg, .int .i64 dm, .int .i64 dx, .int .i64 dy, .int .i64 dvx, .int .i64 dvy, .int .i64 dh, .int .i64 dp, .int .i64 dl, .int .i64 dm_] DTY)] V → Calls Try.prog 25 #[.pointer (some ⟨s, 0, none⟩), .agg #[.int .i64 ds, .int .i64 di, .int .i64 dg]] V fun e V' => e = .returned (.tuple #[.agg #[.int .i64 0, .int .i64 0, .int .i64 0, .int .i64 0, .int .i64 0, .int .i64 0, .int .i64 0, .int .i64 0, .int .i64 0, .int .i64 0, .int .i64 0], .bool false]) ∧ Sep w [box V'.heap.size (.cells #[.int .i64 0, .int .i64 0, .int .i64 0, .int .i64 0, .int .i64 0, .int .i64 0, .int .i64 0, .int .i64 0, .int .i64 0, .int .i64 0, .int .i64 0] 36), stC s t1, stR r t1, box w.heap.size (.cells #[.int .i64 1, .int .i64 ds, .int .i64 di, .int .i64 dg, .int .i64 dm, .int .i64 dx, .int .i64 dy, .int .i64 dvx, .int .i64 dvy, .int .i64 dh, .int .i64 dp, .int .i64 dl, .int .i64 dm_] DTY)] (V'.alloc (.cells #[.int .i64 0, .int .i64 0, .int .i64 0, .int .i64 0, .int .i64 0, .int .i64 0, .int .i64 0, .int .i64 0, .int .i64 0, .int .i64 0, .int .i64 0] 36))) := Lib.hid fun V hV => by
            have := hV.sget 0 rfl ds di dg
            rw [g1] at this
            exact this.mono fun e V' ⟨a, b⟩ => ⟨a, sep_box b _⟩
          have DO : Hid (∀ q1 V, Sep w [box q1 (.cells #[.int .i64 0, .int .i64 0, .int .i64 0, .int .i64 0, .int .i64 0, .int .i64 0, .int .i64 0, .int .i64 0, .int .i64 0, .int .i64 0, .int .i64 0] 36), stC s t1, stR r t1, box w.heap.size (.cells #[.int .i64 1, .int .i64 ds, .int .i64 di, .int .i64 dg, .int .i64 dm, .int .i64 dx, .int .i64 dy, .int .i64 dvx, .int .i64 dvy, .int .i64 dh, .int .i64 dp, .int .i64 dl, .int .i64 dm_] DTY)] V → Calls Try.prog 11 #[.pointer (some ⟨s, 0, none⟩), .agg #[.int .i64 1, .int .i64 ds, .int .i64 di, .int .i64 dg, .int .i64 dm, .int .i64 dx, .int .i64 dy, .int .i64 dvx, .int .i64 dvy, .int .i64 dh, .int .i64 dp, .int .i64 dl, .int .i64 dm_]] V fun e V' => e = .returned (.int .i64 0) ∧ Sep w [stC s t2, box q1 (.cells #[.int .i64 0, .int .i64 0, .int .i64 0, .int .i64 0, .int .i64 0, .int .i64 0, .int .i64 0, .int .i64 0, .int .i64 0, .int .i64 0, .int .i64 0] 36), stR r t1, box w.heap.size (.cells #[.int .i64 1, .int .i64 ds, .int .i64 di, .int .i64 dg, .int .i64 dm, .int .i64 dx, .int .i64 dy, .int .i64 dvx, .int .i64 dvy, .int .i64 dh, .int .i64 dp, .int .i64 dl, .int .i64 dm_] DTY)] V') := Lib.hid fun q1 V hV => by
            have := (show Sep w [stC s t1, box q1 (.cells #[.int .i64 0, .int .i64 0, .int .i64 0, .int .i64 0, .int .i64 0, .int .i64 0, .int .i64 0, .int .i64 0, .int .i64 0, .int .i64 0, .int .i64 0] 36), stR r t1, box w.heap.size (.cells #[.int .i64 1, .int .i64 ds, .int .i64 di, .int .i64 dg, .int .i64 dm, .int .i64 dx, .int .i64 dy, .int .i64 dvx, .int .i64 dvy, .int .i64 dh, .int .i64 dp, .int .i64 dl, .int .i64 dm_] DTY)] V from hV.pull 1 rfl).do_ ⟨1, ⟨ds, di, dg, dm, dx, dy, dvx, dvy, dh, dp, dl⟩, dm_⟩ l1 (by decide)
            rw [hz, ← ht2] at this
            exact this
          have GU : Hid (∀ q1 V, Sep w [stC s t2, box q1 (.cells #[.int .i64 0, .int .i64 0, .int .i64 0, .int .i64 0, .int .i64 0, .int .i64 0, .int .i64 0, .int .i64 0, .int .i64 0, .int .i64 0, .int .i64 0] 36), stR r t1, box w.heap.size (.cells #[.int .i64 1, .int .i64 ds, .int .i64 di, .int .i64 dg, .int .i64 dm, .int .i64 dx, .int .i64 dy, .int .i64 dvx, .int .i64 dvy, .int .i64 dh, .int .i64 dp, .int .i64 dl, .int .i64 dm_] DTY)] V → Calls Try.prog 25 #[.pointer (some ⟨s, 0, none⟩), .agg #[.int .i64 ds, .int .i64 di, .int .i64 dg]] V fun e V' => e = .returned (.tuple #[.agg #[.int .i64 ds, .int .i64 di, .int .i64 dg, .int .i64 dm, .int .i64 dx, .int .i64 dy, .int .i64 dvx, .int .i64 dvy, .int .i64 dh, .int .i64 dp, .int .i64 dl], .bool true]) ∧ Sep w [box V'.heap.size (.cells #[.int .i64 ds, .int .i64 di, .int .i64 dg, .int .i64 dm, .int .i64 dx, .int .i64 dy, .int .i64 dvx, .int .i64 dvy, .int .i64 dh, .int .i64 dp, .int .i64 dl] 36), stC s t2, box q1 (.cells #[.int .i64 0, .int .i64 0, .int .i64 0, .int .i64 0, .int .i64 0, .int .i64 0, .int .i64 0, .int .i64 0, .int .i64 0, .int .i64 0, .int .i64 0] 36), stR r t1, box w.heap.size (.cells #[.int .i64 1, .int .i64 ds, .int .i64 di, .int .i64 dg, .int .i64 dm, .int .i64 dx, .int .i64 dy, .int .i64 dvx, .int .i64 dvy, .int .i64 dh, .int .i64 dp, .int .i64 dl, .int .i64 dm_] DTY)] (V'.alloc (.cells #[.int .i64 ds, .int .i64 di, .int .i64 dg, .int .i64 dm, .int .i64 dx, .int .i64 dy, .int .i64 dvx, .int .i64 dvy, .int .i64 dh, .int .i64 dp, .int .i64 dl] 36))) := Lib.hid fun q1 V hV => by
            have := hV.sget 0 rfl ds di dg
            rw [g2] at this
            exact this.mono fun e V' ⟨a, b⟩ => ⟨a, sep_box b _⟩
          have LU : Hid (∀ q1 q2 V, Sep w [box q2 (.cells #[.int .i64 ds, .int .i64 di, .int .i64 dg, .int .i64 dm, .int .i64 dx, .int .i64 dy, .int .i64 dvx, .int .i64 dvy, .int .i64 dh, .int .i64 dp, .int .i64 dl] 36), stC s t2, box q1 (.cells #[.int .i64 0, .int .i64 0, .int .i64 0, .int .i64 0, .int .i64 0, .int .i64 0, .int .i64 0, .int .i64 0, .int .i64 0, .int .i64 0, .int .i64 0] 36), stR r t1, box w.heap.size (.cells #[.int .i64 1, .int .i64 ds, .int .i64 di, .int .i64 dg, .int .i64 dm, .int .i64 dx, .int .i64 dy, .int .i64 dvx, .int .i64 dvy, .int .i64 dh, .int .i64 dp, .int .i64 dl, .int .i64 dm_] DTY)] V → Calls Try.prog 24 #[.pointer (some ⟨s, 0, none⟩)] V fun e V' => e = .returned (.int .i64 (N + 1)) ∧ V = V') := Lib.hid fun q1 q2 V hV => by
            have := hV.len 1 rfl
            rw [hL] at this
            exact this
          have EQ := eq_bundle_d 9997 ds di dg dm dx dy dvx dvy dh dp dl
          simp at EQ
          clear hz ht2 g1 g2 hL l1 AL
          go_wp2_with (first
            | (go_at_call 24; refine (LN.out _ HQ.out).mono ?_; rintro e w8 ⟨rfl, rfl⟩; clear LN)
            | (go_at_call 25; refine (GT.out _ HQ.out).mono ?_; rintro e w9 ⟨rfl, h9⟩; clear GT HQ e0 e1 e2 e3 e4 e5 e6 e7 e8 e9 e10 e11 e12; obtain ⟨e0, e1, e2, e3, e4, e5, e6, e7, e8, e9, e10, e11, e12⟩ := (Bx.b13 (h9.held 3 rfl)).1)
            | (go_at_call 11; refine (DO.out _ _ h9).mono ?_; rintro e w10 ⟨rfl, h10⟩; clear DO h9 e0 e1 e2 e3 e4 e5 e6 e7 e8 e9 e10 e11 e12; obtain ⟨e0, e1, e2, e3, e4, e5, e6, e7, e8, e9, e10, e11, e12⟩ := (Bx.b13 (h10.held 3 rfl)).1)
            | (go_at_call 25; refine (GU.out _ _ h10).mono ?_; rintro e w11 ⟨rfl, h11⟩; clear GU h10 e0 e1 e2 e3 e4 e5 e6 e7 e8 e9 e10 e11 e12; obtain ⟨e0, e1, e2, e3, e4, e5, e6, e7, e8, e9, e10, e11, e12⟩ := (Bx.b13 (h11.held 4 rfl)).1; obtain ⟨n0, n1, n2, n3, n4, n5, n6, n7, n8, n9, n10⟩ := (Bx.b11 (h11.held 0 rfl)).1)
            | (go_at_call 24; refine (LU.out _ _ _ h11).mono ?_; rintro e w12 ⟨rfl, rfl⟩; clear LU)
            | (go_at_call 14; refine (AW.out _).mono ?_; rintro e w13 ⟨rfl, b13⟩; clear AW))
          go_ret
          exact ⟨rfl, h11.bel.trans (b13.mono h11.bel.size)⟩
        · have hk' : dk = 2 := hk
          clear DY DZ gg hk
          subst hk'
          obtain ⟨t2, ht2⟩ : ∃ t, t = (bdo t1 ⟨2, ⟨ds, di, dg, dm, dx, dy, dvx, dvy, dh, dp, dl⟩, dm_⟩).1 := ⟨_, rfl⟩
          rw [← ht2] at g2 hL
          simp only [Bn.id] at g1 g2
          replace hL : (total t2 : Int) = N - 1 := by rw [hN]; omega
          rw [get_id g1] at g1
          generalize x.m = xm at *
          generalize x.x = xx at *
          generalize x.y = xy at *
          generalize x.vx = xvx at *
          generalize x.vy = xvy at *
          generalize x.h = xh at *
          generalize x.p = xp at *
          generalize x.l = xl at *
          clear x
          have GT : Hid (∀ V, Sep w [stC s t1, stR r t1, box w.heap.size (.cells #[.int .i64 2, .int .i64 ds, .int .i64 di, .int .i64 dg, .int .i64 dm, .int .i64 dx, .int .i64 dy, .int .i64 dvx, .int .i64 dvy, .int .i64 dh, .int .i64 dp, .int .i64 dl, .int .i64 dm_] DTY)] V → Calls Try.prog 25 #[.pointer (some ⟨s, 0, none⟩), .agg #[.int .i64 ds, .int .i64 di, .int .i64 dg]] V fun e V' => e = .returned (.tuple #[.agg #[.int .i64 ds, .int .i64 di, .int .i64 dg, .int .i64 xm, .int .i64 xx, .int .i64 xy, .int .i64 xvx, .int .i64 xvy, .int .i64 xh, .int .i64 xp, .int .i64 xl], .bool true]) ∧ Sep w [box V'.heap.size (.cells #[.int .i64 ds, .int .i64 di, .int .i64 dg, .int .i64 xm, .int .i64 xx, .int .i64 xy, .int .i64 xvx, .int .i64 xvy, .int .i64 xh, .int .i64 xp, .int .i64 xl] 36), stC s t1, stR r t1, box w.heap.size (.cells #[.int .i64 2, .int .i64 ds, .int .i64 di, .int .i64 dg, .int .i64 dm, .int .i64 dx, .int .i64 dy, .int .i64 dvx, .int .i64 dvy, .int .i64 dh, .int .i64 dp, .int .i64 dl, .int .i64 dm_] DTY)] (V'.alloc (.cells #[.int .i64 ds, .int .i64 di, .int .i64 dg, .int .i64 xm, .int .i64 xx, .int .i64 xy, .int .i64 xvx, .int .i64 xvy, .int .i64 xh, .int .i64 xp, .int .i64 xl] 36))) := Lib.hid fun V hV => by
            have := hV.sget 0 rfl ds di dg
            rw [g1] at this
            exact this.mono fun e V' ⟨a, b⟩ => ⟨a, sep_box b _⟩
          have DO : Hid (∀ q1 V, Sep w [box q1 (.cells #[.int .i64 ds, .int .i64 di, .int .i64 dg, .int .i64 xm, .int .i64 xx, .int .i64 xy, .int .i64 xvx, .int .i64 xvy, .int .i64 xh, .int .i64 xp, .int .i64 xl] 36), stC s t1, stR r t1, box w.heap.size (.cells #[.int .i64 2, .int .i64 ds, .int .i64 di, .int .i64 dg, .int .i64 dm, .int .i64 dx, .int .i64 dy, .int .i64 dvx, .int .i64 dvy, .int .i64 dh, .int .i64 dp, .int .i64 dl, .int .i64 dm_] DTY)] V → Calls Try.prog 11 #[.pointer (some ⟨s, 0, none⟩), .agg #[.int .i64 2, .int .i64 ds, .int .i64 di, .int .i64 dg, .int .i64 dm, .int .i64 dx, .int .i64 dy, .int .i64 dvx, .int .i64 dvy, .int .i64 dh, .int .i64 dp, .int .i64 dl, .int .i64 dm_]] V fun e V' => e = .returned (.int .i64 0) ∧ Sep w [stC s t2, box q1 (.cells #[.int .i64 ds, .int .i64 di, .int .i64 dg, .int .i64 xm, .int .i64 xx, .int .i64 xy, .int .i64 xvx, .int .i64 xvy, .int .i64 xh, .int .i64 xp, .int .i64 xl] 36), stR r t1, box w.heap.size (.cells #[.int .i64 2, .int .i64 ds, .int .i64 di, .int .i64 dg, .int .i64 dm, .int .i64 dx, .int .i64 dy, .int .i64 dvx, .int .i64 dvy, .int .i64 dh, .int .i64 dp, .int .i64 dl, .int .i64 dm_] DTY)] V') := Lib.hid fun q1 V hV => by
            have := (show Sep w [stC s t1, box q1 (.cells #[.int .i64 ds, .int .i64 di, .int .i64 dg, .int .i64 xm, .int .i64 xx, .int .i64 xy, .int .i64 xvx, .int .i64 xvy, .int .i64 xh, .int .i64 xp, .int .i64 xl] 36), stR r t1, box w.heap.size (.cells #[.int .i64 2, .int .i64 ds, .int .i64 di, .int .i64 dg, .int .i64 dm, .int .i64 dx, .int .i64 dy, .int .i64 dvx, .int .i64 dvy, .int .i64 dh, .int .i64 dp, .int .i64 dl, .int .i64 dm_] DTY)] V from hV.pull 1 rfl).do_ ⟨2, ⟨ds, di, dg, dm, dx, dy, dvx, dvy, dh, dp, dl⟩, dm_⟩ l1 (by decide)
            rw [hz, ← ht2] at this
            exact this
          have GU : Hid (∀ q1 V, Sep w [stC s t2, box q1 (.cells #[.int .i64 ds, .int .i64 di, .int .i64 dg, .int .i64 xm, .int .i64 xx, .int .i64 xy, .int .i64 xvx, .int .i64 xvy, .int .i64 xh, .int .i64 xp, .int .i64 xl] 36), stR r t1, box w.heap.size (.cells #[.int .i64 2, .int .i64 ds, .int .i64 di, .int .i64 dg, .int .i64 dm, .int .i64 dx, .int .i64 dy, .int .i64 dvx, .int .i64 dvy, .int .i64 dh, .int .i64 dp, .int .i64 dl, .int .i64 dm_] DTY)] V → Calls Try.prog 25 #[.pointer (some ⟨s, 0, none⟩), .agg #[.int .i64 ds, .int .i64 di, .int .i64 dg]] V fun e V' => e = .returned (.tuple #[.agg #[.int .i64 0, .int .i64 0, .int .i64 0, .int .i64 0, .int .i64 0, .int .i64 0, .int .i64 0, .int .i64 0, .int .i64 0, .int .i64 0, .int .i64 0], .bool false]) ∧ Sep w [box V'.heap.size (.cells #[.int .i64 0, .int .i64 0, .int .i64 0, .int .i64 0, .int .i64 0, .int .i64 0, .int .i64 0, .int .i64 0, .int .i64 0, .int .i64 0, .int .i64 0] 36), stC s t2, box q1 (.cells #[.int .i64 ds, .int .i64 di, .int .i64 dg, .int .i64 xm, .int .i64 xx, .int .i64 xy, .int .i64 xvx, .int .i64 xvy, .int .i64 xh, .int .i64 xp, .int .i64 xl] 36), stR r t1, box w.heap.size (.cells #[.int .i64 2, .int .i64 ds, .int .i64 di, .int .i64 dg, .int .i64 dm, .int .i64 dx, .int .i64 dy, .int .i64 dvx, .int .i64 dvy, .int .i64 dh, .int .i64 dp, .int .i64 dl, .int .i64 dm_] DTY)] (V'.alloc (.cells #[.int .i64 0, .int .i64 0, .int .i64 0, .int .i64 0, .int .i64 0, .int .i64 0, .int .i64 0, .int .i64 0, .int .i64 0, .int .i64 0, .int .i64 0] 36))) := Lib.hid fun q1 V hV => by
            have := hV.sget 0 rfl ds di dg
            rw [g2] at this
            exact this.mono fun e V' ⟨a, b⟩ => ⟨a, sep_box b _⟩
          have LU : Hid (∀ q1 q2 V, Sep w [box q2 (.cells #[.int .i64 0, .int .i64 0, .int .i64 0, .int .i64 0, .int .i64 0, .int .i64 0, .int .i64 0, .int .i64 0, .int .i64 0, .int .i64 0, .int .i64 0] 36), stC s t2, box q1 (.cells #[.int .i64 ds, .int .i64 di, .int .i64 dg, .int .i64 xm, .int .i64 xx, .int .i64 xy, .int .i64 xvx, .int .i64 xvy, .int .i64 xh, .int .i64 xp, .int .i64 xl] 36), stR r t1, box w.heap.size (.cells #[.int .i64 2, .int .i64 ds, .int .i64 di, .int .i64 dg, .int .i64 dm, .int .i64 dx, .int .i64 dy, .int .i64 dvx, .int .i64 dvy, .int .i64 dh, .int .i64 dp, .int .i64 dl, .int .i64 dm_] DTY)] V → Calls Try.prog 24 #[.pointer (some ⟨s, 0, none⟩)] V fun e V' => e = .returned (.int .i64 (N - 1)) ∧ V = V') := Lib.hid fun q1 q2 V hV => by
            have := hV.len 1 rfl
            rw [hL] at this
            exact this
          clear hz ht2 g1 g2 hL l1 AL
          go_wp2_with (first
            | (go_at_call 24; refine (LN.out _ HQ.out).mono ?_; rintro e w8 ⟨rfl, rfl⟩; clear LN)
            | (go_at_call 25; refine (GT.out _ HQ.out).mono ?_; rintro e w9 ⟨rfl, h9⟩; clear GT HQ e0 e1 e2 e3 e4 e5 e6 e7 e8 e9 e10 e11 e12; obtain ⟨e0, e1, e2, e3, e4, e5, e6, e7, e8, e9, e10, e11, e12⟩ := (Bx.b13 (h9.held 3 rfl)).1)
            | (go_at_call 11; refine (DO.out _ _ h9).mono ?_; rintro e w10 ⟨rfl, h10⟩; clear DO h9 e0 e1 e2 e3 e4 e5 e6 e7 e8 e9 e10 e11 e12; obtain ⟨e0, e1, e2, e3, e4, e5, e6, e7, e8, e9, e10, e11, e12⟩ := (Bx.b13 (h10.held 3 rfl)).1)
            | (go_at_call 25; refine (GU.out _ _ h10).mono ?_; rintro e w11 ⟨rfl, h11⟩; clear GU h10 e0 e1 e2 e3 e4 e5 e6 e7 e8 e9 e10 e11 e12; obtain ⟨e0, e1, e2, e3, e4, e5, e6, e7, e8, e9, e10, e11, e12⟩ := (Bx.b13 (h11.held 4 rfl)).1; obtain ⟨n0, n1, n2, n3, n4, n5, n6, n7, n8, n9, n10⟩ := (Bx.b11 (h11.held 0 rfl)).1)
            | (go_at_call 24; refine (LU.out _ _ _ h11).mono ?_; rintro e w12 ⟨rfl, rfl⟩; clear LU)
            | (go_at_call 14; refine (AW.out _).mono ?_; rintro e w13 ⟨rfl, b13⟩; clear AW))
          go_ret
          exact ⟨rfl, h11.bel.trans (b13.mono h11.bel.size)⟩
        · have hk' : dk = 3 := hk
          clear DY DZ gg hk
          subst hk'
          obtain ⟨t2, ht2⟩ : ∃ t, t = (bdo t1 ⟨3, ⟨ds, di, dg, dm, dx, dy, dvx, dvy, dh, dp, dl⟩, dm_⟩).1 := ⟨_, rfl⟩
          rw [← ht2] at g2 hL
          simp only [Bn.id] at g1 g2
          replace hL : (total t2 : Int) = N := by rw [hL, hN]
          have WX0 : ∀ V, Calls Try.prog 26 #[x.val, .agg #[.int .i64 ds, .int .i64 di, .int .i64 dg, .int .i64 dm, .int .i64 dx, .int .i64 dy, .int .i64 dvx, .int .i64 dvy, .int .i64 dh, .int .i64 dp, .int .i64 dl]] V fun e V' => e = .returned (withB x ⟨ds, di, dg, dm, dx, dy, dvx, dvy, dh, dp, dl⟩).val ∧ Below V.heap.size V V' := fun V => rwith_any x ⟨ds, di, dg, dm, dx, dy, dvx, dvy, dh, dp, dl⟩ dF1 V
          generalize withB x ⟨ds, di, dg, dm, dx, dy, dvx, dvy, dh, dp, dl⟩ = y at *
          have e2 := get_id g1
          have ey := get_id g2
          rw [e2] at g1
          rw [ey] at g2
          rw [e2, ey] at WX0
          simp only [Bn.val] at WX0
          have WX := Lib.hid WX0
          clear WX0 e2 ey
          generalize x.m = xm at *
          generalize x.x = xx at *
          generalize x.y = xy at *
          generalize x.vx = xvx at *
          generalize x.vy = xvy at *
          generalize x.h = xh at *
          generalize x.p = xp at *
          generalize x.l = xl at *
          generalize y.m = ym at *
          generalize y.x = yx at *
          generalize y.y = yy at *
          generalize y.vx = yvx at *
          generalize y.vy = yvy at *
          generalize y.h = yh at *
          generalize y.p = yp at *
          generalize y.l = yl at *
          clear x y
          have GT : Hid (∀ V, Sep w [stC s t1, stR r t1, box w.heap.size (.cells #[.int .i64 3, .int .i64 ds, .int .i64 di, .int .i64 dg, .int .i64 dm, .int .i64 dx, .int .i64 dy, .int .i64 dvx, .int .i64 dvy, .int .i64 dh, .int .i64 dp, .int .i64 dl, .int .i64 dm_] DTY)] V → Calls Try.prog 25 #[.pointer (some ⟨s, 0, none⟩), .agg #[.int .i64 ds, .int .i64 di, .int .i64 dg]] V fun e V' => e = .returned (.tuple #[.agg #[.int .i64 ds, .int .i64 di, .int .i64 dg, .int .i64 xm, .int .i64 xx, .int .i64 xy, .int .i64 xvx, .int .i64 xvy, .int .i64 xh, .int .i64 xp, .int .i64 xl], .bool true]) ∧ Sep w [box V'.heap.size (.cells #[.int .i64 ds, .int .i64 di, .int .i64 dg, .int .i64 xm, .int .i64 xx, .int .i64 xy, .int .i64 xvx, .int .i64 xvy, .int .i64 xh, .int .i64 xp, .int .i64 xl] 36), stC s t1, stR r t1, box w.heap.size (.cells #[.int .i64 3, .int .i64 ds, .int .i64 di, .int .i64 dg, .int .i64 dm, .int .i64 dx, .int .i64 dy, .int .i64 dvx, .int .i64 dvy, .int .i64 dh, .int .i64 dp, .int .i64 dl, .int .i64 dm_] DTY)] (V'.alloc (.cells #[.int .i64 ds, .int .i64 di, .int .i64 dg, .int .i64 xm, .int .i64 xx, .int .i64 xy, .int .i64 xvx, .int .i64 xvy, .int .i64 xh, .int .i64 xp, .int .i64 xl] 36))) := Lib.hid fun V hV => by
            have := hV.sget 0 rfl ds di dg
            rw [g1] at this
            exact this.mono fun e V' ⟨a, b⟩ => ⟨a, sep_box b _⟩
          have DO : Hid (∀ q1 V, Sep w [box q1 (.cells #[.int .i64 ds, .int .i64 di, .int .i64 dg, .int .i64 xm, .int .i64 xx, .int .i64 xy, .int .i64 xvx, .int .i64 xvy, .int .i64 xh, .int .i64 xp, .int .i64 xl] 36), stC s t1, stR r t1, box w.heap.size (.cells #[.int .i64 3, .int .i64 ds, .int .i64 di, .int .i64 dg, .int .i64 dm, .int .i64 dx, .int .i64 dy, .int .i64 dvx, .int .i64 dvy, .int .i64 dh, .int .i64 dp, .int .i64 dl, .int .i64 dm_] DTY)] V → Calls Try.prog 11 #[.pointer (some ⟨s, 0, none⟩), .agg #[.int .i64 3, .int .i64 ds, .int .i64 di, .int .i64 dg, .int .i64 dm, .int .i64 dx, .int .i64 dy, .int .i64 dvx, .int .i64 dvy, .int .i64 dh, .int .i64 dp, .int .i64 dl, .int .i64 dm_]] V fun e V' => e = .returned (.int .i64 0) ∧ Sep w [stC s t2, box q1 (.cells #[.int .i64 ds, .int .i64 di, .int .i64 dg, .int .i64 xm, .int .i64 xx, .int .i64 xy, .int .i64 xvx, .int .i64 xvy, .int .i64 xh, .int .i64 xp, .int .i64 xl] 36), stR r t1, box w.heap.size (.cells #[.int .i64 3, .int .i64 ds, .int .i64 di, .int .i64 dg, .int .i64 dm, .int .i64 dx, .int .i64 dy, .int .i64 dvx, .int .i64 dvy, .int .i64 dh, .int .i64 dp, .int .i64 dl, .int .i64 dm_] DTY)] V') := Lib.hid fun q1 V hV => by
            have := (show Sep w [stC s t1, box q1 (.cells #[.int .i64 ds, .int .i64 di, .int .i64 dg, .int .i64 xm, .int .i64 xx, .int .i64 xy, .int .i64 xvx, .int .i64 xvy, .int .i64 xh, .int .i64 xp, .int .i64 xl] 36), stR r t1, box w.heap.size (.cells #[.int .i64 3, .int .i64 ds, .int .i64 di, .int .i64 dg, .int .i64 dm, .int .i64 dx, .int .i64 dy, .int .i64 dvx, .int .i64 dvy, .int .i64 dh, .int .i64 dp, .int .i64 dl, .int .i64 dm_] DTY)] V from hV.pull 1 rfl).do_ ⟨3, ⟨ds, di, dg, dm, dx, dy, dvx, dvy, dh, dp, dl⟩, dm_⟩ l1 (by decide)
            rw [hz, ← ht2] at this
            exact this
          have GU : Hid (∀ q1 V, Sep w [stC s t2, box q1 (.cells #[.int .i64 ds, .int .i64 di, .int .i64 dg, .int .i64 xm, .int .i64 xx, .int .i64 xy, .int .i64 xvx, .int .i64 xvy, .int .i64 xh, .int .i64 xp, .int .i64 xl] 36), stR r t1, box w.heap.size (.cells #[.int .i64 3, .int .i64 ds, .int .i64 di, .int .i64 dg, .int .i64 dm, .int .i64 dx, .int .i64 dy, .int .i64 dvx, .int .i64 dvy, .int .i64 dh, .int .i64 dp, .int .i64 dl, .int .i64 dm_] DTY)] V → Calls Try.prog 25 #[.pointer (some ⟨s, 0, none⟩), .agg #[.int .i64 ds, .int .i64 di, .int .i64 dg]] V fun e V' => e = .returned (.tuple #[.agg #[.int .i64 ds, .int .i64 di, .int .i64 dg, .int .i64 ym, .int .i64 yx, .int .i64 yy, .int .i64 yvx, .int .i64 yvy, .int .i64 yh, .int .i64 yp, .int .i64 yl], .bool true]) ∧ Sep w [box V'.heap.size (.cells #[.int .i64 ds, .int .i64 di, .int .i64 dg, .int .i64 ym, .int .i64 yx, .int .i64 yy, .int .i64 yvx, .int .i64 yvy, .int .i64 yh, .int .i64 yp, .int .i64 yl] 36), stC s t2, box q1 (.cells #[.int .i64 ds, .int .i64 di, .int .i64 dg, .int .i64 xm, .int .i64 xx, .int .i64 xy, .int .i64 xvx, .int .i64 xvy, .int .i64 xh, .int .i64 xp, .int .i64 xl] 36), stR r t1, box w.heap.size (.cells #[.int .i64 3, .int .i64 ds, .int .i64 di, .int .i64 dg, .int .i64 dm, .int .i64 dx, .int .i64 dy, .int .i64 dvx, .int .i64 dvy, .int .i64 dh, .int .i64 dp, .int .i64 dl, .int .i64 dm_] DTY)] (V'.alloc (.cells #[.int .i64 ds, .int .i64 di, .int .i64 dg, .int .i64 ym, .int .i64 yx, .int .i64 yy, .int .i64 yvx, .int .i64 yvy, .int .i64 yh, .int .i64 yp, .int .i64 yl] 36))) := Lib.hid fun q1 V hV => by
            have := hV.sget 0 rfl ds di dg
            rw [g2] at this
            exact this.mono fun e V' ⟨a, b⟩ => ⟨a, sep_box b _⟩
          have LU : Hid (∀ q1 q2 V, Sep w [box q2 (.cells #[.int .i64 ds, .int .i64 di, .int .i64 dg, .int .i64 ym, .int .i64 yx, .int .i64 yy, .int .i64 yvx, .int .i64 yvy, .int .i64 yh, .int .i64 yp, .int .i64 yl] 36), stC s t2, box q1 (.cells #[.int .i64 ds, .int .i64 di, .int .i64 dg, .int .i64 xm, .int .i64 xx, .int .i64 xy, .int .i64 xvx, .int .i64 xvy, .int .i64 xh, .int .i64 xp, .int .i64 xl] 36), stR r t1, box w.heap.size (.cells #[.int .i64 3, .int .i64 ds, .int .i64 di, .int .i64 dg, .int .i64 dm, .int .i64 dx, .int .i64 dy, .int .i64 dvx, .int .i64 dvy, .int .i64 dh, .int .i64 dp, .int .i64 dl, .int .i64 dm_] DTY)] V → Calls Try.prog 24 #[.pointer (some ⟨s, 0, none⟩)] V fun e V' => e = .returned (.int .i64 (N)) ∧ V = V') := Lib.hid fun q1 q2 V hV => by
            have := hV.len 1 rfl
            rw [hL] at this
            exact this
          have CL : Hid (∀ q1 q2 V, Sep w [box q2 (.cells #[.int .i64 ds, .int .i64 di, .int .i64 dg, .int .i64 ym, .int .i64 yx, .int .i64 yy, .int .i64 yvx, .int .i64 yvy, .int .i64 yh, .int .i64 yp, .int .i64 yl] 36), stC s t2, box q1 (.cells #[.int .i64 ds, .int .i64 di, .int .i64 dg, .int .i64 xm, .int .i64 xx, .int .i64 xy, .int .i64 xvx, .int .i64 xvy, .int .i64 xh, .int .i64 xp, .int .i64 xl] 36), stR r t1, box w.heap.size (.cells #[.int .i64 3, .int .i64 ds, .int .i64 di, .int .i64 dg, .int .i64 dm, .int .i64 dx, .int .i64 dy, .int .i64 dvx, .int .i64 dvy, .int .i64 dh, .int .i64 dp, .int .i64 dl, .int .i64 dm_] DTY)] V → (V.cell? ⟨q2, 0, none⟩ = some (.int .i64 ds) ∧ V.cell? ⟨q2, 1, none⟩ = some (.int .i64 di) ∧ V.cell? ⟨q2, 2, none⟩ = some (.int .i64 dg) ∧ V.cell? ⟨q2, 3, none⟩ = some (.int .i64 ym) ∧ V.cell? ⟨q2, 4, none⟩ = some (.int .i64 yx) ∧ V.cell? ⟨q2, 5, none⟩ = some (.int .i64 yy) ∧ V.cell? ⟨q2, 6, none⟩ = some (.int .i64 yvx) ∧ V.cell? ⟨q2, 7, none⟩ = some (.int .i64 yvy) ∧ V.cell? ⟨q2, 8, none⟩ = some (.int .i64 yh) ∧ V.cell? ⟨q2, 9, none⟩ = some (.int .i64 yp) ∧ V.cell? ⟨q2, 10, none⟩ = some (.int .i64 yl)) ∧ (V.cell? ⟨q1, 0, none⟩ = some (.int .i64 ds) ∧ V.cell? ⟨q1, 1, none⟩ = some (.int .i64 di) ∧ V.cell? ⟨q1, 2, none⟩ = some (.int .i64 dg) ∧ V.cell? ⟨q1, 3, none⟩ = some (.int .i64 xm) ∧ V.cell? ⟨q1, 4, none⟩ = some (.int .i64 xx) ∧ V.cell? ⟨q1, 5, none⟩ = some (.int .i64 xy) ∧ V.cell? ⟨q1, 6, none⟩ = some (.int .i64 xvx) ∧ V.cell? ⟨q1, 7, none⟩ = some (.int .i64 xvy) ∧ V.cell? ⟨q1, 8, none⟩ = some (.int .i64 xh) ∧ V.cell? ⟨q1, 9, none⟩ = some (.int .i64 xp) ∧ V.cell? ⟨q1, 10, none⟩ = some (.int .i64 xl)) ∧ (V.cell? ⟨w.heap.size, 0, none⟩ = some (.int .i64 3) ∧ V.cell? ⟨w.heap.size, 1, none⟩ = some (.int .i64 ds) ∧ V.cell? ⟨w.heap.size, 2, none⟩ = some (.int .i64 di) ∧ V.cell? ⟨w.heap.size, 3, none⟩ = some (.int .i64 dg) ∧ V.cell? ⟨w.heap.size, 4, none⟩ = some (.int .i64 dm) ∧ V.cell? ⟨w.heap.size, 5, none⟩ = some (.int .i64 dx) ∧ V.cell? ⟨w.heap.size, 6, none⟩ = some (.int .i64 dy) ∧ V.cell? ⟨w.heap.size, 7, none⟩ = some (.int .i64 dvx) ∧ V.cell? ⟨w.heap.size, 8, none⟩ = some (.int .i64 dvy) ∧ V.cell? ⟨w.heap.size, 9, none⟩ = some (.int .i64 dh) ∧ V.cell? ⟨w.heap.size, 10, none⟩ = some (.int .i64 dp) ∧ V.cell? ⟨w.heap.size, 11, none⟩ = some (.int .i64 dl) ∧ V.cell? ⟨w.heap.size, 12, none⟩ = some (.int .i64 dm_))) := Lib.hid fun q1 q2 V hV => ⟨(Bx.b11 (hV.held 0 rfl)).1, (Bx.b11 (hV.held 2 rfl)).1, (Bx.b13 (hV.held 4 rfl)).1⟩
          have EQ := eq_bundle_d 9997 ds di dg ym yx yy yvx yvy yh yp yl
          simp at EQ
          clear hz ht2 g1 g2 hL l1 AL
          go_upto_region 19 with (first
            | (go_at_call 24; refine (LN.out _ HQ.out).mono ?_; rintro e w8 ⟨rfl, rfl⟩; clear LN)
            | (go_at_call 25; refine (GT.out _ HQ.out).mono ?_; rintro e w9 ⟨rfl, h9⟩; clear GT HQ e0 e1 e2 e3 e4 e5 e6 e7 e8 e9 e10 e11 e12; obtain ⟨e0, e1, e2, e3, e4, e5, e6, e7, e8, e9, e10, e11, e12⟩ := (Bx.b13 (h9.held 3 rfl)).1)
            | (go_at_call 11; refine (DO.out _ _ h9).mono ?_; rintro e w10 ⟨rfl, h10⟩; clear DO h9 e0 e1 e2 e3 e4 e5 e6 e7 e8 e9 e10 e11 e12; obtain ⟨e0, e1, e2, e3, e4, e5, e6, e7, e8, e9, e10, e11, e12⟩ := (Bx.b13 (h10.held 3 rfl)).1)
            | (go_at_call 25; refine (GU.out _ _ h10).mono ?_; rintro e w11 ⟨rfl, h11'⟩; have h11 := h11'; clear h11'; clear GU h10 e0 e1 e2 e3 e4 e5 e6 e7 e8 e9 e10 e11 e12; obtain ⟨e0, e1, e2, e3, e4, e5, e6, e7, e8, e9, e10, e11, e12⟩ := (Bx.b13 (h11.held 4 rfl)).1; obtain ⟨n0, n1, n2, n3, n4, n5, n6, n7, n8, n9, n10⟩ := (Bx.b11 (h11.held 0 rfl)).1))
          have HX := h11
          clear h11 e0 e1 e2 e3 e4 e5 e6 e7 e8 e9 e10 e11 e12 n0 n1 n2 n3 n4 n5 n6 n7 n8 n9 n10
          generalize w9.heap.size = q1 at *
          generalize w11.heap.size = q2 at *
          generalize w11.alloc (.cells #[.int .i64 ds, .int .i64 di, .int .i64 dg, .int .i64 ym, .int .i64 yx, .int .i64 yy, .int .i64 yvx, .int .i64 yvy, .int .i64 yh, .int .i64 yp, .int .i64 yl] 36) = W2 at *
          obtain ⟨⟨n0, n1, n2, n3, n4, n5, n6, n7, n8, n9, n10⟩, ⟨m0, m1, m2, m3, m4, m5, m6, m7, m8, m9, m10⟩, ⟨e0, e1, e2, e3, e4, e5, e6, e7, e8, e9, e10, e11, e12⟩⟩ := CL.out _ _ _ HX
          go_region_held3 (fun W' => (W'.cell? ⟨q2, 0, none⟩ = some (.int .i64 ds) ∧ W'.cell? ⟨q2, 1, none⟩ = some (.int .i64 di) ∧ W'.cell? ⟨q2, 2, none⟩ = some (.int .i64 dg) ∧ W'.cell? ⟨q2, 3, none⟩ = some (.int .i64 ym) ∧ W'.cell? ⟨q2, 4, none⟩ = some (.int .i64 yx) ∧ W'.cell? ⟨q2, 5, none⟩ = some (.int .i64 yy) ∧ W'.cell? ⟨q2, 6, none⟩ = some (.int .i64 yvx) ∧ W'.cell? ⟨q2, 7, none⟩ = some (.int .i64 yvy) ∧ W'.cell? ⟨q2, 8, none⟩ = some (.int .i64 yh) ∧ W'.cell? ⟨q2, 9, none⟩ = some (.int .i64 yp) ∧ W'.cell? ⟨q2, 10, none⟩ = some (.int .i64 yl)) ∧ (W'.cell? ⟨q1, 0, none⟩ = some (.int .i64 ds) ∧ W'.cell? ⟨q1, 1, none⟩ = some (.int .i64 di) ∧ W'.cell? ⟨q1, 2, none⟩ = some (.int .i64 dg) ∧ W'.cell? ⟨q1, 3, none⟩ = some (.int .i64 xm) ∧ W'.cell? ⟨q1, 4, none⟩ = some (.int .i64 xx) ∧ W'.cell? ⟨q1, 5, none⟩ = some (.int .i64 xy) ∧ W'.cell? ⟨q1, 6, none⟩ = some (.int .i64 xvx) ∧ W'.cell? ⟨q1, 7, none⟩ = some (.int .i64 xvy) ∧ W'.cell? ⟨q1, 8, none⟩ = some (.int .i64 xh) ∧ W'.cell? ⟨q1, 9, none⟩ = some (.int .i64 xp) ∧ W'.cell? ⟨q1, 10, none⟩ = some (.int .i64 xl)) ∧ (W'.cell? ⟨w.heap.size, 0, none⟩ = some (.int .i64 3) ∧ W'.cell? ⟨w.heap.size, 1, none⟩ = some (.int .i64 ds) ∧ W'.cell? ⟨w.heap.size, 2, none⟩ = some (.int .i64 di) ∧ W'.cell? ⟨w.heap.size, 3, none⟩ = some (.int .i64 dg) ∧ W'.cell? ⟨w.heap.size, 4, none⟩ = some (.int .i64 dm) ∧ W'.cell? ⟨w.heap.size, 5, none⟩ = some (.int .i64 dx) ∧ W'.cell? ⟨w.heap.size, 6, none⟩ = some (.int .i64 dy) ∧ W'.cell? ⟨w.heap.size, 7, none⟩ = some (.int .i64 dvx) ∧ W'.cell? ⟨w.heap.size, 8, none⟩ = some (.int .i64 dvy) ∧ W'.cell? ⟨w.heap.size, 9, none⟩ = some (.int .i64 dh) ∧ W'.cell? ⟨w.heap.size, 10, none⟩ = some (.int .i64 dp) ∧ W'.cell? ⟨w.heap.size, 11, none⟩ = some (.int .i64 dl) ∧ W'.cell? ⟨w.heap.size, 12, none⟩ = some (.int .i64 dm_)))
            (first | (exact CL.out _ _ _ h16) | (exact CL.out _ _ _ h15) | (exact CL.out _ _ _ HX.drew))
            (first
              | (go_at_call 26; refine (WX.out _).mono ?_; rintro e w15 ⟨rfl, b15⟩; have h15 := HX.drew.below b15)
              | (go_at_call 24; refine (LU.out _ _ _ h15).mono ?_; rintro e w17 ⟨rfl, rfl⟩)
              | (go_at_call 14; refine (AW.out _).mono ?_; rintro e w16 ⟨rfl, b16⟩; have h16 := h15.below b16))
          all_goals
            go_wp2
            go_ret
            exact ⟨rfl, h16.bel⟩
        · have hk' : dk = 4 := hk
          clear DY DZ gg hk
          subst hk'
          obtain ⟨t2, ht2⟩ : ∃ t, t = (bdo t1 ⟨4, ⟨ds, di, dg, dm, dx, dy, dvx, dvy, dh, dp, dl⟩, dm_⟩).1 := ⟨_, rfl⟩
          rw [← ht2] at g2 hL
          simp only [Bn.id] at g1 g2
          replace hL : (total t2 : Int) = N := by rw [hL, hN]
          have WX0 : ∀ V, Calls Try.prog 27 #[x.val, .int .i64 dm_] V fun e V' => e = .returned (withoutB x dm_).val ∧ Below V.heap.size V V' := fun V => rwithout_any x dm_ dF2 V
          generalize withoutB x dm_ = y at *
          have e2 := get_id g1
          have ey := get_id g2
          rw [e2] at g1
          rw [ey] at g2
          rw [e2, ey] at WX0
          simp only [Bn.val] at WX0
          have WX := Lib.hid WX0
          clear WX0 e2 ey
          generalize x.m = xm at *
          generalize x.x = xx at *
          generalize x.y = xy at *
          generalize x.vx = xvx at *
          generalize x.vy = xvy at *
          generalize x.h = xh at *
          generalize x.p = xp at *
          generalize x.l = xl at *
          generalize y.m = ym at *
          generalize y.x = yx at *
          generalize y.y = yy at *
          generalize y.vx = yvx at *
          generalize y.vy = yvy at *
          generalize y.h = yh at *
          generalize y.p = yp at *
          generalize y.l = yl at *
          clear x y
          have GT : Hid (∀ V, Sep w [stC s t1, stR r t1, box w.heap.size (.cells #[.int .i64 4, .int .i64 ds, .int .i64 di, .int .i64 dg, .int .i64 dm, .int .i64 dx, .int .i64 dy, .int .i64 dvx, .int .i64 dvy, .int .i64 dh, .int .i64 dp, .int .i64 dl, .int .i64 dm_] DTY)] V → Calls Try.prog 25 #[.pointer (some ⟨s, 0, none⟩), .agg #[.int .i64 ds, .int .i64 di, .int .i64 dg]] V fun e V' => e = .returned (.tuple #[.agg #[.int .i64 ds, .int .i64 di, .int .i64 dg, .int .i64 xm, .int .i64 xx, .int .i64 xy, .int .i64 xvx, .int .i64 xvy, .int .i64 xh, .int .i64 xp, .int .i64 xl], .bool true]) ∧ Sep w [box V'.heap.size (.cells #[.int .i64 ds, .int .i64 di, .int .i64 dg, .int .i64 xm, .int .i64 xx, .int .i64 xy, .int .i64 xvx, .int .i64 xvy, .int .i64 xh, .int .i64 xp, .int .i64 xl] 36), stC s t1, stR r t1, box w.heap.size (.cells #[.int .i64 4, .int .i64 ds, .int .i64 di, .int .i64 dg, .int .i64 dm, .int .i64 dx, .int .i64 dy, .int .i64 dvx, .int .i64 dvy, .int .i64 dh, .int .i64 dp, .int .i64 dl, .int .i64 dm_] DTY)] (V'.alloc (.cells #[.int .i64 ds, .int .i64 di, .int .i64 dg, .int .i64 xm, .int .i64 xx, .int .i64 xy, .int .i64 xvx, .int .i64 xvy, .int .i64 xh, .int .i64 xp, .int .i64 xl] 36))) := Lib.hid fun V hV => by
            have := hV.sget 0 rfl ds di dg
            rw [g1] at this
            exact this.mono fun e V' ⟨a, b⟩ => ⟨a, sep_box b _⟩
          have DO : Hid (∀ q1 V, Sep w [box q1 (.cells #[.int .i64 ds, .int .i64 di, .int .i64 dg, .int .i64 xm, .int .i64 xx, .int .i64 xy, .int .i64 xvx, .int .i64 xvy, .int .i64 xh, .int .i64 xp, .int .i64 xl] 36), stC s t1, stR r t1, box w.heap.size (.cells #[.int .i64 4, .int .i64 ds, .int .i64 di, .int .i64 dg, .int .i64 dm, .int .i64 dx, .int .i64 dy, .int .i64 dvx, .int .i64 dvy, .int .i64 dh, .int .i64 dp, .int .i64 dl, .int .i64 dm_] DTY)] V → Calls Try.prog 11 #[.pointer (some ⟨s, 0, none⟩), .agg #[.int .i64 4, .int .i64 ds, .int .i64 di, .int .i64 dg, .int .i64 dm, .int .i64 dx, .int .i64 dy, .int .i64 dvx, .int .i64 dvy, .int .i64 dh, .int .i64 dp, .int .i64 dl, .int .i64 dm_]] V fun e V' => e = .returned (.int .i64 0) ∧ Sep w [stC s t2, box q1 (.cells #[.int .i64 ds, .int .i64 di, .int .i64 dg, .int .i64 xm, .int .i64 xx, .int .i64 xy, .int .i64 xvx, .int .i64 xvy, .int .i64 xh, .int .i64 xp, .int .i64 xl] 36), stR r t1, box w.heap.size (.cells #[.int .i64 4, .int .i64 ds, .int .i64 di, .int .i64 dg, .int .i64 dm, .int .i64 dx, .int .i64 dy, .int .i64 dvx, .int .i64 dvy, .int .i64 dh, .int .i64 dp, .int .i64 dl, .int .i64 dm_] DTY)] V') := Lib.hid fun q1 V hV => by
            have := (show Sep w [stC s t1, box q1 (.cells #[.int .i64 ds, .int .i64 di, .int .i64 dg, .int .i64 xm, .int .i64 xx, .int .i64 xy, .int .i64 xvx, .int .i64 xvy, .int .i64 xh, .int .i64 xp, .int .i64 xl] 36), stR r t1, box w.heap.size (.cells #[.int .i64 4, .int .i64 ds, .int .i64 di, .int .i64 dg, .int .i64 dm, .int .i64 dx, .int .i64 dy, .int .i64 dvx, .int .i64 dvy, .int .i64 dh, .int .i64 dp, .int .i64 dl, .int .i64 dm_] DTY)] V from hV.pull 1 rfl).do_ ⟨4, ⟨ds, di, dg, dm, dx, dy, dvx, dvy, dh, dp, dl⟩, dm_⟩ l1 (by decide)
            rw [hz, ← ht2] at this
            exact this
          have GU : Hid (∀ q1 V, Sep w [stC s t2, box q1 (.cells #[.int .i64 ds, .int .i64 di, .int .i64 dg, .int .i64 xm, .int .i64 xx, .int .i64 xy, .int .i64 xvx, .int .i64 xvy, .int .i64 xh, .int .i64 xp, .int .i64 xl] 36), stR r t1, box w.heap.size (.cells #[.int .i64 4, .int .i64 ds, .int .i64 di, .int .i64 dg, .int .i64 dm, .int .i64 dx, .int .i64 dy, .int .i64 dvx, .int .i64 dvy, .int .i64 dh, .int .i64 dp, .int .i64 dl, .int .i64 dm_] DTY)] V → Calls Try.prog 25 #[.pointer (some ⟨s, 0, none⟩), .agg #[.int .i64 ds, .int .i64 di, .int .i64 dg]] V fun e V' => e = .returned (.tuple #[.agg #[.int .i64 ds, .int .i64 di, .int .i64 dg, .int .i64 ym, .int .i64 yx, .int .i64 yy, .int .i64 yvx, .int .i64 yvy, .int .i64 yh, .int .i64 yp, .int .i64 yl], .bool true]) ∧ Sep w [box V'.heap.size (.cells #[.int .i64 ds, .int .i64 di, .int .i64 dg, .int .i64 ym, .int .i64 yx, .int .i64 yy, .int .i64 yvx, .int .i64 yvy, .int .i64 yh, .int .i64 yp, .int .i64 yl] 36), stC s t2, box q1 (.cells #[.int .i64 ds, .int .i64 di, .int .i64 dg, .int .i64 xm, .int .i64 xx, .int .i64 xy, .int .i64 xvx, .int .i64 xvy, .int .i64 xh, .int .i64 xp, .int .i64 xl] 36), stR r t1, box w.heap.size (.cells #[.int .i64 4, .int .i64 ds, .int .i64 di, .int .i64 dg, .int .i64 dm, .int .i64 dx, .int .i64 dy, .int .i64 dvx, .int .i64 dvy, .int .i64 dh, .int .i64 dp, .int .i64 dl, .int .i64 dm_] DTY)] (V'.alloc (.cells #[.int .i64 ds, .int .i64 di, .int .i64 dg, .int .i64 ym, .int .i64 yx, .int .i64 yy, .int .i64 yvx, .int .i64 yvy, .int .i64 yh, .int .i64 yp, .int .i64 yl] 36))) := Lib.hid fun q1 V hV => by
            have := hV.sget 0 rfl ds di dg
            rw [g2] at this
            exact this.mono fun e V' ⟨a, b⟩ => ⟨a, sep_box b _⟩
          have LU : Hid (∀ q1 q2 V, Sep w [box q2 (.cells #[.int .i64 ds, .int .i64 di, .int .i64 dg, .int .i64 ym, .int .i64 yx, .int .i64 yy, .int .i64 yvx, .int .i64 yvy, .int .i64 yh, .int .i64 yp, .int .i64 yl] 36), stC s t2, box q1 (.cells #[.int .i64 ds, .int .i64 di, .int .i64 dg, .int .i64 xm, .int .i64 xx, .int .i64 xy, .int .i64 xvx, .int .i64 xvy, .int .i64 xh, .int .i64 xp, .int .i64 xl] 36), stR r t1, box w.heap.size (.cells #[.int .i64 4, .int .i64 ds, .int .i64 di, .int .i64 dg, .int .i64 dm, .int .i64 dx, .int .i64 dy, .int .i64 dvx, .int .i64 dvy, .int .i64 dh, .int .i64 dp, .int .i64 dl, .int .i64 dm_] DTY)] V → Calls Try.prog 24 #[.pointer (some ⟨s, 0, none⟩)] V fun e V' => e = .returned (.int .i64 (N)) ∧ V = V') := Lib.hid fun q1 q2 V hV => by
            have := hV.len 1 rfl
            rw [hL] at this
            exact this
          have CL : Hid (∀ q1 q2 V, Sep w [box q2 (.cells #[.int .i64 ds, .int .i64 di, .int .i64 dg, .int .i64 ym, .int .i64 yx, .int .i64 yy, .int .i64 yvx, .int .i64 yvy, .int .i64 yh, .int .i64 yp, .int .i64 yl] 36), stC s t2, box q1 (.cells #[.int .i64 ds, .int .i64 di, .int .i64 dg, .int .i64 xm, .int .i64 xx, .int .i64 xy, .int .i64 xvx, .int .i64 xvy, .int .i64 xh, .int .i64 xp, .int .i64 xl] 36), stR r t1, box w.heap.size (.cells #[.int .i64 4, .int .i64 ds, .int .i64 di, .int .i64 dg, .int .i64 dm, .int .i64 dx, .int .i64 dy, .int .i64 dvx, .int .i64 dvy, .int .i64 dh, .int .i64 dp, .int .i64 dl, .int .i64 dm_] DTY)] V → (V.cell? ⟨q2, 0, none⟩ = some (.int .i64 ds) ∧ V.cell? ⟨q2, 1, none⟩ = some (.int .i64 di) ∧ V.cell? ⟨q2, 2, none⟩ = some (.int .i64 dg) ∧ V.cell? ⟨q2, 3, none⟩ = some (.int .i64 ym) ∧ V.cell? ⟨q2, 4, none⟩ = some (.int .i64 yx) ∧ V.cell? ⟨q2, 5, none⟩ = some (.int .i64 yy) ∧ V.cell? ⟨q2, 6, none⟩ = some (.int .i64 yvx) ∧ V.cell? ⟨q2, 7, none⟩ = some (.int .i64 yvy) ∧ V.cell? ⟨q2, 8, none⟩ = some (.int .i64 yh) ∧ V.cell? ⟨q2, 9, none⟩ = some (.int .i64 yp) ∧ V.cell? ⟨q2, 10, none⟩ = some (.int .i64 yl)) ∧ (V.cell? ⟨q1, 0, none⟩ = some (.int .i64 ds) ∧ V.cell? ⟨q1, 1, none⟩ = some (.int .i64 di) ∧ V.cell? ⟨q1, 2, none⟩ = some (.int .i64 dg) ∧ V.cell? ⟨q1, 3, none⟩ = some (.int .i64 xm) ∧ V.cell? ⟨q1, 4, none⟩ = some (.int .i64 xx) ∧ V.cell? ⟨q1, 5, none⟩ = some (.int .i64 xy) ∧ V.cell? ⟨q1, 6, none⟩ = some (.int .i64 xvx) ∧ V.cell? ⟨q1, 7, none⟩ = some (.int .i64 xvy) ∧ V.cell? ⟨q1, 8, none⟩ = some (.int .i64 xh) ∧ V.cell? ⟨q1, 9, none⟩ = some (.int .i64 xp) ∧ V.cell? ⟨q1, 10, none⟩ = some (.int .i64 xl)) ∧ (V.cell? ⟨w.heap.size, 0, none⟩ = some (.int .i64 4) ∧ V.cell? ⟨w.heap.size, 1, none⟩ = some (.int .i64 ds) ∧ V.cell? ⟨w.heap.size, 2, none⟩ = some (.int .i64 di) ∧ V.cell? ⟨w.heap.size, 3, none⟩ = some (.int .i64 dg) ∧ V.cell? ⟨w.heap.size, 4, none⟩ = some (.int .i64 dm) ∧ V.cell? ⟨w.heap.size, 5, none⟩ = some (.int .i64 dx) ∧ V.cell? ⟨w.heap.size, 6, none⟩ = some (.int .i64 dy) ∧ V.cell? ⟨w.heap.size, 7, none⟩ = some (.int .i64 dvx) ∧ V.cell? ⟨w.heap.size, 8, none⟩ = some (.int .i64 dvy) ∧ V.cell? ⟨w.heap.size, 9, none⟩ = some (.int .i64 dh) ∧ V.cell? ⟨w.heap.size, 10, none⟩ = some (.int .i64 dp) ∧ V.cell? ⟨w.heap.size, 11, none⟩ = some (.int .i64 dl) ∧ V.cell? ⟨w.heap.size, 12, none⟩ = some (.int .i64 dm_))) := Lib.hid fun q1 q2 V hV => ⟨(Bx.b11 (hV.held 0 rfl)).1, (Bx.b11 (hV.held 2 rfl)).1, (Bx.b13 (hV.held 4 rfl)).1⟩
          have EQ := eq_bundle_d 9997 ds di dg ym yx yy yvx yvy yh yp yl
          simp at EQ
          clear hz ht2 g1 g2 hL l1 AL
          go_upto_region 20 with (first
            | (go_at_call 24; refine (LN.out _ HQ.out).mono ?_; rintro e w8 ⟨rfl, rfl⟩; clear LN)
            | (go_at_call 25; refine (GT.out _ HQ.out).mono ?_; rintro e w9 ⟨rfl, h9⟩; clear GT HQ e0 e1 e2 e3 e4 e5 e6 e7 e8 e9 e10 e11 e12; obtain ⟨e0, e1, e2, e3, e4, e5, e6, e7, e8, e9, e10, e11, e12⟩ := (Bx.b13 (h9.held 3 rfl)).1)
            | (go_at_call 11; refine (DO.out _ _ h9).mono ?_; rintro e w10 ⟨rfl, h10⟩; clear DO h9 e0 e1 e2 e3 e4 e5 e6 e7 e8 e9 e10 e11 e12; obtain ⟨e0, e1, e2, e3, e4, e5, e6, e7, e8, e9, e10, e11, e12⟩ := (Bx.b13 (h10.held 3 rfl)).1)
            | (go_at_call 25; refine (GU.out _ _ h10).mono ?_; rintro e w11 ⟨rfl, h11'⟩; have h11 := h11'; clear h11'; clear GU h10 e0 e1 e2 e3 e4 e5 e6 e7 e8 e9 e10 e11 e12; obtain ⟨e0, e1, e2, e3, e4, e5, e6, e7, e8, e9, e10, e11, e12⟩ := (Bx.b13 (h11.held 4 rfl)).1; obtain ⟨n0, n1, n2, n3, n4, n5, n6, n7, n8, n9, n10⟩ := (Bx.b11 (h11.held 0 rfl)).1))
          have HX := h11
          clear h11 e0 e1 e2 e3 e4 e5 e6 e7 e8 e9 e10 e11 e12 n0 n1 n2 n3 n4 n5 n6 n7 n8 n9 n10
          generalize w9.heap.size = q1 at *
          generalize w11.heap.size = q2 at *
          generalize w11.alloc (.cells #[.int .i64 ds, .int .i64 di, .int .i64 dg, .int .i64 ym, .int .i64 yx, .int .i64 yy, .int .i64 yvx, .int .i64 yvy, .int .i64 yh, .int .i64 yp, .int .i64 yl] 36) = W2 at *
          obtain ⟨⟨n0, n1, n2, n3, n4, n5, n6, n7, n8, n9, n10⟩, ⟨m0, m1, m2, m3, m4, m5, m6, m7, m8, m9, m10⟩, ⟨e0, e1, e2, e3, e4, e5, e6, e7, e8, e9, e10, e11, e12⟩⟩ := CL.out _ _ _ HX
          go_region_held3 (fun W' => (W'.cell? ⟨q2, 0, none⟩ = some (.int .i64 ds) ∧ W'.cell? ⟨q2, 1, none⟩ = some (.int .i64 di) ∧ W'.cell? ⟨q2, 2, none⟩ = some (.int .i64 dg) ∧ W'.cell? ⟨q2, 3, none⟩ = some (.int .i64 ym) ∧ W'.cell? ⟨q2, 4, none⟩ = some (.int .i64 yx) ∧ W'.cell? ⟨q2, 5, none⟩ = some (.int .i64 yy) ∧ W'.cell? ⟨q2, 6, none⟩ = some (.int .i64 yvx) ∧ W'.cell? ⟨q2, 7, none⟩ = some (.int .i64 yvy) ∧ W'.cell? ⟨q2, 8, none⟩ = some (.int .i64 yh) ∧ W'.cell? ⟨q2, 9, none⟩ = some (.int .i64 yp) ∧ W'.cell? ⟨q2, 10, none⟩ = some (.int .i64 yl)) ∧ (W'.cell? ⟨q1, 0, none⟩ = some (.int .i64 ds) ∧ W'.cell? ⟨q1, 1, none⟩ = some (.int .i64 di) ∧ W'.cell? ⟨q1, 2, none⟩ = some (.int .i64 dg) ∧ W'.cell? ⟨q1, 3, none⟩ = some (.int .i64 xm) ∧ W'.cell? ⟨q1, 4, none⟩ = some (.int .i64 xx) ∧ W'.cell? ⟨q1, 5, none⟩ = some (.int .i64 xy) ∧ W'.cell? ⟨q1, 6, none⟩ = some (.int .i64 xvx) ∧ W'.cell? ⟨q1, 7, none⟩ = some (.int .i64 xvy) ∧ W'.cell? ⟨q1, 8, none⟩ = some (.int .i64 xh) ∧ W'.cell? ⟨q1, 9, none⟩ = some (.int .i64 xp) ∧ W'.cell? ⟨q1, 10, none⟩ = some (.int .i64 xl)) ∧ (W'.cell? ⟨w.heap.size, 0, none⟩ = some (.int .i64 4) ∧ W'.cell? ⟨w.heap.size, 1, none⟩ = some (.int .i64 ds) ∧ W'.cell? ⟨w.heap.size, 2, none⟩ = some (.int .i64 di) ∧ W'.cell? ⟨w.heap.size, 3, none⟩ = some (.int .i64 dg) ∧ W'.cell? ⟨w.heap.size, 4, none⟩ = some (.int .i64 dm) ∧ W'.cell? ⟨w.heap.size, 5, none⟩ = some (.int .i64 dx) ∧ W'.cell? ⟨w.heap.size, 6, none⟩ = some (.int .i64 dy) ∧ W'.cell? ⟨w.heap.size, 7, none⟩ = some (.int .i64 dvx) ∧ W'.cell? ⟨w.heap.size, 8, none⟩ = some (.int .i64 dvy) ∧ W'.cell? ⟨w.heap.size, 9, none⟩ = some (.int .i64 dh) ∧ W'.cell? ⟨w.heap.size, 10, none⟩ = some (.int .i64 dp) ∧ W'.cell? ⟨w.heap.size, 11, none⟩ = some (.int .i64 dl) ∧ W'.cell? ⟨w.heap.size, 12, none⟩ = some (.int .i64 dm_)))
            (first | (exact CL.out _ _ _ h16) | (exact CL.out _ _ _ h15) | (exact CL.out _ _ _ HX.drew))
            (first
              | (go_at_call 27; refine (WX.out _).mono ?_; rintro e w15 ⟨rfl, b15⟩; have h15 := HX.drew.below b15)
              | (go_at_call 24; refine (LU.out _ _ _ h15).mono ?_; rintro e w17 ⟨rfl, rfl⟩)
              | (go_at_call 14; refine (AW.out _).mono ?_; rintro e w16 ⟨rfl, b16⟩; have h16 := h15.below b16))
          all_goals
            go_wp2
            go_ret
            exact ⟨rfl, h16.bel⟩
      · have hk := DZ.out hz
        have nz : ((bdo t1 ⟨dk, ⟨ds, di, dg, dm, dx, dy, dvx, dvy, dh, dp, dl⟩, dm_⟩).2 != 0) = true := by simpa using hz
        have GT : Hid (∀ V, Sep w [stC s t1, stR r t1, box w.heap.size (.cells #[.int .i64 dk, .int .i64 ds, .int .i64 di, .int .i64 dg, .int .i64 dm, .int .i64 dx, .int .i64 dy, .int .i64 dvx, .int .i64 dvy, .int .i64 dh, .int .i64 dp, .int .i64 dl, .int .i64 dm_] DTY)] V → Calls Try.prog 25 #[.pointer (some ⟨s, 0, none⟩), .agg #[.int .i64 ds, .int .i64 di, .int .i64 dg]] V fun e V' => ∃ x : Bn, e = .returned (.tuple #[x.val, .bool (Bu.get t1 (ds, di, dg)).isSome]) ∧ Sep w [box V'.heap.size (.cells #[.int .i64 x.s, .int .i64 x.i, .int .i64 x.g, .int .i64 x.m, .int .i64 x.x, .int .i64 x.y, .int .i64 x.vx, .int .i64 x.vy, .int .i64 x.h, .int .i64 x.p, .int .i64 x.l] 36), stC s t1, stR r t1, box w.heap.size (.cells #[.int .i64 dk, .int .i64 ds, .int .i64 di, .int .i64 dg, .int .i64 dm, .int .i64 dx, .int .i64 dy, .int .i64 dvx, .int .i64 dvy, .int .i64 dh, .int .i64 dp, .int .i64 dl, .int .i64 dm_] DTY)] (V'.alloc (.cells #[.int .i64 x.s, .int .i64 x.i, .int .i64 x.g, .int .i64 x.m, .int .i64 x.x, .int .i64 x.y, .int .i64 x.vx, .int .i64 x.vy, .int .i64 x.h, .int .i64 x.p, .int .i64 x.l] 36))) := Lib.hid fun V hV => (hV.sget 0 rfl ds di dg).mono fun e V' ⟨a, b⟩ => ⟨_, a, sep_box b _⟩
        have DO : Hid (∀ x V, Sep w [x, stC s t1, stR r t1, box w.heap.size (.cells #[.int .i64 dk, .int .i64 ds, .int .i64 di, .int .i64 dg, .int .i64 dm, .int .i64 dx, .int .i64 dy, .int .i64 dvx, .int .i64 dvy, .int .i64 dh, .int .i64 dp, .int .i64 dl, .int .i64 dm_] DTY)] V → Calls Try.prog 11 #[.pointer (some ⟨s, 0, none⟩), .agg #[.int .i64 dk, .int .i64 ds, .int .i64 di, .int .i64 dg, .int .i64 dm, .int .i64 dx, .int .i64 dy, .int .i64 dvx, .int .i64 dvy, .int .i64 dh, .int .i64 dp, .int .i64 dl, .int .i64 dm_]] V fun e V' => e = .returned (.int .i64 (bdo t1 ⟨dk, ⟨ds, di, dg, dm, dx, dy, dvx, dvy, dh, dp, dl⟩, dm_⟩).2) ∧ Sep w [stC s t1, x, stR r t1, box w.heap.size (.cells #[.int .i64 dk, .int .i64 ds, .int .i64 di, .int .i64 dg, .int .i64 dm, .int .i64 dx, .int .i64 dy, .int .i64 dvx, .int .i64 dvy, .int .i64 dh, .int .i64 dp, .int .i64 dl, .int .i64 dm_] DTY)] V') := Lib.hid fun x V hV => by
          have := (show Sep w [stC s t1, x, stR r t1, box w.heap.size (.cells #[.int .i64 dk, .int .i64 ds, .int .i64 di, .int .i64 dg, .int .i64 dm, .int .i64 dx, .int .i64 dy, .int .i64 dvx, .int .i64 dvy, .int .i64 dh, .int .i64 dp, .int .i64 dl, .int .i64 dm_] DTY)] V from hV.pull 1 rfl).do_ ⟨dk, ⟨ds, di, dg, dm, dx, dy, dvx, dvy, dh, dp, dl⟩, dm_⟩ l1 (by decide)
          rw [hk] at this
          exact this
        clear DY DZ gg hz hk l1 hN
        generalize (bdo t1 ⟨dk, ⟨ds, di, dg, dm, dx, dy, dvx, dvy, dh, dp, dl⟩, dm_⟩).2 = rr at *
        generalize (Bu.get t1 (ds, di, dg)).isSome = was at *
        go_wp2_with (first
          | (go_at_call 24; refine (LN.out _ HQ.out).mono ?_; rintro e w8 ⟨rfl, rfl⟩; clear LN)
          | (go_at_call 25; refine (GT.out _ HQ.out).mono ?_; rintro e w9 ⟨⟨xs, xi, xg, xm, xx, xy, xvx, xvy, xh, xp, xl⟩, rfl, h9⟩; simp only [Bn.val] at h9 ⊢; clear GT HQ e0 e1 e2 e3 e4 e5 e6 e7 e8 e9 e10 e11 e12; obtain ⟨e0, e1, e2, e3, e4, e5, e6, e7, e8, e9, e10, e11, e12⟩ := (Bx.b13 (h9.held 3 rfl)).1)
          | (go_at_call 11; refine (DO.out _ _ h9).mono ?_; rintro e w10 ⟨rfl, h10⟩; clear DO h9 e0 e1 e2 e3 e4 e5 e6 e7 e8 e9 e10 e11 e12)
          | (go_at_call 13; refine (AL.out _ _ h10).mono ?_; rintro e w11 ⟨rfl, h11⟩; clear AL h10)
          | (go_at_call 14; refine (AW.out _).mono ?_; rintro e w12 ⟨rfl, b12⟩; clear AW))
        go_ret
        exact ⟨rfl, h11.bel.trans (b12.mono h11.bel.size)⟩
end Go.Proofs.Yteollbioeamciaa
