/- The law BufferFlushes, walked. Written by wip/tools/genbulaw.py. -/
import Derived.Test.YteollbioeamciaaKBuF
namespace Go.Proofs.Yteollbioeamciaa
open Go.RowKit Pz Ar Bu Sp
set_option linter.unusedVariables false
set_option linter.unusedSimpArgs false

theorem b_min (V : World) : (Instr.build DTY #[(0, .int .i64 (-1))]).run Try.prog V = .ok (.agg #[.int .i64 (-1), .int .i64 0, .int .i64 0, .int .i64 0, .int .i64 0, .int .i64 0, .int .i64 0, .int .i64 0, .int .i64 0, .int .i64 0, .int .i64 0, .int .i64 0, .int .i64 0]) V := by kernel_rfl
theorem b_zero (V : World) : (Instr.build DTY #[]).run Try.prog V = .ok (.agg #[.int .i64 0, .int .i64 0, .int .i64 0, .int .i64 0, .int .i64 0, .int .i64 0, .int .i64 0, .int .i64 0, .int .i64 0, .int .i64 0, .int .i64 0, .int .i64 0, .int .i64 0]) V := by kernel_rfl
abbrev deMin : De := ⟨-1, ⟨0, 0, 0, 0, 0, 0, 0, 0, 0, 0, 0⟩, 0⟩
abbrev deZero : De := ⟨0, ⟨0, 0, 0, 0, 0, 0, 0, 0, 0, 0, 0⟩, 0⟩
set_option maxHeartbeats 16000000 in
set_option maxRecDepth 100000 in
theorem law_flushes (w : World) (A1 : Option Addr) (c1 : Nat) (p0 : List De) (pc : p0.length ≤ c1) (pcap : c1 ≤ 140737488351232) (pF : ∀ x ∈ p0, Fit x.b.m ∧ Fit x.m) (pR : RdDe w w.heap.size A1 p0)
    (A2 : Option Addr) (c2 : Nat) (l0 : List De) (lc : l0.length ≤ c2) (lcap : c2 ≤ 140737488351232) (lF : ∀ x ∈ l0, Fit x.b.m ∧ Fit x.m) (lR : RdDe w w.heap.size A2 l0) :
    Calls Try.prog 4 #[.slice A1 p0.length c1, .slice A2 l0.length c2] w fun e w' => e = .returned (.bool true) ∧ Below w.heap.size w w' := by
  have N := Lib.hid (sep_store (sep_new w))
  obtain ⟨s, hs⟩ : ∃ s, s = w.heap.size := ⟨_, rfl⟩
  have FWp := Lib.hid fun W (hW : Below w.heap.size w W) => few_any ((pR.below hW).more hW.size) pc pcap
  obtain ⟨p, hlp⟩ : ∃ l, l = p0.take 60 := ⟨_, rfl⟩
  have h6p : p.length ≤ 60 := by rw [hlp, List.length_take]; omega
  have RXp := Lib.hid fun W (hW : Below w.heap.size w W) => (pR.take 60).below hW
  have FXp : Hid (∀ x ∈ p, Fit x.b.m ∧ Fit x.m) := Lib.hid fun x hx => pF x (List.mem_of_mem_take (hlp ▸ hx))
  rw [← hlp] at RXp FWp
  have FWl := Lib.hid fun W (hW : Below w.heap.size w W) => few_any ((lR.below hW).more hW.size) lc lcap
  obtain ⟨l, hll⟩ : ∃ l, l = l0.take 60 := ⟨_, rfl⟩
  have h6l : l.length ≤ 60 := by rw [hll, List.length_take]; omega
  have RXl := Lib.hid fun W (hW : Below w.heap.size w W) => (lR.take 60).below hW
  have FXl : Hid (∀ x ∈ l, Fit x.b.m ∧ Fit x.m) := Lib.hid fun x hx => lF x (List.mem_of_mem_take (hll ▸ hx))
  rw [← hll] at RXl FWl
  rw [← hs] at N
  have LR : Hid (RdDe w w.heap.size A2 l) := Lib.hid (hll ▸ lR.take 60)
  clear hlp hll hs pR lR pF lF pc pcap lc lcap
  have hp6 : (p.length : Int) ≤ 60 := by omega
  have hl6 : (l.length : Int) ≤ 60 := by omega
  have eA : (Array.replicate 32 (.slice none 0 0) : Array Value) = #[.slice none 0 0, .slice none 0 0, .slice none 0 0, .slice none 0 0, .slice none 0 0, .slice none 0 0, .slice none 0 0, .slice none 0 0, .slice none 0 0, .slice none 0 0, .slice none 0 0, .slice none 0 0, .slice none 0 0, .slice none 0 0, .slice none 0 0, .slice none 0 0, .slice none 0 0, .slice none 0 0, .slice none 0 0, .slice none 0 0, .slice none 0 0, .slice none 0 0, .slice none 0 0, .slice none 0 0, .slice none 0 0, .slice none 0 0, .slice none 0 0, .slice none 0 0, .slice none 0 0, .slice none 0 0, .slice none 0 0, .slice none 0 0] := rfl
  have AW := Lib.hid awake_any
  have NB := Lib.hid fun V (h : Sep w [stC s T0] V) => (sep_ref h).pull 1 rfl
  rw [eA] at NB
  obtain ⟨t1, ht1⟩ : ∃ t, t = bdos T0 p := ⟨_, rfl⟩
  have e1 : Hid (bdos T0 (p.take p.length) = t1) := Lib.hid (by rw [List.take_length, ht1])
  have l1 : Le t1 60 := by
    have := le_few h6p p.length
    rw [List.take_length] at this
    rw [ht1]; exact this
  clear ht1
  obtain ⟨t2, ht2⟩ : ∃ t, t = bdos t1 l := ⟨_, rfl⟩
  obtain ⟨S, hS⟩ : ∃ t, t = said t1 l := ⟨_, rfl⟩
  have l2 : Le t2 120 := by rw [ht2]; exact (le_bdos l l1).mono (by omega)
  have hSl : S.length = l.length := by rw [hS, said_len]
  -- what is called behind the first loop
  have NW := Lib.hid fun r V (h : Sep w [stC s t1, stR r t1] V) => sep_buf h
  have CP : Hid (∀ r b (c2 : Nat) V, Sep w [buf b [], stC s t1, stR r t1] V → ∃ A' c' V', (Builtin.append_ #[DLT, DLT] 22 #[.slice (some ⟨V.heap.size, 0, none⟩) 0 0, .slice A2 l.length c2]).run Try.prog (V.alloc (.cells #[] DTY)) = .ok (.slice A' l.length c') V' ∧ Sep w [rowD (.slice A' l.length c') l, buf b [], stC s t1, stR r t1] V') := Lib.hid fun r b c2 V hV => by
    obtain ⟨A', c', V', hr, ho, hb⟩ := copy_run (c := c2) ((LR.out.below hV.bel).more hV.bel.size) (by omega) 22
    exact ⟨A', c', V', hr, sep_row hV hb ho⟩
  have AD : Hid (∀ r b A c V, Sep w [rowD (.slice A l.length c) l, buf b [], stC s t1, stR r t1] V → Calls Try.prog 16 #[.pointer (some ⟨b, 0, none⟩), .slice A l.length c] V fun e V' => e = .returned (.int .i64 0) ∧ Sep w [rowD (.slice A l.length c) l, buf b l, stC s t1, stR r t1] V') := Lib.hid fun r b A c V hV => by
    have R := RdDe.of_own (hV.rows 0 rfl)
    exact ((show Sep w [buf b [], rowD (.slice A l.length c) l, stC s t1, stR r t1] V from hV.pull 1 rfl).add_ (c := c) R (by simp; omega)).mono fun e V' ⟨a, h⟩ => ⟨a, h.pull 1 rfl⟩
  have AL : Hid (∀ r x y V, Sep w [x, y, stC s t1, stR r t1] V → Calls Try.prog 13 #[.pointer (some ⟨s, 0, none⟩), .pointer (some ⟨r, 0, none⟩)] V fun e V' => e = .returned (.bool true) ∧ Sep w [x, y, stC s t1, stR r t1] V') := Lib.hid fun r x y V hV => hV.alike 2 3 rfl rfl (total_few l1 (by decide))
  have LS : Hid (∀ r b x V, Sep w [x, buf b l, stC s t1, stR r t1] V → Calls Try.prog 17 #[.pointer (some ⟨b, 0, none⟩)] V fun e V' => ∃ A c, e = .returned (.slice A l.length c) ∧ Sep w [rowD (.slice A l.length c) l, buf b l, stC s t1, stR r t1] V') := Lib.hid fun r b x V hV => ((hV.drop).list 0 rfl (by omega)).mono fun e V' h => h
  have BL : Hid (∀ r b x V, Sep w [x, buf b l, stC s t1, stR r t1] V → Calls Try.prog 18 #[.pointer (some ⟨b, 0, none⟩)] V fun e V' => e = .returned (.int .i64 (l.length : Int)) ∧ V = V') := Lib.hid fun r b x V hV => hV.blen 1 rfl
  have FL : Hid (∀ r b x V, Sep w [x, buf b l, stC s t1, stR r t1] V → Calls Try.prog 19 #[.pointer (some ⟨b, 0, none⟩), .pointer (some ⟨s, 0, none⟩)] V fun e V' => ∃ A c, e = .returned (.slice A l.length c) ∧ Sep w [rowE (.slice A l.length c) S, stC s t2, buf b [], stR r t1] V') := Lib.hid fun r b x V hV => by
    have h2 : Sep w [stC s t1, buf b l, stR r t1] V := hV.drop.pull 1 rfl
    rw [hS, ht2]
    exact h2.flush l1 (by omega)
  have RF : Hid (∀ r b A c (c2 : Nat) V, Sep w [rowE (.slice A l.length c) S, stC s t2, buf b [], stR r t1] V → Calls Try.prog 21 #[.pointer (some ⟨r, 0, none⟩), .slice A2 l.length c2] V fun e V' => ∃ A' c', e = .returned (.slice A' l.length c') ∧ Sep w [rowZ (.slice A' l.length c') S, stR r t2, rowE (.slice A l.length c) S, stC s t2, buf b []] V') := Lib.hid fun r b A c c2 V hV => by
    have h2 : Sep w [stR r t1, rowE (.slice A l.length c) S, stC s t2, buf b []] V := hV.pull 3 rfl
    have := h2.rflush (c := c2) LR.out FXl.out l1 (by omega)
    rw [← hS, ← ht2] at this
    exact this
  have SM : Hid (∀ r b A c A' c' V, Sep w [rowZ (.slice A' l.length c') S, stR r t2, rowE (.slice A l.length c) S, stC s t2, buf b []] V → Calls Try.prog 20 #[.slice A l.length c, .slice A' l.length c'] V fun e V' => e = .returned (.bool true) ∧ Sep w [stR r t2, stC s t2, buf b []] V') := Lib.hid fun r b A c A' c' V hV => by
    have a1 := hV.rows 2 rfl
    have a2 := hV.rows 0 rfl
    rw [← hSl] at a1 a2 ⊢
    exact (same_said a1 a2 (by omega)).mono fun e V' ⟨e1, e2⟩ => ⟨e1, ((hV.drop.pull 1 rfl).drop).below e2⟩
  have AL2 : Hid (∀ r b V, Sep w [stR r t2, stC s t2, buf b []] V → Calls Try.prog 13 #[.pointer (some ⟨s, 0, none⟩), .pointer (some ⟨r, 0, none⟩)] V fun e V' => e = .returned (.bool true) ∧ Sep w [stR r t2, stC s t2, buf b []] V') := Lib.hid fun r b V hV => hV.alike 1 0 rfl rfl (total_few l2 (by decide))
  have BL2 : Hid (∀ r b V, Sep w [stR r t2, stC s t2, buf b []] V → Calls Try.prog 18 #[.pointer (some ⟨b, 0, none⟩)] V fun e V' => e = .returned (.int .i64 0) ∧ V = V') := Lib.hid fun r b V hV => hV.blen 2 rfl
  have LS2 : Hid (∀ r b V, Sep w [stR r t2, stC s t2, buf b []] V → Calls Try.prog 17 #[.pointer (some ⟨b, 0, none⟩)] V fun e V' => (∃ A c, e = .returned (.slice A 0 c)) ∧ Sep w [stR r t2, stC s t2, buf b []] V') := Lib.hid fun r b V hV => (hV.list 2 rfl (by simp)).mono fun e V' ⟨A, c, h1, h2⟩ => ⟨⟨A, c, h1⟩, h2.drop⟩
  have FL2 : Hid (∀ r b V, Sep w [stR r t2, stC s t2, buf b []] V → Calls Try.prog 19 #[.pointer (some ⟨b, 0, none⟩), .pointer (some ⟨s, 0, none⟩)] V fun e V' => (∃ A c, e = .returned (.slice A 0 c)) ∧ Below w.heap.size w V') := Lib.hid fun r b V hV => by
    have h2 : Sep w [stC s t2, buf b []] V := hV.drop
    exact (h2.flush l2 (by simp)).mono fun e V' ⟨A, c, h1, h2⟩ => ⟨⟨A, c, h1⟩, h2.bel⟩
  have bm_ := b_min
  have bz_ := b_zero
  clear ht2 hS hSl l1 l2 LR FXl
  generalize p0.length = n0 at *
  generalize l0.length = n1 at *
  go_enter Try.func4, Try.ntmps4
  go_wp2_with (first
    | (go_at_call 9; refine N.out.mono ?_; rintro e w1 ⟨rfl, h1'⟩; have h1 := NB.out _ h1'; clear N h1' NB eA)
    | (go_at_call 10; refine (FWp.out _ h1.bel).mono ?_; rintro e w2 ⟨⟨c1', rfl, _, _⟩, rfl⟩; clear FWp)
    | (go_at_call 10; refine (FWl.out _ h1.bel).mono ?_; rintro e w3 ⟨⟨c2', rfl, _, _⟩, rfl⟩; have h2 := Lib.hid h1; clear FWl h1))
  generalize w1.heap.size = r at *
  have h3 : Hid (Sep w [stC s (bdos T0 (p.take 0)), stR r (bdos T0 (p.take 0))] _) := h2
  clear h2
  go_loopw [7] (fun i wr => ∃ j : Nat, j ≤ p.length ∧ i = .int .i64 j ∧ Hid (Sep w [stC s (bdos T0 (p.take j)), stR r (bdos T0 (p.take j))] wr)) (fun i _ => p.length - (intOf i).toNat)
  case atStart => exact ⟨0, Nat.zero_le _, rfl, h3⟩
  case round =>
    obtain ⟨j, hj, rfl, HP⟩ := hrel
    clear h3
    by_cases hjn : j < p.length
    · have q1 : (j : Int) < (p.length : Int) := by omega
      have hx := List.getElem?_eq_getElem hjn
      obtain ⟨g, o, rfl, _⟩ := RXp.out wr HP.out.bel j _ hx
      have RC : Hid (∀ W, Below w.heap.size w W → W.cell? ⟨g, o + j * 13, none⟩ = some (.int .i64 p[j].k) ∧ W.cell? ⟨g, o + j * 13 + 1, none⟩ = some (.int .i64 p[j].b.s) ∧ W.cell? ⟨g, o + j * 13 + 2, none⟩ = some (.int .i64 p[j].b.i) ∧ W.cell? ⟨g, o + j * 13 + 3, none⟩ = some (.int .i64 p[j].b.g) ∧ W.cell? ⟨g, o + j * 13 + 4, none⟩ = some (.int .i64 p[j].b.m) ∧ W.cell? ⟨g, o + j * 13 + 5, none⟩ = some (.int .i64 p[j].b.x) ∧ W.cell? ⟨g, o + j * 13 + 6, none⟩ = some (.int .i64 p[j].b.y) ∧ W.cell? ⟨g, o + j * 13 + 7, none⟩ = some (.int .i64 p[j].b.vx) ∧ W.cell? ⟨g, o + j * 13 + 8, none⟩ = some (.int .i64 p[j].b.vy) ∧ W.cell? ⟨g, o + j * 13 + 9, none⟩ = some (.int .i64 p[j].b.h) ∧ W.cell? ⟨g, o + j * 13 + 10, none⟩ = some (.int .i64 p[j].b.p) ∧ W.cell? ⟨g, o + j * 13 + 11, none⟩ = some (.int .i64 p[j].b.l) ∧ W.cell? ⟨g, o + j * 13 + 12, none⟩ = some (.int .i64 p[j].m)) := Lib.hid fun W hW => by
        obtain ⟨g', o', e, _, hc⟩ := RXp.out W hW j _ hx
        cases e
        exact hc
      have hLe := le_few h6p j
      have hT := bdos_take T0 hx
      have SX : Hid (∀ V, Sep w [stC s (bdos T0 (p.take j)), stR r (bdos T0 (p.take j))] V → Calls Try.prog 11 #[.pointer (some ⟨s, 0, none⟩), p[j].val] V fun e V' => e = .returned (.int .i64 (bdo (bdos T0 (p.take j)) p[j]).2) ∧ Sep w [stC s (bdos T0 (p.take (j + 1))), stR r (bdos T0 (p.take j))] V') := Lib.hid fun V hV => by rw [hT]; exact hV.do_ p[j] hLe (by decide)
      have DX : Hid (∀ V, Sep w [stC s (bdos T0 (p.take (j + 1))), stR r (bdos T0 (p.take j))] V → Calls Try.prog 12 #[.pointer (some ⟨r, 0, none⟩), p[j].val] V fun e V' => e = .returned (.int .i64 (bdo (bdos T0 (p.take j)) p[j]).2) ∧ Sep w [stC s (bdos T0 (p.take (j + 1))), stR r (bdos T0 (p.take (j + 1)))] V') := Lib.hid fun V hV => by
        have := (show Sep w [stR r (bdos T0 (p.take j)), stC s (bdos T0 (p.take (j + 1)))] V from hV.pull 1 rfl).rdo p[j] (FXp.out _ (List.getElem_mem hjn)) hLe (by decide)
        refine this.mono fun e V' ⟨e1, e2⟩ => ⟨e1, ?_⟩
        have h3 : Sep w [stC s (bdos T0 (p.take (j + 1))), stR r (bdo (bdos T0 (p.take j)) p[j]).1] V' := e2.pull 1 rfl
        rw [← hT] at h3
        exact h3
      clear RXp RXl FXp hLe hT hx AW NW CP AD AL LS BL FL RF SM AL2 BL2 LS2 FL2 bm_ bz_ e1
      obtain ⟨k0, k1, k2, k3, k4, k5, k6, k7, k8, k9, k10, k11, k12⟩ := RC.out _ HP.out.bel
      generalize (bdo (bdos T0 (p.take j)) p[j]).2 = rr at *
      simp only [De.val] at SX DX
      generalize p[j].k = y0 at *
      generalize p[j].b.s = y1 at *
      generalize p[j].b.i = y2 at *
      generalize p[j].b.g = y3 at *
      generalize p[j].b.m = y4 at *
      generalize p[j].b.x = y5 at *
      generalize p[j].b.y = y6 at *
      generalize p[j].b.vx = y7 at *
      generalize p[j].b.vy = y8 at *
      generalize p[j].b.h = y9 at *
      generalize p[j].b.p = y10 at *
      generalize p[j].b.l = y11 at *
      generalize p[j].m = y12 at *
      go_wp2_with (first
        | (go_at_call 11; refine (SX.out _ HP.out).mono ?_; rintro e w5 ⟨rfl, h5⟩; clear SX HP k0 k1 k2 k3 k4 k5 k6 k7 k8 k9 k10 k11 k12; obtain ⟨k0, k1, k2, k3, k4, k5, k6, k7, k8, k9, k10, k11, k12⟩ := RC.out _ h5.bel)
        | (go_at_call 12; refine (DX.out _ h5).mono ?_; rintro e w6 ⟨rfl, h6'⟩; have h6 := Lib.hid h6'; clear h6' h5 DX k0 k1 k2 k3 k4 k5 k6 k7 k8 k9 k10 k11 k12))
      go_roundw
      case rel => exact ⟨j + 1, by omega, by go_num, h6⟩
      case measure => simp [intOf]; omega
    · obtain rfl : j = p.length := by omega
      have q1 : ¬ (p.length : Int) < (p.length : Int) := by omega
      have HQ : Hid (Sep w [stC s t1, stR r t1] wr) := by rw [e1.out] at HP; exact HP
      clear HP e1 RXp FXp
      generalize p.length = np at *
      go_upto_region 12 with (first
        | (go_at_call 15; refine (NW.out _ _ HQ.out).mono ?_; rintro e w9 ⟨rfl, h9⟩; clear NW HQ; generalize wr.heap.size = b at *; obtain ⟨A3, c3, w10, hr, h10'⟩ := CP.out _ _ c2' _ h9; have HR := Lib.hid hr; have h10 := Lib.hid h10'; clear hr h10' CP)
        | (at_builtin; refine wpList_append _ rfl (.tmp 40) (.tmp 41) _ _ rfl _ _ rfl rfl _ _ HR.out ?_; clear HR h9)
        | (go_at_call 16; refine (AD.out _ _ _ _ _ h10.out).mono ?_; rintro e w11 ⟨rfl, h11⟩; clear AD h10)
        | (go_at_call 13; refine (AL.out _ _ _ _ h11).mono ?_; rintro e w12 ⟨rfl, h12'⟩; have h12 := Lib.hid h12'; clear h12' h11 AL))
      go_wp2
      go_loopw [10] (fun i wq => ∃ (j : Nat) (lst : List De), j ≤ l.length ∧ lst.length = l.length ∧ i = .int .i64 j ∧ Hid (Sep w [rowD (.slice A3 lst.length c3) lst, buf b l, stC s t1, stR r t1] wq)) (fun i _ => l.length - (intOf i).toNat)
      case atStart => exact ⟨0, l, Nat.zero_le _, rfl, rfl, h12⟩
      case round =>
        obtain ⟨j, lst, hj, hll, rfl, HP⟩ := hrel
        clear h12
        by_cases hjn : j < l.length
        · have q2 : (j : Int) < (l.length : Int) := by omega
          have hx := List.getElem?_eq_getElem (l := lst) (i := j) (by omega)
          obtain ⟨g, o, rfl, _, _, KC, KF⟩ := ownd_at (HP.out.rows 0 rfl) hx
          have HS : Hid (Sep w [rowD (.slice (some ⟨g, o, none⟩) (lst.set j deMin).length c3) (lst.set j deMin), buf b l, stC s t1, stR r t1] (((((((((((((wr.setCell ⟨g, o + j * 13, none⟩ (.int .i64 (-1))).setCell ⟨g, o + j * 13 + 1, none⟩ (.int .i64 0)).setCell ⟨g, o + j * 13 + 2, none⟩ (.int .i64 0)).setCell ⟨g, o + j * 13 + 3, none⟩ (.int .i64 0)).setCell ⟨g, o + j * 13 + 4, none⟩ (.int .i64 0)).setCell ⟨g, o + j * 13 + 5, none⟩ (.int .i64 0)).setCell ⟨g, o + j * 13 + 6, none⟩ (.int .i64 0)).setCell ⟨g, o + j * 13 + 7, none⟩ (.int .i64 0)).setCell ⟨g, o + j * 13 + 8, none⟩ (.int .i64 0)).setCell ⟨g, o + j * 13 + 9, none⟩ (.int .i64 0)).setCell ⟨g, o + j * 13 + 10, none⟩ (.int .i64 0)).setCell ⟨g, o + j * 13 + 11, none⟩ (.int .i64 0)).setCell ⟨g, o + j * 13 + 12, none⟩ (.int .i64 0))) := Lib.hid (by
            have := HP.out.setd (k := j) (by omega) deMin
            rw [show lst.length = (lst.set j deMin).length by rw [List.length_set]] at this
            exact this)
          have hl3 : (lst.set j deMin).length = l.length := by rw [List.length_set, hll]
          clear HP LS BL FL RF SM AL2 BL2 LS2 FL2 bz_ AW RXl hx
          obtain ⟨k0, k1, k2, k3, k4, k5, k6, k7, k8, k9, k10, k11, k12⟩ := KC
          obtain ⟨f0, f1, f2, f3, f4, f5, f6, f7, f8, f9, f10, f11, f12⟩ := KF
          generalize lst.set j deMin = lst2 at *
          generalize lst[j].k = y0 at *
          go_wp2
          go_roundw
          case rel => exact ⟨j + 1, lst2, by omega, hl3, by go_num, HS⟩
          case measure => simp [intOf]; omega
        · obtain rfl : j = l.length := by omega
          have q2 : ¬ (l.length : Int) < (l.length : Int) := by omega
          have hne : ((l.length : Int) != (l.length : Int)) = false := by simp
          rw [hll] at HP
          clear bm_
          go_upto_region 19 with (first
            | (go_at_call 17; refine (LS.out _ _ _ _ HP.out).mono ?_; rintro e w13 ⟨A4, c4, rfl, h13⟩; clear LS HP)
            | (go_at_call 18; refine (BL.out _ _ _ _ h13).mono ?_; rintro e w14 ⟨rfl, rfl⟩; clear BL; have h14 := Lib.hid h13; clear h13))
          go_wp2
          go_loopw [12] (fun i wq => ∃ (j : Nat) (tl : List De), j ≤ l.length ∧ tl.length = l.length ∧ (∀ k, j ≤ k → tl[k]? = l[k]?) ∧ i = .int .i64 j ∧ Hid (Sep w [rowD (.slice A4 tl.length c4) tl, buf b l, stC s t1, stR r t1] wq)) (fun i _ => l.length - (intOf i).toNat)
          case atStart => exact ⟨0, l, Nat.zero_le _, rfl, fun _ _ => rfl, rfl, h14⟩
          case round =>
            obtain ⟨j, tl, hj, htl, hsm, rfl, HP⟩ := hrel
            clear h14
            by_cases hjn : j < l.length
            · have q3 : (j : Int) < (l.length : Int) := by omega
              have hx := List.getElem?_eq_getElem hjn
              have hx2 := (hsm j (Nat.le_refl _)).trans hx
              obtain ⟨g, o, rfl, _, _, KC, _⟩ := ownd_at (HP.out.rows 0 rfl) hx2
              obtain ⟨g2, o2, rfl, _, MC⟩ := RXl.out _ HP.out.bel j _ hx
              have NX : Hid (∀ m, Sep w [rowD (.slice (some ⟨g, o, none⟩) tl.length c4) tl, buf b l, stC s t1, stR r t1] (wr.drewN m)) := Lib.hid fun m => HP.out.below (Below.dn' (Below.refl _ _) m)
              have FR : Hid (∀ V, Sep w [rowD (.slice (some ⟨g, o, none⟩) tl.length c4) tl, buf b l, stC s t1, stR r t1] V → (V.cell? ⟨g, o + j * 13, none⟩ = some (.int .i64 l[j].k) ∧ V.cell? ⟨g, o + j * 13 + 1, none⟩ = some (.int .i64 l[j].b.s) ∧ V.cell? ⟨g, o + j * 13 + 2, none⟩ = some (.int .i64 l[j].b.i) ∧ V.cell? ⟨g, o + j * 13 + 3, none⟩ = some (.int .i64 l[j].b.g) ∧ V.cell? ⟨g, o + j * 13 + 4, none⟩ = some (.int .i64 l[j].b.m) ∧ V.cell? ⟨g, o + j * 13 + 5, none⟩ = some (.int .i64 l[j].b.x) ∧ V.cell? ⟨g, o + j * 13 + 6, none⟩ = some (.int .i64 l[j].b.y) ∧ V.cell? ⟨g, o + j * 13 + 7, none⟩ = some (.int .i64 l[j].b.vx) ∧ V.cell? ⟨g, o + j * 13 + 8, none⟩ = some (.int .i64 l[j].b.vy) ∧ V.cell? ⟨g, o + j * 13 + 9, none⟩ = some (.int .i64 l[j].b.h) ∧ V.cell? ⟨g, o + j * 13 + 10, none⟩ = some (.int .i64 l[j].b.p) ∧ V.cell? ⟨g, o + j * 13 + 11, none⟩ = some (.int .i64 l[j].b.l) ∧ V.cell? ⟨g, o + j * 13 + 12, none⟩ = some (.int .i64 l[j].m)) ∧ (V.frozen? ⟨g, o + j * 13, none⟩ = false ∧ V.frozen? ⟨g, o + j * 13 + 1, none⟩ = false ∧ V.frozen? ⟨g, o + j * 13 + 2, none⟩ = false ∧ V.frozen? ⟨g, o + j * 13 + 3, none⟩ = false ∧ V.frozen? ⟨g, o + j * 13 + 4, none⟩ = false ∧ V.frozen? ⟨g, o + j * 13 + 5, none⟩ = false ∧ V.frozen? ⟨g, o + j * 13 + 6, none⟩ = false ∧ V.frozen? ⟨g, o + j * 13 + 7, none⟩ = false ∧ V.frozen? ⟨g, o + j * 13 + 8, none⟩ = false ∧ V.frozen? ⟨g, o + j * 13 + 9, none⟩ = false ∧ V.frozen? ⟨g, o + j * 13 + 10, none⟩ = false ∧ V.frozen? ⟨g, o + j * 13 + 11, none⟩ = false ∧ V.frozen? ⟨g, o + j * 13 + 12, none⟩ = false)) := Lib.hid fun V hV => by
                obtain ⟨g', o', e, _, _, a, b⟩ := ownd_at (hV.rows 0 rfl) hx2
                cases e
                exact ⟨a, b⟩
              have SD : Hid (∀ V, Sep w [rowD (.slice (some ⟨g, o, none⟩) tl.length c4) tl, buf b l, stC s t1, stR r t1] V → Sep w [rowD (.slice (some ⟨g, o, none⟩) (tl.set j deZero).length c4) (tl.set j deZero), buf b l, stC s t1, stR r t1] (((((((((((((V.setCell ⟨g, o + j * 13, none⟩ (.int .i64 0)).setCell ⟨g, o + j * 13 + 1, none⟩ (.int .i64 0)).setCell ⟨g, o + j * 13 + 2, none⟩ (.int .i64 0)).setCell ⟨g, o + j * 13 + 3, none⟩ (.int .i64 0)).setCell ⟨g, o + j * 13 + 4, none⟩ (.int .i64 0)).setCell ⟨g, o + j * 13 + 5, none⟩ (.int .i64 0)).setCell ⟨g, o + j * 13 + 6, none⟩ (.int .i64 0)).setCell ⟨g, o + j * 13 + 7, none⟩ (.int .i64 0)).setCell ⟨g, o + j * 13 + 8, none⟩ (.int .i64 0)).setCell ⟨g, o + j * 13 + 9, none⟩ (.int .i64 0)).setCell ⟨g, o + j * 13 + 10, none⟩ (.int .i64 0)).setCell ⟨g, o + j * 13 + 11, none⟩ (.int .i64 0)).setCell ⟨g, o + j * 13 + 12, none⟩ (.int .i64 0))) := Lib.hid fun V hV => by
                have := hV.setd (k := j) (by omega) deZero
                rw [show tl.length = (tl.set j deZero).length by rw [List.length_set]] at this
                exact this
              have hl3 : (tl.set j deZero).length = l.length := by rw [List.length_set, htl]
              have hs3 : Hid (∀ k, j + 1 ≤ k → (tl.set j deZero)[k]? = l[k]?) := Lib.hid fun k hk => by rw [List.getElem?_set_ne (by omega)]; exact hsm k (by omega)
              have EQ := eq_deed l[j].k l[j].b.s l[j].b.i l[j].b.g l[j].b.m l[j].b.x l[j].b.y l[j].b.vx l[j].b.vy l[j].b.h l[j].b.p l[j].b.l l[j].m
              simp at EQ
              clear HP FL RF SM AL2 BL2 LS2 FL2 AW RXl hx hx2 hsm
              obtain ⟨k0, k1, k2, k3, k4, k5, k6, k7, k8, k9, k10, k11, k12⟩ := KC
              obtain ⟨m0, m1, m2, m3, m4, m5, m6, m7, m8, m9, m10, m11, m12⟩ := MC
              generalize tl.set j deZero = tl2 at *
              generalize l[j].k = y0 at *
              generalize l[j].b.s = y1 at *
              generalize l[j].b.i = y2 at *
              generalize l[j].b.g = y3 at *
              generalize l[j].b.m = y4 at *
              generalize l[j].b.x = y5 at *
              generalize l[j].b.y = y6 at *
              generalize l[j].b.vx = y7 at *
              generalize l[j].b.vy = y8 at *
              generalize l[j].b.h = y9 at *
              generalize l[j].b.p = y10 at *
              generalize l[j].b.l = y11 at *
              generalize l[j].m = y12 at *
              go_upto_region 22 with fail
              go_quiet (fail)
              have HV := Lib.hid (NX.out nq)
              clear NX k0 k1 k2 k3 k4 k5 k6 k7 k8 k9 k10 k11 k12 m0 m1 m2 m3 m4 m5 m6 m7 m8 m9 m10 m11 m12
              generalize wr.drewN nq = V3 at *
              obtain ⟨⟨k0, k1, k2, k3, k4, k5, k6, k7, k8, k9, k10, k11, k12⟩, ⟨f0, f1, f2, f3, f4, f5, f6, f7, f8, f9, f10, f11, f12⟩⟩ := FR.out _ HV.out
              have HS := Lib.hid (SD.out _ HV.out)
              clear FR SD HV
              go_wp2
              go_roundw
              case rel => exact ⟨j + 1, tl2, by omega, hl3, hs3.out, by go_num, HS⟩
              case measure => simp [intOf]; omega
            · obtain rfl : j = l.length := by omega
              have q3 : ¬ (l.length : Int) < (l.length : Int) := by omega
              clear hsm bz_ RXl
              rw [htl] at HP
              go_wp2_with (first
                | (go_at_call 19; refine (FL.out _ _ _ _ HP.out).mono ?_; rintro e w15 ⟨A5, c5, rfl, h15⟩; clear FL HP)
                | (go_at_call 21; refine (RF.out _ _ _ _ _ _ h15).mono ?_; rintro e w16 ⟨A6, c6, rfl, h16⟩; clear RF h15)
                | (go_at_call 20; refine (SM.out _ _ _ _ _ _ _ h16).mono ?_; rintro e w17 ⟨rfl, h17⟩; clear SM h16)
                | (go_at_call 13; refine (AL2.out _ _ _ h17).mono ?_; rintro e w18 ⟨rfl, h18⟩; clear AL2 h17)
                | (go_at_call 18; refine (BL2.out _ _ _ h18).mono ?_; rintro e w19 ⟨rfl, rfl⟩; clear BL2)
                | (go_at_call 17; refine (LS2.out _ _ _ h18).mono ?_; rintro e w20 ⟨⟨A7, c7, rfl⟩, h20⟩; clear LS2 h18)
                | (go_at_call 19; refine (FL2.out _ _ _ h20).mono ?_; rintro e w21 ⟨⟨A8, c8, rfl⟩, b21⟩; clear FL2 h20)
                | (go_at_call 14; refine (AW.out _).mono ?_; rintro e w22 ⟨rfl, b22⟩; clear AW))
              go_ret
              exact ⟨rfl, b21.trans (b22.mono b21.size)⟩
end Go.Proofs.Yteollbioeamciaa
