/- The law BufferParts, walked. Written by wip/tools/genbulaw.py. -/
import Derived.Test.YteollbioeamciaaKBuL5
import Derived.Test.YteollbioeamciaaKBuG
import Derived.Stop.RegionWithIn
import Derived.Sort.CutIn
namespace Go.Proofs.Yteollbioeamciaa
open Go.RowKit Go.Shelf Pz Ar Bu Sp
set_option linter.unusedVariables false
set_option linter.unusedSimpArgs false

attribute [local go_sem] Oper.semAt_some
theorem ymod_lo (k : Int) {n : Int} (hn : 0 < n) : 0 ≤ k.tmod n + n ∧ k.tmod n + n < 2 * n := by
  have h2 := Int.tmod_lt_of_pos k hn
  have h1 : -n < k.tmod n := by
    have := Int.tmod_lt_of_pos (-k) hn
    rw [Int.neg_tmod] at this
    omega
  omega
theorem ymod_is (k : Int) {n : Int} (hn : 0 < n) : (k.tmod n + n).tmod n = k % n := by
  rw [Int.tmod_eq_emod_of_nonneg (ymod_lo k hn).1, Int.add_emod_right, Int.tmod_def, Int.sub_eq_add_neg, ← Int.mul_neg, Int.add_mul_emod_self_left]
theorem Sep.closed2 {w W : World} {L : List Piece} {D D' : Nat} (h : Sep w (box D' (.deferred (some [])) :: box D (.deferred (some [])) :: L) W) (hD : w.heap.size ≤ D) (hD' : w.heap.size ≤ D') (hne : D ≠ D') :
    W.heap[D']? = some (.deferred (some [])) ∧ (W.putObj D' (.deferred none)).heap[D]? = some (.deferred (some [])) ∧ Below w.heap.size w ((W.putObj D' (.deferred none)).putObj D (.deferred none)) :=
  ⟨h.held 0 rfl, (World.putObj_heap_other hne).trans (h.held 1 rfl), below_put (below_put h.bel hD') hD⟩
theorem b_bn (xs xi xg xm xx xy xvx xvy xh xp xl : Int) (V : World) : (Instr.buildSlice LTY 1 #[(0, .agg #[.int .i64 xs, .int .i64 xi, .int .i64 xg, .int .i64 xm, .int .i64 xx, .int .i64 xy, .int .i64 xvx, .int .i64 xvy, .int .i64 xh, .int .i64 xp, .int .i64 xl])]).run Try.prog V = .ok (.slice (some ⟨V.heap.size, 0, none⟩) 1 1) (V.alloc (.cells #[.int .i64 xs, .int .i64 xi, .int .i64 xg, .int .i64 xm, .int .i64 xx, .int .i64 xy, .int .i64 xvx, .int .i64 xvy, .int .i64 xh, .int .i64 xp, .int .i64 xl] 36)) := by kernel_rfl
set_option maxHeartbeats 16000000 in
set_option maxRecDepth 100000 in
theorem law_parts (w : World) (A1 : Option Addr) (c1 : Nat) (p0 : List De) (pc : p0.length ≤ c1) (pcap : c1 ≤ 140737488351232) (pF : ∀ x ∈ p0, Fit x.b.m ∧ Fit x.m) (pR : RdDe w w.heap.size A1 p0) (cut : Int) :
    Calls Try.prog 5 #[.slice A1 p0.length c1, .int .i64 cut] w fun e w' => e = .returned (.bool true) ∧ Below w.heap.size w w' := by
  have FWp := Lib.hid fun W (hW : Below w.heap.size w W) => few_any ((pR.below hW).more hW.size) pc pcap
  obtain ⟨p, hlp⟩ : ∃ l, l = p0.take 60 := ⟨_, rfl⟩
  have h6p : p.length ≤ 60 := by rw [hlp, List.length_take]; omega
  have RXp := (pR.take 60)
  rw [← hlp] at RXp FWp
  clear hlp pR pF pc pcap
  obtain ⟨n, hn⟩ : ∃ n, p.length = n := ⟨_, rfl⟩
  rw [hn] at h6p FWp
  obtain ⟨M, hM⟩ : ∃ M : Int, (n : Int) + 1 = M := ⟨_, rfl⟩
  have hpos : 0 < M := by omega
  have y1 := ymod_lo cut hpos
  have y2 := ymod_is cut hpos
  obtain ⟨k, hk⟩ : ∃ k : Nat, cut % M = (k : Int) := ⟨(cut % M).toNat, by have := Int.emod_nonneg cut (b := M) (by omega); omega⟩
  have hkn : k ≤ n := by have := Int.emod_lt_of_pos cut hpos; omega
  rw [hk] at y2
  obtain ⟨d1, r1⟩ : ∃ d, cut.tmod M + (n : Int) = d := ⟨_, rfl⟩
  obtain ⟨d2, r2⟩ : ∃ d, d1 + 1 = d := ⟨_, rfl⟩
  have r3 : d2.tmod M = (k : Int) := by rw [← y2]; congr 1; omega
  have wM : IntKind.i64.wrap M = M := IntWalk.i64_in _ ⟨by omega, by omega⟩
  have w1_ : IntKind.i64.wrap d1 = d1 := IntWalk.i64_in _ ⟨by omega, by omega⟩
  have w2_ : IntKind.i64.wrap d2 = d2 := IntWalk.i64_in _ ⟨by omega, by omega⟩
  have nz : (M == 0) = false := by rw [beq_eq_false_iff_ne]; omega
  have nz2 : decide (M = 0) = false := decide_eq_false (by omega)
  have nz3 : M ≠ 0 := by omega
  have hn6 : (n : Int) ≤ 60 := by omega
  have hM6 : M ≤ 61 := by omega
  have hd1 : -1000 ≤ d1 ∧ d1 ≤ 1000 := by omega
  clear y1 y2 hk hpos
  -- the deeds, in two parts
  obtain ⟨lk, elk⟩ : ∃ l, l = p.take k := ⟨_, rfl⟩
  obtain ⟨ld, eld⟩ : ∃ l, l = p.drop k := ⟨_, rfl⟩
  obtain ⟨m, hm⟩ : ∃ m, m = n - k := ⟨_, rfl⟩
  have hlk : lk.length = k := by rw [elk, List.length_take]; omega
  have hld : ld.length = m := by rw [eld, List.length_drop]; omega
  have ekd : lk ++ ld = p := by rw [elk, eld, List.take_append_drop]
  obtain ⟨tk, etk⟩ : ∃ t, t = bdos T0 lk := ⟨_, rfl⟩
  obtain ⟨T, eT⟩ : ∃ t, t = bdos T0 p := ⟨_, rfl⟩
  have eT2 : bdos tk ld = T := by rw [eT, ← ekd, bdos_app, etk]
  obtain ⟨S, eS⟩ : ∃ t, t = said T0 p := ⟨_, rfl⟩
  have eS2 : said T0 lk ++ said tk ld = S := by rw [eS, ← ekd, said_app, etk]
  have hS : S.length = n := by rw [eS, said_len, hn]
  have l0 : Le tk 60 := by rw [etk]; exact (le_bdos lk le_none).mono (by omega)
  have lT : Le T 60 := by rw [eT]; exact (le_bdos p le_none).mono (by omega)
  have gT : Ar.Good T := by rw [eT]; exact good_bdos p good_none
  have hfl : (all T).length ≤ 10000 := by rw [total_all]; exact total_few lT (by decide)
  have AW := Lib.hid awake_any
  have SLX : Hid (∀ c : Nat, n ≤ c → ∃ F1 F2, (∀ V, (Instr.sliceAt DLT (.slice A1 n c) none (some (.int .i64 (k : Int))) none).run Try.prog V = .ok (.slice F1 k c) V) ∧ RdDe w w.heap.size F1 lk ∧ (∀ V, (Instr.sliceAt DLT (.slice A1 n c) (some (.int .i64 (k : Int))) none none).run Try.prog V = .ok (.slice F2 m (c - k)) V) ∧ RdDe w w.heap.size F2 ld) := Lib.hid fun c hc => by
    obtain ⟨F1, f1, f2⟩ := front_any (c := c) RXp (k := k) (by omega) (by omega)
    obtain ⟨F2, f3, f4⟩ := back_any (c := c) RXp (k := k) (by omega) (by omega)
    rw [← eld, hld] at f3
    rw [hn] at f1 f3
    exact ⟨F1, F2, f1, by rw [elk]; exact f2, f3, by rw [eld]; exact f4⟩
  have N1 := Lib.hid fun V (h : Sep w [] V) => sep_store h
  have N2 := Lib.hid fun sA V (h : Sep w [stC sA T0] V) => sep_store h
  have N3 := Lib.hid fun sA sB V (h : Sep w [stC sB T0, stC sA T0] V) => sep_buf h
  have N4 := Lib.hid fun sA sB ba V (h : Sep w [buf ba [], stC sB T0, stC sA T0] V) => sep_buf h
  have A1X : Hid (∀ sA sB ba bb F1 (c : Nat) V, RdDe w w.heap.size F1 lk → Sep w [buf bb [], buf ba [], stC sB T0, stC sA T0] V → Calls Try.prog 16 #[.pointer (some ⟨ba, 0, none⟩), .slice F1 k c] V fun e V' => e = .returned (.int .i64 0) ∧ Sep w [buf ba lk, buf bb [], stC sB T0, stC sA T0] V') := Lib.hid fun sA sB ba bb F1 c V hR hV => by
    have := (show Sep w [buf ba [], buf bb [], stC sB T0, stC sA T0] V from hV.pull 1 rfl).add_ (c := c) ((hR.below hV.bel).more hV.bel.size) (by simp; omega)
    rw [hlk] at this
    exact this
  have F1X : Hid (∀ sA sB ba bb V, Sep w [buf ba lk, buf bb [], stC sB T0, stC sA T0] V → Calls Try.prog 19 #[.pointer (some ⟨ba, 0, none⟩), .pointer (some ⟨sA, 0, none⟩)] V fun e V' => ∃ A c, e = .returned (.slice A k c) ∧ Sep w [rowE (.slice A k c) (said T0 lk), stC sA tk, buf ba [], buf bb [], stC sB T0] V') := Lib.hid fun sA sB ba bb V hV => by
    have := (show Sep w [stC sA T0, buf ba lk, buf bb [], stC sB T0] V from hV.pull 3 rfl).flush le_none (by omega)
    rw [hlk, ← etk] at this
    exact this
  have A2X : Hid (∀ sA sB ba bb F2 (c : Nat) x V, RdDe w w.heap.size F2 ld → Sep w [x, stC sA tk, buf ba [], buf bb [], stC sB T0] V → Calls Try.prog 16 #[.pointer (some ⟨ba, 0, none⟩), .slice F2 m c] V fun e V' => e = .returned (.int .i64 0) ∧ Sep w [buf ba ld, x, stC sA tk, buf bb [], stC sB T0] V') := Lib.hid fun sA sB ba bb F2 c x V hR hV => by
    have := (show Sep w [buf ba [], x, stC sA tk, buf bb [], stC sB T0] V from hV.pull 2 rfl).add_ (c := c) ((hR.below hV.bel).more hV.bel.size) (by simp; omega)
    rw [hld] at this
    exact this
  have F2X : Hid (∀ sA sB ba bb A c V, Sep w [buf ba ld, rowE (.slice A k c) (said T0 lk), stC sA tk, buf bb [], stC sB T0] V → Calls Try.prog 19 #[.pointer (some ⟨ba, 0, none⟩), .pointer (some ⟨sA, 0, none⟩)] V fun e V' => ∃ A2 c2 A3 c3 V2, e = .returned (.slice A2 m c2) ∧ (Builtin.append_ #[48, 48] 48 #[.slice A k c, .slice A2 m c2]).run Try.prog V' = .ok (.slice A3 n c3) V2 ∧ Sep w [rowE (.slice A3 n c3) S, stC sA T, buf bb [], stC sB T0] V2) := Lib.hid fun sA sB ba bb A c V hV => by
    have := (show Sep w [stC sA tk, buf ba ld, rowE (.slice A k c) (said T0 lk), buf bb [], stC sB T0] V from hV.pull 2 rfl).flush l0 (by omega)
    refine this.mono ?_
    rintro e V' ⟨A2, c2, rfl, h2⟩
    rw [eT2] at h2
    have hsl : (said tk ld).length = m := by rw [said_len, hld]
    have h3 : Sep w [rowE (.slice A k c) (said T0 lk), rowE (.slice A2 (said tk ld).length c2) (said tk ld), stC sA T, buf ba [], buf bb [], stC sB T0] V' := by
      rw [hsl, ← hld]; exact h2.pull 3 rfl
    obtain ⟨A3, c3, V2, hr, h4⟩ := joined h3 (by rw [said_len, said_len]; omega) 48
    rw [eS2, hS] at hr h4
    rw [hsl] at hr
    rw [hld]
    exact ⟨A2, c2, A3, c3, V2, rfl, hr, ((h4.pull 2 rfl).drop)⟩
  have A3X : Hid (∀ sA sB bb F1 (c : Nat) x V, RdDe w w.heap.size F1 lk → Sep w [x, stC sA T, buf bb [], stC sB T0] V → Calls Try.prog 16 #[.pointer (some ⟨bb, 0, none⟩), .slice F1 k c] V fun e V' => e = .returned (.int .i64 0) ∧ Sep w [buf bb lk, x, stC sA T, stC sB T0] V') := Lib.hid fun sA sB bb F1 c x V hR hV => by
    have := (show Sep w [buf bb [], x, stC sA T, stC sB T0] V from hV.pull 2 rfl).add_ (c := c) ((hR.below hV.bel).more hV.bel.size) (by simp; omega)
    rw [hlk] at this
    exact this
  have A4X : Hid (∀ sA sB bb F2 (c : Nat) x V, RdDe w w.heap.size F2 ld → Sep w [buf bb lk, x, stC sA T, stC sB T0] V → Calls Try.prog 16 #[.pointer (some ⟨bb, 0, none⟩), .slice F2 m c] V fun e V' => e = .returned (.int .i64 0) ∧ Sep w [buf bb p, x, stC sA T, stC sB T0] V') := Lib.hid fun sA sB bb F2 c x V hR hV => by
    have := hV.add_ (c := c) ((hR.below hV.bel).more hV.bel.size) (by omega)
    rw [hld, ekd] at this
    exact this
  have F3X : Hid (∀ sA sB bb x V, Sep w [buf bb p, x, stC sA T, stC sB T0] V → Calls Try.prog 19 #[.pointer (some ⟨bb, 0, none⟩), .pointer (some ⟨sB, 0, none⟩)] V fun e V' => ∃ A c, e = .returned (.slice A n c) ∧ Sep w [rowE (.slice A n c) S, stC sB T, x, stC sA T] V') := Lib.hid fun sA sB bb x V hV => by
    have := (show Sep w [stC sB T0, buf bb p, x, stC sA T] V from hV.pull 3 rfl).flush le_none (by omega)
    rw [hn, ← eT, ← eS] at this
    exact this.mono fun e V' ⟨A, c, a, b⟩ => ⟨A, c, a, (b.pull 2 rfl).drop⟩
  have AC := Lib.hid fun s W => allc_any W (.pointer (some ⟨s, 0, none⟩)) (.inr ⟨s, rfl⟩)
  have EQF := fun b V => eql_fun 41 b V
  have hne : ((n : Int) != (n : Int)) = false := by simp
  clear elk eld hm hlk hld ekd etk eT2 eS eS2 l0 lT eT hn RXp
  generalize p0.length = n0 at *
  refine (callsIn_wide (n := 9)).1 ?_
  refine callsIn_of_wp_marks Try.func5 rfl trivial ?_ rfl
  simp only [Try.ntmps5, List.size_toArray, List.length_cons, List.length_nil, Nat.reduceAdd, Nat.reduceSub, Array.replicate_succ, Array.replicate_zero, List.push_toArray, List.append_toArray, List.nil_append, List.cons_append]
  refine wpIn_wide.2 ?_
  go_upto_region 5 with (first
    | (go_at_call 14; refine (AW.out _).mono ?_; rintro e wa ⟨rfl, ba⟩; have Ha := (sep_new w).below ba; clear ba)
    | (go_at_call 10; refine (FWp.out _ Ha.bel).mono ?_; rintro e w2 ⟨⟨c1', rfl, hc1, _⟩, rfl⟩; have H2 := Lib.hid Ha; clear FWp Ha))
  obtain ⟨F1, F2, SL1, R1, SL2, R2⟩ := SLX.out c1' hc1
  replace R1 := Lib.hid R1
  replace R2 := Lib.hid R2
  clear SLX r1 r2 r3 wM w1_ w2_ nz nz2 nz3 hM hM6 hd1
  go_upto_region 14 with (first
    | (go_at_call 9; refine (N1.out _ H2.out).mono ?_; rintro e w3 ⟨rfl, h3⟩; clear N1 H2)
    | (go_at_call 9; refine (N2.out _ _ h3).mono ?_; rintro e w4 ⟨rfl, h4⟩; clear N2 h3)
    | (go_at_call 15; refine (N3.out _ _ _ h4).mono ?_; rintro e w5 ⟨rfl, h5⟩; clear N3 h4)
    | (go_at_call 15; refine (N4.out _ _ _ _ h5).mono ?_; rintro e w6 ⟨rfl, h6⟩; clear N4 h5)
    | (go_at_call 16; refine (A1X.out _ _ _ _ _ _ _ R1.out h6).mono ?_; rintro e w7 ⟨rfl, h7⟩; clear A1X h6)
    | (go_at_call 19; refine (F1X.out _ _ _ _ _ h7).mono ?_; rintro e w8 ⟨A8, c8, rfl, h8⟩; clear F1X h7)
    | (go_at_call 16; refine (A2X.out _ _ _ _ _ _ _ _ R2.out h8).mono ?_; rintro e w9 ⟨rfl, h9⟩; clear A2X h8)
    | (go_at_call 19; refine (F2X.out _ _ _ _ _ _ _ h9).mono ?_; rintro e w10 ⟨A10, c10, A3, c3, w11, rfl, hr, h11⟩; have HR := Lib.hid hr; clear F2X h9 hr)
    | (at_builtin; refine wpList_append _ rfl (.tmp 51) (.tmp 54) _ _ rfl _ _ rfl rfl _ _ HR.out ?_; clear HR)
    | (go_at_call 16; refine (A3X.out _ _ _ _ _ _ _ R1.out h11).mono ?_; rintro e w12 ⟨rfl, h12⟩; clear A3X h11)
    | (go_at_call 16; refine (A4X.out _ _ _ _ _ _ _ R2.out h12).mono ?_; rintro e w13 ⟨rfl, h13⟩; clear A4X h12)
    | (go_at_call 19; refine (F3X.out _ _ _ _ _ h13).mono ?_; rintro e w14 ⟨A14, c14, rfl, h14⟩; clear F3X h13))
  generalize wa.heap.size = sA at *
  generalize w3.heap.size = sB at *
  generalize w4.heap.size = ba at *
  generalize w5.heap.size = bb at *
  have H14 := Lib.hid h14
  clear h14 SL1 SL2 R1 R2
  go_wp2
  go_loopw [12] (fun i wr => ∃ j : Nat, j ≤ n ∧ i = .int .i64 j ∧ Hid (Sep w [rowE (.slice A14 n c14) S, stC sB T, rowE (.slice A3 n c3) S, stC sA T] wr)) (fun i _ => n - (intOf i).toNat)
  case atStart => exact ⟨0, Nat.zero_le _, rfl, H14⟩
  case round =>
    obtain ⟨j, hj, rfl, HP⟩ := hrel
    clear H14
    by_cases hjn : j < n
    · have q1 : (j : Int) < (n : Int) := by omega
      obtain ⟨z, hz⟩ : ∃ z, S[j]? = some z := ⟨_, List.getElem?_eq_getElem (by omega)⟩
      obtain ⟨g1, o1, rfl, _, _, k1⟩ := num_at' (HP.out.rows 0 rfl) hz
      obtain ⟨g2, o2, rfl, _, _, k2⟩ := num_at' (HP.out.rows 2 rfl) hz
      have nm : (z != z) = false := by simp
      have NX : Hid (∀ q, Sep w [rowE (.slice (some ⟨g1, o1, none⟩) n c14) S, stC sB T, rowE (.slice (some ⟨g2, o2, none⟩) n c3) S, stC sA T] (wr.drewN q)) := Lib.hid fun q => HP.out.below (Below.dn' (Below.refl _ _) q)
      clear AW AC EQF
      go_upto_region 19 with fail
      go_quiet (fail)
      go_wp2
      go_roundw
      case rel => exact ⟨j + 1, by omega, by go_num, by first | exact Lib.hid (NX.out _) | exact HP⟩
      case measure => simp [intOf]; omega
    · obtain rfl : j = n := by omega
      have q1 : ¬ (j : Int) < (j : Int) := by omega
      have H3 : Sep w [stC sB T, stC sA T] wr := ((HP.out.drop).pull 1 rfl).drop
      clear HP hS
      go_upto_region 22 with fail
      have H4 : Sep w [gath (wr.heap.size + 1) [], gath wr.heap.size [], stC sB T, stC sA T] ((wr.alloc (.cells #[.slice none 0 0] LTY)).alloc (.cells #[.slice none 0 0] LTY)) := by
        have := sep_gath (sep_gath H3)
        rw [size1] at this
        exact this
      clear H3
      generalize (wr.alloc (.cells #[.slice none 0 0] LTY)).alloc (.cells #[.slice none 0 0] LTY) = w20 at *
      generalize wr.heap.size + 1 = gq at *
      generalize wr.heap.size = gp at *
      go_wp2_with (go_at_call 22; refine (AC.out _ _).mono ?_; rintro e w21 ⟨rfl, rfl⟩)
      have h5 : Sep w [box w20.heap.size (.cells #[.pointer (some ⟨sA, 0, none⟩)] PST), gath gq [], gath gp [], stC sB T, stC sA T] (w20.alloc (.cells #[.pointer (some ⟨sA, 0, none⟩)] PST)) := sep_box H4 _
      clear H4
      generalize w20.alloc (.cells #[.pointer (some ⟨sA, 0, none⟩)] PST) = w5 at *
      generalize w20.heap.size = pb at *
      have hpb := h5.held 0 rfl
      have h6 : Sep w [stC sA T, box pb (.cells #[.pointer (some ⟨sA, 0, none⟩)] PST), gath gq [], gath gp [], stC sB T] w5 := h5.pull 4 rfl
      clear h5
      obtain ⟨F, hC, hlt, h7⟩ := h6.still
      clear h6
      have h8 : Sep w [keepP (fun k => F k ∨ k = pb) w5, gath gp [], gath gq [], stC sB T] w5 := (h7.pull 2 rfl).pull 1 rfl
      clear h7
      have hw5 : w.heap.size ≤ w5.heap.size := h8.bel.size
      refine (wpIn_wide (n := 9)).1 ?_
      refine withAct fun a0 ha0 => ?_
      refine sep_range (by omega) (gf := 41) (lb := #[.pointer (some ⟨pb, 0, none⟩)]) rfl (enters_of Try.func41 (by kernel_rfl) rfl) rfl hlt (full := all T)
        (fun pre => [gath gp pre, gath gq [], stC sB T])
        (fun x a' V => ∃ b, V.heap[b]? = some (.cells #[.int .i64 x.s, .int .i64 x.i, .int .i64 x.g, .int .i64 x.m, .int .i64 x.x, .int .i64 x.y, .int .i64 x.vx, .int .i64 x.vy, .int .i64 x.h, .int .i64 x.p, .int .i64 x.l] 36 (0, 0)) ∧ a' = (({ tmps := a0.tmps, defers := [] } : Act).put (some 98) x.val).put (some 15) (.pointer (some ⟨b, 0, none⟩)))
        (fun x a' A kk o' hT hA => ?ap) (seq_any hC hpb 8 (by omega)) ?assign ?body h8 ?done
      case ap =>
        obtain ⟨_, o, g2, g3, _⟩ := hT
        obtain ⟨b, e1, e2⟩ := hA
        exact ⟨b, cells_put e1 g2 g3, e2⟩
      case assign =>
        intro l x W K hK
        have HK := Lib.hid (hK ((({ tmps := a0.tmps, defers := [] } : Act).put (some 98) x.val).put (some 15) (.pointer (some ⟨W.heap.size, 0, none⟩))) _ (bel1 W (.cells #[.int .i64 x.s, .int .i64 x.i, .int .i64 x.g, .int .i64 x.m, .int .i64 x.x, .int .i64 x.y, .int .i64 x.vx, .int .i64 x.vy, .int .i64 x.h, .int .i64 x.p, .int .i64 x.l] 36)) ⟨W.heap.size, at1 W (.cells #[.int .i64 x.s, .int .i64 x.i, .int .i64 x.g, .int .i64 x.m, .int .i64 x.x, .int .i64 x.y, .int .i64 x.vx, .int .i64 x.vy, .int .i64 x.h, .int .i64 x.p, .int .i64 x.l] 36), rfl⟩)
        clear hK h8 hC hlt
        subst ha0
        simp only [encB, Bn.val] at *
        gi_wp2
        exact HK.out
      case body =>
        rintro pre x W a' o1 o2 HS hpre ⟨bx, hbx, rfl⟩
        have hlen : pre.length ≤ 10000 := by
          have h1 := hpre.length_le
          simp only [List.length_append, List.length_singleton] at h1
          omega
        have HG : Sep w [gath gp pre, box w5.heap.size o1, box (w5.heap.size + 1) o2, keepP (fun k => F k ∨ k = pb) w5, gath gq [], stC sB T] W := HS.pull 3 rfl
        obtain ⟨Ag, cg, kl, A', c', V, hrun, v1, v2, HN⟩ := HG.more x (by omega)
        have HX : Hid (Sep w [box w5.heap.size o1, box (w5.heap.size + 1) o2, keepP (fun k => F k ∨ k = pb) w5, gath gp (pre ++ [x]), gath gq [], stC sB T] (V.setCell ⟨gp, 0, none⟩ (.slice A' (pre.length + 1) c'))) := Lib.hid (by
          have a1 : Sep w [keepP (fun k => F k ∨ k = pb) w5, gath gp (pre ++ [x]), box w5.heap.size o1, box (w5.heap.size + 1) o2, gath gq [], stC sB T] _ := HN.pull 3 rfl
          have a2 : Sep w [box (w5.heap.size + 1) o2, keepP (fun k => F k ∨ k = pb) w5, gath gp (pre ++ [x]), box w5.heap.size o1, gath gq [], stC sB T] _ := a1.pull 3 rfl
          exact a2.pull 3 rfl)
        have HR := Lib.hid hrun
        obtain ⟨⟨n0, n1, n2, n3, n4, n5, n6, n7, n8, n9, n10⟩, _⟩ := Bx.b11 hbx
        have B2 := fun V => b_bn x.s x.i x.g x.m x.x x.y x.vx x.vy x.h x.p x.l V
        clear HS HG HN hrun hpre hbx h8 hC hlt AW
        subst ha0
        simp only [Bn.val] at *
        gi_wp2_with (gi_at_builtin; refine wpListIn_append rfl (.tmp 99) (.tmp 101) _ _ rfl _ _ rfl rfl _ _ HR.out ?_)
        exact HX.out
      case done =>
        intro W HW
        have hD := Bx.lt (HW.held 0 rfl)
        have H9 : Sep w [gath gq [], gath gp (all T), stC sB T, box w5.heap.size (.deferred (some []))] W := by
          have a1 : Sep w [keepP (fun k => F k ∨ k = pb) w5, box w5.heap.size (.deferred (some [])), gath gp (all T), gath gq [], stC sB T] W := HW.pull 1 rfl
          have a2 : Sep w [gath gp (all T), box w5.heap.size (.deferred (some [])), gath gq [], stC sB T] W := a1.drop.pull 1 rfl
          have a3 : Sep w [stC sB T, gath gp (all T), box w5.heap.size (.deferred (some [])), gath gq []] W := a2.pull 3 rfl
          have a4 : Sep w [box w5.heap.size (.deferred (some [])), stC sB T, gath gp (all T), gath gq []] W := a3.pull 2 rfl
          have a5 : Sep w [stC sB T, box w5.heap.size (.deferred (some [])), gath gp (all T), gath gq []] W := a4.pull 1 rfl
          have a6 : Sep w [gath gp (all T), stC sB T, box w5.heap.size (.deferred (some [])), gath gq []] W := a5.pull 2 rfl
          exact a6.pull 3 rfl
        clear HW h8 hC hlt hpb ha0
        go_wp2_with (go_at_call 22; refine (AC.out _ _).mono ?_; rintro e w22 ⟨rfl, rfl⟩)
        have h10 : Sep w [box W.heap.size (.cells #[.pointer (some ⟨sB, 0, none⟩)] PST), gath gq [], gath gp (all T), stC sB T, box w5.heap.size (.deferred (some []))] (W.alloc (.cells #[.pointer (some ⟨sB, 0, none⟩)] PST)) := sep_box H9 _
        have hDW : w5.heap.size < (W.alloc (.cells #[.pointer (some ⟨sB, 0, none⟩)] PST)).heap.size := by rw [size1]; omega
        clear H9
        generalize W.alloc (.cells #[.pointer (some ⟨sB, 0, none⟩)] PST) = w6 at *
        generalize W.heap.size = pb2 at *
        have hpb := h10.held 0 rfl
        have h11 : Sep w [stC sB T, box pb2 (.cells #[.pointer (some ⟨sB, 0, none⟩)] PST), gath gq [], gath gp (all T), box w5.heap.size (.deferred (some []))] w6 := h10.pull 3 rfl
        clear h10
        obtain ⟨F2, hC, hlt, h12⟩ := h11.still
        clear h11
        have hw6 : w.heap.size ≤ w6.heap.size := h12.bel.size
        refine (wpIn_wide (n := 9)).1 ?_
        refine withAct fun a0 ha0 => ?_
        refine sep_range (by omega) (gf := 41) (lb := #[.pointer (some ⟨pb2, 0, none⟩)]) rfl (enters_of Try.func41 (by kernel_rfl) rfl) rfl hlt (full := all T)
          (fun pre => [gath gq pre, gath gp (all T), box w5.heap.size (.deferred (some []))])
          (fun x a' V => ∃ b, V.heap[b]? = some (.cells #[.int .i64 x.s, .int .i64 x.i, .int .i64 x.g, .int .i64 x.m, .int .i64 x.x, .int .i64 x.y, .int .i64 x.vx, .int .i64 x.vy, .int .i64 x.h, .int .i64 x.p, .int .i64 x.l] 36 (0, 0)) ∧ a' = (({ tmps := a0.tmps, defers := [] } : Act).put (some 105) x.val).put (some 16) (.pointer (some ⟨b, 0, none⟩)))
          (fun x a' A kk o' hT hA => ?ap) (seq_any hC hpb 8 (by omega)) ?assign ?body h12 ?done
        case ap =>
          obtain ⟨_, o, g2, g3, _⟩ := hT
          obtain ⟨b, e1, e2⟩ := hA
          exact ⟨b, cells_put e1 g2 g3, e2⟩
        case assign =>
          intro l x W K hK
          have HK := Lib.hid (hK ((({ tmps := a0.tmps, defers := [] } : Act).put (some 105) x.val).put (some 16) (.pointer (some ⟨W.heap.size, 0, none⟩))) _ (bel1 W (.cells #[.int .i64 x.s, .int .i64 x.i, .int .i64 x.g, .int .i64 x.m, .int .i64 x.x, .int .i64 x.y, .int .i64 x.vx, .int .i64 x.vy, .int .i64 x.h, .int .i64 x.p, .int .i64 x.l] 36)) ⟨W.heap.size, at1 W (.cells #[.int .i64 x.s, .int .i64 x.i, .int .i64 x.g, .int .i64 x.m, .int .i64 x.x, .int .i64 x.y, .int .i64 x.vx, .int .i64 x.vy, .int .i64 x.h, .int .i64 x.p, .int .i64 x.l] 36), rfl⟩)
          clear hK h12 hC hlt
          subst ha0
          simp only [encB, Bn.val] at *
          gi_wp2
          exact HK.out
        case body =>
          rintro pre x W a' o1 o2 HS hpre ⟨bx, hbx, rfl⟩
          have hlen : pre.length ≤ 10000 := by
            have h1 := hpre.length_le
            simp only [List.length_append, List.length_singleton] at h1
            omega
          have HG : Sep w [gath gq pre, box w6.heap.size o1, box (w6.heap.size + 1) o2, keepP (fun k => F2 k ∨ k = pb2) w6, gath gp (all T), box w5.heap.size (.deferred (some []))] W := HS.pull 3 rfl
          obtain ⟨Ag, cg, kl, A', c', V, hrun, v1, v2, HN⟩ := HG.more x (by omega)
          have HX : Hid (Sep w [box w6.heap.size o1, box (w6.heap.size + 1) o2, keepP (fun k => F2 k ∨ k = pb2) w6, gath gq (pre ++ [x]), gath gp (all T), box w5.heap.size (.deferred (some []))] (V.setCell ⟨gq, 0, none⟩ (.slice A' (pre.length + 1) c'))) := Lib.hid (by
            have a1 : Sep w [keepP (fun k => F2 k ∨ k = pb2) w6, gath gq (pre ++ [x]), box w6.heap.size o1, box (w6.heap.size + 1) o2, gath gp (all T), box w5.heap.size (.deferred (some []))] _ := HN.pull 3 rfl
            have a2 : Sep w [box (w6.heap.size + 1) o2, keepP (fun k => F2 k ∨ k = pb2) w6, gath gq (pre ++ [x]), box w6.heap.size o1, gath gp (all T), box w5.heap.size (.deferred (some []))] _ := a1.pull 3 rfl
            exact a2.pull 3 rfl)
          have HR := Lib.hid hrun
          obtain ⟨⟨n0, n1, n2, n3, n4, n5, n6, n7, n8, n9, n10⟩, _⟩ := Bx.b11 hbx
          have B2 := fun V => b_bn x.s x.i x.g x.m x.x x.y x.vx x.vy x.h x.p x.l V
          clear HS HG HN hrun hpre hbx h12 hC hlt AW
          subst ha0
          simp only [Bn.val] at *
          gi_wp2_with (gi_at_builtin; refine wpListIn_append rfl (.tmp 106) (.tmp 108) _ _ rfl _ _ rfl rfl _ _ HR.out ?_)
          exact HX.out
        case done =>
          intro W2 HW
          have a1 : Sep w [keepP (fun k => F2 k ∨ k = pb2) w6, box w6.heap.size (.deferred (some [])), gath gq (all T), gath gp (all T), box w5.heap.size (.deferred (some []))] W2 := HW.pull 1 rfl
          have a2 : Sep w [box w6.heap.size (.deferred (some [])), gath gq (all T), gath gp (all T), box w5.heap.size (.deferred (some []))] W2 := a1.drop
          obtain ⟨Aq, cq, kq, oq⟩ := a2.gathered 1 rfl
          obtain ⟨Ap, cp, kp, op⟩ := a2.gathered 2 rfl
          have SM : Hid (Calls Try.prog 23 #[.slice Ap (all T).length cp, .slice Aq (all T).length cq] W2 fun e V => e = .returned (.bool true) ∧ Below W2.heap.size W2 V) := Lib.hid (rsame_yes (RdB.of_own op) (RdB.of_own oq) (by omega))
          have CLO : Hid (∀ V, Below W2.heap.size W2 V → V.heap[w6.heap.size]? = some (.deferred (some [])) ∧ (V.putObj w6.heap.size (.deferred none)).heap[w5.heap.size]? = some (.deferred (some [])) ∧ Below w.heap.size w ((V.putObj w6.heap.size (.deferred none)).putObj w5.heap.size (.deferred none))) := Lib.hid fun V hV => by
            have b1 : Sep w [box w5.heap.size (.deferred (some [])), box w6.heap.size (.deferred (some [])), gath gq (all T), gath gp (all T)] W2 := a2.pull 3 rfl
            exact (show Sep w [box w6.heap.size (.deferred (some [])), box w5.heap.size (.deferred (some [])), gath gq (all T), gath gp (all T)] V from (b1.pull 1 rfl).below hV).closed2 hw5 hw6 (by omega)
          clear HW a1 a2 oq op hC hlt h12 hpb ha0
          generalize (all T).length = nT at *
          go_wp2_with (first
            | (go_at_call 23; refine SM.out.mono ?_; rintro e w30 ⟨rfl, b30⟩; clear SM kq kp)
            | (go_at_call 14; refine (AW.out _).mono ?_; rintro e w31 ⟨rfl, b31⟩; have b32 := b30.trans (b31.mono b30.size); clear AW))
          obtain ⟨x1, x2, x3⟩ := CLO.out _ b32
          refine ⟨by simp, .inl ⟨_, _, rfl, run_takeDeferred x1, ⟨by simp, .inl ⟨_, _, rfl, run_takeDeferred x2, ?_⟩⟩⟩⟩
          exact ⟨_, results_tmp rfl _ _ _, rfl, x3⟩
end Go.Proofs.Yteollbioeamciaa
