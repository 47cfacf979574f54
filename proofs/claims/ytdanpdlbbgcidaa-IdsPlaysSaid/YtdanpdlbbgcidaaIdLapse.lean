/- A shard lapses: each free index whose generation is set aside has its bound; who is worn leaves the row. -/
import Derived.Test.YtdanpdlbbgcidaaIdLeave
namespace Go.Proofs.Ytdanpdlbbgcidaa
open Go.RowKit Ids
set_option linter.unusedVariables false

section
variable {w : World} {p : Pl} {K : St}
theorem eg_lapse : ∀ args w, (callFunc 49 args).run Try.prog w = .ok (.enter 49 args) w := enters_of Try.func49 (by kernel_rfl) rfl
set_option maxHeartbeats 4000000 in
theorem goes_lapse {W : World} {b q o d n i g : Nat} (hb : W.cell? ⟨b, 0, none⟩ = some (.pointer (some ⟨q, o, none⟩))) (hs : W.cell? ⟨q, o, none⟩ = some (.slice (some ⟨d, 0, none⟩) n n)) (hn : n ≤ 16) (hi : i < n) (hg : W.cell? ⟨d, 2 * i, none⟩ = some (.int .i64 (g : Int))) :
    FnGives Try.prog 49 #[.pointer (some ⟨b, 0, none⟩)] #[.int .i64 (i : Int)] (.bool (decide (MG ≤ g))) W := by
  show Calls Try.prog 49 #[.int .i64 (i : Int), .pointer (some ⟨b, 0, none⟩)] W _
  have S := Lib.hid (sat_raw hs hn hi)
  have V := worn_at hg
  rw [show decide ((1048576 : Int) ≤ (g : Int)) = decide (MG ≤ g) by rw [decide_eq_decide]; unfold MG; omega] at V
  have V := Lib.hid V
  clear hs hn hi hg
  generalize decide (MG ≤ g) = r at *
  generalize 2 * i = o' at *
  go_enter Try.func49, Try.ntmps49
  go_wp2_with (first | (go_at_call 37; refine S.out.mono ?_; rintro e w' ⟨rfl, rfl⟩) | (go_at_call 40; refine V.out.mono ?_; rintro e w' ⟨rfl, rfl⟩))
  go_ret
  exact ⟨rfl, 0, rfl⟩
theorem lapOne_eq (K : St) (k : Nat) : setRow (stepTo K k (K.row k).length) k (((stepTo K k (K.row k).length).row k).filter fun i => !decide (MG ≤ (stepTo K k (K.row k).length).gen k i)) = lapOne K k := by
  unfold lapOne
  congr 1
  refine List.filter_congr fun i hi => ?_
  rw [stepTo_all K k i hi]
  by_cases h : lapG K k i < MG
  · rw [decide_eq_true h, decide_eq_false (by omega)]; rfl
  · rw [decide_eq_false h, decide_eq_true (by omega)]; rfl

set_option maxHeartbeats 8000000 in
set_option maxRecDepth 100000 in
theorem lapse1_any (h : PA w p K) {k : Nat} (hk : k < K.n) :
    Calls Try.prog 41 #[.pointer (some ⟨p.q, 2 * k, none⟩)] w fun e w' => e = .returned (.int .i64 ((((K.row k).filter fun i => decide (K.gen k i < K.bnd k i)).length : Nat) : Int)) ∧ PA w' p (lapOne K k) ∧ Turn p.lo p.hi w w' := by
  have ok := h.ok
  have hlen := ok.len hk
  have m2 := ok.m2
  have r0 := (h.rws hk).1
  have n16 : (K.row k).length ≤ 16 := by omega
  -- the loop's relation, and its rounds
  obtain ⟨w1, hw1⟩ : ∃ w1, w1 = w.alloc (.cells #[.pointer (some ⟨p.q, 2 * k, none⟩)] 75) := ⟨_, rfl⟩
  have b1 : Below w.heap.size w w1 := hw1 ▸ bel1 w _
  have c1 : w1.cell? ⟨w.heap.size, 0, none⟩ = some (.pointer (some ⟨p.q, 2 * k, none⟩)) := by
    rw [hw1]; exact (cell_of (at1 w (.cells #[.pointer (some ⟨p.q, 2 * k, none⟩)] 75)) (o := 0) rfl).1
  obtain ⟨REL, hREL⟩ : ∃ REL : Nat → World → Prop, REL = fun j W => PA W p (stepTo K k j) ∧ Turn p.lo p.hi w W ∧ W.cell? ⟨w.heap.size, 0, none⟩ = some (.pointer (some ⟨p.q, 2 * k, none⟩)) := ⟨_, rfl⟩
  have top := h.top
  have R0 : Hid (REL 0 w1) := by
    rw [hREL]
    exact Lib.hid ⟨by rw [stepTo_zero]; exact h.below b1, Turn.of b1 h.lo_le, c1⟩
  have RB : Hid (∀ (j : Nat) (W : World), REL j W → ∀ n, REL j (W.drewN n)) := by
    rw [hREL]
    exact Lib.hid fun j W ⟨h1, h2, h3⟩ n => ⟨h1.below (below_dn W n), h2.below h1.lo_le (below_dn W n), h3⟩
  have RR : Hid (∀ (j i : Nat) (W : World), (K.row k)[j]? = some i → REL j W → W.cell? ⟨w.heap.size, 0, none⟩ = some (.pointer (some ⟨p.q, 2 * k, none⟩)) ∧ W.cell? ⟨p.rb k, j, none⟩ = some (.int .i64 (i : Int)) ∧
      Hid (Calls Try.prog 37 #[.pointer (some ⟨p.q, 2 * k, none⟩), .int .i64 (i : Int)] W fun e w' => e = .returned (.pointer (some ⟨p.ib k, 2 * i, none⟩)) ∧ W = w') ∧
      Hid (Calls Try.prog 43 #[.pointer (some ⟨p.ib k, 2 * i, none⟩)] W fun e w' => e = .returned (.bool (decide (K.gen k i < K.bnd k i))) ∧ ∃ n, w' = W.drewN n) ∧
      W.cell? ⟨p.ib k, 2 * i, none⟩ = some (.int .i64 (K.gen k i : Int)) ∧ W.cell? ⟨p.ib k, 2 * i + 1, none⟩ = some (.int .i64 (K.bnd k i : Int)) ∧ W.frozen? ⟨p.ib k, 2 * i, none⟩ = false ∧
      Hid (∀ n, K.gen k i < K.bnd k i → REL (j + 1) ((W.drewN n).setCell ⟨p.ib k, 2 * i, none⟩ (.int .i64 (K.bnd k i : Int)))) ∧ Hid (∀ n, ¬ K.gen k i < K.bnd k i → REL (j + 1) (W.drewN n))) := by
    rw [hREL]
    refine Lib.hid ?_
    rintro j i W hj ⟨h1, h2, h3⟩
    have him : i < K.m := ok.lt k hk i (List.mem_iff_getElem?.2 ⟨j, hj⟩)
    have g1 := h1.gen_at (k := k) (i := i) hk him
    rw [stepTo_gen ok hk hj] at g1
    have a1 := aside_in h1 (k := k) (i := i) hk him
    rw [stepTo_gen ok hk hj] at a1
    refine ⟨h3, (h1.row_at (k := k) hk hj).1, Lib.hid (sat_in h1 (k := k) (i := i) hk him), Lib.hid a1, g1.1, (h1.bnd_at (k := k) (i := i) hk him).1, g1.2, Lib.hid fun n hl => ?_, Lib.hid fun n hl => ?_⟩
    · have h1' := h1.below (below_dn W n)
      refine ⟨?_, (h2.below h1.lo_le (below_dn W n)).set (h.iin k hk).1 (h.iin k hk).2 _, ?_⟩
      · rw [stepTo_hit ok hk hj hl]
        exact h1'.setGen (k := k) (i := i) hk him (ok.bnd k i)
      · rw [World.cell?_of_block (a := ⟨w.heap.size, 0, none⟩) (heap_ne (show w.heap.size ≠ p.ib k by have := h.iin k hk; omega) _)]
        exact h3
    · exact ⟨by rw [stepTo_miss ok hk hj hl]; exact h1.below (below_dn W n), h2.below h1.lo_le (below_dn W n), h3⟩
  have L : Hid (∀ W, REL (K.row k).length W → W.cell? ⟨w.heap.size, 0, none⟩ = some (.pointer (some ⟨p.q, 2 * k, none⟩)) ∧
      Hid (Calls Try.prog 47 #[.pointer (some ⟨p.q, 2 * k, none⟩), .func (.func 49) #[] #[.pointer (some ⟨w.heap.size, 0, none⟩)]] W fun e w' => e = .returned (.tuple #[]) ∧ PA w' p (lapOne K k) ∧ Turn p.lo p.hi w w')) := by
    rw [hREL]
    refine Lib.hid ?_
    rintro W ⟨h1, h2, h3⟩
    refine ⟨h3, Lib.hid ?_⟩
    have LL := leave_any h1 (k := k) hk _ _ eg_lapse (fun i => decide (MG ≤ (stepTo K k (K.row k).length).gen k i)) (fun W' ha i hi =>
      goes_lapse (ha.cell (show w.heap.size ≠ p.rb k by have := h.rin k hk; omega) h3) (ha.cell (h1.ne_qr (k := k) hk) (h1.ixs (k := k) hk)) m2 hi (ha.cell (h1.ne_ir (k := k) (k' := k) hk hk) (h1.gen_at (k := k) (i := i) hk hi).1))
    rw [lapOne_eq] at LL
    refine LL.mono ?_
    rintro e w' ⟨rfl, h4, h5⟩
    exact ⟨rfl, h4, h2.trans h5⟩
  have CN : Hid (∀ (j i : Nat), (K.row k)[j]? = some i → (((K.row k).take (j + 1)).filter fun i => decide (K.gen k i < K.bnd k i)).length = (((K.row k).take j).filter fun i => decide (K.gen k i < K.bnd k i)).length + if K.gen k i < K.bnd k i then 1 else 0) := Lib.hid fun j i hj => lapse_part K hj
  obtain ⟨N, hN⟩ : ∃ N : Nat → Nat, N = fun j => (((K.row k).take j).filter fun i => decide (K.gen k i < K.bnd k i)).length := ⟨_, rfl⟩
  have hN0 : N 0 = 0 := by rw [hN]; simp
  have hNl : ((K.row k).filter fun i => decide (K.gen k i < K.bnd k i)).length = N (K.row k).length := by rw [hN]; simp
  have hNle : ∀ j, j ≤ (K.row k).length → N j ≤ 16 := fun j hj => by
    rw [hN]
    show (((K.row k).take j).filter fun i => decide (K.gen k i < K.bnd k i)).length ≤ 16
    have := List.length_filter_le (fun i => decide (K.gen k i < K.bnd k i)) ((K.row k).take j)
    simp only [List.length_take] at this
    omega
  have CN : Hid (∀ (j i : Nat), (K.row k)[j]? = some i → N (j + 1) = N j + if K.gen k i < K.bnd k i then 1 else 0) := by rw [hN]; exact CN
  rw [hNl]
  have r0' : w1.cell? ⟨p.q, 2 * k + 1, none⟩ = some (.slice (some ⟨p.rb k, 0, none⟩) (K.row k).length (p.cb k)) := ((h.below b1).rws hk).1
  have LT : ∀ j, j < (K.row k).length → ∃ i, (K.row k)[j]? = some i := fun j hj => ⟨_, List.getElem?_eq_getElem hj⟩
  have N0 := Lib.hid hN0
  have NL := Lib.hid hNle
  have LT := Lib.hid LT
  clear h hk hREL hN hN0 hNl hNle ok m2 top b1
  subst hw1
  generalize hn : (K.row k).length = n at *
  generalize lapOne K k = K' at *
  generalize p.rb k = rb at *
  generalize p.ib k = ib at *
  generalize p.cb k = cb at *
  generalize p.q = q at *
  generalize 2 * k = o at *
  go_enter Try.func41, Try.ntmps41
  go_wp2
  go_loopw [12, 3] (fun i c wr => ∃ j : Nat, j ≤ n ∧ i = .int .i64 j ∧ c = .int .i64 (N j : Nat) ∧ Hid (REL j wr)) (fun i _ _ => n - (intOf i).toNat)
  case atStart => exact ⟨0, Nat.zero_le _, rfl, by rw [N0.out]; rfl, R0⟩
  case round =>
    obtain ⟨j, hj, rfl, rfl, HR⟩ := hrel
    clear r0 r0' c1 R0
    by_cases hjn : j < n
    · obtain ⟨i, hi⟩ := LT.out j hjn
      obtain ⟨x0, x1, S, A, g, b, f, RH, RM⟩ := RR.out j i wr hi HR.out
      have cn := CN.out j i hi
      have nl := NL.out j hj
      have t1 : (j : Int) < (n : Int) := by omega
      clear RR CN L NL LT HR RB hi N0
      generalize hgg : K.gen k i = gg at *
      generalize hbb : K.bnd k i = bb at *
      clear hgg hbb
      by_cases hl : gg < bb
      · have RH := Lib.hid (fun n => RH.out n hl)
        rw [decide_eq_true hl] at A
        rw [if_pos hl] at cn
        have cn' := Lib.hid cn
        clear RM hl cn
        generalize hc : N j = c at *
        clear hc
        go_wp2_with (first | (go_at_call 37; refine S.out.mono ?_; rintro e w' ⟨rfl, rfl⟩) | (go_at_call 43; refine A.out.mono ?_; rintro e w' ⟨rfl, m, rfl⟩; have RH := Lib.hid (RH.out m)))
        go_roundw
        case rel => exact ⟨j + 1, by omega, by go_num, by rw [cn'.out]; go_num, RH⟩
        case measure => simp [intOf]; omega
      · have RM := Lib.hid (fun n => RM.out n hl)
        rw [decide_eq_false hl] at A
        rw [if_neg hl, Nat.add_zero] at cn
        have cn' := Lib.hid cn
        clear RH hl cn
        generalize hc : N j = c at *
        clear hc
        go_wp2_with (first | (go_at_call 37; refine S.out.mono ?_; rintro e w' ⟨rfl, rfl⟩) | (go_at_call 43; refine A.out.mono ?_; rintro e w' ⟨rfl, m, rfl⟩; have RM := Lib.hid (RM.out m)))
        go_roundw
        case rel => exact ⟨j + 1, by omega, by go_num, by rw [cn'.out]; rfl, RM⟩
        case measure => simp [intOf]; omega
    · obtain rfl : j = n := by omega
      obtain ⟨x0, LL⟩ := L.out wr HR.out
      have t1 : ¬ (j : Int) < (j : Int) := by omega
      clear RR CN L NL LT HR RB N0
      go_wp2_with (go_at_call 47; refine LL.out.mono ?_; rintro e w' ⟨rfl, hL⟩; have hL := Lib.hid hL)
      go_ret
      exact ⟨rfl, hL.out⟩
end
end Go.Proofs.Ytdanpdlbbgcidaa
