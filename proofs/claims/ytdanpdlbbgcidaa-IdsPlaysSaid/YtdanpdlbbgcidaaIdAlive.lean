/- Alive, Take. -/
import Derived.Test.YtdanpdlbbgcidaaIdHead
namespace Go.Proofs.Ytdanpdlbbgcidaa
open Go.RowKit Ids
set_option linter.unusedVariables false

theorem box3 {W : World} {b T : Nat} {v0 v1 v2 : Value} (h : W.heap[b]? = some (.cells #[v0, v1, v2] T (0, 0))) :
    (W.cell? ⟨b, 0, none⟩ = some v0 ∧ W.cell? ⟨b, 1, none⟩ = some v1 ∧ W.cell? ⟨b, 2, none⟩ = some v2) ∧ (W.frozen? ⟨b, 0, none⟩ = false ∧ W.frozen? ⟨b, 1, none⟩ = false ∧ W.frozen? ⟨b, 2, none⟩ = false) := by
  simp [World.cell?, World.frozen?, h]
/-- a name, as a value; boxed -/
def idv (k i g : Int) : Value := .agg #[.int .i64 k, .int .i64 i, .int .i64 g]
def idc (k i g : Int) : Obj := .cells #[.int .i64 k, .int .i64 i, .int .i64 g] 33
section
variable {w : World} {p : Pl} {K : St}
set_option maxHeartbeats 4000000 in
theorem alive_none {pv : Option Addr} {k i : Int} (g : Int) (h : Miss w pv k i) :
    Calls Try.prog 20 #[.pointer pv, .agg #[.int .i64 k, .int .i64 i, .int .i64 g]] w fun e w' => e = .returned (.bool false) ∧ Below w.heap.size w w' := by
  obtain ⟨s, h1, h2⟩ := h
  have b1 := bel1 w (.cells #[.int .i64 k, .int .i64 i, .int .i64 g] 33)
  obtain ⟨⟨c0, c1, c2⟩, _⟩ := box3 (at1 w (.cells #[.int .i64 k, .int .i64 i, .int .i64 g] 33))
  have A := Lib.hid (h1 _ b1)
  have S := Lib.hid (h2 _ b1)
  have HB := Lib.hid (fun n => b1.trans ((below_dn _ n).mono b1.size))
  clear h1 h2 b1
  go_enter Try.func20, Try.ntmps20
  cases s <;> (
    go_wp2_with (first | (go_at_call 36; refine A.out.mono ?_; rintro e w' ⟨rfl, rfl⟩) | (go_at_call 37; refine S.out.mono ?_; rintro e w' ⟨rfl, rfl⟩))
    go_quiet (fail)
    go_wp2
    go_ret
    exact ⟨rfl, HB.out _⟩)
theorem taken_out {K : St} {k i : Nat} : taken K k i = (!(K.row k).contains i && decide (K.gen k i < MG)) := rfl
set_option maxHeartbeats 4000000 in
theorem alive_any (h : PA w p K) (k i g : Int) :
    Calls Try.prog 20 #[.pointer (some ⟨p.d, 0, none⟩), .agg #[.int .i64 k, .int .i64 i, .int .i64 g]] w fun e w' => e = .returned (.bool (alive K k i g)) ∧ Below w.heap.size w w' := by
  unfold Ids.alive
  by_cases h1 : In K k i
  · rw [if_pos h1]
    obtain ⟨k, i, rfl, rfl, hk, hi, _, _⟩ := in_nats h1
    rw [Int.toNat_natCast, Int.toNat_natCast]
    have b1 := bel1 w (.cells #[.int .i64 (k : Int), .int .i64 (i : Int), .int .i64 g] 33)
    obtain ⟨⟨c0, c1, c2⟩, _⟩ := box3 (at1 w (.cells #[.int .i64 (k : Int), .int .i64 (i : Int), .int .i64 g] 33))
    have h' := h.below b1
    have A := Lib.hid (pat_in h' hk)
    have S := Lib.hid (sat_in h' hk hi)
    have T : Hid (∀ n, Calls Try.prog 42 #[.pointer (some ⟨p.q, 2 * k, none⟩), .int .i64 (i : Int)] ((w.alloc (.cells #[.int .i64 (k : Int), .int .i64 (i : Int), .int .i64 g] 33)).drewN n) fun e w' => e = .returned (.bool (taken K k i)) ∧ ∃ m, w' = (w.alloc (.cells #[.int .i64 (k : Int), .int .i64 (i : Int), .int .i64 g] 33)).drewN m) :=
      Lib.hid fun n => (taken_in (h'.below (below_dn _ n)) hk hi).mono fun e w' ⟨h1, h2⟩ => ⟨h1, n, h2.symm⟩
    have gg := (h'.gen_at hk hi).1
    have HB := Lib.hid (fun n => b1.trans ((below_dn _ n).mono b1.size))
    clear h h' h1 hk hi b1
    by_cases hg : (K.gen k i : Int) = g
    · have t1 : ((K.gen k i : Int) == g) = true := beq_iff_eq.2 hg
      rw [decide_eq_true hg, Bool.true_and]
      clear hg
      generalize taken K k i = r at *
      generalize K.gen k i = n at *
      generalize 2 * k = o at *
      generalize 2 * i = o' at *
      go_enter Try.func20, Try.ntmps20
      go_wp2_with (first | (go_at_call 36; refine A.out.mono ?_; rintro e w' ⟨rfl, rfl⟩) | (go_at_call 37; refine S.out.mono ?_; rintro e w' ⟨rfl, rfl⟩))
      go_quiet ((go_at_call 42; exact T.out _))
      go_wp2
      go_ret
      exact ⟨rfl, HB.out _⟩
    · have t1 : ((K.gen k i : Int) == g) = false := beq_eq_false_iff_ne.2 hg
      rw [decide_eq_false hg, Bool.false_and]
      clear hg
      generalize K.gen k i = n at *
      generalize 2 * k = o at *
      generalize 2 * i = o' at *
      go_enter Try.func20, Try.ntmps20
      go_wp2_with (first | (go_at_call 36; refine A.out.mono ?_; rintro e w' ⟨rfl, rfl⟩) | (go_at_call 37; refine S.out.mono ?_; rintro e w' ⟨rfl, rfl⟩))
      go_quiet (fail)
      go_wp2
      go_ret
      exact ⟨rfl, HB.out _⟩
  · rw [if_neg h1]
    exact alive_none g (miss_out h h1)
set_option maxHeartbeats 4000000 in
theorem take_none {pv : Option Addr} {k i g : Int} (h : ∃ s, Gap w pv k s ∧ (Gap2 w s i ∨ g < 0 ∧ ∃ a, ∀ W, Below w.heap.size w W → Calls Try.prog 37 #[.pointer s, .int .i64 i] W fun e w' => e = .returned (.pointer (some a)) ∧ W = w')) :
    Calls Try.prog 17 #[.pointer pv, .agg #[.int .i64 k, .int .i64 i, .int .i64 g]] w fun e w' => e = .returned (.int .i64 1) ∧ Below w.heap.size w w' := by
  obtain ⟨s, h1, h2⟩ := h
  have b1 := bel1 w (.cells #[.int .i64 k, .int .i64 i, .int .i64 g] 33)
  obtain ⟨⟨c0, c1, c2⟩, _⟩ := box3 (at1 w (.cells #[.int .i64 k, .int .i64 i, .int .i64 g] 33))
  have A := Lib.hid (h1 _ b1)
  have HB := Lib.hid b1
  rcases h2 with h2 | ⟨hg, a, h2⟩
  · have S := Lib.hid (h2 _ b1)
    clear h1 h2 b1
    go_enter Try.func17, Try.ntmps17
    go_wp2_with (first | (go_at_call 36; refine A.out.mono ?_; rintro e w' ⟨rfl, rfl⟩) | (go_at_call 37; refine S.out.mono ?_; rintro e w' ⟨rfl, rfl⟩))
    go_ret
    exact ⟨rfl, HB.out⟩
  · have S := Lib.hid (h2 _ b1)
    have t1 : decide (g < 0) = true := decide_eq_true hg
    clear h1 h2 b1 hg
    go_enter Try.func17, Try.ntmps17
    go_wp2_with (first | (go_at_call 36; refine A.out.mono ?_; rintro e w' ⟨rfl, rfl⟩) | (go_at_call 37; refine S.out.mono ?_; rintro e w' ⟨rfl, rfl⟩))
    go_ret
    exact ⟨rfl, HB.out⟩
set_option maxHeartbeats 4000000 in
theorem take_any (h : PA w p K) (k i g : Int) :
    Calls Try.prog 17 #[.pointer (some ⟨p.d, 0, none⟩), .agg #[.int .i64 k, .int .i64 i, .int .i64 g]] w fun e w' => e = .returned (.int .i64 ((take K k i g).2 : Nat)) ∧ PA w' p (take K k i g).1 ∧ Turn p.lo p.hi w w' := by
  have fin : ∀ {w' : World}, Below w.heap.size w w' → PA w' p K ∧ Turn p.lo p.hi w w' := fun hb => ⟨h.below hb, Turn.of hb h.lo_le⟩
  unfold Ids.take
  by_cases h1 : In K k i
  · obtain ⟨k, i, rfl, rfl, hk, hi, _, _⟩ := in_nats h1
    by_cases hg0 : g < 0
    · rw [if_pos (.inr hg0)]
      refine (take_none ⟨_, gap_in h hk, .inr ⟨hg0, _, fun W hb => sat_in (h.below hb) hk hi⟩⟩).mono ?_
      rintro e w' ⟨rfl, hb⟩
      exact ⟨rfl, fin hb⟩
    · rw [if_neg (fun e => e.elim (fun e => e h1) hg0), Int.toNat_natCast, Int.toNat_natCast]
      obtain ⟨g, rfl⟩ : ∃ g' : Nat, g = (g' : Int) := ⟨g.toNat, by omega⟩
      rw [Int.toNat_natCast]
      have b1 := bel1 w (.cells #[.int .i64 (k : Int), .int .i64 (i : Int), .int .i64 (g : Int)] 33)
      obtain ⟨⟨c0, c1, c2⟩, _⟩ := box3 (at1 w (.cells #[.int .i64 (k : Int), .int .i64 (i : Int), .int .i64 (g : Int)] 33))
      have h' := h.below b1
      have A := Lib.hid (pat_in h' hk)
      have S := Lib.hid (sat_in h' hk hi)
      have F := Lib.hid (free_in h' (i := i) hk)
      have gg := (h'.gen_at hk hi).1
      have gb := (h'.bnd_at hk hi).1
      have t0 : decide ((g : Int) < 0) = false := decide_eq_false (by omega)
      have HF := Lib.hid (fin b1)
      have HN := Lib.hid (fun n => fin (b1.trans ((below_dn _ n).mono b1.size)))
      by_cases hf : (K.row k).contains i = false
      · rw [if_pos hf]
        rw [hf] at F
        clear h h' h1 hk hi b1 hf hg0 fin
        generalize 2 * k = o at *
        generalize 2 * i = o' at *
        go_enter Try.func17, Try.ntmps17
        go_wp2_with (first | (go_at_call 36; refine A.out.mono ?_; rintro e w' ⟨rfl, rfl⟩) | (go_at_call 37; refine S.out.mono ?_; rintro e w' ⟨rfl, rfl⟩) | (go_at_call 38; refine F.out.mono ?_; rintro e w' ⟨rfl, rfl⟩))
        go_ret
        exact ⟨rfl, HF.out⟩
      · rw [if_neg hf]
        rw [Bool.not_eq_false] at hf
        rw [hf] at F
        by_cases hs : (g : Int) < (K.gen k i : Int) ∨ (K.bnd k i : Int) ≤ (g : Int)
        · rw [if_pos hs]
          by_cases hs1 : (g : Int) < (K.gen k i : Int)
          · have t1 : decide ((g : Int) < (K.gen k i : Int)) = true := decide_eq_true hs1
            have t1' : decide (g < K.gen k i) = true := decide_eq_true (by omega)
            clear h h' h1 hk hi b1 hf hg0 fin hs hs1
            generalize K.gen k i = n at *
            generalize K.bnd k i = m at *
            generalize 2 * k = o at *
            generalize 2 * i = o' at *
            go_enter Try.func17, Try.ntmps17
            go_wp2_with (first | (go_at_call 36; refine A.out.mono ?_; rintro e w' ⟨rfl, rfl⟩) | (go_at_call 37; refine S.out.mono ?_; rintro e w' ⟨rfl, rfl⟩) | (go_at_call 38; refine F.out.mono ?_; rintro e w' ⟨rfl, rfl⟩))
            go_quiet (fail)
            go_wp2
            go_ret
            exact ⟨rfl, HN.out _⟩
          · have t1 : decide ((g : Int) < (K.gen k i : Int)) = false := decide_eq_false hs1
            have t1' : decide (g < K.gen k i) = false := decide_eq_false (by omega)
            have t2 : decide ((K.bnd k i : Int) ≤ (g : Int)) = true := decide_eq_true (by omega)
            have t2' : decide (K.bnd k i ≤ g) = true := decide_eq_true (by omega)
            clear h h' h1 hk hi b1 hf hg0 fin hs hs1
            generalize K.gen k i = n at *
            generalize K.bnd k i = m at *
            generalize 2 * k = o at *
            generalize 2 * i = o' at *
            go_enter Try.func17, Try.ntmps17
            go_wp2_with (first | (go_at_call 36; refine A.out.mono ?_; rintro e w' ⟨rfl, rfl⟩) | (go_at_call 37; refine S.out.mono ?_; rintro e w' ⟨rfl, rfl⟩) | (go_at_call 38; refine F.out.mono ?_; rintro e w' ⟨rfl, rfl⟩))
            go_quiet (fail)
            go_wp2
            go_ret
            exact ⟨rfl, HN.out _⟩
        · rw [if_neg hs]
          have t1 : decide ((g : Int) < (K.gen k i : Int)) = false := decide_eq_false (by omega)
          have t1' : decide (g < K.gen k i) = false := decide_eq_false (by omega)
          have t2 : decide ((K.bnd k i : Int) ≤ (g : Int)) = false := decide_eq_false (by omega)
          have t2' : decide (K.bnd k i ≤ g) = false := decide_eq_false (by omega)
          have gle : g ≤ MG := by have := h.ok.bnd k i; omega
          have G : Hid (∀ n, Calls Try.prog 39 #[.pointer (some ⟨p.q, 2 * k, none⟩), .int .i64 (i : Int), .int .i64 (g : Int)] ((w.alloc (.cells #[.int .i64 (k : Int), .int .i64 (i : Int), .int .i64 (g : Int)] 33)).drewN n) fun e w' => e = .returned (.tuple #[]) ∧ Hid (PA w' p (give K k i g) ∧ Turn p.lo p.hi w w')) :=
            Lib.hid fun n => (give_any ((HN.out n).1) hk hi gle).mono fun e w' ⟨he, h3, h4⟩ => ⟨he, Lib.hid ⟨h3, (HN.out n).2.trans h4⟩⟩
          clear h h' h1 hk hi b1 hf hg0 fin hs HN gle HF
          generalize give K k i g = K' at *
          generalize K.gen k i = n at *
          generalize K.bnd k i = m at *
          generalize 2 * k = o at *
          generalize 2 * i = o' at *
          go_enter Try.func17, Try.ntmps17
          go_wp2_with (first | (go_at_call 36; refine A.out.mono ?_; rintro e w' ⟨rfl, rfl⟩) | (go_at_call 37; refine S.out.mono ?_; rintro e w' ⟨rfl, rfl⟩) | (go_at_call 38; refine F.out.mono ?_; rintro e w' ⟨rfl, rfl⟩))
          go_quiet (fail)
          go_wp2_with (go_at_call 39; refine (G.out _).mono ?_; rintro e w' ⟨rfl, hG⟩)
          go_ret
          exact ⟨rfl, hG.out⟩
  · rw [if_pos (.inl h1)]
    obtain ⟨s, g1, g2⟩ := miss_out h h1
    refine (take_none ⟨s, g1, .inl g2⟩).mono ?_
    rintro e w' ⟨rfl, hb⟩
    exact ⟨rfl, fin hb⟩
end
end Go.Proofs.Ytdanpdlbbgcidaa
