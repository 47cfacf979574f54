/- step: a deed, done to both pools. Written by wip/tools/genistep.py. -/
import Derived.Test.YtdanpdlbbgcidaaIdSame
namespace Go.Proofs.Ytdanpdlbbgcidaa
open Go.RowKit Ids
set_option linter.unusedVariables false

set_option maxHeartbeats 16000000 in
set_option maxRecDepth 100000 in
theorem step_any {w0 w : World} {d r hi : Nat} {p : Pl} {q : RPl} {K : St} {R : World → Prop} (h : Du w0 d r hi p q K K R w) (fr : Fr K) (hp1 : q.put + 1 ≤ 1000000) (x : Int × Int × Int × Int) :
    Calls Try.prog 12 #[.pointer (some ⟨d, 0, none⟩), .pointer (some ⟨r, 0, none⟩), .agg #[.int .i64 x.1, .int .i64 x.2.1, .int .i64 x.2.2.1, .int .i64 x.2.2.2]] w fun e w' => e = .returned (.bool true) ∧ ∃ q' : RPl, Du w0 d r hi p q' (deedK K x) (deedK K x) R w' ∧ q'.put ≤ q.put + 1 := by
  obtain ⟨k, a, b, c⟩ := x
  simp only
  have h1 := h.box (.cells #[.int .i64 k, .int .i64 a, .int .i64 b, .int .i64 c] 35)
  have kp := h.kp
  have HP := Lib.hid hp1
  have FR := Lib.hid fr
  clear hp1 fr
  obtain ⟨s, hs⟩ : ∃ s, s = w.heap.size := ⟨_, rfl⟩
  rw [← hs] at h1
  obtain ⟨R1, hR1⟩ : ∃ R1 : World → Prop, R1 = fun W' => R W' ∧ W'.heap[s]? = some (.cells #[.int .i64 k, .int .i64 a, .int .i64 b, .int .i64 c] 35 (0, 0)) := ⟨_, rfl⟩
  rw [← hR1] at h1
  have BX : Hid (∀ q K J W, Du w0 d r hi p q K J R1 W → W.cell? ⟨s, 0, none⟩ = some (.int .i64 k) ∧ W.cell? ⟨s, 1, none⟩ = some (.int .i64 a) ∧ W.cell? ⟨s, 2, none⟩ = some (.int .i64 b) ∧ W.cell? ⟨s, 3, none⟩ = some (.int .i64 c)) := Lib.hid fun q K J W h => by
    have := h.own
    rw [hR1] at this
    have := this.2
    simp [World.cell?, this]
  have DROP : Hid (∀ q K J W, Du w0 d r hi p q K J R1 W → Du w0 d r hi p q K J R W) := Lib.hid fun q K J W h => h.imp (fun t => by rw [hR1] at t; exact t.1) kp
  have G0 : Hid (∀ n, Du w0 d r hi p q K K R1 ((w.alloc (.cells #[.int .i64 k, .int .i64 a, .int .i64 b, .int .i64 c] 35)).drewN n)) := Lib.hid fun n => h1.drewN n
  have c1 := (BX.out _ _ _ _ h1).2.1
  have c2 := (BX.out _ _ _ _ h1).2.2.1
  have KEEPR : Hid (∀ W, R1 W → R W) := Lib.hid fun W t => by rw [hR1] at t; exact t.1
  have KP := Lib.hid kp
  clear h h1 kp hR1
  rw [hs] at c1 c2
  by_cases k01 : k = 0 ∨ k = 1
  · have hd : deedK K (k, a, b, c) = (reserve K a b).1 := by unfold deedK; rw [if_pos k01]
    rw [hd]
    obtain ⟨K', n, e⟩ : ∃ K' n, reserve K a b = (K', n) := ⟨_, _, rfl⟩
    rw [e]
    have E := Lib.hid e
    clear hd e
    have qn : ((n : Int) == (n : Int)) = true := by simp
    rcases k01 with e9 | e9
    · have z0 : (k == 0) = true := by rw [e9]; rfl
      clear e9
      go_enter Try.func12, Try.ntmps12
      go_wp2
      go_quiet (fail)
      rename_i nq
      have G := G0.out nq
      rw [← hs]
      clear G0 c1 c2 hs
      obtain ⟨p0, p1, p2, p3⟩ := BX.out _ _ _ _ G
      generalize (w.alloc (.cells #[.int .i64 k, .int .i64 a, .int .i64 b, .int .i64 c] 35)).drewN nq = w1 at *
      replace G := Lib.hid G
      go_wp2_with (first
        | (go_at_call 16; refine (G.out.reserveL a b E.out).mono ?_; rintro e w2 ⟨rfl, g2⟩; have G2 := Lib.hid g2; clear g2 G)
        | (go_at_call 26; refine (G2.out.reserveR a b E.out).mono ?_; rintro e w3 ⟨rfl, g3⟩; have G3 := Lib.hid g3; clear g3 G2))
      go_ret
      exact ⟨rfl, q, DROP.out _ _ _ _ G3.out, by omega⟩
    · have z0 : (k == 0) = false := by rw [e9]; rfl
      have z1 : (k == 1) = true := by rw [e9]; rfl
      clear e9
      go_enter Try.func12, Try.ntmps12
      go_wp2
      go_quiet (fail)
      rename_i nq
      have G := G0.out nq
      rw [← hs]
      clear G0 c1 c2 hs
      obtain ⟨p0, p1, p2, p3⟩ := BX.out _ _ _ _ G
      generalize (w.alloc (.cells #[.int .i64 k, .int .i64 a, .int .i64 b, .int .i64 c] 35)).drewN nq = w1 at *
      replace G := Lib.hid G
      go_wp2_with (first
        | (go_at_call 16; refine (G.out.reserveL a b E.out).mono ?_; rintro e w2 ⟨rfl, g2⟩; have G2 := Lib.hid g2; clear g2 G)
        | (go_at_call 26; refine (G2.out.reserveR a b E.out).mono ?_; rintro e w3 ⟨rfl, g3⟩; have G3 := Lib.hid g3; clear g3 G2))
      go_ret
      exact ⟨rfl, q, DROP.out _ _ _ _ G3.out, by omega⟩
  · have k0 : ¬ k = 0 := fun t => k01 (.inl t)
    have k1 : ¬ k = 1 := fun t => k01 (.inr t)
    by_cases k23 : k = 2 ∨ k = 3
    · have hd : deedK K (k, a, b, c) = (issue K a).1 := by unfold deedK; rw [if_neg k01, if_pos k23]
      rw [hd]
      obtain ⟨K', x, n, e⟩ : ∃ K' x n, issue K a = (K', x, n) := ⟨_, _, _, rfl⟩
      rw [e]
      have E := Lib.hid e
      clear hd e k01
      obtain ⟨x0, x1, x2⟩ := x
      have IL : Hid (∀ W, Du w0 d r hi p q K K R1 W → Calls Try.prog 23 #[.pointer (some ⟨d, 0, none⟩), .int .i64 a] W fun e w' => e = .returned (.tuple #[.agg #[.int .i64 x0, .int .i64 (x1 : Int), .int .i64 (x2 : Int)], .int .i64 (n : Int)]) ∧
          Hid (Du w0 d r hi p q K' K (fun W' => R1 W' ∧ W'.heap[w'.heap.size]? = some (ido (x0, (x1 : Int), (x2 : Int)))) (w'.alloc (ido (x0, (x1 : Int), (x2 : Int)))))) := Lib.hid fun W h => (h.issueL a E.out).mono fun e w' ⟨e1, g⟩ => ⟨e1, Lib.hid (g.box _)⟩
      have IR : Hid (∀ W s2, Du w0 d r hi p q K' K (fun W' => R1 W' ∧ W'.heap[s2]? = some (ido (x0, (x1 : Int), (x2 : Int)))) W → Calls Try.prog 27 #[.pointer (some ⟨r, 0, none⟩), .int .i64 a] W fun e w' => e = .returned (.tuple #[.agg #[.int .i64 x0, .int .i64 (x1 : Int), .int .i64 (x2 : Int)], .int .i64 (n : Int)]) ∧
          (((w'.alloc (ido (x0, (x1 : Int), (x2 : Int)))).cell? ⟨s2, 0, none⟩ = some (.int .i64 x0) ∧ (w'.alloc (ido (x0, (x1 : Int), (x2 : Int)))).cell? ⟨s2, 1, none⟩ = some (.int .i64 (x1 : Int)) ∧ (w'.alloc (ido (x0, (x1 : Int), (x2 : Int)))).cell? ⟨s2, 2, none⟩ = some (.int .i64 (x2 : Int))) ∧
           ((w'.alloc (ido (x0, (x1 : Int), (x2 : Int)))).cell? ⟨w'.heap.size, 0, none⟩ = some (.int .i64 x0) ∧ (w'.alloc (ido (x0, (x1 : Int), (x2 : Int)))).cell? ⟨w'.heap.size, 1, none⟩ = some (.int .i64 (x1 : Int)) ∧ (w'.alloc (ido (x0, (x1 : Int), (x2 : Int)))).cell? ⟨w'.heap.size, 2, none⟩ = some (.int .i64 (x2 : Int)))) ∧
          Hid (Du w0 d r hi p q K' K' R (w'.alloc (ido (x0, (x1 : Int), (x2 : Int)))))) := Lib.hid fun W s2 h => by
        have kp1 := h.kp
        refine (h.issueR a E.out).mono fun e w' ⟨e1, g⟩ => ⟨e1, ?_, ?_⟩
        · have g2 := (g.box (ido (x0, (x1 : Int), (x2 : Int)))).own
          exact ⟨(box3 g2.1.2).1, (box3 g2.2).1⟩
        · have g2 := g.below (bel1 w' (ido (x0, (x1 : Int), (x2 : Int))))
          exact Lib.hid (g2.imp (fun t => KEEPR.out _ t.1) KP.out)
      have q0 : (x0 == x0) = true := by simp
      have q1 : ((x1 : Int) == (x1 : Int)) = true := by simp
      have q2 : ((x2 : Int) == (x2 : Int)) = true := by simp
      have qn : ((n : Int) == (n : Int)) = true := by simp
      rcases k23 with e9 | e9
      · have z0 : (k == 0) = false := by rw [e9]; rfl
        have z1 : (k == 1) = false := by rw [e9]; rfl
        have z2 : (k == 2) = true := by rw [e9]; rfl
        clear e9
        go_enter Try.func12, Try.ntmps12
        go_wp2
        go_quiet (fail)
        rename_i nq
        have G := G0.out nq
        rw [← hs]
        clear G0 c1 c2 hs
        obtain ⟨p0, p1, p2, p3⟩ := BX.out _ _ _ _ G
        generalize (w.alloc (.cells #[.int .i64 k, .int .i64 a, .int .i64 b, .int .i64 c] 35)).drewN nq = w1 at *
        replace G := Lib.hid G
        clear E
        generalize (x1 : Int) = y1 at *
        generalize (x2 : Int) = y2 at *
        generalize (n : Int) = yn at *
        go_wp2_with (first
          | (go_at_call 23; refine (IL.out _ G.out).mono ?_; rintro e w2 ⟨rfl, G2⟩; clear G IL)
          | (go_at_call 27; refine (IR.out _ _ G2.out).mono ?_; rintro e w3 ⟨rfl, ⟨⟨d0, d1, d2⟩, ⟨e0, e1, e2⟩⟩, G3⟩; clear G2 IR))
        go_ret
        exact ⟨rfl, q, G3.out, by omega⟩
      · have z0 : (k == 0) = false := by rw [e9]; rfl
        have z1 : (k == 1) = false := by rw [e9]; rfl
        have z2 : (k == 2) = false := by rw [e9]; rfl
        have z3 : (k == 3) = true := by rw [e9]; rfl
        clear e9
        go_enter Try.func12, Try.ntmps12
        go_wp2
        go_quiet (fail)
        rename_i nq
        have G := G0.out nq
        rw [← hs]
        clear G0 c1 c2 hs
        obtain ⟨p0, p1, p2, p3⟩ := BX.out _ _ _ _ G
        generalize (w.alloc (.cells #[.int .i64 k, .int .i64 a, .int .i64 b, .int .i64 c] 35)).drewN nq = w1 at *
        replace G := Lib.hid G
        clear E
        generalize (x1 : Int) = y1 at *
        generalize (x2 : Int) = y2 at *
        generalize (n : Int) = yn at *
        go_wp2_with (first
          | (go_at_call 23; refine (IL.out _ G.out).mono ?_; rintro e w2 ⟨rfl, G2⟩; clear G IL)
          | (go_at_call 27; refine (IR.out _ _ G2.out).mono ?_; rintro e w3 ⟨rfl, ⟨⟨d0, d1, d2⟩, ⟨e0, e1, e2⟩⟩, G3⟩; clear G2 IR))
        go_ret
        exact ⟨rfl, q, G3.out, by omega⟩
    · have k2 : ¬ k = 2 := fun t => k23 (.inl t)
      have k3 : ¬ k = 3 := fun t => k23 (.inr t)
      by_cases k4 : k = 4
      · have hd : deedK K (k, a, b, c) = (take K a b c).1 := by unfold deedK; rw [if_neg k01, if_neg k23, if_pos k4]
        rw [hd]
        obtain ⟨K', n, e⟩ : ∃ K' n, take K a b c = (K', n) := ⟨_, _, rfl⟩
        rw [e]
        have E := Lib.hid e
        clear hd e k01 k23
        have qn : ((n : Int) == (n : Int)) = true := by simp
        have e9 : k = 4 := k4
        have z0 : (k == 0) = false := by rw [e9]; rfl
        have z1 : (k == 1) = false := by rw [e9]; rfl
        have z2 : (k == 2) = false := by rw [e9]; rfl
        have z3 : (k == 3) = false := by rw [e9]; rfl
        have z4 : (k == 4) = true := by rw [e9]; rfl
        clear e9
        clear k4
        go_enter Try.func12, Try.ntmps12
        go_wp2
        go_quiet (fail)
        rename_i nq
        have G := G0.out nq
        rw [← hs]
        clear G0 c1 c2 hs
        obtain ⟨p0, p1, p2, p3⟩ := BX.out _ _ _ _ G
        generalize (w.alloc (.cells #[.int .i64 k, .int .i64 a, .int .i64 b, .int .i64 c] 35)).drewN nq = w1 at *
        replace G := Lib.hid G
        go_wp2
        go_region_held3 (fun W => W.cell? ⟨s, 1, none⟩ = some (.int .i64 a) ∧ W.cell? ⟨s, 2, none⟩ = some (.int .i64 b) ∧ W.cell? ⟨s, 3, none⟩ = some (.int .i64 c))
          (first | (exact (BX.out _ _ _ _ G2.out).2) | (exact (BX.out _ _ _ _ G1.out).2) | (exact (BX.out _ _ _ _ G.out.drew).2))
          (first
          | (go_at_call 28; refine (G1.out.takeR a b c E.out).mono ?_; rintro e w3 ⟨rfl, g2⟩; have G2 := Lib.hid g2; clear g2)
          | (go_at_call 17; refine (G.out.drew.takeL a b c E.out).mono ?_; rintro e w2 ⟨rfl, g1⟩; have G1 := Lib.hid g1; clear g1))
        all_goals
          go_wp2
          go_ret
          exact ⟨rfl, q, DROP.out _ _ _ _ G2.out, by omega⟩
      · by_cases k56 : k = 5 ∨ k = 6
        · have hd : deedK K (k, a, b, c) = (free K a b c).1 := by unfold deedK; rw [if_neg k01, if_neg k23, if_neg k4, if_pos k56]
          rw [hd]
          obtain ⟨K', n, e⟩ : ∃ K' n, free K a b c = (K', n) := ⟨_, _, rfl⟩
          rw [e]
          have E := Lib.hid e
          clear hd e k01 k23
          have qn : ((n : Int) == (n : Int)) = true := by simp
          rcases k56 with e9 | e9
          · have z0 : (k == 0) = false := by rw [e9]; rfl
            have z1 : (k == 1) = false := by rw [e9]; rfl
            have z2 : (k == 2) = false := by rw [e9]; rfl
            have z3 : (k == 3) = false := by rw [e9]; rfl
            have z4 : (k == 4) = false := by rw [e9]; rfl
            have z5 : (k == 5) = true := by rw [e9]; rfl
            clear e9
            go_enter Try.func12, Try.ntmps12
            go_wp2
            go_quiet (fail)
            rename_i nq
            have G := G0.out nq
            rw [← hs]
            clear G0 c1 c2 hs
            obtain ⟨p0, p1, p2, p3⟩ := BX.out _ _ _ _ G
            generalize (w.alloc (.cells #[.int .i64 k, .int .i64 a, .int .i64 b, .int .i64 c] 35)).drewN nq = w1 at *
            replace G := Lib.hid G
            go_wp2
            go_region_held3 (fun W => W.cell? ⟨s, 1, none⟩ = some (.int .i64 a) ∧ W.cell? ⟨s, 2, none⟩ = some (.int .i64 b) ∧ W.cell? ⟨s, 3, none⟩ = some (.int .i64 c))
              (first | (exact (BX.out _ _ _ _ G2.out).2) | (exact (BX.out _ _ _ _ G1.out).2) | (exact (BX.out _ _ _ _ G.out.drew).2))
              (first
              | (go_at_call 29; refine (G1.out.freeR HP.out a b c E.out).mono ?_; rintro e w3 ⟨rfl, q2, g2, hq2⟩; have G2 := Lib.hid g2; have HQ := Lib.hid hq2; clear g2 hq2)
              | (go_at_call 18; refine (G.out.drew.freeL a b c E.out).mono ?_; rintro e w2 ⟨rfl, g1⟩; have G1 := Lib.hid g1; clear g1))
            all_goals
              go_wp2
              go_ret
              exact ⟨rfl, q2, DROP.out _ _ _ _ G2.out, HQ.out⟩
          · have z0 : (k == 0) = false := by rw [e9]; rfl
            have z1 : (k == 1) = false := by rw [e9]; rfl
            have z2 : (k == 2) = false := by rw [e9]; rfl
            have z3 : (k == 3) = false := by rw [e9]; rfl
            have z4 : (k == 4) = false := by rw [e9]; rfl
            have z5 : (k == 5) = false := by rw [e9]; rfl
            have z6 : (k == 6) = true := by rw [e9]; rfl
            clear e9
            go_enter Try.func12, Try.ntmps12
            go_wp2
            go_quiet (fail)
            rename_i nq
            have G := G0.out nq
            rw [← hs]
            clear G0 c1 c2 hs
            obtain ⟨p0, p1, p2, p3⟩ := BX.out _ _ _ _ G
            generalize (w.alloc (.cells #[.int .i64 k, .int .i64 a, .int .i64 b, .int .i64 c] 35)).drewN nq = w1 at *
            replace G := Lib.hid G
            go_wp2
            go_region_held3 (fun W => W.cell? ⟨s, 1, none⟩ = some (.int .i64 a) ∧ W.cell? ⟨s, 2, none⟩ = some (.int .i64 b) ∧ W.cell? ⟨s, 3, none⟩ = some (.int .i64 c))
              (first | (exact (BX.out _ _ _ _ G2.out).2) | (exact (BX.out _ _ _ _ G1.out).2) | (exact (BX.out _ _ _ _ G.out.drew).2))
              (first
              | (go_at_call 29; refine (G1.out.freeR HP.out a b c E.out).mono ?_; rintro e w3 ⟨rfl, q2, g2, hq2⟩; have G2 := Lib.hid g2; have HQ := Lib.hid hq2; clear g2 hq2)
              | (go_at_call 18; refine (G.out.drew.freeL a b c E.out).mono ?_; rintro e w2 ⟨rfl, g1⟩; have G1 := Lib.hid g1; clear g1))
            all_goals
              go_wp2
              go_ret
              exact ⟨rfl, q2, DROP.out _ _ _ _ G2.out, HQ.out⟩
        · have k5 : ¬ k = 5 := fun t => k56 (.inl t)
          have k6 : ¬ k = 6 := fun t => k56 (.inr t)
          by_cases k7 : k = 7
          · have hd : deedK K (k, a, b, c) = (lapse K).1 := by unfold deedK; rw [if_neg k01, if_neg k23, if_neg k4, if_neg k56, if_pos k7]
            rw [hd]
            obtain ⟨K', n, e⟩ : ∃ K' n, lapse K = (K', n) := ⟨_, _, rfl⟩
            rw [e]
            have E := Lib.hid e
            clear hd e k01 k23 k56
            have qn : ((n : Int) == (n : Int)) = true := by simp
            have e9 : k = 7 := k7
            have z0 : (k == 0) = false := by rw [e9]; rfl
            have z1 : (k == 1) = false := by rw [e9]; rfl
            have z2 : (k == 2) = false := by rw [e9]; rfl
            have z3 : (k == 3) = false := by rw [e9]; rfl
            have z4 : (k == 4) = false := by rw [e9]; rfl
            have z5 : (k == 5) = false := by rw [e9]; rfl
            have z6 : (k == 6) = false := by rw [e9]; rfl
            have z7 : (k == 7) = true := by rw [e9]; rfl
            clear e9
            clear k7
            go_enter Try.func12, Try.ntmps12
            go_wp2
            go_quiet (fail)
            rename_i nq
            have G := G0.out nq
            rw [← hs]
            clear G0 c1 c2 hs
            obtain ⟨p0, p1, p2, p3⟩ := BX.out _ _ _ _ G
            generalize (w.alloc (.cells #[.int .i64 k, .int .i64 a, .int .i64 b, .int .i64 c] 35)).drewN nq = w1 at *
            replace G := Lib.hid G
            go_wp2_with (first
              | (go_at_call 19; refine (G.out.lapseL E.out).mono ?_; rintro e w2 ⟨rfl, g2⟩; have G2 := Lib.hid g2; clear g2 G)
              | (go_at_call 30; refine (G2.out.lapseR FR.out E.out).mono ?_; rintro e w3 ⟨rfl, g3⟩; have G3 := Lib.hid g3; clear g3 G2))
            go_ret
            exact ⟨rfl, q, DROP.out _ _ _ _ G3.out, by omega⟩
          · have hd : deedK K (k, a, b, c) = K := by unfold deedK; rw [if_neg k01, if_neg k23, if_neg k4, if_neg k56, if_neg k7]
            rw [hd]
            clear hd k01 k23 k56
            have z0 : (k == 0) = false := beq_eq_false_iff_ne.2 k0
            have z1 : (k == 1) = false := beq_eq_false_iff_ne.2 k1
            have z2 : (k == 2) = false := beq_eq_false_iff_ne.2 k2
            have z3 : (k == 3) = false := beq_eq_false_iff_ne.2 k3
            have z4 : (k == 4) = false := beq_eq_false_iff_ne.2 k4
            have z5 : (k == 5) = false := beq_eq_false_iff_ne.2 k5
            have z6 : (k == 6) = false := beq_eq_false_iff_ne.2 k6
            have z7 : (k == 7) = false := beq_eq_false_iff_ne.2 k7
            go_enter Try.func12, Try.ntmps12
            go_wp2
            go_quiet (fail)
            rename_i nq
            have G := G0.out nq
            rw [← hs]
            clear G0 c1 c2 hs
            obtain ⟨p0, p1, p2, p3⟩ := BX.out _ _ _ _ G
            generalize (w.alloc (.cells #[.int .i64 k, .int .i64 a, .int .i64 b, .int .i64 c] 35)).drewN nq = w1 at *
            replace G := Lib.hid G
            go_wp2
            go_ret
            exact ⟨rfl, q, DROP.out _ _ _ _ G.out, by omega⟩
end Go.Proofs.Ytdanpdlbbgcidaa
