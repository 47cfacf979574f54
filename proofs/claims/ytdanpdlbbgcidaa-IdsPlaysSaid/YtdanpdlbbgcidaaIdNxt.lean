/- next: a name of a shard; what it needs is set aside. -/
import Derived.Test.YtdanpdlbbgcidaaIdNext
namespace Go.Proofs.Ytdanpdlbbgcidaa
open Go.RowKit Ids
set_option linter.unusedVariables false

namespace Ids
/-- a name of shard k: the pool, the name, what was set aside (-1: nothing), and whether it was given -/
def nextK (K : St) (k : Int) : St × (Int × Nat × Nat) × Int × Bool :=
  if (head K k).2.2 ≠ 0 then (K, (0, 0, 0), -1, false)
  else if (head K k).2.1 = false then
    if (reserve K k (head K k).1).2 ≠ 0 then (K, (0, 0, 0), -1, false)
    else ((issue (reserve K k (head K k).1).1 k).1, (issue (reserve K k (head K k).1).1 k).2.1, ((head K k).1 : Int), decide ((issue (reserve K k (head K k).1).1 k).2.2 = 0))
  else ((issue K k).1, (issue K k).2.1, -1, decide ((issue K k).2.2 = 0))
theorem reserve_same {K : St} {k i : Int} (h : (reserve K k i).2 ≠ 0) : (reserve K k i).1 = K := by
  unfold reserve at h ⊢
  split
  · split
    · rfl
    · rename_i h1 h2
      rw [if_pos h1, if_neg h2] at h
      exact absurd rfl h
  · rfl
theorem zero_is (n : Nat) : ((n : Int) == 0) = decide (n = 0) := by
  by_cases h : n = 0
  · subst h; rfl
  · rw [decide_eq_false h]; exact beq_eq_false_iff_ne.2 (by omega)
end Ids
section
variable {w : World} {p : Pl} {K : St}
set_option maxHeartbeats 8000000 in
theorem next_any (h : PA w p K) (k : Int) :
    Calls Try.prog 15 #[.pointer (some ⟨p.d, 0, none⟩), .int .i64 k] w fun e w' =>
      e = .returned (.tuple #[.agg #[.int .i64 (nextK K k).2.1.1, .int .i64 ((nextK K k).2.1.2.1 : Nat), .int .i64 ((nextK K k).2.1.2.2 : Nat)], .int .i64 (nextK K k).2.2.1, .bool (nextK K k).2.2.2]) ∧ PA w' p (nextK K k).1 ∧ Turn p.lo p.hi w w' := by
  have b1 := bel1 w (.cells #[.int .i64 0, .int .i64 0, .int .i64 0] 33)
  have a1 := at1 w (.cells #[.int .i64 0, .int .i64 0, .int .i64 0] 33)
  have szlt := heap_lt a1
  have lo := h.lo_le
  have hi := h.top
  have T1 : Turn p.lo p.hi w (w.alloc (.cells #[.int .i64 0, .int .i64 0, .int .i64 0] 33)) := Turn.of b1 lo
  have RX : Hid (∀ W, Turn p.lo p.hi (w.alloc (.cells #[.int .i64 0, .int .i64 0, .int .i64 0] 33)) W → Turn p.lo p.hi w W ∧ W.heap[w.heap.size]? = some (.cells #[.int .i64 0, .int .i64 0, .int .i64 0] 33 (0, 0))) := Lib.hid fun W hW => ⟨T1.trans hW, (hW.up _ hi szlt).trans a1⟩
  have H1 := head_any (h.below b1) k
  have H1 : Hid (Calls Try.prog 22 #[.pointer (some ⟨p.d, 0, none⟩), .int .i64 k] (w.alloc (.cells #[.int .i64 0, .int .i64 0, .int .i64 0] 33)) fun e w' => e = .returned (.tuple #[.int .i64 ((head K k).1 : Nat), .bool (head K k).2.1, .int .i64 ((head K k).2.2 : Nat)]) ∧ PA w' p K ∧ Turn p.lo p.hi (w.alloc (.cells #[.int .i64 0, .int .i64 0, .int .i64 0] 33)) w') :=
    Lib.hid (H1.mono fun e w' ⟨h1, h2⟩ => ⟨h1, (h.below b1).below h2, Turn.of h2 (h.below b1).lo_le⟩)
  -- what comes behind the id's box
  have IX : Hid (∀ W4 K4 (x : Int × Nat × Nat), PA W4 p K4 → Turn p.lo p.hi (w.alloc (.cells #[.int .i64 0, .int .i64 0, .int .i64 0] 33)) W4 →
      ∃ W5, W5 = W4.alloc (.cells #[.int .i64 x.1, .int .i64 (x.2.1 : Int), .int .i64 (x.2.2 : Int)] 33) ∧ (W5.cell? ⟨W4.heap.size, 0, none⟩ = some (.int .i64 x.1) ∧ W5.cell? ⟨W4.heap.size, 1, none⟩ = some (.int .i64 (x.2.1 : Int)) ∧ W5.cell? ⟨W4.heap.size, 2, none⟩ = some (.int .i64 (x.2.2 : Int))) ∧
      (W5.cell? ⟨w.heap.size, 0, none⟩ = some (.int .i64 0) ∧ W5.cell? ⟨w.heap.size, 1, none⟩ = some (.int .i64 0) ∧ W5.cell? ⟨w.heap.size, 2, none⟩ = some (.int .i64 0)) ∧ (W5.frozen? ⟨w.heap.size, 0, none⟩ = false ∧ W5.frozen? ⟨w.heap.size, 1, none⟩ = false ∧ W5.frozen? ⟨w.heap.size, 2, none⟩ = false) ∧
      Hid (((((W5.setCell ⟨w.heap.size, 0, none⟩ (.int .i64 x.1)).setCell ⟨w.heap.size, 1, none⟩ (.int .i64 (x.2.1 : Int))).setCell ⟨w.heap.size, 2, none⟩ (.int .i64 (x.2.2 : Int))).cell? ⟨w.heap.size, 0, none⟩ = some (.int .i64 x.1) ∧ (((W5.setCell ⟨w.heap.size, 0, none⟩ (.int .i64 x.1)).setCell ⟨w.heap.size, 1, none⟩ (.int .i64 (x.2.1 : Int))).setCell ⟨w.heap.size, 2, none⟩ (.int .i64 (x.2.2 : Int))).cell? ⟨w.heap.size, 1, none⟩ = some (.int .i64 (x.2.1 : Int)) ∧ (((W5.setCell ⟨w.heap.size, 0, none⟩ (.int .i64 x.1)).setCell ⟨w.heap.size, 1, none⟩ (.int .i64 (x.2.1 : Int))).setCell ⟨w.heap.size, 2, none⟩ (.int .i64 (x.2.2 : Int))).cell? ⟨w.heap.size, 2, none⟩ = some (.int .i64 (x.2.2 : Int))) ∧
        PA (((W5.setCell ⟨w.heap.size, 0, none⟩ (.int .i64 x.1)).setCell ⟨w.heap.size, 1, none⟩ (.int .i64 (x.2.1 : Int))).setCell ⟨w.heap.size, 2, none⟩ (.int .i64 (x.2.2 : Int))) p K4 ∧ Turn p.lo p.hi w (((W5.setCell ⟨w.heap.size, 0, none⟩ (.int .i64 x.1)).setCell ⟨w.heap.size, 1, none⟩ (.int .i64 (x.2.1 : Int))).setCell ⟨w.heap.size, 2, none⟩ (.int .i64 (x.2.2 : Int))))) := by
    refine Lib.hid ?_
    intro W4 K4 x h4 t4
    have b5 := bel1 W4 (.cells #[.int .i64 x.1, .int .i64 (x.2.1 : Int), .int .i64 (x.2.2 : Int)] 33)
    obtain ⟨r1, r2⟩ := RX.out _ (t4.below h4.lo_le b5)
    obtain ⟨c, f, HR⟩ := res3 (h4.below b5) r1 lo hi r2 (.int .i64 x.1) (.int .i64 (x.2.1 : Int)) (.int .i64 (x.2.2 : Int))
    exact ⟨_, rfl, (box3 (at1 W4 _)).1, c, f, HR⟩
  have ZX : Hid (∀ W K4, PA W p K4 → Turn p.lo p.hi (w.alloc (.cells #[.int .i64 0, .int .i64 0, .int .i64 0] 33)) W → _) := Lib.hid fun W K4 h4 t4 => res3 h4 (RX.out W t4).1 lo hi (RX.out W t4).2 (.int .i64 0) (.int .i64 0) (.int .i64 0)
  unfold nextK
  clear h b1 a1 szlt T1
  by_cases h0 : (head K k).2.2 ≠ 0
  · rw [if_pos h0]
    have t1 : (((head K k).2.2 : Int) == 0) = false := beq_eq_false_iff_ne.2 (by omega)
    have t2 : (((head K k).2.2 : Int) != 0) = true := by rw [bne, t1]; rfl
    clear h0 IX RX
    generalize (head K k).2.2 = n2 at *
    generalize (head K k).2.1 = n1 at *
    generalize (head K k).1 = n0 at *
    go_enter Try.func15, Try.ntmps15
    go_wp2_with (go_at_call 22; refine H1.out.mono ?_; rintro e w2 ⟨rfl, p2, t2⟩; obtain ⟨⟨c0, c1, c2⟩, ⟨f0, f1, f2⟩, HR⟩ := ZX.out w2 K p2 t2)
    obtain ⟨⟨k0, k1, k2⟩, hP, hT⟩ := HR.out
    exact bodyPost_ret (v := .tuple #[.agg #[.int .i64 0, .int .i64 0, .int .i64 0], .int .i64 (-1), .bool false]) (by simp [results, Try.results15, go_sem, k0, k1, k2]) rfl ⟨rfl, hP, hT⟩
  · rw [if_neg h0]
    rw [Decidable.not_not] at h0
    rw [h0] at H1
    by_cases hs : (head K k).2.1 = false
    · rw [if_pos hs]
      rw [hs] at H1
      have R1 : Hid (∀ W, PA W p K → Calls Try.prog 16 #[.pointer (some ⟨p.d, 0, none⟩), .int .i64 k, .int .i64 ((head K k).1 : Int)] W fun e w' => e = .returned (.int .i64 ((reserve K k ((head K k).1 : Int)).2 : Nat)) ∧ PA w' p (reserve K k ((head K k).1 : Int)).1 ∧ Turn p.lo p.hi W w') := Lib.hid fun W hW => reserve_any hW k _
      by_cases hr : (reserve K k ((head K k).1 : Int)).2 ≠ 0
      · rw [if_pos hr]
        rw [reserve_same hr] at R1
        have t1 : (((reserve K k ((head K k).1 : Int)).2 : Int) == 0) = false := beq_eq_false_iff_ne.2 (by omega)
        have t2 : (((reserve K k ((head K k).1 : Int)).2 : Int) != 0) = true := by rw [bne, t1]; rfl
        clear h0 IX RX hs hr
        generalize (reserve K k ((head K k).1 : Int)).2 = n3 at *
        generalize (head K k).1 = n0 at *
        go_enter Try.func15, Try.ntmps15
        go_wp2_with (first
          | (go_at_call 22; refine H1.out.mono ?_; rintro e w2 ⟨rfl, p2, t2⟩)
          | (go_at_call 16; refine (R1.out w2 p2).mono ?_; rintro e w3 ⟨rfl, p3, t3⟩; obtain ⟨⟨c0, c1, c2⟩, ⟨f0, f1, f2⟩, HR⟩ := ZX.out w3 K p3 (t2.trans t3)))
        obtain ⟨⟨k0, k1, k2⟩, hP, hT⟩ := HR.out
        exact bodyPost_ret (v := .tuple #[.agg #[.int .i64 0, .int .i64 0, .int .i64 0], .int .i64 (-1), .bool false]) (by simp [results, Try.results15, go_sem, k0, k1, k2]) rfl ⟨rfl, hP, hT⟩
      · rw [if_neg hr]
        rw [Decidable.not_not] at hr
        rw [hr] at R1
        have I1 := Lib.hid (fun W (hW : PA W p (reserve K k ((head K k).1 : Int)).1) => issue_any hW k)
        have zn := zero_is (issue (reserve K k ((head K k).1 : Int)).1 k).2.2
        clear h0 ZX RX hs hr
        generalize (issue (reserve K k ((head K k).1 : Int)).1 k) = J at *
        generalize (reserve K k ((head K k).1 : Int)).1 = K1 at *
        generalize (head K k).1 = n0 at *
        obtain ⟨K2, x, n⟩ := J
        simp only at I1 zn ⊢
        generalize decide (n = 0) = b at *
        go_enter Try.func15, Try.ntmps15
        go_wp2_with (first
          | (go_at_call 22; refine H1.out.mono ?_; rintro e w2 ⟨rfl, p2, t2⟩)
          | (go_at_call 16; refine (R1.out w2 p2).mono ?_; rintro e w3 ⟨rfl, p3, t3⟩)
          | (go_at_call 23; refine (I1.out w3 p3).mono ?_; rintro e w4 ⟨rfl, p4, t4⟩; obtain ⟨w5, hw5, ⟨d0, d1, d2⟩, ⟨c0, c1, c2⟩, ⟨f0, f1, f2⟩, HR⟩ := IX.out w4 K2 x p4 ((t2.trans t3).trans t4); subst hw5))
        obtain ⟨⟨k0, k1, k2⟩, hP, hT⟩ := HR.out
        exact bodyPost_ret (v := .tuple #[.agg #[.int .i64 x.1, .int .i64 (x.2.1 : Int), .int .i64 (x.2.2 : Int)], .int .i64 (n0 : Int), .bool b]) (by simp [results, Try.results15, go_sem, k0, k1, k2]) rfl ⟨rfl, hP, hT⟩
    · rw [if_neg hs]
      rw [Bool.not_eq_false] at hs
      rw [hs] at H1
      have I1 := Lib.hid (fun W (hW : PA W p K) => issue_any hW k)
      have zn := zero_is (issue K k).2.2
      clear h0 ZX RX hs
      generalize (issue K k) = J at *
      generalize (head K k).1 = n0 at *
      obtain ⟨K2, x, n⟩ := J
      simp only at I1 zn ⊢
      generalize decide (n = 0) = b at *
      go_enter Try.func15, Try.ntmps15
      go_wp2_with (first
        | (go_at_call 22; refine H1.out.mono ?_; rintro e w2 ⟨rfl, p2, t2⟩)
        | (go_at_call 23; refine (I1.out w2 p2).mono ?_; rintro e w4 ⟨rfl, p4, t4⟩; obtain ⟨w5, hw5, ⟨d0, d1, d2⟩, ⟨c0, c1, c2⟩, ⟨f0, f1, f2⟩, HR⟩ := IX.out w4 K2 x p4 (t2.trans t4); subst hw5))
      obtain ⟨⟨k0, k1, k2⟩, hP, hT⟩ := HR.out
      exact bodyPost_ret (v := .tuple #[.agg #[.int .i64 x.1, .int .i64 (x.2.1 : Int), .int .i64 (x.2.2 : Int)], .int .i64 (-1), .bool b]) (by simp [results, Try.results15, go_sem, k0, k1, k2]) rfl ⟨rfl, hP, hT⟩
end
end Go.Proofs.Ytdanpdlbbgcidaa
