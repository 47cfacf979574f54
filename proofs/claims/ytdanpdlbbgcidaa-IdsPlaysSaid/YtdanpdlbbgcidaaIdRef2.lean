/- The document's pool: Of and Alive. -/
import Derived.Test.YtdanpdlbbgcidaaIdRef
import Derived.Test.YtdanpdlbbgcidaaIdAlive
namespace Go.Proofs.Ytdanpdlbbgcidaa
open Go.RowKit Ids
set_option linter.unusedVariables false

section
variable {w W W' : World} {q : RPl} {K : St}
theorem rat_in {k i : Int} (hin : In K k i) : rat K k i = ((k.toNat * K.m + i.toNat : Nat) : Int) := by
  unfold rat
  rw [if_pos hin]
  obtain ⟨a1, _, a3, _⟩ := hin
  rw [Int.natCast_add, Int.natCast_mul, Int.toNat_of_nonneg a1, Int.toNat_of_nonneg a3]
theorem rat_out {k i : Int} (hin : ¬ In K k i) : rat K k i = -1 := if_neg hin
set_option maxHeartbeats 4000000 in
/-- an index's generation -/
theorem rof_any (h : RA w q K) (k i : Int) : Calls Try.prog 35 #[.pointer (some ⟨q.d, 0, none⟩), .int .i64 k, .int .i64 i] w fun e w' => e = .returned (.int .i64 (genOf K k i : Int)) ∧ w = w' := by
  have R := Lib.hid (rat_any h k i)
  have c0 := h.box0
  have hs := h.size
  by_cases hin : In K k i
  · rw [rat_in hin] at R
    have hk : k.toNat < K.n := by obtain ⟨_, _, _, _⟩ := hin; omega
    have hi : i.toNat < K.m := by obtain ⟨_, _, _, _⟩ := hin; omega
    have c1 := (h.slot hk hi).1.2.2.1
    have hp := pos_lt hk hi
    have hg : genOf K k i = K.gen k.toNat i.toNat := if_pos hin
    rw [hg]
    clear hg h hin hk hi
    generalize K.gen k.toNat i.toNat = g at *
    generalize k.toNat * K.m + i.toNat = p at *
    generalize K.n * K.m = N at *
    have t1 : (p : Int) < (N : Int) := by omega
    have t2 : ¬ (p : Int) < 0 := by omega
    go_enter Try.func35, Try.ntmps35
    go_wp2_with (go_at_call 44; refine R.out.mono ?_; rintro e w' ⟨rfl, rfl⟩; clear R)
    go_ret
    exact ⟨rfl, rfl⟩
  · rw [rat_out hin] at R
    have hg : genOf K k i = 0 := if_neg hin
    rw [hg]
    clear hg h hin
    go_enter Try.func35, Try.ntmps35
    go_wp2_with (go_at_call 44; refine R.out.mono ?_; rintro e w' ⟨rfl, rfl⟩; clear R)
    go_ret
    exact ⟨rfl, rfl⟩
set_option maxHeartbeats 4000000 in
/-- is a name somebody's? -/
theorem ralive_any (h : RA w q K) (k i g : Int) : Calls Try.prog 34 #[.pointer (some ⟨q.d, 0, none⟩), .agg #[.int .i64 k, .int .i64 i, .int .i64 g]] w fun e w' => e = .returned (.bool (alive K k i g)) ∧ Below w.heap.size w w' := by
  have b1 := bel1 w (.cells #[.int .i64 k, .int .i64 i, .int .i64 g] 33)
  have h' := h.below b1
  have R := Lib.hid (rat_any h' k i)
  have c0 := h'.box0
  have hs := h.size
  obtain ⟨⟨a0, a1, a2⟩, _⟩ := box3 (at1 w (.cells #[.int .i64 k, .int .i64 i, .int .i64 g] 33))
  have fin : Hid (∀ n, Below w.heap.size w ((w.alloc (.cells #[.int .i64 k, .int .i64 i, .int .i64 g] 33)).drewN n)) := Lib.hid fun n => Below.dn' b1 n
  by_cases hin : In K k i
  · rw [rat_in hin] at R
    have hk : k.toNat < K.n := by obtain ⟨_, _, _, _⟩ := hin; omega
    have hi : i.toNat < K.m := by obtain ⟨_, _, _, _⟩ := hin; omega
    have c1 := (h'.slot hk hi).1.2.2.1
    have c2 := (h'.slot hk hi).1.2.2.2.2.2
    have hp := pos_lt hk hi
    have hg : alive K k i g = (decide ((K.gen k.toNat i.toNat : Int) = g) && taken K k.toNat i.toNat) := if_pos hin
    rw [hg]
    clear hg h hin hk hi b1 h'
    generalize (K.gen k.toNat i.toNat : Int) = y at *
    generalize ht : taken K k.toNat i.toNat = t at *
    clear ht
    generalize k.toNat * K.m + i.toNat = p at *
    generalize K.n * K.m = N at *
    have t1 : (p : Int) < (N : Int) := by omega
    have t2 : (p : Int) ≥ 0 := by omega
    cases t with
    | true =>
      by_cases e : y = g
      · have t3 : (y == g) = true := beq_iff_eq.2 e
        rw [decide_eq_true e]
        clear e
        go_enter Try.func34, Try.ntmps34
        go_wp2_with (go_at_call 44; refine R.out.mono ?_; rintro e w' ⟨rfl, rfl⟩; clear R)
        go_quiet (fail)
        go_wp2
        go_ret
        exact ⟨rfl, fin.out _⟩
      · have t3 : (y == g) = false := beq_eq_false_iff_ne.2 e
        rw [decide_eq_false e]
        clear e
        go_enter Try.func34, Try.ntmps34
        go_wp2_with (go_at_call 44; refine R.out.mono ?_; rintro e w' ⟨rfl, rfl⟩; clear R)
        go_quiet (fail)
        go_wp2
        go_ret
        exact ⟨rfl, fin.out _⟩
    | false =>
      rw [Bool.and_false]
      go_enter Try.func34, Try.ntmps34
      go_wp2_with (go_at_call 44; refine R.out.mono ?_; rintro e w' ⟨rfl, rfl⟩; clear R)
      go_quiet (fail)
      go_wp2
      go_ret
      exact ⟨rfl, fin.out _⟩
  · rw [rat_out hin] at R
    have hg : alive K k i g = false := if_neg hin
    rw [hg]
    clear hg h hin b1 h'
    go_enter Try.func34, Try.ntmps34
    go_wp2_with (go_at_call 44; refine R.out.mono ?_; rintro e w' ⟨rfl, rfl⟩; clear R)
    go_quiet (fail)
    go_wp2
    go_ret
    exact ⟨rfl, fin.out _⟩
end
end Go.Proofs.Ytdanpdlbbgcidaa
