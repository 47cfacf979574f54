/- The document's pool: Head. -/
import Derived.Test.YtdanpdlbbgcidaaIdRefA
namespace Go.Proofs.Ytdanpdlbbgcidaa
open Go.RowKit Ids
set_option linter.unusedVariables false

section
variable {w W W' : World} {q : RPl} {K : St}
theorem dec_nat (a b : Nat) : decide ((a : Int) < (b : Int)) = decide (a < b) := by
  rw [decide_eq_decide]; omega
set_option maxHeartbeats 8000000 in
set_option maxRecDepth 100000 in
/-- the first one of a row -/
theorem rhead_any (h : RA w q K) (k : Int) : Calls Try.prog 31 #[.pointer (some ⟨q.d, 0, none⟩), .int .i64 k] w fun e w' => e = .returned (.tuple #[.int .i64 ((head K k).1 : Nat), .bool (head K k).2.1, .int .i64 ((head K k).2.2 : Nat)]) ∧ Below w.heap.size w w' := by
  have R := Lib.hid (rat_any h k 0)
  have F := Lib.hid (rfirst_any h k)
  have hm1 := h.ok.m1
  have hs := h.size
  unfold Ids.head
  by_cases hk : 0 ≤ k ∧ k < K.n
  · rw [if_pos hk]
    obtain ⟨k', rfl⟩ : ∃ k' : Nat, k = (k' : Int) := ⟨k.toNat, by omega⟩
    have hk' : k' < K.n := by omega
    rw [Int.toNat_natCast]
    have hin : In K (k' : Int) 0 := ⟨by omega, by omega, by omega, by omega⟩
    rw [rat_in hin] at R
    have t2 : ¬ (((k' : Int).toNat * K.m + (0 : Int).toNat : Nat) : Int) < 0 := by omega
    generalize ((k' : Int).toNat * K.m + (0 : Int).toNat) = p0 at *
    cases hr : K.row k' with
    | nil =>
      have e1 : rfirst K (k' : Int) = -1 := by
        unfold rfirst
        rw [if_pos hk, Int.toNat_natCast, hr]
      rw [e1] at F
      clear h hk hk' hin hr e1 hs
      go_enter Try.func31, Try.ntmps31
      go_wp2_with (first
        | (go_at_call 44; refine R.out.mono ?_; rintro e w' ⟨rfl, rfl⟩; clear R)
        | (go_at_call 45; refine F.out.mono ?_; rintro e w1 ⟨rfl, hb⟩; have HB := Lib.hid hb; clear hb F))
      go_ret3
      exact ⟨rfl, HB.out⟩
    | cons i rest =>
      have him : i < K.m := h.ok.lt k' hk' i (by rw [hr]; exact List.mem_cons_self)
      have hp := pos_lt hk' him
      have e1 : rfirst K (k' : Int) = ((k' * K.m + i : Nat) : Int) := by
        unfold rfirst
        rw [if_pos hk, Int.toNat_natCast, hr]
        show (k' : Int) * K.m + i = _
        rw [Int.natCast_add, Int.natCast_mul]
      rw [e1] at F
      have SL : Hid (∀ W, Below w.heap.size w W → W.cell? ⟨q.d, 0, none⟩ = some (Value.slice (some ⟨q.b, 0, none⟩) (K.n * K.m) q.c) ∧ W.cell? ⟨q.b, (k' * K.m + i) * 6 + 1, none⟩ = some (.int .i64 (i : Int)) ∧ W.cell? ⟨q.b, (k' * K.m + i) * 6 + 2, none⟩ = some (.int .i64 (K.gen k' i : Int)) ∧ W.cell? ⟨q.b, (k' * K.m + i) * 6 + 3, none⟩ = some (.int .i64 (K.bnd k' i : Int)) ∧ Hid (∀ n, Below w.heap.size w (W.drewN n))) := Lib.hid fun W hW => by
        have h9 := h.below hW
        obtain ⟨_, s1, s2, s3, _, _⟩ := (h9.slot hk' him).1
        exact ⟨h9.box0, s1, s2, s3, Lib.hid fun n => Below.dn' hW n⟩
      have t3 : ((k' * K.m + i : Nat) : Int) < ((K.n * K.m : Nat) : Int) := by omega
      have t4 : ¬ ((k' * K.m + i : Nat) : Int) < 0 := by omega
      have t5 := dec_nat (K.gen k' i) (K.bnd k' i)
      clear h hk hk' hin hr e1 hp him
      show Calls _ _ _ _ fun e w' => e = .returned (.tuple #[.int .i64 (i : Int), .bool (decide (K.gen k' i < K.bnd k' i)), .int .i64 0]) ∧ _
      generalize decide (K.gen k' i < K.bnd k' i) = r at *
      generalize (K.gen k' i : Int) = y2 at *
      generalize (K.bnd k' i : Int) = y3 at *
      generalize k' * K.m + i = p at *
      generalize K.n * K.m = N at *
      go_enter Try.func31, Try.ntmps31
      go_wp2_with (first
        | (go_at_call 44; refine R.out.mono ?_; rintro e w' ⟨rfl, rfl⟩; clear R)
        | (go_at_call 45; refine F.out.mono ?_; rintro e w1 ⟨rfl, hb⟩; obtain ⟨c0, c1, c2, c3, FIN⟩ := SL.out w1 hb; clear hb F SL))
      go_quiet (fail)
      go_wp2
      go_ret3
      exact ⟨rfl, FIN.out _⟩
  · rw [if_neg hk]
    have hin : ¬ In K k 0 := fun t => hk ⟨t.1, t.2.1⟩
    rw [rat_out hin] at R
    have FIN := Lib.hid (Below.refl w.heap.size w)
    clear h hk hin F hs
    go_enter Try.func31, Try.ntmps31
    go_wp2_with (go_at_call 44; refine R.out.mono ?_; rintro e w' ⟨rfl, rfl⟩; clear R)
    go_ret3
    exact ⟨rfl, FIN.out⟩
end
end Go.Proofs.Ytdanpdlbbgcidaa
