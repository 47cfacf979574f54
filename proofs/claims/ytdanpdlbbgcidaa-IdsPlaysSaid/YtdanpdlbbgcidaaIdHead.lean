/- Head, Gen, Reserve, Alive. -/
import Derived.Test.YtdanpdlbbgcidaaIdLapse
namespace Go.Proofs.Ytdanpdlbbgcidaa
open Go.RowKit Ids
set_option linter.unusedVariables false

/-- behind this pointer there is no such shard, or no such index -/
def Gap (w : World) (pv : Option Addr) (k : Int) (s : Option Addr) : Prop := ∀ W, Below w.heap.size w W → Calls Try.prog 36 #[.pointer pv, .int .i64 k] W fun e w' => e = .returned (.pointer s) ∧ W = w'
def Gap2 (w : World) (s : Option Addr) (i : Int) : Prop := ∀ W, Below w.heap.size w W → Calls Try.prog 37 #[.pointer s, .int .i64 i] W fun e w' => e = .returned (.pointer none) ∧ W = w'
def Miss (w : World) (pv : Option Addr) (k i : Int) : Prop := ∃ s, Gap w pv k s ∧ Gap2 w s i
section
variable {w : World} {p : Pl} {K : St}
theorem gap_nil (w : World) (k : Int) : Gap w none k none := fun W _ => pat_nil W k
theorem gap_out (h : PA w p K) {k : Int} (hk : ¬ (0 ≤ k ∧ k < K.n)) : Gap w (some ⟨p.d, 0, none⟩) k none := fun W hb => pat_out (h.below hb) hk
theorem gap_in (h : PA w p K) {k : Nat} (hk : k < K.n) : Gap w (some ⟨p.d, 0, none⟩) (k : Int) (some ⟨p.q, 2 * k, none⟩) := fun W hb => pat_in (h.below hb) hk
theorem miss_nil (w : World) (k i : Int) : Miss w none k i := ⟨none, gap_nil w k, fun W _ => sat_nil W i⟩
theorem miss_out (h : PA w p K) {k i : Int} (hk : ¬ In K k i) : Miss w (some ⟨p.d, 0, none⟩) k i := by
  by_cases h1 : 0 ≤ k ∧ k < K.n
  · obtain ⟨k', rfl⟩ : ∃ k' : Nat, k = (k' : Int) := ⟨k.toNat, by omega⟩
    refine ⟨_, gap_in h (by omega), fun W hb => sat_out (h.below hb) (by omega) (fun h2 => hk ⟨by omega, by omega, h2.1, h2.2⟩)⟩
  · exact ⟨none, gap_out h h1, fun W _ => sat_nil W i⟩
theorem in_nats {k i : Int} (h : In K k i) : ∃ k' i' : Nat, k = (k' : Int) ∧ i = (i' : Int) ∧ k' < K.n ∧ i' < K.m ∧ k.toNat = k' ∧ i.toNat = i' := by
  unfold In at h
  exact ⟨k.toNat, i.toNat, by omega, by omega, by omega, by omega, rfl, rfl⟩

set_option maxHeartbeats 4000000 in
theorem head_none {pv : Option Addr} {k : Int} (h : Gap w pv k none) :
    Calls Try.prog 22 #[.pointer pv, .int .i64 k] w fun e w' => e = .returned (.tuple #[.int .i64 0, .bool false, .int .i64 1]) ∧ Below w.heap.size w w' := by
  have A := Lib.hid (h w (Below.refl _ _))
  clear h
  go_enter Try.func22, Try.ntmps22
  go_wp2_with (go_at_call 36; refine A.out.mono ?_; rintro e w' ⟨rfl, rfl⟩)
  go_ret3
  exact ⟨rfl, Below.refl _ _⟩
set_option maxHeartbeats 4000000 in
theorem head_any (h : PA w p K) (k : Int) :
    Calls Try.prog 22 #[.pointer (some ⟨p.d, 0, none⟩), .int .i64 k] w fun e w' => e = .returned (.tuple #[.int .i64 ((head K k).1 : Nat), .bool (head K k).2.1, .int .i64 ((head K k).2.2 : Nat)]) ∧ Below w.heap.size w w' := by
  by_cases h1 : 0 ≤ k ∧ k < K.n
  · obtain ⟨k', rfl⟩ : ∃ k' : Nat, k = (k' : Int) := ⟨k.toNat, by omega⟩
    have hk : k' < K.n := by omega
    have A := Lib.hid (pat_in h hk)
    have r1 := (h.rws hk).1
    unfold Ids.head
    rw [if_pos h1, Int.toNat_natCast]
    cases hrow : K.row k' with
    | nil =>
      rw [hrow] at r1
      clear h h1 hk hrow
      simp only [List.length_nil] at r1
      generalize 2 * k' = o at *
      go_enter Try.func22, Try.ntmps22
      go_wp2_with (go_at_call 36; refine A.out.mono ?_; rintro e w' ⟨rfl, rfl⟩)
      go_ret3
      exact ⟨rfl, Below.refl _ _⟩
    | cons i rest =>
      have hi : i < K.m := h.ok.lt k' hk i (by rw [hrow]; exact List.mem_cons_self)
      have e0 : (K.row k')[0]? = some i := by rw [hrow]; rfl
      have c0 := (h.row_at hk e0).1
      have S := Lib.hid (sat_in h hk hi)
      have D := Lib.hid (aside_in h hk hi)
      have hl := h.ok.len hk
      have m2 := h.ok.m2
      have t1 : ((K.row k').length : Int) ≤ 16 := by omega
      have t2 : 0 < (K.row k').length := by rw [hrow]; simp
      have t3 : (((K.row k').length : Int) == 0) = false := beq_eq_false_iff_ne.2 (by omega)
      have t4 : (0 : Int) < ((K.row k').length : Int) := by omega
      clear h h1 hk hrow hi e0 hl m2
      show Calls _ _ _ _ fun e w' => e = .returned (.tuple #[.int .i64 (i : Int), .bool (decide (K.gen k' i < K.bnd k' i)), .int .i64 0]) ∧ _
      generalize (K.row k').length = n at *
      generalize decide (K.gen k' i < K.bnd k' i) = r at *
      generalize 2 * k' = o at *
      generalize 2 * i = o' at *
      go_enter Try.func22, Try.ntmps22
      go_wp2_with (first | (go_at_call 36; refine A.out.mono ?_; rintro e w' ⟨rfl, rfl⟩) | (go_at_call 37; refine S.out.mono ?_; rintro e w' ⟨rfl, rfl⟩) | (go_at_call 43; refine D.out.mono ?_; rintro e w' ⟨rfl, m, rfl⟩))
      go_ret3
      exact ⟨rfl, below_dn _ _⟩
  · have e : head K k = (0, false, 1) := by unfold Ids.head; rw [if_neg h1]
    rw [e]
    exact head_none (gap_out h h1)
set_option maxHeartbeats 4000000 in
theorem gen_none {pv : Option Addr} {k i : Int} (h : Miss w pv k i) :
    Calls Try.prog 24 #[.pointer pv, .int .i64 k, .int .i64 i] w fun e w' => e = .returned (.int .i64 0) ∧ w = w' := by
  obtain ⟨s, h1, h2⟩ := h
  have A := Lib.hid (h1 w (Below.refl _ _))
  have S := Lib.hid (h2 w (Below.refl _ _))
  clear h1 h2
  go_enter Try.func24, Try.ntmps24
  go_wp2_with (first | (go_at_call 36; refine A.out.mono ?_; rintro e w' ⟨rfl, rfl⟩) | (go_at_call 37; refine S.out.mono ?_; rintro e w' ⟨rfl, rfl⟩))
  go_ret
  exact ⟨rfl, rfl⟩
set_option maxHeartbeats 4000000 in
theorem gen_any (h : PA w p K) (k i : Int) :
    Calls Try.prog 24 #[.pointer (some ⟨p.d, 0, none⟩), .int .i64 k, .int .i64 i] w fun e w' => e = .returned (.int .i64 (genOf K k i : Nat)) ∧ w = w' := by
  unfold genOf
  by_cases h1 : In K k i
  · rw [if_pos h1]
    obtain ⟨k, i, rfl, rfl, hk, hi, _, _⟩ := in_nats h1
    rw [Int.toNat_natCast, Int.toNat_natCast]
    have A := Lib.hid (pat_in h hk)
    have S := Lib.hid (sat_in h hk hi)
    have g := (h.gen_at hk hi).1
    clear h h1 hk hi
    generalize K.gen k i = n at *
    generalize 2 * k = o at *
    generalize 2 * i = o' at *
    go_enter Try.func24, Try.ntmps24
    go_wp2_with (first | (go_at_call 36; refine A.out.mono ?_; rintro e w' ⟨rfl, rfl⟩) | (go_at_call 37; refine S.out.mono ?_; rintro e w' ⟨rfl, rfl⟩))
    go_ret
    exact ⟨rfl, rfl⟩
  · rw [if_neg h1]
    exact gen_none (miss_out h h1)
set_option maxHeartbeats 4000000 in
theorem reserve_none {pv : Option Addr} {k i : Int} (h : Miss w pv k i) :
    Calls Try.prog 16 #[.pointer pv, .int .i64 k, .int .i64 i] w fun e w' => e = .returned (.int .i64 1) ∧ w = w' := by
  obtain ⟨s, h1, h2⟩ := h
  have A := Lib.hid (h1 w (Below.refl _ _))
  have S := Lib.hid (h2 w (Below.refl _ _))
  clear h1 h2
  go_enter Try.func16, Try.ntmps16
  go_wp2_with (first | (go_at_call 36; refine A.out.mono ?_; rintro e w' ⟨rfl, rfl⟩) | (go_at_call 37; refine S.out.mono ?_; rintro e w' ⟨rfl, rfl⟩))
  go_ret
  exact ⟨rfl, rfl⟩
set_option maxHeartbeats 4000000 in
theorem reserve_any (h : PA w p K) (k i : Int) :
    Calls Try.prog 16 #[.pointer (some ⟨p.d, 0, none⟩), .int .i64 k, .int .i64 i] w fun e w' => e = .returned (.int .i64 ((reserve K k i).2 : Nat)) ∧ PA w' p (reserve K k i).1 ∧ Turn p.lo p.hi w w' := by
  unfold Ids.reserve
  by_cases h1 : In K k i
  · rw [if_pos h1]
    obtain ⟨k, i, rfl, rfl, hk, hi, _, _⟩ := in_nats h1
    rw [Int.toNat_natCast, Int.toNat_natCast]
    have A := Lib.hid (pat_in h hk)
    have S := Lib.hid (sat_in h hk hi)
    obtain ⟨g, g2⟩ := h.bnd_at hk hi
    have hb := h.ok.bnd k i
    by_cases hm : K.bnd k i ≥ MG
    · rw [if_pos hm]
      have HP := Lib.hid h
      have t1 : decide ((K.bnd k i : Int) ≥ 1048576) = true := decide_eq_true (by unfold MG at hm; omega)
      have t2 : decide ((1048576 : Int) ≤ (K.bnd k i : Int)) = true := decide_eq_true (by unfold MG at hm; omega)
      clear h h1 hk hi hm hb
      generalize K.bnd k i = n at *
      generalize 2 * k = o at *
      generalize 2 * i = o' at *
      go_enter Try.func16, Try.ntmps16
      go_wp2_with (first | (go_at_call 36; refine A.out.mono ?_; rintro e w' ⟨rfl, rfl⟩) | (go_at_call 37; refine S.out.mono ?_; rintro e w' ⟨rfl, rfl⟩))
      go_ret
      exact ⟨rfl, HP.out, Turn.refl _ _ _⟩
    · rw [if_neg hm]
      have HP := Lib.hid (h.setBnd hk hi (Nat.min_le_right (K.bnd k i + 8) MG))
      have HT := Lib.hid (h.turn_i (o := 2 * i + 1) hk (.int .i64 ((min (K.bnd k i + 8) MG : Nat) : Int)))
      unfold MG at hm hb
      have t1 : decide ((1048576 : Int) ≤ (K.bnd k i : Int)) = false := decide_eq_false (by omega)
      have t3 : min ((K.bnd k i : Int) + 8) 1048576 = ((min (K.bnd k i + 8) MG : Nat) : Int) := by unfold MG; omega
      have t4 : (K.bnd k i : Int) ≤ 1048576 := by omega
      clear h h1 hk hi hm hb
      generalize setBnd K k i (min (K.bnd k i + 8) MG) = K' at *
      generalize min (K.bnd k i + 8) MG = v at *
      generalize K.bnd k i = n at *
      generalize 2 * k = o at *
      generalize 2 * i = o' at *
      go_enter Try.func16, Try.ntmps16
      go_wp2_with (first | (go_at_call 36; refine A.out.mono ?_; rintro e w' ⟨rfl, rfl⟩) | (go_at_call 37; refine S.out.mono ?_; rintro e w' ⟨rfl, rfl⟩))
      go_ret
      exact ⟨rfl, HP.out, HT.out⟩
  · rw [if_neg h1]
    refine (reserve_none (miss_out h h1)).mono ?_
    rintro e w' ⟨rfl, rfl⟩
    exact ⟨rfl, h, Turn.refl _ _ _⟩
end
end Go.Proofs.Ytdanpdlbbgcidaa
