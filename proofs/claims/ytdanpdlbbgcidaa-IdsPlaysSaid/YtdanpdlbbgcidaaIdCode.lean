/- The small ones: a shard, an index; is an index worn, set aside, free, somebody's? -/
import Derived.Test.YtdanpdlbbgcidaaIdMem
import Derived.Test.YtdanpdlbbgcidaaShelf
import Derived.BigQuiet
import Derived.Deep.RegionHeld3
namespace Go.Proofs.Ytdanpdlbbgcidaa
open Go.RowKit Ids
set_option linter.unusedVariables false

section
variable {w : World} {p : Pl} {K : St}
set_option maxHeartbeats 4000000 in
theorem pat_in (h : PA w p K) {k : Nat} (hk : k < K.n) :
    Calls Try.prog 36 #[.pointer (some ⟨p.d, 0, none⟩), .int .i64 (k : Int)] w fun e w' => e = .returned (.pointer (some ⟨p.q, 2 * k, none⟩)) ∧ w = w' := by
  have b := h.box1
  have n2 := h.ok.n2
  have t1 : decide ((k : Int) < 0) = false := decide_eq_false (by omega)
  have t2 : decide ((K.n : Int) ≤ (k : Int)) = false := decide_eq_false (by omega)
  have t3 : decide (K.n ≤ k) = false := decide_eq_false (by omega)
  have t4 : (k : Int) < (K.n : Int) := by omega
  have t5 : 0 ≤ (k : Int) := by omega
  clear h n2
  generalize K.n = n at *
  generalize p.d = d at *
  generalize p.q = q at *
  generalize p.N = N at *
  go_enter Try.func36, Try.ntmps36
  go_wp2
  go_ret
  exact ⟨by simp [Nat.mul_comm], rfl⟩
set_option maxHeartbeats 4000000 in
theorem pat_out (h : PA w p K) {k : Int} (hk : ¬ (0 ≤ k ∧ k < K.n)) :
    Calls Try.prog 36 #[.pointer (some ⟨p.d, 0, none⟩), .int .i64 k] w fun e w' => e = .returned (.pointer none) ∧ w = w' := by
  have b := h.box1
  by_cases h0 : k < 0
  · have t1 : decide (k < 0) = true := decide_eq_true h0
    clear h hk h0
    go_enter Try.func36, Try.ntmps36
    go_wp2
    go_ret
    exact ⟨rfl, rfl⟩
  · have t1 : decide (k < 0) = false := decide_eq_false h0
    have t2 : decide ((K.n : Int) ≤ k) = true := decide_eq_true (by omega)
    clear h hk h0
    go_enter Try.func36, Try.ntmps36
    go_wp2
    go_ret
    exact ⟨rfl, rfl⟩
set_option maxHeartbeats 4000000 in
theorem pat_nil (w : World) (k : Int) :
    Calls Try.prog 36 #[.pointer none, .int .i64 k] w fun e w' => e = .returned (.pointer none) ∧ w = w' := by
  go_enter Try.func36, Try.ntmps36
  go_wp2
  go_ret
  exact ⟨rfl, rfl⟩
set_option maxHeartbeats 4000000 in
theorem sat_raw {q o d n i : Nat} (b : w.cell? ⟨q, o, none⟩ = some (.slice (some ⟨d, 0, none⟩) n n)) (n2 : n ≤ 16) (hi : i < n) :
    Calls Try.prog 37 #[.pointer (some ⟨q, o, none⟩), .int .i64 (i : Int)] w fun e w' => e = .returned (.pointer (some ⟨d, 2 * i, none⟩)) ∧ w = w' := by
  have t1 : decide ((i : Int) < 0) = false := decide_eq_false (by omega)
  have t2 : decide ((n : Int) ≤ (i : Int)) = false := decide_eq_false (by omega)
  have t3 : decide (n ≤ i) = false := decide_eq_false (by omega)
  have t4 : (i : Int) < (n : Int) := by omega
  have t5 : 0 ≤ (i : Int) := by omega
  clear n2
  go_enter Try.func37, Try.ntmps37
  go_wp2
  go_ret
  exact ⟨by simp [Nat.mul_comm], rfl⟩
theorem sat_in (h : PA w p K) {k i : Nat} (hk : k < K.n) (hi : i < K.m) :
    Calls Try.prog 37 #[.pointer (some ⟨p.q, 2 * k, none⟩), .int .i64 (i : Int)] w fun e w' => e = .returned (.pointer (some ⟨p.ib k, 2 * i, none⟩)) ∧ w = w' :=
  sat_raw (h.ixs hk) h.ok.m2 hi
set_option maxHeartbeats 4000000 in
theorem sat_out (h : PA w p K) {k : Nat} {i : Int} (hk : k < K.n) (hi : ¬ (0 ≤ i ∧ i < K.m)) :
    Calls Try.prog 37 #[.pointer (some ⟨p.q, 2 * k, none⟩), .int .i64 i] w fun e w' => e = .returned (.pointer none) ∧ w = w' := by
  have b := h.ixs hk
  by_cases h0 : i < 0
  · have t1 : decide (i < 0) = true := decide_eq_true h0
    clear h hk h0 hi
    generalize 2 * k = o at *
    go_enter Try.func37, Try.ntmps37
    go_wp2
    go_ret
    exact ⟨rfl, rfl⟩
  · have t1 : decide (i < 0) = false := decide_eq_false h0
    have t2 : decide ((K.m : Int) ≤ i) = true := decide_eq_true (by omega)
    clear h hk h0 hi
    generalize 2 * k = o at *
    go_enter Try.func37, Try.ntmps37
    go_wp2
    go_ret
    exact ⟨rfl, rfl⟩
set_option maxHeartbeats 4000000 in
theorem sat_nil (w : World) (k : Int) :
    Calls Try.prog 37 #[.pointer none, .int .i64 k] w fun e w' => e = .returned (.pointer none) ∧ w = w' := by
  go_enter Try.func37, Try.ntmps37
  go_wp2
  go_ret
  exact ⟨rfl, rfl⟩
set_option maxHeartbeats 4000000 in
theorem worn_at {b o : Nat} {g : Int} (hg : w.cell? ⟨b, o, none⟩ = some (.int .i64 g)) :
    Calls Try.prog 40 #[.pointer (some ⟨b, o, none⟩)] w fun e w' => e = .returned (.bool (decide (1048576 ≤ g))) ∧ w = w' := by
  go_enter Try.func40, Try.ntmps40
  go_wp2
  go_ret
  exact ⟨rfl, rfl⟩
set_option maxHeartbeats 4000000 in
theorem aside_at {b o : Nat} {g c : Int} (hg : w.cell? ⟨b, o, none⟩ = some (.int .i64 g)) (hc : w.cell? ⟨b, o + 1, none⟩ = some (.int .i64 c)) :
    Calls Try.prog 43 #[.pointer (some ⟨b, o, none⟩)] w fun e w' => e = .returned (.bool (decide (g < c))) ∧ ∃ n, w' = w.drewN n := by
  go_enter Try.func43, Try.ntmps43
  go_wp2
  go_quiet (fail)
  go_wp2
  go_ret
  exact ⟨rfl, _, rfl⟩
theorem worn_in (h : PA w p K) {k i : Nat} (hk : k < K.n) (hi : i < K.m) :
    Calls Try.prog 40 #[.pointer (some ⟨p.ib k, 2 * i, none⟩)] w fun e w' => e = .returned (.bool (decide (MG ≤ K.gen k i))) ∧ w = w' := by
  have e : decide (MG ≤ K.gen k i) = decide ((1048576 : Int) ≤ (K.gen k i : Int)) := by
    rw [decide_eq_decide]; unfold MG; omega
  rw [e]
  exact worn_at (h.gen_at hk hi).1
theorem aside_in (h : PA w p K) {k i : Nat} (hk : k < K.n) (hi : i < K.m) :
    Calls Try.prog 43 #[.pointer (some ⟨p.ib k, 2 * i, none⟩)] w fun e w' => e = .returned (.bool (decide (K.gen k i < K.bnd k i))) ∧ ∃ n, w' = w.drewN n := by
  have e : decide (K.gen k i < K.bnd k i) = decide ((K.gen k i : Int) < (K.bnd k i : Int)) := by
    rw [decide_eq_decide]; omega
  rw [e]
  exact aside_at (h.gen_at hk hi).1 (h.bnd_at hk hi).1
theorem contains_cast (l : List Nat) (i : Nat) : (l.map (Int.ofNat)).contains (i : Int) = l.contains i := by
  induction l with
  | nil => rfl
  | cons a r ih =>
    simp only [List.map_cons, List.contains_cons, ih]
    congr 1
    by_cases h : i = a
    · subst h; simp
    · have : (i : Int) ≠ Int.ofNat a := fun e => h (by exact Int.ofNat.inj e)
      rw [beq_eq_false_iff_ne.2 this, beq_eq_false_iff_ne.2 h]
set_option maxHeartbeats 4000000 in
theorem free_in (h : PA w p K) {k i : Nat} (hk : k < K.n) :
    Calls Try.prog 38 #[.pointer (some ⟨p.q, 2 * k, none⟩), .int .i64 (i : Int)] w fun e w' => e = .returned (.bool ((K.row k).contains i)) ∧ w = w' := by
  have b := (h.rws hk).1
  have hl := h.ok.len hk
  have hm := h.ok.m2
  have C := Try.slices_Contains_int (p.rb k) 0 (K.row k).length (p.cb k) ((K.row k).map Int.ofNat) (i : Int) w (by simp) (by omega) (fun j hj => by
    rw [List.length_map] at hj
    rw [Nat.zero_add, (h.row_at hk (List.getElem?_eq_getElem hj)).1]
    simp [List.getD_eq_getElem?_getD, List.getElem?_map, List.getElem?_eq_getElem hj])
  rw [show ((K.row k).map Int.ofNat).take (K.row k).length = (K.row k).map Int.ofNat from List.take_of_length_le (by simp), contains_cast] at C
  have C := Lib.hid C
  clear h hl hm
  generalize (K.row k).contains i = r at *
  generalize (K.row k).length = n at *
  generalize p.rb k = d at *
  generalize p.cb k = c at *
  generalize p.q = q at *
  generalize 2 * k = o at *
  go_enter Try.func38, Try.ntmps38
  go_wp2_with (go_at_call 46; refine C.out.mono ?_; rintro e w' ⟨rfl, rfl⟩)
  go_ret
  exact ⟨rfl, rfl⟩
set_option maxHeartbeats 4000000 in
theorem taken_in (h : PA w p K) {k i : Nat} (hk : k < K.n) (hi : i < K.m) :
    Calls Try.prog 42 #[.pointer (some ⟨p.q, 2 * k, none⟩), .int .i64 (i : Int)] w fun e w' => e = .returned (.bool (taken K k i)) ∧ w = w' := by
  have F := Lib.hid (free_in h (i := i) hk)
  have S := Lib.hid (sat_in h hk hi)
  have W := Lib.hid (worn_in h hk hi)
  have e : taken K k i = (!(K.row k).contains i && !decide (MG ≤ K.gen k i)) := by
    unfold taken
    congr 1
    by_cases h1 : K.gen k i < MG
    · rw [decide_eq_true h1, decide_eq_false (by omega)]; rfl
    · rw [decide_eq_false h1, decide_eq_true (by omega)]; rfl
  rw [e]
  clear h e
  generalize (K.row k).contains i = r at *
  generalize decide (MG ≤ K.gen k i) = s at *
  generalize p.ib k = d at *
  generalize p.q = q at *
  generalize 2 * k = o at *
  generalize 2 * i = o' at *
  cases r <;> (
    go_enter Try.func42, Try.ntmps42
    go_wp2_with (first | (go_at_call 38; refine F.out.mono ?_; rintro e w' ⟨rfl, rfl⟩) | (go_at_call 37; refine S.out.mono ?_; rintro e w' ⟨rfl, rfl⟩) | (go_at_call 40; refine W.out.mono ?_; rintro e w' ⟨rfl, rfl⟩))
    go_ret
    exact ⟨by simp, rfl⟩)
end
end Go.Proofs.Ytdanpdlbbgcidaa
