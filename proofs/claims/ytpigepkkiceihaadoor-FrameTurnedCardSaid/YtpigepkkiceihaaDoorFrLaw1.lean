/- The laws' walks: FrameSums, FrameLays, FrameReads, FrameAll. -/
import Derived.Test.YtpigepkkiceihaaDoorFrAwake
namespace Go.Proofs.YtpigepkkiceihaaDoor
open Go.RowKit
set_option linter.unusedVariables false

theorem awake_hid : Hid (∀ W, Good W → Calls Tryd.prog 10 #[] W fun e w' => e = .returned (.bool true) ∧ Below W.heap.size W w') := Lib.hid (fun W hW => awake_any W hW)
theorem sum_new (a : List UInt8) (W : World) (ha : a.length ≤ 140737488351232) (hg : Good W) :
    Calls Tryd.prog 11 #[.slice (some ⟨W.heap.size, 0, none⟩) 1 1] (W.alloc (.cells #[.string ⟨a.toArray⟩] 9)) fun e w' => e = .returned (.int .u32 (Fr.sum a : Nat)) ∧ Below W.heap.size W w' := by
  have := sum_any (some ⟨W.heap.size, 0, none⟩) 1 [a] _ _ (by simp) (by intro s hs; simp at hs; subst hs; exact ha) (reads_new W #[.string ⟨a.toArray⟩] 9) (hg.alloc _)
  refine this.mono ?_
  rintro e w' ⟨rfl, rfl⟩
  exact ⟨by simp, bel1 _ _⟩
theorem flat_len_total (l : List (List UInt8)) : l.flatten.length = total l := by
  have : ∀ (l : List (List UInt8)) (n : Nat), l.foldl (fun n s => n + s.length) n = n + l.flatten.length := by
    intro l
    induction l with
    | nil => intro n; simp
    | cons x l ih => intro n; rw [List.foldl_cons, ih]; simp; omega
  unfold total
  rw [this]
  simp
theorem flat_take (l : List (List UInt8)) (k : Nat) (h : k < l.length) : (l.take (k + 1)).flatten = (l.take k).flatten ++ l[k] := by
  rw [List.take_succ_eq_append_getElem h, List.flatten_append]
  simp

set_option maxHeartbeats 2000000 in
set_option maxRecDepth 100000 in
theorem law_sums (w : World) (hg : Good w) (A : Option Addr) (cap : Nat) (l : List (List UInt8)) (_ : l.length ≤ cap) (_ : cap ≤ 140737488351232) (hs : ∀ s ∈ l, s.length ≤ 140737488351232) (hr : Reads w w.heap.size A (strings l)) :
    Calls Tryd.prog 3 #[.slice A l.length cap] w fun e w' => e = .returned (.bool true) ∧ Below w.heap.size w w' := by
  have cl := long_any A cap l w hs hr
  by_cases hlong : longB l = true
  · rw [hlong] at cl
    have CL := Lib.hid cl
    clear cl hlong
    go_enter Tryd.func3, Tryd.ntmps3
    go_wp2_with fail
    refine CL.out.mono ?_
    rintro e w' ⟨rfl, rfl⟩
    go_wp2_with fail
    refine (awake_hid.out _ hg).mono ?_
    rintro e w1 ⟨rfl, b1⟩
    go_wp2
    go_ret
    exact ⟨rfl, b1⟩
  · have hf : longB l = false := by simpa using hlong
    rw [hf] at cl
    have hs2 : ¬ (50 < l.length ∨ 100000 < total l) := of_decide_eq_false hf
    have hl : l.length ≤ 50 := by omega
    have ht : total l ≤ 100000 := by omega
    have CL := Lib.hid cl
    have C1 := Lib.hid (sum_any A cap l w w.heap.size (by omega) hs hr hg)
    have hfl := flat_len_total l
    have R1 := Lib.hid (fun W => rsum_any l.flatten W (by omega))
    have N1 := Lib.hid (fun W (hW : Good W) => sum_new l.flatten W (by omega) hW)
    clear cl hlong hf hs2
    go_enter Tryd.func3, Tryd.ntmps3
    go_wp2_with fail
    refine CL.out.mono ?_
    rintro e w' ⟨rfl, rfl⟩
    go_wp2
    go_loop [3, 4] (fun s i => ∃ (k : Nat) (acc : List UInt8), k ≤ l.length ∧ i = .int .i64 k ∧ s = .string ⟨acc.toArray⟩ ∧ Hid (acc = (l.take k).flatten)) (fun _ i => l.length - (intOf i).toNat)
    case atStart => exact ⟨0, [], Nat.zero_le _, rfl, rfl, Lib.hid rfl⟩
    case round =>
      obtain ⟨k, acc, hk, rfl, rfl, hacc⟩ := hrel
      by_cases hlt : k < l.length
      · obtain ⟨x, hx⟩ : ∃ x, x = l[k] := ⟨_, rfl⟩
        obtain ⟨b, off, rfl, hbB, hc⟩ := hr.at_ (k := k) (by simpa [strings] using hlt)
        have hcw : w.cell? ⟨b, off + k, none⟩ = some (.string ⟨x.toArray⟩) := by rw [hc, hx]; simp [strings]
        have HN : Hid (acc ++ x = (l.take (k + 1)).flatten) := Lib.hid (by rw [flat_take l k hlt, hacc.out, hx])
        have hle := total_take l (k + 1)
        rw [← flat_len_total, ← HN.out] at hle
        have hsum := sum_two acc x (by rw [List.length_append] at hle; omega)
        clear hx hc hacc hr hs hle
        go_wp2
        go_round
        case rel => exact ⟨k + 1, acc ++ x, by omega, by go_num, rfl, HN⟩
        case measure => simp [intOf]; omega
      · obtain rfl : acc = l.flatten := by rw [hacc.out, show k = l.length by omega, List.take_length]
        clear hr hs hacc
        generalize l.flatten = a at *
        generalize Fr.sum a = n at *
        go_wp2_with fail
        refine C1.out.mono ?_
        rintro e w' ⟨rfl, rfl⟩
        go_wp2_with fail
        refine (R1.out _).mono ?_
        rintro e w' ⟨rfl, rfl⟩
        go_wp2_with fail
        refine (N1.out _ hg).mono ?_
        rintro e w1 ⟨rfl, b1⟩
        have G1 : Good w1 := hg.below b1 (Nat.le_refl _)
        go_wp2_with fail
        refine (R1.out _).mono ?_
        rintro e w' ⟨rfl, rfl⟩
        go_wp2_with fail
        refine (awake_hid.out _ G1).mono ?_
        rintro e w2 ⟨rfl, b2⟩
        go_wp2
        go_ret
        exact ⟨rfl, b1.trans (b2.mono b1.size)⟩

set_option maxHeartbeats 2000000 in
set_option maxRecDepth 100000 in
theorem law_lays (w : World) (hg : Good w) (s : List UInt8) (hs : s.length ≤ 140737488351232) :
    Calls Tryd.prog 4 #[.string ⟨s.toArray⟩] w fun e w' => e = .returned (.bool true) ∧ Below w.heap.size w w' := by
  by_cases hb : 100000 < s.length
  · have M := Lib.hid (fun W => frame_big s W hs (by omega))
    have hb' : (100000 : Int) < (s.length : Int) := by omega
    go_enter Tryd.func4, Tryd.ntmps4
    go_wp2_with fail
    refine (M.out _).mono ?_
    rintro e w1 ⟨rfl, b1⟩
    have G1 : Good w1 := hg.below b1 (Nat.le_refl _)
    go_wp2_with fail
    refine (awake_hid.out _ G1).mono ?_
    rintro e w2 ⟨rfl, b2⟩
    go_wp2
    go_ret
    exact ⟨rfl, b1.trans (b2.mono b1.size)⟩
  · have M := Lib.hid (fun W (hW : Good W) => frame_any s W hs hW)
    have R := Lib.hid (fun W => rframe_any s W hs)
    have hb' : decide ((100000 : Int) < (s.length : Int)) = false := by simp; omega
    have hff : (frameText s == frameText s) = true := by simp
    generalize frameText s = f at *
    generalize frameErr s = n at *
    go_enter Tryd.func4, Tryd.ntmps4
    go_wp2_with fail
    refine (M.out _ hg).mono ?_
    rintro e w1 ⟨rfl, b1⟩
    go_wp2_with fail
    refine (R.out _).mono ?_
    rintro e w2 ⟨rfl, h2⟩
    have b2 := b1.trans (h2.mono b1.size)
    have G2 : Good w2 := hg.below b2 (Nat.le_refl _)
    clear b1 h2
    go_wp2_with fail
    refine (awake_hid.out _ G2).mono ?_
    rintro e w3 ⟨rfl, b3⟩
    go_wp2
    go_ret
    exact ⟨rfl, b2.trans (b3.mono b2.size)⟩

set_option maxHeartbeats 2000000 in
set_option maxRecDepth 100000 in
theorem law_reads (w : World) (hg : Good w) (s : List UInt8) (hs : s.length ≤ 140737488351232) (a : Int) (ha : -9223372036854775808 ≤ a ∧ a ≤ 9223372036854775807) :
    Calls Tryd.prog 5 #[.string ⟨s.toArray⟩, .int .i64 a] w fun e w' => e = .returned (.bool true) ∧ Below w.heap.size w w' := by
  by_cases hb : 100000 < s.length
  · have hb' : (100000 : Int) < (s.length : Int) := by omega
    go_enter Tryd.func5, Tryd.ntmps5
    go_wp2_with fail
    refine (awake_hid.out _ hg).mono ?_
    rintro e w2 ⟨rfl, b2⟩
    go_wp2
    go_ret
    exact ⟨rfl, b2⟩
  · have M := Lib.hid (fun W (hW : Good W) => first_any s a W hs hW)
    have R := Lib.hid (fun W => rfirst_any s a W hs)
    rw [reads1_is] at M R
    have hb' : decide ((100000 : Int) < (s.length : Int)) = false := by simp; omega
    have hff : (rdT s a == rdT s a) = true := by simp
    generalize rdT s a = t at *
    generalize rdE s a = n at *
    generalize rdN s a = m at *
    go_enter Tryd.func5, Tryd.ntmps5
    go_wp2_with fail
    refine (M.out _ hg).mono ?_
    rintro e w1 ⟨rfl, b1⟩
    go_wp2_with fail
    refine (R.out _).mono ?_
    rintro e w2 ⟨rfl, h2⟩
    have b2 := b1.trans (h2.mono b1.size)
    have G2 : Good w2 := hg.below b2 (Nat.le_refl _)
    clear b1 h2
    go_wp2_with fail
    refine (awake_hid.out _ G2).mono ?_
    rintro e w3 ⟨rfl, b3⟩
    go_wp2
    go_ret
    exact ⟨rfl, b2.trans (b3.mono b2.size)⟩

theorem all_few (s : List UInt8) : (Fr.all s).length ≤ s.length := by
  have h : ∀ n : Nat, ∀ r : List UInt8, r.length ≤ n → (Fr.all r).length ≤ n := by
    intro n
    induction n with
    | zero =>
      intro r hr
      have : (Fr.first r).1 ≠ 0 := fun h0 => by have := (Fr.first_zero h0).1; omega
      rw [Fr.all_stop this]
      exact Nat.zero_le _
    | succ n ih =>
      intro r hr
      by_cases h0 : (Fr.first r).1 = 0
      · have := (Fr.first_zero h0).1
        rw [Fr.all_step h0, List.length_cons]
        have := ih (r.drop ((Fr.first r).2.length + 7)) (by rw [List.length_drop]; omega)
        omega
      · rw [Fr.all_stop h0]
        exact Nat.zero_le _
  exact h _ s (Nat.le_refl _)

set_option maxHeartbeats 2000000 in
set_option maxRecDepth 100000 in
theorem law_all (w : World) (hg : Good w) (s : List UInt8) (hs : s.length ≤ 140737488351232) :
    Calls Tryd.prog 6 #[.string ⟨s.toArray⟩] w fun e w' => e = .returned (.bool true) ∧ Below w.heap.size w w' := by
  by_cases hb : 100000 < s.length
  · have hb' : (100000 : Int) < (s.length : Int) := by omega
    go_enter Tryd.func6, Tryd.ntmps6
    go_wp2_with fail
    refine (awake_hid.out _ hg).mono ?_
    rintro e w2 ⟨rfl, b2⟩
    go_wp2
    go_ret
    exact ⟨rfl, b2⟩
  · have M := Lib.hid (fun W (hW : Good W) => all_any s W (by omega) hW)
    have R := Lib.hid (fun W => rall_any s W (by omega))
    have hb' : decide ((100000 : Int) < (s.length : Int)) = false := by simp; omega
    have hfew := all_few s
    generalize Fr.place (Fr.all s) = n at *
    generalize Fr.all s = l at *
    go_enter Tryd.func6, Tryd.ntmps6
    go_wp2_with fail
    refine (M.out _ hg).mono ?_
    rintro e w1 ⟨v1, rfl, own1, b1⟩
    go_wp2_with fail
    refine (R.out _).mono ?_
    rintro e w2 ⟨v2, rfl, own2, h2⟩
    have own1' := owns_below own1 h2
    have b2 := b1.trans (h2.mono b1.size)
    have G2 : Good w2 := hg.below b2 (Nat.le_refl _)
    clear b1 h2 own1
    obtain ⟨A1, cap1, rfl, r1⟩ := owns_at own1'
    obtain ⟨A2, cap2, rfl, r2⟩ := owns_at own2
    have S := Lib.hid (same_any A1 cap1 A2 cap2 l w2 _ _ (by omega) r1 r2)
    clear own1' own2 r1 r2
    go_wp2_with fail
    refine S.out.mono ?_
    rintro e w3 ⟨rfl, h3⟩
    have b3 := b2.trans (h3.mono b2.size)
    have G3 : Good w3 := hg.below b3 (Nat.le_refl _)
    clear b2 h3 G2
    go_wp2_with fail
    refine (awake_hid.out _ G3).mono ?_
    rintro e w4 ⟨rfl, b4⟩
    go_wp2
    go_ret
    exact ⟨rfl, b3.trans (b4.mono b3.size)⟩
end Go.Proofs.YtpigepkkiceihaaDoor
