/- DiskCuts. -/
import Derived.Test.YtklgiocihknebaaDkLaw2
import Derived.Test.YtklgiocihknebaaDkRef7
namespace Go.Proofs.Ytklgiocihknebaa
open Go.RowKit Go.Maps Dk
set_option linter.unusedVariables false

theorem bad_f : bad ([102] : Str) = false := by decide
set_option maxHeartbeats 16000000 in
set_option maxRecDepth 100000 in
theorem law_cuts (w : World) (a b c : Str) (ha : a.length ≤ 140737488351232) (hb : b.length ≤ 140737488351232) (hc : c.length ≤ 140737488351232) (n : Int) (hn : -9223372036854775808 ≤ n ∧ n ≤ 9223372036854775807) :
    Calls Try.prog 7 #[.agg #[.string ⟨a.toArray⟩, .string ⟨b.toArray⟩, .string ⟨c.toArray⟩], .int .i64 n] w fun e w' => e = .returned (.bool true) ∧ Below w.heap.size w w' := by
  have hal := bel1 w (.cells #[.string ⟨a.toArray⟩, .string ⟨b.toArray⟩, .string ⟨c.toArray⟩] 54)
  have hbx := at1 w (.cells #[.string ⟨a.toArray⟩, .string ⟨b.toArray⟩, .string ⟨c.toArray⟩] 54)
  by_cases hbig : 100000 < a.length + b.length + c.length
  · have hgt : (a.length : Int) + (b.length : Int) + (c.length : Int) > 100000 := by omega
    have HAL := Lib.hid hal
    clear hal hbx hbig
    go_enter Try.func7, Try.ntmps7
    go_wp2_with (go_at_call 16; refine (awake_any _).mono ?_; rintro e w4 ⟨rfl, hb4⟩; have HB4 := Lib.hid hb4; clear hb4)
    go_ret
    exact ⟨rfl, HAL.out.trans (HB4.out.mono HAL.out.size)⟩
  · have hgt : ¬ (a.length : Int) + (b.length : Int) + (c.length : Int) > 100000 := by omega
    obtain ⟨w1, hw1⟩ : ∃ w1, w.alloc (.cells #[.string ⟨a.toArray⟩, .string ⟨b.toArray⟩, .string ⟨c.toArray⟩] 54) = w1 := ⟨_, rfl⟩
    rw [hw1] at hal hbx
    have HAL := Lib.hid hal
    have BX := Lib.hid hbx
    have N := Lib.hid (new_at w1 _ hw1)
    have FIN : Hid (∀ w', Below w1.heap.size w1 w' → Below w.heap.size w w') := Lib.hid fun w' h => HAL.out.trans (h.mono HAL.out.size)
    have S := sum_two a b (by omega)
    have E1 := Lib.hid (append_one bad_f (t := a) (by omega))
    have E2 : Hid (Dk.sync (Dk.one ⟨[102], [], a⟩) [102] = (Dk.one ⟨[102], a, []⟩, 0)) := Lib.hid (by have := sync_one (f := ⟨[102], [], a⟩) bad_f; simpa [Fl.all] using this)
    have E3 : Hid (Dk.append (Dk.one ⟨[102], a, []⟩) [102] b = (Dk.one ⟨[102], a, b⟩, 0)) := Lib.hid (by have := append_two (f := ⟨[102], a, []⟩) (t := b) bad_f (by simp [Fl.all]; omega); simpa using this)
    have hlen : ((a ++ b).length : Int) = (a.length : Int) + (b.length : Int) := by rw [List.length_append]; omega
    clear hal hbx hw1
    by_cases hbad : n < 0 ∨ ((a ++ b).length : Int) < n
    · have E4 : Hid (Dk.trunc (Dk.one ⟨[102], a, b⟩) [102] n = (Dk.one ⟨[102], a, b⟩, 5)) := Lib.hid (trunc_bad (f := ⟨[102], a, b⟩) bad_f hbad)
      have E5 : Hid (Dk.read (Dk.one ⟨[102], a, b⟩) [102] = (a ++ b, 0)) := Lib.hid (read_one (f := ⟨[102], a, b⟩) bad_f)
      clear hbig
      generalize Dk.one ⟨[102], a, b⟩ = K3 at *
      generalize Dk.one ⟨[102], a, []⟩ = K2 at *
      generalize Dk.one ⟨[102], [], a⟩ = K1 at *
      generalize a ++ b = ab at *
      clear hlen
      by_cases hn0 : n < 0
      · clear hbad
        go_enter Try.func7, Try.ntmps7
        go_wp2_with (first
          | (go_at_call 12; refine N.out.mono ?_; rintro e w2 ⟨d, rfl, H0⟩; have q0 := H0.boxed BX 0; have q1 := H0.boxed BX 1)
          | (go_at_call 21; refine (at_append H0 E1.out (by decide) ha).mono ?_; rintro e w3 ⟨rfl, H1⟩; have q0 := H1.boxed BX 0; have q1 := H1.boxed BX 1; clear E1)
          | (go_at_call 22; refine (at_sync H1 E2.out (by decide)).mono ?_; rintro e w4 ⟨rfl, H2⟩; have q0 := H2.boxed BX 0; have q1 := H2.boxed BX 1)
          | (go_at_call 21; refine (at_append H2 E3.out (by decide) hb).mono ?_; rintro e w5 ⟨rfl, H3⟩; have q0 := H3.boxed BX 0; have q1 := H3.boxed BX 1)
          | (go_at_call 26; refine (at_trunc H3 E4.out (by decide) hn).mono ?_; rintro e w6 ⟨rfl, H4⟩; have q0 := H4.boxed BX 0; have q1 := H4.boxed BX 1)
          | (go_at_call 17; refine (at_read H4 E5.out (by decide)).mono ?_; rintro e w7 ⟨rfl, rfl⟩)
          | (go_at_call 16; refine (awake_at H4).mono ?_; rintro e w8 ⟨rfl, HB4⟩))
        go_ret
        exact ⟨rfl, FIN.out _ HB4.out⟩
      · have hgt2 : n > (ab.length : Int) := by omega
        clear hbad
        go_enter Try.func7, Try.ntmps7
        go_wp2_with (first
          | (go_at_call 12; refine N.out.mono ?_; rintro e w2 ⟨d, rfl, H0⟩; have q0 := H0.boxed BX 0; have q1 := H0.boxed BX 1)
          | (go_at_call 21; refine (at_append H0 E1.out (by decide) ha).mono ?_; rintro e w3 ⟨rfl, H1⟩; have q0 := H1.boxed BX 0; have q1 := H1.boxed BX 1; clear E1)
          | (go_at_call 22; refine (at_sync H1 E2.out (by decide)).mono ?_; rintro e w4 ⟨rfl, H2⟩; have q0 := H2.boxed BX 0; have q1 := H2.boxed BX 1)
          | (go_at_call 21; refine (at_append H2 E3.out (by decide) hb).mono ?_; rintro e w5 ⟨rfl, H3⟩; have q0 := H3.boxed BX 0; have q1 := H3.boxed BX 1)
          | (go_at_call 26; refine (at_trunc H3 E4.out (by decide) hn).mono ?_; rintro e w6 ⟨rfl, H4⟩; have q0 := H4.boxed BX 0; have q1 := H4.boxed BX 1)
          | (go_at_call 17; refine (at_read H4 E5.out (by decide)).mono ?_; rintro e w7 ⟨rfl, rfl⟩)
          | (go_at_call 16; refine (awake_at H4).mono ?_; rintro e w8 ⟨rfl, HB4⟩))
        go_ret
        exact ⟨rfl, FIN.out _ HB4.out⟩
    · obtain ⟨m, rfl⟩ : ∃ m : Nat, n = (m : Int) := ⟨n.toNat, by omega⟩
      have hn0 : ¬ (m : Int) < 0 := by omega
      have hgt2 : ¬ (m : Int) > ((a ++ b).length : Int) := by omega
      have hmle : m ≤ (a ++ b).length := by omega
      have E4 : Hid (Dk.trunc (Dk.one ⟨[102], a, b⟩) [102] (m : Int) = (Dk.one (cutAt m ⟨[102], a, b⟩), 0)) := Lib.hid (trunc_one (f := ⟨[102], a, b⟩) bad_f hbad)
      have X1 := cut_to (a ++ b) m
      have hul : ((a ++ b).take m).length = m := by rw [List.length_take]; omega
      have S2 := sum_two ((a ++ b).take m) c (by rw [hul]; omega)
      have hucl : ((((a ++ b).take m ++ c).length : Nat) : Int) = (m : Int) + (c.length : Int) := by rw [List.length_append, hul]; omega
      have hcall : (cutAt m ⟨[102], a, b⟩).all = (a ++ b).take m := by
        unfold cutAt
        split
        · rename_i h; simp only [Fl.all, List.append_nil]; exact (List.take_append_of_le_length h).symm
        · rename_i h; simp only [Fl.all]; rw [List.take_append]; congr 1; exact (List.take_of_length_le (by simp only at h; omega)).symm
      have hcn : (cutAt m ⟨[102], a, b⟩).name = [102] := by unfold cutAt; split <;> rfl
      obtain ⟨k, hk, hkd⟩ : ∃ k : Nat, (cutAt m ⟨[102], a, b⟩).sure.length = k ∧ k = min m a.length := ⟨_, rfl, by
        unfold cutAt
        split
        · rename_i h; simp only [List.length_take] 
        · rename_i h; simp only at h ⊢; omega⟩
      generalize hF : cutAt m ⟨[102], a, b⟩ = F at *
      obtain ⟨fn, fs, fl⟩ := F
      simp only at hcn hk
      subst hcn
      simp only [Fl.all] at hcall
      have hfl : fs.length + fl.length = m := by rw [← hul, ← hcall, List.length_append]
      have E5 : Hid (Dk.append (Dk.one ⟨[102], fs, fl⟩) [102] c = (Dk.one ⟨[102], fs, fl ++ c⟩, 0)) := Lib.hid (append_two (f := ⟨[102], fs, fl⟩) (t := c) bad_f (by simp [Fl.all]; omega))
      have E6 : Hid (Dk.read (Dk.one ⟨[102], fs, fl ++ c⟩) [102] = ((a ++ b).take m ++ c, 0)) := Lib.hid (by have := read_one (f := ⟨[102], fs, fl ++ c⟩) bad_f; rw [← hcall, List.append_assoc]; exact this)
      have E7 : Hid (Dk.size (Dk.one ⟨[102], fs, fl ++ c⟩) [102] = (((a ++ b).take m ++ c).length, k, 0)) := Lib.hid (by have := size_one (f := ⟨[102], fs, fl ++ c⟩) bad_f; rw [← hcall, List.append_assoc, ← hk]; exact this)
      clear hcall hk hF hbad hmle hul hfl
      generalize (a ++ b).take m ++ c = uc at *
      generalize (a ++ b).take m = u at *
      generalize Dk.one ⟨[102], fs, fl ++ c⟩ = K5 at *
      generalize Dk.one ⟨[102], fs, fl⟩ = K4 at *
      generalize Dk.one ⟨[102], a, b⟩ = K3 at *
      generalize Dk.one ⟨[102], a, []⟩ = K2 at *
      generalize Dk.one ⟨[102], [], a⟩ = K1 at *
      generalize a ++ b = ab at *
      clear fs fl
      have hkd1 : (min (m : Int) (a.length : Int)) = (k : Int) := by omega
      by_cases hma : m ≤ a.length
      · have hma' : (m : Int) ≤ (a.length : Int) := by omega
        obtain rfl : k = m := by omega
        have hmn : min (k : Int) (a.length : Int) = (k : Int) := by omega
        clear hkd hma hkd1 hlen hbig
        go_enter Try.func7, Try.ntmps7
        go_wp2_with (first
          | (go_at_call 12; refine N.out.mono ?_; rintro e w2 ⟨d, rfl, H0⟩; have q0 := H0.boxed BX 0; have q1 := H0.boxed BX 1; have q2 := H0.boxed BX 2)
          | (go_at_call 21; refine (at_append H0 E1.out (by decide) ha).mono ?_; rintro e w3 ⟨rfl, H1⟩; have q0 := H1.boxed BX 0; have q1 := H1.boxed BX 1; have q2 := H1.boxed BX 2; clear E1)
          | (go_at_call 22; refine (at_sync H1 E2.out (by decide)).mono ?_; rintro e w4 ⟨rfl, H2⟩; have q0 := H2.boxed BX 0; have q1 := H2.boxed BX 1; have q2 := H2.boxed BX 2)
          | (go_at_call 21; refine (at_append H2 E3.out (by decide) hb).mono ?_; rintro e w5 ⟨rfl, H3⟩; have q0 := H3.boxed BX 0; have q1 := H3.boxed BX 1; have q2 := H3.boxed BX 2; clear E3)
          | (go_at_call 26; refine (at_trunc H3 E4.out (by decide) hn).mono ?_; rintro e w6 ⟨rfl, H4⟩; have q0 := H4.boxed BX 0; have q1 := H4.boxed BX 1; have q2 := H4.boxed BX 2)
          | (go_at_call 21; refine (at_append H4 E5.out (by decide) hc).mono ?_; rintro e w7 ⟨rfl, H5⟩; have q0 := H5.boxed BX 0; have q1 := H5.boxed BX 1; have q2 := H5.boxed BX 2)
          | (go_at_call 17; refine (at_read H5 E6.out (by decide)).mono ?_; rintro e w8 ⟨rfl, rfl⟩)
          | (go_at_call 19; refine (at_size H5 E7.out (by decide)).mono ?_; rintro e w9 ⟨rfl, H6⟩; have l9 : w.heap.size < w9.heap.size := Nat.lt_of_lt_of_le (heap_lt BX.out) H6.size; have q0 := H6.boxed BX 0; have q1 := H6.boxed BX 1; have q2 := H6.boxed BX 2))
        refine Og.grow 38 (by kernel_rfl) (by kernel_rfl) fun hc' hf => ?_
        simp only [List.take_succ_cons, List.take_zero, List.drop_succ_cons, List.drop_zero]
        iterate 38 (refine Og.det [] rfl (fun J hJ => ?_); go_simp; first | (with_reducible refine ⟨_, fun p => Og.lays (awake_any _), hJ _ _ ?_⟩) | (refine hJ _ _ ?_); clear hJ J)
        refine Og.fin fun W hW => ?_
        simp only [Og.opened_nil]
        clear hc' hf
        have HE := Lib.hid (FIN.out _ (H6.bel.trans (hW.mono H6.size)))
        go_wp2
        go_ret
        exact ⟨rfl, HE.out⟩
      · have hma' : ¬ (m : Int) ≤ (a.length : Int) := by omega
        obtain rfl : k = a.length := by omega
        have hmn : min (m : Int) (a.length : Int) = (a.length : Int) := by omega
        clear hkd hma hkd1 hlen hbig
        go_enter Try.func7, Try.ntmps7
        go_wp2_with (first
          | (go_at_call 12; refine N.out.mono ?_; rintro e w2 ⟨d, rfl, H0⟩; have q0 := H0.boxed BX 0; have q1 := H0.boxed BX 1; have q2 := H0.boxed BX 2)
          | (go_at_call 21; refine (at_append H0 E1.out (by decide) ha).mono ?_; rintro e w3 ⟨rfl, H1⟩; have q0 := H1.boxed BX 0; have q1 := H1.boxed BX 1; have q2 := H1.boxed BX 2; clear E1)
          | (go_at_call 22; refine (at_sync H1 E2.out (by decide)).mono ?_; rintro e w4 ⟨rfl, H2⟩; have q0 := H2.boxed BX 0; have q1 := H2.boxed BX 1; have q2 := H2.boxed BX 2)
          | (go_at_call 21; refine (at_append H2 E3.out (by decide) hb).mono ?_; rintro e w5 ⟨rfl, H3⟩; have q0 := H3.boxed BX 0; have q1 := H3.boxed BX 1; have q2 := H3.boxed BX 2; clear E3)
          | (go_at_call 26; refine (at_trunc H3 E4.out (by decide) hn).mono ?_; rintro e w6 ⟨rfl, H4⟩; have q0 := H4.boxed BX 0; have q1 := H4.boxed BX 1; have q2 := H4.boxed BX 2)
          | (go_at_call 21; refine (at_append H4 E5.out (by decide) hc).mono ?_; rintro e w7 ⟨rfl, H5⟩; have q0 := H5.boxed BX 0; have q1 := H5.boxed BX 1; have q2 := H5.boxed BX 2)
          | (go_at_call 17; refine (at_read H5 E6.out (by decide)).mono ?_; rintro e w8 ⟨rfl, rfl⟩)
          | (go_at_call 19; refine (at_size H5 E7.out (by decide)).mono ?_; rintro e w9 ⟨rfl, H6⟩; have l9 : w.heap.size < w9.heap.size := Nat.lt_of_lt_of_le (heap_lt BX.out) H6.size; have q0 := H6.boxed BX 0; have q1 := H6.boxed BX 1; have q2 := H6.boxed BX 2))
        refine Og.grow 38 (by kernel_rfl) (by kernel_rfl) fun hc' hf => ?_
        simp only [List.take_succ_cons, List.take_zero, List.drop_succ_cons, List.drop_zero]
        iterate 38 (refine Og.det [] rfl (fun J hJ => ?_); go_simp; first | (with_reducible refine ⟨_, fun p => Og.lays (awake_any _), hJ _ _ ?_⟩) | (refine hJ _ _ ?_); clear hJ J)
        refine Og.fin fun W hW => ?_
        simp only [Og.opened_nil]
        clear hc' hf
        have HE := Lib.hid (FIN.out _ (H6.bel.trans (hW.mono H6.size)))
        go_wp2
        go_ret
        exact ⟨rfl, HE.out⟩
end Go.Proofs.Ytklgiocihknebaa
