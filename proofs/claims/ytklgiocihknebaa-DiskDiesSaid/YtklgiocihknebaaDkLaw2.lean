/- DiskNames. -/
import Derived.Test.YtklgiocihknebaaDkLaw1
import Derived.Test.YtklgiocihknebaaDkRef5
namespace Go.Proofs.Ytklgiocihknebaa
open Go.RowKit Go.Maps Dk
set_option linter.unusedVariables false

/-- a block that lay there ahead -/
theorem At.boxed {w1 W : World} {d b : Nat} {K : St} {cs : Array Value} {T : TypeId} (h : At w1 w1.heap.size d K W) (hb : Hid (w1.heap[b]? = some (.cells cs T (0, 0)))) (j : Nat) : W.cell? ⟨b, j, none⟩ = cs[j]? :=
  (h.bel.cell (p := ⟨b, j, none⟩) (heap_lt hb.out)).trans (cellAt hb.out j)
theorem awake_at {w1 W : World} {B d : Nat} {K : St} (h : At w1 B d K W) : Calls Try.prog 16 #[] W fun e w' => e = .returned (.bool true) ∧ Hid (Below B w1 w') :=
  (awake_any W).mono fun e w' ⟨h1, h2⟩ => ⟨h1, Lib.hid (h.bel.trans (h2.mono h.size))⟩
theorem new_at (w1 W : World) (hw : W = w1) : Calls Try.prog 12 #[] W fun e w' => ∃ d, e = .returned (.pointer (some ⟨d, 0, none⟩)) ∧ At w1 w1.heap.size d Dk.new w' := by
  subst hw
  exact (at_new W).mono fun e w' ⟨h1, h2⟩ => ⟨_, h1, h2⟩

set_option maxHeartbeats 16000000 in
set_option maxRecDepth 100000 in
theorem law_names (w : World) (nm to a b : Str) (h1 : nm.length ≤ 140737488351232) (h2 : to.length ≤ 140737488351232) (ha : a.length ≤ 140737488351232) (hb : b.length ≤ 140737488351232) :
    Calls Try.prog 6 #[.string ⟨nm.toArray⟩, .string ⟨to.toArray⟩, .agg #[.string ⟨a.toArray⟩, .string ⟨b.toArray⟩]] w fun e w' => e = .returned (.bool true) ∧ Below w.heap.size w w' := by
  have hal := bel1 w (.cells #[.string ⟨a.toArray⟩, .string ⟨b.toArray⟩] 46)
  have hbx := at1 w (.cells #[.string ⟨a.toArray⟩, .string ⟨b.toArray⟩] 46)
  by_cases hbig : 100000 < a.length + b.length
  · have hgt : (a.length : Int) + (b.length : Int) > 100000 := by omega
    have HAL := Lib.hid hal
    clear hal hbx hbig
    go_enter Try.func6, Try.ntmps6
    go_wp2_with (go_at_call 16; refine (awake_any _).mono ?_; rintro e w4 ⟨rfl, hb4⟩; have HB4 := Lib.hid hb4; clear hb4)
    go_ret
    exact ⟨rfl, HAL.out.trans (HB4.out.mono HAL.out.size)⟩
  · have hgt : ¬ (a.length : Int) + (b.length : Int) > 100000 := by omega
    obtain ⟨w1, hw1⟩ : ∃ w1, w.alloc (.cells #[.string ⟨a.toArray⟩, .string ⟨b.toArray⟩] 46) = w1 := ⟨_, rfl⟩
    rw [hw1] at hal hbx
    have HAL := Lib.hid hal
    have BX := Lib.hid hbx
    have N := Lib.hid (new_at w1 _ hw1)
    have FIN : Hid (∀ w', Below w1.heap.size w1 w' → Below w.heap.size w w') := Lib.hid fun w' h => HAL.out.trans (h.mono HAL.out.size)
    have S := sum_two a b (by omega)
    have h1' : (nm.length : Int) ≤ 140737488351232 := by omega
    clear hal hbx hw1
    cases hbn : bad nm with
    | true =>
      have E1 := Lib.hid (bad_one hbn a)
      have hor : nm.length < 1 ∨ 32 < nm.length := by simpa [bad] using hbn
      clear hbn hbig
      by_cases h0 : nm.length < 1
      · have h0' : (nm.length : Int) < 1 := by omega
        clear hor h0
        go_enter Try.func6, Try.ntmps6
        go_wp2_with (first
          | (go_at_call 12; refine N.out.mono ?_; rintro e w2 ⟨d, rfl, H0⟩; have q0 := H0.boxed BX 0; have q1 := H0.boxed BX 1)
          | (go_at_call 21; refine (at_append H0 E1.out h1 ha).mono ?_; rintro e w3 ⟨rfl, H1⟩)
          | (go_at_call 24; refine (at_files H1 (m := 0) rfl).mono ?_; rintro e w4 ⟨⟨A, cc, rfl⟩, H2⟩)
          | (go_at_call 16; refine (awake_at H2).mono ?_; rintro e w5 ⟨rfl, HB4⟩))
        go_ret
        exact ⟨rfl, FIN.out _ HB4.out⟩
      · have h0' : ¬ (nm.length : Int) < 1 := by omega
        have h3' : (nm.length : Int) > 32 := by omega
        clear hor h0
        go_enter Try.func6, Try.ntmps6
        go_wp2_with (first
          | (go_at_call 12; refine N.out.mono ?_; rintro e w2 ⟨d, rfl, H0⟩; have q0 := H0.boxed BX 0; have q1 := H0.boxed BX 1)
          | (go_at_call 21; refine (at_append H0 E1.out h1 ha).mono ?_; rintro e w3 ⟨rfl, H1⟩)
          | (go_at_call 24; refine (at_files H1 (m := 0) rfl).mono ?_; rintro e w4 ⟨⟨A, cc, rfl⟩, H2⟩)
          | (go_at_call 16; refine (awake_at H2).mono ?_; rintro e w5 ⟨rfl, HB4⟩))
        go_ret
        exact ⟨rfl, FIN.out _ HB4.out⟩
    | false =>
      have E1 := Lib.hid (append_one hbn (t := a) (by omega))
      have E2 : Hid (Dk.sync (Dk.one ⟨nm, [], a⟩) nm = (Dk.one ⟨nm, a, []⟩, 0)) := Lib.hid (by have := sync_one (f := ⟨nm, [], a⟩) hbn; simpa [Fl.all] using this)
      have E3 : Hid (Dk.append (Dk.one ⟨nm, a, []⟩) nm b = (Dk.one ⟨nm, a, b⟩, 0)) := Lib.hid (by have := append_two (f := ⟨nm, a, []⟩) (t := b) hbn (by simp [Fl.all]; omega); simpa using this)
      have E5 : Hid (Dk.read (Dk.one ⟨nm, a, b⟩) nm = (a ++ b, 0)) := Lib.hid (read_one (f := ⟨nm, a, b⟩) hbn)
      by_cases hne : nm = to
      · have E4 : Hid (Dk.rename (Dk.one ⟨nm, a, b⟩) nm to = (Dk.one ⟨nm, a, b⟩, 7)) := Lib.hid (by rw [← hne]; exact rename_same (f := ⟨nm, a, b⟩) hbn)
        have hq : (nm == to) = true := by simpa using hne
        clear hne hbn hbig
        generalize Dk.one ⟨nm, a, b⟩ = K3 at *
        generalize Dk.one ⟨nm, a, []⟩ = K2 at *
        generalize Dk.one ⟨nm, [], a⟩ = K1 at *
        generalize a ++ b = ab at *
        go_enter Try.func6, Try.ntmps6
        go_wp2_with (first
          | (go_at_call 12; refine N.out.mono ?_; rintro e w2 ⟨d, rfl, H0⟩; have q0 := H0.boxed BX 0; have q1 := H0.boxed BX 1)
          | (go_at_call 21; refine (at_append H0 E1.out h1 ha).mono ?_; rintro e w3 ⟨rfl, H1⟩; have q0 := H1.boxed BX 0; have q1 := H1.boxed BX 1; clear E1)
          | (go_at_call 22; refine (at_sync H1 E2.out h1).mono ?_; rintro e w4 ⟨rfl, H2⟩; have q0 := H2.boxed BX 0; have q1 := H2.boxed BX 1)
          | (go_at_call 21; refine (at_append H2 E3.out h1 hb).mono ?_; rintro e w5 ⟨rfl, H3⟩; have q0 := H3.boxed BX 0; have q1 := H3.boxed BX 1)
          | (go_at_call 25; refine (at_rename H3 E4.out h1 h2).mono ?_; rintro e w6 ⟨rfl, H4⟩; have q0 := H4.boxed BX 0; have q1 := H4.boxed BX 1)
          | (go_at_call 17; refine (at_read H4 E5.out h1).mono ?_; rintro e w7 ⟨rfl, rfl⟩)
          | (go_at_call 16; refine (awake_at H4).mono ?_; rintro e w8 ⟨rfl, HB4⟩))
        go_ret
        exact ⟨rfl, FIN.out _ HB4.out⟩
      · have hq : (nm == to) = false := by simpa using hne
        cases hbt : bad to with
        | true =>
          have E4 : Hid (Dk.rename (Dk.one ⟨nm, a, b⟩) nm to = (Dk.one ⟨nm, a, b⟩, 1)) := Lib.hid (rename_bad (f := ⟨nm, a, b⟩) hbn hbt)
          clear hne hbn hbig hbt
          generalize Dk.one ⟨nm, a, b⟩ = K3 at *
          generalize Dk.one ⟨nm, a, []⟩ = K2 at *
          generalize Dk.one ⟨nm, [], a⟩ = K1 at *
          generalize a ++ b = ab at *
          go_enter Try.func6, Try.ntmps6
          go_wp2_with (first
            | (go_at_call 12; refine N.out.mono ?_; rintro e w2 ⟨d, rfl, H0⟩; have q0 := H0.boxed BX 0; have q1 := H0.boxed BX 1)
            | (go_at_call 21; refine (at_append H0 E1.out h1 ha).mono ?_; rintro e w3 ⟨rfl, H1⟩; have q0 := H1.boxed BX 0; have q1 := H1.boxed BX 1; clear E1)
            | (go_at_call 22; refine (at_sync H1 E2.out h1).mono ?_; rintro e w4 ⟨rfl, H2⟩; have q0 := H2.boxed BX 0; have q1 := H2.boxed BX 1)
            | (go_at_call 21; refine (at_append H2 E3.out h1 hb).mono ?_; rintro e w5 ⟨rfl, H3⟩; have q0 := H3.boxed BX 0; have q1 := H3.boxed BX 1)
            | (go_at_call 25; refine (at_rename H3 E4.out h1 h2).mono ?_; rintro e w6 ⟨rfl, H4⟩; have q0 := H4.boxed BX 0; have q1 := H4.boxed BX 1)
            | (go_at_call 17; refine (at_read H4 E5.out h1).mono ?_; rintro e w7 ⟨rfl, rfl⟩)
            | (go_at_call 16; refine (awake_at H4).mono ?_; rintro e w8 ⟨rfl, HB4⟩))
          go_ret
          exact ⟨rfl, FIN.out _ HB4.out⟩
        | false =>
          have E4 : Hid (Dk.rename (Dk.one ⟨nm, a, b⟩) nm to = (Dk.one ⟨to, a, b⟩, 0)) := Lib.hid (rename_one (f := ⟨nm, a, b⟩) hbn hbt hne)
          have E6 : Hid (Dk.read (Dk.one ⟨to, a, b⟩) nm = ([], 6)) := Lib.hid (read_none (f := ⟨to, a, b⟩) hbn (fun e => hne e.symm))
          have E7 : Hid (Dk.size (Dk.one ⟨to, a, b⟩) to = ((a ++ b).length, a.length, 0)) := Lib.hid (size_one (f := ⟨to, a, b⟩) hbt)
          have E8 : Hid (Dk.crash (Dk.one ⟨to, a, b⟩) 0 = Dk.one ⟨to, a, []⟩) := Lib.hid (by rw [crash_one]; simp [kept])
          have E9 : Hid (Dk.read (Dk.one ⟨to, a, []⟩) to = (a, 0)) := Lib.hid (by have := read_one (f := ⟨to, a, []⟩) hbt; simpa [Fl.all] using this)
          have E10 : Hid ((Dk.one ⟨to, a, []⟩).L.length = 1) := Lib.hid rfl
          have hlen : (((a ++ b).length : Nat) : Int) = (a.length : Int) + (b.length : Int) := by rw [List.length_append]; omega
          clear hne hbn hbig hbt E5
          generalize Dk.one ⟨to, a, []⟩ = K5 at *
          generalize Dk.one ⟨to, a, b⟩ = K4 at *
          generalize Dk.one ⟨nm, a, b⟩ = K3 at *
          generalize Dk.one ⟨nm, a, []⟩ = K2 at *
          generalize Dk.one ⟨nm, [], a⟩ = K1 at *
          generalize a ++ b = ab at *
          go_enter Try.func6, Try.ntmps6
          go_wp2_with (first
            | (go_at_call 12; refine N.out.mono ?_; rintro e w2 ⟨d, rfl, H0⟩; have q0 := H0.boxed BX 0; have q1 := H0.boxed BX 1)
            | (go_at_call 21; refine (at_append H0 E1.out h1 ha).mono ?_; rintro e w3 ⟨rfl, H1⟩; have q0 := H1.boxed BX 0; have q1 := H1.boxed BX 1; clear E1)
            | (go_at_call 22; refine (at_sync H1 E2.out h1).mono ?_; rintro e w4 ⟨rfl, H2⟩; have q0 := H2.boxed BX 0; have q1 := H2.boxed BX 1)
            | (go_at_call 21; refine (at_append H2 E3.out h1 hb).mono ?_; rintro e w5 ⟨rfl, H3⟩; have q0 := H3.boxed BX 0; have q1 := H3.boxed BX 1)
            | (go_at_call 25; refine (at_rename H3 E4.out h1 h2).mono ?_; rintro e w6 ⟨rfl, H4⟩; have q0 := H4.boxed BX 0; have q1 := H4.boxed BX 1)
            | (go_at_call 17; refine (at_read H4 E6.out h1).mono ?_; rintro e w7 ⟨rfl, rfl⟩; clear E6)
            | (go_at_call 19; refine (at_size H4 E7.out h2).mono ?_; rintro e w8 ⟨rfl, H5⟩; have q0 := H5.boxed BX 0; have q1 := H5.boxed BX 1)
            | (go_at_call 23; refine (at_crash H5 E8.out (by decide)).mono ?_; rintro e w9 ⟨rfl, H6⟩; have q0 := H6.boxed BX 0; have q1 := H6.boxed BX 1)
            | (go_at_call 17; refine (at_read H6 E9.out h2).mono ?_; rintro e w10 ⟨rfl, rfl⟩)
            | (go_at_call 24; refine (at_files H6 E10.out).mono ?_; rintro e w11 ⟨⟨A, cc, rfl⟩, H7⟩)
            | (go_at_call 16; refine (awake_at H7).mono ?_; rintro e w12 ⟨rfl, HB4⟩))
          go_ret
          exact ⟨rfl, FIN.out _ HB4.out⟩
end Go.Proofs.Ytklgiocihknebaa
