/- The document's Rename. -/
import Derived.Test.YtklgiocihknebaaDkRef7
namespace Go.Proofs.Ytklgiocihknebaa
open Go.RowKit Go.Maps Dk
set_option linter.unusedVariables false

set_option maxHeartbeats 8000000 in
set_option maxRecDepth 100000 in
theorem rrename_any (w : World) {B d : Nat} {K : St} (h : RefAt w B d K) (s t : Str) (hs : s.length ≤ 140737488351232) (ht : t.length ≤ 140737488351232) :
    Calls Try.prog 35 #[.pointer (some ⟨d, 0, none⟩), .string ⟨s.toArray⟩, .string ⟨t.toArray⟩] w fun e w' => e = .returned (.int .i64 ((Dk.rename K s t).2 : Nat)) ∧ RefAt w' B d (Dk.rename K s t).1 ∧ Gone isDsk B w w' := by
  have h' := h
  obtain ⟨v, q, h⟩ := h
  by_cases h0 : err K s = 0
  · have O := Lib.hid (ropen_ok h s hs h0)
    have F := rat_any t w h ht
    obtain ⟨hb, hd, hh⟩ := err_has h0
    obtain ⟨hi, hnm, hl, hm⟩ := h.found hh
    cases hbt : bad t with
    | true =>
      have e1 : Dk.rename K s t = (K, 1) := by simp [Dk.rename, h0, hbt]
      have e2 : err0 K t = 1 := by simp [err0, hbt]
      rw [e1]
      rw [e2] at F
      have FF := Lib.hid (show Calls Try.prog 40 #[.pointer (some ⟨d, 0, none⟩), .string ⟨t.toArray⟩] w fun e w' => e = .returned (.tuple #[.int .i64 0, .int .i64 1]) ∧ w = w' from F)
      have HL := Lib.hid h'
      clear F h h' hs h0 hl hm e1 e2 hb hd hbt hnm hi hh
      generalize pos K.L s = i at *
      go_enter Try.func35, Try.ntmps35
      go_wp2_with (first
        | (go_at_call 49; refine O.out.mono ?_; rintro e w' ⟨rfl, rfl⟩)
        | (go_at_call 40; refine FF.out.mono ?_; rintro e w' ⟨rfl, rfl⟩))
      go_ret
      exact ⟨rfl, HL.out, Gone.refl _ _ _⟩
    | false =>
      cases hht : Dk.has K.L t with
      | true =>
        have e1 : Dk.rename K s t = (K, 7) := by simp [Dk.rename, h0, hbt, hht]
        have e2 : err0 K t = 0 := by simp [err0, hbt, hht]
        rw [e1]
        rw [e2] at F
        have FF := Lib.hid (show Calls Try.prog 40 #[.pointer (some ⟨d, 0, none⟩), .string ⟨t.toArray⟩] w fun e w' => e = .returned (.tuple #[.int .i64 (pos K.L t : Nat), .int .i64 0]) ∧ w = w' from F)
        have HL := Lib.hid h'
        clear F h h' hs h0 hl hm e1 e2 hb hd hbt hht hnm hi hh
        generalize pos K.L s = i at *
        generalize pos K.L t = j at *
        go_enter Try.func35, Try.ntmps35
        go_wp2_with (first
          | (go_at_call 49; refine O.out.mono ?_; rintro e w' ⟨rfl, rfl⟩)
          | (go_at_call 40; refine FF.out.mono ?_; rintro e w' ⟨rfl, rfl⟩))
        go_ret
        exact ⟨rfl, HL.out, Gone.refl _ _ _⟩
      | false =>
        have hren := ok_rename h.ok s t
        rw [rename_ok h0 hl hbt hht] at hren ⊢
        have hdel := ok_del h.ok s
        have hdl := del_at h.ok.sorted hi
        rw [hnm] at hdl
        have e2 : err0 K t = 6 := by simp [err0, hbt, hht]
        rw [e2] at F
        have FF := Lib.hid (show Calls Try.prog 40 #[.pointer (some ⟨d, 0, none⟩), .string ⟨t.toArray⟩] w fun e w' => e = .returned (.tuple #[.int .i64 0, .int .i64 6]) ∧ w = w' from F)
        have hB : B ≤ w.heap.size := Nat.le_trans h.base (Nat.le_of_lt h.lt)
        have hi' : (pos K.L s : Int) < (K.L.length : Int) := by omega
        have hfew := h.ok.few
        obtain ⟨g, c, rfl, _, _, hgl, ⟨n0, n1, n2⟩, _⟩ := h.at_ hi
        obtain ⟨⟨c0, _, _, _⟩, _⟩ := box4 h.box
        -- the renamed file in a block of its own
        have hal := bel1 w (.cells #[.string ⟨t.toArray⟩, .string ⟨K.L[pos K.L s].sure.toArray⟩, .string ⟨K.L[pos K.L s].loose.toArray⟩] 70)
        have hbx := at1 w (.cells #[.string ⟨t.toArray⟩, .string ⟨K.L[pos K.L s].sure.toArray⟩, .string ⟨K.L[pos K.L s].loose.toArray⟩] 70)
        have h1 := h.below hal
        have g1 := (Gone.refl isDsk B w).below hB hal
        have hsz := size1 w (.cells #[.string ⟨t.toArray⟩, .string ⟨K.L[pos K.L s].sure.toArray⟩, .string ⟨K.L[pos K.L s].loose.toArray⟩] 70)
        have T : Hid (Calls Try.prog 53 #[.pointer (some ⟨d, 0, none⟩), .int .i64 (pos K.L s : Nat)] (w.alloc (.cells #[.string ⟨t.toArray⟩, .string ⟨K.L[pos K.L s].sure.toArray⟩, .string ⟨K.L[pos K.L s].loose.toArray⟩] 70)) fun e w' => e = .returned (.tuple #[]) ∧
            (w'.cell? ⟨w.heap.size, 0, none⟩ = some (.string ⟨t.toArray⟩) ∧ w'.cell? ⟨w.heap.size, 1, none⟩ = some (.string ⟨K.L[pos K.L s].sure.toArray⟩) ∧ w'.cell? ⟨w.heap.size, 2, none⟩ = some (.string ⟨K.L[pos K.L s].loose.toArray⟩)) ∧
            Hid (∃ v', RLay w' B d { K with L := del K.L s } v' q) ∧ Hid (Gone isDsk B w w')) := Lib.hid (by
          rw [hdl] at hdel ⊢
          refine (rtake_box _ h1 hi hdel (b := w.heap.size) hbx (Nat.ne_of_gt h.lt)).mono ?_
          rintro e w' ⟨rfl, k1, k2, k3⟩
          exact ⟨rfl, ⟨cellAt k3 0, cellAt k3 1, cellAt k3 2⟩, Lib.hid k1, Lib.hid (g1.trans k2)⟩)
        have P : Hid (∀ w', (∃ v', RLay w' B d { K with L := del K.L s } v' q) → Calls Try.prog 51 #[.pointer (some ⟨d, 0, none⟩), .agg #[.string ⟨t.toArray⟩, .string ⟨K.L[pos K.L s].sure.toArray⟩, .string ⟨K.L[pos K.L s].loose.toArray⟩]] w' fun e w'' => e = .returned (.tuple #[]) ∧ (∃ v', RLay w'' B d { K with L := ins (del K.L s) { K.L[pos K.L s] with name := t } } v' q) ∧ Gone isDsk B w' w'') :=
          Lib.hid fun w' ⟨v', h'⟩ => rput_any w' h' { K.L[pos K.L s] with name := t } hren
        generalize ({ K with L := ins (del K.L s) { K.L[pos K.L s] with name := t } } : St) = K2 at *
        generalize ({ K with L := del K.L s } : St) = K1 at *
        clear F h h' hs h0 hl hm hb hd hnm hbt hht hren e2 hB hdl hdel hal hbx h1 g1 hsz hh
        generalize K.L[pos K.L s].name = nm at *
        generalize K.L[pos K.L s].sure = a at *
        generalize K.L[pos K.L s].loose = b at *
        generalize pos K.L s = i at *
        go_enter Try.func35, Try.ntmps35
        go_wp2_with (first
          | (go_at_call 49; refine O.out.mono ?_; rintro e w' ⟨rfl, rfl⟩)
          | (go_at_call 40; refine FF.out.mono ?_; rintro e w' ⟨rfl, rfl⟩)
          | (go_at_call 53; refine T.out.mono ?_; rintro e w1 ⟨rfl, ⟨x0, x1, x2⟩, HK1, HK2⟩)
          | (go_at_call 51; refine (P.out _ HK1.out).mono ?_; rintro e w2 ⟨rfl, ⟨v2, hj1⟩, hj2⟩; have HJ1 := Lib.hid hj1; have HJ2 := Lib.hid hj2; clear hj1 hj2))
        go_ret
        exact ⟨rfl, ⟨_, _, HJ1.out⟩, HK2.out.trans HJ2.out⟩
  · have e1 : Dk.rename K s t = (K, err K s) := by simp [Dk.rename, h0]
    rw [e1]
    obtain ⟨n, hn, hn0, hO⟩ := ropen_bad h s hs h0
    rw [← hn]
    have O := Lib.hid hO
    have HL := Lib.hid h'
    clear hO h h' hn h0 hs e1
    go_enter Try.func35, Try.ntmps35
    go_wp2_with (go_at_call 49; refine O.out.mono ?_; rintro e w' ⟨rfl, rfl⟩)
    go_ret
    exact ⟨rfl, HL.out, Gone.refl _ _ _⟩
end Go.Proofs.Ytklgiocihknebaa
