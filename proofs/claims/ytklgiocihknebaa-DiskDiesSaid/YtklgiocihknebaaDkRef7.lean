/- The document's Truncate, Rename. -/
import Derived.Test.YtklgiocihknebaaDkRef6
namespace Go.Proofs.Ytklgiocihknebaa
open Go.RowKit Go.Maps Dk
set_option linter.unusedVariables false

set_option maxHeartbeats 8000000 in
set_option maxRecDepth 100000 in
theorem rtrunc_any (w : World) {B d : Nat} {K : St} (h : RefAt w B d K) (s : Str) (hs : s.length ≤ 140737488351232) (n : Int) (hn : -9223372036854775808 ≤ n ∧ n ≤ 9223372036854775807) :
    Calls Try.prog 34 #[.pointer (some ⟨d, 0, none⟩), .string ⟨s.toArray⟩, .int .i64 n] w fun e w' => e = .returned (.int .i64 ((Dk.trunc K s n).2 : Nat)) ∧ RefAt w' B d (Dk.trunc K s n).1 ∧ Gone isDsk B w w' := by
  have h' := h
  obtain ⟨v, q, h⟩ := h
  by_cases h0 : err K s = 0
  · have O := Lib.hid (ropen_ok h s hs h0)
    obtain ⟨hb, hd, hh⟩ := err_has h0
    obtain ⟨hi, hnm, hl, hm⟩ := h.found hh
    have hfew := h.ok.few
    obtain ⟨s1, s2, s3⟩ := small_parts h.ok hm
    have hi' : (pos K.L s : Int) < (K.L.length : Int) := by omega
    have HH := Lib.hid h
    have HH' := Lib.hid h'
    obtain ⟨g, c, rfl, _, _, hgl, ⟨n0, n1, n2⟩, _⟩ := h.at_ hi
    obtain ⟨⟨c0, _, _, _⟩, _⟩ := box4 h.box
    have hok := ok_trunc h.ok s n
    have hB : B ≤ w.heap.size := Nat.le_trans h.base (Nat.le_of_lt h.lt)
    have hall : (K.L[pos K.L s].all.length : Int) = (K.L[pos K.L s].sure.length : Int) + (K.L[pos K.L s].loose.length : Int) := by simp only [Fl.all, List.length_append]; omega
    by_cases hbad : n < 0 ∨ (K.L[pos K.L s].all.length : Int) < n
    · have e1 : Dk.trunc K s n = (K, 5) := by simp only [Dk.trunc, h0, hl, Option.map_some, Option.getD_some]; rw [if_neg (by simp), if_pos hbad]
      rw [e1]
      clear h h' h0 hb hd hh hl hm e1 hok HH hnm
      generalize K.L[pos K.L s].name = nm at *
      generalize K.L[pos K.L s].sure = a at *
      generalize K.L[pos K.L s].loose = b at *
      generalize pos K.L s = i at *
      have hal := bel1 w (.cells #[.string ⟨nm.toArray⟩, .string ⟨a.toArray⟩, .string ⟨b.toArray⟩] 70)
      have HE : Hid (RefAt (w.alloc (.cells #[.string ⟨nm.toArray⟩, .string ⟨a.toArray⟩, .string ⟨b.toArray⟩] 70)) B d K ∧ Gone isDsk B w (w.alloc (.cells #[.string ⟨nm.toArray⟩, .string ⟨a.toArray⟩, .string ⟨b.toArray⟩] 70))) := Lib.hid ⟨HH'.out.below hal, (Gone.refl _ _ _).below hB hal⟩
      clear HH' hal
      by_cases hn0 : n < 0
      · clear hbad
        go_enter Try.func34, Try.ntmps34
        go_wp2_with (go_at_call 49; refine O.out.mono ?_; rintro e w' ⟨rfl, rfl⟩)
        go_ret
        exact ⟨rfl, HE.out⟩
      · have hgt : n > (a.length : Int) + (b.length : Int) := by omega
        clear hbad
        go_enter Try.func34, Try.ntmps34
        go_wp2_with (go_at_call 49; refine O.out.mono ?_; rintro e w' ⟨rfl, rfl⟩)
        go_ret
        exact ⟨rfl, HE.out⟩
    · have e1 : Dk.trunc K s n = ({ K with L := upd K.L s (cutAt n.toNat) }, 0) := by simp only [Dk.trunc, h0, hl, Option.map_some, Option.getD_some]; rw [if_neg (by simp), if_neg hbad]
      rw [e1] at hok ⊢
      have hu : upd K.L s (cutAt n.toNat) = K.L.set (pos K.L s) (cutAt n.toNat K.L[pos K.L s]) := by
        have := upd_set h.ok.sorted hi (cutAt n.toNat)
        have e : upd K.L s (cutAt n.toNat) = upd K.L K.L[pos K.L s].name (cutAt n.toNat) := by rw [hnm]
        exact e.trans this
      rw [hu] at hok ⊢
      obtain ⟨m, rfl⟩ : ∃ m : Nat, n = (m : Int) := ⟨n.toNat, by omega⟩
      rw [show ((m : Int)).toNat = m by omega] at hok ⊢
      have hn0 : ¬ (m : Int) < 0 := by omega
      have hgt : ¬ (m : Int) > (K.L[pos K.L s].sure.length : Int) + (K.L[pos K.L s].loose.length : Int) := by omega
      have hal := bel1 w (.cells #[.string ⟨K.L[pos K.L s].name.toArray⟩, .string ⟨K.L[pos K.L s].sure.toArray⟩, .string ⟨K.L[pos K.L s].loose.toArray⟩] 70)
      have hbx := at1 w (.cells #[.string ⟨K.L[pos K.L s].name.toArray⟩, .string ⟨K.L[pos K.L s].sure.toArray⟩, .string ⟨K.L[pos K.L s].loose.toArray⟩] 70)
      have hsz := size1 w (.cells #[.string ⟨K.L[pos K.L s].name.toArray⟩, .string ⟨K.L[pos K.L s].sure.toArray⟩, .string ⟨K.L[pos K.L s].loose.toArray⟩] 70)
      have hdl := h.lt
      obtain ⟨w1, hw1⟩ : ∃ w1, w.alloc (.cells #[.string ⟨K.L[pos K.L s].name.toArray⟩, .string ⟨K.L[pos K.L s].sure.toArray⟩, .string ⟨K.L[pos K.L s].loose.toArray⟩] 70) = w1 := ⟨_, rfl⟩
      rw [hw1] at hal hbx hsz
      have h1 := HH.out.below hal
      have g1 := (Gone.refl isDsk B w).below hB hal
      obtain ⟨g', c', e, _, _, hgl1, ⟨m0, m1, m2⟩, y0, y1, y2⟩ := h1.at_ hi
      cases e
      obtain ⟨⟨d0, _, _, _⟩, _⟩ := box4 h1.box
      have f0 : w1.cell? ⟨w.heap.size, 0, none⟩ = some (.string ⟨K.L[pos K.L s].name.toArray⟩) := cellAt hbx 0
      have f1 : w1.cell? ⟨w.heap.size, 1, none⟩ = some (.string ⟨K.L[pos K.L s].sure.toArray⟩) := cellAt hbx 1
      have f2 : w1.cell? ⟨w.heap.size, 2, none⟩ = some (.string ⟨K.L[pos K.L s].loose.toArray⟩) := cellAt hbx 2
      have hfb : w.heap.size < w1.heap.size := by rw [hsz]; omega
      have hd1 := h1.lt
      have HB1 : B ≤ w1.heap.size := by omega
      by_cases hms : m ≤ K.L[pos K.L s].sure.length
      · have hcut : cutAt m K.L[pos K.L s] = ⟨s, K.L[pos K.L s].sure.take m, []⟩ := by unfold cutAt; rw [if_pos hms, hnm]
        rw [hcut] at hok ⊢
        have ST : Hid (∀ W, Below w1.heap.size w1 W → Hid (RefAt (((W.setCell ⟨g, pos K.L s * 3, none⟩ (.string ⟨s.toArray⟩)).setCell ⟨g, pos K.L s * 3 + 1, none⟩ (.string ⟨(K.L[pos K.L s].sure.take m).toArray⟩)).setCell ⟨g, pos K.L s * 3 + 2, none⟩ (.string ⟨#[]⟩)) B d { K with L := K.L.set (pos K.L s) ⟨s, K.L[pos K.L s].sure.take m, []⟩ } ∧ Gone isDsk B w (((W.setCell ⟨g, pos K.L s * 3, none⟩ (.string ⟨s.toArray⟩)).setCell ⟨g, pos K.L s * 3 + 1, none⟩ (.string ⟨(K.L[pos K.L s].sure.take m).toArray⟩)).setCell ⟨g, pos K.L s * 3 + 2, none⟩ (.string ⟨#[]⟩)))) := Lib.hid fun W hW => by
          obtain ⟨k1, k2⟩ := (h1.below hW).stored hi ⟨s, K.L[pos K.L s].sure.take m, []⟩ hok
          exact Lib.hid ⟨⟨_, _, k1⟩, (g1.below HB1 hW).trans k2⟩
        have x1 := cut_to K.L[pos K.L s].sure m
        have hle : (m : Int) ≤ (K.L[pos K.L s].sure.length : Int) := by omega
        have hcw := hw1
        clear h h' h0 hb hd hh hl hm e1 hok HH hu hcut hal hbx h1 g1 hnm hbad hall HH'
        generalize ({ K with L := K.L.set (pos K.L s) ⟨s, K.L[pos K.L s].sure.take m, []⟩ } : St) = K2 at *
        generalize K.L[pos K.L s].name = nm at *
        generalize List.take m K.L[pos K.L s].sure = u at *
        generalize K.L[pos K.L s].sure = a at *
        generalize K.L[pos K.L s].loose = b at *
        generalize pos K.L s = i at *
        clear hw1
        have HCW := Lib.hid hcw
        clear hcw hsz
        go_enter Try.func34, Try.ntmps34
        go_wp2_with (go_at_call 49; refine O.out.mono ?_; rintro e w' ⟨rfl, rfl⟩)
        rw [HCW.out]
        refine Og.grow 12 (by kernel_rfl) (by kernel_rfl) fun hc hf => ?_
        simp only [List.take_succ_cons, List.take_zero, List.drop_succ_cons, List.drop_zero]
        iterate 12 (refine Og.det [] rfl (fun J hJ => ?_); go_simp; refine hJ _ _ ?_; clear hJ J)
        refine Og.fin fun W hW => ?_
        simp only [Og.opened_nil]
        clear hc hf
        have HE := ST.out W hW
        have e0 := (hW.cell (p := ⟨g, i * 3, none⟩) hgl1).trans m0
        have e1 := (hW.cell (p := ⟨g, i * 3 + 1, none⟩) hgl1).trans m1
        have e2 := (hW.cell (p := ⟨g, i * 3 + 2, none⟩) hgl1).trans m2
        have z0 := (hW.frozen (p := ⟨g, i * 3, none⟩) hgl1).trans y0
        have z1 := (hW.frozen (p := ⟨g, i * 3 + 1, none⟩) hgl1).trans y1
        have z2 := (hW.frozen (p := ⟨g, i * 3 + 2, none⟩) hgl1).trans y2
        go_wp2
        go_ret
        exact ⟨rfl, HE.out⟩
      · have hcut : cutAt m K.L[pos K.L s] = { K.L[pos K.L s] with loose := K.L[pos K.L s].loose.take (m - K.L[pos K.L s].sure.length) } := by unfold cutAt; rw [if_neg hms]
        rw [hcut] at hok ⊢
        have ST : Hid (∀ W, Below w1.heap.size w1 W → Hid (RefAt (W.setCell ⟨g, pos K.L s * 3 + 2, none⟩ (.string ⟨(K.L[pos K.L s].loose.take (m - K.L[pos K.L s].sure.length)).toArray⟩)) B d { K with L := K.L.set (pos K.L s) { K.L[pos K.L s] with loose := K.L[pos K.L s].loose.take (m - K.L[pos K.L s].sure.length) } } ∧ Gone isDsk B w (W.setCell ⟨g, pos K.L s * 3 + 2, none⟩ (.string ⟨(K.L[pos K.L s].loose.take (m - K.L[pos K.L s].sure.length)).toArray⟩)))) := Lib.hid fun W hW => by
          obtain ⟨k1, k2⟩ := (h1.below hW).loosed hi (K.L[pos K.L s].loose.take (m - K.L[pos K.L s].sure.length)) hok
          exact Lib.hid ⟨⟨_, _, k1⟩, (g1.below HB1 hW).trans k2⟩
        have x1 := cut_to K.L[pos K.L s].loose (m - K.L[pos K.L s].sure.length)
        have hle : ¬ (m : Int) ≤ (K.L[pos K.L s].sure.length : Int) := by omega
        have hsub : (m : Int) - (K.L[pos K.L s].sure.length : Int) = ((m - K.L[pos K.L s].sure.length : Nat) : Int) := by omega
        have hsl : m - K.L[pos K.L s].sure.length ≤ K.L[pos K.L s].loose.length := by omega
        have hcw := hw1
        clear h h' h0 hb hd hh hl hm e1 hok HH hu hcut hal hbx h1 g1 hnm hbad hall hms HH'
        generalize ({ K with L := K.L.set (pos K.L s) { K.L[pos K.L s] with loose := K.L[pos K.L s].loose.take (m - K.L[pos K.L s].sure.length) } } : St) = K2 at *
        generalize K.L[pos K.L s].name = nm at *
        generalize List.take (m - K.L[pos K.L s].sure.length) K.L[pos K.L s].loose = u at *
        generalize K.L[pos K.L s].sure = a at *
        generalize K.L[pos K.L s].loose = b at *
        generalize m - a.length = mm at *
        have hwr : IntKind.i64.wrap (mm : Int) = (mm : Int) := IntWalk.i64_in _ ⟨by omega, by omega⟩
        have hmb : (mm : Int) ≤ (b.length : Int) := by omega
        generalize pos K.L s = i at *
        clear hw1
        have HCW := Lib.hid hcw
        clear hcw hsz
        go_enter Try.func34, Try.ntmps34
        go_wp2_with (go_at_call 49; refine O.out.mono ?_; rintro e w' ⟨rfl, rfl⟩)
        rw [HCW.out]
        refine Og.grow 15 (by kernel_rfl) (by kernel_rfl) fun hc hf => ?_
        simp only [List.take_succ_cons, List.take_zero, List.drop_succ_cons, List.drop_zero]
        iterate 15 (refine Og.det [] rfl (fun J hJ => ?_); go_simp; refine hJ _ _ ?_; clear hJ J)
        refine Og.fin fun W hW => ?_
        simp only [Og.opened_nil]
        clear hc hf
        have HE := ST.out W hW
        have e2 := (hW.cell (p := ⟨g, i * 3 + 2, none⟩) hgl1).trans m2
        have z2 := (hW.frozen (p := ⟨g, i * 3 + 2, none⟩) hgl1).trans y2
        go_wp2
        go_ret
        exact ⟨rfl, HE.out⟩
  · have e1 : Dk.trunc K s n = (K, err K s) := by simp [Dk.trunc, h0]
    rw [e1]
    obtain ⟨n', hn', hn0, hO⟩ := ropen_bad h s hs h0
    rw [← hn']
    have O := Lib.hid hO
    have HL := Lib.hid h'
    clear hO h h' hn' h0 hs e1
    go_enter Try.func34, Try.ntmps34
    go_wp2_with (go_at_call 49; refine O.out.mono ?_; rintro e w' ⟨rfl, rfl⟩)
    go_ret
    exact ⟨rfl, HL.out, Gone.refl _ _ _⟩
end Go.Proofs.Ytklgiocihknebaa
