/- The document's Append, Remove. -/
import Derived.Test.YtklgiocihknebaaDkRef5
namespace Go.Proofs.Ytklgiocihknebaa
open Go.RowKit Go.Maps Dk
set_option linter.unusedVariables false

set_option maxHeartbeats 8000000 in
set_option maxRecDepth 100000 in
theorem rappend_bad (w : World) {B d : Nat} {K : St} {v : Value} {q : Int} (h : RLay w B d K v q) (s t : Str) (hs : s.length ≤ 140737488351232) (h0 : err K s ≠ 0) (h6 : err K s ≠ 6) :
    Calls Try.prog 32 #[.pointer (some ⟨d, 0, none⟩), .string ⟨s.toArray⟩, .string ⟨t.toArray⟩] w fun e w' => e = .returned (.int .i64 (err K s : Nat)) ∧ w = w' := by
  have O := ropen_any s w h hs
  rw [if_neg h0] at O
  clear h hs
  rcases err_of K s with he | he | he | he <;> rw [he] at O h0 h6 ⊢
  · exact absurd rfl h0
  · have O := Lib.hid O
    clear h0 h6 he
    go_enter Try.func32, Try.ntmps32
    go_wp2_with (go_at_call 49; refine O.out.mono ?_; rintro e w' ⟨rfl, rfl⟩)
    go_ret
    exact ⟨rfl, rfl⟩
  · exact absurd rfl h6
  · have O := Lib.hid O
    clear h0 h6 he
    go_enter Try.func32, Try.ntmps32
    go_wp2_with (go_at_call 49; refine O.out.mono ?_; rintro e w' ⟨rfl, rfl⟩)
    go_ret
    exact ⟨rfl, rfl⟩

set_option maxHeartbeats 8000000 in
set_option maxRecDepth 100000 in
theorem rappend_new (w : World) {B d : Nat} {K : St} {v : Value} {q : Int} (h : RLay w B d K v q) (s t : Str) (hs : s.length ≤ 140737488351232) (ht : t.length ≤ 140737488351232) (h6 : err K s = 6) :
    Calls Try.prog 32 #[.pointer (some ⟨d, 0, none⟩), .string ⟨s.toArray⟩, .string ⟨t.toArray⟩] w fun e w' => e = .returned (.int .i64 ((Dk.append K s t).2 : Nat)) ∧ RefAt w' B d (Dk.append K s t).1 ∧ Gone isDsk B w w' := by
  have O := ropen_any s w h hs
  rw [if_neg (by omega), h6] at O
  have O := Lib.hid (show Calls Try.prog 49 #[.pointer (some ⟨d, 0, none⟩), .string ⟨s.toArray⟩] w fun e w' => e = .returned (.tuple #[.int .i64 0, .int .i64 6]) ∧ w = w' from O)
  obtain ⟨hb, hd, hn⟩ := err_none h6
  have hfew := h.ok.few
  obtain ⟨A, c, hform⟩ := h.form
  obtain ⟨⟨c0, _, _, _⟩, _⟩ := box4 h.box
  rw [hform] at c0
  have hokA := ok_append h.ok s t
  rw [append_none hb hd (look_none.2 hn)] at hokA ⊢
  by_cases hbig : 64 ≤ K.L.length ∨ 4194304 < t.length
  · rw [if_pos hbig]
    have HL := Lib.hid (⟨v, q, h⟩ : RefAt w B d K)
    have HG := Lib.hid (Gone.refl isDsk B w)
    clear h hs h6 hb hd hn hform hokA
    generalize K.L.length = len at *
    by_cases h64 : 64 ≤ len
    · have h1 : (len : Int) ≥ 64 := by omega
      clear hbig hfew
      go_enter Try.func32, Try.ntmps32
      go_wp2_with (go_at_call 49; refine O.out.mono ?_; rintro e w' ⟨rfl, rfl⟩)
      go_ret
      exact ⟨rfl, HL.out, HG.out⟩
    · have h1 : ¬ (len : Int) ≥ 64 := by omega
      have h2 : (t.length : Int) > 4194304 := by omega
      clear hbig hfew h64
      go_enter Try.func32, Try.ntmps32
      go_wp2_with (go_at_call 49; refine O.out.mono ?_; rintro e w' ⟨rfl, rfl⟩)
      go_ret
      exact ⟨rfl, HL.out, HG.out⟩
  · rw [if_neg hbig] at hokA ⊢
    have h1 : ¬ (K.L.length : Int) ≥ 64 := by omega
    have h2 : ¬ (t.length : Int) > 4194304 := by omega
    have F := Lib.hid (rfits_any t w h hd ht)
    have P : Hid (∀ (w' : World) (q' : Int), RLay w' B d (pay K t) v q' → Calls Try.prog 51 #[.pointer (some ⟨d, 0, none⟩), .agg #[.string ⟨s.toArray⟩, .string ⟨#[]⟩, .string ⟨(fits K.room t).toArray⟩]] w' fun e w'' => e = .returned (.tuple #[]) ∧ (∃ v', RLay w'' B d { pay K t with L := ins K.L ⟨s, [], fits K.room t⟩ } v' q') ∧ Gone isDsk B w' w'') :=
      Lib.hid fun w' q' h' => rput_any w' h' ⟨s, [], fits K.room t⟩ hokA
    have D : Hid (∀ (w' : World) (v' : Value) (q' : Int), RLay w' B d { pay K t with L := ins K.L ⟨s, [], fits K.room t⟩ } v' q' → Calls Try.prog 52 #[.pointer (some ⟨d, 0, none⟩)] w' fun e w'' => e = .returned (.int .i64 ((if (pay K t).dead then 12 else 0 : Nat) : Int)) ∧ w' = w'') :=
      Lib.hid fun w' v' q' h' => rdown_any (K := { pay K t with L := ins K.L ⟨s, [], fits K.room t⟩ }) w' h'
    generalize ({ pay K t with L := ins K.L ⟨s, [], fits K.room t⟩ } : St) = K2 at *
    generalize (if (pay K t).dead then 12 else 0 : Nat) = r at *
    generalize pay K t = K1 at *
    generalize fits K.room t = u at *
    clear h hs h6 hb hd hn hform hokA hbig hfew
    generalize K.L.length = len at *
    go_enter Try.func32, Try.ntmps32
    go_wp2_with (first
      | (go_at_call 49; refine O.out.mono ?_; rintro e w' ⟨rfl, rfl⟩)
      | (go_at_call 50; refine F.out.mono ?_; rintro e w1 ⟨rfl, ⟨q1, hk1⟩, hk2⟩; have HK1 := Lib.hid hk1; have HK2 := Lib.hid hk2; clear hk1 hk2)
      | (go_at_call 51; refine (P.out _ _ HK1.out).mono ?_; rintro e w2 ⟨rfl, ⟨v2, hj1⟩, hj2⟩; have HJ1 := Lib.hid hj1; have HJ2 := Lib.hid hj2; clear hj1 hj2)
      | (go_at_call 52; refine (D.out _ _ _ HJ1.out).mono ?_; rintro e w3 ⟨rfl, rfl⟩))
    go_ret
    exact ⟨rfl, ⟨_, _, HJ1.out⟩, HK2.out.trans HJ2.out⟩

set_option maxHeartbeats 8000000 in
set_option maxRecDepth 100000 in
theorem rappend_old (w : World) {B d : Nat} {K : St} {v : Value} {q : Int} (h : RLay w B d K v q) (s t : Str) (hs : s.length ≤ 140737488351232) (ht : t.length ≤ 140737488351232) (h0 : err K s = 0) :
    Calls Try.prog 32 #[.pointer (some ⟨d, 0, none⟩), .string ⟨s.toArray⟩, .string ⟨t.toArray⟩] w fun e w' => e = .returned (.int .i64 ((Dk.append K s t).2 : Nat)) ∧ RefAt w' B d (Dk.append K s t).1 ∧ Gone isDsk B w w' := by
  have O := Lib.hid (ropen_ok h s hs h0)
  obtain ⟨hb, hd, hh⟩ := err_has h0
  obtain ⟨hi, hn, hl, hm⟩ := h.found hh
  have hfew := h.ok.few
  obtain ⟨s1, s2, s3⟩ := small_parts h.ok hm
  have hi' : (pos K.L s : Int) < (K.L.length : Int) := by omega
  have HV : Hid (∃ v', v' = v) := Lib.hid ⟨v, rfl⟩
  obtain ⟨g, c, rfl, _, _, hgl, ⟨n0, n1, n2⟩, _⟩ := h.at_ hi
  obtain ⟨⟨c0, _, _, _⟩, _⟩ := box4 h.box
  have hokA := ok_append h.ok s t
  have hall : (K.L[pos K.L s].all.length : Int) = (K.L[pos K.L s].sure.length : Int) + (K.L[pos K.L s].loose.length : Int) := by simp only [Fl.all, List.length_append]; omega
  rw [append_some hb hd hl] at hokA ⊢
  by_cases hbig : 4194304 < K.L[pos K.L s].all.length + t.length
  · rw [if_pos hbig]
    have HL : Hid (RefAt w B d K) := Lib.hid ⟨_, q, h⟩
    have HB : Hid (B ≤ w.heap.size) := Lib.hid (Nat.le_trans h.base (Nat.le_of_lt h.lt))
    have HG := Lib.hid (Gone.refl isDsk B w)
    have h1 : (K.L[pos K.L s].sure.length : Int) + (K.L[pos K.L s].loose.length : Int) > 4194304 - (t.length : Int) := by omega
    clear h hs h0 hb hd hn hl hm hh hokA hbig hall HV n0
    generalize K.L[pos K.L s].sure = a at *
    generalize K.L[pos K.L s].loose = b at *
    generalize pos K.L s = i at *
    go_enter Try.func32, Try.ntmps32
    go_wp2_with (go_at_call 49; refine O.out.mono ?_; rintro e w' ⟨rfl, rfl⟩)
    go_quiet (fail)
    go_wp2
    go_ret
    exact ⟨rfl, HL.out.below (below_dn _ _), HG.out.below HB.out (below_dn _ _)⟩
  · rw [if_neg hbig] at hokA ⊢
    have hu : upd K.L s (fun f => { f with loose := f.loose ++ fits K.room t }) = K.L.set (pos K.L s) { K.L[pos K.L s] with loose := K.L[pos K.L s].loose ++ fits K.room t } := by
      have := upd_set h.ok.sorted hi (fun f => { f with loose := f.loose ++ fits K.room t })
      have e : upd K.L s (fun f => { f with loose := f.loose ++ fits K.room t }) = upd K.L K.L[pos K.L s].name (fun f => { f with loose := f.loose ++ fits K.room t }) := by rw [hn]
      exact e.trans this
    rw [hu] at hokA ⊢
    have h1 : ¬ (K.L[pos K.L s].sure.length : Int) + (K.L[pos K.L s].loose.length : Int) > 4194304 - (t.length : Int) := by omega
    have hfl := fits_len K.room t
    have S := sum_two K.L[pos K.L s].loose (fits K.room t) (by omega)
    have hB : B ≤ w.heap.size := Nat.le_trans h.base (Nat.le_of_lt h.lt)
    have F : Hid (∀ W, Below w.heap.size w W → Calls Try.prog 50 #[.pointer (some ⟨d, 0, none⟩), .string ⟨t.toArray⟩] W fun e w' => e = .returned (.string ⟨(fits K.room t).toArray⟩) ∧ Hid (∃ q', RLay w' B d (pay K t) (.slice (some ⟨g, 0, none⟩) K.L.length c) q') ∧ Hid (Gone isDsk B w w')) := Lib.hid fun W hW => by
      refine (rfits_any t W (h.below hW) hd ht).mono ?_
      rintro e w' ⟨rfl, k1, k2⟩
      exact ⟨rfl, Lib.hid k1, Lib.hid (((Gone.refl isDsk B w).below hB hW).trans k2)⟩
    have ST : Hid (∀ w1, (∃ q', RLay w1 B d (pay K t) (.slice (some ⟨g, 0, none⟩) K.L.length c) q') → Gone isDsk B w w1 →
        (w1.cell? ⟨d, 0, none⟩ = some (.slice (some ⟨g, 0, none⟩) K.L.length c) ∧ w1.cell? ⟨g, pos K.L s * 3 + 2, none⟩ = some (.string ⟨K.L[pos K.L s].loose.toArray⟩) ∧ w1.frozen? ⟨g, pos K.L s * 3 + 2, none⟩ = false ∧ g < w1.heap.size) ∧
        ∀ W, Below w1.heap.size w1 W → Hid ((∃ v' q', RLay (W.setCell ⟨g, pos K.L s * 3 + 2, none⟩ (.string ⟨(K.L[pos K.L s].loose ++ fits K.room t).toArray⟩)) B d { pay K t with L := K.L.set (pos K.L s) { K.L[pos K.L s] with loose := K.L[pos K.L s].loose ++ fits K.room t } } v' q') ∧ Gone isDsk B w (W.setCell ⟨g, pos K.L s * 3 + 2, none⟩ (.string ⟨(K.L[pos K.L s].loose ++ fits K.room t).toArray⟩)))) := Lib.hid fun w1 ⟨q1, h1⟩ g1 => by
      obtain ⟨g', c', e, _, _, hgl', ⟨_, _, m2⟩, _, _, y2⟩ := h1.at_ (i := pos K.L s) hi
      cases e
      refine ⟨⟨(box4 h1.box).1.1, m2, y2, hgl'⟩, fun W hW => ?_⟩
      obtain ⟨k1, k2⟩ := (h1.below hW).loosed (i := pos K.L s) hi (K.L[pos K.L s].loose ++ fits K.room t) hokA
      exact Lib.hid ⟨⟨_, _, k1⟩, (g1.below (Nat.le_trans hB g1.size) hW).trans k2⟩
    have D : Hid (∀ (w' : World), (∃ v' q', RLay w' B d { pay K t with L := K.L.set (pos K.L s) { K.L[pos K.L s] with loose := K.L[pos K.L s].loose ++ fits K.room t } } v' q') → Calls Try.prog 52 #[.pointer (some ⟨d, 0, none⟩)] w' fun e w'' => e = .returned (.int .i64 ((if (pay K t).dead then 12 else 0 : Nat) : Int)) ∧ w' = w'') :=
      Lib.hid fun w' ⟨v', q', h'⟩ => rdown_any (K := { pay K t with L := K.L.set (pos K.L s) { K.L[pos K.L s] with loose := K.L[pos K.L s].loose ++ fits K.room t } }) w' h'
    clear h hs h0 hb hd hn hl hm hh hokA hbig hall HV n0 hu hB hfl
    generalize ({ pay K t with L := K.L.set (pos K.L s) { K.L[pos K.L s] with loose := K.L[pos K.L s].loose ++ fits K.room t } } : St) = K2 at *
    generalize (if (pay K t).dead then 12 else 0 : Nat) = r at *
    generalize pay K t = K1 at *
    generalize fits K.room t = u at *
    generalize K.L[pos K.L s].sure = a at *
    generalize K.L[pos K.L s].loose = b at *
    generalize pos K.L s = i at *
    go_enter Try.func32, Try.ntmps32
    go_wp2_with (go_at_call 49; refine O.out.mono ?_; rintro e w' ⟨rfl, rfl⟩)
    go_quiet (fail)
    go_wp2_with (go_at_call 50; refine (F.out _ (below_dn _ _)).mono ?_; rintro e w1 ⟨rfl, HK1, HK2⟩)
    obtain ⟨⟨e0, e2, y2, hg1⟩, ST2⟩ := ST.out w1 HK1.out HK2.out
    have ST3 := Lib.hid ST2
    clear ST ST2 c0 n1 n2 hgl F
    refine Og.grow 17 (by kernel_rfl) (by kernel_rfl) fun hc hf => ?_
    simp only [List.take_succ_cons, List.take_zero, List.drop_succ_cons, List.drop_zero]
    have hd1 : d < w1.heap.size := by obtain ⟨q5, h5⟩ := HK1.out; exact h5.lt
    iterate 17 (refine Og.det [] rfl (fun J hJ => ?_); go_simp; refine hJ _ _ ?_; clear hJ J)
    refine Og.fin fun W hW => ?_
    simp only [Og.opened_nil]
    clear hc hf
    have HE := ST3.out W hW
    have e2' := (hW.cell (p := ⟨g, i * 3 + 2, none⟩) hg1).trans e2
    have y2' := (hW.frozen (p := ⟨g, i * 3 + 2, none⟩) hg1).trans y2
    go_wp2_with (go_at_call 52; refine (D.out _ HE.out.1).mono ?_; rintro e w3 ⟨rfl, rfl⟩)
    go_ret
    exact ⟨rfl, HE.out⟩

/-- Append. -/
theorem rappend_any (w : World) {B d : Nat} {K : St} (h : RefAt w B d K) (s t : Str) (hs : s.length ≤ 140737488351232) (ht : t.length ≤ 140737488351232) :
    Calls Try.prog 32 #[.pointer (some ⟨d, 0, none⟩), .string ⟨s.toArray⟩, .string ⟨t.toArray⟩] w fun e w' => e = .returned (.int .i64 ((Dk.append K s t).2 : Nat)) ∧ RefAt w' B d (Dk.append K s t).1 ∧ Gone isDsk B w w' := by
  obtain ⟨v, q, h⟩ := h
  by_cases h0 : err K s = 0
  · exact rappend_old w h s t hs ht h0
  · by_cases h6 : err K s = 6
    · exact rappend_new w h s t hs ht h6
    · rw [append_err h0 h6]
      refine (rappend_bad w h s t hs h0 h6).mono ?_
      rintro e w' ⟨rfl, rfl⟩
      exact ⟨rfl, ⟨v, q, h⟩, Gone.refl _ _ _⟩

theorem del_at {L : List Fl} (h : Sorted L) {i : Nat} (hi : i < L.length) : del L L[i].name = L.take i ++ L.drop (i + 1) := by
  refine sorted_ext (del_sorted h _) ?_ fun f => ?_
  · have : L.take i ++ L.drop (i + 1) = L.eraseIdx i := (List.eraseIdx_eq_take_drop_succ ..).symm
    rw [this]
    exact List.Pairwise.sublist (List.eraseIdx_sublist ..) h
  · have hsplit : f ∈ L ↔ f ∈ L.take i ∨ f = L[i] ∨ f ∈ L.drop (i + 1) := by
      conv => lhs; rw [← List.take_append_drop i L, List.drop_eq_getElem_cons hi]
      rw [List.mem_append, List.mem_cons]
    rw [mem_del, hsplit, List.mem_append]
    have hno : ∀ f, (f ∈ L.take i ∨ f ∈ L.drop (i + 1)) → f.name ≠ L[i].name := fun f hf => by
      have hp := List.pairwise_iff_getElem.1 h
      rcases hf with hf | hf
      · obtain ⟨j, hj, rfl⟩ := List.mem_iff_getElem.1 hf
        rw [List.length_take] at hj
        rw [List.getElem_take]
        exact slt_ne (hp j i (by omega) hi (by omega))
      · obtain ⟨j, hj, rfl⟩ := List.mem_iff_getElem.1 hf
        rw [List.length_drop] at hj
        rw [List.getElem_drop]
        exact (slt_ne (hp i (i + 1 + j) hi (by omega) (by omega))).symm
    constructor
    · rintro ⟨h1 | rfl | h1, h2⟩
      · exact .inl h1
      · exact absurd rfl h2
      · exact .inr h1
    · rintro (h1 | h1)
      · exact ⟨.inl h1, hno f (.inl h1)⟩
      · exact ⟨.inr (.inr h1), hno f (.inr h1)⟩

set_option maxHeartbeats 8000000 in
set_option maxRecDepth 100000 in
theorem rremove_any (w : World) {B d : Nat} {K : St} (h : RefAt w B d K) (s : Str) (hs : s.length ≤ 140737488351232) :
    Calls Try.prog 36 #[.pointer (some ⟨d, 0, none⟩), .string ⟨s.toArray⟩] w fun e w' => e = .returned (.int .i64 ((Dk.remove K s).2 : Nat)) ∧ RefAt w' B d (Dk.remove K s).1 ∧ Gone isDsk B w w' := by
  have h' := h
  obtain ⟨v, q, h⟩ := h
  by_cases h0 : err K s = 0
  · have O := Lib.hid (ropen_ok h s hs h0)
    have hok := ok_remove h.ok s
    unfold Dk.remove at hok ⊢
    simp only [if_pos h0] at hok ⊢
    rw [h0]
    obtain ⟨hi, hn, hl, hm⟩ := h.found (err_has h0).2.2
    have hdl := del_at h.ok.sorted hi
    rw [hn] at hdl
    rw [hdl] at hok ⊢
    have T := Lib.hid (rtake_any w h hi hok)
    clear h h' h0 hn hl hm hok hdl
    generalize ({ K with L := K.L.take (pos K.L s) ++ K.L.drop (pos K.L s + 1) } : St) = K2 at *
    clear hi
    generalize pos K.L s = i at *
    go_enter Try.func36, Try.ntmps36
    go_wp2_with (first
      | (go_at_call 49; refine O.out.mono ?_; rintro e w' ⟨rfl, rfl⟩)
      | (go_at_call 53; refine T.out.mono ?_; rintro e w1 ⟨rfl, ⟨v1, hk1⟩, hk2, _⟩; have HK1 := Lib.hid hk1; have HK2 := Lib.hid hk2; clear hk1 hk2))
    go_ret
    exact ⟨rfl, ⟨_, _, HK1.out⟩, HK2.out⟩
  · have e1 : Dk.remove K s = (K, err K s) := by simp [Dk.remove, h0]
    rw [e1]
    obtain ⟨n, hn, hn0, hO⟩ := ropen_bad h s hs h0
    rw [← hn]
    have O := Lib.hid hO
    have HL := Lib.hid h'
    clear hO h h' hn h0 hs e1
    go_enter Try.func36, Try.ntmps36
    go_wp2_with (go_at_call 49; refine O.out.mono ?_; rintro e w' ⟨rfl, rfl⟩)
    go_ret
    exact ⟨rfl, HL.out, Gone.refl _ _ _⟩
end Go.Proofs.Ytklgiocihknebaa
