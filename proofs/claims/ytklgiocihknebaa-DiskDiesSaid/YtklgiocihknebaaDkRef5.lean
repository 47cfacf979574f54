/- The document's Read, Size, Sync, Append. -/
import Derived.Test.YtklgiocihknebaaDkRef4
namespace Go.Proofs.Ytklgiocihknebaa
open Go.RowKit Go.Maps Dk
set_option linter.unusedVariables false

theorem sum_two (a b : List UInt8) (h : a.length + b.length ≤ 9223372036854775807) : ∀ W : World, (Op.stringOp .add ⟨a.toArray⟩ ⟨b.toArray⟩).run Try.prog W = .ok (.string ⟨(a ++ b).toArray⟩) W := by
  intro W
  rw [run_string_add_sum _ _ _ (by simpa [ByteArray.size] using h), ByteArray.mk_append_mk]
theorem rcells_loose (L : List Fl) (i : Nat) (hi : i < L.length) (l : Str) : rcells (L.set i { L[i] with loose := l }) = (rcells L).set (i * 3 + 2) (.string ⟨l.toArray⟩) := by
  have hl : (rcells (L.take i)).length = i * 3 := by rw [rcells_len, List.length_take]; congr 1; omega
  have h2 := rcells_split (L.set i { L[i] with loose := l }) i (by rw [List.length_set]; exact hi)
  rw [List.getElem_set_self, List.take_set_of_le (Nat.le_refl _), List.drop_set_of_lt (by omega)] at h2
  rw [h2, rcells_split L i hi]
  rw [List.set_append_right _ _ (by rw [hl]; omega), hl, show i * 3 + 2 - i * 3 = 2 by omega]
  rfl
theorem upd_set {L : List Fl} (h : Sorted L) {i : Nat} (hi : i < L.length) (g : Fl → Fl) : upd L L[i].name g = L.set i (g L[i]) := by
  unfold upd
  refine List.ext_getElem (by simp) fun j h1 h2 => ?_
  rw [List.getElem_map, List.getElem_set]
  have hj : j < L.length := by simpa using h1
  by_cases hij : i = j
  · subst hij
    rw [if_pos rfl, if_pos rfl]
  · rw [if_neg hij, if_neg]
    intro e
    rcases Nat.lt_or_ge i j with hlt | hlt
    · exact slt_ne (List.pairwise_iff_getElem.1 h i j hi hj hlt) e.symm
    · exact slt_ne (List.pairwise_iff_getElem.1 h j i hj hi (by omega)) e
section
variable {W : World} {B d : Nat} {K : St} {v : Value} {q : Int}
theorem RLay.gone1 {g i : Nat} (h : RLay W B d K (.slice (some ⟨g, 0, none⟩) K.L.length i) q) {p : Obj → Bool} {j : Nat} {u : Value} : True := trivial
/-- the struct and the row behind a store into the row -/
theorem RLay.rowed {W' : World} {c g : Nat} (h : RLay W B d K (.slice (some ⟨g, 0, none⟩) K.L.length c) q) {L : List Fl} (hl : L.length = K.L.length) (hok : Ok { K with L := L })
    (hrow : W'.ownsRow B 70 3 (.slice (some ⟨g, 0, none⟩) K.L.length c) K.L.length (rcells L)) (hbox : W'.heap[d]? = W.heap[d]?) : RLay W' B d { K with L := L } (.slice (some ⟨g, 0, none⟩) K.L.length c) q :=
  ⟨hok, h.base, hbox.trans h.box, h.room, by show W'.ownsRow _ _ _ _ L.length _; rw [hl]; exact hrow⟩
theorem RLay.loosed {c g i : Nat} (h : RLay W B d K (.slice (some ⟨g, 0, none⟩) K.L.length c) q) (hi : i < K.L.length) (l : Str) (hok : Ok { K with L := K.L.set i { K.L[i] with loose := l } }) :
    RLay (W.setCell ⟨g, i * 3 + 2, none⟩ (.string ⟨l.toArray⟩)) B d { K with L := K.L.set i { K.L[i] with loose := l } } (.slice (some ⟨g, 0, none⟩) K.L.length c) q ∧ Gone isDsk B W (W.setCell ⟨g, i * 3 + 2, none⟩ (.string ⟨l.toArray⟩)) := by
  obtain ⟨hB, cs, hg⟩ := row_block h.row (b := g) rfl
  have hs := (h.row.stored (i * 3 + 2) (.string ⟨l.toArray⟩)).1
  rw [← rcells_loose K.L i hi l] at hs
  exact ⟨h.rowed (by rw [List.length_set]) hok hs (Below.heap_setCell _ _ _ _ (fun e => h.ne (g := g) rfl e.symm)), (Gone.refl _ _ _).set hg (isDsk_f _) hB _⟩
theorem RLay.stored {c g i : Nat} (h : RLay W B d K (.slice (some ⟨g, 0, none⟩) K.L.length c) q) (hi : i < K.L.length) (f : Fl) (hok : Ok { K with L := K.L.set i f }) :
    RLay (((W.setCell ⟨g, i * 3, none⟩ (.string ⟨f.name.toArray⟩)).setCell ⟨g, i * 3 + 1, none⟩ (.string ⟨f.sure.toArray⟩)).setCell ⟨g, i * 3 + 2, none⟩ (.string ⟨f.loose.toArray⟩)) B d { K with L := K.L.set i f } (.slice (some ⟨g, 0, none⟩) K.L.length c) q ∧
    Gone isDsk B W (((W.setCell ⟨g, i * 3, none⟩ (.string ⟨f.name.toArray⟩)).setCell ⟨g, i * 3 + 1, none⟩ (.string ⟨f.sure.toArray⟩)).setCell ⟨g, i * 3 + 2, none⟩ (.string ⟨f.loose.toArray⟩)) := by
  obtain ⟨hB, cs, hg⟩ := row_block h.row (b := g) rfl
  have s1 := (h.row.stored (i * 3) (.string ⟨f.name.toArray⟩)).1
  have s2 := (s1.stored (i * 3 + 1) (.string ⟨f.sure.toArray⟩)).1
  have s3 := (s2.stored (i * 3 + 2) (.string ⟨f.loose.toArray⟩)).1
  rw [← rcells_set K.L i hi f] at s3
  have hdg : d ≠ g := fun e => h.ne (g := g) rfl e.symm
  have g1 := heap_setCell_same W g (i * 3) cs _ (.string ⟨f.name.toArray⟩) hg
  have g2 := heap_setCell_same _ g (i * 3 + 1) _ _ (.string ⟨f.sure.toArray⟩) g1
  exact ⟨h.rowed (by rw [List.length_set]) hok s3 ((Below.heap_setCell _ _ _ _ hdg).trans ((Below.heap_setCell _ _ _ _ hdg).trans (Below.heap_setCell _ _ _ _ hdg))), (((Gone.refl _ _ _).set hg (isDsk_f _) hB _).set g1 (isDsk_f _) hB _).set g2 (isDsk_f _) hB _⟩
/-- a file that is there, in the row -/
theorem RLay.found (h : RLay W B d K v q) {s : Str} (hh : Dk.has K.L s = true) : ∃ hi : pos K.L s < K.L.length, K.L[pos K.L s].name = s ∧ Dk.look K.L s = some K.L[pos K.L s] ∧ K.L[pos K.L s] ∈ K.L := by
  obtain ⟨hp, hn⟩ := pos_at hh
  have hm := List.getElem_mem hp
  exact ⟨hp, hn, by have := look_mem h.ok.sorted hm; rwa [hn] at this, hm⟩
theorem ropen_bad (h : RLay W B d K v q) (s : Str) (hs : s.length ≤ 140737488351232) (h0 : err K s ≠ 0) :
    ∃ n : Int, n = (err K s : Nat) ∧ n ≠ 0 ∧ Calls Try.prog 49 #[.pointer (some ⟨d, 0, none⟩), .string ⟨s.toArray⟩] W fun e w' => e = .returned (.tuple #[.int .i64 0, .int .i64 n]) ∧ W = w' :=
  ⟨_, rfl, by omega, by have := ropen_any s W h hs; rwa [if_neg h0] at this⟩
theorem ropen_ok (h : RLay W B d K v q) (s : Str) (hs : s.length ≤ 140737488351232) (h0 : err K s = 0) :
    Calls Try.prog 49 #[.pointer (some ⟨d, 0, none⟩), .string ⟨s.toArray⟩] W fun e w' => e = .returned (.tuple #[.int .i64 (pos K.L s : Nat), .int .i64 0]) ∧ W = w' := by
  have := ropen_any s W h hs
  rw [if_pos h0, h0] at this
  exact this
end
theorem err_has {K : St} {s : Str} (h : err K s = 0) : bad s = false ∧ K.dead = false ∧ Dk.has K.L s = true := by
  obtain ⟨a, b, f, hl, hf, hn⟩ := err_look h
  exact ⟨a, b, hn ▸ has_mem hf⟩
theorem err0_has {K : St} {s : Str} (h : err0 K s = 0) : Dk.has K.L s = true := by
  obtain ⟨a, f, hl, hf, hn⟩ := err0_look h
  exact hn ▸ has_mem hf
theorem small_parts {K : St} (h : Ok K) {f : Fl} (hf : f ∈ K.L) : f.sure.length ≤ 4194304 ∧ f.loose.length ≤ 4194304 ∧ f.sure.length + f.loose.length ≤ 4194304 := by
  have := h.small f hf
  simp only [Fl.all, List.length_append] at this
  omega

set_option maxHeartbeats 8000000 in
set_option maxRecDepth 100000 in
theorem rread_any (w : World) {B d : Nat} {K : St} (h : RefAt w B d K) (s : Str) (hs : s.length ≤ 140737488351232) :
    Calls Try.prog 18 #[.pointer (some ⟨d, 0, none⟩), .string ⟨s.toArray⟩] w fun e w' => e = .returned (.tuple #[.string ⟨(Dk.read K s).1.toArray⟩, .int .i64 ((Dk.read K s).2 : Nat)]) ∧ Below w.heap.size w w' := by
  obtain ⟨v, q, h⟩ := h
  have O := rat_any s w h hs
  by_cases h0 : err0 K s = 0
  · rw [if_pos h0, h0] at O
    obtain ⟨hi, hn, hl, hm⟩ := h.found (err0_has h0)
    rw [read_yes h0 hl]
    obtain ⟨g, c, rfl, _, _, _, ⟨n0, n1, n2⟩, _⟩ := h.at_ hi
    obtain ⟨⟨c0, _, _, _⟩, _⟩ := box4 h.box
    obtain ⟨s1, s2, s3⟩ := small_parts h.ok hm
    have hfew := h.ok.few
    have S := sum_two K.L[pos K.L s].sure K.L[pos K.L s].loose (by omega)
    have hi' : (pos K.L s : Int) < (K.L.length : Int) := by omega
    have O := Lib.hid O
    unfold Fl.all
    clear h h0 hn hl hm n0
    generalize K.L[pos K.L s].sure = a at *
    generalize K.L[pos K.L s].loose = b at *
    generalize pos K.L s = i at *
    go_enter Try.func18, Try.ntmps18
    go_wp2_with (go_at_call 40; refine O.out.mono ?_; rintro e w' ⟨rfl, rfl⟩)
    go_quiet (fail)
    go_wp2
    go_ret2
    exact ⟨rfl, below_dn _ _⟩
  · rw [if_neg h0] at O
    rw [read_no h0]
    obtain ⟨n, hn⟩ : ∃ n : Int, n = (err0 K s : Nat) := ⟨_, rfl⟩
    have hn0 : n ≠ 0 := by omega
    rw [← hn] at O ⊢
    have O := Lib.hid O
    clear h h0 hn
    go_enter Try.func18, Try.ntmps18
    go_wp2_with (go_at_call 40; refine O.out.mono ?_; rintro e w' ⟨rfl, rfl⟩)
    go_ret2
    exact ⟨rfl, Below.refl _ _⟩

set_option maxHeartbeats 8000000 in
set_option maxRecDepth 100000 in
theorem rsize_any (w : World) {B d : Nat} {K : St} (h : RefAt w B d K) (s : Str) (hs : s.length ≤ 140737488351232) :
    Calls Try.prog 20 #[.pointer (some ⟨d, 0, none⟩), .string ⟨s.toArray⟩] w fun e w' => e = .returned (.tuple #[.int .i64 ((Dk.size K s).1 : Nat), .int .i64 ((Dk.size K s).2.1 : Nat), .int .i64 ((Dk.size K s).2.2 : Nat)]) ∧ Below w.heap.size w w' := by
  obtain ⟨v, q, h⟩ := h
  have O := rat_any s w h hs
  by_cases h0 : err0 K s = 0
  · rw [if_pos h0, h0] at O
    obtain ⟨hi, hn, hl, hm⟩ := h.found (err0_has h0)
    rw [size_yes h0 hl]
    obtain ⟨g, c, rfl, _, _, _, ⟨n0, n1, n2⟩, _⟩ := h.at_ hi
    obtain ⟨⟨c0, _, _, _⟩, _⟩ := box4 h.box
    obtain ⟨s1, s2, s3⟩ := small_parts h.ok hm
    have hfew := h.ok.few
    have hi' : (pos K.L s : Int) < (K.L.length : Int) := by omega
    have O := Lib.hid O
    have hal : ((K.L[pos K.L s].all.length : Nat) : Int) = (K.L[pos K.L s].sure.length : Int) + (K.L[pos K.L s].loose.length : Int) := by simp only [Fl.all, List.length_append]; omega
    rw [hal]
    clear h h0 hn hl hm n0 hal
    generalize K.L[pos K.L s].sure = a at *
    generalize K.L[pos K.L s].loose = b at *
    generalize pos K.L s = i at *
    go_enter Try.func20, Try.ntmps20
    go_wp2_with (go_at_call 40; refine O.out.mono ?_; rintro e w' ⟨rfl, rfl⟩)
    go_quiet (fail)
    go_wp2
    go_ret3
    exact ⟨rfl, below_dn _ _⟩
  · rw [if_neg h0] at O
    rw [size_no h0]
    obtain ⟨n, hn⟩ : ∃ n : Int, n = (err0 K s : Nat) := ⟨_, rfl⟩
    have hn0 : n ≠ 0 := by omega
    rw [← hn] at O ⊢
    have O := Lib.hid O
    clear h h0 hn
    go_enter Try.func20, Try.ntmps20
    go_wp2_with (go_at_call 40; refine O.out.mono ?_; rintro e w' ⟨rfl, rfl⟩)
    go_ret3
    exact ⟨rfl, Below.refl _ _⟩

set_option maxHeartbeats 8000000 in
set_option maxRecDepth 100000 in
theorem rsync_any (w : World) {B d : Nat} {K : St} (h : RefAt w B d K) (s : Str) (hs : s.length ≤ 140737488351232) :
    Calls Try.prog 33 #[.pointer (some ⟨d, 0, none⟩), .string ⟨s.toArray⟩] w fun e w' => e = .returned (.int .i64 ((Dk.sync K s).2 : Nat)) ∧ RefAt w' B d (Dk.sync K s).1 ∧ Gone isDsk B w w' := by
  have h' := h
  obtain ⟨v, q, h⟩ := h
  by_cases h0 : err K s = 0
  · have O := Lib.hid (ropen_ok h s hs h0)
    have hok := ok_sync h.ok s
    unfold Dk.sync at hok ⊢
    simp only [if_pos h0] at hok ⊢
    rw [h0]
    obtain ⟨hi, hn, hl, hm⟩ := h.found (err_has h0).2.2
    have hu : upd K.L s (fun f => ⟨f.name, f.all, []⟩) = K.L.set (pos K.L s) ⟨s, K.L[pos K.L s].all, []⟩ := by
      have := upd_set h.ok.sorted hi (fun f => ⟨f.name, f.all, []⟩)
      rw [hn] at this
      exact this
    rw [hu] at hok ⊢
    obtain ⟨s1, s2, s3⟩ := small_parts h.ok hm
    have hfew := h.ok.few
    have S := sum_two K.L[pos K.L s].sure K.L[pos K.L s].loose (by omega)
    have hi' : (pos K.L s : Int) < (K.L.length : Int) := by omega
    have hd := h.lt
    have HB := Lib.hid (Nat.le_trans h.base (Nat.le_of_lt h.lt) : B ≤ w.heap.size)
    have HH := Lib.hid h
    have HI := Lib.hid hi
    obtain ⟨g, c, rfl, _, _, hgl, ⟨n0, n1, n2⟩, _⟩ := h.at_ hi
    obtain ⟨⟨c0, _, _, _⟩, _⟩ := box4 h.box
    have ST : Hid (∀ W, Below w.heap.size w W → Hid (RefAt (((W.setCell ⟨g, pos K.L s * 3, none⟩ (.string ⟨s.toArray⟩)).setCell ⟨g, pos K.L s * 3 + 1, none⟩ (.string ⟨(K.L[pos K.L s].sure ++ K.L[pos K.L s].loose).toArray⟩)).setCell ⟨g, pos K.L s * 3 + 2, none⟩ (.string ⟨#[]⟩)) B d { K with L := K.L.set (pos K.L s) ⟨s, K.L[pos K.L s].all, []⟩ } ∧ Gone isDsk B w (((W.setCell ⟨g, pos K.L s * 3, none⟩ (.string ⟨s.toArray⟩)).setCell ⟨g, pos K.L s * 3 + 1, none⟩ (.string ⟨(K.L[pos K.L s].sure ++ K.L[pos K.L s].loose).toArray⟩)).setCell ⟨g, pos K.L s * 3 + 2, none⟩ (.string ⟨#[]⟩)))) := Lib.hid fun W hW => by
      obtain ⟨k1, k2⟩ := (HH.out.below hW).stored hi ⟨s, K.L[pos K.L s].all, []⟩ hok
      exact Lib.hid ⟨⟨_, _, k1⟩, ((Gone.refl isDsk B w).below HB.out hW).trans k2⟩
    clear h h' h0 hn hl hm hok hu HH
    generalize ({ K with L := K.L.set (pos K.L s) ⟨s, K.L[pos K.L s].all, []⟩ } : St) = K2 at *
    generalize K.L[pos K.L s].name = nm at *
    generalize K.L[pos K.L s].sure = a at *
    generalize K.L[pos K.L s].loose = b at *
    clear HI
    generalize pos K.L s = i at *
    go_enter Try.func33, Try.ntmps33
    go_wp2_with (go_at_call 49; refine O.out.mono ?_; rintro e w' ⟨rfl, rfl⟩)
    refine Og.grow 25 (by kernel_rfl) (by kernel_rfl) fun hc hf => ?_
    simp only [List.take_succ_cons, List.take_zero, List.drop_succ_cons, List.drop_zero]
    iterate 25 (refine Og.det [] rfl (fun J hJ => ?_); go_simp; refine hJ _ _ ?_; clear hJ J)
    refine Og.fin fun W hW => ?_
    simp only [Og.opened_nil]
    clear hc hf
    have HE := ST.out W hW
    have e0 := (hW.cell (p := ⟨g, i * 3, none⟩) hgl).trans n0
    have e1 := (hW.cell (p := ⟨g, i * 3 + 1, none⟩) hgl).trans n1
    have e2 := (hW.cell (p := ⟨g, i * 3 + 2, none⟩) hgl).trans n2
    have y0 := hW.frozen (p := ⟨g, i * 3, none⟩) hgl
    have y1 := hW.frozen (p := ⟨g, i * 3 + 1, none⟩) hgl
    have y2 := hW.frozen (p := ⟨g, i * 3 + 2, none⟩) hgl
    go_wp2
    go_ret
    exact ⟨rfl, HE.out⟩
  · have e1 : Dk.sync K s = (K, err K s) := by simp [Dk.sync, h0]
    rw [e1]
    obtain ⟨n, hn, hn0, hO⟩ := ropen_bad h s hs h0
    rw [← hn]
    have O := Lib.hid hO
    have HL := Lib.hid h'
    clear hO h h' hn h0 hs e1
    go_enter Try.func33, Try.ntmps33
    go_wp2_with (go_at_call 49; refine O.out.mono ?_; rintro e w' ⟨rfl, rfl⟩)
    go_ret
    exact ⟨rfl, HL.out, Gone.refl _ _ _⟩
end Go.Proofs.Ytklgiocihknebaa
