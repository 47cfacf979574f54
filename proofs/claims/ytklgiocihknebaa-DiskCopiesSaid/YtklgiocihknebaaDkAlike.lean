/- Alike: both have the same files. -/
import Derived.Test.YtklgiocihknebaaDkAsks
namespace Go.Proofs.Ytklgiocihknebaa
open Go.RowKit Go.Maps Dk
set_option linter.unusedVariables false

theorem mark0 {W : World} {b : Nat} {cs : Array Value} {T : TypeId} (h : W.heap[b]? = some (.cells cs T (0, 0))) (j : Nat) : W.frozen? ⟨b, j, none⟩ = false := by simp [World.frozen?, h]
theorem box3 {W : World} {b T : Nat} {v0 v1 v2 : Value} (h : W.heap[b]? = some (.cells #[v0, v1, v2] T (0, 0))) : W.cell? ⟨b, 0, none⟩ = some v0 ∧ W.cell? ⟨b, 1, none⟩ = some v1 ∧ W.cell? ⟨b, 2, none⟩ = some v2 := by
  simp [World.cell?, h]
theorem set3_same {W : World} {b T : Nat} {u0 u1 u2 : Value} (h : W.heap[b]? = some (.cells #[u0, u1, u2] T (0, 0))) (v0 v1 v2 : Value) :
    (((W.setCell ⟨b, 0, none⟩ v0).setCell ⟨b, 1, none⟩ v1).setCell ⟨b, 2, none⟩ v2).heap[b]? = some (.cells #[v0, v1, v2] T (0, 0)) := by
  have h1 := heap_setCell_same W b 0 _ T v0 h
  have h2 := heap_setCell_same _ b 1 _ T v1 h1
  have h3 := heap_setCell_same _ b 2 _ T v2 h2
  rw [h3]
  rfl
/-- a row of names that the call made, as it is from k on -/
def RowV (W : World) (B : Nat) (A : Option Addr) (L : List Fl) (k : Nat) : Prop :=
  k < L.length → ∃ g cur, A = some ⟨g, 0, none⟩ ∧ B ≤ g ∧ W.heap[g]? = some (.cells cur 9 (0, 0)) ∧ ∀ j (h : j < L.length), k ≤ j → cur[j]? = some (.string ⟨L[j].name.toArray⟩)
theorem rowv_start {W : World} {B : Nat} {v : Value} {L : List Fl} (h : OwnS W B v (L.map (·.name))) : ∃ A c, v = .slice A L.length c ∧ RowV W B A L 0 := by
  have hl : (L.map (·.name)).length = L.length := List.length_map _
  rcases h.2 with ⟨hv, hn⟩ | ⟨g, cap, cur, hv, hg, hb, _⟩
  · exact ⟨none, 0, by rw [hv, ← hl, hn], fun h0 => by omega⟩
  · subst hv
    refine ⟨_, cap, by rw [hl], fun _ => ⟨g, cur, rfl, hg, hb, fun j hj _ => ?_⟩⟩
    have := World.ownsRow.cellAt h j (by omega)
    rw [cellAt hb] at this
    rw [this]
    simp [strings, hj]
theorem rowv_set {W : World} {B g k : Nat} {cur : Array Value} {L : List Fl} (hB : B ≤ g) (hh : W.heap[g]? = some (.cells cur 9 (0, 0))) (hc : ∀ j (h : j < L.length), k ≤ j → cur[j]? = some (.string ⟨L[j].name.toArray⟩)) (u : Value) :
    RowV (W.setCell ⟨g, k, none⟩ u) B (some ⟨g, 0, none⟩) L (k + 1) := fun _ => ⟨g, _, rfl, hB, heap_setCell_same W g k _ _ u hh, fun j hj hk => by
      rw [Array.getElem?_setIfInBounds_ne (by omega)]
      exact hc j hj (by omega)⟩
theorem size_at {K : St} (ok : Ok K) {k : Nat} (hk : k < K.L.length) : Dk.read K K.L[k].name = (K.L[k].all, 0) ∧ Dk.size K K.L[k].name = (K.L[k].all.length, K.L[k].sure.length, 0) := by
  have hm := List.getElem_mem hk
  have hb := ok.names _ hm
  have hl := look_mem ok.sorted hm
  have he : err0 K K.L[k].name = 0 := by simp [err0, hb, has_mem hm]
  constructor
  · unfold Dk.read; rw [if_pos he, hl]; rfl
  · unfold Dk.size; rw [if_pos he, hl]; rfl
/-- a slice of names that begins so -/
def HeadP (n : Nat) (s : Str) : Og.Ph := fun v W => ∃ g c, v = .slice (some ⟨g, 0, none⟩) n c ∧ W.cell? ⟨g, 0, none⟩ = some (.string ⟨s.toArray⟩)
theorem headP_lasts (n : Nat) (s : Str) : Og.Lasts grows (HeadP n s) := fun _ _ _ ⟨g, c, h1, h2⟩ hr => ⟨g, c, h1, (Below.cell hr (World.block_lt_of_cell? _ _ h2)).trans h2⟩
theorem headP_noBool (n : Nat) (s : Str) : Og.NoBool (HeadP n s) := fun _ _ ⟨_, _, h, _⟩ => by cases h
def CellP (u : Value) : Og.Ph := fun v W => ∃ g, v = .pointer (some ⟨g, 0, none⟩) ∧ W.cell? ⟨g, 0, none⟩ = some u
theorem cellP_lasts (u : Value) : Og.Lasts grows (CellP u) := fun _ _ _ ⟨g, h1, h2⟩ hr => ⟨g, h1, (Below.cell hr (World.block_lt_of_cell? _ _ h2)).trans h2⟩
theorem cellP_noBool (u : Value) : Og.NoBool (CellP u) := fun _ _ ⟨_, h, _⟩ => by cases h
theorem files_call {W : World} {B d : Nat} {K : St} (h : DiskAt W B d K) (hk : 0 < K.L.length) :
    Calls Try.prog 24 #[.pointer (some ⟨d, 0, none⟩)] W fun e w' => ∃ v, e = .returned v ∧ grows.r W w' ∧ HeadP K.L.length K.L[0].name v w' :=
  (files_any W h).mono fun e w' ⟨⟨v, h1, h2⟩, h3⟩ => by
    obtain ⟨A, c, rfl, hr⟩ := rowv_start h2
    obtain ⟨g, cur, rfl, _, hh, hc⟩ := hr hk
    exact ⟨_, h1, h3, g, c, rfl, (cellAt hh 0).trans (hc 0 hk (Nat.le_refl _))⟩

set_option maxHeartbeats 8000000 in
set_option maxRecDepth 100000 in
theorem alike_any (w : World) {B B' d r : Nat} {K : St} (hd : DiskAt w B d K) (hr : RefAt w B' r K) :
    Calls Try.prog 15 #[.pointer (some ⟨d, 0, none⟩), .pointer (some ⟨r, 0, none⟩)] w fun e w' => e = .returned (.bool true) ∧ Below w.heap.size w w' := by
  have ok := hd.ok
  have FI := Lib.hid (files_any w hd)
  have FC : Hid (∀ W, Below w.heap.size w W → ∀ (hk : 0 < K.L.length), Calls Try.prog 24 #[.pointer (some ⟨d, 0, none⟩)] W fun e w' => ∃ v, e = .returned v ∧ grows.r W w' ∧ HeadP K.L.length K.L[0].name v w') :=
    Lib.hid fun W hW hk => files_call (hd.below hW) hk
  have RD : Hid (∀ W, Below w.heap.size w W → ∀ k (hk : k < K.L.length), Calls Try.prog 17 #[.pointer (some ⟨d, 0, none⟩), .string ⟨K.L[k].name.toArray⟩] W fun e w' => e = .returned (.tuple #[.string ⟨K.L[k].all.toArray⟩, .int .i64 0]) ∧ W = w') :=
    Lib.hid fun W hW k hk => by
      have h := read_any W (hd.below hW) K.L[k].name (by have := bad_iff.1 (ok.names _ (List.getElem_mem hk)); omega)
      rw [(size_at ok hk).1] at h
      exact h
  have SZ : Hid (∀ W, Below w.heap.size w W → ∀ k (hk : k < K.L.length), Calls Try.prog 19 #[.pointer (some ⟨d, 0, none⟩), .string ⟨K.L[k].name.toArray⟩] W fun e w' => e = .returned (.tuple #[.int .i64 (K.L[k].all.length : Int), .int .i64 (K.L[k].sure.length : Int), .int .i64 0]) ∧ Below W.heap.size W w') :=
    Lib.hid fun W hW k hk => by
      have h := size_any W (hd.below hW) K.L[k].name (by have := bad_iff.1 (ok.names _ (List.getElem_mem hk)); omega)
      rw [(size_at ok hk).2] at h
      exact h
  obtain ⟨v, q, hR⟩ := hr
  obtain ⟨A, c, rfl⟩ := hR.form
  have rlt := hR.lt
  have RB : Hid (∀ W, Below w.heap.size w W → W.cell? ⟨r, 0, none⟩ = some (.slice A K.L.length c)) := Lib.hid fun W hW => (box4 (hR.below hW).box).1.1
  have RA : Hid (∀ k (hk : k < K.L.length), ∃ g2, A = some ⟨g2, 0, none⟩ ∧ g2 < w.heap.size ∧ ∀ W, Below w.heap.size w W → W.cell? ⟨g2, k * 3, none⟩ = some (.string ⟨K.L[k].name.toArray⟩) ∧ W.cell? ⟨g2, k * 3 + 1, none⟩ = some (.string ⟨K.L[k].sure.toArray⟩) ∧ W.cell? ⟨g2, k * 3 + 2, none⟩ = some (.string ⟨K.L[k].loose.toArray⟩)) := Lib.hid fun k hk => by
    obtain ⟨g, c', e, _, _, hlt, _⟩ := hR.at_ hk
    cases e
    refine ⟨g, rfl, hlt, fun W hW => ?_⟩
    obtain ⟨g', c', e, _, _, _, hc, _⟩ := (hR.below hW).at_ hk
    cases e
    exact hc
  have few := ok.few
  have SM : Hid (∀ k (hk : k < K.L.length), K.L[k].all.length ≤ 4194304 ∧ K.L[k].all = K.L[k].sure ++ K.L[k].loose) := Lib.hid fun k hk => ⟨ok.small _ (List.getElem_mem hk), rfl⟩
  clear hd hR ok
  go_enter Try.func15, Try.ntmps15
  have r0 := RB.out w (Below.refl _ _)
  go_wp2_with (go_at_call 24; refine FI.out.mono ?_; rintro e w1 ⟨⟨v, rfl, ho⟩, hb1⟩; obtain ⟨A1, c1, rfl, hv1⟩ := rowv_start ho; have HV := Lib.hid hv1; have HB1 := Lib.hid hb1; clear r0 ho hv1; have r0 := RB.out w1 hb1; clear hb1)
  go_loopw [6] (fun i wr => ∃ k : Nat, k ≤ K.L.length ∧ i = .int .i64 k ∧ Hid (Below w.heap.size w wr) ∧ Hid (RowV wr w.heap.size A1 K.L k)) (fun i _ => K.L.length - (intOf i).toNat)
  case atStart => exact ⟨0, Nat.zero_le _, rfl, HB1, HV⟩
  case round =>
    obtain ⟨k, hk, rfl, HB, HV2⟩ := hrel
    clear HV HB1 r0
    by_cases hlt : k < K.L.length
    · have hlt' : (k : Int) < (K.L.length : Int) := by omega
      obtain ⟨g, cur, rfl, hg, hh, hcur⟩ := HV2.out hlt
      obtain ⟨g2, rfl, hg2, hcs⟩ := RA.out k hlt
      have RDK := Lib.hid (RD.out wr HB.out k hlt)
      have SZK := Lib.hid (SZ.out wr HB.out k hlt)
      have hsum := sum_two K.L[k].sure K.L[k].loose (by have := SM.out k hlt; rw [this.2, List.length_append] at this; omega)
      have hsm := (SM.out k hlt).1
      rw [← (SM.out k hlt).2] at hsum
      have hck := hcur k hlt (Nat.le_refl _)
      have RX : Hid (∀ W, Below w.heap.size w W → Below wr.heap.size wr W → W.cell? ⟨r, 0, none⟩ = some (.slice (some ⟨g2, 0, none⟩) K.L.length c) ∧ W.cell? ⟨g2, k * 3, none⟩ = some (.string ⟨K.L[k].name.toArray⟩) ∧ W.cell? ⟨g2, k * 3 + 1, none⟩ = some (.string ⟨K.L[k].sure.toArray⟩) ∧ W.cell? ⟨g2, k * 3 + 2, none⟩ = some (.string ⟨K.L[k].loose.toArray⟩) ∧
          W.cell? ⟨g, k, none⟩ = some (.string ⟨K.L[k].name.toArray⟩) ∧ W.frozen? ⟨g, k, none⟩ = false ∧ g < W.heap.size ∧ W.heap[g]? = some (.cells cur 9 (0, 0))) := Lib.hid fun W hW hW' => by
        have h1 := (hW'.block g (heap_lt hh)).trans hh
        obtain ⟨a1, a2, a3⟩ := hcs W hW
        exact ⟨RB.out W hW, a1, a2, a3, (cellAt h1 k).trans hck, mark0 h1 k, heap_lt h1, h1⟩
      have RN : Hid (∀ W : World, W.heap[g]? = some (.cells cur 9 (0, 0)) → ∀ u, RowV (W.setCell ⟨g, k, none⟩ u) w.heap.size (some ⟨g, 0, none⟩) K.L (k + 1)) := Lib.hid fun W hW u => rowv_set hg hW hcur u
      clear hcur hh HV2 hck hcs RD SZ FI FC RB RA SM
      obtain ⟨b0, b1, b2, b3, b4, b5, b6, b7⟩ := RX.out wr HB.out (Below.refl _ _)
      generalize K.L[k].all = al at *
      generalize K.L[k].name = nm at *
      generalize K.L[k].sure = su at *
      generalize K.L[k].loose = lo at *
      clear b7
      go_wp2_with (first
        | (go_at_call 17; refine RDK.out.mono ?_; rintro e w2 ⟨rfl, rfl⟩)
        | (go_at_call 19; refine SZK.out.mono ?_; rintro e w3 ⟨rfl, hb3⟩; have B3 := Lib.hid (HB.out.trans (hb3.mono HB.out.size)); have B3' := Lib.hid hb3; clear b0 b1 b2 b3 b4 b5 b6 hb3; obtain ⟨b0, b1, b2, b3, b4, b5, b6, b7⟩ := RX.out w3 B3.out B3'.out; clear b7))
      have hx := at1 w3 (.cells #[.string ⟨nm.toArray⟩, .string ⟨su.toArray⟩, .string ⟨lo.toArray⟩] 70)
      have hal := bel1 w3 (.cells #[.string ⟨nm.toArray⟩, .string ⟨su.toArray⟩, .string ⟨lo.toArray⟩] 70)
      have B4 := Lib.hid (B3.out.trans (hal.mono B3.out.size))
      have B4' := Lib.hid (B3'.out.trans (hal.mono B3'.out.size))
      generalize hw4 : w3.alloc (.cells #[.string ⟨nm.toArray⟩, .string ⟨su.toArray⟩, .string ⟨lo.toArray⟩] 70) = w4 at *
      clear b0 b1 b2 b3 b4 b5 b6 hw4 hal
      obtain ⟨b0, b1, b2, b3, b4, b5, b6, b7⟩ := RX.out w4 B4.out B4'.out
      obtain ⟨x0, x1, x2⟩ := box3 hx
      have xlt : w3.heap.size < w4.heap.size := heap_lt hx
      generalize hxb : w3.heap.size = xb at *
      clear b0 b1 b2 b3 b7 hx hxb RDK SZK
      refine Og.grow 37 (by kernel_rfl) (by kernel_rfl) fun hc hf => ?_
      simp only [List.take_succ_cons, List.take_zero, List.drop_succ_cons, List.drop_zero]
      iterate 37 (refine Og.det [] rfl (fun J hJ => ?_); go_simp; refine hJ _ _ ?_; clear hJ J)
      refine Og.fin fun W hW => ?_
      simp only [Og.opened_nil]
      clear hc hf b4 b5 b6 x0 x1 x2 xlt
      obtain ⟨b0, b1, b2, b3, b4, b5, b6, b7⟩ := RX.out W (B4.out.trans (hW.mono B4.out.size)) (B4'.out.trans (hW.mono B4'.out.size))
      have HE : Hid (Hid (Below w.heap.size w (W.setCell ⟨g, k, none⟩ (.string ⟨#[115, 112, 111, 105, 108, 116]⟩))) ∧ Hid (RowV (W.setCell ⟨g, k, none⟩ (.string ⟨#[115, 112, 111, 105, 108, 116]⟩)) w.heap.size (some ⟨g, 0, none⟩) K.L (k + 1))) :=
        Lib.hid ⟨Lib.hid ((B4.out.trans (hW.mono B4.out.size)).setCell hg _), Lib.hid (RN.out W b7 _)⟩
      clear b0 b1 b2 b3 b7 hW
      go_wp2
      go_roundw
      case rel => exact ⟨k + 1, by omega, by go_num, HE.out⟩
      case measure => simp [intOf]; omega
    · have hlt' : ¬ (k : Int) < (K.L.length : Int) := by omega
      by_cases h0 : 0 < K.L.length
      · have h0' : ((K.L.length : Int) == 0) = false := by rw [beq_eq_false_iff_ne]; omega
        have h0'' : (0 : Int) < (K.L.length : Int) := by omega
        obtain ⟨g2, rfl, hg2, hcs⟩ := RA.out 0 h0
        have FH := Lib.hid (fun W hW => FC.out W hW h0)
        have HW : Hid (∀ W, Below w.heap.size w W → W.cell? ⟨g2, 0, none⟩ = some (.string ⟨K.L[0].name.toArray⟩)) := Lib.hid (fun W hW => by have := (hcs W hW).1; rwa [Nat.zero_mul] at this)
        have r0 := RB.out wr HB.out
        have r1 := HW.out wr HB.out
        have rlt' := Nat.lt_of_lt_of_le rlt HB.out.size
        have glt' := Nat.lt_of_lt_of_le hg2 HB.out.size
        clear FC RD SZ RB RA SM FI HV2 hcs
        generalize K.L[0].name = nm at *
        go_wp2
        refine Og.grow 17 (by kernel_rfl) (by kernel_rfl) fun hc hf => ?_
        simp only [List.take_succ_cons, List.take_zero, List.drop_succ_cons, List.drop_zero]
        iterate 5 (refine Og.det [] rfl (fun J hJ => ?_); go_simp; refine hJ _ _ ?_; clear hJ J)
        refine Og.such 100 (HeadP K.L.length nm) [] rfl (headP_lasts _ _) (headP_noBool _ _) (fun J hJ => ?_)
        go_simp
        refine ⟨fun p => FH.out _ (HB.out.trans ((lat_below p).mono HB.out.size)), hJ _ _ ?_⟩
        clear hJ J
        refine Og.such 101 (CellP (.string ⟨nm.toArray⟩)) [(100, HeadP K.L.length nm)] rfl (cellP_lasts _) (cellP_noBool _) (fun J hJ => ?_)
        go_simp
        refine ⟨fun p => ?_, hJ _ _ ?_⟩
        · rintro v ⟨g, c, rfl, hcell⟩
          go_simp
          exact ⟨g, rfl, hcell⟩
        clear hJ J
        refine Og.det [(101, CellP (.string ⟨nm.toArray⟩))] rfl (fun J hJ => ?_)
        go_simp
        refine ⟨.string ⟨nm.toArray⟩, fun p => ?_, hJ _ _ ?_⟩
        · rintro v ⟨g, rfl, hcell⟩
          go_simp
        clear hJ J
        iterate 9 (refine Og.det [] rfl (fun J hJ => ?_); go_simp; refine hJ _ _ ?_; clear hJ J)
        refine Og.fin fun W hW => ?_
        simp only [Og.opened_cons, Og.opened_nil]
        intro v101 _ v100 _
        clear hc hf
        have HE := Lib.hid (HB.out.trans (hW.mono HB.out.size))
        go_wp2
        go_ret
        exact ⟨rfl, HE.out⟩
      · have h0' : ((K.L.length : Int) == 0) = true := by rw [beq_iff_eq]; omega
        clear FC RD SZ RB RA SM FI HV2
        go_wp2
        refine Og.grow 17 (by kernel_rfl) (by kernel_rfl) fun hc hf => ?_
        simp only [List.take_succ_cons, List.take_zero, List.drop_succ_cons, List.drop_zero]
        iterate 4 (refine Og.det [] rfl (fun J hJ => ?_); go_simp; refine hJ _ _ ?_; clear hJ J)
        generalize hvt : Value.bool true = vt
        iterate 13 (refine Og.det [] rfl (fun J hJ => ?_); (try subst hvt); go_simp; generalize hvt : Value.bool true = vt; refine hJ _ _ ?_; clear hJ J)
        subst hvt
        refine Og.fin fun W hW => ?_
        simp only [Og.opened_nil]
        clear hc hf
        have HE := Lib.hid (HB.out.trans (hW.mono HB.out.size))
        go_wp2
        go_ret
        exact ⟨rfl, HE.out⟩
end Go.Proofs.Ytklgiocihknebaa
