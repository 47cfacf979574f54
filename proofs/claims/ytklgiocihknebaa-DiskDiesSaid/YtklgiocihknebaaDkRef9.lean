/- The document's Crash, Copy. -/
import Derived.Test.YtklgiocihknebaaDkRef8
namespace Go.Proofs.Ytklgiocihknebaa
open Go.RowKit Go.Maps Dk
set_option linter.unusedVariables false

theorem upto_at {L : List Fl} {k : Nat} (hk : k < L.length) (n : Int) : ∃ h : k < ((L.take k).map (kept n) ++ L.drop k).length, ((L.take k).map (kept n) ++ L.drop k)[k] = L[k] := by
  have hl : ((L.take k).map (kept n)).length = k := by rw [List.length_map, List.length_take]; omega
  refine ⟨by rw [List.length_append, hl, List.length_drop]; omega, ?_⟩
  rw [List.getElem_append_right (by rw [hl]; exact Nat.le_refl _)]
  simp only [hl, Nat.sub_self, List.getElem_drop, Nat.add_zero]
theorem upto_len (L : List Fl) (k : Nat) (n : Int) : ((L.take k).map (kept n) ++ L.drop k).length = L.length := by
  rw [List.length_append, List.length_map, List.length_take, List.length_drop]; omega
theorem upto_set {L : List Fl} {k : Nat} (hk : k < L.length) (n : Int) : ((L.take k).map (kept n) ++ L.drop k).set k (kept n L[k]) = (L.take (k + 1)).map (kept n) ++ L.drop (k + 1) := by
  have hl : ((L.take k).map (kept n)).length = k := by rw [List.length_map, List.length_take]; omega
  rw [List.set_append_right _ _ (by rw [hl]; exact Nat.le_refl _), hl, Nat.sub_self, List.drop_eq_getElem_cons hk, List.set_cons_zero, List.take_succ_eq_append_getElem hk, List.map_append, List.append_assoc]
  rfl
theorem upto_names (L : List Fl) (k : Nat) (n : Int) : ((L.take k).map (kept n) ++ L.drop k).map (·.name) = L.map (·.name) := by
  rw [List.map_append, kept_names, ← List.map_append, List.take_append_drop]
theorem upto_ok {K : St} (h : Ok K) (k : Nat) (n : Int) : Ok ⟨(K.L.take k).map (kept n) ++ K.L.drop k, none, false⟩ := by
  have hc := ok_crash h n
  refine ⟨sorted_names h.sorted (upto_names K.L k n), fun f hf => ?_, fun _ e => (by cases e), ?_, fun f hf => ?_⟩
  · rcases List.mem_append.1 hf with hf | hf
    · obtain ⟨a, ha, rfl⟩ := List.mem_map.1 hf
      exact h.names a (List.mem_of_mem_take ha)
    · exact h.names f (List.mem_of_mem_drop hf)
  · show List.length _ ≤ 64
    rw [upto_len]; exact h.few
  · rcases List.mem_append.1 hf with hf | hf
    · obtain ⟨a, ha, rfl⟩ := List.mem_map.1 hf
      exact hc.small _ (List.mem_map.2 ⟨a, List.mem_of_mem_take ha, rfl⟩)
    · exact h.small f (List.mem_of_mem_drop hf)

set_option maxHeartbeats 16000000 in
set_option maxRecDepth 100000 in
theorem rcrash_any (w : World) {B d : Nat} {K : St} (h : RefAt w B d K) (n : Int) (hn : -9223372036854775808 ≤ n ∧ n ≤ 9223372036854775807) :
    Calls Try.prog 37 #[.pointer (some ⟨d, 0, none⟩), .int .i64 n] w fun e w' => e = .returned (.tuple #[]) ∧ RefAt w' B d (Dk.crash K n) ∧ Gone isDsk B w w' := by
  obtain ⟨v, q, h⟩ := h
  have HOK := Lib.hid h.ok
  have hB : B ≤ w.heap.size := Nat.le_trans h.base (Nat.le_of_lt h.lt)
  have b1 := heap_setCell_same w d 1 _ _ (.bool false) h.box
  have b2 := heap_setCell_same _ d 3 _ _ (.bool false) b1
  obtain ⟨_, _, z1, _, _⟩ := box4 h.box
  obtain ⟨⟨_, y1, y2, y3⟩, _, _, _, z3⟩ := box4 b1
  obtain ⟨⟨_, x1, x2, x3⟩, _⟩ := box4 h.box
  have g2 := ((Gone.refl isDsk B w).set (i := 1) h.box (isDsk_r _) h.base (.bool false)).set (i := 3) b1 (isDsk_r _) h.base (.bool false)
  have h2 : RLay ((w.setCell ⟨d, 1, none⟩ (.bool false)).setCell ⟨d, 3, none⟩ (.bool false)) B d ⟨(K.L.take 0).map (kept n) ++ K.L.drop 0, none, false⟩ v q :=
    h.turn (K' := ⟨(K.L.take 0).map (kept n) ++ K.L.drop 0, none, false⟩) (by simp) (upto_ok h.ok 0 n) (fun _ e => (by cases e)) (fun b _ hb => (Below.heap_setCell _ _ _ _ hb).trans (Below.heap_setCell _ _ _ _ hb)) b2
  have H2 := Lib.hid h2
  have G2 := Lib.hid g2
  have HB := Lib.hid hB
  clear h h2 g2 b1 b2 hB
  go_enter Try.func37, Try.ntmps37
  go_wp2
  generalize (w.setCell ⟨d, 1, none⟩ (.bool false)).setCell ⟨d, 3, none⟩ (.bool false) = w1 at *
  go_loopw [4, 5] (fun i _ wr => ∃ k : Nat, k ≤ K.L.length ∧ i = .int .i64 k ∧ Hid (RLay wr B d ⟨(K.L.take k).map (kept n) ++ K.L.drop k, none, false⟩ v q) ∧ Hid (Gone isDsk B w wr)) (fun i _ _ => K.L.length - (intOf i).toNat)
  case atStart => exact ⟨0, Nat.zero_le _, rfl, H2, G2⟩
  case round =>
    obtain ⟨k, hk, rfl, hr, hg⟩ := hrel
    clear H2 G2 y1 y2 y3 z1 z3 x1 x2 x3
    have hfew := HOK.out.few
    obtain ⟨A', c', hform⟩ := hr.out.form
    obtain ⟨⟨c0, _, _, _⟩, _⟩ := box4 hr.out.box
    simp only [upto_len] at hform
    have hd := hr.out.lt
    by_cases hlt : k < K.L.length
    · obtain ⟨hpl, hpe⟩ := upto_at hlt n
      obtain ⟨g, c, hv, _, _, hgl, ⟨n0, n1, n2⟩, y0, y1, y2⟩ := hr.out.at_ (i := k) hpl
      simp only [upto_len] at hv
      simp only [hpe] at n0 n1 n2
      rw [hv] at c0
      have hsm := small_parts HOK.out (List.getElem_mem hlt)
      obtain ⟨s1, s2, s3⟩ := hsm
      have hsz : B ≤ wr.heap.size := Nat.le_trans HB.out hg.out.size
      have ST : Hid (∀ W, Below wr.heap.size wr W → Hid (RLay (((W.setCell ⟨g, k * 3, none⟩ (.string ⟨K.L[k].name.toArray⟩)).setCell ⟨g, k * 3 + 1, none⟩ (.string ⟨(K.L[k].sure ++ K.L[k].loose.take n.toNat).toArray⟩)).setCell ⟨g, k * 3 + 2, none⟩ (.string ⟨#[]⟩)) B d ⟨(K.L.take (k + 1)).map (kept n) ++ K.L.drop (k + 1), none, false⟩ v q ∧ Gone isDsk B w (((W.setCell ⟨g, k * 3, none⟩ (.string ⟨K.L[k].name.toArray⟩)).setCell ⟨g, k * 3 + 1, none⟩ (.string ⟨(K.L[k].sure ++ K.L[k].loose.take n.toNat).toArray⟩)).setCell ⟨g, k * 3 + 2, none⟩ (.string ⟨#[]⟩)))) := Lib.hid fun W hW => by
        have hrW := hr.out.below hW
        rw [hv] at hrW
        have hok : Ok ⟨((K.L.take k).map (kept n) ++ K.L.drop k).set k (kept n K.L[k]), none, false⟩ := by rw [upto_set hlt]; exact upto_ok HOK.out (k + 1) n
        have hrW' : RLay W B d ⟨(K.L.take k).map (kept n) ++ K.L.drop k, none, false⟩ (.slice (some ⟨g, 0, none⟩) ((K.L.take k).map (kept n) ++ K.L.drop k).length c) q := by rw [upto_len]; exact hrW
        obtain ⟨k1, k2⟩ := hrW'.stored (i := k) hpl (kept n K.L[k]) hok
        dsimp only at k1
        rw [upto_set hlt, upto_len] at k1
        rw [hv]
        exact Lib.hid ⟨k1, (hg.out.below hsz hW).trans k2⟩
      have hlt' : (k : Int) < (K.L.length : Int) := by omega
      clear hr hg hform hpe hpl hsz
      by_cases hn0 : n ≤ 0
      · have hu : K.L[k].loose.take n.toNat = [] := by rw [show n.toNat = 0 by omega]; rfl
        have S := sum_two K.L[k].sure [] (by simp; omega)
        rw [List.append_nil] at S
        rw [hu, List.append_nil] at ST
        clear hu hv
        generalize K.L[k].name = nm at *
        generalize K.L[k].sure = a at *
        generalize K.L[k].loose = b at *
        have S' : ∀ W : World, (Op.stringOp .add ⟨a.toArray⟩ ⟨#[]⟩).run Try.prog W = .ok (.string ⟨a.toArray⟩) W := S
        go_wp2
        refine Og.grow 25 (by kernel_rfl) (by kernel_rfl) fun hc hf => ?_
        simp only [List.take_succ_cons, List.take_zero, List.drop_succ_cons, List.drop_zero]
        iterate 25 (refine Og.det [] rfl (fun J hJ => ?_); go_simp; refine hJ _ _ ?_; clear hJ J)
        refine Og.fin fun W hW => ?_
        simp only [Og.opened_nil]
        clear hc hf
        have HE := ST.out W hW
        have e0 := (hW.cell (p := ⟨g, k * 3, none⟩) hgl).trans n0
        have e1 := (hW.cell (p := ⟨g, k * 3 + 1, none⟩) hgl).trans n1
        have e2 := (hW.cell (p := ⟨g, k * 3 + 2, none⟩) hgl).trans n2
        have w0 := (hW.frozen (p := ⟨g, k * 3, none⟩) hgl).trans y0
        have w1' := (hW.frozen (p := ⟨g, k * 3 + 1, none⟩) hgl).trans y1
        have w2' := (hW.frozen (p := ⟨g, k * 3 + 2, none⟩) hgl).trans y2
        go_wp2
        go_roundw
        case rel => exact ⟨k + 1, by omega, by go_num, Lib.hid HE.out.1, Lib.hid HE.out.2⟩
        case measure => simp [intOf]; omega
      · by_cases hnl : n < (K.L[k].loose.length : Int)
        · obtain ⟨m, rfl⟩ : ∃ m : Nat, n = (m : Int) := ⟨n.toNat, by omega⟩
          rw [show ((m : Int)).toNat = m by omega] at ST
          have xx := cut_to K.L[k].loose m
          have hml : m ≤ K.L[k].loose.length := by omega
          have S := sum_two K.L[k].sure (K.L[k].loose.take m) (by rw [List.length_take]; omega)
          clear hv
          generalize List.take m K.L[k].loose = u at *
          generalize K.L[k].name = nm at *
          generalize K.L[k].sure = a at *
          generalize K.L[k].loose = b at *
          go_wp2
          refine Og.grow 25 (by kernel_rfl) (by kernel_rfl) fun hc hf => ?_
          simp only [List.take_succ_cons, List.take_zero, List.drop_succ_cons, List.drop_zero]
          iterate 25 (refine Og.det [] rfl (fun J hJ => ?_); go_simp; refine hJ _ _ ?_; clear hJ J)
          refine Og.fin fun W hW => ?_
          simp only [Og.opened_nil]
          clear hc hf
          have HE := ST.out W hW
          have e0 := (hW.cell (p := ⟨g, k * 3, none⟩) hgl).trans n0
          have e1 := (hW.cell (p := ⟨g, k * 3 + 1, none⟩) hgl).trans n1
          have e2 := (hW.cell (p := ⟨g, k * 3 + 2, none⟩) hgl).trans n2
          have w0 := (hW.frozen (p := ⟨g, k * 3, none⟩) hgl).trans y0
          have w1' := (hW.frozen (p := ⟨g, k * 3 + 1, none⟩) hgl).trans y1
          have w2' := (hW.frozen (p := ⟨g, k * 3 + 2, none⟩) hgl).trans y2
          go_wp2
          go_roundw
          case rel => exact ⟨k + 1, by omega, by go_num, Lib.hid HE.out.1, Lib.hid HE.out.2⟩
          case measure => simp [intOf]; omega
        · have hu : K.L[k].loose.take n.toNat = K.L[k].loose := List.take_of_length_le (by omega)
          have S := sum_two K.L[k].sure K.L[k].loose (by omega)
          rw [hu] at ST
          clear hu hv
          generalize K.L[k].name = nm at *
          generalize K.L[k].sure = a at *
          generalize K.L[k].loose = b at *
          go_wp2
          refine Og.grow 25 (by kernel_rfl) (by kernel_rfl) fun hc hf => ?_
          simp only [List.take_succ_cons, List.take_zero, List.drop_succ_cons, List.drop_zero]
          iterate 25 (refine Og.det [] rfl (fun J hJ => ?_); go_simp; refine hJ _ _ ?_; clear hJ J)
          refine Og.fin fun W hW => ?_
          simp only [Og.opened_nil]
          clear hc hf
          have HE := ST.out W hW
          have e0 := (hW.cell (p := ⟨g, k * 3, none⟩) hgl).trans n0
          have e1 := (hW.cell (p := ⟨g, k * 3 + 1, none⟩) hgl).trans n1
          have e2 := (hW.cell (p := ⟨g, k * 3 + 2, none⟩) hgl).trans n2
          have w0 := (hW.frozen (p := ⟨g, k * 3, none⟩) hgl).trans y0
          have w1' := (hW.frozen (p := ⟨g, k * 3 + 1, none⟩) hgl).trans y1
          have w2' := (hW.frozen (p := ⟨g, k * 3 + 2, none⟩) hgl).trans y2
          go_wp2
          go_roundw
          case rel => exact ⟨k + 1, by omega, by go_num, Lib.hid HE.out.1, Lib.hid HE.out.2⟩
          case measure => simp [intOf]; omega
    · have hkl : k = K.L.length := by omega
      have HE : Hid (RefAt wr B d (Dk.crash K n)) := Lib.hid ⟨v, q, by
        have := hr.out
        rw [hkl, List.take_length, List.drop_length, List.append_nil] at this
        exact this⟩
      have hnl : ¬ (k : Int) < (K.L.length : Int) := by omega
      rw [hform] at c0
      clear hr hkl hform
      go_wp2
      go_end0
      exact ⟨rfl, HE.out, hg.out⟩
end Go.Proofs.Ytklgiocihknebaa
