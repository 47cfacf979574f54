/- Files. -/
import Derived.Test.YtpafialojcidnaaGreatDoorDkRange
namespace Go.Proofs.YtpafialojcidnaaGreatDoor
open Go.RowKit Go.Maps Dk
set_option linter.unusedVariables false

theorem names_sorted {L : List Fl} (h : Sorted L) : (L.map (·.name)).mergeSort leB = L.map (·.name) := by
  refine List.mergeSort_of_pairwise ?_
  refine List.pairwise_map.2 (List.Pairwise.imp (R := fun a b : Fl => a.name < b.name) (fun {a b} hab => ?_) h)
  simp only [leB, decide_eq_true_eq]
  exact List.le_of_lt hab
theorem names_nodup {L : List Fl} (h : Sorted L) : (L.map (·.name)).Nodup :=
  List.pairwise_map.2 (List.Pairwise.imp (R := fun a b : Fl => a.name < b.name) (fun {a b} hab => slt_ne hab) h)
theorem files_sorted {D : DataW Unit} {L : List Fl} {φ : Str → Nat × Value} (hT : Tells D L φ) (hs : Sorted L) {left : Lit → Bool} {ss : List Str} (hC : Collected D left ss) (hl : ∀ kl, left kl = false) : ss.mergeSort leB = L.map (·.name) := by
  rw [← names_sorted hs]
  refine mergeSort_of_perm ((List.perm_ext_iff_of_nodup hC.1 (names_nodup hs)).2 fun x => ?_)
  rw [hC.2 x, hl, hT.has, has_iff, List.mem_map]
  simp

set_option maxHeartbeats 8000000 in
set_option maxRecDepth 100000 in
theorem files_nil (w : World) {B d : Nat} {K : St} {φ : Str → Nat × Value} (h : Lay w B d K φ (.map none)) :
    Calls Tryz.prog 27 #[.pointer (some ⟨d, 0, none⟩)] w fun e w' => (∃ v, e = .returned v ∧ OwnS w' w.heap.size v (K.L.map (·.name))) ∧ Below w.heap.size w w' := by
  have hL : K.L = [] := by
    rcases h.map with ⟨_, hL⟩ | ⟨m, D, hm, _⟩
    · exact hL
    · cases hm
  rw [hL]
  have hal := bel1 w (.mapIter none 0 #[] 0)
  obtain ⟨⟨c0, _, _, _⟩, _⟩ := box4 h.box
  have R := Lib.hid (run_range_nilMap (P := Tryz.prog) w 63 _ _ Tryz.underlying63)
  have N := Lib.hid (run_next_nilMap (P := Tryz.prog) w 0 0 0 #[])
  have HA := Lib.hid hal
  have S := Lib.hid (sort_any (w.alloc (.mapIter none 0 #[] 0)) (owns_nil (w.alloc (.mapIter none 0 #[] 0)) w.heap.size) (by decide))
  clear h hL hal
  go_enter Tryz.func27, Tryz.ntmps27
  go_wp2_with (at_range; refine wpList_range _ rfl _ _ rfl _ rfl _ _ R.out ?_)
  generalize hw1 : w.alloc (.mapIter none 0 #[] 0) = w1 at *
  refine wp_loop_once ?_
  go_wp2_with (first
    | (at_next; refine wpList_next _ rfl _ rfl _ rfl _ _ N.out ?_)
    | (go_at_call 53; refine S.out.mono ?_; rintro e w2 ⟨rfl, hk1, hk2⟩; have HK1 := Lib.hid hk1; have HK2 := Lib.hid hk2; clear hk1 hk2))
  go_ret
  exact ⟨⟨_, rfl, owns_nil _ _⟩, HA.out.grown HK2.out HA.out.size (fun k hk => by simp [Value.ownBlock] at hk)⟩

set_option maxHeartbeats 8000000 in
set_option maxRecDepth 100000 in
theorem files_map (w : World) {B d m : Nat} {K : St} {φ : Str → Nat × Value} (h : Lay w B d K φ (.map (some m))) :
    Calls Tryz.prog 27 #[.pointer (some ⟨d, 0, none⟩)] w fun e w' => (∃ v, e = .returned v ∧ OwnS w' w.heap.size v (K.L.map (·.name))) ∧ Below w.heap.size w w' := by
  obtain ⟨D, hT, hown⟩ := h.tells
  obtain ⟨w0, hrun, hrg0, hg0, hs0⟩ := hown.range strKey Tryz.underlying63
  have hb0 : Below w.heap.size w w0 := ⟨hg0.os, hg0.tape, hg0.output, hg0.size, fun k hk => hg0.block k hk (by simp)⟩
  obtain ⟨⟨c0, _, _, _⟩, _⟩ := box4 h.box
  obtain ⟨i0, hi, hz0, hz1, hz2⟩ := info_parts str_info
  have HI := Lib.hid (And.intro hi (And.intro hz0 (And.intro hz1 hz2)))
  have HT := Lib.hid hT
  have HO := Lib.hid h.ok
  have hmlt := hown.lt
  have hst : Hid (∃ left cnt ss, w0.ranges Tryz.prog 9 fptr m w.heap.size (Maps.size D) D left cnt ∧ OwnS w0 w.heap.size (.slice none 0 0) ss ∧ Collected D left ss ∧ ss.length + cnt ≤ Maps.size D ∧ Below w.heap.size w w0) :=
    Lib.hid ⟨_, _, [], hrg0, owns_nil _ _, Collected.start D, by simp, hb0⟩
  have R := Lib.hid hrun
  have HM := Lib.hid hmlt
  clear h hT hown hrun hrg0 hg0 hs0 hb0 hi hz0 hz1 hz2 hmlt
  go_enter Tryz.func27, Tryz.ntmps27
  go_wp2_with (at_range; refine wpList_range _ rfl _ _ rfl _ rfl _ _ R.out ?_)
  go_frame
  obtain ⟨r, hr⟩ : ∃ r, w.heap.size = r := ⟨_, rfl⟩
  rw [hr] at hst ⊢
  rw [hr] at HM
  clear R
  have HRW := Lib.hid hr
  clear hr
  go_loopw [3, 4] (fun v _ wr => Hid (∃ left cnt ss, wr.ranges Tryz.prog 9 fptr m r (Maps.size D) D left cnt ∧ OwnS wr r v ss ∧ Collected D left ss ∧ ss.length + cnt ≤ Maps.size D ∧ Below r w wr)) (fun _ _ wr => wr.rangeLeft m r)
  case atStart => exact hst
  case round =>
    obtain ⟨left, cnt, ss, hrg, hS, hC, hcnt, hB⟩ := hrel.out
    have hsz : Maps.size D ≤ 64 := by rw [HT.out.size]; exact HO.out.few
    rcases hrg.next strKey 0 with ⟨_, hl0, hnx⟩ | ⟨key, v, kl, y, w1, cnt1, hkey, hlk, hv, hat, hnx, hrg1, hlt, hg1, hs1, hen⟩
    · have hfin := files_sorted HT.out HO.out.sorted hC hl0
      have S0 := sort_any wr hS (by omega)
      rw [hfin] at S0
      have S := Lib.hid S0
      have N := Lib.hid hnx
      have HB := Lib.hid hB
      have HS := Lib.hid hS
      clear hnx hrg hC hcnt hB hS hrel S0 hfin hsz
      go_wp2_with (first
        | (at_next; refine wpList_next _ rfl _ rfl _ rfl _ _ N.out ?_)
        | (go_at_call 53; refine S.out.mono ?_; rintro e w2 ⟨rfl, hk1, hk2⟩; have HK1 := Lib.hid hk1; have HK2 := Lib.hid hk2; clear hk1 hk2))
      go_ret
      rw [HRW.out]
      exact ⟨⟨_, rfl, HK1.out⟩, HB.out.grown HK2.out (by have := HB.out.size; have := HRW.out; omega) (fun k hk => (HS.out.lt k hk).1)⟩
    · obtain ⟨f, hf, rfl, rfl, rfl⟩ := HT.out.step hkey hv hat
      have hnl := (bad_iff.1 (HO.out.names f hf)).2
      have hS1 : OwnS w1 r _ ss := World.ownsRow.kept hS hg1 (.inr (Ne.symm (row_ne_iter hS hrg)))
      have hB1 : Below r w w1 := hB.grown hg1 (by have := hB.size; have := HRW.out; omega) (fun k hk => by cases hk; exact Nat.le_refl _)
      have hC1 := hC.step hlk hat
      have CL := Lib.hid (clone_any f.name w1 (by omega))
      have N := Lib.hid hnx
      have hsl : ss.length + 1 ≤ 64 := by omega
      have hmr : m < r := HM.out
      have HR1 := Lib.hid hrg1
      have HS1 := Lib.hid hS1
      have HB1 := Lib.hid hB1
      have HC1 := Lib.hid hC1
      have HL1 : Hid (wr.rangeLeft m r = cnt) := Lib.hid hrg.left_eq
      have HCN : Hid (ss.length + 1 + cnt1 ≤ Maps.size D ∧ cnt1 < cnt) := Lib.hid ⟨by omega, hlt⟩
      clear hnx hrg hC hcnt hB hS hrel hkey hlk hv hat hrg1 hlt hg1 hsz hS1 hB1 hC1 hs1
      go_wp2_with (first
        | (at_next; refine wpList_next _ rfl _ rfl _ rfl _ _ N.out ?_)
        | (go_at_call 34; go_loud (refine CL.out.mono ?_; rintro e w2 ⟨rfl, hb2⟩; have HB2 := Lib.hid hb2; have HS2 := Lib.hid (owns_below HS1.out hb2); have hsz2 : r ≤ w2.heap.size := (by (have := HB1.out.size; have := HRW.out; have := hb2.size; omega)); clear hb2))
        | (at_builtin; refine wpList_append_own _ rfl _ _ 22 rfl r 9 i0 (.string ⟨#[]⟩) 1 16 strs_und HI.out.1 HI.out.2.1 HI.out.2.2.1 HI.out.2.2.2 rfl (by decide) _ _ _ rfl (World.ownsRow.alloc HS2.out _) ⟨w2.heap.size, 0, none⟩ 1 1 [.string ⟨f.name.toArray⟩] rfl rfl (by intro j u hj; match j, hj with | 0, hj => simp at hj; subst hj; simp [Addr.add]) (by intro u hu; simp at hu; subst hu; rfl) (by unfold maxLen; omega) (by omega) (by rw [size1]; omega) ?_; intro v' w3 hown' hgrow _; have HO' := Lib.hid hown'; have HG' := Lib.hid hgrow; clear hown' hgrow))
      have HG' : Hid ((w2.alloc (.cells #[.string ⟨f.name.toArray⟩] 9)).grownBy w3 u3.ownBlock) := HG'
      have R' := pushs_step HS2.out (HB1.out.trans (HB2.out.mono (by have := HB1.out.size; have := HRW.out; omega))) hsz2 HO'.out HG'.out
      have hrk : w3.ranges Tryz.prog 9 fptr m r (Maps.size D) D (fun z => left z && !z.sameKey (.string f.name)) cnt1 := by
        refine ranges_kept HR1.out ?_ ?_
        · have h1 := HR1.out.owns.lt
          exact (HG'.out.block m (by rw [size1]; omega) (fun e => by have := (HS2.out.lt m e.symm).1; omega)).trans ((Below.heap_alloc _ _ _ (by omega)).trans (HB2.out.block m h1))
        · have h1 := HR1.out.lt
          have h2 := HB2.out.size
          exact (HG'.out.block r (by rw [size1]; omega) (row_ne_iter HS2.out (ranges_kept HR1.out (HB2.out.block m HR1.out.owns.lt) (HB2.out.block r h1)))).trans ((Below.heap_alloc _ _ _ (by omega)).trans (HB2.out.block r h1))
      have HE : Hid (Hid (∃ left cnt ss, w3.ranges Tryz.prog 9 fptr m r (Maps.size D) D left cnt ∧ OwnS w3 r v' ss ∧ Collected D left ss ∧ ss.length + cnt ≤ Maps.size D ∧ Below r w w3) ∧ w3.rangeLeft m r < wr.rangeLeft m r) :=
        Lib.hid ⟨Lib.hid ⟨_, _, _, hrk, R'.1, HC1.out, by rw [List.length_append]; exact HCN.out.1, R'.2⟩, by rw [hrk.left_eq, HL1.out]; exact HCN.out.2⟩
      clear R' hrk
      go_roundw
      case rel => exact HE.out.1
      case measure => exact HE.out.2

/-- Files. -/
theorem files_any (w : World) {B d : Nat} {K : St} (h : DiskAt w B d K) :
    Calls Tryz.prog 27 #[.pointer (some ⟨d, 0, none⟩)] w fun e w' => (∃ v, e = .returned v ∧ OwnS w' w.heap.size v (K.L.map (·.name))) ∧ Below w.heap.size w w' := by
  obtain ⟨φ, mv, h⟩ := h
  rcases h.map with ⟨rfl, _⟩ | ⟨m, D, rfl, _⟩
  · exact files_nil w h
  · exact files_map w h
end Go.Proofs.YtpafialojcidnaaGreatDoor
