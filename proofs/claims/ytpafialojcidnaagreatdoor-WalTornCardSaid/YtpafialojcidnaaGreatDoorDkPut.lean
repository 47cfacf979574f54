/- put: what it does to the map. -/
import Derived.Test.YtpafialojcidnaaGreatDoorDkCode
import Derived.Test.YtpafialojcidnaaGreatDoorDkLib
namespace Go.Proofs.YtpafialojcidnaaGreatDoor
open Go.RowKit Go.Maps Dk
set_option linter.unusedVariables false

/-- the names behind it, and where their files lie -/
structure Puts (L L' : List Fl) (φ φ' : Str → Nat × Value) (s : Str) (f : Nat) : Prop where
  has : ∀ t, Dk.has L' t = (Dk.has L t || (t == s))
  len : L'.length = if Dk.has L s then L.length else L.length + 1
  at_ : ∀ a ∈ L', (φ' a.name).1 = if a.name = s then f else (φ a.name).1
theorem puts_more {L : List Fl} {φ : Str → Nat × Value} {x : Fl} {y : Nat × Value} (h : Dk.has L x.name = false) : Puts L (ins L x) φ (up φ x.name y) x.name y.1 := by
  refine ⟨ins_has L x, by rw [ins_len, h]; rfl, fun a _ => ?_⟩
  by_cases ha : a.name = x.name
  · rw [ha, up_same, if_pos rfl]
  · rw [up_other ha, if_neg ha]
theorem puts_same {L : List Fl} {φ : Str → Nat × Value} {s : Str} (h : Dk.has L s = true) : Puts L L φ φ s (φ s).1 := by
  refine ⟨fun t => ?_, by rw [h]; rfl, fun a _ => ?_⟩
  · by_cases ht : t = s
    · rw [ht, h]; rfl
    · simp [ht]
  · by_cases ha : a.name = s
    · rw [if_pos ha, ha]
    · rw [if_neg ha]
theorem MapAt.put {W : World} {B m : Nat} {L L' : List Fl} {φ φ' : Str → Nat × Value} {s : Str} {f : Nat} (h : MapAt W B (.map (some m)) L φ) (hs : s.length ≤ 9223372036854775807) (hl : L.length ≤ 64) (hp : Puts L L' φ φ' s f) :
    ∃ W', (Instr.mapUpdate 63 (.map (some m)) (.string ⟨s.toArray⟩) (.pointer (some ⟨f, 0, none⟩))).run Tryz.prog W = .ok () W' ∧ MapAt W' B (.map (some m)) L' φ' ∧ W.grownBy W' (some m) := by
  rcases h with ⟨h, _⟩ | ⟨m', D, h0, h1, h2, h3, h4, h5⟩
  · cases h
  · cases h0
    have hk := key_str s hs
    have hK := strKey.key hk
    have ht := h2.tidy strKey
    have hm := ht.isMap
    obtain ⟨W', hrun, hown, hgr⟩ := h2.update strKey Tryz.underlying63 (by rw [h3]; show _ < 9223372036854775807; omega) hk (fptr_at f)
    have hsz : Maps.size (D.put (.string s) (.lit (.int .i64 (f : Int)))) = L'.length := by
      rw [size_put ht, hp.len, h4, h3]
    refine ⟨W', hrun, .inr ⟨m, _, rfl, h1, own_tight hown, hsz, fun t => ?_, fun a ha => ?_⟩, hgr⟩
    · rw [hp.has]
      by_cases hts : t = s
      · rw [hts, has_put_same hm hK]; simp
      · rw [has_put_other (fun e => hts (by injection e)), h4]; simp [hts]
    · rw [hp.at_ a ha]
      by_cases has : a.name = s
      · rw [has, if_pos rfl, atKey_put_same hm hK]
      · have hh : Dk.has L a.name = true := by
          have := hp.has a.name
          rw [has_mem ha] at this
          simpa [has] using this.symm
        obtain ⟨c, hc, hcn⟩ := has_iff.1 hh
        rw [if_neg has, atKey_put_other (fun e => has (by injection e)), ← hcn, h5 c hc]

theorem eqlSome (m : Nat) (w : World) : (binOp .eql 63 (.map (some m)) (.map none)).run Tryz.prog w = .ok (.bool false) w := by kernel_rfl
theorem eqlNil (w : World) : (binOp .eql 63 (.map none) (.map none)).run Tryz.prog w = .ok (.bool true) w := by kernel_rfl
set_option maxHeartbeats 2000000 in
set_option maxRecDepth 100000 in
theorem put_at (w : World) {B d m f : Nat} {L L' : List Fl} {φ φ' : Str → Nat × Value} {s : Str} {v1 v2 v3 : Value} (hbox : w.heap[d]? = some (.cells #[.map (some m), v1, v2, v3] 65 (0, 0))) (h : MapAt w B (.map (some m)) L φ) (hs : s.length ≤ 140737488351232) (hl : L.length ≤ 64) (hp : Puts L L' φ φ' s f) :
    Calls Tryz.prog 38 #[.pointer (some ⟨d, 0, none⟩), .string ⟨s.toArray⟩, .pointer (some ⟨f, 0, none⟩)] w fun e w' => e = .returned (.tuple #[]) ∧ MapAt w' B (.map (some m)) L' φ' ∧ w.grownBy w' (some m) := by
  have C := Lib.hid (fun W => clone_any s W hs)
  obtain ⟨⟨c0, _, _, _⟩, _⟩ := box4 hbox
  have hd := heap_lt hbox
  have hmlt := heap_lt h.block.2.choose_spec.choose_spec
  have HM := Lib.hid h
  have HP := Lib.hid hp
  clear h hp hbox
  have q0 := eqlSome m
  go_enter Tryz.func38, Tryz.ntmps38
  go_wp2
  refine Og.grow 7 (by kernel_rfl) (by kernel_rfl) fun hc hf => ?_
  simp only [List.take_succ_cons, List.take_zero, List.drop_succ_cons, List.drop_zero]
  iterate 7 (refine Og.det [] rfl (fun J hJ => ?_); go_simp; first | (with_reducible refine ⟨_, fun p => Og.lays (C.out _), hJ _ _ ?_⟩) | (refine hJ _ _ ?_); clear hJ J)
  refine Og.fin fun W hW => ?_
  simp only [Og.opened_nil]
  clear hc hf
  obtain ⟨W', hrun, hmap, hgr⟩ := MapAt.put (HM.out.kept fun m' hm' => hW.block m' (by cases hm'; exact hmlt)) (by omega) hl HP.out
  have H := Lib.hid hmap
  have G := Lib.hid hgr
  clear hmap hgr hmlt
  go_wp2
  go_end0
  exact ⟨rfl, H.out, ⟨G.out.os.trans hW.os, G.out.tape.trans hW.tape, G.out.output.trans hW.output, Nat.le_trans hW.size G.out.size, fun k hk hne => (G.out.block k (Nat.lt_of_lt_of_le hk hW.size) hne).trans (hW.block k hk)⟩⟩

theorem mapAt_empty (w : World) {B : Nat} {φ : Str → Nat × Value} (hB : B ≤ w.heap.size) : MapAt (w.alloc (.map #[] 0)) B (.map (some w.heap.size)) [] φ :=
  .inr ⟨w.heap.size, .map [], rfl, hB, World.ownsMap_made w _ _ _, rfl, fun _ => rfl, fun _ h => (by cases h)⟩
set_option maxHeartbeats 2000000 in
set_option maxRecDepth 100000 in
theorem put_nil (w : World) {B d f : Nat} {L' : List Fl} {φ φ' : Str → Nat × Value} {s : Str} {v1 v2 v3 : Value} (hbox : w.heap[d]? = some (.cells #[.map none, v1, v2, v3] 65 (0, 0))) (hB : B ≤ w.heap.size) (hs : s.length ≤ 140737488351232) (hp : Puts [] L' φ φ' s f) :
    Calls Tryz.prog 38 #[.pointer (some ⟨d, 0, none⟩), .string ⟨s.toArray⟩, .pointer (some ⟨f, 0, none⟩)] w fun e w' => e = .returned (.tuple #[]) ∧ MapAt w' B (.map (some w.heap.size)) L' φ' ∧ w'.heap[d]? = some (.cells #[.map (some w.heap.size), v1, v2, v3] 65 (0, 0)) ∧ w.grownBy w' (some d) := by
  have C := Lib.hid (fun W => clone_any s W hs)
  obtain ⟨⟨c0, _, _, _⟩, f0, _, _, _⟩ := box4 hbox
  have hd := heap_lt hbox
  have HP := Lib.hid hp
  have HB := Lib.hid hbox
  have mk := @run_makeMap Tryz.prog
  clear hp hbox
  have q0 := eqlNil
  go_enter Tryz.func38, Tryz.ntmps38
  go_wp2
  have hne : d ≠ w.heap.size := Nat.ne_of_lt hd
  have es : (w.setCell ⟨d, 0, none⟩ (.map (some w.heap.size))).heap.size = w.heap.size := by simp [World.setCell]
  have b1 := (Below.heap_alloc (w.setCell ⟨d, 0, none⟩ (.map (some w.heap.size))) (.map #[] 0) d (by rw [es]; exact hd)).trans (heap_setCell_same w d 0 _ _ (.map (some w.heap.size)) HB.out)
  have HM1 := mapAt_empty (B := B) (w.setCell ⟨d, 0, none⟩ (.map (some w.heap.size))) (φ := φ) (by rw [es]; exact hB)
  rw [es] at HM1
  have HM1 := Lib.hid HM1
  have G1 : Hid (w.grownBy ((w.setCell ⟨d, 0, none⟩ (.map (some w.heap.size))).alloc (.map #[] 0)) (some d)) := Lib.hid ⟨rfl, rfl, rfl, by simp [World.setCell], fun k hk hk' => (Below.heap_alloc _ _ _ (by rw [es]; exact hk)).trans (Below.heap_setCell _ _ _ _ (fun e => hk' (by rw [e])))⟩
  have sz : w.heap.size < ((w.setCell ⟨d, 0, none⟩ (.map (some w.heap.size))).alloc (.map #[] 0)).heap.size := by simp [World.setCell]
  generalize (w.setCell ⟨d, 0, none⟩ (.map (some w.heap.size))).alloc (.map #[] 0) = w1 at *
  have B1 := Lib.hid b1
  obtain ⟨⟨c0', _, _, _⟩, _⟩ := box4 b1
  have hd1 := heap_lt b1
  clear b1 HB c0 f0 mk es
  refine Og.grow 7 (by kernel_rfl) (by kernel_rfl) fun hc hf => ?_
  simp only [List.take_succ_cons, List.take_zero, List.drop_succ_cons, List.drop_zero]
  iterate 7 (refine Og.det [] rfl (fun J hJ => ?_); go_simp; first | (with_reducible refine ⟨_, fun p => Og.lays (C.out _), hJ _ _ ?_⟩) | (refine hJ _ _ ?_); clear hJ J)
  refine Og.fin fun W hW => ?_
  simp only [Og.opened_nil]
  clear hc hf
  obtain ⟨W', hrun, hmap, hgr⟩ := MapAt.put (HM1.out.kept fun m' hm' => hW.block m' (by cases hm'; exact sz)) (by omega) (by simp) HP.out
  have H := Lib.hid hmap
  have G := Lib.hid hgr
  clear hmap hgr
  go_wp2
  go_end0
  refine ⟨rfl, H.out, ?_, ⟨G.out.os.trans (hW.os.trans G1.out.os), G.out.tape.trans (hW.tape.trans G1.out.tape), G.out.output.trans (hW.output.trans G1.out.output), Nat.le_trans G1.out.size (Nat.le_trans hW.size G.out.size), fun k hk hk' => ?_⟩⟩
  · exact (G.out.block d (Nat.lt_of_lt_of_le hd1 hW.size) (fun e => hne (by injection e))).trans ((hW.block d hd1).trans B1.out)
  · have hk1 := Nat.lt_of_lt_of_le hk G1.out.size
    exact (G.out.block k (Nat.lt_of_lt_of_le hk1 hW.size) (fun e => by injection e with e; omega)).trans ((hW.block k hk1).trans (G1.out.block k hk hk'))
end Go.Proofs.YtpafialojcidnaaGreatDoor
