/- Copy. -/
import Derived.Test.YtpafialojcidnaaGreatDoorDkFiles
namespace Go.Proofs.YtpafialojcidnaaGreatDoor
open Go.RowKit Go.Maps Dk
set_option linter.unusedVariables false

theorem lat_below {w : World} (p : Lat grows w) : Below w.heap.size w p.W := p.h
/-- what has been copied -/
def gone (left : Lit → Bool) (f : Fl) : Bool := !left (.string f.name)
theorem gone_start {D : DataW Unit} {L : List Fl} {φ : Str → Nat × Value} (h : Tells D L φ) : L.filter (gone (Maps.has D)) = [] := by
  rw [List.filter_eq_nil_iff]
  intro f hf
  simp [gone, (h.has _).trans (has_mem hf)]
theorem gone_end {L : List Fl} {left : Lit → Bool} (h : ∀ kl, left kl = false) : L.filter (gone left) = L := by
  rw [List.filter_eq_self]
  intro f hf
  simp [gone, h]
theorem gone_has {L : List Fl} (hs : Sorted L) {left : Lit → Bool} {f : Fl} (hf : f ∈ L) (hl : left (.string f.name) = true) : Dk.has (L.filter (gone left)) f.name = false := by
  rw [has_false]
  intro a ha e
  obtain ⟨a1, a2⟩ := List.mem_filter.1 ha
  rw [gone, e, hl] at a2
  cases a2
theorem gone_step {L : List Fl} (hs : Sorted L) {left : Lit → Bool} {f : Fl} (hf : f ∈ L) (hl : left (.string f.name) = true) : ins (L.filter (gone left)) f = L.filter (gone fun z => left z && !z.sameKey (.string f.name)) := by
  refine sorted_ext (ins_sorted (List.Pairwise.filter _ hs) (gone_has hs hf hl)) (List.Pairwise.filter _ hs) fun a => ?_
  rw [mem_ins, List.mem_filter, List.mem_filter]
  constructor
  · rintro (rfl | ⟨h1, h2⟩)
    · exact ⟨hf, by simp [gone, Lit.sameKey]⟩
    · refine ⟨h1, ?_⟩
      simp only [gone, Bool.not_eq_true'] at h2 ⊢
      rw [h2]; rfl
  · rintro ⟨h1, h2⟩
    by_cases hn : a.name = f.name
    · exact .inl (sorted_inj hs h1 hf hn)
    · refine .inr ⟨h1, ?_⟩
      have : (Lit.string a.name).sameKey (.string f.name) = false := by simpa [Lit.sameKey] using hn
      simpa [gone, this] using h2
theorem gone_ok {K : St} (h : Ok K) (left : Lit → Bool) : Ok { K with L := K.L.filter (gone left) } :=
  ⟨List.Pairwise.filter _ h.sorted, fun f hf => h.names f (List.mem_filter.1 hf).1, h.room, Nat.le_trans (List.length_filter_le _ _) h.few, fun f hf => h.small f (List.mem_filter.1 hf).1⟩
theorem lay_empty {W : World} {B : Nat} (hB : B ≤ W.heap.size) {K : St} (h : Ok K) (φ : Str → Nat × Value) :
    Lay (W.alloc (.cells #[.map none, .bool K.room.isSome, .int .i64 ((K.room.getD 0 : Nat) : Int), .bool K.dead] 65)) B W.heap.size { K with L := [] } φ (.map none) :=
  ⟨⟨List.Pairwise.nil, fun _ h => (by cases h), h.room, by show 0 ≤ 64; omega, fun _ h => (by cases h)⟩, hB, heap_alloc_new W _, .inl ⟨rfl, rfl⟩, fun _ hf => (by cases hf), fun _ hf => (by cases hf)⟩

/-- a row of bytes of one's own; the struct that holds it; where that lies -/
def RowP (B n : Nat) (xs : List Value) : Og.Ph := fun v W => ∃ A c, v = .slice A n c ∧ W.ownsRow B 5 1 v n xs
theorem rowP_lasts (B n : Nat) (xs : List Value) : Og.Lasts grows (RowP B n xs) := fun v W W' ⟨A, c, h1, h2⟩ hr => ⟨A, c, h1, row_kept h2 fun b hb => by
  obtain ⟨_, cs, h3⟩ := row_block h2 hb
  exact hr.block b (heap_lt h3)⟩
theorem rowP_noBool (B n : Nat) (xs : List Value) : Og.NoBool (RowP B n xs) := fun _ _ ⟨_, _, h, _⟩ => by cases h
def AggP (B n : Nat) (xs : List Value) (s : Int) : Og.Ph := fun v W => ∃ u, v = .agg #[u, .int .i64 s] ∧ RowP B n xs u W
theorem aggP_lasts (B n : Nat) (xs : List Value) (s : Int) : Og.Lasts grows (AggP B n xs s) := fun v W W' ⟨u, h1, h2⟩ hr => ⟨u, h1, rowP_lasts _ _ _ _ _ _ h2 hr⟩
theorem aggP_noBool (B n : Nat) (xs : List Value) (s : Int) : Og.NoBool (AggP B n xs s) := fun _ _ ⟨_, h, _⟩ => by cases h
def PtrP (B n : Nat) (xs : List Value) (s : Int) : Og.Ph := fun v W => ∃ b u, v = .pointer (some ⟨b, 0, none⟩) ∧ B ≤ b ∧ W.heap[b]? = some (.cells #[u, .int .i64 s] 70 (0, 0)) ∧ RowP B n xs u W
theorem ptrP_lasts (B n : Nat) (xs : List Value) (s : Int) : Og.Lasts grows (PtrP B n xs s) := fun v W W' ⟨b, u, h1, h2, h3, h4⟩ hr => ⟨b, u, h1, h2, (hr.block b (heap_lt h3)).trans h3, rowP_lasts _ _ _ _ _ _ h4 hr⟩
theorem ptrP_noBool (B n : Nat) (xs : List Value) (s : Int) : Og.NoBool (PtrP B n xs s) := fun _ _ ⟨_, _, h, _⟩ => by cases h
theorem ptr_new (W : World) {B n : Nat} {xs : List Value} {s : Int} {u : Value} (hB : B ≤ W.heap.size) (h : RowP B n xs u W) : grows.r W (W.alloc (.cells #[u, .int .i64 s] 70)) ∧ PtrP B n xs s (.pointer (some ⟨W.heap.size, 0, none⟩)) (W.alloc (.cells #[u, .int .i64 s] 70)) :=
  ⟨bel1 W _, W.heap.size, u, rfl, hB, heap_alloc_new W _, rowP_lasts _ _ _ _ _ _ h (bel1 W _)⟩
theorem row_call {P : Program} {f : FuncId} {args : Array Value} {W : World} {B n : Nat} {xs : List Value} (h : Calls P f args W fun e w' => (∃ v', e = .returned v' ∧ w'.ownsRow W.heap.size 5 1 v' n xs) ∧ Below W.heap.size W w') (hB : B ≤ W.heap.size) :
    Calls P f args W fun e w' => ∃ v, e = .returned v ∧ grows.r W w' ∧ RowP B n xs v w' :=
  h.mono fun e w' ⟨⟨v, h1, h2⟩, h3⟩ => by
    obtain ⟨A, c, h4⟩ := row_form h2
    exact ⟨v, h1, h3, A, c, h4, h2.1, h2.2.imp id fun ⟨g, cap, cur, a, b, d⟩ => ⟨g, cap, cur, a, Nat.le_trans hB b, d⟩⟩
theorem bytes_one (l : Str) : ∀ u ∈ Lib.byteCells l, u.oneCell' = true := by
  intro u hu
  obtain ⟨x, _, rfl⟩ := List.mem_map.1 hu
  rfl

set_option maxHeartbeats 8000000 in
set_option maxRecDepth 100000 in
theorem copy_none (w : World) : Calls Tryz.prog 16 #[.pointer none] w fun e w' => (∃ c, e = .returned (.pointer (some ⟨c, 0, none⟩)) ∧ DiskAt w' w.heap.size c Dk.new) ∧ Below w.heap.size w w' := by
  have N := Lib.hid (new_any w)
  go_enter Tryz.func16, Tryz.ntmps16
  go_wp2_with (go_at_call 28; refine N.out.mono ?_; rintro e w2 ⟨rfl, hk1, hk2⟩)
  go_ret
  exact ⟨⟨_, rfl, hk1⟩, hk2⟩

set_option maxHeartbeats 8000000 in
set_option maxRecDepth 100000 in
theorem copy_nil (w : World) {B d : Nat} {K : St} {φ : Str → Nat × Value} (h : Lay w B d K φ (.map none)) :
    Calls Tryz.prog 16 #[.pointer (some ⟨d, 0, none⟩)] w fun e w' => (∃ c, e = .returned (.pointer (some ⟨c, 0, none⟩)) ∧ DiskAt w' w.heap.size c K) ∧ Below w.heap.size w w' := by
  have hL : K.L = [] := by
    rcases h.map with ⟨_, hL⟩ | ⟨m, D, hm, _⟩
    · exact hL
    · cases hm
  have hE : ({ K with L := [] } : St) = K := by rw [← hL]
  have HK := Lib.hid h.ok
  obtain ⟨⟨c0, c1, c2, c3⟩, _⟩ := box4 h.box
  have hd := h.lt
  have HE := Lib.hid hE
  clear h hE hL
  go_enter Tryz.func16, Tryz.ntmps16
  go_wp2
  refine Og.grow 13 (by kernel_rfl) (by kernel_rfl) fun hc hf => ?_
  simp only [List.take_succ_cons, List.take_zero, List.drop_succ_cons, List.drop_zero]
  iterate 13 (refine Og.det [] rfl (fun J hJ => ?_); go_simp; refine hJ _ _ ?_; clear hJ J)
  refine Og.fin fun W hW => ?_
  simp only [Og.opened_nil]
  clear hc hf
  have b0 : W.cell? ⟨d, 0, none⟩ = some (.map none) := (hW.cell (p := ⟨d, 0, none⟩) hd).trans c0
  have L1 := lay_empty (W := W) (B := w.heap.size) hW.size HK.out φ
  have B1 := hW.trans ((bel1 W (.cells #[.map none, .bool K.room.isSome, .int .i64 ((K.room.getD 0 : Nat) : Int), .bool K.dead] 65)).mono hW.size)
  have hcell : ∀ (o : Obj) , (W.alloc o).cell? ⟨d, 0, none⟩ = some (.map none) := fun o => ((bel1 W o).cell (p := ⟨d, 0, none⟩) (Nat.lt_of_lt_of_le hd hW.size)).trans b0
  have hc1 := hcell (.cells #[.map none, .bool K.room.isSome, .int .i64 ((K.room.getD 0 : Nat) : Int), .bool K.dead] 65)
  rw [HE.out] at L1
  have HL := Lib.hid L1
  have HB := Lib.hid B1
  clear L1 B1 hcell c0 c1 c2 c3
  generalize K.room.isSome = q1 at *
  generalize ((K.room.getD 0 : Nat) : Int) = q2 at *
  generalize K.dead = q3 at *
  have R := Lib.hid (run_range_nilMap (P := Tryz.prog) (W.alloc (.cells #[.map none, .bool q1, .int .i64 q2, .bool q3] 65)) 63 _ _ Tryz.underlying63)
  have N := Lib.hid (run_next_nilMap (P := Tryz.prog) (W.alloc (.cells #[.map none, .bool q1, .int .i64 q2, .bool q3] 65)) 0 0 0 #[])
  have hal := Lib.hid (bel1 (W.alloc (.cells #[.map none, .bool q1, .int .i64 q2, .bool q3] 65)) (.mapIter none 0 #[] 0))
  go_wp2_with (at_range; refine wpList_range _ rfl _ _ rfl _ rfl _ _ R.out ?_)
  generalize hw1 : (W.alloc (.cells #[.map none, .bool q1, .int .i64 q2, .bool q3] 65)).alloc (.mapIter none 0 #[] 0) = w2 at *
  refine wp_loop_once ?_
  go_wp2_with (at_next; go_loud (refine wpList_next _ rfl _ rfl _ rfl _ _ N.out ?_))
  go_ret
  exact ⟨⟨_, rfl, φ, _, HL.out.below hal.out⟩, HB.out.trans (hal.out.mono HB.out.size)⟩

set_option maxHeartbeats 16000000 in
set_option maxRecDepth 100000 in
theorem copy_map (w : World) {B d m : Nat} {K : St} {φ : Str → Nat × Value} (h : Lay w B d K φ (.map (some m))) :
    Calls Tryz.prog 16 #[.pointer (some ⟨d, 0, none⟩)] w fun e w' => (∃ c, e = .returned (.pointer (some ⟨c, 0, none⟩)) ∧ DiskAt w' w.heap.size c K) ∧ Below w.heap.size w w' := by
  obtain ⟨D, hT, hown⟩ := h.tells
  have HK := Lib.hid h.ok
  have HLay := Lib.hid h
  have HT := Lib.hid hT
  have HOwn := Lib.hid hown
  obtain ⟨⟨c0, c1, c2, c3⟩, _⟩ := box4 h.box
  have hd := h.lt
  have hmlt := hown.lt
  have HM := Lib.hid hmlt
  clear h hT hown hmlt
  go_enter Tryz.func16, Tryz.ntmps16
  go_wp2
  refine Og.grow 13 (by kernel_rfl) (by kernel_rfl) fun hc hf => ?_
  simp only [List.take_succ_cons, List.take_zero, List.drop_succ_cons, List.drop_zero]
  iterate 13 (refine Og.det [] rfl (fun J hJ => ?_); go_simp; refine hJ _ _ ?_; clear hJ J)
  refine Og.fin fun W hW => ?_
  simp only [Og.opened_nil]
  clear hc hf
  have b0 : W.cell? ⟨d, 0, none⟩ = some (.map (some m)) := (hW.cell (p := ⟨d, 0, none⟩) hd).trans c0
  have L1 := lay_empty (W := W) (B := w.heap.size) hW.size HK.out φ
  have B1 := hW.trans ((bel1 W (.cells #[.map none, .bool K.room.isSome, .int .i64 ((K.room.getD 0 : Nat) : Int), .bool K.dead] 65)).mono hW.size)
  have hc1 := ((bel1 W (.cells #[.map none, .bool K.room.isSome, .int .i64 ((K.room.getD 0 : Nat) : Int), .bool K.dead] 65)).cell (p := ⟨d, 0, none⟩) (Nat.lt_of_lt_of_le hd hW.size)).trans b0
  have own1 := own_kept HOwn.out (B1.block m HM.out)
  have e0 : ({ K with L := [] } : St) = { K with L := K.L.filter (gone (Maps.has D)) } := by rw [gone_start HT.out]
  rw [e0] at L1
  obtain ⟨w0, hrun, hrg0, hg0, hs0⟩ := own1.range strKey Tryz.underlying63
  have b00 : Below _ _ w0 := ⟨hg0.os, hg0.tape, hg0.output, hg0.size, fun k hk => hg0.block k hk (by simp)⟩
  have hst : Hid (∃ left cnt φc mvc, w0.ranges Tryz.prog 9 fptr m (W.alloc (.cells #[.map none, .bool K.room.isSome, .int .i64 ((K.room.getD 0 : Nat) : Int), .bool K.dead] 65)).heap.size (Maps.size D) D left cnt ∧ Lay w0 w.heap.size W.heap.size { K with L := K.L.filter (gone left) } φc mvc ∧ Below w.heap.size w w0) :=
    Lib.hid ⟨_, _, φ, _, hrg0, L1.below b00, B1.trans (b00.mono B1.size)⟩
  have R := Lib.hid hrun
  clear L1 B1 own1 e0 hrun hrg0 hg0 hs0 b00 c0 c1 c2 c3 b0
  generalize K.room.isSome = q1 at *
  generalize ((K.room.getD 0 : Nat) : Int) = q2 at *
  generalize hq3 : K.dead = q3 at *
  go_wp2_with (at_range; go_loud (refine wpList_range _ rfl _ _ rfl _ rfl _ _ R.out ?_))
  go_frame
  clear R hc1
  obtain ⟨r, hr⟩ : ∃ r, (W.alloc (.cells #[.map none, .bool q1, .int .i64 q2, .bool q3] 65)).heap.size = r := ⟨_, rfl⟩
  rw [hr] at hst ⊢
  have hrW : w.heap.size ≤ r := by rw [← hr, size1]; have := hW.size; omega
  have HRW := Lib.hid hrW
  clear hr hrW hW
  generalize hcc : W.heap.size = c at *
  clear hcc
  go_loopw [4, 5] (fun _ _ wr => Hid (∃ left cnt φc mvc, wr.ranges Tryz.prog 9 fptr m r (Maps.size D) D left cnt ∧ Lay wr w.heap.size c { K with L := K.L.filter (gone left) } φc mvc ∧ Below w.heap.size w wr)) (fun _ _ wr => wr.rangeLeft m r)
  case atStart => rw [hq3]; exact hst
  case round =>
    obtain ⟨left, cnt, φc, mvc, hrg, hL, hB⟩ := hrel.out
    rcases hrg.next strKey 0 with ⟨_, hl0, hnx⟩ | ⟨key, v, kl, y, w1, cnt1, hkey, hlk, hv, hat, hnx, hrg1, hlt, hg1, hs1, hen⟩
    · rw [gone_end hl0] at hL
      have HL : Hid (DiskAt wr w.heap.size c K) := Lib.hid ⟨_, _, hL⟩
      have N := Lib.hid hnx
      have HB := Lib.hid hB
      clear hnx hrg hL hB hrel
      go_wp2_with (at_next; go_loud (refine wpList_next _ rfl _ rfl _ rfl _ _ N.out ?_))
      go_ret
      exact ⟨⟨_, rfl, HL.out⟩, HB.out⟩
    · obtain ⟨f, hf, rfl, rfl, rfl⟩ := HT.out.step hkey hv hat
      have hL1 := hL.kp (kp_iter hg1 (ranges_iter hrg))
      have hB1 : Below w.heap.size w w1 := hB.grown hg1 hB.size (fun k hk => by cases hk; exact HRW.out)
      have hF := (HLay.out.file f hf).kept (W' := w1) (fun b hb => hB1.block b (by obtain ⟨_, cs, T, k2, _⟩ := (HLay.out.file f hf).of hb; exact heap_lt k2))
      obtain ⟨⟨f0, f1⟩, _⟩ := box2 hF.box
      have hfl : (φ f.name).1 < w1.heap.size := heap_lt hF.box
      have hrow : ∀ p : Lat grows w1, p.W.ownsRow B 5 1 (φ f.name).2 f.all.length (Lib.byteCells f.all) := fun p => row_kept hF.row fun b hb => by
        obtain ⟨_, cs, k2⟩ := row_block hF.row hb
        exact (lat_below p).block b (heap_lt k2)
      have hsm := HK.out.small f hf
      have CL : Hid (∀ p : Lat grows w1, Calls Tryz.prog 39 #[(φ f.name).2] p.W fun e w' => ∃ v, e = .returned v ∧ grows.r p.W w' ∧ RowP w1.heap.size f.all.length (Lib.byteCells f.all) v w') :=
        Lib.hid fun p => row_call (bytes_clone p.W (hrow p) hsm (bytes_one _)) (lat_below p).size
      have hnh := gone_has HK.out.sorted hf hlk
      have hins := gone_step HK.out.sorted hf hlk
      have hok : Ok { K with L := ins (K.L.filter (gone left)) f } := by
        rw [hins]; exact gone_ok HK.out _
      have PUT : Hid (∀ W, Below w1.heap.size w1 W → ∀ b u, w1.heap.size ≤ b → W.heap[b]? = some (.cells #[u, .int .i64 (f.sure.length : Int)] 70 (0, 0)) → RowP w1.heap.size f.all.length (Lib.byteCells f.all) u W →
          Calls Tryz.prog 38 #[.pointer (some ⟨c, 0, none⟩), .string ⟨f.name.toArray⟩, .pointer (some ⟨b, 0, none⟩)] W fun e w' => e = .returned (.tuple #[]) ∧ Hid (Hid (∃ left cnt φc mvc, w'.ranges Tryz.prog 9 fptr m r (Maps.size D) D left cnt ∧ Lay w' w.heap.size c { K with L := K.L.filter (gone left) } φc mvc ∧ Below w.heap.size w w') ∧ w'.rangeLeft m r < wr.rangeLeft m r)) := Lib.hid fun W hW b u hb hbox hu => by
        obtain ⟨A, c5, _, hu2⟩ := hu
        have hs1 := hB1.size
        refine (put_more W (hL1.below hW) (Nat.le_trans hs1 hW.size) (f := f) (x := (b, u)) hnh hok ⟨Nat.le_trans hs1 hb, hbox, hu2.1, hu2.2.imp id fun ⟨g, cap, cur, a, b, d⟩ => ⟨g, cap, cur, a, Nat.le_trans hs1 b, d⟩⟩ (fun a ha b' hb' hx => ?_)).mono ?_
        · obtain ⟨_, cs, T, k2, _⟩ := (hL1.file a ha).of hb'
          have := heap_lt k2
          rcases hx with hx | hx
          · simp only at hx; omega
          · have := (row_block hu2 hx).1; omega
        · rintro e w' ⟨rfl, ⟨mv', k1⟩, k2⟩
          rw [hins] at k1
          have hrg3 := ranges_kept hrg1 (W' := w') ((k2.bel.block m HM.out).trans (hW.block m hrg1.owns.lt)) (by
            obtain ⟨a1, a2, a3, a4, hit⟩ := ranges_iter hrg1
            have h2 := (hW.block r hrg1.lt).trans hit
            rw [k2.kp r _ h2 rfl, hit])
          exact ⟨rfl, Lib.hid ⟨Lib.hid ⟨_, _, _, mv', hrg3, k1, hB1.trans ((hW.mono hs1).trans k2.bel)⟩, by rw [hrg3.left_eq, hrg.left_eq]; exact hlt⟩⟩
      have N := Lib.hid hnx
      clear hnx hrg hL hB hrel hkey hlk hv hat hrg1 hlt hg1 hs1 hL1 hF hrow hsm hnh hins hok hf hB1
      generalize (φ f.name).1 = fb at *
      generalize (φ f.name).2 = fv at *
      generalize f.all.length = la at *
      generalize Lib.byteCells f.all = xs at *
      generalize hse : (f.sure.length : Int) = ls at *
      clear hse
      generalize f.name = nm at *
      go_wp2_with (at_next; go_loud (refine wpList_next _ rfl _ rfl _ rfl _ _ N.out ?_))
      refine Og.grow 13 (by kernel_rfl) (by kernel_rfl) fun hc hf => ?_
      simp only [List.take_succ_cons, List.take_zero, List.drop_succ_cons, List.drop_zero]
      iterate 6 (refine Og.det [] rfl (fun J hJ => ?_); go_simp; refine hJ _ _ ?_; clear hJ J)
      refine Og.such 39 (RowP w1.heap.size la xs) [] rfl (rowP_lasts _ _ _) (rowP_noBool _ _ _) (fun J hJ => ?_)
      go_simp
      refine ⟨fun p => CL.out p, hJ _ _ ?_⟩
      clear hJ J
      iterate 4 (refine Og.det [] rfl (fun J hJ => ?_); go_simp; refine hJ _ _ ?_; clear hJ J)
      refine Og.such 44 (AggP w1.heap.size la xs ls) [(39, RowP w1.heap.size la xs)] rfl (aggP_lasts _ _ _ _) (aggP_noBool _ _ _ _) (fun J hJ => ?_)
      go_simp
      refine ⟨fun p => ?_, hJ _ _ ?_⟩
      · rintro v ⟨A, c5, rfl, hrow⟩
        go_simp
        exact ⟨_, rfl, A, c5, rfl, hrow⟩
      clear hJ J
      refine Og.such 45 (PtrP w1.heap.size la xs ls) [(44, AggP w1.heap.size la xs ls)] rfl (ptrP_lasts _ _ _ _) (ptrP_noBool _ _ _ _) (fun J hJ => ?_)
      go_simp
      refine ⟨fun p => ?_, hJ _ _ ?_⟩
      · rintro v ⟨u, rfl, A, c5, rfl, hrow⟩
        go_simp
        exact ptr_new p.W (lat_below p).size ⟨A, c5, rfl, hrow⟩
      clear hJ J
      refine Og.fin fun W2 hW2 => ?_
      simp only [Og.opened_cons, Og.opened_nil]
      rintro _ ⟨b, u, rfl, g1, g2, g3⟩ v44 hv44 v39 hv39
      have P := Lib.hid (PUT.out W2 hW2 b u g1 g2 g3)
      clear hc hf hv44 hv39 g1 g2 g3 PUT CL hW2
      go_wp2_with (go_at_call 38; go_loud (refine P.out.mono ?_; rintro e w3 ⟨rfl, HE⟩))
      go_roundw
      case rel => exact HE.out.1
      case measure => exact HE.out.2

/-- Copy. -/
theorem copy_any (w : World) {B d : Nat} {K : St} (h : DiskAt w B d K) :
    Calls Tryz.prog 16 #[.pointer (some ⟨d, 0, none⟩)] w fun e w' => (∃ c, e = .returned (.pointer (some ⟨c, 0, none⟩)) ∧ DiskAt w' w.heap.size c K) ∧ Below w.heap.size w w' := by
  obtain ⟨φ, mv, h⟩ := h
  rcases h.map with ⟨rfl, _⟩ | ⟨m, D, rfl, _⟩
  · exact copy_nil w h
  · exact copy_map w h
end Go.Proofs.YtpafialojcidnaaGreatDoor
