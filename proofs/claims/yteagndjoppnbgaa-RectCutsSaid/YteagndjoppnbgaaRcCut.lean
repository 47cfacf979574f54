/- rect.Cut: what it answers. -/
import Derived.Test.YteagndjoppnbgaaRcCore
import Derived.Test.YteagndjoppnbgaaOpenRect
import Derived.LoopTactic
namespace Go.Proofs.Yteagndjoppnbgaa
open Go.RowKit

/-- what lies there at each round's head: the result's box, what they have in common so far -/
structure CutAt (w : World) (r : Int × Int × Int × Int) (W : World) : Prop where
  bel : Below w.heap.size w W
  top : w.heap.size + 1 < W.heap.size
  res : W.heap[w.heap.size]? = some (.cells #[.int .i64 0, .int .i64 0, .int .i64 0, .int .i64 0] 23 (0, 0))
  cut : W.heap[w.heap.size + 1]? = some (.cells #[.int .i64 r.1, .int .i64 r.2.1, .int .i64 r.2.2.1, .int .i64 r.2.2.2] 23 (0, 0))
theorem CutAt.next {w W : World} {r : Int × Int × Int × Int} (h : CutAt w r W) (s : Int × Int × Int × Int) :
    CutAt w s ((((W.setCell ⟨w.heap.size + 1, 0, none⟩ (.int .i64 s.1)).setCell ⟨w.heap.size + 1, 1, none⟩ (.int .i64 s.2.1)).setCell ⟨w.heap.size + 1, 2, none⟩ (.int .i64 s.2.2.1)).setCell ⟨w.heap.size + 1, 3, none⟩ (.int .i64 s.2.2.2)) := by
  have h1 := h.top
  exact ⟨set4 h.bel _ (by omega) _ _ _ _, by rw [set4_size]; omega, (set4_other (by omega) _ _ _ _).trans h.res, set4_same h.cut _ _ _ _⟩
theorem CutAt.alloc {w W : World} {r : Int × Int × Int × Int} (h : CutAt w r W) (o : Obj) : CutAt w r (W.alloc o) := by
  have h1 := h.top
  exact ⟨h.bel.alloc (by omega) o, by rw [size1]; omega, (Below.heap_alloc W o _ (by omega)).trans h.res, (Below.heap_alloc W o _ (by omega)).trans h.cut⟩

set_option maxHeartbeats 2000000 in
set_option maxRecDepth 100000 in
theorem cut_none (A : Option Addr) (cap : Nat) (w : World) :
    Calls Try.prog 15 #[.slice A 0 cap] w fun e w' => e = .returned (.agg #[.int .i64 0, .int .i64 0, .int .i64 0, .int .i64 0]) ∧ Below w.heap.size w w' := by
  obtain ⟨⟨k0, k1, k2, k3⟩, f0, f1, f2, f3⟩ := box4 (at1 w (.cells #[.int .i64 0, .int .i64 0, .int .i64 0, .int .i64 0] 23))
  go_enter Try.func15, Try.ntmps15
  go_wp2
  exact bodyPost_ret (v := .agg #[.int .i64 0, .int .i64 0, .int .i64 0, .int .i64 0]) (by simp [results, Try.results15, go_sem]) rfl ⟨rfl, bel1 _ _⟩

theorem counted_any (a b c d : Int) (w : World) (ha : I a) (hb : I b) (hc : I c) (hd : I d) :
    Calls Try.prog 25 #[.agg #[.int .i64 a, .int .i64 b, .int .i64 c, .int .i64 d]] w fun e w' => e = .returned (.agg #[.int .i64 (Rc.ctd a b c d).a, .int .i64 (Rc.ctd a b c d).b, .int .i64 (Rc.ctd a b c d).c, .int .i64 (Rc.ctd a b c d).d]) ∧ Below w.heap.size w w' := by
  by_cases h : Rc.None a b c d
  · rw [Rc.ctd_none h]; exact counted_none a b c d w ha hb hc hd h
  · rw [Rc.ctd_some h]; exact counted_some a b c d w ha hb hc hd h
theorem fold_in {x : Int × Int × Int × Int} : ∀ {l : List (Int × Int × Int × Int)}, (∀ y ∈ x :: l, I y.1 ∧ I y.2.1 ∧ I y.2.2.1 ∧ I y.2.2.2) → I (Rc.fold x l).1 ∧ I (Rc.fold x l).2.1 ∧ I (Rc.fold x l).2.2.1 ∧ I (Rc.fold x l).2.2.2 := by
  intro l
  induction l generalizing x with
  | nil => intro h; exact h x (by simp)
  | cons y l ih =>
    intro h
    refine ih (x := Rc.cf x y) fun z hz => ?_
    rcases List.mem_cons.1 hz with rfl | hz
    · have h1 := h x (by simp)
      have h2 := h y (by simp)
      unfold I at *
      simp only [Rc.cf]
      refine ⟨⟨?_, ?_⟩, ⟨?_, ?_⟩, ⟨?_, ?_⟩, ⟨?_, ?_⟩⟩ <;> omega
    · exact h z (by simp [hz])

/-- the cells of a row of rectangles -/
theorem cells4 {w : World} {B : Nat} {A : Option Addr} {l : List (Int × Int × Int × Int)} (h : ReadsK w B A 4 (l.map rectRow)) (h0 : 0 < l.length) :
    ∃ b off, A = some ⟨b, off, none⟩ ∧ b < B ∧ ∀ (i : Nat) (hi : i < l.length), w.cell? ⟨b, off + i * 4, none⟩ = some (.int .i64 l[i].1) ∧ w.cell? ⟨b, off + i * 4 + 1, none⟩ = some (.int .i64 l[i].2.1) ∧ w.cell? ⟨b, off + i * 4 + 2, none⟩ = some (.int .i64 l[i].2.2.1) ∧ w.cell? ⟨b, off + i * 4 + 3, none⟩ = some (.int .i64 l[i].2.2.2) := by
  obtain ⟨b, off, rfl, hB, hc⟩ := h (by simpa using h0)
  refine ⟨b, off, rfl, hB, fun i hi => ?_⟩
  have hr : (l.map rectRow)[i]? = some (rectRow l[i]) := by simp [hi]
  exact ⟨hc i _ hr 0 _ rfl, hc i _ hr 1 _ rfl, hc i _ hr 2 _ rfl, hc i _ hr 3 _ rfl⟩

theorem agg_fields {a b c d a' b' c' d' : Int} (h1 : a = a') (h2 : b = b') (h3 : c = c') (h4 : d = d') : Ending.returned (.agg #[.int .i64 a, .int .i64 b, .int .i64 c, .int .i64 d]) = .returned (.agg #[.int .i64 a', .int .i64 b', .int .i64 c', .int .i64 d']) := by rw [h1, h2, h3, h4]
set_option maxHeartbeats 2000000 in
set_option maxRecDepth 100000 in
theorem cut_some (A : Option Addr) (cap : Nat) (x : Int × Int × Int × Int) (l : List (Int × Int × Int × Int)) (w : World) (B : Nat) (hB : B ≤ w.heap.size) (hl : l.length + 1 ≤ cap) (hcap : cap ≤ 1000000000000000) (hr : ReadsK w B A 4 ((x :: l).map rectRow)) (hi : ∀ y ∈ x :: l, I y.1 ∧ I y.2.1 ∧ I y.2.2.1 ∧ I y.2.2.2)
    (c0 c1 c2 c3 : Int) (hres : Rc.ctd (Rc.fold x l).1 (Rc.fold x l).2.1 (Rc.fold x l).2.2.1 (Rc.fold x l).2.2.2 = ⟨c0, c1, c2, c3⟩) :
    Calls Try.prog 15 #[.slice A (l.length + 1) cap] w fun e w' => e = .returned (.agg #[.int .i64 c0, .int .i64 c1, .int .i64 c2, .int .i64 c3]) ∧ Below w.heap.size w w' := by
  obtain ⟨b, off, rfl, hb, hc⟩ := cells4 hr (by simp)
  obtain ⟨x0, x1, x2, x3⟩ := hc 0 (by simp)
  simp only [Nat.zero_mul, Nat.add_zero, List.getElem_cons_zero] at x0 x1 x2 x3
  have HC := Lib.hid hc
  clear hc hr
  have hbw : b < w.heap.size := by omega
  have HI := Lib.hid hi
  have HF := Lib.hid (fold_in hi)
  have C := Lib.hid (fun W => show Calls Try.prog 25 #[.agg #[.int .i64 (Rc.fold x l).1, .int .i64 (Rc.fold x l).2.1, .int .i64 (Rc.fold x l).2.2.1, .int .i64 (Rc.fold x l).2.2.2]] W fun e w' => (e = .returned (.agg #[.int .i64 c0, .int .i64 c1, .int .i64 c2, .int .i64 c3]) ∧ Below W.heap.size W w') by
    have := counted_any _ _ _ _ W (fold_in hi).1 (fold_in hi).2.1 (fold_in hi).2.2.1 (fold_in hi).2.2.2
    rwa [hres] at this)
  clear hi hres
  go_enter Try.func15, Try.ntmps15
  go_wp2
  · go_loopw [16] (fun i wr => ∃ k : Nat, k ≤ l.length ∧ i = .int .i64 k ∧ CutAt w (Rc.fold x (l.take k)) wr) (fun i _ => l.length - (intOf i).toNat)
    case atStart => exact ⟨0, Nat.zero_le _, rfl, bel2 _ _ _, by rw [size2]; omega, at2a _ _ _, at2b _ _ _⟩
    case round =>
      obtain ⟨k, hk, rfl, hat⟩ := hrel
      have hlt : ¬ k < l.length := by omega
      · have HL := Lib.hid (show l.take k = l by rw [show k = l.length by omega, List.take_length])
        rw [HL.out] at hat
        obtain ⟨⟨k0, k1, k2, k3⟩, f0, f1, f2, f3⟩ := box4 hat.cut
        have HT := Lib.hid hat
        have ht := hat.top
        clear hat HI HF HC HL
        go_wp2_with fail
        refine (C.out _).mono ?_
        rintro e w9 ⟨rfl, b9⟩
        have q9 := (b9.block _ (by omega)).trans HT.out.res
        have t9 := b9.size
        have g9 := HT.out.bel.trans (b9.mono HT.out.bel.size)
        clear b9 HT k0 k1 k2 k3 f0 f1 f2 f3
        obtain ⟨⟨k0, k1, k2, k3⟩, f0, f1, f2, f3⟩ := box4 q9
        clear q9
        go_wp2
        exact bodyPost_ret (v := .agg #[.int .i64 c0, .int .i64 c1, .int .i64 c2, .int .i64 c3]) (by simp [results, Try.results15, go_sem, k0, k1, k2, k3]) rfl ⟨rfl, set4 g9 _ (Nat.le_refl _) _ _ _ _⟩
  · go_loopw [16] (fun i wr => ∃ k : Nat, k ≤ l.length ∧ i = .int .i64 k ∧ CutAt w (Rc.fold x (l.take k)) wr) (fun i _ => l.length - (intOf i).toNat)
    case atStart => exact ⟨0, Nat.zero_le _, rfl, bel2 _ _ _, by rw [size2]; omega, at2a _ _ _, at2b _ _ _⟩
    case round =>
      obtain ⟨k, hk, rfl, hat⟩ := hrel
      by_cases hlt : k < l.length
      · obtain ⟨y0, y1, y2, y3⟩ := HC.out (k + 1) (by simpa using hlt)
        simp only [List.getElem_cons_succ] at y0 y1 y2 y3
        obtain ⟨y, hy⟩ : ∃ y, y = l[k] := ⟨_, rfl⟩
        rw [← hy] at y0 y1 y2 y3
        have z0 := (hat.bel.cell (p := ⟨b, off + (k + 1) * 4, none⟩) hbw).trans y0
        have z1 := (hat.bel.cell (p := ⟨b, off + (k + 1) * 4 + 1, none⟩) hbw).trans y1
        have z2 := (hat.bel.cell (p := ⟨b, off + (k + 1) * 4 + 2, none⟩) hbw).trans y2
        have z3 := (hat.bel.cell (p := ⟨b, off + (k + 1) * 4 + 3, none⟩) hbw).trans y3
        rw [show off + (k + 1) * 4 = off + 4 + k * 4 by omega] at z0 z1 z2 z3
        clear y0 y1 y2 y3 x0 x1 x2 x3
        obtain ⟨⟨k0, k1, k2, k3⟩, f0, f1, f2, f3⟩ := box4 hat.cut
        have ht := hat.top
        have HT := Lib.hid hat
        have HN := Lib.hid (show Rc.cf (Rc.fold x (l.take k)) y = Rc.fold x (l.take (k + 1)) by rw [hy, List.take_succ_eq_append_getElem hlt, Rc.fold_snoc])
        clear hat hy C HI HF HC
        generalize Rc.fold x (l.take k) = r at *
        go_wp2
        refine ⟨⟨k + 1, by omega, by go_num, ?_⟩, ?_⟩
        · rw [← HN.out]
          exact (HT.out.next (Rc.cf r y)).alloc _
        · simp [intOf]; omega
      · have HL := Lib.hid (show l.take k = l by rw [show k = l.length by omega, List.take_length])
        rw [HL.out] at hat
        obtain ⟨⟨k0, k1, k2, k3⟩, f0, f1, f2, f3⟩ := box4 hat.cut
        have HT := Lib.hid hat
        have ht := hat.top
        clear hat HI HF HC HL
        go_wp2_with fail
        refine (C.out _).mono ?_
        rintro e w9 ⟨rfl, b9⟩
        have q9 := (b9.block _ (by omega)).trans HT.out.res
        have t9 := b9.size
        have g9 := HT.out.bel.trans (b9.mono HT.out.bel.size)
        clear b9 HT k0 k1 k2 k3 f0 f1 f2 f3
        obtain ⟨⟨k0, k1, k2, k3⟩, f0, f1, f2, f3⟩ := box4 q9
        clear q9
        go_wp2
        exact bodyPost_ret (v := .agg #[.int .i64 c0, .int .i64 c1, .int .i64 c2, .int .i64 c3]) (by simp [results, Try.results15, go_sem, k0, k1, k2, k3]) rfl ⟨rfl, set4 g9 _ (Nat.le_refl _) _ _ _ _⟩
end Go.Proofs.Yteagndjoppnbgaa
