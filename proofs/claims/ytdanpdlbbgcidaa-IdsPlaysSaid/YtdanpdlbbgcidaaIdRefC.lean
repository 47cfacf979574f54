/- The document's pool: Issue. -/
import Derived.Test.YtdanpdlbbgcidaaIdRefB
namespace Go.Proofs.Ytdanpdlbbgcidaa
open Go.RowKit Ids
set_option linter.unusedVariables false

section
variable {w W W' : World} {lo hi : Nat} {q : RPl} {K : St} {s put : Nat} {x : I3} {f : Sf}
theorem Pt.setOut (h : Pt w lo hi q K s x put f W) (hs : w.heap.size ≤ s) (v0 v1 v2 : Int) :
    Pt w lo hi q K s (v0, v1, v2) put f (((W.setCell ⟨s, 0, none⟩ (.int .i64 v0)).setCell ⟨s, 1, none⟩ (.int .i64 v1)).setCell ⟨s, 2, none⟩ (.int .i64 v2)) := by
  obtain ⟨cur, h1, _⟩ := h.rs.slots
  have ed : q.d ≠ s := ne_type h.rs.box h.bx (by decide)
  have eb : q.b ≠ s := ne_type h1 h.bx (by decide)
  have hl : lo ≤ w.heap.size ∨ w.heap.size < lo := by omega
  have hq : ∀ (W : World) b, b ≠ s → (((W.setCell ⟨s, 0, none⟩ (.int .i64 v0)).setCell ⟨s, 1, none⟩ (.int .i64 v1)).setCell ⟨s, 2, none⟩ (.int .i64 v2)).heap[b]? = W.heap[b]? := fun W b hb => by
    rw [heap_ne hb, heap_ne hb, heap_ne hb]
  refine ⟨h.rs.kept (hq W _ ed) (hq W _ eb), ?_, ?_, h.inb, h.ind⟩
  · have h1 := set3_same h.bx (.int .i64 v0) (.int .i64 v1) (.int .i64 v2)
    exact h1
  · have hd := h.ind
    have hdl := heap_lt h.rs.box
    rcases hl with hl | hl
    · exact ((h.tu.set_out hs hl _).set_out hs hl _).set_out hs hl _
    · have hs2 := heap_lt h.bx
      by_cases e : s < lo
      · exact absurd h.bx (by
          have := h.tu.bel.block s e
          rw [this]
          intro t
          have := heap_lt t
          omega)
      · have e1 : lo ≤ s := by omega
        exact ⟨((h.tu.bel.setCell e1 _).setCell e1 _).setCell e1 _, fun b hb hb2 => by rw [hq W b (by omega)]; exact h.tu.up b hb hb2⟩
theorem Pt.resCells (h : Pt w lo hi q K s x put f W) : (W.cell? ⟨s, 0, none⟩ = some (.int .i64 x.1) ∧ W.cell? ⟨s, 1, none⟩ = some (.int .i64 x.2.1) ∧ W.cell? ⟨s, 2, none⟩ = some (.int .i64 x.2.2)) ∧ (W.frozen? ⟨s, 0, none⟩ = false ∧ W.frozen? ⟨s, 1, none⟩ = false ∧ W.frozen? ⟨s, 2, none⟩ = false) := box3 h.bx
theorem Pt.ra (h : Pt w lo hi q K s x q.put (slotV q K) W) (h0 : RA w q K) : RA W q K := RS.ra h.rs h0.ok h0.cap h0.rise h0.low h0.few
set_option maxHeartbeats 8000000 in
set_option maxRecDepth 100000 in
/-- a name is given -/
theorem rissue_any (h : RA w q K) (hd : lo ≤ q.d ∧ q.d < hi) (hb : lo ≤ q.b ∧ q.b < hi) (k : Int) : Calls Try.prog 27 #[.pointer (some ⟨q.d, 0, none⟩), .int .i64 k] w fun e w' => e = .returned (.tuple #[.agg #[.int .i64 (issue K k).2.1.1, .int .i64 ((issue K k).2.1.2.1 : Nat), .int .i64 ((issue K k).2.1.2.2 : Nat)], .int .i64 ((issue K k).2.2 : Nat)]) ∧ RA w' q (issue K k).1 ∧ Turn lo hi w w' := by
  have P0 := h.pt hd hb (0, 0, 0)
  have h' := h.below (bel1 w (ido (0, 0, 0)))
  have H1 := Lib.hid (rhead_any h' k)
  have RX : Hid (∀ W, Below (w.alloc (ido (0, 0, 0))).heap.size (w.alloc (ido (0, 0, 0))) W → ((W.cell? ⟨w.heap.size, 0, none⟩ = some (.int .i64 0) ∧ W.cell? ⟨w.heap.size, 1, none⟩ = some (.int .i64 0) ∧ W.cell? ⟨w.heap.size, 2, none⟩ = some (.int .i64 0)) ∧ (W.frozen? ⟨w.heap.size, 0, none⟩ = false ∧ W.frozen? ⟨w.heap.size, 1, none⟩ = false ∧ W.frozen? ⟨w.heap.size, 2, none⟩ = false)) ∧
      Hid (((((W.setCell ⟨w.heap.size, 0, none⟩ (.int .i64 0)).setCell ⟨w.heap.size, 1, none⟩ (.int .i64 0)).setCell ⟨w.heap.size, 2, none⟩ (.int .i64 0)).cell? ⟨w.heap.size, 0, none⟩ = some (.int .i64 0) ∧ (((W.setCell ⟨w.heap.size, 0, none⟩ (.int .i64 0)).setCell ⟨w.heap.size, 1, none⟩ (.int .i64 0)).setCell ⟨w.heap.size, 2, none⟩ (.int .i64 0)).cell? ⟨w.heap.size, 1, none⟩ = some (.int .i64 0) ∧ (((W.setCell ⟨w.heap.size, 0, none⟩ (.int .i64 0)).setCell ⟨w.heap.size, 1, none⟩ (.int .i64 0)).setCell ⟨w.heap.size, 2, none⟩ (.int .i64 0)).cell? ⟨w.heap.size, 2, none⟩ = some (.int .i64 0)) ∧
        RA (((W.setCell ⟨w.heap.size, 0, none⟩ (.int .i64 0)).setCell ⟨w.heap.size, 1, none⟩ (.int .i64 0)).setCell ⟨w.heap.size, 2, none⟩ (.int .i64 0)) q K ∧ Turn lo hi w (((W.setCell ⟨w.heap.size, 0, none⟩ (.int .i64 0)).setCell ⟨w.heap.size, 1, none⟩ (.int .i64 0)).setCell ⟨w.heap.size, 2, none⟩ (.int .i64 0)))) := Lib.hid fun W hW => by
    have P1 := P0.below hW
    have P2 := P1.setOut (Nat.le_refl _) 0 0 0
    exact ⟨P1.resCells, Lib.hid ⟨P2.resCells.1, P2.ra h, P2.tu⟩⟩
  unfold Ids.issue
  by_cases h0 : (head K k).2.2 ≠ 0
  · rw [if_pos h0]
    have t2 : (((head K k).2.2 : Int) != 0) = true := by
      rw [bne, beq_eq_false_iff_ne.2 (show ((head K k).2.2 : Int) ≠ 0 by omega)]; rfl
    clear h h' P0 h0
    generalize (head K k).2.2 = n2 at *
    generalize (head K k).2.1 = n1 at *
    generalize (head K k).1 = n0 at *
    go_enter Try.func27, Try.ntmps27
    go_wp2_with (go_at_call 31; refine H1.out.mono ?_; rintro e w2 ⟨rfl, hb⟩; obtain ⟨⟨⟨c0, c1, c2⟩, ⟨f0, f1, f2⟩⟩, HR⟩ := RX.out w2 hb; clear hb RX H1)
    obtain ⟨⟨k0, k1, k2⟩, hP, hT⟩ := HR.out
    exact bodyPost_ret (v := .tuple #[.agg #[.int .i64 0, .int .i64 0, .int .i64 0], .int .i64 (n2 : Int)]) (by simp [results, Try.results27, go_sem, k0, k1, k2]) rfl ⟨rfl, hP, hT⟩
  · rw [if_neg h0]
    have h0' : (head K k).2.2 = 0 := by omega
    rw [h0'] at H1
    by_cases hs : (head K k).2.1 = false
    · rw [if_pos hs]
      rw [hs] at H1
      clear h h' P0 h0 h0' hs
      generalize (head K k).1 = n0 at *
      go_enter Try.func27, Try.ntmps27
      go_wp2_with (go_at_call 31; refine H1.out.mono ?_; rintro e w2 ⟨rfl, hb⟩; obtain ⟨⟨⟨c0, c1, c2⟩, ⟨f0, f1, f2⟩⟩, HR⟩ := RX.out w2 hb; clear hb RX H1)
      obtain ⟨⟨k0, k1, k2⟩, hP, hT⟩ := HR.out
      exact bodyPost_ret (v := .tuple #[.agg #[.int .i64 0, .int .i64 0, .int .i64 0], .int .i64 14]) (by simp [results, Try.results27, go_sem, k0, k1, k2]) rfl ⟨rfl, hP, hT⟩
    · rw [if_neg hs]
      rw [Bool.not_eq_false] at hs
      have hk : 0 ≤ k ∧ k < K.n := by
        refine Decidable.byContradiction fun hc => ?_
        have : (head K k).2.2 = 1 := by unfold Ids.head; rw [if_neg hc]
        omega
      obtain ⟨k, rfl⟩ : ∃ k' : Nat, k = (k' : Int) := ⟨k.toNat, by omega⟩
      have hk' : k < K.n := by omega
      obtain ⟨i, rest, hr⟩ : ∃ i rest, K.row k = i :: rest := by
        cases hr : K.row k with
        | nil =>
          exfalso
          unfold Ids.head at h0
          rw [if_pos hk, Int.toNat_natCast, hr] at h0
          simp at h0
        | cons i rest => exact ⟨i, rest, rfl⟩
      have hhd : head K (k : Int) = (i, decide (K.gen k i < K.bnd k i), 0) := by
        unfold Ids.head
        rw [if_pos hk, Int.toNat_natCast, hr]
      rw [hhd] at hs H1
      rw [hhd]
      simp only [decide_eq_true_eq] at hs
      simp only [Int.toNat_natCast]
      rw [decide_eq_true hs] at H1
      have him : i < K.m := h.ok.lt k hk' i (by rw [hr]; exact List.mem_cons_self)
      have hp := pos_lt hk' him
      have e1 : rfirst K (k : Int) = ((k * K.m + i : Nat) : Int) := by
        unfold rfirst
        rw [if_pos hk, Int.toNat_natCast, hr]
        show (k : Int) * K.m + i = _
        rw [Int.natCast_add, Int.natCast_mul]
      have hgM : K.gen k i < MG := by have := h.ok.bnd k i; omega
      have ok := h.ok.give (i := i) hk' (Nat.le_of_lt hgM)
      have FI : Hid (∀ W, Below (w.alloc (ido (0, 0, 0))).heap.size (w.alloc (ido (0, 0, 0))) W → Hid (Calls Try.prog 45 #[.pointer (some ⟨q.d, 0, none⟩), .int .i64 (k : Int)] W fun e w' => e = .returned (.int .i64 ((k * K.m + i : Nat) : Int)) ∧ Hid (Pt w lo hi q K w.heap.size (0, 0, 0) q.put (slotV q K) w'))) := Lib.hid fun W hW => by
        have h9 := h'.below hW
        have P1 := P0.below hW
        have F := rfirst_any h9 (k : Int)
        rw [e1] at F
        exact Lib.hid (F.mono fun e w' ⟨hh, hb⟩ => ⟨hh, Lib.hid (P1.below hb)⟩)
      have VW : Hid (∀ f W, Pt w lo hi q K w.heap.size (0, 0, 0) q.put f W → W.cell? ⟨q.d, 0, none⟩ = some (Value.slice (some ⟨q.b, 0, none⟩) (K.n * K.m) q.c)) := Lib.hid fun f W hP => hP.view.1
      have CE : Hid (∀ f W e, e < 6 → Pt w lo hi q K w.heap.size (0, 0, 0) q.put f W → W.cell? ⟨q.b, (k * K.m + i) * 6 + e, none⟩ = some (f k i e) ∧ W.frozen? ⟨q.b, (k * K.m + i) * 6 + e, none⟩ = false) := Lib.hid fun f W e he hP => hP.cell hk' him he
      have ST : Hid (∀ f W e v, e < 6 → Pt w lo hi q K w.heap.size (0, 0, 0) q.put f W → Pt w lo hi q K w.heap.size (0, 0, 0) q.put (up3 f k i e v) (W.setCell ⟨q.b, (k * K.m + i) * 6 + e, none⟩ v)) := Lib.hid fun f W e v he hP => hP.set hk' him he v
      obtain ⟨f2, hf2⟩ : ∃ f2, f2 = up3 (up3 (slotV q K) k i 4 (.int .i64 (-1))) k i 5 (.bool true) := ⟨_, rfl⟩
      have E1 : Hid (f2 k i 1 = .int .i64 (i : Int)) := Lib.hid (by rw [hf2]; simp [up3, slotV])
      have E2 : Hid (f2 k i 2 = .int .i64 (K.gen k i : Int)) := Lib.hid (by rw [hf2]; simp [up3, slotV])
      have FIN : Hid (∀ W, Pt w lo hi q K w.heap.size (0, 0, 0) q.put f2 W → ((W.cell? ⟨w.heap.size, 0, none⟩ = some (.int .i64 0) ∧ W.cell? ⟨w.heap.size, 1, none⟩ = some (.int .i64 0) ∧ W.cell? ⟨w.heap.size, 2, none⟩ = some (.int .i64 0)) ∧ (W.frozen? ⟨w.heap.size, 0, none⟩ = false ∧ W.frozen? ⟨w.heap.size, 1, none⟩ = false ∧ W.frozen? ⟨w.heap.size, 2, none⟩ = false)) ∧
          Hid (((((W.setCell ⟨w.heap.size, 0, none⟩ (.int .i64 (k : Int))).setCell ⟨w.heap.size, 1, none⟩ (.int .i64 (i : Int))).setCell ⟨w.heap.size, 2, none⟩ (.int .i64 (K.gen k i : Int))).cell? ⟨w.heap.size, 0, none⟩ = some (.int .i64 (k : Int)) ∧ (((W.setCell ⟨w.heap.size, 0, none⟩ (.int .i64 (k : Int))).setCell ⟨w.heap.size, 1, none⟩ (.int .i64 (i : Int))).setCell ⟨w.heap.size, 2, none⟩ (.int .i64 (K.gen k i : Int))).cell? ⟨w.heap.size, 1, none⟩ = some (.int .i64 (i : Int)) ∧ (((W.setCell ⟨w.heap.size, 0, none⟩ (.int .i64 (k : Int))).setCell ⟨w.heap.size, 1, none⟩ (.int .i64 (i : Int))).setCell ⟨w.heap.size, 2, none⟩ (.int .i64 (K.gen k i : Int))).cell? ⟨w.heap.size, 2, none⟩ = some (.int .i64 (K.gen k i : Int))) ∧
            RA (((W.setCell ⟨w.heap.size, 0, none⟩ (.int .i64 (k : Int))).setCell ⟨w.heap.size, 1, none⟩ (.int .i64 (i : Int))).setCell ⟨w.heap.size, 2, none⟩ (.int .i64 (K.gen k i : Int))) q (give K k i (K.gen k i)) ∧ Turn lo hi w (((W.setCell ⟨w.heap.size, 0, none⟩ (.int .i64 (k : Int))).setCell ⟨w.heap.size, 1, none⟩ (.int .i64 (i : Int))).setCell ⟨w.heap.size, 2, none⟩ (.int .i64 (K.gen k i : Int))))) := Lib.hid fun W hP => by
        have P2 := hP.setOut (Nat.le_refl _) (k : Int) (i : Int) (K.gen k i : Int)
        refine ⟨hP.resCells, Lib.hid ⟨P2.resCells.1, ?_, P2.tu⟩⟩
        refine RS.toGive h hgM ok P2.rs (fun a b e hx he => ?_) ?_ ?_ ?_ ?_ ?_ ?_
        · rw [hf2, up3_other (fun t => hx ⟨t.1, t.2.1⟩), up3_other (fun t => hx ⟨t.1, t.2.1⟩)]
        all_goals rw [hf2]; simp [up3, slotV]
      have F0 : Hid (f2 = up3 (up3 (slotV q K) k i 4 (.int .i64 (-1))) k i 5 (.bool true)) := Lib.hid hf2
      have t1 : ((k * K.m + i : Nat) : Int) < ((K.n * K.m : Nat) : Int) := by omega
      clear h h' P0 h0 h0' hs hk hk' hr hhd him e1 hgM ok RX hf2 hp
      show Calls _ _ _ _ fun e w' => e = .returned (.tuple #[.agg #[.int .i64 (k : Int), .int .i64 (i : Int), .int .i64 (K.gen k i : Int)], .int .i64 0]) ∧ RA w' q (give K k i (K.gen k i)) ∧ _
      generalize give K k i (K.gen k i) = K9 at *
      generalize (K.gen k i : Int) = y2 at *
      generalize slotV q K = f0 at *
      generalize k * K.m + i = p at *
      generalize K.n * K.m = N at *
      go_enter Try.func27, Try.ntmps27
      go_upto_region 7 with (first
        | (go_at_call 31; refine H1.out.mono ?_; rintro e w2 ⟨rfl, hb⟩; have F := FI.out w2 hb; clear hb FI H1)
        | (go_at_call 45; refine F.out.mono ?_; rintro e w3 ⟨rfl, P3⟩; clear F))
      replace P3 := P3.out
      have b0 := VW.out _ _ P3
      obtain ⟨e4, f4⟩ := CE.out _ _ 4 (by decide) P3
      have P4 := ST.out _ _ 4 (.int .i64 (-1)) (by decide) P3
      have b0' := VW.out _ _ P4
      obtain ⟨e5, f5⟩ := CE.out _ _ 5 (by decide) P4
      have P5 := ST.out _ _ 5 (.bool true) (by decide) P4
      rw [← F0.out] at P5
      replace P5 := Lib.hid P5
      have c0 := VW.out _ _ P5.out
      obtain ⟨c1, z1⟩ := CE.out _ _ 1 (by decide) P5.out
      obtain ⟨c2, z2⟩ := CE.out _ _ 2 (by decide) P5.out
      rw [E1.out] at c1
      rw [E2.out] at c2
      clear P3 P4 CE ST E1 E2 F0
      generalize hw5 : (w3.setCell ⟨q.b, p * 6 + 4, none⟩ (.int .i64 (-1))).setCell ⟨q.b, p * 6 + 5, none⟩ (.bool true) = w5 at *
      go_upto_region 9 with (fail)
      clear b0 e4 f4 b0' e5 f5 hw5
      go_still_tail 18, (by kernel_rfl)
      change wpList _ _ _ _ _ w5.drew
      have P6 := P5.out.drew
      clear c0 c1 c2 z1 z2 P5 VW
      obtain ⟨⟨⟨d0, d1, d2⟩, ⟨g0, g1, g2⟩⟩, HR⟩ := FIN.out _ P6
      clear P6 FIN
      generalize w5.drew = w6 at *
      go_wp2
      obtain ⟨⟨k0, k1, k2⟩, hP, hT⟩ := HR.out
      exact bodyPost_ret (v := .tuple #[.agg #[.int .i64 (k : Int), .int .i64 (i : Int), .int .i64 y2], .int .i64 0]) (by simp [results, Try.results27, go_sem, k0, k1, k2]) rfl ⟨rfl, hP, hT⟩
end
end Go.Proofs.Ytdanpdlbbgcidaa
