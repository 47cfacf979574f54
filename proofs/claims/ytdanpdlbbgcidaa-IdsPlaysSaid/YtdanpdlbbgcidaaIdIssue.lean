/- Issue. -/
import Derived.Test.YtdanpdlbbgcidaaIdAlive
namespace Go.Proofs.Ytdanpdlbbgcidaa
open Go.RowKit Ids
set_option linter.unusedVariables false

theorem set3_same {W : World} {b T : Nat} {u0 u1 u2 : Value} (h : W.heap[b]? = some (.cells #[u0, u1, u2] T (0, 0))) (v0 v1 v2 : Value) :
    (((W.setCell ⟨b, 0, none⟩ v0).setCell ⟨b, 1, none⟩ v1).setCell ⟨b, 2, none⟩ v2).heap[b]? = some (.cells #[v0, v1, v2] T (0, 0)) := by
  have h1 := heap_setCell_same W b 0 _ T v0 h
  have h2 := heap_setCell_same _ b 1 _ T v1 h1
  have h3 := heap_setCell_same _ b 2 _ T v2 h2
  rw [h3]
  rfl
theorem lat_below {W : World} (p : Lat grows W) : Below W.heap.size W p.W := p.h
theorem in_nat {K : St} {k i : Nat} (hk : k < K.n) (hi : i < K.m) : In K (k : Int) (i : Int) := by unfold In; omega
theorem genOf_nat {K : St} {k i : Nat} (hk : k < K.n) (hi : i < K.m) : genOf K (k : Int) (i : Int) = K.gen k i := by
  unfold genOf
  rw [if_pos (in_nat hk hi), Int.toNat_natCast, Int.toNat_natCast]
section
variable {w W : World} {p : Pl} {K : St}
theorem PA.set_out (h : PA W p K) {b o : Nat} (hb : p.hi ≤ b) (v : Value) : PA (W.setCell ⟨b, o, none⟩ v) p K :=
  h.kept (by simp) fun c h1 h2 => heap_ne (by omega) _
theorem Turn.set_out {lo hi : Nat} (h : Turn lo hi w W) {b o : Nat} (hb : w.heap.size ≤ b) (hl : lo ≤ w.heap.size) (v : Value) : Turn lo hi w (W.setCell ⟨b, o, none⟩ v) :=
  ⟨h.bel.setCell (show lo ≤ b by omega) v, fun c h1 h2 => (heap_ne (by omega) _).trans (h.up c h1 h2)⟩
/-- a result's struct, stored in its box -/
theorem res3 (h : PA W p K) (ht : Turn p.lo p.hi w W) (hl : p.lo ≤ w.heap.size) (hw : p.hi ≤ w.heap.size) {u0 u1 u2 : Value} (hb : W.heap[w.heap.size]? = some (.cells #[u0, u1, u2] 33 (0, 0))) (v0 v1 v2 : Value) :
    (W.cell? ⟨w.heap.size, 0, none⟩ = some u0 ∧ W.cell? ⟨w.heap.size, 1, none⟩ = some u1 ∧ W.cell? ⟨w.heap.size, 2, none⟩ = some u2) ∧ (W.frozen? ⟨w.heap.size, 0, none⟩ = false ∧ W.frozen? ⟨w.heap.size, 1, none⟩ = false ∧ W.frozen? ⟨w.heap.size, 2, none⟩ = false) ∧
    Hid (((((W.setCell ⟨w.heap.size, 0, none⟩ v0).setCell ⟨w.heap.size, 1, none⟩ v1).setCell ⟨w.heap.size, 2, none⟩ v2).cell? ⟨w.heap.size, 0, none⟩ = some v0 ∧ (((W.setCell ⟨w.heap.size, 0, none⟩ v0).setCell ⟨w.heap.size, 1, none⟩ v1).setCell ⟨w.heap.size, 2, none⟩ v2).cell? ⟨w.heap.size, 1, none⟩ = some v1 ∧ (((W.setCell ⟨w.heap.size, 0, none⟩ v0).setCell ⟨w.heap.size, 1, none⟩ v1).setCell ⟨w.heap.size, 2, none⟩ v2).cell? ⟨w.heap.size, 2, none⟩ = some v2) ∧
      PA (((W.setCell ⟨w.heap.size, 0, none⟩ v0).setCell ⟨w.heap.size, 1, none⟩ v1).setCell ⟨w.heap.size, 2, none⟩ v2) p K ∧ Turn p.lo p.hi w (((W.setCell ⟨w.heap.size, 0, none⟩ v0).setCell ⟨w.heap.size, 1, none⟩ v1).setCell ⟨w.heap.size, 2, none⟩ v2)) := by
  obtain ⟨c, f⟩ := box3 hb
  refine ⟨c, f, Lib.hid ⟨(box3 (set3_same hb v0 v1 v2)).1, ((h.set_out hw _).set_out hw _).set_out hw _, ((ht.set_out (Nat.le_refl _) hl _).set_out (Nat.le_refl _) hl _).set_out (Nat.le_refl _) hl _⟩⟩
set_option maxHeartbeats 4000000 in
theorem issue_any (h : PA w p K) (k : Int) :
    Calls Try.prog 23 #[.pointer (some ⟨p.d, 0, none⟩), .int .i64 k] w fun e w' => e = .returned (.tuple #[.agg #[.int .i64 (issue K k).2.1.1, .int .i64 ((issue K k).2.1.2.1 : Nat), .int .i64 ((issue K k).2.1.2.2 : Nat)], .int .i64 ((issue K k).2.2 : Nat)]) ∧ PA w' p (issue K k).1 ∧ Turn p.lo p.hi w w' := by
  have b1 := bel1 w (.cells #[.int .i64 0, .int .i64 0, .int .i64 0] 33)
  have a1 := at1 w (.cells #[.int .i64 0, .int .i64 0, .int .i64 0] 33)
  have H1 := Lib.hid (head_any (h.below b1) k)
  have lo := h.lo_le
  have hi := h.top
  have szlt := heap_lt a1
  have RX : Hid (∀ W, Below (w.alloc (.cells #[.int .i64 0, .int .i64 0, .int .i64 0] 33)).heap.size (w.alloc (.cells #[.int .i64 0, .int .i64 0, .int .i64 0] 33)) W →
      PA W p K ∧ Turn p.lo p.hi w W ∧ W.heap[w.heap.size]? = some (.cells #[.int .i64 0, .int .i64 0, .int .i64 0] 33 (0, 0))) := Lib.hid fun W hW =>
    ⟨(h.below b1).below hW, Turn.of (b1.trans (hW.mono b1.size)) lo, (hW.block _ szlt).trans a1⟩
  unfold Ids.issue
  by_cases h0 : (head K k).2.2 ≠ 0
  · rw [if_pos h0]
    have t1 : (((head K k).2.2 : Int) == 0) = false := beq_eq_false_iff_ne.2 (by omega)
    have t2 : (((head K k).2.2 : Int) != 0) = true := by rw [bne, t1]; rfl
    clear h a1 b1 h0 szlt
    generalize (head K k).2.2 = n2 at *
    generalize (head K k).2.1 = n1 at *
    generalize (head K k).1 = n0 at *
    go_enter Try.func23, Try.ntmps23
    go_wp2_with (go_at_call 22; refine H1.out.mono ?_; rintro e w2 ⟨rfl, hb⟩; obtain ⟨P2, T2, B2⟩ := RX.out w2 hb; obtain ⟨⟨c0, c1, c2⟩, ⟨f0, f1, f2⟩, HR⟩ := res3 P2 T2 lo hi B2 (.int .i64 0) (.int .i64 0) (.int .i64 0); clear P2 T2 B2 hb)
    obtain ⟨⟨k0, k1, k2⟩, hP, hT⟩ := HR.out
    exact bodyPost_ret (v := .tuple #[.agg #[.int .i64 0, .int .i64 0, .int .i64 0], .int .i64 (n2 : Int)]) (by simp [results, Try.results23, go_sem, k0, k1, k2]) rfl ⟨rfl, hP, hT⟩
  · rw [if_neg h0]
    rw [Decidable.not_not] at h0
    rw [h0] at H1
    by_cases hs : (head K k).2.1 = false
    · rw [if_pos hs]
      rw [hs] at H1
      clear h a1 b1 h0 szlt hs
      generalize (head K k).1 = n0 at *
      go_enter Try.func23, Try.ntmps23
      go_wp2_with (go_at_call 22; refine H1.out.mono ?_; rintro e w2 ⟨rfl, hb⟩; obtain ⟨P2, T2, B2⟩ := RX.out w2 hb; obtain ⟨⟨c0, c1, c2⟩, ⟨f0, f1, f2⟩, HR⟩ := res3 P2 T2 lo hi B2 (.int .i64 0) (.int .i64 0) (.int .i64 0); clear P2 T2 B2 hb)
      obtain ⟨⟨k0, k1, k2⟩, hP, hT⟩ := HR.out
      exact bodyPost_ret (v := .tuple #[.agg #[.int .i64 0, .int .i64 0, .int .i64 0], .int .i64 14]) (by simp [results, Try.results23, go_sem, k0, k1, k2]) rfl ⟨rfl, hP, hT⟩
    · rw [if_neg hs]
      rw [Bool.not_eq_false] at hs
      rw [hs] at H1
      have hk : 0 ≤ k ∧ k < K.n := by
        refine Decidable.byContradiction fun hc => ?_
        have : (head K k).2.2 = 1 := by unfold Ids.head; rw [if_neg hc]
        omega
      obtain ⟨k, rfl⟩ : ∃ k' : Nat, k = (k' : Int) := ⟨k.toNat, by omega⟩
      have hk' : k < K.n := by omega
      have him : (head K (k : Int)).1 < K.m := by
        unfold Ids.head at h0 ⊢
        rw [if_pos hk, Int.toNat_natCast] at h0 ⊢
        cases hr : K.row k with
        | nil => rw [hr] at h0; simp at h0
        | cons i rest => exact h.ok.lt k hk' i (by rw [hr]; exact List.mem_cons_self)
      rw [Int.toNat_natCast]
      generalize (head K (k : Int)).1 = i at *
      have gle := h.ok.gen k i
      have hG : ∀ W, PA W p K → Calls Try.prog 24 #[.pointer (some ⟨p.d, 0, none⟩), .int .i64 (k : Int), .int .i64 (i : Int)] W fun e w' => e = .returned (.int .i64 (K.gen k i : Int)) ∧ W = w' := fun W hW => by
        have := gen_any hW (k : Int) (i : Int)
        rw [show genOf K (k : Int) (i : Int) = K.gen k i from genOf_nat hk' him] at this
        exact this
      have RY : Hid (∀ W2, Below (w.alloc (.cells #[.int .i64 0, .int .i64 0, .int .i64 0] 33)).heap.size (w.alloc (.cells #[.int .i64 0, .int .i64 0, .int .i64 0] 33)) W2 →
          Hid (Calls Try.prog 24 #[.pointer (some ⟨p.d, 0, none⟩), .int .i64 (k : Int), .int .i64 (i : Int)] W2 fun e w' => e = .returned (.int .i64 (K.gen k i : Int)) ∧ W2 = w') ∧
          ∃ (W3 : World), W3 = W2.alloc (.cells #[.int .i64 (k : Int), .int .i64 (i : Int), .int .i64 (K.gen k i : Int)] 33) ∧ W2.heap.size < W3.heap.size ∧
          W3.cell? ⟨W2.heap.size, 2, none⟩ = some (.int .i64 (K.gen k i : Int)) ∧
          Hid (∀ W, Below W3.heap.size W3 W → Calls Try.prog 36 #[.pointer (some ⟨p.d, 0, none⟩), .int .i64 (k : Int)] W fun e w' => e = .returned (.pointer (some ⟨p.q, 2 * k, none⟩)) ∧ W = w') ∧
          Hid (∀ W, Below W3.heap.size W3 W → Calls Try.prog 39 #[.pointer (some ⟨p.q, 2 * k, none⟩), .int .i64 (i : Int), .int .i64 (K.gen k i : Int)] W fun e w4 => e = .returned (.tuple #[]) ∧
            PA w4 p (give K k i (K.gen k i)) ∧ Turn p.lo p.hi w w4 ∧ w4.heap[w.heap.size]? = some (.cells #[.int .i64 0, .int .i64 0, .int .i64 0] 33 (0, 0)) ∧
            (w4.cell? ⟨W2.heap.size, 0, none⟩ = some (.int .i64 (k : Int)) ∧ w4.cell? ⟨W2.heap.size, 1, none⟩ = some (.int .i64 (i : Int)) ∧ w4.cell? ⟨W2.heap.size, 2, none⟩ = some (.int .i64 (K.gen k i : Int))))) := by
        refine Lib.hid fun W2 hb => ?_
        obtain ⟨P2, T2, B2⟩ := RX.out W2 hb
        have P3 := P2.below (bel1 W2 (.cells #[.int .i64 (k : Int), .int .i64 (i : Int), .int .i64 (K.gen k i : Int)] 33))
        refine ⟨Lib.hid (hG W2 P2), _, rfl, by simp, (box3 (at1 W2 _)).1.2.2, Lib.hid fun W hW => pat_in (P3.below hW) hk', Lib.hid fun W hW => ?_⟩
        refine (give_any (P3.below hW) hk' him gle).mono ?_
        rintro e w4 ⟨rfl, h4, t4⟩
        have hT3 : Turn p.lo p.hi w (W2.alloc (.cells #[.int .i64 (k : Int), .int .i64 (i : Int), .int .i64 (K.gen k i : Int)] 33)) := T2.below P2.lo_le (bel1 W2 _)
        have ht := P2.top
        have b2lt := heap_lt B2
        have s3 : W2.heap.size + 1 ≤ W.heap.size := by have := hW.size; simp at this; omega
        refine ⟨rfl, h4, (hT3.below P3.lo_le hW).trans t4, ?_, ?_⟩
        · exact (t4.up _ hi (by omega)).trans ((hW.block _ (by simp; omega)).trans (((bel1 W2 _).block _ b2lt).trans B2))
        · exact (box3 ((t4.up W2.heap.size ht (by omega)).trans ((hW.block _ (by simp)).trans (at1 W2 _)))).1
      clear RX h a1 b1 h0 szlt hs hk hk' him hG gle
      generalize give K k i (K.gen k i) = K' at *
      generalize K.gen k i = g at *
      generalize 2 * k = o at *
      go_enter Try.func23, Try.ntmps23
      go_wp2_with (first
        | (go_at_call 22; refine H1.out.mono ?_; rintro e w2 ⟨rfl, hb⟩; obtain ⟨HG, w3, hw3, lt3, d2, HA, HV⟩ := RY.out w2 hb; clear hb)
        | (go_at_call 24; refine HG.out.mono ?_; rintro e w' ⟨rfl, rfl⟩))
      rw [← hw3]
      clear hw3 RY H1
      refine Og.grow 6 (by kernel_rfl) (by kernel_rfl) fun hc hf => ?_
      have d2' : ∀ p : Lat grows w3, p.W.cell? ⟨w2.heap.size, 2, none⟩ = some (Value.int .i64 (g : Int)) := fun p => (hc p _ _ lt3).trans d2
      clear hc hf
      simp only [List.take_succ_cons, List.take_zero, List.drop_succ_cons, List.drop_zero]
      repeat (refine Og.det [] rfl (fun J hJ => ?_); go_simp; first | (refine hJ _ _ ?_; clear hJ J) | (with_reducible refine ⟨_, fun p => Og.same (HA.out _ (lat_below p)), hJ _ _ ?_⟩; clear hJ J))
      refine Og.fin fun W hW => ?_
      simp only [Og.opened_nil]
      have HV := Lib.hid (HV.out W hW)
      clear d2' d2 HA hW
      go_wp2_with (go_at_call 39; refine HV.out.mono ?_; rintro e w4 ⟨rfl, P4, T4, B4, ⟨e0, e1, e2⟩⟩; obtain ⟨⟨c0, c1, c2⟩, ⟨f0, f1, f2⟩, HR⟩ := res3 P4 T4 lo hi B4 (.int .i64 (k : Int)) (.int .i64 (i : Int)) (.int .i64 (g : Int)); clear P4 T4 B4)
      obtain ⟨⟨k0, k1, k2⟩, hP, hT⟩ := HR.out
      exact bodyPost_ret (v := .tuple #[.agg #[.int .i64 (k : Int), .int .i64 (i : Int), .int .i64 (g : Int)], .int .i64 0]) (by simp [results, Try.results23, go_sem, k0, k1, k2]) rfl ⟨rfl, hP, hT⟩
end
end Go.Proofs.Ytdanpdlbbgcidaa
