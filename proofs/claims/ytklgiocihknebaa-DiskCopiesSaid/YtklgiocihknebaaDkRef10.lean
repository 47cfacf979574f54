/- The document's Copy. -/
import Derived.Test.YtklgiocihknebaaDkRef9
namespace Go.Proofs.Ytklgiocihknebaa
open Go.RowKit Go.Maps Dk
set_option linter.unusedVariables false

theorem set4_below {B : Nat} {w W : World} (h : Below B w W) (b : Nat) (hb : B ≤ b) (v0 v1 v2 v3 : Value) : Below B w ((((W.setCell ⟨b, 0, none⟩ v0).setCell ⟨b, 1, none⟩ v1).setCell ⟨b, 2, none⟩ v2).setCell ⟨b, 3, none⟩ v3) :=
  (((h.setCell hb v0).setCell hb v1).setCell hb v2).setCell hb v3
/-- a copy, as it is handed back -/
def CopyV (W : World) (B : Nat) (K : St) (u : Value) : Prop := ∃ v q, u = .agg #[v, .bool K.room.isSome, .int .i64 q, .bool K.dead] ∧ (∃ A n c, v = .slice A n c) ∧ (∀ n, K.room = some n → q = (n : Int)) ∧ OwnF W B v K.L

set_option maxHeartbeats 16000000 in
set_option maxRecDepth 100000 in
theorem rcopy_any (w : World) {B d : Nat} {K : St} (h : RefAt w B d K) :
    Calls Try.prog 28 #[.pointer (some ⟨d, 0, none⟩)] w fun e w' => (∃ u, e = .returned u ∧ CopyV w' w.heap.size K u) ∧ Below w.heap.size w w' := by
  obtain ⟨v, q, h⟩ := h
  have hfew := h.ok.few
  have hal := bel1 w (.cells #[.slice none 0 0, .bool false, .int .i64 0, .bool false] 28)
  have hsz := size1 w (.cells #[.slice none 0 0, .bool false, .int .i64 0, .bool false] 28)
  have hbx := at1 w (.cells #[.slice none 0 0, .bool false, .int .i64 0, .bool false] 28)
  obtain ⟨w1, hw1⟩ : ∃ w1, w.alloc (.cells #[.slice none 0 0, .bool false, .int .i64 0, .bool false] 28) = w1 := ⟨_, rfl⟩
  rw [hw1] at hal hsz hbx
  have h1 := h.below hal
  have hrow := h1.row
  obtain ⟨vb, w2, r2, o2, b2, l2⟩ : ∃ vb w2, (Builtin.append_ #[26, 26] 26 #[.slice none 0 0, v]).run Try.prog w1 = .ok vb w2 ∧ w2.ownsRow w1.heap.size 70 3 vb K.L.length (rcells K.L) ∧ Below w1.heap.size w1 w2 ∧ True := by
    rcases hrow.2 with ⟨hv, hl⟩ | ⟨g, c, cur, hv, _, _, hcap, _⟩
    · have hL : K.L = [] := List.length_eq_zero_iff.1 hl
      refine ⟨.slice none 0 0, w1, by rw [hv]; exact append_nought w1 (World.ownsRow_nil w1 w1.heap.size _ 3) _, by rw [hL]; exact World.ownsRow_nil _ _ _ _, Below.refl _ _, trivial⟩
    · have hrow' := hrow
      rw [hv] at hrow'
      have hf := row_from hrow' 0 (Nat.zero_le _)
      rw [Nat.zero_mul, List.drop_zero] at hf
      obtain ⟨vb, w2, r, o, g2, _⟩ := append_rows w1 (World.ownsRow_nil w1 w1.heap.size _ 3) ⟨g, 0, none⟩ K.L.length c (rcells K.L) (by rw [rcells_len]) hf (rcells_oneCell _) (by omega) (Nat.le_refl _) 26
      rw [Nat.zero_add, List.nil_append] at o
      exact ⟨vb, w2, by rw [hv]; exact r, o, ⟨g2.os, g2.tape, g2.output, g2.size, fun k hk => g2.block k hk (by simp [Value.ownBlock])⟩, trivial⟩
  obtain ⟨A2, c2, hform2⟩ := ownf_form o2
  obtain ⟨A1, c1, hform1⟩ := h1.form
  obtain ⟨⟨c0, _, _, _⟩, _⟩ := box4 h1.box
  have box2' := (b2.block d h1.lt).trans h1.box
  obtain ⟨⟨k0, k1, k2, k3⟩, _⟩ := box4 box2'
  have hbx2 := (b2.block w.heap.size (by rw [hsz]; omega)).trans hbx
  have hd2 := heap_lt box2'
  have hfb2 := heap_lt hbx2
  have HB2 : Hid (Below w.heap.size w w2) := Lib.hid (hal.trans (b2.mono (by omega)))
  have HO2 : Hid (OwnF w2 w1.heap.size vb K.L) := Lib.hid o2
  have HX2 := Lib.hid hbx2
  have HR := Lib.hid r2
  have HQ := Lib.hid h.room
  have hne : d ≠ w.heap.size := Nat.ne_of_lt h.lt
  have HSZ := Lib.hid hsz
  rw [hform1] at c0 k0 HR
  clear h h1 hrow r2 o2 b2 hal hbx hsz hform1 box2' hbx2
  subst hform2
  have HRM : Hid (∀ n, K.room = some n → q = (n : Int)) := HQ
  generalize hq1 : K.room.isSome = q1 at *
  generalize hq3 : K.dead = q3 at *
  have HQ1 := Lib.hid (And.intro hq1 hq3)
  clear hq1 hq3
  subst hw1
  go_enter Try.func28, Try.ntmps28
  go_wp2_with (at_builtin; refine wpList_append _ rfl (.tmp 4) (.tmp 8) _ _ rfl (.slice none 0 0) (.slice A1 K.L.length c1) rfl rfl _ _ HR.out ?_)
  clear HR c0
  refine Og.grow 14 (by kernel_rfl) (by kernel_rfl) fun hc hf => ?_
  simp only [List.take_succ_cons, List.take_zero, List.drop_succ_cons, List.drop_zero]
  iterate 14 (refine Og.det [] rfl (fun J hJ => ?_); go_simp; refine hJ _ _ ?_; clear hJ J)
  refine Og.fin fun W hW => ?_
  simp only [Og.opened_nil]
  clear hc hf
  have hx := (hW.block w.heap.size hfb2).trans HX2.out
  obtain ⟨⟨j0, j1, j2, j3⟩, i0, i1, i2, i3⟩ := box4 hx
  have X4 := set4_same hx (.slice A2 K.L.length c2) (.bool q1) (.int .i64 q) (.bool q3)
  obtain ⟨⟨u0, u1, u2, u3⟩, _⟩ := box4 X4
  have HF : Hid (OwnF ((((W.setCell ⟨w.heap.size, 0, none⟩ (.slice A2 K.L.length c2)).setCell ⟨w.heap.size, 1, none⟩ (.bool q1)).setCell ⟨w.heap.size, 2, none⟩ (.int .i64 q)).setCell ⟨w.heap.size, 3, none⟩ (.bool q3)) w.heap.size (.slice A2 K.L.length c2) K.L ∧ Below w.heap.size w ((((W.setCell ⟨w.heap.size, 0, none⟩ (.slice A2 K.L.length c2)).setCell ⟨w.heap.size, 1, none⟩ (.bool q1)).setCell ⟨w.heap.size, 2, none⟩ (.int .i64 q)).setCell ⟨w.heap.size, 3, none⟩ (.bool q3))) := by
    refine Lib.hid ⟨?_, set4_below (HB2.out.trans (hW.mono HB2.out.size)) _ (Nat.le_refl _) _ _ _ _⟩
    have ho := ownf_below HO2.out hW
    refine ⟨ho.1, (row_kept ho fun b hb => set4_other (fun e => ?_) _ _ _ _).2.imp id fun ⟨g, cap, cur, a, b, d⟩ => ⟨g, cap, cur, a, by have := HSZ.out; omega, d⟩⟩
    have := (World.ownsRow.lt ho b hb).1
    have := HSZ.out
    omega
  clear X4 hx
  go_wp2
  generalize ((((W.setCell ⟨w.heap.size, 0, none⟩ (.slice A2 K.L.length c2)).setCell ⟨w.heap.size, 1, none⟩ (.bool q1)).setCell ⟨w.heap.size, 2, none⟩ (.int .i64 q)).setCell ⟨w.heap.size, 3, none⟩ (.bool q3)) = W4 at *
  (try simp only [Exit.inBlock, Exit.then])
  exact bodyPost_ret (v := .agg #[.slice A2 K.L.length c2, .bool q1, .int .i64 q, .bool q3]) (by simp [results, Try.results28, go_sem, u0, u1, u2, u3]) rfl ⟨⟨_, rfl, _, _, by rw [HQ1.out.1, HQ1.out.2], ⟨_, _, _, rfl⟩, HQ.out, HF.out.1⟩, HF.out.2⟩
end Go.Proofs.Ytklgiocihknebaa
