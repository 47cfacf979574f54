/- The document's store: Copy. -/
import Derived.Test.YteohkbepefjjlaaKArRAll
namespace Go.Proofs.Yteohkbepefjjlaa
open Go.RowKit Pz Ar
set_option linter.unusedVariables false
set_option linter.unusedSimpArgs false

/-- a row of one's own from block B on that has these -/
def OwnBP (B : Nat) (l : List Bn) : Og.Ph := fun v W => ∃ A c, v = .slice A l.length c ∧ OwnB W B v l
theorem ownBP_lasts (B : Nat) (l : List Bn) : Og.Lasts grows (OwnBP B l) := fun _ _ _ ⟨A, c, e, h⟩ hr => ⟨A, c, e, h.below hr⟩
theorem ownBP_noBool (B : Nat) (l : List Bn) : Og.NoBool (OwnBP B l) := fun _ _ ⟨_, _, e, _⟩ => by cases e
/-- an append that lays memory alone, as one step of a drawn region -/
theorem og_append {W : World} {φ : Og.Ph} {o : Oper} {a : Act} (s x : Operand) (t t' : TypeId) (hop : o.op = Op.call { callee := Callee.builtin Builtin.append, args := #[s, x], argTypes := #[t, t'] }) (v xv : Value) (hs : a.eval s = v) (hx : a.eval x = xv)
    (h : ∃ v' w', (Builtin.append_ #[t, t'] o.type #[v, xv]).run Try.prog W = .ok v' w' ∧ grows.r W w' ∧ φ v' w') : Og.one Try.prog grows W φ ((execOp a.eval o).run Try.prog W) := by
  obtain ⟨v', w', hr, h1, h2⟩ := h
  simp [execOp, hop, resolve, invoke, builtin, hs, hx, hr, Result.andThen]
  exact ⟨h1, h2⟩
theorem app_alone {W : World} {B2 c : Nat} {A : Option Addr} {l : List Bn} (ho : OwnB W B2 (.slice A l.length c) l) (hl : l.length ≤ 1000000) (B : Nat) (hB : B ≤ W.heap.size) (ty : TypeId) :
    ∃ v' w', (Builtin.append_ #[26, 26] ty #[.slice none 0 0, .slice A l.length c]).run Try.prog W = .ok v' w' ∧ grows.r W w' ∧ OwnBP B l v' w' := by
  obtain ⟨v', w', hr, h1, h2⟩ := app_all (B := B2) ho hl ty
  obtain ⟨A', c', e⟩ := h1.form
  exact ⟨v', w', hr, below_row (Below.refl _ _) h2 (Nat.le_refl _) (fun g e => by cases e), A', c', e, h1.base hB⟩
theorem rs_new (w : World) : RS (Gr Foot.no w.heap.size (w.heap.size + 1)) w.heap.size (fun _ => []) (w.alloc (.cells (Array.replicate 32 (.slice none 0 0)) ST)) := by
  refine ⟨⟨_, at1 w _, by simp, tabs_none fun m hm => by simp [hm]⟩, .inr ⟨Nat.le_refl _, Nat.lt_succ_self _⟩, fun b hb => ?_⟩
  rw [size1]
  rcases hb with hb | hb
  · cases hb
  · exact hb.2
theorem upto_up (t : Tb) {j : Nat} : Ar.up (upto t j 0) j (t j) = upto t (j + 1) 0 := by
  rw [← upto_table]
  funext a
  unfold Ar.up upto
  by_cases e : a = j
  · subst e
    simp
  · rw [if_neg e]
    split
    · rfl
    · simp
set_option maxHeartbeats 8000000 in
set_option maxRecDepth 100000 in
theorem rcopy_any {F : Foot} {p : Nat} {t : Tb} {w : World} (h : RS F p t w) (hz : ∀ m, 32 ≤ m → t m = []) : Calls Try.prog 29 #[.pointer (some ⟨p, 0, none⟩)] w fun e w' => e = .returned (.pointer (some ⟨w.heap.size, 0, none⟩)) ∧ RS (Gr Foot.no w.heap.size w'.heap.size) w.heap.size t w' ∧ Below w.heap.size w w' := by
  have HA : Hid (∀ W, Below w.heap.size w W → ∀ m, m < 32 → ∃ A c, W.cell? ⟨p, m, none⟩ = some (.slice A (t m).length c) ∧ OwnB W 0 (.slice A (t m).length c) (t m)) := Lib.hid fun W hW m hm => (h.below hW).at_ hm
  have HF := Lib.hid h.few
  have hp := h.lt p h.mine
  have FIN : Hid (upto t 32 0 = t) := Lib.hid (by
    funext a
    unfold upto
    by_cases e : a < 32
    · rw [if_pos e]
    · rw [if_neg e, hz a (by omega)]
      split
      · rename_i e; subst e; simp [hz]
      · rfl)
  have R0 := rs_new w
  rw [← upto_zero t] at R0
  have B0 := bel1 w (.cells (Array.replicate 32 (.slice none 0 0)) ST)
  have s0 := size1 w (.cells (Array.replicate 32 (.slice none 0 0)) ST)
  rw [← s0] at R0
  have N0 : Hid (∀ a, 0 ≤ a → a < 32 → (w.alloc (.cells (Array.replicate 32 (.slice none 0 0)) ST)).cell? ⟨w.heap.size, a, none⟩ = some (.slice none 0 0)) := Lib.hid fun a _ ha => (Bx.cell (at1 w (.cells (Array.replicate 32 (.slice none 0 0)) ST)) (by simp [ha])).1
  replace R0 := Lib.hid R0
  replace B0 := Lib.hid B0
  clear h hz s0
  go_enter Try.func29, Try.ntmps29
  go_wp2
  go_loopw [4] (fun ix wr => ∃ m : Nat, m ≤ 32 ∧ ix = .int .i64 m ∧ Hid (RS (Gr Foot.no w.heap.size wr.heap.size) w.heap.size (upto t m 0) wr) ∧ Hid (∀ a, m ≤ a → a < 32 → wr.cell? ⟨w.heap.size, a, none⟩ = some (.slice none 0 0)) ∧ Hid (Below w.heap.size w wr)) (fun ix _ => 32 - (intOf ix).toNat)
  case atStart => exact ⟨0, Nat.zero_le _, rfl, R0, N0, B0⟩
  case round =>
    obtain ⟨m, hm, rfl, HO, HN, HB⟩ := hrel
    clear R0 B0 N0
    by_cases hml : m < 32
    · have t1 : (m : Int) < 32 := by omega
      have PA : Hid (∀ W, Below wr.heap.size wr W → ∃ A c, W.cell? ⟨p, m, none⟩ = some (.slice A (t m).length c) ∧ OwnB W 0 (.slice A (t m).length c) (t m)) := Lib.hid fun W hW => HA.out W (HB.out.trans (hW.mono HB.out.size)) m hml
      obtain ⟨A, c, hc, ho⟩ := HA.out wr HB.out m hml
      have hcq := HN.out m (Nat.le_refl _) hml
      have hq1 : w.heap.size < wr.heap.size := HO.out.lt _ HO.out.mine
      have hp1 : p < wr.heap.size := by omega
      have APP : Hid (∀ W, Below wr.heap.size wr W → ∃ v' w', (Builtin.append_ #[26, 26] 26 #[.slice none 0 0, .slice A (t m).length c]).run Try.prog W = .ok v' w' ∧ grows.r W w' ∧ OwnBP wr.heap.size (t m) v' w') := Lib.hid fun W hW =>
        app_alone (ho.below hW) (by have := HF.out m; omega) wr.heap.size hW.size _
      have END : Hid (∀ W, Below wr.heap.size wr W → ∀ v, OwnBP wr.heap.size (t m) v W → ∃ A' n' c', v = .slice A' n' c' ∧ W.cell? ⟨w.heap.size, m, none⟩ = some (.slice none 0 0) ∧ W.frozen? ⟨w.heap.size, m, none⟩ = false ∧
          Hid (RS (Gr Foot.no w.heap.size (W.setCell ⟨w.heap.size, m, none⟩ v).heap.size) w.heap.size (upto t (m + 1) 0) (W.setCell ⟨w.heap.size, m, none⟩ v) ∧ (∀ a, m + 1 ≤ a → a < 32 → (W.setCell ⟨w.heap.size, m, none⟩ v).cell? ⟨w.heap.size, a, none⟩ = some (.slice none 0 0)) ∧ Below w.heap.size w (W.setCell ⟨w.heap.size, m, none⟩ v))) := Lib.hid fun W hW v ⟨A', c', e, hv⟩ => by
        have hcW := (hW.cell (p := ⟨w.heap.size, m, none⟩) hq1).trans hcq
        obtain ⟨cs, h1, h2, _⟩ := (HO.out.below hW).head
        have hfz : W.frozen? ⟨w.heap.size, m, none⟩ = false := (Bx.cell h1 (v := cs[m]'(by omega)) (by simp)).2
        refine ⟨A', _, c', e, hcW, hfz, Lib.hid ⟨?_, fun a h1 h2 => ?_, (HB.out.trans (hW.mono HB.out.size)).setCell (p := ⟨w.heap.size, m, none⟩) (Nat.le_refl _) _⟩⟩
        · have := HO.out.up hW.size (fun k hk => hW.block k hk) hml (hv.base (Nat.zero_le _)) (HF.out m) (fun g hg => (hv.blk hg).1)
          rw [upto_up, Gr.gr HB.out.size hW.size] at this
          rw [World.size_setCell]
          exact this
        · rw [World.cell?_setCell_other _ _ _ _ (fun e => by cases e; omega)]
          exact (hW.cell (p := ⟨w.heap.size, a, none⟩) hq1).trans (HN.out a (by omega) h2)
      clear ho HA PA HO HN FIN HF
      go_wp2
      refine Og.grow 18 (by kernel_rfl) (by kernel_rfl) fun hc' hf' => ?_
      simp only [List.take_succ_cons, List.take_zero, List.drop_succ_cons, List.drop_zero]
      iterate 14 (refine Og.det [] rfl (fun K hK => ?_); go_simp; refine hK _ _ ?_; clear hK K)
      refine Og.such 25 (OwnBP wr.heap.size (t m)) [] rfl (ownBP_lasts _ _) (ownBP_noBool _ _) (fun K hK => ?_)
      refine ⟨by simp [Region.wanted], rfl, by simp, fun p => ?_, hK _ _ ?_⟩
      · rw [Og.opened_nil]
        exact og_append (.tmp 18) (.tmp 24) _ _ rfl _ _ (by simp [Act.eval]) (by simp [Act.eval]) (APP.out p.W p.h)
      clear hK K
      iterate 3 (refine Og.det [] rfl (fun K hK => ?_); go_simp; refine hK _ _ ?_; clear hK K)
      refine Og.fin fun W hW => ?_
      simp only [Og.opened_cons, Og.opened_nil]
      intro v hv
      obtain ⟨A', n', c', rfl, hcW, hfW, FX⟩ := END.out W hW v hv
      clear hc' hf' hc hcq APP END hv
      go_wp2
      go_roundw
      case rel => exact ⟨m + 1, by omega, by go_num, Lib.hid FX.out.1, Lib.hid FX.out.2.1, Lib.hid FX.out.2.2⟩
      case measure => simp [intOf]; omega
    · obtain rfl : m = 32 := by omega
      have t1 : ¬ (32 : Int) < 32 := by omega
      have HO2 := HO.out
      rw [FIN.out] at HO2
      go_wp2
      go_ret
      exact ⟨rfl, HO2, HB.out⟩
end Go.Proofs.Yteohkbepefjjlaa
