/- The order of names. Written by wip/tools/genlawp.py. -/
import Derived.Test.YtookmjdnmmfkfaaPcAwake
import Derived.Test.YtookmjdnmmfkfaaPcCode7
import Derived.Test.YtookmjdnmmfkfaaPcAlg
import Derived.Test.YtookmjdnmmfkfaaOw
namespace Go.Proofs.Ytookmjdnmmfkfaa
open Go.RowKit Pz
set_option linter.unusedVariables false

theorem wpList_pass {P : Program} {w : World} {ops : Array Oper} {rest : List Oper} {o : Oper} {a : Act} {Q : Exit → Act → World → Prop} (hw : Region.wanted o (yielded ops a.tmps) = false) (h : wpList P ops Q rest (a.put o.dst undef) w) : wpList P ops Q (o :: rest) a w := by
  show (if _ then _ else _)
  rw [if_neg (by rw [hw]; exact Bool.false_ne_true)]
  exact h
theorem wpList_want {P : Program} {w : World} {ops : Array Oper} {rest : List Oper} {o : Oper} {a : Act} {Q : Exit → Act → World → Prop} (hw : Region.wanted o (yielded ops a.tmps) = true) (h : ∀ K : Act → World → Prop, (∀ a w, wpList P ops Q rest a w → K a w) → o.wp P a w K Q) : wpList P ops Q (o :: rest) a w := by
  show (if _ then _ else _)
  rw [if_pos hw]
  exact .inl (h _ fun _ _ h => h)
namespace Pz
theorem cmpB_trans (a b c : NK) (h1 : ¬ cmpB a b > 0) (h2 : ¬ cmpB b c > 0) : cmpB a c = min (cmpB a b) (cmpB b c) := by
  rcases cmpB_cases a b with ⟨p1, p2⟩ | ⟨p1, p2⟩ | ⟨p1, p2⟩
  · rcases cmpB_cases b c with ⟨q1, q2⟩ | ⟨q1, q2⟩ | ⟨q1, q2⟩
    · rcases cmpB_cases a c with ⟨r1, r2⟩ | ⟨r1, r2⟩ | ⟨r1, r2⟩
      · rw [p2, q2, r2]; rfl
      · have := before_asym (before_trans p1 q1); rw [r1] at this; cases this
      · have := before_trans p1 q1; rw [r1, before_irr] at this; cases this
    · rw [q2] at h2; omega
    · subst q1; rw [p2, q2]; rfl
  · rw [p2] at h1; omega
  · subst p1
    rcases cmpB_cases a c with ⟨r1, r2⟩ | ⟨r1, r2⟩ | ⟨r1, r2⟩
    · rw [p2, r2]; rfl
    · rw [r2] at h2; omega
    · rw [p2, r2]; rfl
end Pz
set_option maxHeartbeats 16000000 in
set_option maxRecDepth 100000 in
theorem law_orders (w : World) (a1 a2 a3 b1 b2 b3 c1 c2 c3 : Int) : Calls Try.prog 6 #[.agg #[.int .i64 a1, .int .i64 a2, .int .i64 a3], .agg #[.int .i64 b1, .int .i64 b2, .int .i64 b3], .agg #[.int .i64 c1, .int .i64 c2, .int .i64 c3]] w fun e w' => e = .returned (.bool true) ∧ Below w.heap.size w w' := by
  have C1 : Hid (∀ W, Calls Try.prog 24 #[.agg #[.int .i64 a1, .int .i64 a2, .int .i64 a3], .agg #[.int .i64 b1, .int .i64 b2, .int .i64 b3]] W fun e w' => e = .returned (.int .i64 (cmpB (a1, a2, a3) (b1, b2, b3))) ∧ Below W.heap.size W w') := Lib.hid fun W => compare_any _ _ _ _ _ _ W
  have C2 : Hid (∀ W, Calls Try.prog 24 #[.agg #[.int .i64 b1, .int .i64 b2, .int .i64 b3], .agg #[.int .i64 c1, .int .i64 c2, .int .i64 c3]] W fun e w' => e = .returned (.int .i64 (cmpB (b1, b2, b3) (c1, c2, c3))) ∧ Below W.heap.size W w') := Lib.hid fun W => compare_any _ _ _ _ _ _ W
  have C3 : Hid (∀ W, Calls Try.prog 24 #[.agg #[.int .i64 b1, .int .i64 b2, .int .i64 b3], .agg #[.int .i64 a1, .int .i64 a2, .int .i64 a3]] W fun e w' => e = .returned (.int .i64 (cmpB (b1, b2, b3) (a1, a2, a3))) ∧ Below W.heap.size W w') := Lib.hid fun W => compare_any _ _ _ _ _ _ W
  have C4 : Hid (∀ W, Calls Try.prog 24 #[.agg #[.int .i64 a1, .int .i64 a2, .int .i64 a3], .agg #[.int .i64 a1, .int .i64 a2, .int .i64 a3]] W fun e w' => e = .returned (.int .i64 (cmpB (a1, a2, a3) (a1, a2, a3))) ∧ Below W.heap.size W w') := Lib.hid fun W => compare_any _ _ _ _ _ _ W
  have C5 : Hid (∀ W, Calls Try.prog 24 #[.agg #[.int .i64 a1, .int .i64 a2, .int .i64 a3], .agg #[.int .i64 c1, .int .i64 c2, .int .i64 c3]] W fun e w' => e = .returned (.int .i64 (cmpB (a1, a2, a3) (c1, c2, c3))) ∧ Below W.heap.size W w') := Lib.hid fun W => compare_any _ _ _ _ _ _ W
  have D1 : Hid (∀ W, Calls Try.prog 25 #[.agg #[.int .i64 a1, .int .i64 a2, .int .i64 a3], .agg #[.int .i64 b1, .int .i64 b2, .int .i64 b3]] W fun e w' => e = .returned (.bool (before (a1, a2, a3) (b1, b2, b3))) ∧ Below W.heap.size W w') := Lib.hid fun W => before_any _ _ _ _ _ _ W
  have D2 : Hid (∀ W, Calls Try.prog 25 #[.agg #[.int .i64 b1, .int .i64 b2, .int .i64 b3], .agg #[.int .i64 a1, .int .i64 a2, .int .i64 a3]] W fun e w' => e = .returned (.bool (before (b1, b2, b3) (a1, a2, a3))) ∧ Below W.heap.size W w') := Lib.hid fun W => before_any _ _ _ _ _ _ W
  have AW : Hid (∀ W, Calls Try.prog 16 #[] W fun e w' => e = .returned (.bool true) ∧ Below W.heap.size W w') := Lib.hid fun W => awake_any W
  have e3 := cmpB_neg (a1, a2, a3) (b1, b2, b3)
  rw [e3] at C3
  have e4 : cmpB (a1, a2, a3) (a1, a2, a3) = 0 := by
    rcases cmpB_cases (a1, a2, a3) (a1, a2, a3) with ⟨h, e⟩ | ⟨h, e⟩ | ⟨_, e⟩
    · rw [before_irr] at h; cases h
    · rw [before_irr] at h; cases h
    · exact e
  rw [e4] at C4
  have l1 := cmp_lt (a1, a2, a3) (b1, b2, b3)
  have l2 : decide (cmpB (a1, a2, a3) (b1, b2, b3) > 0) = before (b1, b2, b3) (a1, a2, a3) := by
    rw [← cmp_lt (b1, b2, b3) (a1, a2, a3), e3]
    exact decide_eq_decide.2 (by omega)
  have l3 : cmpB (a1, a2, a3) (b1, b2, b3) = -1 ∨ cmpB (a1, a2, a3) (b1, b2, b3) = 1 ∨ cmpB (a1, a2, a3) (b1, b2, b3) = 0 := by
    rcases cmpB_cases (a1, a2, a3) (b1, b2, b3) with ⟨_, e⟩ | ⟨_, e⟩ | ⟨_, e⟩
    · exact .inl e
    · exact .inr (.inl e)
    · exact .inr (.inr e)
  have l4 : cmpB (b1, b2, b3) (c1, c2, c3) = -1 ∨ cmpB (b1, b2, b3) (c1, c2, c3) = 1 ∨ cmpB (b1, b2, b3) (c1, c2, c3) = 0 := by
    rcases cmpB_cases (b1, b2, b3) (c1, c2, c3) with ⟨_, e⟩ | ⟨_, e⟩ | ⟨_, e⟩
    · exact .inl e
    · exact .inr (.inl e)
    · exact .inr (.inr e)
  have l5 := cmpB_trans (a1, a2, a3) (b1, b2, b3) (c1, c2, c3)
  generalize before (a1, a2, a3) (b1, b2, b3) = t1 at *
  generalize before (b1, b2, b3) (a1, a2, a3) = t2 at *
  generalize cmpB (a1, a2, a3) (c1, c2, c3) = z at *
  generalize cmpB (a1, a2, a3) (b1, b2, b3) = x at *
  generalize cmpB (b1, b2, b3) (c1, c2, c3) = y at *
  clear e3 e4
  have T0 := at3a w (.cells #[.int .i64 a1, .int .i64 a2, .int .i64 a3] 23) (.cells #[.int .i64 b1, .int .i64 b2, .int .i64 b3] 23) (.cells #[.int .i64 c1, .int .i64 c2, .int .i64 c3] 23)
  have T1 := at3b w (.cells #[.int .i64 a1, .int .i64 a2, .int .i64 a3] 23) (.cells #[.int .i64 b1, .int .i64 b2, .int .i64 b3] 23) (.cells #[.int .i64 c1, .int .i64 c2, .int .i64 c3] 23)
  have T2 := at3c w (.cells #[.int .i64 a1, .int .i64 a2, .int .i64 a3] 23) (.cells #[.int .i64 b1, .int .i64 b2, .int .i64 b3] 23) (.cells #[.int .i64 c1, .int .i64 c2, .int .i64 c3] 23)
  have BE := bel3 w (.cells #[.int .i64 a1, .int .i64 a2, .int .i64 a3] 23) (.cells #[.int .i64 b1, .int .i64 b2, .int .i64 b3] 23) (.cells #[.int .i64 c1, .int .i64 c2, .int .i64 c3] 23)
  have CE : Hid (∀ W, Below (((w.alloc (.cells #[.int .i64 a1, .int .i64 a2, .int .i64 a3] 23)).alloc (.cells #[.int .i64 b1, .int .i64 b2, .int .i64 b3] 23)).alloc (.cells #[.int .i64 c1, .int .i64 c2, .int .i64 c3] 23)).heap.size (((w.alloc (.cells #[.int .i64 a1, .int .i64 a2, .int .i64 a3] 23)).alloc (.cells #[.int .i64 b1, .int .i64 b2, .int .i64 b3] 23)).alloc (.cells #[.int .i64 c1, .int .i64 c2, .int .i64 c3] 23)) W → ((W.cell? ⟨w.heap.size, 0, none⟩ = some (.int .i64 a1) ∧ W.cell? ⟨w.heap.size, 1, none⟩ = some (.int .i64 a2) ∧ W.cell? ⟨w.heap.size, 2, none⟩ = some (.int .i64 a3)) ∧ (W.cell? ⟨w.heap.size + 1, 0, none⟩ = some (.int .i64 b1) ∧ W.cell? ⟨w.heap.size + 1, 1, none⟩ = some (.int .i64 b2) ∧ W.cell? ⟨w.heap.size + 1, 2, none⟩ = some (.int .i64 b3)) ∧ (W.cell? ⟨w.heap.size + 2, 0, none⟩ = some (.int .i64 c1) ∧ W.cell? ⟨w.heap.size + 2, 1, none⟩ = some (.int .i64 c2) ∧ W.cell? ⟨w.heap.size + 2, 2, none⟩ = some (.int .i64 c3))) ∧ Below w.heap.size w W) := Lib.hid fun W hW => ⟨⟨(Bx.b3 ((hW.block _ (Bx.lt T0)).trans T0)).1, (Bx.b3 ((hW.block _ (Bx.lt T1)).trans T1)).1, (Bx.b3 ((hW.block _ (Bx.lt T2)).trans T2)).1⟩, BE.trans (hW.mono BE.size)⟩
  have HB := Lib.hid (Below.refl (((w.alloc (.cells #[.int .i64 a1, .int .i64 a2, .int .i64 a3] 23)).alloc (.cells #[.int .i64 b1, .int .i64 b2, .int .i64 b3] 23)).alloc (.cells #[.int .i64 c1, .int .i64 c2, .int .i64 c3] 23)).heap.size (((w.alloc (.cells #[.int .i64 a1, .int .i64 a2, .int .i64 a3] 23)).alloc (.cells #[.int .i64 b1, .int .i64 b2, .int .i64 b3] 23)).alloc (.cells #[.int .i64 c1, .int .i64 c2, .int .i64 c3] 23)))
  clear T0 T1 T2 BE
  have walk : ∀ x' y' z' : Int, x = x' → y = y' → (¬ x' > 0 → ¬ y' > 0 → z = z') → True := fun _ _ _ _ _ _ => trivial
  clear walk
  rcases l3 with rfl | rfl | rfl
  · have e1 : t1 = true := by rw [← l1]; rfl
    have e2 : t2 = false := by rw [← l2]; rfl
    subst e1 e2
    clear l1 l2
    rcases l4 with rfl | e9 | rfl
    · have e5 : z = -1 := by rw [l5 (by decide) (by decide)]; rfl
      have gm : min (-1 : Int) (-1) = -1 := rfl
      subst e5
      clear l5
      go_enter Try.func6, Try.ntmps6
      go_upto_region 1 with fail
      generalize ((w.alloc (.cells #[.int .i64 a1, .int .i64 a2, .int .i64 a3] 23)).alloc (.cells #[.int .i64 b1, .int .i64 b2, .int .i64 b3] 23)).alloc (.cells #[.int .i64 c1, .int .i64 c2, .int .i64 c3] 23) = w1 at *
      have PF := fun p : Lat grows w1 => (CE.out p.W (HB.out.trans (p.h.mono HB.out.size))).1
      have k0_0 := fun p => (PF p).1.1
      have k0_1 := fun p => (PF p).1.2.1
      have k0_2 := fun p => (PF p).1.2.2
      have k1_0 := fun p => (PF p).2.1.1
      have k1_1 := fun p => (PF p).2.1.2.1
      have k1_2 := fun p => (PF p).2.1.2.2
      have k2_0 := fun p => (PF p).2.2.1
      have k2_1 := fun p => (PF p).2.2.2.1
      have k2_2 := fun p => (PF p).2.2.2.2
      clear PF
      refine Og.grow 8 (by kernel_rfl) (by kernel_rfl) fun hc hf => ?_
      clear hc hf
      simp only [List.take_succ_cons, List.take_zero, List.drop_succ_cons, List.drop_zero]
      iterate 2 (refine Og.det [] rfl (fun J hJ => ?_); go_simp; refine hJ _ _ ?_; clear hJ J)
      refine Og.det [] rfl (fun J hJ => ?_)
      go_simp
      with_reducible refine ⟨_, fun p => Og.lays (C1.out p.W), hJ _ _ ?_⟩
      clear hJ J
      iterate 2 (refine Og.det [] rfl (fun J hJ => ?_); go_simp; refine hJ _ _ ?_; clear hJ J)
      refine Og.det [] rfl (fun J hJ => ?_)
      go_simp
      with_reducible refine ⟨_, fun p => Og.lays (C2.out p.W), hJ _ _ ?_⟩
      clear hJ J
      iterate 2 (refine Og.det [] rfl (fun J hJ => ?_); go_simp; refine hJ _ _ ?_; clear hJ J)
      refine Og.fin fun W hW => ?_
      simp only [Og.opened_nil]
      clear k0_0 k0_1 k0_2 k1_0 k1_1 k1_2 k2_0 k2_1 k2_2
      replace HB := Lib.hid (HB.out.trans (hW.mono HB.out.size))
      clear hW
      obtain ⟨⟨⟨k0_0, k0_1, k0_2⟩, ⟨k1_0, k1_1, k1_2⟩, ⟨k2_0, k2_1, k2_2⟩⟩, FB⟩ := CE.out W HB.out
      replace FB := Lib.hid FB
      go_wp2_with (first
        | (go_at_call 25; with_reducible refine (D1.out _).mono ?_; rintro e w2 ⟨rfl, hb2⟩; clear k0_0 k0_1 k0_2 k1_0 k1_1 k1_2 k2_0 k2_1 k2_2 FB; replace HB := Lib.hid (HB.out.trans (hb2.mono HB.out.size)); clear hb2; obtain ⟨⟨⟨k0_0, k0_1, k0_2⟩, ⟨k1_0, k1_1, k1_2⟩, ⟨k2_0, k2_1, k2_2⟩⟩, FB⟩ := CE.out w2 HB.out; replace FB := Lib.hid FB)
        | (go_at_call 25; with_reducible refine (D2.out _).mono ?_; rintro e w2 ⟨rfl, hb2⟩; clear k0_0 k0_1 k0_2 k1_0 k1_1 k1_2 k2_0 k2_1 k2_2 FB; replace HB := Lib.hid (HB.out.trans (hb2.mono HB.out.size)); clear hb2; obtain ⟨⟨⟨k0_0, k0_1, k0_2⟩, ⟨k1_0, k1_1, k1_2⟩, ⟨k2_0, k2_1, k2_2⟩⟩, FB⟩ := CE.out w2 HB.out; replace FB := Lib.hid FB)
        | (go_at_call 24; with_reducible refine (C3.out _).mono ?_; rintro e w2 ⟨rfl, hb2⟩; clear k0_0 k0_1 k0_2 k1_0 k1_1 k1_2 k2_0 k2_1 k2_2 FB; replace HB := Lib.hid (HB.out.trans (hb2.mono HB.out.size)); clear hb2; obtain ⟨⟨⟨k0_0, k0_1, k0_2⟩, ⟨k1_0, k1_1, k1_2⟩, ⟨k2_0, k2_1, k2_2⟩⟩, FB⟩ := CE.out w2 HB.out; replace FB := Lib.hid FB)
        | (go_at_call 24; with_reducible refine (C4.out _).mono ?_; rintro e w2 ⟨rfl, hb2⟩; clear k0_0 k0_1 k0_2 k1_0 k1_1 k1_2 k2_0 k2_1 k2_2 FB; replace HB := Lib.hid (HB.out.trans (hb2.mono HB.out.size)); clear hb2; obtain ⟨⟨⟨k0_0, k0_1, k0_2⟩, ⟨k1_0, k1_1, k1_2⟩, ⟨k2_0, k2_1, k2_2⟩⟩, FB⟩ := CE.out w2 HB.out; replace FB := Lib.hid FB)
        | (go_at_call 24; with_reducible refine (C5.out _).mono ?_; rintro e w2 ⟨rfl, hb2⟩; clear k0_0 k0_1 k0_2 k1_0 k1_1 k1_2 k2_0 k2_1 k2_2 FB; replace HB := Lib.hid (HB.out.trans (hb2.mono HB.out.size)); clear hb2; obtain ⟨⟨⟨k0_0, k0_1, k0_2⟩, ⟨k1_0, k1_1, k1_2⟩, ⟨k2_0, k2_1, k2_2⟩⟩, FB⟩ := CE.out w2 HB.out; replace FB := Lib.hid FB)
        | (go_at_call 16; with_reducible refine (AW.out _).mono ?_; rintro e w2 ⟨rfl, hb2⟩; clear k0_0 k0_1 k0_2 k1_0 k1_1 k1_2 k2_0 k2_1 k2_2 FB; replace HB := Lib.hid (HB.out.trans (hb2.mono HB.out.size)); clear hb2; obtain ⟨⟨⟨k0_0, k0_1, k0_2⟩, ⟨k1_0, k1_1, k1_2⟩, ⟨k2_0, k2_1, k2_2⟩⟩, FB⟩ := CE.out w2 HB.out; replace FB := Lib.hid FB))
      refine ⟨rfl, .bool true, ?_, rfl, FB.out⟩
      simp [results, Try.results6, go_sem]
    · have g1 : decide (y > 0) = true := by rw [e9]; rfl
      have g2 : y > 0 := by omega
      clear l5 C5 e9
      go_enter Try.func6, Try.ntmps6
      go_upto_region 1 with fail
      generalize ((w.alloc (.cells #[.int .i64 a1, .int .i64 a2, .int .i64 a3] 23)).alloc (.cells #[.int .i64 b1, .int .i64 b2, .int .i64 b3] 23)).alloc (.cells #[.int .i64 c1, .int .i64 c2, .int .i64 c3] 23) = w1 at *
      have PF := fun p : Lat grows w1 => (CE.out p.W (HB.out.trans (p.h.mono HB.out.size))).1
      have k0_0 := fun p => (PF p).1.1
      have k0_1 := fun p => (PF p).1.2.1
      have k0_2 := fun p => (PF p).1.2.2
      have k1_0 := fun p => (PF p).2.1.1
      have k1_1 := fun p => (PF p).2.1.2.1
      have k1_2 := fun p => (PF p).2.1.2.2
      have k2_0 := fun p => (PF p).2.2.1
      have k2_1 := fun p => (PF p).2.2.2.1
      have k2_2 := fun p => (PF p).2.2.2.2
      clear PF
      refine Og.grow 8 (by kernel_rfl) (by kernel_rfl) fun hc hf => ?_
      clear hc hf
      simp only [List.take_succ_cons, List.take_zero, List.drop_succ_cons, List.drop_zero]
      iterate 2 (refine Og.det [] rfl (fun J hJ => ?_); go_simp; refine hJ _ _ ?_; clear hJ J)
      refine Og.det [] rfl (fun J hJ => ?_)
      go_simp
      with_reducible refine ⟨_, fun p => Og.lays (C1.out p.W), hJ _ _ ?_⟩
      clear hJ J
      iterate 2 (refine Og.det [] rfl (fun J hJ => ?_); go_simp; refine hJ _ _ ?_; clear hJ J)
      refine Og.det [] rfl (fun J hJ => ?_)
      go_simp
      with_reducible refine ⟨_, fun p => Og.lays (C2.out p.W), hJ _ _ ?_⟩
      clear hJ J
      iterate 2 (refine Og.det [] rfl (fun J hJ => ?_); go_simp; refine hJ _ _ ?_; clear hJ J)
      refine Og.fin fun W hW => ?_
      simp only [Og.opened_nil]
      clear k0_0 k0_1 k0_2 k1_0 k1_1 k1_2 k2_0 k2_1 k2_2
      replace HB := Lib.hid (HB.out.trans (hW.mono HB.out.size))
      clear hW
      obtain ⟨⟨⟨k0_0, k0_1, k0_2⟩, ⟨k1_0, k1_1, k1_2⟩, ⟨k2_0, k2_1, k2_2⟩⟩, FB⟩ := CE.out W HB.out
      replace FB := Lib.hid FB
      go_wp2_with (first
        | (go_at_call 25; with_reducible refine (D1.out _).mono ?_; rintro e w2 ⟨rfl, hb2⟩; clear k0_0 k0_1 k0_2 k1_0 k1_1 k1_2 k2_0 k2_1 k2_2 FB; replace HB := Lib.hid (HB.out.trans (hb2.mono HB.out.size)); clear hb2; obtain ⟨⟨⟨k0_0, k0_1, k0_2⟩, ⟨k1_0, k1_1, k1_2⟩, ⟨k2_0, k2_1, k2_2⟩⟩, FB⟩ := CE.out w2 HB.out; replace FB := Lib.hid FB)
        | (go_at_call 25; with_reducible refine (D2.out _).mono ?_; rintro e w2 ⟨rfl, hb2⟩; clear k0_0 k0_1 k0_2 k1_0 k1_1 k1_2 k2_0 k2_1 k2_2 FB; replace HB := Lib.hid (HB.out.trans (hb2.mono HB.out.size)); clear hb2; obtain ⟨⟨⟨k0_0, k0_1, k0_2⟩, ⟨k1_0, k1_1, k1_2⟩, ⟨k2_0, k2_1, k2_2⟩⟩, FB⟩ := CE.out w2 HB.out; replace FB := Lib.hid FB)
        | (go_at_call 24; with_reducible refine (C3.out _).mono ?_; rintro e w2 ⟨rfl, hb2⟩; clear k0_0 k0_1 k0_2 k1_0 k1_1 k1_2 k2_0 k2_1 k2_2 FB; replace HB := Lib.hid (HB.out.trans (hb2.mono HB.out.size)); clear hb2; obtain ⟨⟨⟨k0_0, k0_1, k0_2⟩, ⟨k1_0, k1_1, k1_2⟩, ⟨k2_0, k2_1, k2_2⟩⟩, FB⟩ := CE.out w2 HB.out; replace FB := Lib.hid FB)
        | (go_at_call 24; with_reducible refine (C4.out _).mono ?_; rintro e w2 ⟨rfl, hb2⟩; clear k0_0 k0_1 k0_2 k1_0 k1_1 k1_2 k2_0 k2_1 k2_2 FB; replace HB := Lib.hid (HB.out.trans (hb2.mono HB.out.size)); clear hb2; obtain ⟨⟨⟨k0_0, k0_1, k0_2⟩, ⟨k1_0, k1_1, k1_2⟩, ⟨k2_0, k2_1, k2_2⟩⟩, FB⟩ := CE.out w2 HB.out; replace FB := Lib.hid FB)
        | (go_at_call 24; with_reducible refine (C5.out _).mono ?_; rintro e w2 ⟨rfl, hb2⟩; clear k0_0 k0_1 k0_2 k1_0 k1_1 k1_2 k2_0 k2_1 k2_2 FB; replace HB := Lib.hid (HB.out.trans (hb2.mono HB.out.size)); clear hb2; obtain ⟨⟨⟨k0_0, k0_1, k0_2⟩, ⟨k1_0, k1_1, k1_2⟩, ⟨k2_0, k2_1, k2_2⟩⟩, FB⟩ := CE.out w2 HB.out; replace FB := Lib.hid FB)
        | (go_at_call 16; with_reducible refine (AW.out _).mono ?_; rintro e w2 ⟨rfl, hb2⟩; clear k0_0 k0_1 k0_2 k1_0 k1_1 k1_2 k2_0 k2_1 k2_2 FB; replace HB := Lib.hid (HB.out.trans (hb2.mono HB.out.size)); clear hb2; obtain ⟨⟨⟨k0_0, k0_1, k0_2⟩, ⟨k1_0, k1_1, k1_2⟩, ⟨k2_0, k2_1, k2_2⟩⟩, FB⟩ := CE.out w2 HB.out; replace FB := Lib.hid FB))
      refine ⟨rfl, .bool true, ?_, rfl, FB.out⟩
      simp [results, Try.results6, go_sem]
    · have e5 : z = -1 := by rw [l5 (by decide) (by decide)]; rfl
      have gm : min (-1 : Int) (0) = -1 := rfl
      subst e5
      clear l5
      go_enter Try.func6, Try.ntmps6
      go_upto_region 1 with fail
      generalize ((w.alloc (.cells #[.int .i64 a1, .int .i64 a2, .int .i64 a3] 23)).alloc (.cells #[.int .i64 b1, .int .i64 b2, .int .i64 b3] 23)).alloc (.cells #[.int .i64 c1, .int .i64 c2, .int .i64 c3] 23) = w1 at *
      have PF := fun p : Lat grows w1 => (CE.out p.W (HB.out.trans (p.h.mono HB.out.size))).1
      have k0_0 := fun p => (PF p).1.1
      have k0_1 := fun p => (PF p).1.2.1
      have k0_2 := fun p => (PF p).1.2.2
      have k1_0 := fun p => (PF p).2.1.1
      have k1_1 := fun p => (PF p).2.1.2.1
      have k1_2 := fun p => (PF p).2.1.2.2
      have k2_0 := fun p => (PF p).2.2.1
      have k2_1 := fun p => (PF p).2.2.2.1
      have k2_2 := fun p => (PF p).2.2.2.2
      clear PF
      refine Og.grow 8 (by kernel_rfl) (by kernel_rfl) fun hc hf => ?_
      clear hc hf
      simp only [List.take_succ_cons, List.take_zero, List.drop_succ_cons, List.drop_zero]
      iterate 2 (refine Og.det [] rfl (fun J hJ => ?_); go_simp; refine hJ _ _ ?_; clear hJ J)
      refine Og.det [] rfl (fun J hJ => ?_)
      go_simp
      with_reducible refine ⟨_, fun p => Og.lays (C1.out p.W), hJ _ _ ?_⟩
      clear hJ J
      iterate 2 (refine Og.det [] rfl (fun J hJ => ?_); go_simp; refine hJ _ _ ?_; clear hJ J)
      refine Og.det [] rfl (fun J hJ => ?_)
      go_simp
      with_reducible refine ⟨_, fun p => Og.lays (C2.out p.W), hJ _ _ ?_⟩
      clear hJ J
      iterate 2 (refine Og.det [] rfl (fun J hJ => ?_); go_simp; refine hJ _ _ ?_; clear hJ J)
      refine Og.fin fun W hW => ?_
      simp only [Og.opened_nil]
      clear k0_0 k0_1 k0_2 k1_0 k1_1 k1_2 k2_0 k2_1 k2_2
      replace HB := Lib.hid (HB.out.trans (hW.mono HB.out.size))
      clear hW
      obtain ⟨⟨⟨k0_0, k0_1, k0_2⟩, ⟨k1_0, k1_1, k1_2⟩, ⟨k2_0, k2_1, k2_2⟩⟩, FB⟩ := CE.out W HB.out
      replace FB := Lib.hid FB
      go_wp2_with (first
        | (go_at_call 25; with_reducible refine (D1.out _).mono ?_; rintro e w2 ⟨rfl, hb2⟩; clear k0_0 k0_1 k0_2 k1_0 k1_1 k1_2 k2_0 k2_1 k2_2 FB; replace HB := Lib.hid (HB.out.trans (hb2.mono HB.out.size)); clear hb2; obtain ⟨⟨⟨k0_0, k0_1, k0_2⟩, ⟨k1_0, k1_1, k1_2⟩, ⟨k2_0, k2_1, k2_2⟩⟩, FB⟩ := CE.out w2 HB.out; replace FB := Lib.hid FB)
        | (go_at_call 25; with_reducible refine (D2.out _).mono ?_; rintro e w2 ⟨rfl, hb2⟩; clear k0_0 k0_1 k0_2 k1_0 k1_1 k1_2 k2_0 k2_1 k2_2 FB; replace HB := Lib.hid (HB.out.trans (hb2.mono HB.out.size)); clear hb2; obtain ⟨⟨⟨k0_0, k0_1, k0_2⟩, ⟨k1_0, k1_1, k1_2⟩, ⟨k2_0, k2_1, k2_2⟩⟩, FB⟩ := CE.out w2 HB.out; replace FB := Lib.hid FB)
        | (go_at_call 24; with_reducible refine (C3.out _).mono ?_; rintro e w2 ⟨rfl, hb2⟩; clear k0_0 k0_1 k0_2 k1_0 k1_1 k1_2 k2_0 k2_1 k2_2 FB; replace HB := Lib.hid (HB.out.trans (hb2.mono HB.out.size)); clear hb2; obtain ⟨⟨⟨k0_0, k0_1, k0_2⟩, ⟨k1_0, k1_1, k1_2⟩, ⟨k2_0, k2_1, k2_2⟩⟩, FB⟩ := CE.out w2 HB.out; replace FB := Lib.hid FB)
        | (go_at_call 24; with_reducible refine (C4.out _).mono ?_; rintro e w2 ⟨rfl, hb2⟩; clear k0_0 k0_1 k0_2 k1_0 k1_1 k1_2 k2_0 k2_1 k2_2 FB; replace HB := Lib.hid (HB.out.trans (hb2.mono HB.out.size)); clear hb2; obtain ⟨⟨⟨k0_0, k0_1, k0_2⟩, ⟨k1_0, k1_1, k1_2⟩, ⟨k2_0, k2_1, k2_2⟩⟩, FB⟩ := CE.out w2 HB.out; replace FB := Lib.hid FB)
        | (go_at_call 24; with_reducible refine (C5.out _).mono ?_; rintro e w2 ⟨rfl, hb2⟩; clear k0_0 k0_1 k0_2 k1_0 k1_1 k1_2 k2_0 k2_1 k2_2 FB; replace HB := Lib.hid (HB.out.trans (hb2.mono HB.out.size)); clear hb2; obtain ⟨⟨⟨k0_0, k0_1, k0_2⟩, ⟨k1_0, k1_1, k1_2⟩, ⟨k2_0, k2_1, k2_2⟩⟩, FB⟩ := CE.out w2 HB.out; replace FB := Lib.hid FB)
        | (go_at_call 16; with_reducible refine (AW.out _).mono ?_; rintro e w2 ⟨rfl, hb2⟩; clear k0_0 k0_1 k0_2 k1_0 k1_1 k1_2 k2_0 k2_1 k2_2 FB; replace HB := Lib.hid (HB.out.trans (hb2.mono HB.out.size)); clear hb2; obtain ⟨⟨⟨k0_0, k0_1, k0_2⟩, ⟨k1_0, k1_1, k1_2⟩, ⟨k2_0, k2_1, k2_2⟩⟩, FB⟩ := CE.out w2 HB.out; replace FB := Lib.hid FB))
      refine ⟨rfl, .bool true, ?_, rfl, FB.out⟩
      simp [results, Try.results6, go_sem]
  · have e1 : t1 = false := by rw [← l1]; rfl
    have e2 : t2 = true := by rw [← l2]; rfl
    subst e1 e2
    clear l1 l2
    clear l4 l5
    go_enter Try.func6, Try.ntmps6
    go_upto_region 1 with fail
    generalize ((w.alloc (.cells #[.int .i64 a1, .int .i64 a2, .int .i64 a3] 23)).alloc (.cells #[.int .i64 b1, .int .i64 b2, .int .i64 b3] 23)).alloc (.cells #[.int .i64 c1, .int .i64 c2, .int .i64 c3] 23) = w1 at *
    have PF := fun p : Lat grows w1 => (CE.out p.W (HB.out.trans (p.h.mono HB.out.size))).1
    have k0_0 := fun p => (PF p).1.1
    have k0_1 := fun p => (PF p).1.2.1
    have k0_2 := fun p => (PF p).1.2.2
    have k1_0 := fun p => (PF p).2.1.1
    have k1_1 := fun p => (PF p).2.1.2.1
    have k1_2 := fun p => (PF p).2.1.2.2
    have k2_0 := fun p => (PF p).2.2.1
    have k2_1 := fun p => (PF p).2.2.2.1
    have k2_2 := fun p => (PF p).2.2.2.2
    clear PF
    refine Og.grow 8 (by kernel_rfl) (by kernel_rfl) fun hc hf => ?_
    clear hc hf
    simp only [List.take_succ_cons, List.take_zero, List.drop_succ_cons, List.drop_zero]
    iterate 2 (refine Og.det [] rfl (fun J hJ => ?_); go_simp; refine hJ _ _ ?_; clear hJ J)
    refine Og.det [] rfl (fun J hJ => ?_)
    go_simp
    with_reducible refine ⟨_, fun p => Og.lays (C1.out p.W), hJ _ _ ?_⟩
    clear hJ J
    iterate 2 (refine Og.det [] rfl (fun J hJ => ?_); go_simp; refine hJ _ _ ?_; clear hJ J)
    refine Og.det [] rfl (fun J hJ => ?_)
    go_simp
    with_reducible refine ⟨_, fun p => Og.lays (C2.out p.W), hJ _ _ ?_⟩
    clear hJ J
    iterate 2 (refine Og.det [] rfl (fun J hJ => ?_); go_simp; refine hJ _ _ ?_; clear hJ J)
    refine Og.fin fun W hW => ?_
    simp only [Og.opened_nil]
    clear k0_0 k0_1 k0_2 k1_0 k1_1 k1_2 k2_0 k2_1 k2_2
    replace HB := Lib.hid (HB.out.trans (hW.mono HB.out.size))
    clear hW
    obtain ⟨⟨⟨k0_0, k0_1, k0_2⟩, ⟨k1_0, k1_1, k1_2⟩, ⟨k2_0, k2_1, k2_2⟩⟩, FB⟩ := CE.out W HB.out
    replace FB := Lib.hid FB
    go_wp2_with (first
      | (go_at_call 25; with_reducible refine (D1.out _).mono ?_; rintro e w2 ⟨rfl, hb2⟩; clear k0_0 k0_1 k0_2 k1_0 k1_1 k1_2 k2_0 k2_1 k2_2 FB; replace HB := Lib.hid (HB.out.trans (hb2.mono HB.out.size)); clear hb2; obtain ⟨⟨⟨k0_0, k0_1, k0_2⟩, ⟨k1_0, k1_1, k1_2⟩, ⟨k2_0, k2_1, k2_2⟩⟩, FB⟩ := CE.out w2 HB.out; replace FB := Lib.hid FB)
      | (go_at_call 25; with_reducible refine (D2.out _).mono ?_; rintro e w2 ⟨rfl, hb2⟩; clear k0_0 k0_1 k0_2 k1_0 k1_1 k1_2 k2_0 k2_1 k2_2 FB; replace HB := Lib.hid (HB.out.trans (hb2.mono HB.out.size)); clear hb2; obtain ⟨⟨⟨k0_0, k0_1, k0_2⟩, ⟨k1_0, k1_1, k1_2⟩, ⟨k2_0, k2_1, k2_2⟩⟩, FB⟩ := CE.out w2 HB.out; replace FB := Lib.hid FB)
      | (go_at_call 24; with_reducible refine (C3.out _).mono ?_; rintro e w2 ⟨rfl, hb2⟩; clear k0_0 k0_1 k0_2 k1_0 k1_1 k1_2 k2_0 k2_1 k2_2 FB; replace HB := Lib.hid (HB.out.trans (hb2.mono HB.out.size)); clear hb2; obtain ⟨⟨⟨k0_0, k0_1, k0_2⟩, ⟨k1_0, k1_1, k1_2⟩, ⟨k2_0, k2_1, k2_2⟩⟩, FB⟩ := CE.out w2 HB.out; replace FB := Lib.hid FB)
      | (go_at_call 24; with_reducible refine (C4.out _).mono ?_; rintro e w2 ⟨rfl, hb2⟩; clear k0_0 k0_1 k0_2 k1_0 k1_1 k1_2 k2_0 k2_1 k2_2 FB; replace HB := Lib.hid (HB.out.trans (hb2.mono HB.out.size)); clear hb2; obtain ⟨⟨⟨k0_0, k0_1, k0_2⟩, ⟨k1_0, k1_1, k1_2⟩, ⟨k2_0, k2_1, k2_2⟩⟩, FB⟩ := CE.out w2 HB.out; replace FB := Lib.hid FB)
      | (go_at_call 24; with_reducible refine (C5.out _).mono ?_; rintro e w2 ⟨rfl, hb2⟩; clear k0_0 k0_1 k0_2 k1_0 k1_1 k1_2 k2_0 k2_1 k2_2 FB; replace HB := Lib.hid (HB.out.trans (hb2.mono HB.out.size)); clear hb2; obtain ⟨⟨⟨k0_0, k0_1, k0_2⟩, ⟨k1_0, k1_1, k1_2⟩, ⟨k2_0, k2_1, k2_2⟩⟩, FB⟩ := CE.out w2 HB.out; replace FB := Lib.hid FB)
      | (go_at_call 16; with_reducible refine (AW.out _).mono ?_; rintro e w2 ⟨rfl, hb2⟩; clear k0_0 k0_1 k0_2 k1_0 k1_1 k1_2 k2_0 k2_1 k2_2 FB; replace HB := Lib.hid (HB.out.trans (hb2.mono HB.out.size)); clear hb2; obtain ⟨⟨⟨k0_0, k0_1, k0_2⟩, ⟨k1_0, k1_1, k1_2⟩, ⟨k2_0, k2_1, k2_2⟩⟩, FB⟩ := CE.out w2 HB.out; replace FB := Lib.hid FB))
    refine ⟨rfl, .bool true, ?_, rfl, FB.out⟩
    simp [results, Try.results6, go_sem]
  · have e1 : t1 = false := by rw [← l1]; rfl
    have e2 : t2 = false := by rw [← l2]; rfl
    subst e1 e2
    clear l1 l2
    rcases l4 with rfl | e9 | rfl
    · have e5 : z = -1 := by rw [l5 (by decide) (by decide)]; rfl
      have gm : min (0 : Int) (-1) = -1 := rfl
      subst e5
      clear l5
      go_enter Try.func6, Try.ntmps6
      go_upto_region 1 with fail
      generalize ((w.alloc (.cells #[.int .i64 a1, .int .i64 a2, .int .i64 a3] 23)).alloc (.cells #[.int .i64 b1, .int .i64 b2, .int .i64 b3] 23)).alloc (.cells #[.int .i64 c1, .int .i64 c2, .int .i64 c3] 23) = w1 at *
      have PF := fun p : Lat grows w1 => (CE.out p.W (HB.out.trans (p.h.mono HB.out.size))).1
      have k0_0 := fun p => (PF p).1.1
      have k0_1 := fun p => (PF p).1.2.1
      have k0_2 := fun p => (PF p).1.2.2
      have k1_0 := fun p => (PF p).2.1.1
      have k1_1 := fun p => (PF p).2.1.2.1
      have k1_2 := fun p => (PF p).2.1.2.2
      have k2_0 := fun p => (PF p).2.2.1
      have k2_1 := fun p => (PF p).2.2.2.1
      have k2_2 := fun p => (PF p).2.2.2.2
      clear PF
      refine Og.grow 8 (by kernel_rfl) (by kernel_rfl) fun hc hf => ?_
      clear hc hf
      simp only [List.take_succ_cons, List.take_zero, List.drop_succ_cons, List.drop_zero]
      iterate 2 (refine Og.det [] rfl (fun J hJ => ?_); go_simp; refine hJ _ _ ?_; clear hJ J)
      refine Og.det [] rfl (fun J hJ => ?_)
      go_simp
      with_reducible refine ⟨_, fun p => Og.lays (C1.out p.W), hJ _ _ ?_⟩
      clear hJ J
      iterate 2 (refine Og.det [] rfl (fun J hJ => ?_); go_simp; refine hJ _ _ ?_; clear hJ J)
      refine Og.det [] rfl (fun J hJ => ?_)
      go_simp
      with_reducible refine ⟨_, fun p => Og.lays (C2.out p.W), hJ _ _ ?_⟩
      clear hJ J
      iterate 2 (refine Og.det [] rfl (fun J hJ => ?_); go_simp; refine hJ _ _ ?_; clear hJ J)
      refine Og.fin fun W hW => ?_
      simp only [Og.opened_nil]
      clear k0_0 k0_1 k0_2 k1_0 k1_1 k1_2 k2_0 k2_1 k2_2
      replace HB := Lib.hid (HB.out.trans (hW.mono HB.out.size))
      clear hW
      obtain ⟨⟨⟨k0_0, k0_1, k0_2⟩, ⟨k1_0, k1_1, k1_2⟩, ⟨k2_0, k2_1, k2_2⟩⟩, FB⟩ := CE.out W HB.out
      replace FB := Lib.hid FB
      go_wp2_with (first
        | (go_at_call 25; with_reducible refine (D1.out _).mono ?_; rintro e w2 ⟨rfl, hb2⟩; clear k0_0 k0_1 k0_2 k1_0 k1_1 k1_2 k2_0 k2_1 k2_2 FB; replace HB := Lib.hid (HB.out.trans (hb2.mono HB.out.size)); clear hb2; obtain ⟨⟨⟨k0_0, k0_1, k0_2⟩, ⟨k1_0, k1_1, k1_2⟩, ⟨k2_0, k2_1, k2_2⟩⟩, FB⟩ := CE.out w2 HB.out; replace FB := Lib.hid FB)
        | (go_at_call 25; with_reducible refine (D2.out _).mono ?_; rintro e w2 ⟨rfl, hb2⟩; clear k0_0 k0_1 k0_2 k1_0 k1_1 k1_2 k2_0 k2_1 k2_2 FB; replace HB := Lib.hid (HB.out.trans (hb2.mono HB.out.size)); clear hb2; obtain ⟨⟨⟨k0_0, k0_1, k0_2⟩, ⟨k1_0, k1_1, k1_2⟩, ⟨k2_0, k2_1, k2_2⟩⟩, FB⟩ := CE.out w2 HB.out; replace FB := Lib.hid FB)
        | (go_at_call 24; with_reducible refine (C3.out _).mono ?_; rintro e w2 ⟨rfl, hb2⟩; clear k0_0 k0_1 k0_2 k1_0 k1_1 k1_2 k2_0 k2_1 k2_2 FB; replace HB := Lib.hid (HB.out.trans (hb2.mono HB.out.size)); clear hb2; obtain ⟨⟨⟨k0_0, k0_1, k0_2⟩, ⟨k1_0, k1_1, k1_2⟩, ⟨k2_0, k2_1, k2_2⟩⟩, FB⟩ := CE.out w2 HB.out; replace FB := Lib.hid FB)
        | (go_at_call 24; with_reducible refine (C4.out _).mono ?_; rintro e w2 ⟨rfl, hb2⟩; clear k0_0 k0_1 k0_2 k1_0 k1_1 k1_2 k2_0 k2_1 k2_2 FB; replace HB := Lib.hid (HB.out.trans (hb2.mono HB.out.size)); clear hb2; obtain ⟨⟨⟨k0_0, k0_1, k0_2⟩, ⟨k1_0, k1_1, k1_2⟩, ⟨k2_0, k2_1, k2_2⟩⟩, FB⟩ := CE.out w2 HB.out; replace FB := Lib.hid FB)
        | (go_at_call 24; with_reducible refine (C5.out _).mono ?_; rintro e w2 ⟨rfl, hb2⟩; clear k0_0 k0_1 k0_2 k1_0 k1_1 k1_2 k2_0 k2_1 k2_2 FB; replace HB := Lib.hid (HB.out.trans (hb2.mono HB.out.size)); clear hb2; obtain ⟨⟨⟨k0_0, k0_1, k0_2⟩, ⟨k1_0, k1_1, k1_2⟩, ⟨k2_0, k2_1, k2_2⟩⟩, FB⟩ := CE.out w2 HB.out; replace FB := Lib.hid FB)
        | (go_at_call 16; with_reducible refine (AW.out _).mono ?_; rintro e w2 ⟨rfl, hb2⟩; clear k0_0 k0_1 k0_2 k1_0 k1_1 k1_2 k2_0 k2_1 k2_2 FB; replace HB := Lib.hid (HB.out.trans (hb2.mono HB.out.size)); clear hb2; obtain ⟨⟨⟨k0_0, k0_1, k0_2⟩, ⟨k1_0, k1_1, k1_2⟩, ⟨k2_0, k2_1, k2_2⟩⟩, FB⟩ := CE.out w2 HB.out; replace FB := Lib.hid FB))
      refine ⟨rfl, .bool true, ?_, rfl, FB.out⟩
      simp [results, Try.results6, go_sem]
    · have g1 : decide (y > 0) = true := by rw [e9]; rfl
      have g2 : y > 0 := by omega
      clear l5 C5 e9
      go_enter Try.func6, Try.ntmps6
      go_upto_region 1 with fail
      generalize ((w.alloc (.cells #[.int .i64 a1, .int .i64 a2, .int .i64 a3] 23)).alloc (.cells #[.int .i64 b1, .int .i64 b2, .int .i64 b3] 23)).alloc (.cells #[.int .i64 c1, .int .i64 c2, .int .i64 c3] 23) = w1 at *
      have PF := fun p : Lat grows w1 => (CE.out p.W (HB.out.trans (p.h.mono HB.out.size))).1
      have k0_0 := fun p => (PF p).1.1
      have k0_1 := fun p => (PF p).1.2.1
      have k0_2 := fun p => (PF p).1.2.2
      have k1_0 := fun p => (PF p).2.1.1
      have k1_1 := fun p => (PF p).2.1.2.1
      have k1_2 := fun p => (PF p).2.1.2.2
      have k2_0 := fun p => (PF p).2.2.1
      have k2_1 := fun p => (PF p).2.2.2.1
      have k2_2 := fun p => (PF p).2.2.2.2
      clear PF
      refine Og.grow 8 (by kernel_rfl) (by kernel_rfl) fun hc hf => ?_
      clear hc hf
      simp only [List.take_succ_cons, List.take_zero, List.drop_succ_cons, List.drop_zero]
      iterate 2 (refine Og.det [] rfl (fun J hJ => ?_); go_simp; refine hJ _ _ ?_; clear hJ J)
      refine Og.det [] rfl (fun J hJ => ?_)
      go_simp
      with_reducible refine ⟨_, fun p => Og.lays (C1.out p.W), hJ _ _ ?_⟩
      clear hJ J
      iterate 2 (refine Og.det [] rfl (fun J hJ => ?_); go_simp; refine hJ _ _ ?_; clear hJ J)
      refine Og.det [] rfl (fun J hJ => ?_)
      go_simp
      with_reducible refine ⟨_, fun p => Og.lays (C2.out p.W), hJ _ _ ?_⟩
      clear hJ J
      iterate 2 (refine Og.det [] rfl (fun J hJ => ?_); go_simp; refine hJ _ _ ?_; clear hJ J)
      refine Og.fin fun W hW => ?_
      simp only [Og.opened_nil]
      clear k0_0 k0_1 k0_2 k1_0 k1_1 k1_2 k2_0 k2_1 k2_2
      replace HB := Lib.hid (HB.out.trans (hW.mono HB.out.size))
      clear hW
      obtain ⟨⟨⟨k0_0, k0_1, k0_2⟩, ⟨k1_0, k1_1, k1_2⟩, ⟨k2_0, k2_1, k2_2⟩⟩, FB⟩ := CE.out W HB.out
      replace FB := Lib.hid FB
      go_wp2_with (first
        | (go_at_call 25; with_reducible refine (D1.out _).mono ?_; rintro e w2 ⟨rfl, hb2⟩; clear k0_0 k0_1 k0_2 k1_0 k1_1 k1_2 k2_0 k2_1 k2_2 FB; replace HB := Lib.hid (HB.out.trans (hb2.mono HB.out.size)); clear hb2; obtain ⟨⟨⟨k0_0, k0_1, k0_2⟩, ⟨k1_0, k1_1, k1_2⟩, ⟨k2_0, k2_1, k2_2⟩⟩, FB⟩ := CE.out w2 HB.out; replace FB := Lib.hid FB)
        | (go_at_call 25; with_reducible refine (D2.out _).mono ?_; rintro e w2 ⟨rfl, hb2⟩; clear k0_0 k0_1 k0_2 k1_0 k1_1 k1_2 k2_0 k2_1 k2_2 FB; replace HB := Lib.hid (HB.out.trans (hb2.mono HB.out.size)); clear hb2; obtain ⟨⟨⟨k0_0, k0_1, k0_2⟩, ⟨k1_0, k1_1, k1_2⟩, ⟨k2_0, k2_1, k2_2⟩⟩, FB⟩ := CE.out w2 HB.out; replace FB := Lib.hid FB)
        | (go_at_call 24; with_reducible refine (C3.out _).mono ?_; rintro e w2 ⟨rfl, hb2⟩; clear k0_0 k0_1 k0_2 k1_0 k1_1 k1_2 k2_0 k2_1 k2_2 FB; replace HB := Lib.hid (HB.out.trans (hb2.mono HB.out.size)); clear hb2; obtain ⟨⟨⟨k0_0, k0_1, k0_2⟩, ⟨k1_0, k1_1, k1_2⟩, ⟨k2_0, k2_1, k2_2⟩⟩, FB⟩ := CE.out w2 HB.out; replace FB := Lib.hid FB)
        | (go_at_call 24; with_reducible refine (C4.out _).mono ?_; rintro e w2 ⟨rfl, hb2⟩; clear k0_0 k0_1 k0_2 k1_0 k1_1 k1_2 k2_0 k2_1 k2_2 FB; replace HB := Lib.hid (HB.out.trans (hb2.mono HB.out.size)); clear hb2; obtain ⟨⟨⟨k0_0, k0_1, k0_2⟩, ⟨k1_0, k1_1, k1_2⟩, ⟨k2_0, k2_1, k2_2⟩⟩, FB⟩ := CE.out w2 HB.out; replace FB := Lib.hid FB)
        | (go_at_call 24; with_reducible refine (C5.out _).mono ?_; rintro e w2 ⟨rfl, hb2⟩; clear k0_0 k0_1 k0_2 k1_0 k1_1 k1_2 k2_0 k2_1 k2_2 FB; replace HB := Lib.hid (HB.out.trans (hb2.mono HB.out.size)); clear hb2; obtain ⟨⟨⟨k0_0, k0_1, k0_2⟩, ⟨k1_0, k1_1, k1_2⟩, ⟨k2_0, k2_1, k2_2⟩⟩, FB⟩ := CE.out w2 HB.out; replace FB := Lib.hid FB)
        | (go_at_call 16; with_reducible refine (AW.out _).mono ?_; rintro e w2 ⟨rfl, hb2⟩; clear k0_0 k0_1 k0_2 k1_0 k1_1 k1_2 k2_0 k2_1 k2_2 FB; replace HB := Lib.hid (HB.out.trans (hb2.mono HB.out.size)); clear hb2; obtain ⟨⟨⟨k0_0, k0_1, k0_2⟩, ⟨k1_0, k1_1, k1_2⟩, ⟨k2_0, k2_1, k2_2⟩⟩, FB⟩ := CE.out w2 HB.out; replace FB := Lib.hid FB))
      refine ⟨rfl, .bool true, ?_, rfl, FB.out⟩
      simp [results, Try.results6, go_sem]
    · have e5 : z = 0 := by rw [l5 (by decide) (by decide)]; rfl
      have gm : min (0 : Int) (0) = 0 := rfl
      subst e5
      clear l5
      go_enter Try.func6, Try.ntmps6
      go_upto_region 1 with fail
      generalize ((w.alloc (.cells #[.int .i64 a1, .int .i64 a2, .int .i64 a3] 23)).alloc (.cells #[.int .i64 b1, .int .i64 b2, .int .i64 b3] 23)).alloc (.cells #[.int .i64 c1, .int .i64 c2, .int .i64 c3] 23) = w1 at *
      have PF := fun p : Lat grows w1 => (CE.out p.W (HB.out.trans (p.h.mono HB.out.size))).1
      have k0_0 := fun p => (PF p).1.1
      have k0_1 := fun p => (PF p).1.2.1
      have k0_2 := fun p => (PF p).1.2.2
      have k1_0 := fun p => (PF p).2.1.1
      have k1_1 := fun p => (PF p).2.1.2.1
      have k1_2 := fun p => (PF p).2.1.2.2
      have k2_0 := fun p => (PF p).2.2.1
      have k2_1 := fun p => (PF p).2.2.2.1
      have k2_2 := fun p => (PF p).2.2.2.2
      clear PF
      refine Og.grow 8 (by kernel_rfl) (by kernel_rfl) fun hc hf => ?_
      clear hc hf
      simp only [List.take_succ_cons, List.take_zero, List.drop_succ_cons, List.drop_zero]
      iterate 2 (refine Og.det [] rfl (fun J hJ => ?_); go_simp; refine hJ _ _ ?_; clear hJ J)
      refine Og.det [] rfl (fun J hJ => ?_)
      go_simp
      with_reducible refine ⟨_, fun p => Og.lays (C1.out p.W), hJ _ _ ?_⟩
      clear hJ J
      iterate 2 (refine Og.det [] rfl (fun J hJ => ?_); go_simp; refine hJ _ _ ?_; clear hJ J)
      refine Og.det [] rfl (fun J hJ => ?_)
      go_simp
      with_reducible refine ⟨_, fun p => Og.lays (C2.out p.W), hJ _ _ ?_⟩
      clear hJ J
      iterate 2 (refine Og.det [] rfl (fun J hJ => ?_); go_simp; refine hJ _ _ ?_; clear hJ J)
      refine Og.fin fun W hW => ?_
      simp only [Og.opened_nil]
      clear k0_0 k0_1 k0_2 k1_0 k1_1 k1_2 k2_0 k2_1 k2_2
      replace HB := Lib.hid (HB.out.trans (hW.mono HB.out.size))
      clear hW
      obtain ⟨⟨⟨k0_0, k0_1, k0_2⟩, ⟨k1_0, k1_1, k1_2⟩, ⟨k2_0, k2_1, k2_2⟩⟩, FB⟩ := CE.out W HB.out
      replace FB := Lib.hid FB
      go_wp2_with (first
        | (go_at_call 25; with_reducible refine (D1.out _).mono ?_; rintro e w2 ⟨rfl, hb2⟩; clear k0_0 k0_1 k0_2 k1_0 k1_1 k1_2 k2_0 k2_1 k2_2 FB; replace HB := Lib.hid (HB.out.trans (hb2.mono HB.out.size)); clear hb2; obtain ⟨⟨⟨k0_0, k0_1, k0_2⟩, ⟨k1_0, k1_1, k1_2⟩, ⟨k2_0, k2_1, k2_2⟩⟩, FB⟩ := CE.out w2 HB.out; replace FB := Lib.hid FB)
        | (go_at_call 25; with_reducible refine (D2.out _).mono ?_; rintro e w2 ⟨rfl, hb2⟩; clear k0_0 k0_1 k0_2 k1_0 k1_1 k1_2 k2_0 k2_1 k2_2 FB; replace HB := Lib.hid (HB.out.trans (hb2.mono HB.out.size)); clear hb2; obtain ⟨⟨⟨k0_0, k0_1, k0_2⟩, ⟨k1_0, k1_1, k1_2⟩, ⟨k2_0, k2_1, k2_2⟩⟩, FB⟩ := CE.out w2 HB.out; replace FB := Lib.hid FB)
        | (go_at_call 24; with_reducible refine (C3.out _).mono ?_; rintro e w2 ⟨rfl, hb2⟩; clear k0_0 k0_1 k0_2 k1_0 k1_1 k1_2 k2_0 k2_1 k2_2 FB; replace HB := Lib.hid (HB.out.trans (hb2.mono HB.out.size)); clear hb2; obtain ⟨⟨⟨k0_0, k0_1, k0_2⟩, ⟨k1_0, k1_1, k1_2⟩, ⟨k2_0, k2_1, k2_2⟩⟩, FB⟩ := CE.out w2 HB.out; replace FB := Lib.hid FB)
        | (go_at_call 24; with_reducible refine (C4.out _).mono ?_; rintro e w2 ⟨rfl, hb2⟩; clear k0_0 k0_1 k0_2 k1_0 k1_1 k1_2 k2_0 k2_1 k2_2 FB; replace HB := Lib.hid (HB.out.trans (hb2.mono HB.out.size)); clear hb2; obtain ⟨⟨⟨k0_0, k0_1, k0_2⟩, ⟨k1_0, k1_1, k1_2⟩, ⟨k2_0, k2_1, k2_2⟩⟩, FB⟩ := CE.out w2 HB.out; replace FB := Lib.hid FB)
        | (go_at_call 24; with_reducible refine (C5.out _).mono ?_; rintro e w2 ⟨rfl, hb2⟩; clear k0_0 k0_1 k0_2 k1_0 k1_1 k1_2 k2_0 k2_1 k2_2 FB; replace HB := Lib.hid (HB.out.trans (hb2.mono HB.out.size)); clear hb2; obtain ⟨⟨⟨k0_0, k0_1, k0_2⟩, ⟨k1_0, k1_1, k1_2⟩, ⟨k2_0, k2_1, k2_2⟩⟩, FB⟩ := CE.out w2 HB.out; replace FB := Lib.hid FB)
        | (go_at_call 16; with_reducible refine (AW.out _).mono ?_; rintro e w2 ⟨rfl, hb2⟩; clear k0_0 k0_1 k0_2 k1_0 k1_1 k1_2 k2_0 k2_1 k2_2 FB; replace HB := Lib.hid (HB.out.trans (hb2.mono HB.out.size)); clear hb2; obtain ⟨⟨⟨k0_0, k0_1, k0_2⟩, ⟨k1_0, k1_1, k1_2⟩, ⟨k2_0, k2_1, k2_2⟩⟩, FB⟩ := CE.out w2 HB.out; replace FB := Lib.hid FB))
      refine ⟨rfl, .bool true, ?_, rfl, FB.out⟩
      simp [results, Try.results6, go_sem]
end Go.Proofs.Ytookmjdnmmfkfaa
