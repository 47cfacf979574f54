/- Awake: chapter 11's examples. -/
import Derived.Test.YteohkbepefjjlaaKTwo
import Derived.Test.YteohkbepefjjlaaKPz
namespace Go.Proofs.Yteohkbepefjjlaa
open Go.RowKit Pz Ar
set_option linter.unusedVariables false
set_option linter.unusedSimpArgs false

section
variable {w W V : World} {s r : Nat} {t u t' : Tb} {K : List (Nat × Obj)}
theorem P1.put' (h : P1 w s t K W) (b : Bn) {n : Nat} (hl : Le t n) (hn : n < 100000) {x : Int} (e : Ar.put t b = (t', x)) : Calls Try.prog 30 #[.pointer (some ⟨s, 0, none⟩), b.val] W fun e V => e = .returned (.int .i64 x) ∧ P1 w s t' K V := by
  have := h.put b hl hn
  rw [e] at this
  exact this
theorem P1.write' (h : P1 w s t K W) (b : Bn) {n : Nat} (hl : Le t n) (hn : n < 100000) {x : Int} (e : Ar.write t b = (t', x)) : Calls Try.prog 26 #[.pointer (some ⟨s, 0, none⟩), b.val] W fun e V => e = .returned (.int .i64 x) ∧ P1 w s t' K V := by
  have := h.write b hl hn
  rw [e] at this
  exact this
theorem P1.remove' (h : P1 w s t K W) (k1 k2 k3 : Int) {x : Bool} (e : Ar.remove t (k1, k2, k3) = (t', x)) : Calls Try.prog 24 #[.pointer (some ⟨s, 0, none⟩), .agg #[.int .i64 k1, .int .i64 k2, .int .i64 k3]] W fun e V => e = .returned (.bool x) ∧ P1 w s t' K V := by
  have := h.remove k1 k2 k3
  rw [e] at this
  exact this
end
namespace Ar
abbrev one1 (i m : Int) : Bn := ⟨0, i, 0, m, 0, 0, 0, 0, 0, 0, 0⟩
abbrev two5 : Bn := ⟨0, 2, 0, 5, 0, 0, 0, 0, 7, 0, 0⟩
theorem awake_vals : ∃ t1 t2 t3 t4 t5 : Tb, put (fun _ => []) (one1 0 1) = (t1, 0) ∧ put t1 (one1 1 1) = (t2, 0) ∧ put t2 (one1 2 1) = (t3, 0) ∧ remove t3 (0, 0, 0) = (t4, true) ∧ find t4 (0, 2, 0) = some (1, 0) ∧ write t4 two5 = (t5, 0) ∧
    cgetV t5 (0, 2, 0) = .tuple #[two5.val, .bool true] ∧ tabs t5 = [(1, [(0, 1, 0)]), (5, [(0, 2, 0)])] ∧ total t5 = 2 ∧ Le t1 1 ∧ Le t2 2 ∧ Le t4 3 :=
  ⟨(put (fun _ => []) (one1 0 1)).1, (put (put (fun _ => []) (one1 0 1)).1 (one1 1 1)).1, (put (put (put (fun _ => []) (one1 0 1)).1 (one1 1 1)).1 (one1 2 1)).1, (remove (put (put (put (fun _ => []) (one1 0 1)).1 (one1 1 1)).1 (one1 2 1)).1 (0, 0, 0)).1, (write (remove (put (put (put (fun _ => []) (one1 0 1)).1 (one1 1 1)).1 (one1 2 1)).1 (0, 0, 0)).1 two5).1, Prod.ext rfl (by decide +kernel), Prod.ext rfl (by decide +kernel), Prod.ext rfl (by decide +kernel), Prod.ext rfl (by decide +kernel), by decide +kernel, Prod.ext rfl (by decide +kernel), by kernel_rfl, by decide +kernel, by decide +kernel,
    le_put le_none _, le_put (le_put le_none _) _, le_remove (le_put (le_put (le_put le_none _) _) _) _⟩
end Ar
set_option maxHeartbeats 8000000 in
set_option maxRecDepth 100000 in
theorem awake_any (w : World) : Calls Try.prog 17 #[] w fun e w' => e = .returned (.bool true) ∧ Below w.heap.size w w' := by
  obtain ⟨t1, t2, t3, t4, t5, e1, e2, e3, e4, e5, e6, e7, e8, e9, l1, l2, l4⟩ := awake_vals
  have N := p1_new w
  have sw : w.heap.size ≤ w.heap.size := Nat.le_refl _
  obtain ⟨s, hs⟩ : ∃ s, s = w.heap.size := ⟨_, rfl⟩
  rw [← hs] at N
  have P0 := Lib.hid (fun W K (h : P1 w s (fun _ => []) K W) => h.put' (one1 0 1) le_none (by decide) e1)
  have PA := Lib.hid (fun W K (h : P1 w s t1 K W) => h.put' (one1 1 1) l1 (by decide) e2)
  have PB := Lib.hid (fun W K (h : P1 w s t2 K W) => h.put' (one1 2 1) l2 (by decide) e3)
  have RM := Lib.hid (fun W K (h : P1 w s t3 K W) => h.remove' 0 0 0 e4)
  have RW : Hid (∀ W K, P1 w s t4 K W → Calls Try.prog 20 #[.pointer (some ⟨s, 0, none⟩), .agg #[.int .i64 0, .int .i64 2, .int .i64 0]] W fun e V => e = .returned (.tuple #[.int .i64 0, .bool true]) ∧ P1 w s t4 K V) := Lib.hid fun W K h => by
    have := h.row 0 2 0
    rw [e5] at this
    exact this
  have WR := Lib.hid (fun W K (h : P1 w s t4 K W) => h.write' two5 l4 (by decide) e6)
  have GT : Hid (∀ W K, P1 w s t5 K W → Calls Try.prog 15 #[.pointer (some ⟨s, 0, none⟩), .agg #[.int .i64 0, .int .i64 2, .int .i64 0]] W fun e V => e = .returned (.tuple #[two5.val, .bool true]) ∧ P1 w s t5 K V) := Lib.hid fun W K h => by
    have := h.get 0 2 0
    rw [e7] at this
    exact this
  have TB : Hid (∀ W K, P1 w s t5 K W → Calls Try.prog 19 #[.pointer (some ⟨s, 0, none⟩)] W fun e V => ∃ A' c', e = .returned (.slice A' 2 c') ∧ (∃ g o, A' = some ⟨g, o, none⟩ ∧ V.cell? ⟨g, o, none⟩ = some (.int .i64 1) ∧ V.cell? ⟨g, o + 2, none⟩ = some (.int .i64 5)) ∧ P1 w s t5 K V) := Lib.hid fun W K h => by
    have := h.tables
    rw [e8] at this
    refine this.mono ?_
    rintro e V ⟨A', c', rfl, hT, hb⟩
    obtain ⟨g, o, rfl, _, d0, _⟩ := hT.at_ (j := 0) rfl
    obtain ⟨g', o', eg, _, d1, _⟩ := hT.at_ (j := 1) rfl
    cases eg
    exact ⟨_, _, rfl, ⟨g, o, rfl, by simpa using d0, by simpa using d1⟩, h.below hb⟩
  have LN : Hid (∀ W K, P1 w s t5 K W → Calls Try.prog 22 #[.pointer (some ⟨s, 0, none⟩)] W fun e V => e = .returned (.int .i64 2) ∧ W = V) := Lib.hid fun W K h => by
    have := h.len
    rw [e9] at this
    exact this
  have ON := Lib.hid one_any
  have EQ := eq_bundle 0 2 0 5 0 0 0 0 7 0 0 0 2 0 5 0 0 0 0 7 0 0
  simp at EQ
  clear e1 e2 e3 e4 e5 e6 e7 e8 e9 l1 l2 l4 hs
  have N1 : Hid (Calls Try.prog 11 #[] w fun e w' => e = .returned (.pointer (some ⟨s, 0, none⟩)) ∧ P1 w s (fun _ => []) [] w') := Lib.hid N
  clear N
  simp only [Bn.val] at *
  generalize (fun _ => [] : Tb) = t0 at *
  go_enter Try.func17, Try.ntmps17
  go_wp2_with (first
    | (go_at_call 11; refine N1.out.mono ?_; rintro e w1 ⟨rfl, h1⟩; clear N1)
    | (go_at_call 38; refine (ON.out _ 0 1).mono ?_; rintro e w2 ⟨rfl, b2⟩; have h2 := h1.below b2; clear b2 h1)
    | (go_at_call 30; refine (P0.out _ _ h2).mono ?_; rintro e w3 ⟨rfl, h3⟩; clear P0 h2)
    | (go_at_call 38; refine (ON.out _ 1 1).mono ?_; rintro e w4 ⟨rfl, b4⟩; have h4 := h3.below b4; clear b4 h3)
    | (go_at_call 30; refine (PA.out _ _ h4).mono ?_; rintro e w5 ⟨rfl, h5⟩; clear PA h4)
    | (go_at_call 38; refine (ON.out _ 2 1).mono ?_; rintro e w6 ⟨rfl, b6⟩; have h6 := h5.below b6; clear b6 h5)
    | (go_at_call 30; refine (PB.out _ _ h6).mono ?_; rintro e w7 ⟨rfl, h7⟩; clear PB h6)
    | (go_at_call 24; refine (RM.out _ _ h7).mono ?_; rintro e w8 ⟨rfl, h8⟩; clear RM h7)
    | (go_at_call 20; refine (RW.out _ _ h8).mono ?_; rintro e w9 ⟨rfl, h9⟩; clear RW h8)
    | (go_at_call 38; refine (ON.out _ 2 5).mono ?_; rintro e w10 ⟨rfl, b10⟩; have h11 := (h9.below b10).hold (.cells #[.int .i64 0, .int .i64 2, .int .i64 0, .int .i64 5, .int .i64 0, .int .i64 0, .int .i64 0, .int .i64 0, .int .i64 7, .int .i64 0, .int .i64 0] 35);
        clear b10 h9)
    | (go_at_call 26; refine (WR.out _ _ h11).mono ?_; rintro e w12 ⟨rfl, h12⟩; clear WR h11; obtain ⟨⟨d0, d1, d2, d3, d4, d5, d6, d7, d8, d9, d10⟩, _⟩ := Bx.b11 (h12.held (List.mem_singleton.2 rfl)))
    | (go_at_call 15; refine (GT.out _ _ h12).mono ?_; rintro e w13 ⟨rfl, h13⟩; have h14 := h13.hold (.cells #[.int .i64 0, .int .i64 2, .int .i64 0, .int .i64 5, .int .i64 0, .int .i64 0, .int .i64 0, .int .i64 0, .int .i64 7, .int .i64 0, .int .i64 0] 35); clear d0 d1 d2 d3 d4 d5 d6 d7 d8 d9 d10 GT h12 h13)
    | (go_at_call 19; refine (TB.out _ _ h14).mono ?_; rintro e w15 ⟨A, c, rfl, ⟨g, o, rfl, k0, k1⟩, h15⟩; clear TB h14;
        obtain ⟨⟨d0, d1, d2, d3, d4, d5, d6, d7, d8, d9, d10⟩, _⟩ := Bx.b11 (h15.held (List.mem_cons_self ..)); obtain ⟨⟨m0, m1, m2, m3, m4, m5, m6, m7, m8, m9, m10⟩, _⟩ := Bx.b11 (h15.held (List.mem_cons_of_mem _ (List.mem_singleton.2 rfl))))
    | (go_at_call 22; refine (LN.out _ _ h15).mono ?_; rintro e w16 ⟨rfl, rfl⟩; clear LN))
  go_ret
  exact ⟨rfl, h15.bel⟩
end Go.Proofs.Yteohkbepefjjlaa
