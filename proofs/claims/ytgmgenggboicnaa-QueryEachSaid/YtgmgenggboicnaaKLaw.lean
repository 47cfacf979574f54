/- ArOrdP, ArYP, ArAwake, ArSwP, in one text. -/
import Derived.Test.YtgmgenggboicnaaKPu
import Derived.Test.YtgmgenggboicnaaKTwo
import Derived.Deep.RegionHeld3
import Derived.Test.YtgmgenggboicnaaKPz
import Derived.Test.YtgmgenggboicnaaKStp
namespace Go.Proofs.Ytgmgenggboicnaa
open Go.RowKit Pz Ar
set_option linter.unusedVariables false
set_option linter.unusedSimpArgs false

namespace Ar
theorem filt_yes {P : List Bn} {m j : Nat} (hj : j < P.length) (h : P[j].m.toNat = m) : addAll (P.take (j + 1)) m = addAll (P.take j) m ++ [P[j]] ∧ (addAll P m)[(addAll (P.take j) m).length]? = some P[j] := by
  have e1 : P.take (j + 1) = P.take j ++ [P[j]] := by rw [List.take_add_one, List.getElem?_eq_getElem hj]; rfl
  have e2 : addAll (P.take (j + 1)) m = addAll (P.take j) m ++ [P[j]] := by
    unfold addAll
    rw [e1, List.filter_append]
    simp [h]
  refine ⟨e2, ?_⟩
  have e3 : addAll P m = addAll (P.take (j + 1)) m ++ addAll (P.drop (j + 1)) m := by
    unfold addAll
    rw [← List.filter_append, List.take_append_drop]
  rw [e3, e2, List.append_assoc, List.getElem?_append_right (Nat.le_refl _), Nat.sub_self]
  rfl
theorem filt_no {P : List Bn} {m j : Nat} (hj : j < P.length) (h : P[j].m.toNat ≠ m) : addAll (P.take (j + 1)) m = addAll (P.take j) m := by
  have e1 : P.take (j + 1) = P.take j ++ [P[j]] := by rw [List.take_add_one, List.getElem?_eq_getElem hj]; rfl
  unfold addAll
  rw [e1, List.filter_append]
  simp [h]
theorem put_cases (t : Tb) (b : Bn) : (put t b = (put0 t b, 0) ∧ may b = true) ∨ ∃ n : Int, n ≠ 0 ∧ put t b = (t, n) := by
  unfold put
  split
  · rename_i hm
    split
    · exact .inr ⟨7, by decide, rfl⟩
    · exact .inl ⟨rfl, hm⟩
  · exact .inr ⟨1, by decide, rfl⟩
theorem total_put0 {t : Tb} {b : Bn} (hb : may b = true) : total (put0 t b) = total t + 1 := by
  obtain ⟨h1, h2⟩ := may_mask hb
  have := total_up t (m := b.m.toNat) (by omega) (t b.m.toNat ++ [b])
  rw [List.length_append] at this
  unfold put0
  simp only [List.length_singleton] at this
  omega
theorem total_addAll {P : List Bn} (h : ∀ b ∈ P, may b = true) : total (addAll P) = P.length := by
  have : ∀ n, n ≤ P.length → total (addAll (P.take n)) = n := fun n => by
    induction n with
    | zero => intro _; rw [List.take_zero, addAll_nil]; exact total_none
    | succ n ih =>
      intro hn
      rw [List.take_add_one, List.getElem?_eq_getElem (by omega)]
      show total (addAll (P.take n ++ [P[n]])) = _
      rw [addAll_snoc, total_put0 (h _ (List.getElem_mem _)), ih (by omega)]
  have := this P.length (Nat.le_refl _)
  rwa [List.take_length] at this
end Ar
/-- the code's store, and one's own row of entities -/
def P1R (w : World) (s : Nat) (t : Tb) (v : Value) (l : List Bn) (W : World) : Prop :=
  Below w.heap.size w W ∧ ∃ F : Foot, CS F s t W ∧ (∀ b, F b → w.heap.size ≤ b) ∧ OwnB W w.heap.size v l ∧ ∀ g, v.ownBlock = some g → ¬ F g
section
variable {w W V : World} {s : Nat} {t t' : Tb} {v : Value} {l : List Bn}
theorem P1.row0 (h : P1 w s t [] W) : P1R w s t (.slice none 0 0) [] W := by
  obtain ⟨h0, F, h1, h4, h5⟩ := h
  exact ⟨h0, F, h1, h4, .inl ⟨rfl, rfl⟩, fun g hg => by cases hg⟩
theorem P1R.one (h : P1R w s t v l W) : P1 w s t [] W := by
  obtain ⟨h0, F, h1, h4, _⟩ := h
  exact ⟨h0, F, h1, h4, fun x hx => by cases hx⟩
theorem P1R.own (h : P1R w s t v l W) : OwnB W w.heap.size v l := by
  obtain ⟨h0, F, h1, h4, h5, _⟩ := h
  exact h5
theorem P1R.below (h : P1R w s t v l W) (hb : Below W.heap.size W V) : P1R w s t v l V := by
  obtain ⟨h0, F, h1, h4, h5, h6⟩ := h
  exact ⟨h0.trans (hb.mono h0.size), F, h1.below hb, h4, h5.below hb, h6⟩
theorem P1R.put (h : P1R w s t v l W) (b : Bn) {n : Nat} (hl : Le t n) (hn : n < 100000) {x : Int} (e : Ar.put t b = (t', x)) : Calls Try.prog 44 #[.pointer (some ⟨s, 0, none⟩), b.val] W fun e V => e = .returned (.int .i64 x) ∧ P1R w s t' v l V := by
  obtain ⟨h0, F, h1, h4, h5, h6⟩ := h
  refine (cput_any h1 b (fun m => by have := hl m; omega)).mono fun e' V ⟨e1, e2, e3⟩ => ?_
  rw [e] at e1 e2
  obtain ⟨k0, F', k1, k4, _⟩ := P1.left (K := []) h0 h1 h4 (fun x hx => by cases hx) e2 e3
  have hlt : ∀ g, v.ownBlock = some g → g < W.heap.size := fun g hg => by
    obtain ⟨_, cur, hc⟩ := h5.blk hg
    exact Bx.lt hc
  refine ⟨e1, k0, _, e2, fun b hb => ?_, h5.kept fun g hg => e3.block g (hlt g hg) (h6 g hg), fun g hg hf => ?_⟩
  · rcases hb with hb | hb
    · exact h4 b hb
    · have := h0.size; omega
  · rcases hf with hf | hf
    · exact h6 g hg hf
    · have := hlt g hg; omega
theorem P1R.app (h : P1R w s t v l W) (x : Bn) (hn : l.length + 1 ≤ 1000000) (ty : TypeId) :
    ∃ A' c' w', (Builtin.append_ #[42, 42] ty #[v, .slice (some ⟨W.heap.size, 0, none⟩) 1 1]).run Try.prog (W.alloc (.cells (bnE x).toArray 33)) = .ok (.slice A' (l ++ [x]).length c') w' ∧ P1R w s t (.slice A' (l ++ [x]).length c') (l ++ [x]) w' := by
  obtain ⟨h0, F, h1, h4, h5, h6⟩ := h
  obtain ⟨v', w', hr, ho, hg, hv, hf⟩ := app_x (enc := bnE) (T := 33) (s := 11) (t := 42) Try.underlying42 bundle_info rfl (by decide) bnE_len bnE_one h5 h0.size x hn (by decide) ty
  obtain ⟨A', c', rfl⟩ := ho.form
  refine ⟨A', c', w', hr, below_row h0 hg h0.size hf, F, h1.kept hg.size fun b hb => hg.block b (h1.lt b hb) (fun e => h6 b e.symm hb), h4, ho, fun g hg' hF => ?_⟩
  rcases hv g hg' with e | e
  · exact h6 g e hF
  · have := h1.lt g hF; omega
end
end Go.Proofs.Ytgmgenggboicnaa
namespace Go.Proofs.Ytgmgenggboicnaa
open Go.RowKit Pz Ar
set_option linter.unusedVariables false
set_option linter.unusedSimpArgs false

theorem ymod_lo (k : Int) {n : Int} (hn : 0 < n) : 0 ≤ k.tmod n + n ∧ k.tmod n + n < 2 * n := by
  have h2 := Int.tmod_lt_of_pos k hn
  have h1 : -n < k.tmod n := by
    have := Int.tmod_lt_of_pos (-k) hn
    rw [Int.neg_tmod] at this
    omega
  omega
theorem ymod_is (k : Int) {n : Int} (hn : 0 < n) : (k.tmod n + n).tmod n = k % n := by
  rw [Int.tmod_eq_emod_of_nonneg (ymod_lo k hn).1, Int.add_emod_right, Int.tmod_def, Int.sub_eq_add_neg, ← Int.mul_neg, Int.add_mul_emod_self_left]
namespace Ar
def flatTo (t : Tb) (j : Nat) : List Bn := ((tabs t).take j).flatMap fun y => t y.1
theorem flatTo_succ {t : Tb} {j m : Nat} {ks : List NK} (h : (tabs t)[j]? = some (m, ks)) : flatTo t (j + 1) = flatTo t j ++ t m := by
  unfold flatTo
  rw [List.take_add_one, h, List.flatMap_append]
  simp
theorem flatTo_all (t : Tb) : flatTo t (tabs t).length = all t := by
  unfold flatTo
  rw [List.take_length, tabs_flat]
theorem flatTo_len (t : Tb) (j : Nat) : (flatTo t j).length ≤ total t := rowsTo_le t j
end Ar
/-- one's own row, made since -/
theorem own_app {w W : World} {v : Value} {l : List Bn} (h0 : Below w.heap.size w W) (h5 : OwnB W w.heap.size v l) (x : Bn) (hn : l.length + 1 ≤ 1000000) (ty : TypeId) :
    ∃ A' c' w', (Builtin.append_ #[42, 42] ty #[v, .slice (some ⟨W.heap.size, 0, none⟩) 1 1]).run Try.prog (W.alloc (.cells (bnE x).toArray 33)) = .ok (.slice A' (l ++ [x]).length c') w' ∧ Below w.heap.size w w' ∧ OwnB w' w.heap.size (.slice A' (l ++ [x]).length c') (l ++ [x]) := by
  obtain ⟨v', w', hr, ho, hg, hv, hf⟩ := app_x (enc := bnE) (T := 33) (s := 11) (t := 42) Try.underlying42 bundle_info rfl (by decide) bnE_len bnE_one h5 h0.size x hn (by decide) ty
  obtain ⟨A', c', rfl⟩ := ho.form
  exact ⟨A', c', w', hr, below_row h0 hg h0.size hf, ho⟩
end Go.Proofs.Ytgmgenggboicnaa
namespace Go.Proofs.Ytgmgenggboicnaa
open Go.RowKit Pz Ar
set_option linter.unusedVariables false
set_option linter.unusedSimpArgs false

section
variable {w W V : World} {s r : Nat} {t u t' : Tb} {K : List (Nat × Obj)}
theorem P1.put' (h : P1 w s t K W) (b : Bn) {n : Nat} (hl : Le t n) (hn : n < 100000) {x : Int} (e : Ar.put t b = (t', x)) : Calls Try.prog 44 #[.pointer (some ⟨s, 0, none⟩), b.val] W fun e V => e = .returned (.int .i64 x) ∧ P1 w s t' K V := by
  have := h.put b hl hn
  rw [e] at this
  exact this
theorem P1.write' (h : P1 w s t K W) (b : Bn) {n : Nat} (hl : Le t n) (hn : n < 100000) {x : Int} (e : Ar.write t b = (t', x)) : Calls Try.prog 55 #[.pointer (some ⟨s, 0, none⟩), b.val] W fun e V => e = .returned (.int .i64 x) ∧ P1 w s t' K V := by
  have := h.write b hl hn
  rw [e] at this
  exact this
theorem P1.remove' (h : P1 w s t K W) (k1 k2 k3 : Int) {x : Bool} (e : Ar.remove t (k1, k2, k3) = (t', x)) : Calls Try.prog 23 #[.pointer (some ⟨s, 0, none⟩), .agg #[.int .i64 k1, .int .i64 k2, .int .i64 k3]] W fun e V => e = .returned (.bool x) ∧ P1 w s t' K V := by
  have := h.remove k1 k2 k3
  rw [e] at this
  exact this
end
namespace Ar
abbrev one1 (i m : Int) : Bn := ⟨0, i, 0, m, 0, 0, 0, 0, 0, 0, 0⟩
abbrev two5 : Bn := ⟨0, 2, 0, 5, 0, 0, 0, 0, 7, 0, 0⟩
theorem awake_vals : ∃ t1 t2 t3 t4 t5 : Tb, put (fun _ => []) (one1 0 1) = (t1, 0) ∧ put t1 (one1 1 1) = (t2, 0) ∧ put t2 (one1 2 1) = (t3, 0) ∧ remove t3 (0, 0, 0) = (t4, true) ∧ find t4 (0, 2, 0) = some (1, 0) ∧ write t4 two5 = (t5, 0) ∧
    cgetV t5 (0, 2, 0) = .tuple #[two5.val, .bool true] ∧ tabs t5 = [(1, [(0, 1, 0)]), (5, [(0, 2, 0)])] ∧ total t5 = 2 ∧ Le t1 1 ∧ Le t2 2 ∧ Le t4 3 :=
  ⟨(put (fun _ => []) (one1 0 1)).1, (put (put (fun _ => []) (one1 0 1)).1 (one1 1 1)).1, (put (put (put (fun _ => []) (one1 0 1)).1 (one1 1 1)).1 (one1 2 1)).1, (remove (put (put (put (fun _ => []) (one1 0 1)).1 (one1 1 1)).1 (one1 2 1)).1 (0, 0, 0)).1, (write (remove (put (put (put (fun _ => []) (one1 0 1)).1 (one1 1 1)).1 (one1 2 1)).1 (0, 0, 0)).1 two5).1, Prod.ext rfl (by decide +kernel), Prod.ext rfl (by decide +kernel), Prod.ext rfl (by decide +kernel), Prod.ext rfl (by decide +kernel), by decide +kernel, Prod.ext rfl (by decide +kernel), by kernel_rfl, by decide +kernel, by decide +kernel,
    le_put le_none _, le_put (le_put le_none _) _, le_remove (le_put (le_put (le_put le_none _) _) _) _⟩
end Ar
set_option maxHeartbeats 8000000 in
set_option maxRecDepth 100000 in
theorem awake_any (w : World) : Calls Try.prog 21 #[] w fun e w' => e = .returned (.bool true) ∧ Below w.heap.size w w' := by
  obtain ⟨t1, t2, t3, t4, t5, e1, e2, e3, e4, e5, e6, e7, e8, e9, l1, l2, l4⟩ := awake_vals
  have N := p1_new w
  have sw : w.heap.size ≤ w.heap.size := Nat.le_refl _
  obtain ⟨s, hs⟩ : ∃ s, s = w.heap.size := ⟨_, rfl⟩
  rw [← hs] at N
  have P0 := Lib.hid (fun W K (h : P1 w s (fun _ => []) K W) => h.put' (one1 0 1) le_none (by decide) e1)
  have PA := Lib.hid (fun W K (h : P1 w s t1 K W) => h.put' (one1 1 1) l1 (by decide) e2)
  have PB := Lib.hid (fun W K (h : P1 w s t2 K W) => h.put' (one1 2 1) l2 (by decide) e3)
  have RM := Lib.hid (fun W K (h : P1 w s t3 K W) => h.remove' 0 0 0 e4)
  have RW : Hid (∀ W K, P1 w s t4 K W → Calls Try.prog 18 #[.pointer (some ⟨s, 0, none⟩), .agg #[.int .i64 0, .int .i64 2, .int .i64 0]] W fun e V => e = .returned (.tuple #[.int .i64 0, .bool true]) ∧ P1 w s t4 K V) := Lib.hid fun W K h => by
    have := h.row 0 2 0
    rw [e5] at this
    exact this
  have WR := Lib.hid (fun W K (h : P1 w s t4 K W) => h.write' two5 l4 (by decide) e6)
  have GT : Hid (∀ W K, P1 w s t5 K W → Calls Try.prog 17 #[.pointer (some ⟨s, 0, none⟩), .agg #[.int .i64 0, .int .i64 2, .int .i64 0]] W fun e V => e = .returned (.tuple #[two5.val, .bool true]) ∧ P1 w s t5 K V) := Lib.hid fun W K h => by
    have := h.get 0 2 0
    rw [e7] at this
    exact this
  have TB : Hid (∀ W K, P1 w s t5 K W → Calls Try.prog 16 #[.pointer (some ⟨s, 0, none⟩)] W fun e V => ∃ A' c', e = .returned (.slice A' 2 c') ∧ (∃ g o, A' = some ⟨g, o, none⟩ ∧ V.cell? ⟨g, o, none⟩ = some (.int .i64 1) ∧ V.cell? ⟨g, o + 2, none⟩ = some (.int .i64 5)) ∧ P1 w s t5 K V) := Lib.hid fun W K h => by
    have := h.tables
    rw [e8] at this
    refine this.mono ?_
    rintro e V ⟨A', c', rfl, hT, hb⟩
    obtain ⟨g, o, rfl, _, d0, _⟩ := hT.at_ (j := 0) rfl
    obtain ⟨g', o', eg, _, d1, _⟩ := hT.at_ (j := 1) rfl
    cases eg
    exact ⟨_, _, rfl, ⟨g, o, rfl, by simpa using d0, by simpa using d1⟩, h.below hb⟩
  have LN : Hid (∀ W K, P1 w s t5 K W → Calls Try.prog 20 #[.pointer (some ⟨s, 0, none⟩)] W fun e V => e = .returned (.int .i64 2) ∧ W = V) := Lib.hid fun W K h => by
    have := h.len
    rw [e9] at this
    exact this
  have ON := Lib.hid one_any
  have EQ := eq_bundle 0 2 0 5 0 0 0 0 7 0 0 0 2 0 5 0 0 0 0 7 0 0
  simp at EQ
  clear e1 e2 e3 e4 e5 e6 e7 e8 e9 l1 l2 l4 hs
  have N1 : Hid (Calls Try.prog 43 #[] w fun e w' => e = .returned (.pointer (some ⟨s, 0, none⟩)) ∧ P1 w s (fun _ => []) [] w') := Lib.hid N
  clear N
  simp only [Bn.val] at *
  generalize (fun _ => [] : Tb) = t0 at *
  go_enter Try.func21, Try.ntmps21
  go_wp2_with (first
    | (go_at_call 43; refine N1.out.mono ?_; rintro e w1 ⟨rfl, h1⟩; clear N1)
    | (go_at_call 54; refine (ON.out _ 0 1).mono ?_; rintro e w2 ⟨rfl, b2⟩; have h2 := h1.below b2; clear b2 h1)
    | (go_at_call 44; refine (P0.out _ _ h2).mono ?_; rintro e w3 ⟨rfl, h3⟩; clear P0 h2)
    | (go_at_call 54; refine (ON.out _ 1 1).mono ?_; rintro e w4 ⟨rfl, b4⟩; have h4 := h3.below b4; clear b4 h3)
    | (go_at_call 44; refine (PA.out _ _ h4).mono ?_; rintro e w5 ⟨rfl, h5⟩; clear PA h4)
    | (go_at_call 54; refine (ON.out _ 2 1).mono ?_; rintro e w6 ⟨rfl, b6⟩; have h6 := h5.below b6; clear b6 h5)
    | (go_at_call 44; refine (PB.out _ _ h6).mono ?_; rintro e w7 ⟨rfl, h7⟩; clear PB h6)
    | (go_at_call 23; refine (RM.out _ _ h7).mono ?_; rintro e w8 ⟨rfl, h8⟩; clear RM h7)
    | (go_at_call 18; refine (RW.out _ _ h8).mono ?_; rintro e w9 ⟨rfl, h9⟩; clear RW h8)
    | (go_at_call 54; refine (ON.out _ 2 5).mono ?_; rintro e w10 ⟨rfl, b10⟩; have h11 := (h9.below b10).hold (.cells #[.int .i64 0, .int .i64 2, .int .i64 0, .int .i64 5, .int .i64 0, .int .i64 0, .int .i64 0, .int .i64 0, .int .i64 7, .int .i64 0, .int .i64 0] 33);
        clear b10 h9)
    | (go_at_call 55; refine (WR.out _ _ h11).mono ?_; rintro e w12 ⟨rfl, h12⟩; clear WR h11; obtain ⟨⟨d0, d1, d2, d3, d4, d5, d6, d7, d8, d9, d10⟩, _⟩ := Bx.b11 (h12.held (List.mem_singleton.2 rfl)))
    | (go_at_call 17; refine (GT.out _ _ h12).mono ?_; rintro e w13 ⟨rfl, h13⟩; have h14 := h13.hold (.cells #[.int .i64 0, .int .i64 2, .int .i64 0, .int .i64 5, .int .i64 0, .int .i64 0, .int .i64 0, .int .i64 0, .int .i64 7, .int .i64 0, .int .i64 0] 33); clear d0 d1 d2 d3 d4 d5 d6 d7 d8 d9 d10 GT h12 h13)
    | (go_at_call 16; refine (TB.out _ _ h14).mono ?_; rintro e w15 ⟨A, c, rfl, ⟨g, o, rfl, k0, k1⟩, h15⟩; clear TB h14;
        obtain ⟨⟨d0, d1, d2, d3, d4, d5, d6, d7, d8, d9, d10⟩, _⟩ := Bx.b11 (h15.held (List.mem_cons_self ..)); obtain ⟨⟨m0, m1, m2, m3, m4, m5, m6, m7, m8, m9, m10⟩, _⟩ := Bx.b11 (h15.held (List.mem_cons_of_mem _ (List.mem_singleton.2 rfl))))
    | (go_at_call 20; refine (LN.out _ _ h15).mono ?_; rintro e w16 ⟨rfl, rfl⟩; clear LN))
  go_ret
  exact ⟨rfl, h15.bel⟩
end Go.Proofs.Ytgmgenggboicnaa
namespace Go.Proofs.Ytgmgenggboicnaa
open Go.RowKit Pz Ar
set_option linter.unusedVariables false
set_option linter.unusedSimpArgs false

section
variable {w W V : World} {s : Nat} {t t' : Tb} {Φ Ψ : World → Prop}
theorem px_all (h : PX w s t Φ W) (hl : total t ≤ 10000) : Calls Try.prog 22 #[.pointer (some ⟨s, 0, none⟩), .int .i64 10000] W fun e V => ∃ A c, e = .returned (.slice A (all t).length c) ∧ PX w s t (fun V => Φ V ∧ OwnB V W.heap.size (.slice A (all t).length c) (all t)) V := by
  have := h.all 10000 (by decide) (by omega)
  rw [List.take_of_length_le (by rw [total_all]; omega)] at this
  exact this
theorem PX.copy (h : PX w s t Φ W) (hl : total t + 1 ≤ 100000) : Calls Try.prog 24 #[.pointer (some ⟨s, 0, none⟩)] W fun e V => e = .returned (.pointer (some ⟨W.heap.size, 0, none⟩)) ∧ PX w s t (fun U => Φ U ∧ (V.heap.size ≤ U.heap.size → ∃ G, CS G W.heap.size t U)) V := by
  obtain ⟨h0, F, h1, h4, h5⟩ := h
  refine (copy_any h1 hl).mono ?_
  rintro e V ⟨rfl, hc, hb⟩
  refine ⟨rfl, h0.trans (hb.mono h0.size), F, h1.below hb, h4, fun U hU => ⟨h5 U fun b hl hn => (hU b (Nat.lt_of_lt_of_le hl hb.size) hn).trans (hb.block b hl), fun hs => ⟨_, hc.kept hs fun b hG => hU b (hc.lt b hG) fun hf => ?_⟩⟩⟩
  have := h1.lt b hf
  rcases hG with hG | hG
  · exact hG
  · omega
theorem PX.remove2 (h : PX w s t Φ W) (k1 k2 k3 : Int) {x : Bool} (e : Ar.remove t (k1, k2, k3) = (t', x)) : Calls Try.prog 23 #[.pointer (some ⟨s, 0, none⟩), .agg #[.int .i64 k1, .int .i64 k2, .int .i64 k3]] W fun e V => e = .returned (.bool x) ∧ PX w s t' Φ V ∧ W.heap.size ≤ V.heap.size := by
  obtain ⟨h0, F, h1, h4, h5⟩ := h
  refine (remove_any h1 k1 k2 k3).mono fun e' V ⟨e1, e2, e3⟩ => ?_
  rw [e] at e1 e2
  exact ⟨e1, PX.turn h0 h1 h4 h5 e2 e3, e3.size⟩
/-- a block made since, whatever was done to it -/
theorem PX.more (h : PX w s t Φ W) (hb : Below W.heap.size W V) {q : Nat} (hq : W.heap.size ≤ q) {o : Obj} (ho : V.heap[q]? = some o) : PX w s t (fun U => Φ U ∧ U.heap[q]? = some o) V := by
  obtain ⟨h0, F, h1, h4, h5⟩ := h
  refine ⟨h0.trans (hb.mono h0.size), F, h1.below hb, h4, fun U hU => ⟨h5 U fun b hl hn => (hU b (Nat.lt_of_lt_of_le hl hb.size) hn).trans (hb.block b hl), ?_⟩⟩
  exact (hU q (Bx.lt ho) fun hf => by have := h1.lt q hf; omega).trans ho
end
theorem deeds_good (l : List Dd) : Ar.Good (deeds l) := by
  have : ∀ (l : List Dd) (t : Tb), Ar.Good t → Ar.Good (l.foldl deedT t) := fun l => by
    induction l with
    | nil => intro t h; exact h
    | cons x l ih => intro t h; exact ih _ (good_step h x)
  exact this l _ good_none
namespace Ar
theorem remove_is {t : Tb} {k : NK} {m i : Nat} (h : find t k = some (m, i)) : remove t k = (cut0 t m i, true) := by unfold remove; rw [h]
theorem remove_no {t : Tb} {k : NK} (h : find t k = none) : remove t k = (t, false) := by unfold remove; rw [h]
theorem total_cut {t : Tb} {m i : Nat} (hm : m < 32) (hi : i < (t m).length) : total (cut0 t m i) + 1 = total t := by
  have := total_up t hm (cutL (t m) i)
  rw [cutL_len] at this
  unfold cut0
  omega
theorem find_all {t : Tb} (hg : Good t) {y : Bn} (hy : y ∈ all t) : ∃ m i, m < 32 ∧ find t y.id = some (m, i) ∧ (t m)[i]? = some y ∧ y.m = (m : Int) := by
  obtain ⟨m, i, hm, h⟩ := all_mem hy
  exact ⟨m, i, hm, find_is hg h, h, (hg.ok m y (List.mem_of_getElem? h)).2⟩
section
variable {t : Tb} {m i : Nat} {x z y : Bn}
theorem swap_gone (hg : Good t) (hx : (t m)[i]? = some x) (e : y.id = x.id) : find (cut0 t m i) y.id = none := by rw [e]; exact cut_gone hg hx
theorem swap_last (hg : Good t) (hx : (t m)[i]? = some x) (hz : (t m)[(t m).length - 1]? = some z) (hy : y ∈ all t) (e1 : y.id ≠ x.id) (e2 : y.id = z.id) : find (cut0 t m i) y.id = some (m, i) ∧ (cut0 t m i m)[i]? = some y := by
  have hf := (cut_iff hg hx hz y.id (m, i)).2 ⟨e1, .inl ⟨e2, rfl⟩⟩
  refine ⟨hf, ?_⟩
  obtain ⟨M, I, hM, f1, f2, _⟩ := find_all hg hy
  have f3 := find_is hg hz
  rw [← e2, f1] at f3
  cases f3
  rw [f2] at hz
  cases hz
  have hi := (List.getElem?_eq_some_iff.1 hx).1
  have hlt : i + 1 < (t m).length := by
    rcases Nat.lt_or_ge (i + 1) (t m).length with h | h
    · exact h
    · exfalso
      have : (t m).length - 1 = i := by omega
      rw [this, hx] at f2
      exact e1 (by rw [Option.some.inj f2])
  unfold cut0
  rw [up_same, cutL_get hlt, if_pos rfl]
  exact f2
theorem swap_stay (hg : Good t) (hx : (t m)[i]? = some x) (hz : (t m)[(t m).length - 1]? = some z) (hy : y ∈ all t) (e1 : y.id ≠ x.id) (e2 : y.id ≠ z.id) {M I : Nat} (hf : find t y.id = some (M, I)) : find (cut0 t m i) y.id = some (M, I) ∧ (cut0 t m i M)[I]? = some y := by
  have hf2 := (cut_iff hg hx hz y.id (M, I)).2 ⟨e1, .inr ⟨e2, hf⟩⟩
  refine ⟨hf2, ?_⟩
  have hi := (List.getElem?_eq_some_iff.1 hx).1
  obtain ⟨hM, b, hb, hid⟩ := find_at hf2
  obtain ⟨M2, I2, hM2, f1, f2, _⟩ := find_all hg hy
  rw [hf] at f1
  cases f1
  by_cases hm : M = m
  · subst hm
    have hI := (List.getElem?_eq_some_iff.1 hb).1
    unfold cut0 at hI ⊢
    rw [up_same] at hI ⊢
    rw [cutL_len] at hI
    rw [cutL_get (by omega)]
    by_cases h : I = i
    · exfalso
      subst h
      rw [hx] at f2
      exact e1 (by rw [Option.some.inj f2])
    · rw [if_neg h]; exact f2
  · unfold cut0
    rw [up_ne _ _ hm]
    exact f2
/-- the row of the last one met -/
theorem last_row (hg : Good t) {M : Nat} (hm : m < 32) (hM : M < (t m).length) (h : ∀ y ∈ all t, ∀ r, find t y.id = some (m, r) → r ≤ M) : M = (t m).length - 1 := by
  have hl : (t m).length - 1 < (t m).length := by omega
  have hz := List.getElem?_eq_getElem hl
  have := h _ (mem_all hm (List.mem_of_getElem? hz)) _ (find_is hg hz)
  omega
end
end Ar
end Go.Proofs.Ytgmgenggboicnaa
