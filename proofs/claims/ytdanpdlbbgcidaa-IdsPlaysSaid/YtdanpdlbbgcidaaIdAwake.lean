/- The chapter's example. -/
import Derived.Test.YtdanpdlbbgcidaaIdNew
namespace Go.Proofs.Ytdanpdlbbgcidaa
open Go.RowKit Ids
set_option linter.unusedVariables false

/-- a pool since w, and names that lie in boxes beside it -/
structure Hx (w : World) (d : Nat) (p : Pl) (K : St) (L : List (Nat × I3)) (W : World) : Prop where
  pa : PA W p K
  pd : p.d = d
  bel : Below w.heap.size w W
  lo : w.heap.size ≤ p.lo
  held : ∀ x ∈ L, p.hi ≤ x.1 ∧ W.heap[x.1]? = some (.cells #[.int .i64 x.2.1, .int .i64 x.2.2.1, .int .i64 x.2.2.2] 33 (0, 0))
section
variable {w W W' : World} {d : Nat} {p : Pl} {K K' : St} {L : List (Nat × I3)}
theorem Hx.next (h : Hx w d p K L W) (h1 : PA W' p K') (h2 : Turn p.lo p.hi W W') : Hx w d p K' L W' :=
  ⟨h1, h.pd, h.bel.trans (h2.bel.mono h.lo), h.lo, fun x hx => ⟨(h.held x hx).1, (h2.up _ (h.held x hx).1 (heap_lt (h.held x hx).2)).trans (h.held x hx).2⟩⟩
theorem Hx.below (h : Hx w d p K L W) (hb : Below W.heap.size W W') : Hx w d p K L W' := h.next (h.pa.below hb) (Turn.of hb h.pa.lo_le)
theorem Hx.box (h : Hx w d p K L W) (x : I3) : Hx w d p K ((W.heap.size, x) :: L) (W.alloc (.cells #[.int .i64 x.1, .int .i64 x.2.1, .int .i64 x.2.2] 33)) := by
  have h' := h.below (bel1 W (.cells #[.int .i64 x.1, .int .i64 x.2.1, .int .i64 x.2.2] 33))
  refine ⟨h'.pa, h'.pd, h'.bel, h'.lo, fun y hy => ?_⟩
  rcases List.mem_cons.1 hy with rfl | hy
  · exact ⟨h.pa.top, at1 W _⟩
  · exact h'.held y hy
theorem Hx.get (h : Hx w d p K L W) {b : Nat} {x : I3} (hx : (b, x) ∈ L) : W.cell? ⟨b, 0, none⟩ = some (.int .i64 x.1) ∧ W.cell? ⟨b, 1, none⟩ = some (.int .i64 x.2.1) ∧ W.cell? ⟨b, 2, none⟩ = some (.int .i64 x.2.2) := (box3 (h.held _ hx).2).1
theorem Hx.issue (h : Hx w d p K L W) (k : Int) {x : Int × Nat × Nat} {n : Nat} (e : Ids.issue K k = (K', x, n)) :
    Calls Try.prog 23 #[.pointer (some ⟨d, 0, none⟩), .int .i64 k] W fun e w' => e = .returned (.tuple #[.agg #[.int .i64 x.1, .int .i64 (x.2.1 : Nat), .int .i64 (x.2.2 : Nat)], .int .i64 (n : Nat)]) ∧ Hx w d p K' L w' := by
  have := issue_any h.pa k
  rw [h.pd, e] at this
  exact this.mono fun e w' ⟨h1, h2, h3⟩ => ⟨h1, h.next h2 h3⟩
theorem Hx.reserve (h : Hx w d p K L W) (k i : Int) {n : Nat} (e : Ids.reserve K k i = (K', n)) :
    Calls Try.prog 16 #[.pointer (some ⟨d, 0, none⟩), .int .i64 k, .int .i64 i] W fun e w' => e = .returned (.int .i64 (n : Nat)) ∧ Hx w d p K' L w' := by
  have := reserve_any h.pa k i
  rw [h.pd, e] at this
  exact this.mono fun e w' ⟨h1, h2, h3⟩ => ⟨h1, h.next h2 h3⟩
theorem Hx.free (h : Hx w d p K L W) (k i g : Int) {n : Nat} (e : Ids.free K k i g = (K', n)) :
    Calls Try.prog 18 #[.pointer (some ⟨d, 0, none⟩), .agg #[.int .i64 k, .int .i64 i, .int .i64 g]] W fun e w' => e = .returned (.int .i64 (n : Nat)) ∧ Hx w d p K' L w' := by
  have := free_any h.pa k i g
  rw [h.pd, e] at this
  exact this.mono fun e w' ⟨h1, h2, h3⟩ => ⟨h1, h.next h2 h3⟩
theorem Hx.take (h : Hx w d p K L W) (k i g : Int) {n : Nat} (e : Ids.take K k i g = (K', n)) :
    Calls Try.prog 17 #[.pointer (some ⟨d, 0, none⟩), .agg #[.int .i64 k, .int .i64 i, .int .i64 g]] W fun e w' => e = .returned (.int .i64 (n : Nat)) ∧ Hx w d p K' L w' := by
  have := take_any h.pa k i g
  rw [h.pd, e] at this
  exact this.mono fun e w' ⟨h1, h2, h3⟩ => ⟨h1, h.next h2 h3⟩
theorem Hx.alive (h : Hx w d p K L W) (k i g : Int) {b : Bool} (e : Ids.alive K k i g = b) :
    Calls Try.prog 20 #[.pointer (some ⟨d, 0, none⟩), .agg #[.int .i64 k, .int .i64 i, .int .i64 g]] W fun e w' => e = .returned (.bool b) ∧ Hx w d p K L w' := by
  have := alive_any h.pa k i g
  rw [h.pd, e] at this
  exact this.mono fun e w' ⟨h1, h2⟩ => ⟨h1, h.below h2⟩
end
/-- what the example comes to -/
theorem awake_vals : ∃ K1 K2 K3 K4 K5 K6 K7, issue (new 1 2) 0 = (K1, (0, 0, 0), 14) ∧ reserve K1 0 0 = (K2, 0) ∧ issue K2 0 = (K3, (0, 0, 0), 0) ∧ free K3 0 0 0 = (K4, 0) ∧ reserve K4 0 1 = (K5, 0) ∧ issue K5 0 = (K6, (0, 1, 0), 0) ∧ issue K6 0 = (K7, (0, 0, 1), 0) ∧ alive K7 0 0 0 = false ∧ alive K7 0 0 1 = true :=
  ⟨_, _, _, _, _, _, _, Prod.ext rfl (by decide), Prod.ext rfl (by decide), Prod.ext rfl (by decide), Prod.ext rfl (by decide), Prod.ext rfl (by decide), Prod.ext rfl (by decide), Prod.ext rfl (by decide), by decide, by decide⟩
/-- New, in a law -/
theorem hx_new (w : World) {n m : Nat} (n1 : 1 ≤ n) (n2 : n ≤ 16) (m1 : 1 ≤ m) (m2 : m ≤ 16) : Calls Try.prog 9 #[.int .i64 (n : Int), .int .i64 (m : Int)] w fun e w' => e = .returned (.tuple #[.pointer (some ⟨w.heap.size, 0, none⟩), .int .i64 0]) ∧ ∃ p, Hx w w.heap.size p (new n m) [] w' := by
  refine (new_yes w n1 n2 m1 m2).mono ?_
  rintro e w' ⟨rfl, ⟨q, N, ib, rb, cb, h⟩, hb⟩
  exact ⟨rfl, _, h, rfl, hb, Nat.le_refl _, fun x hx => by cases hx⟩
set_option maxHeartbeats 8000000 in
set_option maxRecDepth 100000 in
theorem awake_any (w : World) : Calls Try.prog 11 #[] w fun e w' => e = .returned (.bool true) ∧ Below w.heap.size w w' := by
  obtain ⟨K1, K2, K3, K4, K5, K6, K7, e1, e2, e3, e4, e5, e6, e7, e8, e9⟩ := awake_vals
  have N := Lib.hid (hx_new w (n := 1) (m := 2) (by decide) (by decide) (by decide) (by decide))
  obtain ⟨d, hd⟩ : ∃ d, d = w.heap.size := ⟨_, rfl⟩
  rw [← hd] at N
  have I1 := Lib.hid (fun W p (h : Hx w d p (new 1 2) [] W) => h.issue 0 e1)
  have R1 := Lib.hid (fun W p L (h : Hx w d p K1 L W) => h.reserve 0 0 e2)
  have I2 := Lib.hid (fun W p L (h : Hx w d p K2 L W) => h.issue 0 e3)
  have F1 := Lib.hid (fun W p L (h : Hx w d p K3 L W) => h.free 0 0 0 e4)
  have R2 := Lib.hid (fun W p L (h : Hx w d p K4 L W) => h.reserve 0 1 e5)
  have J3 := Lib.hid (fun W p L (h : Hx w d p K5 L W) => h.issue 0 e6)
  have J4 := Lib.hid (fun W p L (h : Hx w d p K6 L W) => h.issue 0 e7)
  have A1 := Lib.hid (fun W p L (h : Hx w d p K7 L W) => h.alive 0 0 0 e8)
  have A2 := Lib.hid (fun W p L (h : Hx w d p K7 L W) => h.alive 0 0 1 e9)
  clear e1 e2 e3 e4 e5 e6 e7 e8 e9
  have N1 : Hid (Calls Try.prog 9 #[.int .i64 1, .int .i64 2] w fun e w' => e = .returned (.tuple #[.pointer (some ⟨d, 0, none⟩), .int .i64 0]) ∧ ∃ p, Hx w d p (new 1 2) [] w') := N
  clear N hd
  generalize new 1 2 = K0 at *
  go_enter Try.func11, Try.ntmps11
  go_wp2_with (first
    | (go_at_call 9; refine N1.out.mono ?_; rintro e w1 ⟨rfl, p, h1⟩; clear N1)
    | (go_at_call 23; refine (I1.out _ _ h1).mono ?_; rintro e w2 ⟨rfl, h2⟩; have h3 := h2.below (bel1 w2 (.cells #[.int .i64 0, .int .i64 0, .int .i64 0] 33)); clear I1 h1 h2)
    | (go_at_call 16; refine (R1.out _ _ _ h3).mono ?_; rintro e w3 ⟨rfl, h4⟩; clear R1 h3)
    | (go_at_call 23; refine (I2.out _ _ _ h4).mono ?_; rintro e w4 ⟨rfl, h5⟩; have h6 := h5.box (0, 0, 0); obtain ⟨c0, c1, c2⟩ := h6.get (b := w4.heap.size) (x := (0, 0, 0)) (by simp); clear I2 h4 h5)
    | (go_at_call 18; refine (F1.out _ _ _ h6).mono ?_; rintro e w5 ⟨rfl, h7⟩; clear F1 h6 c0 c1 c2)
    | (go_at_call 16; refine (R2.out _ _ _ h7).mono ?_; rintro e w6 ⟨rfl, h8⟩; clear R2 h7)
    | (go_at_call 23; refine (J3.out _ _ _ h8).mono ?_; rintro e w7 ⟨rfl, h9⟩; have h10 := h9.box (0, 1, 0); clear J3 h8 h9)
    | (go_at_call 23; refine (J4.out _ _ _ h10).mono ?_; rintro e w8 ⟨rfl, h11⟩; have h12 := h11.box (0, 0, 1); clear J4 h10 h11;
        obtain ⟨a0, a1, a2⟩ := h12.get (b := w4.heap.size) (x := (0, 0, 0)) (by simp); obtain ⟨b0, b1, b2⟩ := h12.get (b := w7.heap.size) (x := (0, 1, 0)) (by simp); obtain ⟨d0, d1, d2⟩ := h12.get (b := w8.heap.size) (x := (0, 0, 1)) (by simp))
    | (go_at_call 20; refine (A1.out _ _ _ h12).mono ?_; rintro e w9 ⟨rfl, h13⟩; clear A1 h12 a0 a1 a2 b0 b1 b2 d0 d1 d2; obtain ⟨d0, d1, d2⟩ := h13.get (b := w8.heap.size) (x := (0, 0, 1)) (by simp))
    | (go_at_call 20; refine (A2.out _ _ _ h13).mono ?_; rintro e w10 ⟨rfl, h14⟩; clear A2 h13 d0 d1 d2))
  go_ret
  exact ⟨rfl, h14.bel⟩
end Go.Proofs.Ytdanpdlbbgcidaa
