/- The code: the chapter's example; what the laws ask of the code. -/
import Derived.Test.YtljaahemlcaffaaGreatK35
namespace Go.Proofs.YtljaahemlcaffaaGreat
open Go.RowKit Pz Sp
set_option linter.unusedVariables false
set_option linter.unusedSimpArgs false

theorem aw1 (V : World) : (Instr.build 42 #[(1, .int .i64 7), (2, .int .i64 250), (4, .int .i64 10), (6, .int .i64 3)]).run Tryz.prog V = .ok (.agg #[.int .i64 0, .int .i64 0, .int .i64 0, .int .i64 7, .int .i64 250, .int .i64 0, .int .i64 10, .int .i64 0, .int .i64 3, .int .i64 0, .int .i64 0]) V := by kernel_rfl
theorem aw2 (V : World) : (Instr.build 42 #[(0, .agg #[.int .i64 1, .int .i64 0, .int .i64 0]), (1, .int .i64 9), (2, .int .i64 260), (7, .int .i64 2)]).run Tryz.prog V = .ok (.agg #[.int .i64 1, .int .i64 0, .int .i64 0, .int .i64 9, .int .i64 260, .int .i64 0, .int .i64 0, .int .i64 0, .int .i64 0, .int .i64 2, .int .i64 0]) V := by kernel_rfl
theorem aw2' (V : World) : (Instr.build 40 #[(0, .int .i64 1)]).run Tryz.prog V = .ok (.agg #[.int .i64 1, .int .i64 0, .int .i64 0]) V := by kernel_rfl
theorem aw3 (V : World) : (Instr.build 55 #[(0, .int .i64 2)]).run Tryz.prog V = .ok (.agg #[.int .i64 2, .int .i64 0, .int .i64 0, .int .i64 0, .int .i64 0, .int .i64 0, .int .i64 0, .int .i64 0, .int .i64 0, .int .i64 0, .int .i64 0, .int .i64 0, .int .i64 0, .int .i64 0, .int .i64 0, .int .i64 0]) V := by kernel_rfl
theorem aw4 (V : World) : (Instr.buildSlice 25 1 #[(0, .agg #[.int .i64 2, .int .i64 0, .int .i64 0, .int .i64 0, .int .i64 0, .int .i64 0, .int .i64 0, .int .i64 0, .int .i64 0, .int .i64 0, .int .i64 0, .int .i64 0, .int .i64 0, .int .i64 0, .int .i64 0, .int .i64 0])]).run Tryz.prog V = .ok (.slice (some ⟨V.heap.size, 0, none⟩) 1 1) (V.alloc (.cells #[.int .i64 2, .int .i64 0, .int .i64 0, .int .i64 0, .int .i64 0, .int .i64 0, .int .i64 0, .int .i64 0, .int .i64 0, .int .i64 0, .int .i64 0, .int .i64 0, .int .i64 0, .int .i64 0, .int .i64 0, .int .i64 0] 55)) := by kernel_rfl
theorem aw5 (V : World) : (Instr.build 23 #[(0, .int .i64 2), (1, .int .i64 1), (2, .int .i64 256), (3, .int .i64 20), (4, .int .i64 10), (5, .int .i64 1), (6, .int .i64 1)]).run Tryz.prog V = .ok (.agg #[.int .i64 2, .int .i64 1, .int .i64 256, .int .i64 20, .int .i64 10, .int .i64 1, .int .i64 1]) V := by kernel_rfl
theorem aw_r1 : Tk.run 2 1 256 20 10 0 [⟨0, 0, 0, 7, 250, 0, 10, 0, 3, 0, 0⟩] [⟨1, 0, 0, 9, 260, 0, 0, 0, 0, 2, 0⟩] [] = ([], [⟨0, 0, 0, 7, 260, 0, 10, 0, 1, 0, 0⟩], []) := by kernel_rfl
theorem aw_r2 : Tk.run 2 1 256 20 10 0 [⟨0, 0, 0, 7, 250, 0, 10, 0, 3, 0, 0⟩] [] [⟨2, 0, 0, 0, ⟨0, 0, 0, 0, 0, 0, 0, 0, 0, 0, 0⟩, 0⟩] = ([], [], [(0, 0, 0)]) := by kernel_rfl
theorem rd1_cmd {V : World} {q B : Nat} {x : Cn} (h : V.heap[q]? = some (.cells (cnE x).toArray 55 (0, 0))) (hB : q < B) : RdC V B (some ⟨q, 0, none⟩) [x] := fun j y hx => by
  have hj : j = 0 := by have := (List.getElem?_eq_some_iff.1 hx).1; simp at this; exact this
  subst hj
  have := Option.some.inj hx
  subst this
  have key : ∀ c u, (cnE x)[c]? = some u → V.cell? ⟨q, 0 + 0 * 16 + c, none⟩ = some u := fun c u hu => by
    have h9 : V.cell? ⟨q, c, none⟩ = some u := (Bx.cell h (by simpa using hu)).1
    rw [Nat.zero_mul, Nat.zero_add]
    exact h9
  exact ⟨q, 0, rfl, hB, key 0 _ rfl, key 1 _ rfl, key 2 _ rfl, key 3 _ rfl, key 4 _ rfl, key 5 _ rfl, key 6 _ rfl, key 7 _ rfl, key 8 _ rfl, key 9 _ rfl, key 10 _ rfl, key 11 _ rfl, key 12 _ rfl, key 13 _ rfl, key 14 _ rfl, key 15 _ rfl⟩
theorem fits1 : Bn.Fits ⟨0, 0, 0, 7, 250, 0, 10, 0, 3, 0, 0⟩ := by constructor <;> exact ⟨by decide, by decide⟩
theorem fits2 : Bn.Fits ⟨1, 0, 0, 9, 260, 0, 0, 0, 0, 2, 0⟩ := by constructor <;> exact ⟨by decide, by decide⟩
theorem fits3 : CFit ⟨2, 0, 0, 0, ⟨0, 0, 0, 0, 0, 0, 0, 0, 0, 0, 0⟩, 0⟩ := by
  refine ⟨⟨by decide, by decide⟩, ⟨by decide, by decide⟩, ⟨by decide, by decide⟩, ⟨by decide, by decide⟩, ⟨by decide, by decide⟩, ?_⟩
  constructor <;> exact ⟨by decide, by decide⟩
theorem one_un (b : Bn) : Tk.Un [b] := by unfold Tk.Un; simp
set_option maxHeartbeats 8000000 in
set_option maxRecDepth 100000 in
theorem tawake_any (w : World) : Calls Tryz.prog 17 #[] w fun e w' => e = .returned (.bool true) ∧ Below w.heap.size w w' := by
  have OK2 : Zn.Ok 2 1 256 20 10 := by constructor <;> decide
  have NEW := Lib.hid fun W => new_yes 2 1 256 20 10 1 1 W (by kernel_rfl)
  have RUN1 : Hid (∀ (V : World) (q : Nat), MapAt V q 2 1 256 20 10 1 1 → Calls Tryz.prog 13 #[.pointer (some ⟨q, 0, none⟩), .int .i64 0, .slice (some ⟨V.heap.size, 0, none⟩) 1 1, .slice (some ⟨V.heap.size + 1, 0, none⟩) 1 1, .slice none 0 0] ((V.alloc (.cells #[.int .i64 0, .int .i64 0, .int .i64 0, .int .i64 7, .int .i64 250, .int .i64 0, .int .i64 10, .int .i64 0, .int .i64 3, .int .i64 0, .int .i64 0] 42)).alloc (.cells #[.int .i64 1, .int .i64 0, .int .i64 0, .int .i64 9, .int .i64 260, .int .i64 0, .int .i64 0, .int .i64 0, .int .i64 0, .int .i64 2, .int .i64 0] 42)) fun e V' => ∃ (B1 B2 B3 : Option Addr) (d1 d2 d3 : Nat), e = .returned (.agg #[.slice B1 0 d1, .slice B2 1 d2, .slice B3 0 d3]) ∧ (∃ g o, B2 = some ⟨g, o, none⟩ ∧ g < V'.heap.size ∧ V'.cell? ⟨g, o + 4, none⟩ = some (.int .i64 260) ∧ V'.cell? ⟨g, o + 8, none⟩ = some (.int .i64 1)) ∧ Below V.heap.size V V') := Lib.hid fun V q hq => by
    have b2 := bel2 V (.cells #[.int .i64 0, .int .i64 0, .int .i64 0, .int .i64 7, .int .i64 250, .int .i64 0, .int .i64 10, .int .i64 0, .int .i64 3, .int .i64 0, .int .i64 0] 42) (.cells #[.int .i64 1, .int .i64 0, .int .i64 0, .int .i64 9, .int .i64 260, .int .i64 0, .int .i64 0, .int .i64 0, .int .i64 0, .int .i64 2, .int .i64 0] 42)
    have hz : ((V.alloc (.cells #[.int .i64 0, .int .i64 0, .int .i64 0, .int .i64 7, .int .i64 250, .int .i64 0, .int .i64 10, .int .i64 0, .int .i64 3, .int .i64 0, .int .i64 0] 42)).alloc (.cells #[.int .i64 1, .int .i64 0, .int .i64 0, .int .i64 9, .int .i64 260, .int .i64 0, .int .i64 0, .int .i64 0, .int .i64 0, .int .i64 2, .int .i64 0] 42)).heap.size = V.heap.size + 2 := by simp
    have C := crun_any 2 1 256 20 10 1 1 0 ((V.alloc (.cells #[.int .i64 0, .int .i64 0, .int .i64 0, .int .i64 7, .int .i64 250, .int .i64 0, .int .i64 10, .int .i64 0, .int .i64 3, .int .i64 0, .int .i64 0] 42)).alloc (.cells #[.int .i64 1, .int .i64 0, .int .i64 0, .int .i64 9, .int .i64 260, .int .i64 0, .int .i64 0, .int .i64 0, .int .i64 0, .int .i64 2, .int .i64 0] 42)) q (some ⟨V.heap.size, 0, none⟩) (some ⟨V.heap.size + 1, 0, none⟩) none 1 1 0 [⟨0, 0, 0, 7, 250, 0, 10, 0, 3, 0, 0⟩] [⟨1, 0, 0, 9, 260, 0, 0, 0, 0, 2, 0⟩] [] (hq.below b2) OK2 ⟨rd1_cells (at2a V (.cells #[.int .i64 0, .int .i64 0, .int .i64 0, .int .i64 7, .int .i64 250, .int .i64 0, .int .i64 10, .int .i64 0, .int .i64 3, .int .i64 0, .int .i64 0] 42) (.cells #[.int .i64 1, .int .i64 0, .int .i64 0, .int .i64 9, .int .i64 260, .int .i64 0, .int .i64 0, .int .i64 0, .int .i64 0, .int .i64 2, .int .i64 0] 42)) (by rw [hz]; omega), rd1_cells (at2b V (.cells #[.int .i64 0, .int .i64 0, .int .i64 0, .int .i64 7, .int .i64 250, .int .i64 0, .int .i64 10, .int .i64 0, .int .i64 3, .int .i64 0, .int .i64 0] 42) (.cells #[.int .i64 1, .int .i64 0, .int .i64 0, .int .i64 9, .int .i64 260, .int .i64 0, .int .i64 0, .int .i64 0, .int .i64 0, .int .i64 2, .int .i64 0] 42)) (by rw [hz]; omega), RdC.nil _ _ _, by decide, by decide, by decide, fun b hb => by rw [List.mem_singleton.1 hb]; exact fits1, fun b hb => by rw [List.mem_singleton.1 hb]; exact fits2, fun c hc => by simp at hc⟩ (.inl (one_un _))
    rw [aw_r1] at C
    refine C.mono ?_
    rintro e V' ⟨B1, B2, B3, d1, d2, d3, rfl, ⟨_, o2, _⟩, hb⟩
    obtain ⟨g, o, rfl, _, ⟨_, _, _, _, k4, _, _, _, k8, _⟩, _⟩ := own_at o2 (k := 0) rfl
    rw [Nat.zero_mul, Nat.add_zero] at k4 k8
    exact ⟨B1, _, B3, d1, d2, d3, rfl, ⟨g, o, rfl, World.block_lt_of_cell? _ _ k4, k4, k8⟩, b2.trans (hb.mono (by rw [hz]; omega))⟩
  have RUN2 : Hid (∀ (V : World) (q : Nat), MapAt V q 2 1 256 20 10 1 1 → Calls Tryz.prog 13 #[.pointer (some ⟨q, 0, none⟩), .int .i64 0, .slice (some ⟨V.heap.size, 0, none⟩) 1 1, .slice none 0 0, .slice (some ⟨V.heap.size + 1, 0, none⟩) 1 1] ((V.alloc (.cells #[.int .i64 0, .int .i64 0, .int .i64 0, .int .i64 7, .int .i64 250, .int .i64 0, .int .i64 10, .int .i64 0, .int .i64 3, .int .i64 0, .int .i64 0] 42)).alloc (.cells #[.int .i64 2, .int .i64 0, .int .i64 0, .int .i64 0, .int .i64 0, .int .i64 0, .int .i64 0, .int .i64 0, .int .i64 0, .int .i64 0, .int .i64 0, .int .i64 0, .int .i64 0, .int .i64 0, .int .i64 0, .int .i64 0] 55)) fun e V' => ∃ (B1 B2 B3 : Option Addr) (d1 d2 d3 : Nat), e = .returned (.agg #[.slice B1 0 d1, .slice B2 0 d2, .slice B3 1 d3]) ∧ Below V.heap.size V V') := Lib.hid fun V q hq => by
    have b2 := bel2 V (.cells #[.int .i64 0, .int .i64 0, .int .i64 0, .int .i64 7, .int .i64 250, .int .i64 0, .int .i64 10, .int .i64 0, .int .i64 3, .int .i64 0, .int .i64 0] 42) (.cells #[.int .i64 2, .int .i64 0, .int .i64 0, .int .i64 0, .int .i64 0, .int .i64 0, .int .i64 0, .int .i64 0, .int .i64 0, .int .i64 0, .int .i64 0, .int .i64 0, .int .i64 0, .int .i64 0, .int .i64 0, .int .i64 0] 55)
    have hz : ((V.alloc (.cells #[.int .i64 0, .int .i64 0, .int .i64 0, .int .i64 7, .int .i64 250, .int .i64 0, .int .i64 10, .int .i64 0, .int .i64 3, .int .i64 0, .int .i64 0] 42)).alloc (.cells #[.int .i64 2, .int .i64 0, .int .i64 0, .int .i64 0, .int .i64 0, .int .i64 0, .int .i64 0, .int .i64 0, .int .i64 0, .int .i64 0, .int .i64 0, .int .i64 0, .int .i64 0, .int .i64 0, .int .i64 0, .int .i64 0] 55)).heap.size = V.heap.size + 2 := by simp
    have C := crun_any 2 1 256 20 10 1 1 0 ((V.alloc (.cells #[.int .i64 0, .int .i64 0, .int .i64 0, .int .i64 7, .int .i64 250, .int .i64 0, .int .i64 10, .int .i64 0, .int .i64 3, .int .i64 0, .int .i64 0] 42)).alloc (.cells #[.int .i64 2, .int .i64 0, .int .i64 0, .int .i64 0, .int .i64 0, .int .i64 0, .int .i64 0, .int .i64 0, .int .i64 0, .int .i64 0, .int .i64 0, .int .i64 0, .int .i64 0, .int .i64 0, .int .i64 0, .int .i64 0] 55)) q (some ⟨V.heap.size, 0, none⟩) none (some ⟨V.heap.size + 1, 0, none⟩) 1 0 1 [⟨0, 0, 0, 7, 250, 0, 10, 0, 3, 0, 0⟩] [] [⟨2, 0, 0, 0, ⟨0, 0, 0, 0, 0, 0, 0, 0, 0, 0, 0⟩, 0⟩] (hq.below b2) OK2 ⟨rd1_cells (at2a V (.cells #[.int .i64 0, .int .i64 0, .int .i64 0, .int .i64 7, .int .i64 250, .int .i64 0, .int .i64 10, .int .i64 0, .int .i64 3, .int .i64 0, .int .i64 0] 42) (.cells #[.int .i64 2, .int .i64 0, .int .i64 0, .int .i64 0, .int .i64 0, .int .i64 0, .int .i64 0, .int .i64 0, .int .i64 0, .int .i64 0, .int .i64 0, .int .i64 0, .int .i64 0, .int .i64 0, .int .i64 0, .int .i64 0] 55)) (by rw [hz]; omega), RdB.nil _ _ _, rd1_cmd (at2b V (.cells #[.int .i64 0, .int .i64 0, .int .i64 0, .int .i64 7, .int .i64 250, .int .i64 0, .int .i64 10, .int .i64 0, .int .i64 3, .int .i64 0, .int .i64 0] 42) (.cells #[.int .i64 2, .int .i64 0, .int .i64 0, .int .i64 0, .int .i64 0, .int .i64 0, .int .i64 0, .int .i64 0, .int .i64 0, .int .i64 0, .int .i64 0, .int .i64 0, .int .i64 0, .int .i64 0, .int .i64 0, .int .i64 0] 55)) (by rw [hz]; omega), by decide, by decide, by decide, fun b hb => by rw [List.mem_singleton.1 hb]; exact fits1, fun b hb => by simp at hb, fun c hc => by rw [List.mem_singleton.1 hc]; exact fits3⟩ (.inl (one_un _))
    rw [aw_r2] at C
    refine C.mono ?_
    rintro e V' ⟨B1, B2, B3, d1, d2, d3, rfl, _, hb⟩
    exact ⟨B1, B2, B3, d1, d2, d3, rfl, b2.trans (hb.mono (by rw [hz]; omega))⟩
  clear OK2
  have e1 := aw1
  have e2 := aw2
  have e2' := aw2'
  have e3 := aw3
  have e4 := aw4
  have e5 := aw5
  have e6 := fun V => b_bn ⟨0, 0, 0, 7, 250, 0, 10, 0, 3, 0, 0⟩ V
  have e7 := fun V => b_bn ⟨1, 0, 0, 9, 260, 0, 0, 0, 0, 2, 0⟩ V
  go_enter Tryz.func17, Tryz.ntmps17
  go_upto_region 2 with (go_at_call 10; with_reducible refine (NEW.out _).mono ?_; rintro e w1 ⟨q, rfl, _, hq, b1⟩; have HQ := Lib.hid hq; have B1 := Lib.hid b1; clear NEW hq b1)
  have H2 : Hid (Sep w1 [box (w1.heap.size + 1) (.cells #[.int .i64 1, .int .i64 0, .int .i64 0, .int .i64 9, .int .i64 260, .int .i64 0, .int .i64 0, .int .i64 0, .int .i64 0, .int .i64 2, .int .i64 0] 42), box w1.heap.size (.cells #[.int .i64 0, .int .i64 0, .int .i64 0, .int .i64 7, .int .i64 250, .int .i64 0, .int .i64 10, .int .i64 0, .int .i64 3, .int .i64 0, .int .i64 0] 42)] ((w1.alloc (.cells #[.int .i64 0, .int .i64 0, .int .i64 0, .int .i64 7, .int .i64 250, .int .i64 0, .int .i64 10, .int .i64 0, .int .i64 3, .int .i64 0, .int .i64 0] 42)).alloc (.cells #[.int .i64 1, .int .i64 0, .int .i64 0, .int .i64 9, .int .i64 260, .int .i64 0, .int .i64 0, .int .i64 0, .int .i64 0, .int .i64 2, .int .i64 0] 42))) := Lib.hid (by
    have := sep_box (sep_box (sep_new w1) (.cells #[.int .i64 0, .int .i64 0, .int .i64 0, .int .i64 7, .int .i64 250, .int .i64 0, .int .i64 10, .int .i64 0, .int .i64 3, .int .i64 0, .int .i64 0] 42)) (.cells #[.int .i64 1, .int .i64 0, .int .i64 0, .int .i64 9, .int .i64 260, .int .i64 0, .int .i64 0, .int .i64 0, .int .i64 0, .int .i64 2, .int .i64 0] 42)
    rw [size1] at this
    exact this)
  go_upto_region 4 with fail
  generalize (w1.alloc (.cells #[.int .i64 0, .int .i64 0, .int .i64 0, .int .i64 7, .int .i64 250, .int .i64 0, .int .i64 10, .int .i64 0, .int .i64 3, .int .i64 0, .int .i64 0] 42)).alloc (.cells #[.int .i64 1, .int .i64 0, .int .i64 0, .int .i64 9, .int .i64 260, .int .i64 0, .int .i64 0, .int .i64 0, .int .i64 0, .int .i64 2, .int .i64 0] 42) = w2 at *
  obtain ⟨x0, x1, x2, x3, x4, x5, x6, x7, x8, x9, x10⟩ := (Bx.b11 (H2.out.held 1 rfl)).1
  obtain ⟨y0, y1, y2, y3, y4, y5, y6, y7, y8, y9, y10⟩ := (Bx.b11 (H2.out.held 0 rfl)).1
  have la := Bx.lt (H2.out.held 1 rfl)
  have lb := Bx.lt (H2.out.held 0 rfl)
  have R1 := Lib.hid (RUN1.out w2 q (HQ.out.below H2.out.bel))
  clear RUN1
  go_upto_region 7 with (go_at_call 13; with_reducible refine R1.out.mono ?_; rintro e w4 ⟨B1', B2', B3', d1, d2, d3, rfl, ⟨g, o, rfl, lg, k4, k8⟩, b4⟩; clear R1 x0 x1 x2 x3 x4 x5 x6 x7 x8 x9 x10 y0 y1 y2 y3 y4 y5 y6 y7 y8 y9 y10; have H4 := Lib.hid (H2.out.below b4); have HK := Lib.hid (show g < w4.heap.size ∧ w4.cell? ⟨g, o + 4, none⟩ = some (.int .i64 260) ∧ w4.cell? ⟨g, o + 8, none⟩ = some (.int .i64 1) from ⟨lg, k4, k8⟩); clear H2 b4 lg k4 k8)
  have H5 := Lib.hid (sep_box H4.out (.cells #[.slice B1' 0 d1, .slice (some ⟨g, o, none⟩) 1 d2, .slice B3' 0 d3] 35))
  have HK5 := Lib.hid (show g < (w4.alloc (.cells #[.slice B1' 0 d1, .slice (some ⟨g, o, none⟩) 1 d2, .slice B3' 0 d3] 35)).heap.size ∧ (w4.alloc (.cells #[.slice B1' 0 d1, .slice (some ⟨g, o, none⟩) 1 d2, .slice B3' 0 d3] 35)).cell? ⟨g, o + 4, none⟩ = some (.int .i64 260) ∧ (w4.alloc (.cells #[.slice B1' 0 d1, .slice (some ⟨g, o, none⟩) 1 d2, .slice B3' 0 d3] 35)).cell? ⟨g, o + 8, none⟩ = some (.int .i64 1) from by
    have bb := bel1 w4 (.cells #[.slice B1' 0 d1, .slice (some ⟨g, o, none⟩) 1 d2, .slice B3' 0 d3] 35)
    exact ⟨Nat.lt_of_lt_of_le HK.out.1 bb.size, (bb.cell (p := ⟨g, _, none⟩) HK.out.1).trans HK.out.2.1, (bb.cell (p := ⟨g, _, none⟩) HK.out.1).trans HK.out.2.2⟩)
  clear H4 HK la lb
  generalize w4.alloc (.cells #[.slice B1' 0 d1, .slice (some ⟨g, o, none⟩) 1 d2, .slice B3' 0 d3] 35) = w5 at *
  generalize w4.heap.size = b5 at *
  obtain ⟨x0, x1, x2, x3, x4, x5, x6, x7, x8, x9, x10⟩ := (Bx.b11 (H5.out.held 2 rfl)).1
  have la := Bx.lt (H5.out.held 2 rfl)
  have R2 := Lib.hid (RUN2.out w5 q (HQ.out.below H5.out.bel))
  clear RUN2
  go_upto_region 8 with (go_at_call 13; with_reducible refine R2.out.mono ?_; rintro e w6 ⟨D1, D2, D3, f1, f2, f3, rfl, b6⟩; clear R2 x0 x1 x2 x3 x4 x5 x6 x7 x8 x9 x10; have H6 := Lib.hid (H5.out.below b6); have HK6 := Lib.hid (show g < w6.heap.size ∧ w6.cell? ⟨g, o + 4, none⟩ = some (.int .i64 260) ∧ w6.cell? ⟨g, o + 8, none⟩ = some (.int .i64 1) from ⟨Nat.lt_of_lt_of_le HK5.out.1 b6.size, (b6.cell (p := ⟨g, _, none⟩) HK5.out.1).trans HK5.out.2.1, (b6.cell (p := ⟨g, _, none⟩) HK5.out.1).trans HK5.out.2.2⟩); clear H5 HK5 b6)
  have H7 := Lib.hid (sep_box H6.out (.cells #[.slice D1 0 f1, .slice D2 0 f2, .slice D3 1 f3] 35))
  have bb := bel1 w6 (.cells #[.slice D1 0 f1, .slice D2 0 f2, .slice D3 1 f3] 35)
  have k4 := (bb.cell (p := ⟨g, _, none⟩) HK6.out.1).trans HK6.out.2.1
  have k8 := (bb.cell (p := ⟨g, _, none⟩) HK6.out.1).trans HK6.out.2.2
  clear H6 HK6 bb la
  generalize w6.alloc (.cells #[.slice D1 0 f1, .slice D2 0 f2, .slice D3 1 f3] 35) = w7 at *
  generalize w6.heap.size = b7 at *
  obtain ⟨⟨i0, i1, i2⟩, _⟩ := Bx.b3 (H7.out.held 0 rfl)
  obtain ⟨⟨j0, j1, j2⟩, _⟩ := Bx.b3 (H7.out.held 1 rfl)
  have BE := Lib.hid (B1.out.trans (H7.out.bel.mono B1.out.size))
  clear H7
  go_wp2
  go_ret
  exact ⟨rfl, BE.out⟩
/-- what the laws ask of the code -/
theorem ct : TkCt where
  run := fun C R S D V N Q z W q A A2 A3 c c2 c3 own near cs hq ok _ H hu => crun_any C R S D V N Q z W q A A2 A3 c c2 c3 own near cs hq ok H hu
  nil := fun z W A A2 A3 c c2 c3 own near cs _ => crun_nil z W A A2 A3 own.length near.length cs.length c c2 c3
  awake := tawake_any
end Go.Proofs.YtljaahemlcaffaaGreat
