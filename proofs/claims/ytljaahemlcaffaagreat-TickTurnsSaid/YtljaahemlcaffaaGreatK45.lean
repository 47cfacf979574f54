/- A command loaded, a command stored: each at one operation, by its run. -/
import Derived.Test.YtljaahemlcaffaaGreatK44
namespace Go.Proofs.YtljaahemlcaffaaGreat
open Go.RowKit Pz Sp
set_option linter.unusedVariables false
set_option linter.unusedSimpArgs false

theorem wpList_store {P : Program} (w : World) {ops : Array Oper} {rest : List Oper} {o : Oper} {a : Act} {Q : Exit → Act → World → Prop} (hg : o.guard = none) (T : TypeId) (p x : Operand) (hop : o.op = Op.store T p x) (ad : Addr) (v : Value) (hp : a.eval p = .pointer (some ad)) (hx : a.eval x = v) {w' : World} (hrun : (Instr.storeAt T (.pointer (some ad)) v).run P w = .ok () w') (hK : wpList P ops Q rest (a.put o.dst undef) w') :
    wpList P ops Q (o :: rest) a w := by
  refine wpList_plain hg fun K' hK' => ?_
  unfold Oper.wp
  simp [execOp, hop, hp, hx, hrun, Result.andThen]
  exact hK' _ _ hK
theorem wpList_load {P : Program} (w : World) {ops : Array Oper} {rest : List Oper} {o : Oper} {a : Act} {Q : Exit → Act → World → Prop} (hg : o.guard = none) (T : TypeId) (p : Operand) (hop : o.op = Op.load T p) (ad : Addr) (hp : a.eval p = .pointer (some ad)) {v : Value} (hrun : (Instr.loadAt T (.pointer (some ad))).run P w = .ok v w) (hK : wpList P ops Q rest (a.put o.dst v) w) :
    wpList P ops Q (o :: rest) a w := by
  refine wpList_plain hg fun K' hK' => ?_
  unfold Oper.wp
  simp [execOp, hop, hp, hrun, Result.andThen]
  exact hK' _ _ hK
theorem cn_get {W : World} {g a : Nat} {x : Cn} (h : W.cell? ⟨g, a, none⟩ = some (.int .i64 x.k) ∧ W.cell? ⟨g, a + 1, none⟩ = some (.int .i64 x.s) ∧ W.cell? ⟨g, a + 2, none⟩ = some (.int .i64 x.i) ∧ W.cell? ⟨g, a + 3, none⟩ = some (.int .i64 x.g) ∧ W.cell? ⟨g, a + 4, none⟩ = some (.int .i64 x.b.s) ∧ W.cell? ⟨g, a + 5, none⟩ = some (.int .i64 x.b.i) ∧ W.cell? ⟨g, a + 6, none⟩ = some (.int .i64 x.b.g) ∧ W.cell? ⟨g, a + 7, none⟩ = some (.int .i64 x.b.m) ∧ W.cell? ⟨g, a + 8, none⟩ = some (.int .i64 x.b.x) ∧ W.cell? ⟨g, a + 9, none⟩ = some (.int .i64 x.b.y) ∧ W.cell? ⟨g, a + 10, none⟩ = some (.int .i64 x.b.vx) ∧ W.cell? ⟨g, a + 11, none⟩ = some (.int .i64 x.b.vy) ∧ W.cell? ⟨g, a + 12, none⟩ = some (.int .i64 x.b.h) ∧ W.cell? ⟨g, a + 13, none⟩ = some (.int .i64 x.b.p) ∧ W.cell? ⟨g, a + 14, none⟩ = some (.int .i64 x.b.l) ∧ W.cell? ⟨g, a + 15, none⟩ = some (.int .i64 x.m)) : (Instr.loadAt 55 (.pointer (some ⟨g, a, none⟩))).run Tryz.prog W = .ok x.val W := by
  obtain ⟨c0, c1, c2, c3, c4, c5, c6, c7, c8, c9, c10, c11, c12, c13, c14, c15⟩ := h
  go_simp
theorem cn_put {w W : World} {L : List Piece} {g o n c k : Nat} {R : List Cn} (H : Sep w (row cnE 55 16 (.slice (some ⟨g, o, none⟩) n c) R :: L) W) (hn : R.length = n) (hk : k < n) (x : Cn) : ∃ V, (Instr.storeAt 55 (.pointer (some ⟨g, o + k * 16, none⟩)) x.val).run Tryz.prog W = .ok () V ∧ Sep w (row cnE 55 16 (.slice (some ⟨g, o, none⟩) n c) (R.set k x) :: L) V := by
  subst hn
  obtain ⟨G, ⟨h1, h2⟩, h3, next⟩ := H.one
  rcases h1 with ⟨e, _⟩ | ⟨g', o', cap, cur, e, q1, q2, q3, q4, q5, q6⟩
  · cases e
  · cases e
    obtain ⟨cur', a1, a2, a3, a4, a5⟩ := set_cells q2 (cnE x) (o + k * 16) (by rw [cnE_len]; omega)
    have hx := rw_of_cells (enc := cnE) (T := 55) (s := 16) (B := 0) (l := R.set k x) (Nat.zero_le g) a1 (by rw [List.length_set]; exact q3) q4 (by rw [a2]; exact q5) fun j y hj e u hu => by
      have he : e < 16 := (List.getElem?_eq_some_iff.1 hu).1
      by_cases hjk : j = k
      · subst hjk
        rw [List.getElem?_set_self hk] at hj
        have := Option.some.inj hj
        subst this
        rw [← Nat.add_assoc]
        exact a3 e u hu
      · rw [List.getElem?_set_ne (fun e => hjk e.symm)] at hj
        rw [a4 _ (by rw [cnE_len]; omega)]
        exact (Bx.cell q2 (q6 j y hj e u hu)).1
    rw [List.length_set] at hx
    refine ⟨W.setCells g (o + k * 16) (cnE x), ?_, next _ (row cnE 55 16 _ (R.set k x)) G ⟨a5.os, a5.tape, a5.output, a5.size, fun k hk hne => a5.block k hk fun e => hne ((h2 k).2 (by rw [e]; rfl))⟩ ⟨hx, h2⟩ fun k hk => .inl hk⟩
    have := run_storeAt_mid (P := Tryz.prog) W g (o + k * 16) 55 (cnE x).toArray (fun j hj => by
      have hy : o + k * 16 + j < cur.size := by
        have : j < 16 := by simpa using hj
        omega
      simp [World.cell?, World.frozen?, q2, hy]) (by kernel_rfl) (by
      rw [Array.all_eq_true_iff_forall_mem]
      intro v hv
      exact cnE_one x v (by simpa using hv))
    exact this
end Go.Proofs.YtljaahemlcaffaaGreat
