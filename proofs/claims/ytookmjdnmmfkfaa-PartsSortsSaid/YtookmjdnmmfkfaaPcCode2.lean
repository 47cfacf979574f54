/- The code's numbers of an entity. Written by wip/tools/genpc2.py. -/
import Derived.Test.YtookmjdnmmfkfaaPcCode1
import Derived.Deep.DeepCutAuto
import Derived.Laws.IdiomCopy
import Derived.Laws.Cells
import Derived.Test.YtookmjdnmmfkfaaRow
import Derived.Test.YtookmjdnmmfkfaaAp
namespace Go.Proofs.Ytookmjdnmmfkfaa
open Go.RowKit Pz
set_option linter.unusedVariables false

theorem fill4 {place : Nat → Option (Nat × Nat)} {cells : Array Value} {i off : Nat} {a b c d : Value} {rest : List (Nat × Value)} (hp : place i = some (off, 4)) (hs : off + 4 ≤ cells.size) :
    Instr.fill place cells ((i, .agg #[a, b, c, d]) :: rest) = Instr.fill place ((((cells.setIfInBounds off a).setIfInBounds (off + 1) b).setIfInBounds (off + 2) c).setIfInBounds (off + 3) d) rest := by
  rw [Instr.fill]
  rw [hp]
  have h2 : ¬ (off + 4 > cells.size) := by omega
  simp [Value.cells, h2]
theorem fill_nums (n0 n1 n2 n3 n4 n5 n6 : Int) : Instr.fill (fun i => some (i * 4, 4)) #[.int .i64 0, .int .i64 0, .int .i64 0, .int .i64 0, .int .i64 0, .int .i64 0, .int .i64 0, .int .i64 0, .int .i64 0, .int .i64 0, .int .i64 0, .int .i64 0, .int .i64 0, .int .i64 0, .int .i64 0, .int .i64 0, .int .i64 0, .int .i64 0, .int .i64 0, .int .i64 0, .int .i64 0, .int .i64 0, .int .i64 0, .int .i64 0, .int .i64 0, .int .i64 0, .int .i64 0, .int .i64 0] [(0, .agg #[.int .i64 n0, .int .i64 1, .int .i64 (-1073741824), .int .i64 1073741824]), (1, .agg #[.int .i64 n1, .int .i64 1, .int .i64 (-1073741824), .int .i64 1073741824]), (2, .agg #[.int .i64 n2, .int .i64 2, .int .i64 (-1073741824), .int .i64 1073741824]), (3, .agg #[.int .i64 n3, .int .i64 2, .int .i64 (-1073741824), .int .i64 1073741824]), (4, .agg #[.int .i64 n4, .int .i64 4, .int .i64 1, .int .i64 1048576]), (5, .agg #[.int .i64 n5, .int .i64 8, .int .i64 0, .int .i64 1024]), (6, .agg #[.int .i64 n6, .int .i64 16, .int .i64 1, .int .i64 1048576])] = some #[.int .i64 n0, .int .i64 1, .int .i64 (-1073741824), .int .i64 1073741824, .int .i64 n1, .int .i64 1, .int .i64 (-1073741824), .int .i64 1073741824, .int .i64 n2, .int .i64 2, .int .i64 (-1073741824), .int .i64 1073741824, .int .i64 n3, .int .i64 2, .int .i64 (-1073741824), .int .i64 1073741824, .int .i64 n4, .int .i64 4, .int .i64 1, .int .i64 1048576, .int .i64 n5, .int .i64 8, .int .i64 0, .int .i64 1024, .int .i64 n6, .int .i64 16, .int .i64 1, .int .i64 1048576] := by
  rw [fill4 (off := 0) rfl (by show 0 + 4 ≤ 28; decide)]
  rw [show ∀ x y z u : Value, (((( (#[.int .i64 0, .int .i64 0, .int .i64 0, .int .i64 0, .int .i64 0, .int .i64 0, .int .i64 0, .int .i64 0, .int .i64 0, .int .i64 0, .int .i64 0, .int .i64 0, .int .i64 0, .int .i64 0, .int .i64 0, .int .i64 0, .int .i64 0, .int .i64 0, .int .i64 0, .int .i64 0, .int .i64 0, .int .i64 0, .int .i64 0, .int .i64 0, .int .i64 0, .int .i64 0, .int .i64 0, .int .i64 0] : Array Value).setIfInBounds 0 x).setIfInBounds (0 + 1) y).setIfInBounds (0 + 2) z).setIfInBounds (0 + 3) u) = #[x, y, z, u, .int .i64 0, .int .i64 0, .int .i64 0, .int .i64 0, .int .i64 0, .int .i64 0, .int .i64 0, .int .i64 0, .int .i64 0, .int .i64 0, .int .i64 0, .int .i64 0, .int .i64 0, .int .i64 0, .int .i64 0, .int .i64 0, .int .i64 0, .int .i64 0, .int .i64 0, .int .i64 0, .int .i64 0, .int .i64 0, .int .i64 0, .int .i64 0] from fun _ _ _ _ => rfl]
  rw [fill4 (off := 4) rfl (by show 4 + 4 ≤ 28; decide)]
  rw [show ∀ x y z u : Value, (((( (#[.int .i64 n0, .int .i64 1, .int .i64 (-1073741824), .int .i64 1073741824, .int .i64 0, .int .i64 0, .int .i64 0, .int .i64 0, .int .i64 0, .int .i64 0, .int .i64 0, .int .i64 0, .int .i64 0, .int .i64 0, .int .i64 0, .int .i64 0, .int .i64 0, .int .i64 0, .int .i64 0, .int .i64 0, .int .i64 0, .int .i64 0, .int .i64 0, .int .i64 0, .int .i64 0, .int .i64 0, .int .i64 0, .int .i64 0] : Array Value).setIfInBounds 4 x).setIfInBounds (4 + 1) y).setIfInBounds (4 + 2) z).setIfInBounds (4 + 3) u) = #[.int .i64 n0, .int .i64 1, .int .i64 (-1073741824), .int .i64 1073741824, x, y, z, u, .int .i64 0, .int .i64 0, .int .i64 0, .int .i64 0, .int .i64 0, .int .i64 0, .int .i64 0, .int .i64 0, .int .i64 0, .int .i64 0, .int .i64 0, .int .i64 0, .int .i64 0, .int .i64 0, .int .i64 0, .int .i64 0, .int .i64 0, .int .i64 0, .int .i64 0, .int .i64 0] from fun _ _ _ _ => rfl]
  rw [fill4 (off := 8) rfl (by show 8 + 4 ≤ 28; decide)]
  rw [show ∀ x y z u : Value, (((( (#[.int .i64 n0, .int .i64 1, .int .i64 (-1073741824), .int .i64 1073741824, .int .i64 n1, .int .i64 1, .int .i64 (-1073741824), .int .i64 1073741824, .int .i64 0, .int .i64 0, .int .i64 0, .int .i64 0, .int .i64 0, .int .i64 0, .int .i64 0, .int .i64 0, .int .i64 0, .int .i64 0, .int .i64 0, .int .i64 0, .int .i64 0, .int .i64 0, .int .i64 0, .int .i64 0, .int .i64 0, .int .i64 0, .int .i64 0, .int .i64 0] : Array Value).setIfInBounds 8 x).setIfInBounds (8 + 1) y).setIfInBounds (8 + 2) z).setIfInBounds (8 + 3) u) = #[.int .i64 n0, .int .i64 1, .int .i64 (-1073741824), .int .i64 1073741824, .int .i64 n1, .int .i64 1, .int .i64 (-1073741824), .int .i64 1073741824, x, y, z, u, .int .i64 0, .int .i64 0, .int .i64 0, .int .i64 0, .int .i64 0, .int .i64 0, .int .i64 0, .int .i64 0, .int .i64 0, .int .i64 0, .int .i64 0, .int .i64 0, .int .i64 0, .int .i64 0, .int .i64 0, .int .i64 0] from fun _ _ _ _ => rfl]
  rw [fill4 (off := 12) rfl (by show 12 + 4 ≤ 28; decide)]
  rw [show ∀ x y z u : Value, (((( (#[.int .i64 n0, .int .i64 1, .int .i64 (-1073741824), .int .i64 1073741824, .int .i64 n1, .int .i64 1, .int .i64 (-1073741824), .int .i64 1073741824, .int .i64 n2, .int .i64 2, .int .i64 (-1073741824), .int .i64 1073741824, .int .i64 0, .int .i64 0, .int .i64 0, .int .i64 0, .int .i64 0, .int .i64 0, .int .i64 0, .int .i64 0, .int .i64 0, .int .i64 0, .int .i64 0, .int .i64 0, .int .i64 0, .int .i64 0, .int .i64 0, .int .i64 0] : Array Value).setIfInBounds 12 x).setIfInBounds (12 + 1) y).setIfInBounds (12 + 2) z).setIfInBounds (12 + 3) u) = #[.int .i64 n0, .int .i64 1, .int .i64 (-1073741824), .int .i64 1073741824, .int .i64 n1, .int .i64 1, .int .i64 (-1073741824), .int .i64 1073741824, .int .i64 n2, .int .i64 2, .int .i64 (-1073741824), .int .i64 1073741824, x, y, z, u, .int .i64 0, .int .i64 0, .int .i64 0, .int .i64 0, .int .i64 0, .int .i64 0, .int .i64 0, .int .i64 0, .int .i64 0, .int .i64 0, .int .i64 0, .int .i64 0] from fun _ _ _ _ => rfl]
  rw [fill4 (off := 16) rfl (by show 16 + 4 ≤ 28; decide)]
  rw [show ∀ x y z u : Value, (((( (#[.int .i64 n0, .int .i64 1, .int .i64 (-1073741824), .int .i64 1073741824, .int .i64 n1, .int .i64 1, .int .i64 (-1073741824), .int .i64 1073741824, .int .i64 n2, .int .i64 2, .int .i64 (-1073741824), .int .i64 1073741824, .int .i64 n3, .int .i64 2, .int .i64 (-1073741824), .int .i64 1073741824, .int .i64 0, .int .i64 0, .int .i64 0, .int .i64 0, .int .i64 0, .int .i64 0, .int .i64 0, .int .i64 0, .int .i64 0, .int .i64 0, .int .i64 0, .int .i64 0] : Array Value).setIfInBounds 16 x).setIfInBounds (16 + 1) y).setIfInBounds (16 + 2) z).setIfInBounds (16 + 3) u) = #[.int .i64 n0, .int .i64 1, .int .i64 (-1073741824), .int .i64 1073741824, .int .i64 n1, .int .i64 1, .int .i64 (-1073741824), .int .i64 1073741824, .int .i64 n2, .int .i64 2, .int .i64 (-1073741824), .int .i64 1073741824, .int .i64 n3, .int .i64 2, .int .i64 (-1073741824), .int .i64 1073741824, x, y, z, u, .int .i64 0, .int .i64 0, .int .i64 0, .int .i64 0, .int .i64 0, .int .i64 0, .int .i64 0, .int .i64 0] from fun _ _ _ _ => rfl]
  rw [fill4 (off := 20) rfl (by show 20 + 4 ≤ 28; decide)]
  rw [show ∀ x y z u : Value, (((( (#[.int .i64 n0, .int .i64 1, .int .i64 (-1073741824), .int .i64 1073741824, .int .i64 n1, .int .i64 1, .int .i64 (-1073741824), .int .i64 1073741824, .int .i64 n2, .int .i64 2, .int .i64 (-1073741824), .int .i64 1073741824, .int .i64 n3, .int .i64 2, .int .i64 (-1073741824), .int .i64 1073741824, .int .i64 n4, .int .i64 4, .int .i64 1, .int .i64 1048576, .int .i64 0, .int .i64 0, .int .i64 0, .int .i64 0, .int .i64 0, .int .i64 0, .int .i64 0, .int .i64 0] : Array Value).setIfInBounds 20 x).setIfInBounds (20 + 1) y).setIfInBounds (20 + 2) z).setIfInBounds (20 + 3) u) = #[.int .i64 n0, .int .i64 1, .int .i64 (-1073741824), .int .i64 1073741824, .int .i64 n1, .int .i64 1, .int .i64 (-1073741824), .int .i64 1073741824, .int .i64 n2, .int .i64 2, .int .i64 (-1073741824), .int .i64 1073741824, .int .i64 n3, .int .i64 2, .int .i64 (-1073741824), .int .i64 1073741824, .int .i64 n4, .int .i64 4, .int .i64 1, .int .i64 1048576, x, y, z, u, .int .i64 0, .int .i64 0, .int .i64 0, .int .i64 0] from fun _ _ _ _ => rfl]
  rw [fill4 (off := 24) rfl (by show 24 + 4 ≤ 28; decide)]
  rw [show ∀ x y z u : Value, (((( (#[.int .i64 n0, .int .i64 1, .int .i64 (-1073741824), .int .i64 1073741824, .int .i64 n1, .int .i64 1, .int .i64 (-1073741824), .int .i64 1073741824, .int .i64 n2, .int .i64 2, .int .i64 (-1073741824), .int .i64 1073741824, .int .i64 n3, .int .i64 2, .int .i64 (-1073741824), .int .i64 1073741824, .int .i64 n4, .int .i64 4, .int .i64 1, .int .i64 1048576, .int .i64 n5, .int .i64 8, .int .i64 0, .int .i64 1024, .int .i64 0, .int .i64 0, .int .i64 0, .int .i64 0] : Array Value).setIfInBounds 24 x).setIfInBounds (24 + 1) y).setIfInBounds (24 + 2) z).setIfInBounds (24 + 3) u) = #[.int .i64 n0, .int .i64 1, .int .i64 (-1073741824), .int .i64 1073741824, .int .i64 n1, .int .i64 1, .int .i64 (-1073741824), .int .i64 1073741824, .int .i64 n2, .int .i64 2, .int .i64 (-1073741824), .int .i64 1073741824, .int .i64 n3, .int .i64 2, .int .i64 (-1073741824), .int .i64 1073741824, .int .i64 n4, .int .i64 4, .int .i64 1, .int .i64 1048576, .int .i64 n5, .int .i64 8, .int .i64 0, .int .i64 1024, x, y, z, u] from fun _ _ _ _ => rfl]
  rfl
theorem build_nums (n0 n1 n2 n3 n4 n5 n6 : Int) (w : World) : (Instr.build 68 #[(0, .agg #[.int .i64 n0, .int .i64 1, .int .i64 (-1073741824), .int .i64 1073741824]), (1, .agg #[.int .i64 n1, .int .i64 1, .int .i64 (-1073741824), .int .i64 1073741824]), (2, .agg #[.int .i64 n2, .int .i64 2, .int .i64 (-1073741824), .int .i64 1073741824]), (3, .agg #[.int .i64 n3, .int .i64 2, .int .i64 (-1073741824), .int .i64 1073741824]), (4, .agg #[.int .i64 n4, .int .i64 4, .int .i64 1, .int .i64 1048576]), (5, .agg #[.int .i64 n5, .int .i64 8, .int .i64 0, .int .i64 1024]), (6, .agg #[.int .i64 n6, .int .i64 16, .int .i64 1, .int .i64 1048576])]).run Try.prog w = .ok (.agg #[.int .i64 n0, .int .i64 1, .int .i64 (-1073741824), .int .i64 1073741824, .int .i64 n1, .int .i64 1, .int .i64 (-1073741824), .int .i64 1073741824, .int .i64 n2, .int .i64 2, .int .i64 (-1073741824), .int .i64 1073741824, .int .i64 n3, .int .i64 2, .int .i64 (-1073741824), .int .i64 1073741824, .int .i64 n4, .int .i64 4, .int .i64 1, .int .i64 1048576, .int .i64 n5, .int .i64 8, .int .i64 0, .int .i64 1024, .int .i64 n6, .int .i64 16, .int .i64 1, .int .i64 1048576]) w := by
  have F := fill_nums n0 n1 n2 n3 n4 n5 n6
  unfold Instr.build
  go_simp
theorem wpList_build7 {P : Program} (w : World) {ops : Array Oper} {rest : List Oper} {o : Oper} {a : Act} {Q : Exit → Act → World → Prop} (hg : o.guard = none) (x0 x1 x2 x3 x4 x5 x6 : Operand) (t : TypeId) (hop : o.op = Op.build t #[(0, x0), (1, x1), (2, x2), (3, x3), (4, x4), (5, x5), (6, x6)])
    (v0 v1 v2 v3 v4 v5 v6 : Value) (h0 : a.eval x0 = v0) (h1 : a.eval x1 = v1) (h2 : a.eval x2 = v2) (h3 : a.eval x3 = v3) (h4 : a.eval x4 = v4) (h5 : a.eval x5 = v5) (h6 : a.eval x6 = v6) (v : Value) (hrun : (Instr.build t #[(0, v0), (1, v1), (2, v2), (3, v3), (4, v4), (5, v5), (6, v6)]).run P w = .ok v w) (hK : wpList P ops Q rest (a.put o.dst v) w) :
    wpList P ops Q (o :: rest) a w := by
  refine wpList_plain hg fun K' hK' => ?_
  unfold Oper.wp
  simp [execOp, hop, h0, h1, h2, h3, h4, h5, h6, hrun, Result.andThen]
  exact hK' _ _ hK
theorem results_cell {P : Program} {fn : Func} {tmps : Array Value} {W : World} {sl n : Nat} {t : TypeId} {ad : Addr} {L : List Value} (hr : fn.results = #[.cell sl t]) (hp : tmps[sl]? = some (.pointer (some ad))) (ha : ∀ w, (isAgg t).run P w = .ok true w) (hz : ∀ w, (Go.sizeOf t).run P w = .ok n w) (hn : L.length = n)
    (hc : ∀ (j : Nat) (u : Value), L[j]? = some u → W.cell? (ad.add j) = some u) : (results fn tmps).run P W = .ok (.agg L.toArray) W := by
  have HL : (loadCellsFrom ad 0 n #[]).run P W = .ok L.toArray W := by
    have := run_loadCells (P := P) W ad n (fun j => L[j]?.getD undef) (fun j hj => by
      have hj' : j < L.length := by omega
      rw [hc j _ (List.getElem?_eq_getElem hj'), List.getElem?_eq_getElem hj']
      rfl)
    unfold loadCells at this
    rw [this]
    congr 1
    congr 1
    apply List.ext_getElem?
    intro i
    rw [List.getElem?_map]
    by_cases h : i < n
    · rw [List.getElem?_range h, List.getElem?_eq_getElem (by omega)]
      simp [show i < L.length by omega]
    · rw [List.getElem?_eq_none (by simpa using h), List.getElem?_eq_none (by omega)]
      rfl
  simp [results, hr, go_sem, hp, ha, hz, HL]
abbrev numsOf (b : Bn) : Value := .agg #[.int .i64 b.x, .int .i64 1, .int .i64 (-1073741824), .int .i64 1073741824, .int .i64 b.y, .int .i64 1, .int .i64 (-1073741824), .int .i64 1073741824, .int .i64 b.vx, .int .i64 2, .int .i64 (-1073741824), .int .i64 1073741824, .int .i64 b.vy, .int .i64 2, .int .i64 (-1073741824), .int .i64 1073741824, .int .i64 b.h, .int .i64 4, .int .i64 1, .int .i64 1048576, .int .i64 b.p, .int .i64 8, .int .i64 0, .int .i64 1024, .int .i64 b.l, .int .i64 16, .int .i64 1, .int .i64 1048576]
set_option maxHeartbeats 16000000 in
set_option maxRecDepth 100000 in
theorem numbers_any (b : Bn) (w : World) : Calls Try.prog 52 #[b.val] w fun e w' => e = .returned (numsOf b) ∧ Below w.heap.size w w' := by
  obtain ⟨s, i, g, m, x, y, vx, vy, h, p, l⟩ := b
  simp only [Bn.val, numsOf]
  have FIN := bel2 w (.cells #[.int .i64 s, .int .i64 i, .int .i64 g, .int .i64 m, .int .i64 x, .int .i64 y, .int .i64 vx, .int .i64 vy, .int .i64 h, .int .i64 p, .int .i64 l] 25) (.cells #[.int .i64 0, .int .i64 0, .int .i64 0, .int .i64 0, .int .i64 0, .int .i64 0, .int .i64 0, .int .i64 0, .int .i64 0, .int .i64 0, .int .i64 0, .int .i64 0, .int .i64 0, .int .i64 0, .int .i64 0, .int .i64 0, .int .i64 0, .int .i64 0, .int .i64 0, .int .i64 0, .int .i64 0, .int .i64 0, .int .i64 0, .int .i64 0, .int .i64 0, .int .i64 0, .int .i64 0, .int .i64 0] 68)
  obtain ⟨⟨k0, k1, k2, k3, k4, k5, k6, k7, k8, k9, k10⟩, _⟩ := Bx.b11 (at2a w (.cells #[.int .i64 s, .int .i64 i, .int .i64 g, .int .i64 m, .int .i64 x, .int .i64 y, .int .i64 vx, .int .i64 vy, .int .i64 h, .int .i64 p, .int .i64 l] 25) (.cells #[.int .i64 0, .int .i64 0, .int .i64 0, .int .i64 0, .int .i64 0, .int .i64 0, .int .i64 0, .int .i64 0, .int .i64 0, .int .i64 0, .int .i64 0, .int .i64 0, .int .i64 0, .int .i64 0, .int .i64 0, .int .i64 0, .int .i64 0, .int .i64 0, .int .i64 0, .int .i64 0, .int .i64 0, .int .i64 0, .int .i64 0, .int .i64 0, .int .i64 0, .int .i64 0, .int .i64 0, .int .i64 0] 68))
  have H2 := at2b w (.cells #[.int .i64 s, .int .i64 i, .int .i64 g, .int .i64 m, .int .i64 x, .int .i64 y, .int .i64 vx, .int .i64 vy, .int .i64 h, .int .i64 p, .int .i64 l] 25) (.cells #[.int .i64 0, .int .i64 0, .int .i64 0, .int .i64 0, .int .i64 0, .int .i64 0, .int .i64 0, .int .i64 0, .int .i64 0, .int .i64 0, .int .i64 0, .int .i64 0, .int .i64 0, .int .i64 0, .int .i64 0, .int .i64 0, .int .i64 0, .int .i64 0, .int .i64 0, .int .i64 0, .int .i64 0, .int .i64 0, .int .i64 0, .int .i64 0, .int .i64 0, .int .i64 0, .int .i64 0, .int .i64 0] 68)
  have BE := build_nums x y vx vy h p l
  obtain ⟨L, hL⟩ : ∃ L : List Value, L = [.int .i64 x, .int .i64 1, .int .i64 (-1073741824), .int .i64 1073741824, .int .i64 y, .int .i64 1, .int .i64 (-1073741824), .int .i64 1073741824, .int .i64 vx, .int .i64 2, .int .i64 (-1073741824), .int .i64 1073741824, .int .i64 vy, .int .i64 2, .int .i64 (-1073741824), .int .i64 1073741824, .int .i64 h, .int .i64 4, .int .i64 1, .int .i64 1048576, .int .i64 p, .int .i64 8, .int .i64 0, .int .i64 1024, .int .i64 l, .int .i64 16, .int .i64 1, .int .i64 1048576] := ⟨_, rfl⟩
  have hA : #[.int .i64 x, .int .i64 1, .int .i64 (-1073741824), .int .i64 1073741824, .int .i64 y, .int .i64 1, .int .i64 (-1073741824), .int .i64 1073741824, .int .i64 vx, .int .i64 2, .int .i64 (-1073741824), .int .i64 1073741824, .int .i64 vy, .int .i64 2, .int .i64 (-1073741824), .int .i64 1073741824, .int .i64 h, .int .i64 4, .int .i64 1, .int .i64 1048576, .int .i64 p, .int .i64 8, .int .i64 0, .int .i64 1024, .int .i64 l, .int .i64 16, .int .i64 1, .int .i64 1048576] = L.toArray := by rw [hL]
  rw [hA] at BE ⊢
  have hlen : L.length = 28 := by rw [hL]; rfl
  have h1c : ∀ v ∈ L, v.oneCell' = true := by
    rw [hL]
    intro v hv
    simp only [List.mem_cons, List.not_mem_nil, or_false] at hv
    rcases hv with rfl | rfl | rfl | rfl | rfl | rfl | rfl | rfl | rfl | rfl | rfl | rfl | rfl | rfl | rfl | rfl | rfl | rfl | rfl | rfl | rfl | rfl | rfl | rfl | rfl | rfl | rfl | rfl <;> rfl
  have S1 := fun (W : World) (hW : W.heap[w.heap.size + 1]? = some (.cells #[.int .i64 0, .int .i64 0, .int .i64 0, .int .i64 0, .int .i64 0, .int .i64 0, .int .i64 0, .int .i64 0, .int .i64 0, .int .i64 0, .int .i64 0, .int .i64 0, .int .i64 0, .int .i64 0, .int .i64 0, .int .i64 0, .int .i64 0, .int .i64 0, .int .i64 0, .int .i64 0, .int .i64 0, .int .i64 0, .int .i64 0, .int .i64 0, .int .i64 0, .int .i64 0, .int .i64 0, .int .i64 0] 68 (0, 0))) => run_storeCells_cells (P := Try.prog) (w.heap.size + 1) 0 L 0 W (fun j hj => by
    rw [hlen] at hj
    have hj' : 0 + 0 + j < (#[.int .i64 0, .int .i64 0, .int .i64 0, .int .i64 0, .int .i64 0, .int .i64 0, .int .i64 0, .int .i64 0, .int .i64 0, .int .i64 0, .int .i64 0, .int .i64 0, .int .i64 0, .int .i64 0, .int .i64 0, .int .i64 0, .int .i64 0, .int .i64 0, .int .i64 0, .int .i64 0, .int .i64 0, .int .i64 0, .int .i64 0, .int .i64 0, .int .i64 0, .int .i64 0, .int .i64 0, .int .i64 0] : Array Value).size := by show _ < 28; omega
    rw [(Bx.cell hW (o := 0 + 0 + j) (Array.getElem?_eq_getElem hj')).1]
    rfl) (fun j hj => by
    rw [hlen] at hj
    have hj' : 0 + 0 + j < (#[.int .i64 0, .int .i64 0, .int .i64 0, .int .i64 0, .int .i64 0, .int .i64 0, .int .i64 0, .int .i64 0, .int .i64 0, .int .i64 0, .int .i64 0, .int .i64 0, .int .i64 0, .int .i64 0, .int .i64 0, .int .i64 0, .int .i64 0, .int .i64 0, .int .i64 0, .int .i64 0, .int .i64 0, .int .i64 0, .int .i64 0, .int .i64 0, .int .i64 0, .int .i64 0, .int .i64 0, .int .i64 0] : Array Value).size := by show _ < 28; omega
    exact (Bx.cell hW (o := 0 + 0 + j) (Array.getElem?_eq_getElem hj')).2) h1c
  go_enter Try.func52, Try.ntmps52
  go_upto_region 1 with fail
  generalize (w.alloc (.cells #[.int .i64 s, .int .i64 i, .int .i64 g, .int .i64 m, .int .i64 x, .int .i64 y, .int .i64 vx, .int .i64 vy, .int .i64 h, .int .i64 p, .int .i64 l] 25)).alloc (.cells #[.int .i64 0, .int .i64 0, .int .i64 0, .int .i64 0, .int .i64 0, .int .i64 0, .int .i64 0, .int .i64 0, .int .i64 0, .int .i64 0, .int .i64 0, .int .i64 0, .int .i64 0, .int .i64 0, .int .i64 0, .int .i64 0, .int .i64 0, .int .i64 0, .int .i64 0, .int .i64 0, .int .i64 0, .int .i64 0, .int .i64 0, .int .i64 0, .int .i64 0, .int .i64 0, .int .i64 0, .int .i64 0] 68) = W at *
  replace S1 := S1 W H2
  obtain ⟨cur', q1, q2, q3, q4⟩ := setCells_same (w.heap.size + 1) L (0 + 0) W _ H2
  have q5 := (setCells_size (w.heap.size + 1) L (0 + 0) W)
  have q6 := fun k hk => setCells_other (w.heap.size + 1) L (0 + 0) W k hk
  have HF : Hid (Below w.heap.size w (W.setCells (w.heap.size + 1) (0 + 0) L) ∧ ∀ (j : Nat) (u : Value), L[j]? = some u → (W.setCells (w.heap.size + 1) (0 + 0) L).cell? ⟨w.heap.size + 1, j, none⟩ = some u) := Lib.hid ⟨⟨q5.2.1.trans FIN.os, q5.2.2.1.trans FIN.tape, q5.2.2.2.trans FIN.output, by rw [q5.1]; exact FIN.size, fun k hk => (q6 k (by omega)).trans (FIN.block k hk)⟩, fun j u hu => by
    have hj := (List.getElem?_eq_some_iff.1 hu).1
    have := q4 j u hu (by rw [hlen] at hj; show 0 + 0 + j < 28; omega)
    simp only [Nat.zero_add] at this
    exact (Bx.cell q1 this).1⟩
  obtain ⟨W2, hW2⟩ : ∃ W2, W2 = W.setCells (w.heap.size + 1) (0 + 0) L := ⟨_, rfl⟩
  rw [← hW2] at S1 HF
  clear q1 q2 q3 q4 q5 q6 hW2 H2 FIN hA h1c
  replace hL := Lib.hid hL
  replace BE := Lib.hid BE
  refine wp_region_lit ?_
  iterate 21 (refine wpList_plain rfl (fun K hK0 => ?_); (have hK := Lib.hid hK0); clear hK0; go_simp; refine hK.out _ _ ?_; clear hK K)
  refine wpList_build7 _ rfl (.tmp 5) (.tmp 8) (.tmp 11) (.tmp 14) (.tmp 17) (.tmp 20) (.tmp 23) 68 rfl _ _ _ _ _ _ _ rfl rfl rfl rfl rfl rfl rfl _ (BE.out _) ?_
  refine wpList_plain rfl (fun K hK0 => ?_)
  have hK := Lib.hid hK0
  clear hK0
  go_simp
  refine hK.out _ _ ?_
  clear hK K
  refine wpList_nil ?_
  go_wp2
  obtain ⟨hbel, HC⟩ := HF.out
  exact bodyPost_ret (v := .agg L.toArray) (results_cell (sl := 2) (t := 68) (ad := ⟨w.heap.size + 1, 0, none⟩) (n := 28) Try.results52 rfl Try.isAgg68 Try.sizeOf68 hlen (fun j u hu => by rw [Addr.add_mid, Nat.zero_add]; exact HC j u hu)) rfl ⟨rfl, hbel⟩
end Go.Proofs.Ytookmjdnmmfkfaa
