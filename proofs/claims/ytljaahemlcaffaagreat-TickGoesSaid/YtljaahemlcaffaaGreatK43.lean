/- How an entity, a command, a name, a row of entities that came in are read. Written by wip/tools/genlawp.py. How a command and a row of entities that came in are read, with all that they fit. How rows of commands that came in are read, with all that they fit. How a case of layer 15's laws that came in is read: a world, a zone, two rows of entities, a row of commands. Written by hand. -/
import Derived.Test.YtljaahemlcaffaaGreatK04
import Derived.Test.YtljaahemlcaffaaGreatK30
import Derived.Test.YtljaahemlcaffaaGreatK37
namespace Go.Proofs.YtljaahemlcaffaaGreat
open Go.ChangeShapes Go.WideShapes Go.ChangeAt Go.RowKit Pz
set_option linter.unusedVariables false
set_option maxRecDepth 100000

theorem list_succ {α : Type} {l : List α} {n : Nat} (h : l.length = n + 1) : ∃ x r, l = x :: r ∧ r.length = n := by
  cases l with
  | nil => cases h
  | cons x r => exact ⟨x, r, rfl, by simpa using h⟩
theorem bn_of {l : List Int} (hl : l.length = 11) (hf : I64 l) : ∃ b : Bn, l.map (Value.int .i64) = b.row ∧ b.Fits := by
  obtain ⟨xs, l0, rfl, h0⟩ := list_succ hl
  obtain ⟨xi, l1, rfl, h1⟩ := list_succ h0
  obtain ⟨xg, l2, rfl, h2⟩ := list_succ h1
  obtain ⟨xm, l3, rfl, h3⟩ := list_succ h2
  obtain ⟨xx, l4, rfl, h4⟩ := list_succ h3
  obtain ⟨xy, l5, rfl, h5⟩ := list_succ h4
  obtain ⟨xvx, l6, rfl, h6⟩ := list_succ h5
  obtain ⟨xvy, l7, rfl, h7⟩ := list_succ h6
  obtain ⟨xh, l8, rfl, h8⟩ := list_succ h7
  obtain ⟨xp, l9, rfl, h9⟩ := list_succ h8
  obtain ⟨xl, l10, rfl, h10⟩ := list_succ h9
  obtain rfl := List.length_eq_zero_iff.1 h10
  refine ⟨⟨xs, xi, xg, xm, xx, xy, xvx, xvy, xh, xp, xl⟩, rfl, ?_⟩
  constructor <;> exact hf _ (by simp)
theorem cn_of {l : List Int} (hl : l.length = 16) (hf : I64 l) : ∃ c : Cn, (Value.agg (l.map (Value.int .i64)).toArray) = c.val ∧ Fit c.b.m := by
  obtain ⟨yk0, l0, rfl, h0⟩ := list_succ hl
  obtain ⟨ys1, l1, rfl, h1⟩ := list_succ h0
  obtain ⟨yi2, l2, rfl, h2⟩ := list_succ h1
  obtain ⟨yg3, l3, rfl, h3⟩ := list_succ h2
  obtain ⟨ybs4, l4, rfl, h4⟩ := list_succ h3
  obtain ⟨ybi5, l5, rfl, h5⟩ := list_succ h4
  obtain ⟨ybg6, l6, rfl, h6⟩ := list_succ h5
  obtain ⟨ybm7, l7, rfl, h7⟩ := list_succ h6
  obtain ⟨yx8, l8, rfl, h8⟩ := list_succ h7
  obtain ⟨yy9, l9, rfl, h9⟩ := list_succ h8
  obtain ⟨yvx10, l10, rfl, h10⟩ := list_succ h9
  obtain ⟨yvy11, l11, rfl, h11⟩ := list_succ h10
  obtain ⟨yh12, l12, rfl, h12⟩ := list_succ h11
  obtain ⟨yp13, l13, rfl, h13⟩ := list_succ h12
  obtain ⟨yl14, l14, rfl, h14⟩ := list_succ h13
  obtain ⟨ym15, l15, rfl, h15⟩ := list_succ h14
  obtain rfl := List.length_eq_zero_iff.1 h15
  exact ⟨⟨yk0, ys1, yi2, yg3, ⟨ybs4, ybi5, ybg6, ybm7, yx8, yy9, yvx10, yvy11, yh12, yp13, yl14⟩, ym15⟩, rfl, hf _ (by simp)⟩
section
variable {H : Type} {enc : TypeId × Value → H} {w : World} {v : Value} {d : DataW H} {ps : List MemPlace} {b0 : Nat}
theorem in_bundle (hval : Value.okWide Tryz.prog w .any b0 42 v) (hd : DataW.Trod enc Tryz.prog w 0 (fun _ => true) true 42 v d ps) : ∃ b : Bn, v = b.val ∧ b.Fits := by
  obtain ⟨l, rfl, hl, hf⟩ := in_flat 3 Tryz.underlying42 (by kernel_rfl) hval hd
  obtain ⟨b, hb, hF⟩ := bn_of (l := l) (hl.trans (by kernel_rfl)) hf
  refine ⟨b, ?_, hF⟩
  show Value.agg (l.map (Value.int .i64)).toArray = _
  rw [hb]
theorem in_name (hval : Value.okWide Tryz.prog w .any b0 40 v) (hd : DataW.Trod enc Tryz.prog w 0 (fun _ => true) true 40 v d ps) : ∃ s i g : Int, v = .agg #[.int .i64 s, .int .i64 i, .int .i64 g] := by
  obtain ⟨l, rfl, hl, hf⟩ := in_flat 3 Tryz.underlying40 (by kernel_rfl) hval hd
  have hl : l.length = 3 := hl.trans (by kernel_rfl)
  obtain ⟨a0, l0, rfl, h0⟩ := list_succ hl
  obtain ⟨a1, l1, rfl, h1⟩ := list_succ h0
  obtain ⟨a2, l2, rfl, h2⟩ := list_succ h1
  obtain rfl := List.length_eq_zero_iff.1 h2
  exact ⟨a0, a1, a2, rfl⟩
theorem rows_bn : ∀ l : List (List Int), (∀ x ∈ l, x.length = 11 ∧ I64 x) → ∃ bs : List Bn, l.map ints = bs.map Bn.row ∧ bs.length = l.length
  | [], _ => ⟨[], rfl, rfl⟩
  | x :: r, h => by
    obtain ⟨b, hb, _⟩ := bn_of (h x List.mem_cons_self).1 (h x List.mem_cons_self).2
    obtain ⟨bs, h1, h2⟩ := rows_bn r (fun y hy => h y (List.mem_cons_of_mem _ hy))
    refine ⟨b :: bs, ?_, by simp [h2]⟩
    rw [List.map_cons, List.map_cons, h1]
    congr 1
theorem in_bundles (hval : Value.okWide Tryz.prog w .any b0 24 v) (hd : DataW.Trod enc Tryz.prog w 0 (fun _ => true) true 24 v d ps) (hz : ∀ n ∈ DataW.weights Tryz.prog 24 d, n ≤ reachBytes) :
    ∃ (A : Option Addr) (cap : Nat) (l : List Bn), v = .slice A l.length cap ∧ l.length ≤ cap ∧ cap ≤ 140737488351232 ∧ RdB w w.heap.size A l := by
  obtain ⟨A, cap, l, rfl, h1, h2, h3, h4⟩ := in_flats (k := 11) 3 Tryz.underlying24 Tryz.underlying42 (by kernel_rfl) (by decide) (of_decide_eq_true (by kernel_rfl)) (by kernel_rfl) hval hd hz
  obtain ⟨bs, e1, e2⟩ := rows_bn l h3
  rw [e1] at h4
  exact ⟨A, cap, bs, by rw [e2], by omega, h2, RdB.of_reads h4⟩
end
end Go.Proofs.YtljaahemlcaffaaGreat
namespace Go.Proofs.YtljaahemlcaffaaGreat
open Go.ChangeShapes Go.WideShapes Go.ChangeAt Go.RowKit Pz
set_option linter.unusedVariables false
set_option maxRecDepth 100000
set_option linter.unusedSimpArgs false

theorem cn_fits {l : List Int} (hl : l.length = 16) (hf : I64 l) : ∃ c : Cn, (Value.agg (l.map (Value.int .i64)).toArray) = c.val ∧ Fit c.k ∧ Fit c.m ∧ c.b.Fits := by
  obtain ⟨yk, l0, rfl, h0⟩ := list_succ hl
  obtain ⟨ys, l1, rfl, h1⟩ := list_succ h0
  obtain ⟨yi, l2, rfl, h2⟩ := list_succ h1
  obtain ⟨yg, l3, rfl, h3⟩ := list_succ h2
  obtain ⟨ybs, l4, rfl, h4⟩ := list_succ h3
  obtain ⟨ybi, l5, rfl, h5⟩ := list_succ h4
  obtain ⟨ybg, l6, rfl, h6⟩ := list_succ h5
  obtain ⟨ybm, l7, rfl, h7⟩ := list_succ h6
  obtain ⟨yx, l8, rfl, h8⟩ := list_succ h7
  obtain ⟨yy, l9, rfl, h9⟩ := list_succ h8
  obtain ⟨yvx, l10, rfl, h10⟩ := list_succ h9
  obtain ⟨yvy, l11, rfl, h11⟩ := list_succ h10
  obtain ⟨yh, l12, rfl, h12⟩ := list_succ h11
  obtain ⟨yp, l13, rfl, h13⟩ := list_succ h12
  obtain ⟨yl, l14, rfl, h14⟩ := list_succ h13
  obtain ⟨ym, l15, rfl, h15⟩ := list_succ h14
  obtain rfl := List.length_eq_zero_iff.1 h15
  refine ⟨⟨yk, ys, yi, yg, ⟨ybs, ybi, ybg, ybm, yx, yy, yvx, yvy, yh, yp, yl⟩, ym⟩, rfl, hf _ (by simp), hf _ (by simp), ?_⟩
  constructor <;> exact hf _ (by simp)
theorem rows_bF : ∀ l : List (List Int), (∀ x ∈ l, x.length = 11 ∧ I64 x) → ∃ bs : List Bn, l.map ints = bs.map Bn.row ∧ bs.length = l.length ∧ ∀ x ∈ bs, x.Fits
  | [], _ => ⟨[], rfl, rfl, fun x hx => by cases hx⟩
  | x :: r, h => by
    obtain ⟨b, hb, hf⟩ := bn_of (h x List.mem_cons_self).1 (h x List.mem_cons_self).2
    obtain ⟨bs, h1, h2, h3⟩ := rows_bF r (fun y hy => h y (List.mem_cons_of_mem _ hy))
    refine ⟨b :: bs, ?_, by simp [h2], fun y hy => ?_⟩
    · rw [List.map_cons, List.map_cons, h1]
      congr 1
    · rcases List.mem_cons.1 hy with e | e
      · rw [e]; exact hf
      · exact h3 y e
section
variable {H : Type} {enc : TypeId × Value → H} {w : World} {v : Value} {d : DataW H} {ps : List MemPlace} {b0 : Nat}
theorem in_cmd14 (hval : Value.okWide Tryz.prog w .any b0 55 v) (hd : DataW.Trod enc Tryz.prog w 0 (fun _ => true) true 55 v d ps) : ∃ c : Cn, v = c.val ∧ Fit c.k ∧ Fit c.m ∧ c.b.Fits := by
  obtain ⟨l, rfl, hl, hf⟩ := in_flat 4 Tryz.underlying55 (by kernel_rfl) hval hd
  exact cn_fits (l := l) (hl.trans (by kernel_rfl)) hf
theorem in_bundles14 (hval : Value.okWide Tryz.prog w .any b0 24 v) (hd : DataW.Trod enc Tryz.prog w 0 (fun _ => true) true 24 v d ps) (hz : ∀ n ∈ DataW.weights Tryz.prog 24 d, n ≤ reachBytes) :
    ∃ (A : Option Addr) (cap : Nat) (l : List Bn), v = .slice A l.length cap ∧ l.length ≤ cap ∧ cap ≤ 140737488351232 ∧ RdB w w.heap.size A l ∧ ∀ x ∈ l, x.Fits := by
  obtain ⟨A, cap, l, rfl, h1, h2, h3, h4⟩ := in_flats (k := 11) 3 Tryz.underlying24 Tryz.underlying42 (by kernel_rfl) (by decide) (of_decide_eq_true (by kernel_rfl)) (by kernel_rfl) hval hd hz
  obtain ⟨bs, e1, e2, e3⟩ := rows_bF l h3
  rw [e1] at h4
  exact ⟨A, cap, bs, by rw [e2], by omega, h2, RdB.of_reads h4, e3⟩
end
end Go.Proofs.YtljaahemlcaffaaGreat
namespace Go.Proofs.YtljaahemlcaffaaGreat
open Go.ChangeShapes Go.WideShapes Go.ChangeAt Go.RowKit Pz
set_option linter.unusedVariables false
set_option maxRecDepth 100000
set_option linter.unusedSimpArgs false

theorem cn_row {l : List Int} (hl : l.length = 16) (hf : I64 l) : ∃ c : Cn, ints l = cnE c ∧ CFit c := by
  obtain ⟨yk, l0, rfl, h0⟩ := list_succ hl
  obtain ⟨ys, l1, rfl, h1⟩ := list_succ h0
  obtain ⟨yi, l2, rfl, h2⟩ := list_succ h1
  obtain ⟨yg, l3, rfl, h3⟩ := list_succ h2
  obtain ⟨ybs, l4, rfl, h4⟩ := list_succ h3
  obtain ⟨ybi, l5, rfl, h5⟩ := list_succ h4
  obtain ⟨ybg, l6, rfl, h6⟩ := list_succ h5
  obtain ⟨ybm, l7, rfl, h7⟩ := list_succ h6
  obtain ⟨yx, l8, rfl, h8⟩ := list_succ h7
  obtain ⟨yy, l9, rfl, h9⟩ := list_succ h8
  obtain ⟨yvx, l10, rfl, h10⟩ := list_succ h9
  obtain ⟨yvy, l11, rfl, h11⟩ := list_succ h10
  obtain ⟨yh, l12, rfl, h12⟩ := list_succ h11
  obtain ⟨yp, l13, rfl, h13⟩ := list_succ h12
  obtain ⟨yl, l14, rfl, h14⟩ := list_succ h13
  obtain ⟨ym, l15, rfl, h15⟩ := list_succ h14
  obtain rfl := List.length_eq_zero_iff.1 h15
  refine ⟨⟨yk, ys, yi, yg, ⟨ybs, ybi, ybg, ybm, yx, yy, yvx, yvy, yh, yp, yl⟩, ym⟩, rfl, hf _ (by simp), hf _ (by simp), hf _ (by simp), hf _ (by simp), hf _ (by simp), ?_⟩
  constructor <;> exact hf _ (by simp)
theorem rows_cF : ∀ l : List (List Int), (∀ x ∈ l, x.length = 16 ∧ I64 x) → ∃ cs : List Cn, l.map ints = cs.map cnE ∧ cs.length = l.length ∧ ∀ x ∈ cs, CFit x
  | [], _ => ⟨[], rfl, rfl, fun x hx => by cases hx⟩
  | x :: r, h => by
    obtain ⟨b, hb, hf⟩ := cn_row (h x List.mem_cons_self).1 (h x List.mem_cons_self).2
    obtain ⟨bs, h1, h2, h3⟩ := rows_cF r (fun y hy => h y (List.mem_cons_of_mem _ hy))
    refine ⟨b :: bs, ?_, by simp [h2], fun y hy => ?_⟩
    · rw [List.map_cons, List.map_cons, h1, hb]
    · rcases List.mem_cons.1 hy with e | e
      · rw [e]; exact hf
      · exact h3 y e
section
variable {H : Type} {enc : TypeId × Value → H} {w : World} {v : Value} {d : DataW H} {ps : List MemPlace} {b0 : Nat}
theorem in_cmds15 (hval : Value.okWide Tryz.prog w .any b0 25 v) (hd : DataW.Trod enc Tryz.prog w 0 (fun _ => true) true 25 v d ps) (hz : ∀ n ∈ DataW.weights Tryz.prog 25 d, n ≤ reachBytes) :
    ∃ (A : Option Addr) (cap : Nat) (l : List Cn), v = .slice A l.length cap ∧ l.length ≤ cap ∧ cap ≤ 140737488351232 ∧ RdC w w.heap.size A l ∧ ∀ x ∈ l, CFit x := by
  obtain ⟨A, cap, l, rfl, h1, h2, h3, h4⟩ := in_flats (k := 16) 4 Tryz.underlying25 Tryz.underlying55 (by kernel_rfl) (by decide) (of_decide_eq_true (by kernel_rfl)) (by kernel_rfl) hval hd hz
  obtain ⟨bs, e1, e2, e3⟩ := rows_cF l h3
  rw [e1] at h4
  exact ⟨A, cap, bs, by rw [e2], by omega, h2, RdC.of_reads h4, e3⟩
end
end Go.Proofs.YtljaahemlcaffaaGreat
namespace Go.Proofs.YtljaahemlcaffaaGreat
open Go.ChangeShapes Go.WideShapes Go.ChangeAt Go.RowKit Pz
set_option linter.unusedVariables false
set_option linter.unusedSimpArgs false

set_option maxRecDepth 100000
section
variable {H : Type} {enc : TypeId × Value → H} {P : Program} {w : World} {t e : TypeId} {v : Value} {d : DataW H} {ps : List MemPlace} {b0 : Nat}
theorem in_rowsF (ht : P.underlying t = some (.slice e)) {k : Nat} (hc : P.cellsOf e = k) (hk : 0 < k) (hb : 1 ≤ P.bytesOf e) (hform : ∃ a len cap, v = Value.slice a len cap) (hd : DataW.Trod enc P w 0 (fun _ => true) true t v d ps) (hz : ∀ n ∈ DataW.weights P t d, n ≤ reachBytes) :
    ∃ (A : Option Addr) (cap : Nat) (rows : List (List Value)), v = .slice A rows.length cap ∧ rows.length ≤ cap ∧ cap ≤ 140737488351232 ∧ (A = none → cap = 0) ∧
      (∀ row ∈ rows, ∃ n y, DataW.trod enc P w 0 (fun _ => true) true n e row = some y ∧ ∀ m ∈ DataW.weights P e y.1, m ≤ reachBytes) ∧ ReadsK w w.heap.size A k rows := by
  obtain ⟨a0, len, cap, rfl⟩ := hform
  obtain ⟨fuel, hf⟩ := hd
  rcases DataW.trod_slice ht hf with ⟨hcs, _⟩ | ⟨a, l, c, elems, rest, n, _, hcs, hdx, _, hl, hm, hlen, hel, hsp, _⟩
  · simp [Value.cells] at hcs
    obtain ⟨rfl, rfl, rfl⟩ := hcs
    exact ⟨none, 0, [], rfl, Nat.le_refl _, by omega, fun _ => rfl, fun row hr => by simp at hr, fun h0 => absurd h0 (by simp)⟩
  · simp [Value.cells] at hcs
    obtain ⟨rfl, rfl, rfl⟩ := hcs
    obtain ⟨hrl, _⟩ := hsp rfl
    simp only [Prod.mk.injEq] at hdx
    obtain ⟨rfl, _⟩ := hdx
    have hcap : cap ≤ 140737488351232 := by
      have := cap_bd ht hb hz
      simp only [List.length_map] at this
      omega
    rw [hc] at hel
    have each : ∀ i, i < len → ∃ row y, w.cells? 0 (a.add (i * k)) k = some row ∧ DataW.trod enc P w 0 (fun _ => true) true n e row = some y ∧ elems[i]? = some y := by
      intro i hi
      have h := hel i hi
      rw [List.getElem?_eq_getElem (by omega), Option.bind_eq_some_iff] at h
      obtain ⟨row, h1, h2⟩ := h
      exact ⟨row, _, h1, h2, List.getElem?_eq_getElem (by omega)⟩
    refine ⟨some a, cap, (List.range len).map fun i => (w.cells? 0 (a.add (i * k)) k).getD [], by simp, by simpa using hl, hcap, (fun h => absurd h (by simp)), ?_, ?_⟩
    · intro row hr
      obtain ⟨i, hi, rfl⟩ := List.mem_map.1 hr
      obtain ⟨row, y, h1, h2, h3⟩ := each i (List.mem_range.1 hi)
      refine ⟨n, y, by rw [h1]; exact h2, fun m hm => hz m ?_⟩
      simp only [DataW.weights, ht, List.mem_cons, List.mem_append]
      exact .inr (.inl (mem_weightsAll (List.mem_map.2 ⟨y, List.mem_of_getElem? h3, rfl⟩) hm))
    · intro h0
      have hpos : 0 < len := by simpa using h0
      have cellAt : ∀ i, i < len → ∀ j, j < k → ∃ u, w.cell? (a.add (i * k + j)) = some u ∧ ((w.cells? 0 (a.add (i * k)) k).getD [])[j]? = some u := by
        intro i hi j hj
        obtain ⟨row, y, h1, _, _⟩ := each i hi
        obtain ⟨_, hrl, hat⟩ := World.cells?_some h1
        refine ⟨row[j]'(by omega), ?_, ?_⟩
        · rw [← addr_two, hat j hj]; exact List.getElem?_eq_getElem _
        · rw [h1]; exact List.getElem?_eq_getElem _
      obtain ⟨b, off, spot⟩ := a
      obtain ⟨u, hu, _⟩ := cellAt 0 hpos 0 hk
      have hspot : spot = none := by simpa [Addr.add] using World.cell?_spot hu
      subst hspot
      refine ⟨b, off, rfl, by have := cell_lt hu; simpa [Addr.add] using this, fun i row hr j u hv => ?_⟩
      have hi : i < len := by
        have := (List.getElem?_eq_some_iff.1 hr).1
        simpa using this
      have hrow : row = (w.cells? 0 ((⟨b, off, none⟩ : Addr).add (i * k)) k).getD [] := by
        rw [List.getElem?_map, List.getElem?_range hi] at hr
        simpa using hr.symm
      have hj : j < k := by
        obtain ⟨r2, _, h1, _, _⟩ := each i hi
        have hl2 := (World.cells?_some h1).2.1
        have := (List.getElem?_eq_some_iff.1 hv).1
        rw [hrow, h1] at this
        simp at this; omega
      obtain ⟨u', hu1, hu2⟩ := cellAt i hi j hj
      rw [hrow, hu2] at hv
      rw [← Go.WideShapes.add_plain, hu1, ← hv]
theorem in_flatsF {k : Nat} {fs : Array Field} (n : Nat) (ht : P.underlying t = some (.slice e)) (he : P.underlying e = some (.struct fs)) (hc : P.cellsOf e = k) (hk : 0 < k) (hb : 1 ≤ P.bytesOf e) (hfl : flatB P n e = true)
    (hform : ∃ a len cap, v = Value.slice a len cap) (hd : DataW.Trod enc P w 0 (fun _ => true) true t v d ps) (hz : ∀ n ∈ DataW.weights P t d, n ≤ reachBytes) :
    ∃ (A : Option Addr) (cap : Nat) (l : List (List Int)), v = .slice A l.length cap ∧ l.length ≤ cap ∧ cap ≤ 140737488351232 ∧ (∀ x ∈ l, x.length = k ∧ I64 x) ∧ ReadsK w w.heap.size A k (l.map ints) := by
  obtain ⟨A, cap, rows, rfl, hl, hcap, _, hr, hR⟩ := in_rowsF ht hc hk hb hform hd hz
  obtain ⟨l, rfl, hq⟩ := rows_map (f := ints) (Q := fun x => x.length = k ∧ I64 x) (rows := rows) (by
    intro row hrow
    obtain ⟨m, y, hy, _⟩ := hr row hrow
    obtain ⟨_, _, _, _, hlen, _⟩ := DataW.trod_struct he hy
    rw [hc] at hlen
    obtain ⟨l, rfl, hl⟩ := flat_row n e hfl _ _ _ hy
    exact ⟨l, rfl, by simpa [ints] using hlen, hl⟩)
  exact ⟨A, cap, l, by rw [List.length_map], by simpa using hl, hcap, hq, hR⟩
theorem slice_form {m : Nat} {c : Value} {y : DataW H × List MemPlace} (ht : P.underlying t = some (.slice e)) (hf : DataW.trod enc P w 0 (fun _ => true) true m t [c] = some y) : ∃ a len cap, c = Value.slice a len cap := by
  rcases DataW.trod_slice ht hf with ⟨hcs, _⟩ | ⟨a, l, cp, elems, rest, n, _, hcs, _⟩
  · simp only [List.cons.injEq, and_true] at hcs
    exact ⟨_, _, _, hcs⟩
  · simp only [List.cons.injEq, and_true] at hcs
    exact ⟨_, _, _, hcs⟩
end
section
variable {H : Type} {enc : TypeId × Value → H} {w : World} {v : Value} {d : DataW H} {ps : List MemPlace} {b0 : Nat}
theorem in_case (hval : Value.okWide Tryz.prog w .any b0 48 v) (hd : DataW.Trod enc Tryz.prog w 0 (fun _ => true) true 48 v d ps) (hz : ∀ n ∈ DataW.weights Tryz.prog 48 d, n ≤ reachBytes) :
    ∃ (c0 c1 c2 c3 c4 c5 c6 z : Int) (A1 A2 A3 : Option Addr) (q1 q2 q3 : Nat) (own near : List Bn) (cs : List Cn), v = .agg #[.int .i64 c0, .int .i64 c1, .int .i64 c2, .int .i64 c3, .int .i64 c4, .int .i64 c5, .int .i64 c6, .int .i64 z, .slice A1 own.length q1, .slice A2 near.length q2, .slice A3 cs.length q3] ∧ Given w A1 A2 A3 q1 q2 q3 own near cs ∧ Fit z := by
  have hu := Tryz.underlying48
  have huc := Tryz.underlying23
  obtain ⟨cs, rfl, hsz⟩ := okWide_struct hu hval
  obtain ⟨fuel, hf⟩ := hd
  obtain ⟨xs, m, _, hy, hl, hxl, hfd⟩ := DataW.trod_struct hu hf
  simp only [Value.cells] at hl hfd
  have hC : Tryz.prog.cellsOf 48 = 11 := by kernel_rfl
  rw [hC] at hl
  obtain ⟨v0, v1, v2, v3, v4, v5, v6, v7, v8, v9, v10, hcs⟩ : ∃ v0 v1 v2 v3 v4 v5 v6 v7 v8 v9 v10, cs.toList = [v0, v1, v2, v3, v4, v5, v6, v7, v8, v9, v10] := by
    match cs.toList, hl with
    | [a, b, c, d, e, f, g, h, i, j, k], _ => exact ⟨a, b, c, d, e, f, g, h, i, j, k, rfl⟩
  obtain ⟨y0, y1, y2, y3, y4, rfl⟩ : ∃ y0 y1 y2 y3 y4, xs = [y0, y1, y2, y3, y4] := by
    match xs, hxl with
    | [a, b, c, d, e], _ => exact ⟨a, b, c, d, e, rfl⟩
  rw [hcs] at hfd
  have h0 := hfd 0 _ rfl
  have h1 := hfd 1 _ rfl
  have h2 := hfd 2 _ rfl
  have h3 := hfd 3 _ rfl
  have h4 := hfd 4 _ rfl
  have k0 : Tryz.prog.cellsOf 23 = 7 := by kernel_rfl
  have k1 : Tryz.prog.cellsOf 3 = 1 := by kernel_rfl
  have k2 : Tryz.prog.cellsOf 25 = 1 := by kernel_rfl
  have k3 : Tryz.prog.cellsOf 24 = 1 := by kernel_rfl
  replace h0 : DataW.trod enc Tryz.prog w 0 (fun _ => true) true m 23 [v0, v1, v2, v3, v4, v5, v6] = some y0 := h0
  replace h1 : DataW.trod enc Tryz.prog w 0 (fun _ => true) true m 3 [v7] = some y1 := h1
  replace h2 : DataW.trod enc Tryz.prog w 0 (fun _ => true) true m 24 [v8] = some y2 := h2
  replace h3 : DataW.trod enc Tryz.prog w 0 (fun _ => true) true m 24 [v9] = some y3 := h3
  replace h4 : DataW.trod enc Tryz.prog w 0 (fun _ => true) true m 25 [v10] = some y4 := h4
  obtain ⟨xs0, m0, _, hy0, hl0, hxl0, hfd0⟩ := DataW.trod_struct huc h0
  obtain ⟨x0, x1, x2, x3, x4, x5, x6, rfl⟩ : ∃ x0 x1 x2 x3 x4 x5 x6, xs0 = [x0, x1, x2, x3, x4, x5, x6] := by
    match xs0, hxl0 with
    | [a, b, c, d, e, f, g], _ => exact ⟨a, b, c, d, e, f, g, rfl⟩
  have g0 := hfd0 0 _ rfl
  replace g0 : DataW.trod enc Tryz.prog w 0 (fun _ => true) true m0 3 [v0] = some x0 := g0
  obtain ⟨a0, e0, _, wa0⟩ := DataW.trod_int Tryz.underlying3 g0
  have g1 := hfd0 1 _ rfl
  replace g1 : DataW.trod enc Tryz.prog w 0 (fun _ => true) true m0 3 [v1] = some x1 := g1
  obtain ⟨a1, e1, _, wa1⟩ := DataW.trod_int Tryz.underlying3 g1
  have g2 := hfd0 2 _ rfl
  replace g2 : DataW.trod enc Tryz.prog w 0 (fun _ => true) true m0 3 [v2] = some x2 := g2
  obtain ⟨a2, e2, _, wa2⟩ := DataW.trod_int Tryz.underlying3 g2
  have g3 := hfd0 3 _ rfl
  replace g3 : DataW.trod enc Tryz.prog w 0 (fun _ => true) true m0 3 [v3] = some x3 := g3
  obtain ⟨a3, e3, _, wa3⟩ := DataW.trod_int Tryz.underlying3 g3
  have g4 := hfd0 4 _ rfl
  replace g4 : DataW.trod enc Tryz.prog w 0 (fun _ => true) true m0 3 [v4] = some x4 := g4
  obtain ⟨a4, e4, _, wa4⟩ := DataW.trod_int Tryz.underlying3 g4
  have g5 := hfd0 5 _ rfl
  replace g5 : DataW.trod enc Tryz.prog w 0 (fun _ => true) true m0 3 [v5] = some x5 := g5
  obtain ⟨a5, e5, _, wa5⟩ := DataW.trod_int Tryz.underlying3 g5
  have g6 := hfd0 6 _ rfl
  replace g6 : DataW.trod enc Tryz.prog w 0 (fun _ => true) true m0 3 [v6] = some x6 := g6
  obtain ⟨a6, e6, _, wa6⟩ := DataW.trod_int Tryz.underlying3 g6
  obtain ⟨z, e7, _, wz⟩ := DataW.trod_int Tryz.underlying3 h1
  simp only [List.cons.injEq, and_true] at e0 e1 e2 e3 e4 e5 e6 e7
  subst e0 e1 e2 e3 e4 e5 e6 e7
  simp only [Prod.mk.injEq] at hy
  obtain ⟨hyd, _⟩ := hy
  subst hyd
  have w2 : ∀ n ∈ DataW.weights Tryz.prog 24 y2.1, n ≤ reachBytes := fun n hn => hz n (by simp [DataW.weights, DataW.weightsEach, hu]; simp [hn])
  have w3 : ∀ n ∈ DataW.weights Tryz.prog 24 y3.1, n ≤ reachBytes := fun n hn => hz n (by simp [DataW.weights, DataW.weightsEach, hu]; simp [hn])
  have w4 : ∀ n ∈ DataW.weights Tryz.prog 25 y4.1, n ≤ reachBytes := fun n hn => hz n (by simp [DataW.weights, DataW.weightsEach, hu]; simp [hn])
  obtain ⟨u2, n2, p2, f2⟩ := slice_form Tryz.underlying24 h2
  obtain ⟨u3, n3, p3, f3⟩ := slice_form Tryz.underlying24 h3
  obtain ⟨u4, n4, p4, f4⟩ := slice_form Tryz.underlying25 h4
  have t2 : DataW.Trod enc Tryz.prog w 0 (fun _ => true) true 24 v8 y2.1 y2.2 := ⟨m, by rw [f2] at h2 ⊢; exact h2⟩
  have t3 : DataW.Trod enc Tryz.prog w 0 (fun _ => true) true 24 v9 y3.1 y3.2 := ⟨m, by rw [f3] at h3 ⊢; exact h3⟩
  have t4 : DataW.Trod enc Tryz.prog w 0 (fun _ => true) true 25 v10 y4.1 y4.2 := ⟨m, by rw [f4] at h4 ⊢; exact h4⟩
  obtain ⟨A1, c1, l1, rfl, i1, j1, g1', r1⟩ := in_flatsF (k := 11) 3 Tryz.underlying24 Tryz.underlying42 (by kernel_rfl) (by decide) (of_decide_eq_true (by kernel_rfl)) (by kernel_rfl) ⟨_, _, _, f2⟩ t2 w2
  obtain ⟨A2, c2, l2, rfl, i2, j2, g2', r2⟩ := in_flatsF (k := 11) 3 Tryz.underlying24 Tryz.underlying42 (by kernel_rfl) (by decide) (of_decide_eq_true (by kernel_rfl)) (by kernel_rfl) ⟨_, _, _, f3⟩ t3 w3
  obtain ⟨A3, c3, l3, rfl, i3, j3, g3', r3⟩ := in_flatsF (k := 16) 4 Tryz.underlying25 Tryz.underlying55 (by kernel_rfl) (by decide) (of_decide_eq_true (by kernel_rfl)) (by kernel_rfl) ⟨_, _, _, f4⟩ t4 w4
  obtain ⟨q1, z1, s1, F1⟩ := rows_bF l1 g1'
  obtain ⟨q2, z2, s2, F2⟩ := rows_bF l2 g2'
  obtain ⟨q3, z3, s3, F3⟩ := rows_cF l3 g3'
  rw [z1] at r1
  rw [z2] at r2
  rw [z3] at r3
  refine ⟨a0, a1, a2, a3, a4, a5, a6, z, A1, A2, A3, c1, c2, c3, q1, q2, q3, ?_, ⟨RdB.of_reads r1, RdB.of_reads r2, RdC.of_reads r3, by omega, by omega, by omega, F1, F2, F3⟩, wf_bd wz⟩
  congr 1
  rw [s1, s2, s3]
  exact Array.ext' (by simpa using hcs)
end
end Go.Proofs.YtljaahemlcaffaaGreat
