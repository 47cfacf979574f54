/- fresh: a shard of which all indices are free. -/
import Derived.Test.YtdanpdlbbgcidaaIdList
namespace Go.Proofs.Ytdanpdlbbgcidaa
open Go.RowKit Ids
set_option linter.unusedVariables false

def nats (l : List Nat) : List Value := l.map fun (i : Nat) => Value.int .i64 (i : Int)
/-- one index more at a row's end, behind a new box of it -/
theorem push_nat (W : World) {B : Nat} {v : Value} {l : List Nat} (h : W.ownsRow B 3 1 v l.length (nats l)) (hB : B ≤ W.heap.size) (hl : l.length ≤ 10000) (x : Nat) (ty : TypeId) :
    ∃ v' w', (Builtin.append_ #[38, 38] ty #[v, .slice (some ⟨W.heap.size, 0, none⟩) 1 1]).run Try.prog (W.alloc (.cells #[.int .i64 (x : Int)] 3)) = .ok v' w' ∧
      w'.ownsRow B 3 1 v' (l ++ [x]).length (nats (l ++ [x])) ∧ W.grownBy w' v.ownBlock := by
  obtain ⟨i, hi, hz, h2, h3⟩ := info3
  have hk : (W.alloc (.cells #[.int .i64 (x : Int)] 3)).ownsRow B 3 1 v l.length (nats l) := World.ownsRow.alloc h _
  obtain ⟨v', w', hr, ho, hg, _⟩ := run_append_own (P := Try.prog) (W.alloc (.cells #[.int .i64 (x : Int)] 3)) B 38 ty 3 i _ 1 8 Try.underlying38 hi hz h2 h3 rfl (by decide) v l.length (nats l) hk ⟨W.heap.size, 0, none⟩ 1 1 [.int .i64 (x : Int)] rfl
    (fun j u hj => by
      match j, hj with
      | 0, hj =>
        simp only [List.getElem?_cons_zero, Option.some.injEq] at hj
        subst hj
        exact (cell_of (at1 W (.cells #[.int .i64 (x : Int)] 3)) (o := 0) rfl).1) (fun u hu => by
      simp only [List.mem_singleton] at hu
      subst hu; rfl) (by unfold maxLen; omega) (by omega) (by rw [size1]; omega)
  refine ⟨v', w', hr, ?_, ⟨hg.os, hg.tape, hg.output, by have := hg.size; rw [size1] at this; omega, fun k hk hne => (hg.block k (by rw [size1]; omega) hne).trans (Below.heap_alloc W _ k hk)⟩⟩
  rw [List.length_append, show nats (l ++ [x]) = nats l ++ [.int .i64 (x : Int)] by unfold nats; rw [List.map_append]; rfl]
  exact ho
/-- a fresh shard: its indices, its row -/
structure Fresh1 (W : World) (B m : Nat) (ib rb c : Nat) : Prop where
  iin : B ≤ ib
  rin : B ≤ rb
  ix : ∃ cur : Array Value, W.heap[ib]? = some (.cells cur 79 (0, 0)) ∧ ∀ i, i < m → cur[2 * i]? = some (Value.int .i64 0) ∧ cur[2 * i + 1]? = some (Value.int .i64 0)
  rw : ∃ cur : Array Value, W.heap[rb]? = some (.cells cur 3 (0, 0)) ∧ cur.size = c ∧ ∀ j, j < m → cur[j]? = some (Value.int .i64 (j : Int))
  cap : m ≤ c ∧ c ≤ 9223372036854775807
theorem Fresh1.kept {W W' : World} {B m ib rb c : Nat} (h : Fresh1 W B m ib rb c) (h1 : W'.heap[ib]? = W.heap[ib]?) (h2 : W'.heap[rb]? = W.heap[rb]?) : Fresh1 W' B m ib rb c := by
  obtain ⟨cur, e1, e2⟩ := h.ix
  obtain ⟨cur', e3, e4⟩ := h.rw
  exact ⟨h.iin, h.rin, ⟨cur, h1.trans e1, e2⟩, ⟨cur', h2.trans e3, e4⟩, h.cap⟩
theorem Fresh1.lt {W : World} {B m ib rb c : Nat} (h : Fresh1 W B m ib rb c) : ib < W.heap.size ∧ rb < W.heap.size := by
  obtain ⟨cur, e1, e2⟩ := h.ix
  obtain ⟨cur', e3, e4⟩ := h.rw
  exact ⟨heap_lt e1, heap_lt e3⟩
theorem index_info : (Try.prog.info? 79).map (fun i => (i.zero, i.size, i.bytes)) = some (some (.agg #[.int .i64 0, .int .i64 0]), 2, 16) := by kernel_rfl
/-- the row of indices, as it is made -/
theorem made_ix (m : Nat) (hm : m ≤ 16) : ∃ cur : Array Value, (∀ W : World, (Instr.makeSlice 59 (.int .i64 (m : Int)) (.int .i64 (m : Int))).run Try.prog W = .ok (.slice (some ⟨W.heap.size, 0, none⟩) m m) (W.alloc (.cells cur 79))) ∧
    ∀ i, i < m → cur[2 * i]? = some (Value.int .i64 0) ∧ cur[2 * i + 1]? = some (Value.int .i64 0) := by
  obtain ⟨i, hi, hz, h2, h3⟩ := info_parts index_info
  refine ⟨madeCells #[.int .i64 0, .int .i64 0] (m * 2), fun W => ?_, fun i hi => ?_⟩
  · have hr := run_make (P := Try.prog) W 59 79 i _ Try.underlying59 hi hz .i64 .i64 m m (by omega) (Int.le_refl _) (by rw [h3]; omega) (by omega)
    simp only [Int.toNat_natCast, h2] at hr
    exact hr
  · unfold madeCells
    rw [Array.getElem?_map, Array.getElem?_range, if_pos (by omega), Array.getElem?_map, Array.getElem?_range, if_pos (by omega)]
    have e1 : 2 * i % 2 = 0 := by omega
    have e2 : (2 * i + 1) % 2 = 1 := by omega
    simp [e1, e2]
theorem nats_at {l : List Nat} {j i : Nat} (h : l[j]? = some i) : (nats l)[j]? = some (Value.int .i64 (i : Int)) := by
  unfold nats; rw [List.getElem?_map, h]; rfl
/-- in the midst of it: j indices stand in the row -/
structure Mid (w W : World) (m : Nat) (ci : Array Value) (j : Nat) (v : Value) : Prop where
  bel : Below w.heap.size w W
  res : W.heap[w.heap.size]? = some (.cells #[.slice none 0 0, .slice none 0 0] 61 (0, 0))
  ix : W.heap[w.heap.size + 1]? = some (.cells ci 79 (0, 0))
  box : W.heap[w.heap.size + 1 + 1]? = some (.cells #[.slice (some ⟨w.heap.size + 1, 0, none⟩) m m, v] 61 (0, 0))
  row : W.ownsRow (w.heap.size + 3) 3 1 v (List.range j).length (nats (List.range j))
theorem set2_same {W : World} {b T : Nat} {u0 u1 : Value} (h : W.heap[b]? = some (.cells #[u0, u1] T (0, 0))) (v1 : Value) : (W.setCell ⟨b, 1, none⟩ v1).heap[b]? = some (.cells #[u0, v1] T (0, 0)) := by
  have := heap_setCell_same W b 1 _ T v1 h
  rw [this]; rfl
theorem set22_same {W : World} {b T : Nat} {u0 u1 : Value} (h : W.heap[b]? = some (.cells #[u0, u1] T (0, 0))) (v0 v1 : Value) : ((W.setCell ⟨b, 0, none⟩ v0).setCell ⟨b, 1, none⟩ v1).heap[b]? = some (.cells #[v0, v1] T (0, 0)) := by
  have h1 := heap_setCell_same W b 0 _ T v0 h
  have h2 := heap_setCell_same _ b 1 _ T v1 h1
  rw [h2]; rfl
theorem row_form {w : World} {B n : Nat} {e : TypeId} {v : Value} {xs : List Value} (h : w.ownsRow B e 1 v n xs) : ∃ A n c, v = .slice A n c := by
  rcases h.2 with ⟨rfl, rfl⟩ | ⟨g, cap, cur, rfl, _⟩
  · exact ⟨none, 0, 0, rfl⟩
  · exact ⟨_, _, _, rfl⟩
theorem row_blk {W : World} {B n : Nat} {e : TypeId} {v : Value} {xs : List Value} (h : W.ownsRow B e 1 v n xs) {b : Nat} (hv : v.ownBlock = some b) : B ≤ b ∧ b < W.heap.size := h.lt b hv
theorem Mid.step {w W : World} {m j : Nat} {ci : Array Value} {v : Value} (h : Mid w W m ci j v) (hj : j < m) (hm : m ≤ 16) :
    W.cell? ⟨w.heap.size + 1 + 1, 1, none⟩ = some v ∧ ∃ v' w', (∃ A n c, v' = .slice A n c) ∧ Hid ((Builtin.append_ #[38, 38] 38 #[v, .slice (some ⟨W.heap.size, 0, none⟩) 1 1]).run Try.prog (W.alloc (.cells #[.int .i64 (j : Int)] 3)) = .ok v' w') ∧
      w'.cell? ⟨w.heap.size + 1 + 1, 1, none⟩ = some v ∧ w'.frozen? ⟨w.heap.size + 1 + 1, 1, none⟩ = false ∧ Hid (Mid w (w'.setCell ⟨w.heap.size + 1 + 1, 1, none⟩ v') m ci (j + 1) v') := by
  have l0 := heap_lt h.box
  obtain ⟨v', w', hr, ho, hg⟩ := push_nat W h.row (by omega) (by simp; omega) j 38
  have hne : ∀ b, b ≤ w.heap.size + 1 + 1 → w'.heap[b]? = W.heap[b]? := fun b hb => hg.block b (by omega) (fun e => by have := (row_blk h.row e.symm).1; omega)
  have hbox := (hne _ (Nat.le_refl _)).trans h.box
  have hr2 := (hne _ (by omega)).trans h.res
  have hi2 := (hne _ (by omega)).trans h.ix
  have hb2 : Below w.heap.size w w' := h.bel.grown hg (by omega) (fun k hk => by have := (row_blk h.row hk).1; omega)
  refine ⟨(box2 h.box).1.2, v', w', row_form ho, Lib.hid hr, (box2 hbox).1.2, (box2 hbox).2.2, Lib.hid ⟨hb2.setCell (show w.heap.size ≤ w.heap.size + 1 + 1 by omega) _, ?_, ?_, set2_same hbox _, ?_⟩⟩
  · rw [heap_ne (by omega)]; exact hr2
  · rw [heap_ne (by omega)]; exact hi2
  · rw [List.range_succ]
    exact World.ownsRow.kept ho ⟨rfl, rfl, rfl, by simp, fun k hk hne => heap_ne (fun e => hne (by rw [e])) _⟩ (.inr (fun e => by have := (row_blk ho e).1; omega))
theorem Mid.fin {w W : World} {m : Nat} {ci : Array Value} {v : Value} (h : Mid w W m ci m v) (h1 : 1 ≤ m) (CI : ∀ i, i < m → ci[2 * i]? = some (Value.int .i64 0) ∧ ci[2 * i + 1]? = some (Value.int .i64 0)) :
    ∃ rb c, v = .slice (some ⟨rb, 0, none⟩) m c ∧ W.cell? ⟨w.heap.size + 1 + 1, 0, none⟩ = some (.slice (some ⟨w.heap.size + 1, 0, none⟩) m m) ∧ W.cell? ⟨w.heap.size + 1 + 1, 1, none⟩ = some (.slice (some ⟨rb, 0, none⟩) m c) ∧
      (W.cell? ⟨w.heap.size, 0, none⟩ = some (.slice none 0 0) ∧ W.cell? ⟨w.heap.size, 1, none⟩ = some (.slice none 0 0)) ∧ (W.frozen? ⟨w.heap.size, 0, none⟩ = false ∧ W.frozen? ⟨w.heap.size, 1, none⟩ = false) ∧
      Hid ((((W.setCell ⟨w.heap.size, 0, none⟩ (.slice (some ⟨w.heap.size + 1, 0, none⟩) m m)).setCell ⟨w.heap.size, 1, none⟩ (.slice (some ⟨rb, 0, none⟩) m c)).cell? ⟨w.heap.size, 0, none⟩ = some (.slice (some ⟨w.heap.size + 1, 0, none⟩) m m) ∧
        ((W.setCell ⟨w.heap.size, 0, none⟩ (.slice (some ⟨w.heap.size + 1, 0, none⟩) m m)).setCell ⟨w.heap.size, 1, none⟩ (.slice (some ⟨rb, 0, none⟩) m c)).cell? ⟨w.heap.size, 1, none⟩ = some (.slice (some ⟨rb, 0, none⟩) m c)) ∧
        Fresh1 ((W.setCell ⟨w.heap.size, 0, none⟩ (.slice (some ⟨w.heap.size + 1, 0, none⟩) m m)).setCell ⟨w.heap.size, 1, none⟩ (.slice (some ⟨rb, 0, none⟩) m c)) w.heap.size m (w.heap.size + 1) rb c ∧
        Below w.heap.size w ((W.setCell ⟨w.heap.size, 0, none⟩ (.slice (some ⟨w.heap.size + 1, 0, none⟩) m m)).setCell ⟨w.heap.size, 1, none⟩ (.slice (some ⟨rb, 0, none⟩) m c))) := by
  rcases h.row.2 with ⟨_, e⟩ | ⟨rb, c, cur, rfl, hb, hg, hn, hc, hs, ht⟩
  · rw [List.length_range] at e; omega
  · have hlen : (List.range m).length = m := List.length_range
    rw [hlen] at hn ht
    have hbox := h.box
    rw [hlen] at hbox
    refine ⟨rb, c, by rw [hlen], (box2 hbox).1.1, (box2 hbox).1.2, (box2 h.res).1, (box2 h.res).2, Lib.hid ⟨(box2 (set22_same h.res _ _)).1, ⟨by omega, by omega, ⟨ci, ?_, CI⟩, ⟨cur, ?_, by rw [hs, Nat.mul_one], fun j hj => ?_⟩, hn, hc⟩, (h.bel.setCell (Nat.le_refl _) _).setCell (Nat.le_refl _) _⟩⟩
    · rw [heap_ne (by omega), heap_ne (by omega)]; exact h.ix
    · rw [heap_ne (by omega), heap_ne (by omega)]; exact hg
    · have h2 := nats_at (l := List.range m) (List.getElem?_range hj)
      rw [← ht, List.getElem?_take, if_pos (by omega)] at h2
      simpa using h2
set_option maxHeartbeats 8000000 in
set_option maxRecDepth 100000 in
theorem fresh_any (w : World) {m : Nat} (h1 : 1 ≤ m) (h2 : m ≤ 16) :
    Calls Try.prog 25 #[.int .i64 (m : Int)] w fun e w' => (∃ ib rb c, e = .returned (.agg #[.slice (some ⟨ib, 0, none⟩) m m, .slice (some ⟨rb, 0, none⟩) m c]) ∧ Fresh1 w' w.heap.size m ib rb c) ∧ Below w.heap.size w w' := by
  obtain ⟨ci, MK, CI⟩ := made_ix m h2
  have t1 : (m : Int) ≤ 16 := by omega
  have t2 : 0 ≤ (m : Int) := by omega
  have M0 : Hid (Mid w (((w.alloc (.cells #[.slice none 0 0, .slice none 0 0] 61)).alloc (.cells ci 79)).alloc (.cells #[.slice (some ⟨w.heap.size + 1, 0, none⟩) m m, .slice none 0 0] 61)) m ci 0 (.slice none 0 0)) :=
    Lib.hid ⟨bel3 w _ _ _, at3a w _ _ _, at3b w _ _ _, at3c w _ _ _, World.ownsRow_nil _ _ _ _⟩
  have CI := Lib.hid CI
  go_enter Try.func25, Try.ntmps25
  go_wp2
  clear MK
  go_loopw [9] (fun i wr => ∃ (j : Nat) (v : Value), j ≤ m ∧ i = .int .i64 j ∧ Hid (Mid w wr m ci j v)) (fun i _ => m - (intOf i).toNat)
  case atStart => exact ⟨0, _, Nat.zero_le _, rfl, M0⟩
  case round =>
    obtain ⟨j, v, hj, rfl, HM⟩ := hrel
    clear M0
    by_cases hjm : j < m
    · obtain ⟨c0, v', w', ⟨A', n', c', rfl⟩, HR, c1, f1, HM2⟩ := HM.out.step hjm h2
      have t3 : (j : Int) < (m : Int) := by omega
      clear HM CI
      go_wp2_with (at_builtin; refine wpList_append _ rfl (.tmp 13) (.tmp 15) _ _ rfl _ (.slice (some ⟨_, 0, none⟩) 1 1) rfl rfl _ _ HR.out ?_; clear c0)
      go_roundw
      case rel => exact ⟨j + 1, _, by omega, by go_num, HM2⟩
      case measure => simp [intOf]; omega
    · obtain rfl : j = m := by omega
      have t3 : ¬ (j : Int) < (j : Int) := by omega
      obtain ⟨rb, c, rfl, d0, d1, ⟨c0, c1⟩, ⟨f0, f1⟩, HF⟩ := HM.out.fin h1 CI.out
      clear HM CI
      go_wp2
      obtain ⟨⟨k0, k1⟩, hF, hB⟩ := HF.out
      exact bodyPost_ret (v := .agg #[.slice (some ⟨w.heap.size + 1, 0, none⟩) j j, .slice (some ⟨rb, 0, none⟩) j c]) (by simp [results, Try.results25, go_sem, k0, k1]) rfl ⟨⟨_, _, _, rfl, hF⟩, hB⟩
end Go.Proofs.Ytdanpdlbbgcidaa
