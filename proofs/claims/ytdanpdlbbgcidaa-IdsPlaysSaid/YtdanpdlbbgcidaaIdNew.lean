/- New: a pool of which no name is given. -/
import Derived.Test.YtdanpdlbbgcidaaIdFresh
namespace Go.Proofs.Ytdanpdlbbgcidaa
open Go.RowKit Ids
set_option linter.unusedVariables false

def shE (m : Nat) (x : Nat × Nat × Nat) : List Value := [.slice (some ⟨x.1, 0, none⟩) m m, .slice (some ⟨x.2.1, 0, none⟩) m x.2.2]
def shs (m : Nat) (ib rb cb : Nat → Nat) (j : Nat) : List Value := (List.range j).flatMap fun k => shE m (ib k, rb k, cb k)
theorem shs_len (m : Nat) (ib rb cb : Nat → Nat) : ∀ j, (shs m ib rb cb j).length = j * 2
  | 0 => rfl
  | j + 1 => by
    unfold shs
    rw [List.range_succ, List.flatMap_append, List.length_append]
    have := shs_len m ib rb cb j
    unfold shs at this
    rw [this]
    simp [shE, Nat.succ_mul]
theorem shs_succ (m : Nat) (ib rb cb : Nat → Nat) (j : Nat) : shs m ib rb cb (j + 1) = shs m ib rb cb j ++ shE m (ib j, rb j, cb j) := by
  unfold shs
  rw [List.range_succ, List.flatMap_append]
  simp
theorem shs_at (m : Nat) (ib rb cb : Nat → Nat) : ∀ (j k : Nat), k < j → (shs m ib rb cb j)[2 * k]? = some (.slice (some ⟨ib k, 0, none⟩) m m) ∧ (shs m ib rb cb j)[2 * k + 1]? = some (.slice (some ⟨rb k, 0, none⟩) m (cb k))
  | 0, k, h => by omega
  | j + 1, k, h => by
    rw [shs_succ]
    by_cases hk : k < j
    · rw [List.getElem?_append_left (by rw [shs_len]; omega), List.getElem?_append_left (by rw [shs_len]; omega)]
      exact shs_at m ib rb cb j k hk
    · obtain rfl : k = j := by omega
      rw [List.getElem?_append_right (by rw [shs_len]; omega), List.getElem?_append_right (by rw [shs_len]; omega), shs_len, show 2 * k - k * 2 = 0 by omega, show 2 * k + 1 - k * 2 = 1 by omega]
      exact ⟨rfl, rfl⟩
theorem shs_congr {m : Nat} {ib rb cb ib' rb' cb' : Nat → Nat} : ∀ j, (∀ k, k < j → ib' k = ib k ∧ rb' k = rb k ∧ cb' k = cb k) → shs m ib' rb' cb' j = shs m ib rb cb j
  | 0, _ => rfl
  | j + 1, h => by
    obtain ⟨h1, h2, h3⟩ := h j (by omega)
    rw [shs_succ, shs_succ, shs_congr j (fun k hk => h k (by omega)), h1, h2, h3]
theorem shard_info : (Try.prog.info? 61).map (fun i => (i.zero, i.size, i.bytes)) = some (some (.agg #[.slice none 0 0, .slice none 0 0]), 2, 48) := by kernel_rfl
def up (f : Nat → Nat) (j v : Nat) : Nat → Nat := fun k => if k = j then v else f k
theorem up_same (f : Nat → Nat) (j v : Nat) : up f j v j = v := if_pos rfl
theorem up_other {f : Nat → Nat} {j v k : Nat} (h : k ≠ j) : up f j v k = f k := if_neg h
/-- in the midst of it: j shards stand in the row -/
structure Build (w W : World) (m j : Nat) (v : Value) (ib rb cb : Nat → Nat) : Prop where
  bel : Below w.heap.size w W
  box : W.heap[w.heap.size]? = some (.cells #[v] 58 (0, 0))
  row : W.ownsRow (w.heap.size + 1) 61 2 v j (shs m ib rb cb j)
  fr : ∀ k, k < j → Fresh1 W (w.heap.size + 1) m (ib k) (rb k) (cb k)
  ap : ∀ k k', k < j → k' < j → k ≠ k' → ib k ≠ ib k' ∧ rb k ≠ rb k'
theorem own_blk {W : World} {B n k : Nat} {e : TypeId} {v : Value} {xs : List Value} (h : W.ownsRow B e k v n xs) {b : Nat} (hv : v.ownBlock = some b) : B ≤ b ∧ ∃ cs, W.heap[b]? = some (.cells cs e (0, 0)) := by
  rcases h.2 with ⟨rfl, _⟩ | ⟨g, cap, cur, rfl, hb, hg, rest⟩
  · cases hv
  · cases hv
    exact ⟨hb, cur, hg⟩
theorem own_form {w : World} {B n k : Nat} {e : TypeId} {v : Value} {xs : List Value} (h : w.ownsRow B e k v n xs) : ∃ A n c, v = .slice A n c := by
  rcases h.2 with ⟨rfl, rfl⟩ | ⟨g, cap, cur, rfl, _⟩
  · exact ⟨none, 0, 0, rfl⟩
  · exact ⟨_, _, _, rfl⟩
theorem Build.step {w W W1 : World} {m j : Nat} {v : Value} {ib rb cb : Nat → Nat} (h : Build w W m j v ib rb cb) (hj : j < 16) (hb : Below W.heap.size W W1) {i r c : Nat} (hf : Fresh1 W1 W.heap.size m i r c) :
    W1.cell? ⟨w.heap.size, 0, none⟩ = some v ∧ (W1.alloc (.cells #[.slice (some ⟨i, 0, none⟩) m m, .slice (some ⟨r, 0, none⟩) m c] 61)).cell? ⟨w.heap.size, 0, none⟩ = some v ∧
    ∃ v' w', (∃ A n c, v' = .slice A n c) ∧ Hid ((Builtin.append_ #[56, 56] 56 #[v, .slice (some ⟨W1.heap.size, 0, none⟩) 1 1]).run Try.prog (W1.alloc (.cells #[.slice (some ⟨i, 0, none⟩) m m, .slice (some ⟨r, 0, none⟩) m c] 61)) = .ok v' w') ∧
      w'.cell? ⟨w.heap.size, 0, none⟩ = some v ∧ w'.frozen? ⟨w.heap.size, 0, none⟩ = false ∧ Hid (Build w (w'.setCell ⟨w.heap.size, 0, none⟩ v') m (j + 1) v' (up ib j i) (up rb j r) (up cb j c)) := by
  obtain ⟨inf, hi, hz, h2, h3⟩ := info_parts shard_info
  have l0 := heap_lt h.box
  have hsz := hb.size
  have hlt := hf.lt
  have hfi := hf.iin
  have hfr := hf.rin
  have row1 : W1.ownsRow (w.heap.size + 1) 61 2 v j (shs m ib rb cb j) := World.ownsRow.kept h.row (⟨hb.os, hb.tape, hb.output, hb.size, fun k hk _ => hb.block k hk⟩ : W.grownBy W1 none) (by cases v.ownBlock <;> simp)
  have row2 := World.ownsRow.alloc row1 (.cells #[.slice (some ⟨i, 0, none⟩) m m, .slice (some ⟨r, 0, none⟩) m c] 61)
  have box1 := (hb.block _ l0).trans h.box
  have box2' := ((bel1 W1 (.cells #[.slice (some ⟨i, 0, none⟩) m m, .slice (some ⟨r, 0, none⟩) m c] 61)).block _ (heap_lt box1)).trans box1
  obtain ⟨v', w', hr, ho, hg, _⟩ := run_append_own (P := Try.prog) (W1.alloc (.cells #[.slice (some ⟨i, 0, none⟩) m m, .slice (some ⟨r, 0, none⟩) m c] 61)) (w.heap.size + 1) 56 56 61 inf _ 2 48 Try.underlying56 hi hz h2 h3 rfl (by decide) v j (shs m ib rb cb j) row2 ⟨W1.heap.size, 0, none⟩ 1 1 (shE m (i, r, c)) rfl
    (fun j u hj => by
      have hc : j < 2 := (List.getElem?_eq_some_iff.1 hj).1
      rw [Addr.add_mid, Nat.zero_add, cellAt (heap_alloc_new W1 _)]
      have : j = 0 ∨ j = 1 := by omega
      rcases this with rfl | rfl <;> simpa [shE] using hj) (fun u hu => by
      simp only [shE, List.mem_cons, List.not_mem_nil, or_false] at hu
      rcases hu with rfl | rfl <;> rfl) (by unfold maxLen; omega) (by omega) (by rw [size1]; omega)
  have hsz2 := hg.size
  rw [size1] at hsz2
  -- what stands elsewhere
  have hk : ∀ b, b < W1.heap.size → v.ownBlock ≠ some b → w'.heap[b]? = W1.heap[b]? := fun b hb' hne => (hg.block b (by rw [size1]; omega) (fun e => hne e.symm)).trans (Below.heap_alloc W1 _ b hb')
  have hown : ∀ b, v.ownBlock = some b → w.heap.size + 1 ≤ b ∧ ∃ cs, W1.heap[b]? = some (.cells cs 61 (0, 0)) := fun b hb' => own_blk row1 hb'
  have box3' := (hk _ (heap_lt box1) (fun e => by have := (hown _ e).1; omega)).trans box1
  have keepF : ∀ {B i r c : Nat}, Fresh1 W1 B m i r c → Fresh1 w' B m i r c := fun {B i r c} hf => by
    obtain ⟨a1, a2⟩ := hf.lt
    refine hf.kept (hk _ a1 fun e => ?_) (hk _ a2 fun e => ?_)
    · obtain ⟨_, cs, e2⟩ := hown _ e
      obtain ⟨cur, e3, _⟩ := hf.ix
      exact ne_type e2 e3 (by decide) rfl
    · obtain ⟨_, cs, e2⟩ := hown _ e
      obtain ⟨cur, e3, _⟩ := hf.rw
      exact ne_type e2 e3 (by decide) rfl
  have sets : ∀ (u : Value) (b : Nat), b ≠ w.heap.size → (w'.setCell ⟨w.heap.size, 0, none⟩ u).heap[b]? = w'.heap[b]? := fun u b hb' => heap_ne hb' u
  have keepS : ∀ {B i r c : Nat} (u : Value), w.heap.size < B → Fresh1 w' B m i r c → Fresh1 (w'.setCell ⟨w.heap.size, 0, none⟩ u) B m i r c := fun {B i r c} u hB hf => by
    have h1 := hf.iin
    have h2 := hf.rin
    exact hf.kept (sets u _ (by omega)) (sets u _ (by omega))
  have oldF : ∀ k, k < j → Fresh1 W1 (w.heap.size + 1) m (ib k) (rb k) (cb k) ∧ ib k < W.heap.size ∧ rb k < W.heap.size := fun k hkj => by
    have h0 := h.fr k hkj
    obtain ⟨a1, a2⟩ := h0.lt
    exact ⟨h0.kept (hb.block _ a1) (hb.block _ a2), a1, a2⟩
  refine ⟨(cell_of box1 rfl).1, (cell_of box2' rfl).1, v', w', own_form ho, Lib.hid hr, (cell_of box3' rfl).1, (cell_of box3' (o := 0) rfl).2, Lib.hid ⟨?_, ?_, ?_, fun k hkj => ?_, fun k k' hkj hkj' hne => ?_⟩⟩
  · refine Below.setCell ?_ (show w.heap.size ≤ w.heap.size from Nat.le_refl _) _
    have b1 : Below w.heap.size w W1 := h.bel.trans (hb.mono h.bel.size)
    exact (b1.alloc b1.size _).grown hg (by rw [size1]; omega) (fun k hk' => by have := (hown k hk').1; omega)
  · have := heap_set box3' v' (o := 0)
    rw [this]; rfl
  · have e : shs m (up ib j i) (up rb j r) (up cb j c) (j + 1) = shs m ib rb cb j ++ shE m (i, r, c) := by
      rw [shs_succ, up_same, up_same, up_same, shs_congr j (fun k hk => ⟨up_other (by omega), up_other (by omega), up_other (by omega)⟩)]
    rw [e]
    exact World.ownsRow.kept ho ⟨rfl, rfl, rfl, by simp, fun k hk' hne => sets _ _ (fun e => hne (by rw [e]))⟩ (.inr (fun e => by have := (own_blk ho e).1; omega))
  · by_cases hkk : k = j
    · subst hkk
      rw [up_same, up_same, up_same]
      have : Fresh1 W1 (w.heap.size + 1) m i r c := ⟨by omega, by omega, hf.ix, hf.rw, hf.cap⟩
      exact keepS v' (by omega) (keepF this)
    · rw [up_other hkk, up_other hkk, up_other hkk]
      exact keepS v' (by omega) (keepF (oldF k (by omega)).1)
  · by_cases hkk : k = j
    · subst hkk
      have := (oldF k' (by omega)).2
      rw [up_same, up_same, up_other (Ne.symm hne), up_other (Ne.symm hne)]
      omega
    · by_cases hkk' : k' = j
      · subst hkk'
        have := (oldF k (by omega)).2
        rw [up_same, up_same, up_other hkk, up_other hkk]
        omega
      · rw [up_other hkk, up_other hkk, up_other hkk', up_other hkk']
        exact h.ap k k' (by omega) (by omega) hne
/-- all shards stand in the row -/
theorem Build.fin {w W : World} {n m : Nat} {v : Value} {ib rb cb : Nat → Nat} (h : Build w W m n v ib rb cb) (n1 : 1 ≤ n) (n2 : n ≤ 16) (m1 : 1 ≤ m) (m2 : m ≤ 16) :
    ∃ q N, PA W ⟨w.heap.size, W.heap.size, w.heap.size, q, N, ib, rb, cb⟩ (new n m) := by
  have l0 := heap_lt h.box
  rcases h.row.2 with ⟨_, e⟩ | ⟨q, N, cur, rfl, hb, hg, hn, hc, hs, ht⟩
  · omega
  · have ltq := heap_lt hg
    refine ⟨q, N, Ok.new n1 n2 m1 m2, Nat.le_refl _, ⟨Nat.le_refl _, l0⟩, ⟨by show w.heap.size ≤ q; omega, ltq⟩, fun k hk => ?_, fun k hk => ?_, h.box, ⟨cur, hg, fun k hk => ?_⟩, fun k hk => ?_, fun k hk => ?_, fun k hk => ?_, h.ap⟩
    · have h0 := h.fr k hk
      exact ⟨by have := h0.iin; show w.heap.size ≤ ib k; omega, h0.lt.1⟩
    · have h0 := h.fr k hk
      exact ⟨by have := h0.rin; show w.heap.size ≤ rb k; omega, h0.lt.2⟩
    · obtain ⟨e1, e2⟩ := shs_at m ib rb cb n k hk
      have hk' : k < n := hk
      rw [← ht, List.getElem?_take, if_pos (by omega)] at e1 e2
      have hl : ((new n m).row k).length = m := List.length_range
      rw [hl]
      refine ⟨?_, ?_⟩
      · show cur[2 * k]? = some (Value.slice (some ⟨ib k, 0, none⟩) m m)
        simpa using e1
      · show cur[2 * k + 1]? = some (Value.slice (some ⟨rb k, 0, none⟩) m (cb k))
        simpa using e2
    · exact (h.fr k hk).ix
    · obtain ⟨cur', e1, e2, e3⟩ := (h.fr k hk).rw
      refine ⟨cur', e1, e2, fun j i hj => ?_⟩
      have hj' : (List.range m)[j]? = some i := hj
      have hlt := (List.getElem?_eq_some_iff.1 hj').1
      rw [List.length_range] at hlt
      rw [List.getElem?_range hlt] at hj'
      obtain rfl := Option.some.inj hj'
      exact e3 j hlt
    · exact (h.fr k hk).cap
theorem step_call {P : Program} {ops : Array Oper} {o : Oper} {a : Act} {w : World} {K : Act → World → Prop} {Q : Exit → Act → World → Prop} {E : Prop}
    (hg : o.guard = none) (f : FuncId) (x : Operand) (T : TypeId) (hop : o.op = Op.call { callee := Callee.value (Operand.func f), args := #[x], argTypes := #[T] }) (xv : Value) (hx : a.eval x = xv)
    (hen : ∀ args w, (callFunc f args).run P w = .ok (.enter f args) w) (h : Calls P f #[xv] w fun e w' => ∃ v, e = .returned v ∧ K (a.put o.dst v) w') :
    if Region.wanted o (yielded ops a.tmps) = true then Oper.wp P o a w K Q else E := by
  have hw : Region.wanted o (yielded ops a.tmps) = true := by simp [Region.wanted, hg]
  rw [if_pos hw]
  unfold Oper.wp
  have ev : a.eval (.func f) = .func (.func f) #[] #[] := rfl
  simp [execOp, hop, resolve, invoke, Deferred.ofValue, ev, hx, hen, Oper.upon]
  refine h.mono ?_
  rintro e w' ⟨v, rfl, hK⟩
  exact hK
theorem en_fresh : ∀ args w, (callFunc 25 args).run Try.prog w = .ok (.enter 25 args) w := enters_of Try.func25 (by kernel_rfl) rfl
set_option maxHeartbeats 4000000 in
theorem new_no (w : World) {n m : Int} (h : n < 1 ∨ 16 < n ∨ m < 1 ∨ 16 < m) :
    Calls Try.prog 9 #[.int .i64 n, .int .i64 m] w fun e w' => e = .returned (.tuple #[.pointer none, .int .i64 1]) ∧ w = w' := by
  by_cases a : n < 1 <;> by_cases b : 16 < n <;> by_cases c : m < 1 <;> by_cases d : 16 < m <;> first
    | (exfalso; omega)
    | (have t1 : decide (n < 1) = decide (n < 1) := rfl
       simp only [a, decide_true, decide_false] at t1
       go_enter Try.func9, Try.ntmps9
       go_wp2
       go_ret2
       exact ⟨rfl, rfl⟩)
set_option maxHeartbeats 8000000 in
set_option maxRecDepth 100000 in
theorem new_yes (w : World) {n m : Nat} (n1 : 1 ≤ n) (n2 : n ≤ 16) (m1 : 1 ≤ m) (m2 : m ≤ 16) :
    Calls Try.prog 9 #[.int .i64 (n : Int), .int .i64 (m : Int)] w fun e w' => e = .returned (.tuple #[.pointer (some ⟨w.heap.size, 0, none⟩), .int .i64 0]) ∧ (∃ q N ib rb cb, PA w' ⟨w.heap.size, w'.heap.size, w.heap.size, q, N, ib, rb, cb⟩ (new n m)) ∧ Below w.heap.size w w' := by
  have a1 : decide ((n : Int) < 1) = false := decide_eq_false (by omega)
  have a2 : decide ((16 : Int) < (n : Int)) = false := decide_eq_false (by omega)
  have a3 : decide ((m : Int) < 1) = false := decide_eq_false (by omega)
  have a4 : decide ((16 : Int) < (m : Int)) = false := decide_eq_false (by omega)
  have a5 : (n : Int) ≤ 16 := by omega
  have B0 : Hid (Build w (w.alloc (.cells #[.slice none 0 0] 58)) m 0 (.slice none 0 0) (fun _ => 0) (fun _ => 0) (fun _ => 0)) :=
    Lib.hid ⟨bel1 w _, at1 w _, World.ownsRow_nil _ _ _ _, fun k hk => by omega, fun k k' hk => by omega⟩
  go_enter Try.func9, Try.ntmps9
  go_wp2
  go_loopw [24] (fun i wr => ∃ (j : Nat) (v : Value) (ib rb cb : Nat → Nat), j ≤ n ∧ i = .int .i64 j ∧ Hid (Build w wr m j v ib rb cb)) (fun i _ => n - (intOf i).toNat)
  case atStart => exact ⟨0, _, _, _, _, Nat.zero_le _, rfl, B0⟩
  case round =>
    obtain ⟨j, v, ib, rb, cb, hj, rfl, HB⟩ := hrel
    clear B0
    by_cases hjn : j < n
    · have t3 : (j : Int) < (n : Int) := by omega
      have c0 : wr.cell? ⟨w.heap.size, 0, none⟩ = some v := (cell_of HB.out.box rfl).1
      have FR : Hid (Calls Try.prog 25 #[.int .i64 (m : Int)] wr.drew fun e w1 => ∃ i r c, e = .returned (.agg #[.slice (some ⟨i, 0, none⟩) m m, .slice (some ⟨r, 0, none⟩) m c]) ∧ 
          w1.cell? ⟨w.heap.size, 0, none⟩ = some v ∧ (w1.alloc (.cells #[.slice (some ⟨i, 0, none⟩) m m, .slice (some ⟨r, 0, none⟩) m c] 61)).cell? ⟨w.heap.size, 0, none⟩ = some v ∧
          ∃ v' w', (∃ A n c, v' = .slice A n c) ∧ Hid ((Builtin.append_ #[56, 56] 56 #[v, .slice (some ⟨w1.heap.size, 0, none⟩) 1 1]).run Try.prog (w1.alloc (.cells #[.slice (some ⟨i, 0, none⟩) m m, .slice (some ⟨r, 0, none⟩) m c] 61)) = .ok v' w') ∧
          w'.cell? ⟨w.heap.size, 0, none⟩ = some v ∧ w'.frozen? ⟨w.heap.size, 0, none⟩ = false ∧ Hid (∃ ib rb cb, Build w (w'.setCell ⟨w.heap.size, 0, none⟩ v') m (j + 1) v' ib rb cb)) := Lib.hid (by
        refine (fresh_any wr.drew m1 m2).mono ?_
        rintro e w1 ⟨⟨i, r, c, rfl, hf⟩, hb⟩
        have hb' : Below wr.heap.size wr w1 := ((Below.refl wr.heap.size wr).drew).trans hb
        obtain ⟨s1, s2, v', w', s3, s4, s5, s6, s7⟩ := HB.out.step (by omega) hb' hf
        exact ⟨i, r, c, rfl, s1, s2, v', w', s3, s4, s5, s6, Lib.hid ⟨_, _, _, s7.out⟩⟩)
      clear HB
      go_wp2
      go_region_law (first
          | (refine step_call rfl 25 (.tmp 31) 3 rfl (.int .i64 (m : Int)) (by simp [Act.eval, Act.put]) en_fresh (FR.out.mono ?_); rintro e w1 ⟨i, r, c, rfl, s1, s2, v', w', ⟨A', n', c', rfl⟩, HR, s5, s6, HB2⟩; refine ⟨_, rfl, ?_⟩)
          | (refine step_append rfl (.tmp 30) (.tmp 33) 56 56 rfl v (.slice (some ⟨w1.heap.size, 0, none⟩) 1 1) (by simp [Act.eval]) (by simp [Act.eval]) (.slice A' n' c') w' HR.out ?_))
      all_goals
        go_wp2
        go_roundw
        case rel =>
          obtain ⟨ib, rb, cb, hB⟩ := HB2.out
          exact ⟨j + 1, _, ib, rb, cb, by omega, by go_num, Lib.hid hB⟩
        case measure => simp [intOf]; omega
    · obtain rfl : j = n := by omega
      have t3 : ¬ (j : Int) < (j : Int) := by omega
      have HF : Hid (∃ q N ib rb cb, PA wr ⟨w.heap.size, wr.heap.size, w.heap.size, q, N, ib, rb, cb⟩ (new j m) ∧ Below w.heap.size w wr) := Lib.hid (by
        obtain ⟨q, N, h⟩ := HB.out.fin n1 n2 m1 m2
        exact ⟨q, N, ib, rb, cb, h, HB.out.bel⟩)
      clear HB
      go_wp2
      go_ret2
      obtain ⟨q, N, ib, rb, cb, h, hb⟩ := HF.out
      exact ⟨rfl, ⟨q, N, ib, rb, cb, h⟩, hb⟩
end Go.Proofs.Ytdanpdlbbgcidaa
