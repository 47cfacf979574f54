/- The document's pool: New. -/
import Derived.Test.YtdanpdlbbgcidaaIdRefF
namespace Go.Proofs.Ytdanpdlbbgcidaa
open Go.RowKit Ids
set_option linter.unusedVariables false

def slE (m t : Nat) : List Value := [.int .i64 ((t / m : Nat) : Int), .int .i64 ((t % m : Nat) : Int), .int .i64 0, .int .i64 0, .int .i64 (t : Int), .bool false]
def sls (m p : Nat) : List Value := (List.range p).flatMap (slE m)
theorem slE_len (m t : Nat) : (slE m t).length = 6 := rfl
theorem sls_succ (m p : Nat) : sls m (p + 1) = sls m p ++ slE m p := by
  unfold sls
  rw [List.range_succ, List.flatMap_append]
  simp
theorem sls_at (m : Nat) {p t : Nat} (ht : t < p) {c : Nat} (hc : c < 6) : (sls m p)[t * 6 + c]? = (slE m t)[c]? :=
  flat_at (slE_len m) (List.range p) t t (List.getElem?_range ht) c hc
theorem slot_info : (Try.prog.info? 67).map (fun i => (i.zero, i.size, i.bytes)) = some (some (.agg #[.int .i64 0, .int .i64 0, .int .i64 0, .int .i64 0, .int .i64 0, .bool false]), 6, 48) := by kernel_rfl
/-- in the midst of it: p slots stand in the row, t were counted -/
structure Bd (w W : World) (m p t : Nat) (v : Value) : Prop where
  bel : Below w.heap.size w W
  box : W.heap[w.heap.size]? = some (.cells #[v, .int .i64 (t : Int)] 65 (0, 0))
  row : W.ownsRow (w.heap.size + 1) 67 6 v p (sls m p)
theorem Bd.step {w W : World} {m p : Nat} {v : Value} (h : Bd w W m p p v) (hp : p < 256) :
    ∃ v' w', (∃ A n c, v' = .slice A n c) ∧ Hid ((Builtin.append_ #[63, 63] 63 #[v, .slice (some ⟨W.heap.size, 0, none⟩) 1 1]).run Try.prog (W.drew.alloc (.cells #[.int .i64 ((p / m : Nat) : Int), .int .i64 ((p % m : Nat) : Int), .int .i64 0, .int .i64 0, .int .i64 (p : Int), .bool false] 67)) = .ok v' w') ∧
      w'.cell? ⟨w.heap.size, 0, none⟩ = some v ∧ w'.frozen? ⟨w.heap.size, 0, none⟩ = false ∧
      (w'.setCell ⟨w.heap.size, 0, none⟩ v').cell? ⟨w.heap.size, 1, none⟩ = some (.int .i64 (p : Int)) ∧ (w'.setCell ⟨w.heap.size, 0, none⟩ v').frozen? ⟨w.heap.size, 1, none⟩ = false ∧
      Hid (Bd w ((w'.setCell ⟨w.heap.size, 0, none⟩ v').setCell ⟨w.heap.size, 1, none⟩ (.int .i64 ((p + 1 : Nat) : Int))) m (p + 1) (p + 1) v') := by
  obtain ⟨inf, hi, hz, h2, h3⟩ := info_parts slot_info
  have l0 := heap_lt h.box
  obtain ⟨W1, hW1⟩ : ∃ W1, W1 = W.drew := ⟨_, rfl⟩
  have e1 : W1.heap = W.heap := by rw [hW1]; rfl
  have b1 : Below w.heap.size w W1 := by rw [hW1]; exact h.bel.drew
  have row1 : W1.ownsRow (w.heap.size + 1) 67 6 v p (sls m p) := by rw [hW1]; exact h.row
  have box1 : W1.heap[w.heap.size]? = some (.cells #[v, .int .i64 (p : Int)] 65 (0, 0)) := by rw [e1]; exact h.box
  have sz : W.heap.size = W1.heap.size := by rw [e1]
  rw [← hW1, sz]
  rw [sz] at l0
  obtain ⟨o, ho'⟩ : ∃ o, o = Obj.cells #[.int .i64 ((p / m : Nat) : Int), .int .i64 ((p % m : Nat) : Int), .int .i64 0, .int .i64 0, .int .i64 (p : Int), .bool false] 67 := ⟨_, rfl⟩
  rw [← ho']
  have row2 := World.ownsRow.alloc row1 o
  obtain ⟨v', w', hr, ho, hg, _⟩ := run_append_own (P := Try.prog) (W1.alloc o) (w.heap.size + 1) 63 63 67 inf _ 6 48 Try.underlying63 hi hz h2 h3 rfl (by decide) v p (sls m p) row2 ⟨W1.heap.size, 0, none⟩ 1 1 (slE m p) rfl
    (fun j u hj => by
      have hc : j < 6 := (List.getElem?_eq_some_iff.1 hj).1
      rw [Addr.add_mid, Nat.zero_add, ho', cellAt (heap_alloc_new W1 _)]
      have : j = 0 ∨ j = 1 ∨ j = 2 ∨ j = 3 ∨ j = 4 ∨ j = 5 := by omega
      rcases this with rfl | rfl | rfl | rfl | rfl | rfl <;> simpa [slE] using hj) (fun u hu => by
      simp only [slE, List.mem_cons, List.not_mem_nil, or_false] at hu
      rcases hu with rfl | rfl | rfl | rfl | rfl | rfl <;> rfl) (by unfold maxLen; omega) (by omega) (by rw [size1]; omega)
  have hown : ∀ b, v.ownBlock = some b → w.heap.size + 1 ≤ b := fun b hb' => (own_blk row1 hb').1
  have hk : w'.heap[w.heap.size]? = W1.heap[w.heap.size]? := (hg.block _ (by rw [size1]; omega) (fun e => by have := hown _ e.symm; omega)).trans (Below.heap_alloc W1 _ _ l0)
  have box3' := hk.trans box1
  have box4' : (w'.setCell ⟨w.heap.size, 0, none⟩ v').heap[w.heap.size]? = some (.cells #[v', .int .i64 (p : Int)] 65 (0, 0)) := by
    rw [heap_set box3' v' (o := 0)]; rfl
  refine ⟨v', w', own_form ho, Lib.hid hr, (box2 box3').1.1, (box2 box3').2.1, (box2 box4').1.2, (box2 box4').2.2, Lib.hid ⟨?_, ?_, ?_⟩⟩
  · refine Below.setCell (Below.setCell ?_ (show w.heap.size ≤ w.heap.size from Nat.le_refl _) _) (show w.heap.size ≤ w.heap.size from Nat.le_refl _) _
    exact (b1.alloc b1.size _).grown hg (by rw [size1]; omega) (fun k hk' => by have := hown k hk'; omega)
  · rw [heap_set box4' _ (o := 1)]; rfl
  · rw [sls_succ]
    exact World.ownsRow.kept ho ⟨rfl, rfl, rfl, by simp, fun k hk' hne => by rw [heap_ne (fun e => hne (by rw [e])), heap_ne (fun e => hne (by rw [e]))]⟩ (.inr (fun e => by have := (own_blk ho e).1; omega))
/-- all slots stand in the row -/
theorem Bd.fin {w W : World} {n m : Nat} {v : Value} (h : Bd w W m (n * m) (n * m) v) (n1 : 1 ≤ n) (n2 : n ≤ 16) (m1 : 1 ≤ m) (m2 : m ≤ 16) :
    ∃ q : RPl, RA W q (new n m) ∧ q.d = w.heap.size ∧ w.heap.size ≤ q.b ∧ q.put ≤ 256 := by
  have hs : n * m ≤ 256 := Nat.mul_le_mul n2 m2
  have hpos : 0 < n * m := Nat.mul_pos n1 m1
  rcases h.row.2 with ⟨_, e⟩ | ⟨b, N, cur, rfl, hb, hg, hn, hc, hsz, ht⟩
  · omega
  · refine ⟨⟨w.heap.size, b, N, n * m, fun k i => k * m + i⟩, ⟨Ok.new n1 n2 m1 m2, h.box, hn, ⟨cur, hg, fun k i hk hi => ?_⟩, fun k hk => ?_, fun k hk i hi => ?_, by show n * m ≤ 1000000; omega⟩, rfl, by show w.heap.size ≤ b; omega, hs⟩
    · have hk' : k < n := hk
      have hi' : i < m := hi
      have hp := pos_lt hk' hi'
      have cell : ∀ c, c < 6 → cur[(k * m + i) * 6 + c]? = (slE m (k * m + i))[c]? := fun c hc => by
        have e1 := sls_at m hp hc
        rw [← ht, List.getElem?_take, if_pos (by omega)] at e1
        simpa using e1
      have hin : i ∈ (new n m).row k := List.mem_range.2 hi'
      have d1 := pos_div (k := k) hi'
      have d2 := pos_mod (k := k) hi'
      refine ⟨?_, ?_, ?_, ?_, ?_, ?_⟩
      · have := cell 0 (by decide); rw [Nat.add_zero] at this; refine this.trans ?_
        show some (Value.int .i64 (((k * m + i) / m : Nat) : Int)) = _
        rw [d1]
      · refine (cell 1 (by decide)).trans ?_
        show some (Value.int .i64 (((k * m + i) % m : Nat) : Int)) = _
        rw [d2]
      · exact cell 2 (by decide)
      · exact cell 3 (by decide)
      · refine (cell 4 (by decide)).trans ?_
        rw [rowNo_in hin]; rfl
      · refine (cell 5 (by decide)).trans ?_
        have : taken (new n m) k i = false := by
          rw [← Bool.not_eq_true, taken_iff]
          exact fun x => x.1 hin
        rw [this]; rfl
    · show (List.range m).Pairwise fun i j => k * m + i < k * m + j
      exact List.pairwise_lt_range.imp fun {a b} h => by omega
    · exact pos_lt (show k < n from hk) (List.mem_range.1 hi)
set_option maxHeartbeats 4000000 in
theorem rnew_no (w : World) {n m : Int} (h : n < 1 ∨ 16 < n ∨ m < 1 ∨ 16 < m) :
    Calls Try.prog 10 #[.int .i64 n, .int .i64 m] w fun e w' => e = .returned (.tuple #[.pointer none, .bool false]) ∧ w = w' := by
  by_cases a : n < 1 <;> by_cases b : 16 < n <;> by_cases c : m < 1 <;> by_cases d : 16 < m <;> first
    | (exfalso; omega)
    | (have t1 : decide (n < 1) = decide (n < 1) := rfl
       simp only [a, decide_true, decide_false] at t1
       go_enter Try.func10, Try.ntmps10
       go_wp2
       go_ret2
       exact ⟨rfl, rfl⟩)
set_option maxHeartbeats 8000000 in
set_option maxRecDepth 100000 in
theorem rnew_yes (w : World) {n m : Nat} (n1 : 1 ≤ n) (n2 : n ≤ 16) (m1 : 1 ≤ m) (m2 : m ≤ 16) :
    Calls Try.prog 10 #[.int .i64 (n : Int), .int .i64 (m : Int)] w fun e w' => e = .returned (.tuple #[.pointer (some ⟨w.heap.size, 0, none⟩), .bool true]) ∧ (∃ q : RPl, RA w' q (new n m) ∧ q.d = w.heap.size ∧ w.heap.size ≤ q.b ∧ q.put ≤ 256) ∧ Below w.heap.size w w' := by
  have a1 : decide ((n : Int) < 1) = false := decide_eq_false (by omega)
  have a2 : decide ((16 : Int) < (n : Int)) = false := decide_eq_false (by omega)
  have a3 : decide ((m : Int) < 1) = false := decide_eq_false (by omega)
  have a4 : decide ((16 : Int) < (m : Int)) = false := decide_eq_false (by omega)
  have a5 : (n : Int) ≤ 16 := by omega
  have a6 : (m : Int) ≤ 16 := by omega
  have PL : Hid (∀ k i, k < n → i < m → k * m + i < 256 ∧ (k * m + i) / m = k ∧ (k * m + i) % m = i) := Lib.hid fun k i hk hi => ⟨by have := pos_lt hk hi; have : n * m ≤ 256 := Nat.mul_le_mul n2 m2; omega, pos_div hi, pos_mod hi⟩
  have NXT : Hid (∀ k, k * m + m = (k + 1) * m + 0) := Lib.hid fun k => by rw [Nat.succ_mul]; omega
  have B0 : Hid (Bd w (w.alloc (.cells #[.slice none 0 0, .int .i64 0] 65)) m (0 * m + 0) (0 * m + 0) (.slice none 0 0)) :=
    Lib.hid (by rw [show 0 * m + 0 = 0 by omega]; exact ⟨bel1 w _, at1 w _, World.ownsRow_nil _ _ _ _⟩)
  have FIN : Hid (∀ W v, Bd w W m (n * m + 0) (n * m + 0) v → (∃ q : RPl, RA W q (new n m) ∧ q.d = w.heap.size ∧ w.heap.size ≤ q.b ∧ q.put ≤ 256) ∧ Below w.heap.size w W) := Lib.hid fun W v h => ⟨Bd.fin h n1 n2 m1 m2, h.bel⟩
  clear n2 m2
  go_enter Try.func10, Try.ntmps10
  go_wp2
  go_loopw [7] (fun kx wr => ∃ (k : Nat) (v : Value), k ≤ n ∧ kx = .int .i64 k ∧ Hid (Bd w wr m (k * m + 0) (k * m + 0) v)) (fun kx _ => n - (intOf kx).toNat)
  case atStart => exact ⟨0, _, Nat.zero_le _, rfl, B0⟩
  case round =>
    obtain ⟨k, v, hk, rfl, HB⟩ := hrel
    clear B0
    by_cases hkn : k < n
    · have t1 : (k : Int) < (n : Int) := by omega
      go_wp2
      go_loopw [8] (fun ix wr2 => ∃ (i : Nat) (v : Value), i ≤ m ∧ ix = .int .i64 i ∧ Hid (Bd w wr2 m (k * m + i) (k * m + i) v)) (fun ix _ => m - (intOf ix).toNat)
      case atStart => exact ⟨0, _, Nat.zero_le _, rfl, HB⟩
      case round =>
        obtain ⟨i, v, hi, rfl, HB2⟩ := hrel
        clear HB
        by_cases him : i < m
        · have t2 : (i : Int) < (m : Int) := by omega
          obtain ⟨h256, d1, d2⟩ := PL.out k i hkn him
          obtain ⟨c0, c1⟩ := (box2 HB2.out.box).1
          obtain ⟨v', w', ⟨A', n', c', rfl⟩, HR, s0, f0, s1, f1, HN⟩ := HB2.out.step h256
          obtain ⟨A0, n0, c0', rfl⟩ := own_form HB2.out.row
          rw [d1, d2] at HR
          have c0a : (wr.alloc (.cells #[.int .i64 (k : Int), .int .i64 (i : Int), .int .i64 0, .int .i64 0, .int .i64 ((k * m + i : Nat) : Int), .bool false] 67)).cell? ⟨w.heap.size, 0, none⟩ = some (.slice A0 n0 c0') :=
            (box2 ((Below.heap_alloc wr _ _ (heap_lt HB2.out.box)).trans HB2.out.box)).1.1
          have HN2 := HN.out
          rw [show ((k * m + i + 1 : Nat) : Int) = ((k * m + i : Nat) : Int) + 1 by omega] at HN2
          replace HN := Lib.hid (show Bd w _ m (k * m + (i + 1)) (k * m + (i + 1)) _ from HN2)
          clear HN2
          clear HB2 PL NXT FIN d1 d2
          generalize k * m + i = p at *
          go_wp2
          go_region_law (refine step_append rfl (.tmp 39) (.tmp 47) 63 63 rfl (.slice A0 n0 c0') (.slice (some ⟨wr.heap.size, 0, none⟩) 1 1) (by simp [Act.eval]) (by simp [Act.eval]) (.slice A' n' c') w' HR.out ?_)
          all_goals
            go_wp2
            go_roundw
            case rel => exact ⟨i + 1, _, by omega, by go_num, HN⟩
            case measure => simp [intOf]; omega
        · obtain rfl : i = m := by omega
          have t2 : ¬ (i : Int) < (i : Int) := by omega
          have HB3 := HB2.out
          rw [NXT.out k] at HB3
          have HB3 := Lib.hid HB3
          clear HB2 PL NXT FIN
          go_wp2
          go_roundw
          case rel => exact ⟨k + 1, _, by omega, by go_num, HB3⟩
          case measure => simp [intOf]; omega
    · obtain rfl : k = n := by omega
      have t1 : ¬ (k : Int) < (k : Int) := by omega
      have HF := Lib.hid (FIN.out _ _ HB.out)
      clear HB PL NXT FIN
      go_wp2
      go_ret2
      exact ⟨rfl, HF.out⟩
end Go.Proofs.Ytdanpdlbbgcidaa
