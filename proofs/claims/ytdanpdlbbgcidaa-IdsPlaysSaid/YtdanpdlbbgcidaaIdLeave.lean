/- A shard's row without some of its indices: what leaves is told by a function value. -/
import Derived.Test.YtdanpdlbbgcidaaIdCode
namespace Go.Proofs.Ytdanpdlbbgcidaa
open Go.RowKit Ids Go.Sort
set_option linter.unusedVariables false

theorem fins {m : Nat} : ∀ (l : List Nat), (∀ i ∈ l, i < m) → ∃ l' : List (Fin m), l'.map Fin.val = l
  | [], _ => ⟨[], rfl⟩
  | a :: r, h => by
    obtain ⟨l', hl⟩ := fins r (fun i hi => h i (List.mem_cons_of_mem _ hi))
    exact ⟨⟨a, h a List.mem_cons_self⟩ :: l', by simp [hl]⟩
section
variable {α : Type} [Inhabited α] (enc : α → Value)
theorem heap_putRow_same {w : World} {b off T : Nat} {cur : Array Value} (d : Array α) (h : w.heap[b]? = some (.cells cur T (0, 0))) : (putRow enc w b off d).heap[b]? = some (.cells (putCells enc off d cur) T (0, 0)) := by
  simp [putRow, mapBlock, Array.getElem?_modify, h, onCells]
theorem heap_putRow_other {w : World} {b c off : Nat} (d : Array α) (h : c ≠ b) : (putRow enc w b off d).heap[c]? = w.heap[c]? := by
  simp [putRow, mapBlock, Array.getElem?_modify, Ne.symm h]
theorem putCells_at (d : Array α) (c : Array Value) {j : Nat} (h : j < d.size) (h' : j < c.size) : (putCells enc 0 d c)[j]? = some (enc d[j]!) := by
  simp [putCells, Array.getElem?_mapIdx, Array.getElem?_eq_getElem h', h]
end

section
variable {w : World} {p : Pl} {K : St}
def Asis (b0 : Nat) (w W : World) : Prop := ∀ b, b < w.heap.size → b ≠ b0 → W.heap[b]? = w.heap[b]?
/-- what the library's DeleteFunc does with a shard's row -/
theorem del_any (h : PA w p K) {k : Nat} (hk : k < K.n) (g : Nat) (lb : Array Value) (eg : ∀ args w, (callFunc g args).run Try.prog w = .ok (.enter g args) w) (P : Nat → Bool)
    (hp : ∀ W, Asis (p.rb k) w W → ∀ i, i < K.m → FnGives Try.prog g lb #[.int .i64 (i : Int)] (.bool (P i)) W) :
    Calls Try.prog 51 #[.slice (some ⟨p.rb k, 0, none⟩) (K.row k).length (p.cb k), .func (.func g) #[] lb] w fun e w' =>
      e = .returned (.slice (some ⟨p.rb k, 0, none⟩) ((K.row k).filter fun i => !P i).length (p.cb k)) ∧ Below p.lo w w' ∧ w'.heap.size = w.heap.size ∧ Asis (p.rb k) w w' ∧
      ∃ cur : Array Value, w'.heap[p.rb k]? = some (.cells cur 3 (0, 0)) ∧ cur.size = p.cb k ∧ ∀ (j i : Nat), ((K.row k).filter fun i => !P i)[j]? = some i → cur[j]? = some (Value.int .i64 (i : Int)) := by
  have m1 := h.ok.m1
  obtain ⟨m, hm⟩ : ∃ m, K.m = m + 1 := ⟨K.m - 1, by omega⟩
  obtain ⟨l, hl⟩ := fins (m := m + 1) (K.row k) (fun i hi => by have := h.ok.lt k hk i hi; omega)
  obtain ⟨cur, g1, g2, g3⟩ := h.rows k hk
  have hlen : l.length = (K.row k).length := by rw [← hl]; simp
  have hcap := h.room k hk
  have hle := h.ok.len hk
  have hm2 := h.ok.m2
  have hfl : (l.filter fun x => !P x.val).map Fin.val = (K.row k).filter fun i => !P i := by
    rw [← hl, List.filter_map]; rfl
  have hfn : (l.filter fun x => !P x.val).length = ((K.row k).filter fun i => !P i).length := by rw [← hfl]; simp
  have hz : ∀ w, (zeroValue 3).run Try.prog w = .ok (Value.int .i64 ((0 : Fin (m + 1)).val : Int)) w := fun w => by simp [Try.zeroValue3 w]
  have D := Try.slices_DeleteFunc (α := Fin (m + 1)) (fun x => .int .i64 (x.val : Int)) (fun _ => rfl) (fun x => P x.val) g lb eg 0 hz (p.rb k) 0 (p.cb k) l.toArray w
    (fun W x hb => hp W (fun b hb' _ => hb.block b hb') x.val (by have := x.isLt; omega))
    (fun n os dk x hd => hp _ (fun b hb hne => by
      unfold Go.Proofs.sortWorld
      rw [Go.Sort.heap_grow_old _ _ (by rw [size_putRow]; exact hb), heap_putRow_other _ _ hne]; rfl) x.val (by have := x.isLt; omega))
    (fun j hj => by
      have hj' : j < l.length := by simpa using hj
      have e : (K.row k)[j]? = some (l[j].val) := by rw [← hl]; simp [hj']
      rw [Nat.zero_add, (h.row_at hk e).1, (h.row_at hk e).2]
      simp [hj'])
    (by simp; omega) (by simp; omega)
  simp only [List.size_toArray] at D
  rw [hlen, hfn] at D
  refine D.mono ?_
  rintro e w' ⟨rfl, q, rfl⟩
  refine ⟨rfl, ?_, by rw [size_putRow]; rfl, fun b hb hne => heap_putRow_other _ _ hne, _, heap_putRow_same _ _ (w := Go.Sort.ahead w q) g1, by simp [putCells, g2], fun j i hj => ?_⟩
  · exact ⟨rfl, rfl, rfl, by rw [size_putRow]; exact Nat.le_refl _, fun b hb => heap_putRow_other _ _ (by have := (h.rin k hk).1; omega)⟩
  · have hj1 := (List.getElem?_eq_some_iff.1 hj).1
    have hj2 : j < (l.filter fun x => !P x.val).length := by omega
    have hle2 : (l.filter fun x => !P x.val).length ≤ l.length := List.length_filter_le _ _
    rw [putCells_at _ _ _ (by simp; omega) (by omega)]
    rw [← hfl, List.getElem?_map, List.getElem?_eq_getElem hj2] at hj
    simp only [Option.map_some, Option.some.injEq] at hj
    subst hj
    simp [hj2, List.getElem?_append_left hj2]
theorem Asis.cell {b0 : Nat} {W : World} (h : Asis b0 w W) {b o : Nat} {v : Value} (hb : b ≠ b0) (hc : w.cell? ⟨b, o, none⟩ = some v) : W.cell? ⟨b, o, none⟩ = some v :=
  (World.cell?_of_block (a := ⟨b, o, none⟩) (h b (World.block_lt_of_cell? w _ hc) hb)).trans hc
theorem Asis.frozen {b0 : Nat} {W : World} (h : Asis b0 w W) {b o : Nat} {v : Value} (hb : b ≠ b0) (hc : w.cell? ⟨b, o, none⟩ = some v) : W.frozen? ⟨b, o, none⟩ = w.frozen? ⟨b, o, none⟩ :=
  World.frozen?_of_block (a := ⟨b, o, none⟩) (h b (World.block_lt_of_cell? w _ hc) hb)
set_option maxHeartbeats 4000000 in
theorem leave_any (h : PA w p K) {k : Nat} (hk : k < K.n) (g : Nat) (lb : Array Value) (eg : ∀ args w, (callFunc g args).run Try.prog w = .ok (.enter g args) w) (P : Nat → Bool)
    (hp : ∀ W, Asis (p.rb k) w W → ∀ i, i < K.m → FnGives Try.prog g lb #[.int .i64 (i : Int)] (.bool (P i)) W) :
    Calls Try.prog 47 #[.pointer (some ⟨p.q, 2 * k, none⟩), .func (.func g) #[] lb] w fun e w' => e = .returned (.tuple #[]) ∧
      PA w' p (setRow K k ((K.row k).filter fun i => !P i)) ∧ Turn p.lo p.hi w w' := by
  have D := del_any h hk g lb eg P hp
  have hok := h.ok.filtered hk (fun i => !P i)
  have r1 := (h.rws hk).1
  have F : ∀ w' : World, Below p.lo w w' ∧ w'.heap.size = w.heap.size ∧ Asis (p.rb k) w w' ∧
      (∃ cur : Array Value, w'.heap[p.rb k]? = some (.cells cur 3 (0, 0)) ∧ cur.size = p.cb k ∧ ∀ (j i : Nat), ((K.row k).filter fun i => !P i)[j]? = some i → cur[j]? = some (Value.int .i64 (i : Int))) →
      w'.cell? ⟨p.q, 2 * k + 1, none⟩ = some (.slice (some ⟨p.rb k, 0, none⟩) (K.row k).length (p.cb k)) ∧ w'.frozen? ⟨p.q, 2 * k + 1, none⟩ = false ∧
      Hid (PA (w'.setCell ⟨p.q, 2 * k + 1, none⟩ (.slice (some ⟨p.rb k, 0, none⟩) ((K.row k).filter fun i => !P i).length (p.cb k))) p (setRow K k ((K.row k).filter fun i => !P i)) ∧
        Turn p.lo p.hi w (w'.setCell ⟨p.q, 2 * k + 1, none⟩ (.slice (some ⟨p.rb k, 0, none⟩) ((K.row k).filter fun i => !P i).length (p.cb k)))) := by
    rintro w' ⟨hb, hs, ha, cur, c1, c2, c3⟩
    refine ⟨ha.cell (h.ne_qr hk) r1, (ha.frozen (h.ne_qr hk) r1).trans (h.rws hk).2, Lib.hid ⟨h.rowed hk hok (by omega) c1 c2 c3 ha, h.turn_q _ ⟨hb, fun b h1 h2 => ha b h2 ?_⟩⟩⟩
    have := (h.rin k hk).2
    omega
  have D := Lib.hid D
  have F := Lib.hid F
  clear h hok eg hp
  generalize ((K.row k).filter fun i => !P i) = l at *
  generalize setRow K k l = K' at *
  generalize (K.row k).length = n at *
  generalize l.length = n' at *
  generalize p.rb k = d at *
  generalize p.cb k = c at *
  generalize p.q = q at *
  generalize 2 * k = o at *
  go_enter Try.func47, Try.ntmps47
  go_wp2_with (go_at_call 51; refine D.out.mono ?_; rintro e w' ⟨rfl, hw'⟩; obtain ⟨c1, c2, HF⟩ := F.out w' hw'; clear hw')
  refine bodyPost_end (results_none rfl _ _ _) rfl ?_
  exact ⟨rfl, HF.out⟩

/-- the function value of give: is it this one? -/
theorem eg_give : ∀ args w, (callFunc 48 args).run Try.prog w = .ok (.enter 48 args) w := enters_of Try.func48 (by kernel_rfl) rfl
set_option maxHeartbeats 4000000 in
theorem goes_give {W : World} {b : Nat} {i : Nat} (hc : W.cell? ⟨b, 0, none⟩ = some (.int .i64 (i : Int))) (x : Nat) :
    FnGives Try.prog 48 #[.pointer (some ⟨b, 0, none⟩)] #[.int .i64 (x : Int)] (.bool (x == i)) W := by
  show Calls Try.prog 48 #[.int .i64 (x : Int), .pointer (some ⟨b, 0, none⟩)] W _
  have e : (x == i) = ((x : Int) == (i : Int)) := by
    by_cases h : x = i
    · subst h; simp
    · rw [beq_eq_false_iff_ne.2 h, beq_eq_false_iff_ne.2 (by omega)]
  rw [e]
  clear e
  generalize (x : Int) = x at *
  generalize (i : Int) = i at *
  go_enter Try.func48, Try.ntmps48
  go_wp2
  go_ret
  exact ⟨rfl, 0, rfl⟩
set_option maxHeartbeats 4000000 in
theorem give_any (h : PA w p K) {k i g : Nat} (hk : k < K.n) (hi : i < K.m) (hg : g ≤ MG) :
    Calls Try.prog 39 #[.pointer (some ⟨p.q, 2 * k, none⟩), .int .i64 (i : Int), .int .i64 (g : Int)] w fun e w' => e = .returned (.tuple #[]) ∧
      PA w' p (give K k i g) ∧ Turn p.lo p.hi w w' := by
  have S : ∀ W : World, Below w.heap.size w W → Calls Try.prog 37 #[.pointer (some ⟨p.q, 2 * k, none⟩), .int .i64 (i : Int)] W fun e w' => e = .returned (.pointer (some ⟨p.ib k, 2 * i, none⟩)) ∧ W = w' := fun W hb => sat_in (h.below hb) hk hi
  have G : ∀ W : World, Below w.heap.size w W → (∃ g0 : Int, W.cell? ⟨p.ib k, 2 * i, none⟩ = some (.int .i64 g0)) ∧ W.frozen? ⟨p.ib k, 2 * i, none⟩ = false := fun W hb => ⟨⟨_, ((h.below hb).gen_at hk hi).1⟩, ((h.below hb).gen_at hk hi).2⟩
  have top := h.top
  have lt := h.iin k hk
  have ltr := h.rin k hk
  have L : ∀ W : World, Below w.heap.size w W → W.cell? ⟨w.heap.size, 0, none⟩ = some (.int .i64 (i : Int)) →
      Calls Try.prog 47 #[.pointer (some ⟨p.q, 2 * k, none⟩), .func (.func 48) #[] #[.pointer (some ⟨w.heap.size, 0, none⟩)]] (W.setCell ⟨p.ib k, 2 * i, none⟩ (.int .i64 (g : Int))) fun e w' => e = .returned (.tuple #[]) ∧ PA w' p (give K k i g) ∧ Turn p.lo p.hi w w' := by
    intro W hb hc
    have h' := (h.below hb).setGen hk hi hg
    have hc' : (W.setCell ⟨p.ib k, 2 * i, none⟩ (.int .i64 (g : Int))).cell? ⟨w.heap.size, 0, none⟩ = some (.int .i64 (i : Int)) :=
      (World.cell?_of_block (a := ⟨w.heap.size, 0, none⟩) (heap_ne (show w.heap.size ≠ p.ib k by omega) _)).trans hc
    refine (leave_any h' hk _ _ eg_give (fun x => x == i) (fun W' ha x hx => goes_give (ha.cell (show w.heap.size ≠ p.rb k by omega) hc') x)).mono ?_
    rintro e w' ⟨rfl, h1, h2⟩
    exact ⟨rfl, h1, (((Turn.of hb h.lo_le).trans ((h.below hb).turn_i hk _)).trans h2)⟩
  have b1 := Lib.hid (bel1 w (.cells #[.int .i64 (i : Int)] 3))
  have c1 : (w.alloc (.cells #[.int .i64 (i : Int)] 3)).cell? ⟨w.heap.size, 0, none⟩ = some (.int .i64 (i : Int)) := (cell_of (at1 w (.cells #[.int .i64 (i : Int)] 3)) (o := 0) rfl).1
  obtain ⟨⟨g0, q1⟩, q2⟩ := G _ b1.out
  have S := Lib.hid (S _ b1.out)
  have L := Lib.hid (L _ b1.out c1)
  clear h G top lt ltr b1
  generalize give K k i g = K' at *
  generalize p.ib k = d at *
  generalize p.q = q at *
  generalize 2 * k = o at *
  generalize 2 * i = o' at *
  go_enter Try.func39, Try.ntmps39
  go_wp2_with (first | (go_at_call 37; refine S.out.mono ?_; rintro e w' ⟨rfl, rfl⟩) | (go_at_call 47; refine L.out.mono ?_; rintro e w' ⟨rfl, hL⟩; have hL := Lib.hid hL))
  refine bodyPost_end (results_none rfl _ _ _) rfl ?_
  exact ⟨rfl, hL.out⟩
end
end Go.Proofs.Ytdanpdlbbgcidaa
