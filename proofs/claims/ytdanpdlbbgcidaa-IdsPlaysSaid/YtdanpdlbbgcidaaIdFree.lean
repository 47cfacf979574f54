/- Free: the generation is one more, and the index is the last of the row, unless it is worn. -/
import Derived.Test.YtdanpdlbbgcidaaIdIssue
import Derived.Deep.RegionLaw
import Derived.Laws.AppendOwn
namespace Go.Proofs.Ytdanpdlbbgcidaa
open Go.RowKit Ids
set_option linter.unusedVariables false

theorem step_append {P : Program} {ops : Array Oper} {o : Oper} {a : Act} {w : World} {K : Act → World → Prop} {Q : Exit → Act → World → Prop} {E : Prop}
    (hg : o.guard = none) (s x : Operand) (t t' : TypeId) (hop : o.op = Op.call { callee := Callee.builtin Builtin.append, args := #[s, x], argTypes := #[t, t'] }) (v xv : Value) (hs : a.eval s = v) (hx : a.eval x = xv) (v' : Value) (w' : World)
    (hrun : (Builtin.append_ #[t, t'] o.type #[v, xv]).run P w = .ok v' w') (hK : K (a.put o.dst v') w') :
    if Region.wanted o (yielded ops a.tmps) = true then Oper.wp P o a w K Q else E := by
  have hw : Region.wanted o (yielded ops a.tmps) = true := by simp [Region.wanted, hg]
  rw [if_pos hw]
  unfold Oper.wp
  simp [execOp, hop, resolve, invoke, builtin, hs, hx, hrun, Result.andThen]
  exact hK
theorem info3 : ∃ i, Try.prog.info? 3 = some i ∧ i.zero = some (.int .i64 0) ∧ i.size = 1 ∧ i.bytes = 8 := by
  have h : (Try.prog.info? 3).map (fun i => (i.zero, i.size, i.bytes)) = some (some (.int .i64 0), 1, 8) := by kernel_rfl
  cases hi : Try.prog.info? 3 with
  | none => rw [hi] at h; cases h
  | some i =>
    rw [hi] at h
    simp only [Option.map_some, Option.some.injEq, Prod.mk.injEq] at h
    exact ⟨i, rfl, h.1, h.2.1, h.2.2⟩
section
variable {w W : World} {p : Pl} {K : St}
/-- an index more at the row's end, in its place -/
theorem row_append (h : PA W p K) {k i : Nat} (hk : k < K.n) (hlt : (K.row k).length < K.m) (hok : Ok (setRow K k (K.row k ++ [i]))) :
    ∃ w2, (Builtin.append_ #[38, 38] 38 #[.slice (some ⟨p.rb k, 0, none⟩) (K.row k).length (p.cb k), .slice (some ⟨W.heap.size, 0, none⟩) 1 1]).run Try.prog (W.alloc (.cells #[.int .i64 (i : Int)] 3)) = .ok (.slice (some ⟨p.rb k, 0, none⟩) ((K.row k).length + 1) (p.cb k)) w2 ∧
      w2.cell? ⟨p.q, 2 * k + 1, none⟩ = some (.slice (some ⟨p.rb k, 0, none⟩) (K.row k).length (p.cb k)) ∧ w2.frozen? ⟨p.q, 2 * k + 1, none⟩ = false ∧
      Hid (PA (w2.setCell ⟨p.q, 2 * k + 1, none⟩ (.slice (some ⟨p.rb k, 0, none⟩) ((K.row k).length + 1) (p.cb k))) p (setRow K k (K.row k ++ [i])) ∧ Turn p.lo p.hi W (w2.setCell ⟨p.q, 2 * k + 1, none⟩ (.slice (some ⟨p.rb k, 0, none⟩) ((K.row k).length + 1) (p.cb k)))) := by
  obtain ⟨inf, hi, hz, h1, h2⟩ := info3
  obtain ⟨cur, g1, g2, g3⟩ := h.rows k hk
  have hroom := h.room k hk
  have r1 := h.rws hk
  have b1 := bel1 W (.cells #[.int .i64 (i : Int)] 3)
  have g1' : (W.alloc (.cells #[.int .i64 (i : Int)] 3)).heap[p.rb k]? = some (.cells cur 3 (0, 0)) := (b1.block _ (heap_lt g1)).trans g1
  have hrun := run_append_room (P := Try.prog) (W.alloc (.cells #[.int .i64 (i : Int)] 3)) 38 38 3 inf Try.underlying38 hi (p.rb k) (K.row k).length (p.cb k) cur g1' ⟨W.heap.size, 0, none⟩ 1 1 [.int .i64 (i : Int)]
    (by rw [h1]; rfl) (fun j u hj => by
      match j, hj with
      | 0, hj =>
        simp only [List.getElem?_cons_zero, Option.some.injEq] at hj
        subst hj
        exact (cell_of (at1 W (.cells #[.int .i64 (i : Int)] 3)) (o := 0) rfl).1) (fun u hu => by
      simp only [List.mem_singleton] at hu
      subst hu; rfl) (by omega) (by rw [h1]; simp; omega)
  obtain ⟨cur', hc'⟩ : ∃ cur' : Array Value, cur' = (cur.toList.take ((K.row k).length * inf.size) ++ [Value.int .i64 (i : Int)] ++ cur.toList.drop ((K.row k).length * inf.size + [Value.int .i64 (i : Int)].length)).toArray := ⟨_, rfl⟩
  rw [← hc'] at hrun
  have hq : p.q ≠ p.rb k := h.ne_qr hk
  have hcs := setRow_heap (W.alloc (.cells #[.int .i64 (i : Int)] 3)) (p.rb k) cur cur' 3 (0, 0) g1'
  have asis : ∀ b, b < W.heap.size → b ≠ p.rb k → ((W.alloc (.cells #[.int .i64 (i : Int)] 3)).setRow (p.rb k) cur').heap[b]? = W.heap[b]? := fun b hb hne => (setRow_other _ _ _ _ hne).trans (b1.block b hb)
  have hsz : W.heap.size ≤ ((W.alloc (.cells #[.int .i64 (i : Int)] 3)).setRow (p.rb k) cur').heap.size := by simp
  have hos : ((W.alloc (.cells #[.int .i64 (i : Int)] 3)).setRow (p.rb k) cur').os = W.os ∧ ((W.alloc (.cells #[.int .i64 (i : Int)] 3)).setRow (p.rb k) cur').tape = W.tape ∧ ((W.alloc (.cells #[.int .i64 (i : Int)] 3)).setRow (p.rb k) cur').output = W.output := ⟨rfl, rfl, rfl⟩
  generalize ((W.alloc (.cells #[.int .i64 (i : Int)] 3)).setRow (p.rb k) cur') = w2 at *
  have ha : Asis (p.rb k) W w2 := asis
  have hin := h.rin k hk
  have htop := h.top
  have T : Turn p.lo p.hi W w2 := ⟨⟨hos.1, hos.2.1, hos.2.2, hsz, fun b hb => asis b (by omega) (by omega)⟩, fun b hb hs => asis b hs (by omega)⟩
  refine ⟨w2, hrun, ha.cell hq r1.1, (ha.frozen hq r1.1).trans r1.2, Lib.hid ⟨?_, h.turn_q _ T⟩⟩
  have := h.rowed (l := K.row k ++ [i]) hk hok hsz hcs (by
    rw [hc', h1]; simp; omega) (fun j x hj => ?_) asis
  · simpa using this
  · rw [hc', h1, Nat.mul_one]
    have hl : (K.row k).length ≤ cur.toList.length := by simp; omega
    by_cases hjl : j < (K.row k).length
    · rw [List.getElem?_append_left hjl] at hj
      have := g3 j x hj
      simp only [List.getElem?_toArray, List.append_assoc]
      rw [List.getElem?_append_left (by simp; omega), List.getElem?_take, if_pos hjl]
      simpa using this
    · have hj1 := (List.getElem?_eq_some_iff.1 hj).1
      simp only [List.length_append, List.length_singleton] at hj1
      obtain rfl : j = (K.row k).length := by omega
      rw [List.getElem?_append_right (Nat.le_refl _)] at hj
      simp only [Nat.sub_self, List.getElem?_cons_zero, Option.some.injEq] at hj
      subst hj
      simp only [List.getElem?_toArray, List.append_assoc]
      rw [List.getElem?_append_right (by simp; omega)]
      have : (K.row k).length - (cur.toList.take (K.row k).length).length = 0 := by simp; omega
      rw [this]; rfl
set_option maxHeartbeats 4000000 in
theorem free_none {pv : Option Addr} {k i g : Int} (h : ∃ s, Gap w pv k s ∧ (Gap2 w s i ∨ g < 0 ∧ ∃ a, ∀ W, Below w.heap.size w W → Calls Try.prog 37 #[.pointer s, .int .i64 i] W fun e w' => e = .returned (.pointer (some a)) ∧ W = w')) :
    Calls Try.prog 18 #[.pointer pv, .agg #[.int .i64 k, .int .i64 i, .int .i64 g]] w fun e w' => e = .returned (.int .i64 1) ∧ Below w.heap.size w w' := by
  obtain ⟨s, h1, h2⟩ := h
  have b1 := bel1 w (.cells #[.int .i64 k, .int .i64 i, .int .i64 g] 33)
  obtain ⟨⟨c0, c1, c2⟩, _⟩ := box3 (at1 w (.cells #[.int .i64 k, .int .i64 i, .int .i64 g] 33))
  have A := Lib.hid (h1 _ b1)
  have HB := Lib.hid b1
  rcases h2 with h2 | ⟨hg, a, h2⟩
  · have S := Lib.hid (h2 _ b1)
    clear h1 h2 b1
    go_enter Try.func18, Try.ntmps18
    go_wp2_with (first | (go_at_call 36; refine A.out.mono ?_; rintro e w' ⟨rfl, rfl⟩) | (go_at_call 37; refine S.out.mono ?_; rintro e w' ⟨rfl, rfl⟩))
    go_ret
    exact ⟨rfl, HB.out⟩
  · have S := Lib.hid (h2 _ b1)
    have t1 : decide (g < 0) = true := decide_eq_true hg
    clear h1 h2 b1 hg
    go_enter Try.func18, Try.ntmps18
    go_wp2_with (first | (go_at_call 36; refine A.out.mono ?_; rintro e w' ⟨rfl, rfl⟩) | (go_at_call 37; refine S.out.mono ?_; rintro e w' ⟨rfl, rfl⟩))
    go_ret
    exact ⟨rfl, HB.out⟩
set_option maxHeartbeats 4000000 in
theorem free_any (h : PA w p K) (k i g : Int) :
    Calls Try.prog 18 #[.pointer (some ⟨p.d, 0, none⟩), .agg #[.int .i64 k, .int .i64 i, .int .i64 g]] w fun e w' => e = .returned (.int .i64 ((free K k i g).2 : Nat)) ∧ PA w' p (free K k i g).1 ∧ Turn p.lo p.hi w w' := by
  have fin : ∀ {w' : World}, Below w.heap.size w w' → PA w' p K ∧ Turn p.lo p.hi w w' := fun hb => ⟨h.below hb, Turn.of hb h.lo_le⟩
  unfold Ids.free
  by_cases h1 : In K k i
  · obtain ⟨k, i, rfl, rfl, hk, hi, _, _⟩ := in_nats h1
    by_cases hg0 : g < 0
    · rw [if_pos (.inr hg0)]
      refine (free_none ⟨_, gap_in h hk, .inr ⟨hg0, _, fun W hb => sat_in (h.below hb) hk hi⟩⟩).mono ?_
      rintro e w' ⟨rfl, hb⟩
      exact ⟨rfl, fin hb⟩
    · rw [if_neg (fun e => e.elim (fun e => e h1) hg0), Int.toNat_natCast, Int.toNat_natCast]
      have b1 := bel1 w (.cells #[.int .i64 (k : Int), .int .i64 (i : Int), .int .i64 g] 33)
      have a1 := at1 w (.cells #[.int .i64 (k : Int), .int .i64 (i : Int), .int .i64 g] 33)
      obtain ⟨⟨c0, c1, c2⟩, _⟩ := box3 a1
      have h' := h.below b1
      have A := Lib.hid (pat_in h' hk)
      have S := Lib.hid (sat_in h' hk hi)
      have L := Lib.hid (alive_any h' (k : Int) (i : Int) g)
      have t0 : decide (g < 0) = false := decide_eq_false hg0
      by_cases hal : alive K (k : Int) (i : Int) g = false
      · rw [if_pos hal]
        rw [hal] at L
        have HF : Hid (∀ W, Below (w.alloc (.cells #[.int .i64 (k : Int), .int .i64 (i : Int), .int .i64 g] 33)).heap.size (w.alloc (.cells #[.int .i64 (k : Int), .int .i64 (i : Int), .int .i64 g] 33)) W → PA W p K ∧ Turn p.lo p.hi w W) :=
          Lib.hid fun W hb => fin (b1.trans (hb.mono b1.size))
        clear h h' h1 hk hi b1 hal hg0 fin a1
        generalize 2 * k = o at *
        generalize 2 * i = o' at *
        go_enter Try.func18, Try.ntmps18
        go_wp2_with (first
          | (go_at_call 36; refine A.out.mono ?_; rintro e w' ⟨rfl, rfl⟩)
          | (go_at_call 37; refine S.out.mono ?_; rintro e w' ⟨rfl, rfl⟩)
          | (go_at_call 20; refine L.out.mono ?_; rintro e w2 ⟨rfl, hb⟩; have HR := Lib.hid (HF.out w2 hb); clear hb))
        go_ret
        exact ⟨rfl, HR.out⟩
      · rw [if_neg hal]
        rw [Bool.not_eq_false] at hal
        rw [hal] at L
        have hal' := alive_in hal
        rw [Int.toNat_natCast, Int.toNat_natCast] at hal'
        have ht := hal'.2.2
        have hok := h.ok.freed hk hi ht
        have hlt : (K.row k).length < K.m ∧ K.gen k i < MG := by
          simp only [taken, Bool.and_eq_true, Bool.not_eq_true', decide_eq_true_eq] at ht
          refine ⟨?_, ht.2⟩
          have hni : i ∉ K.row k := fun hm => by have := List.contains_iff_mem.2 hm; rw [this] at ht; simp at ht
          have hn : (K.row k ++ [i]).Nodup := by
            rw [List.nodup_append]
            exact ⟨h.ok.nodup k hk, by simp, fun a ha b hb => by
              simp only [List.mem_singleton] at hb
              rintro rfl
              exact hni (hb ▸ ha)⟩
          have := few_len K.m (K.row k ++ [i]) hn (fun a ha => by
            rcases List.mem_append.1 ha with ha | ha
            · exact h.ok.lt k hk a ha
            · simp only [List.mem_singleton] at ha
              subst ha
              exact hi)
          rw [List.length_append, List.length_singleton] at this
          exact this
        obtain ⟨hlt, hgm⟩ := hlt
        have hgi : (K.gen k i : Int) < 1048576 := by unfold MG at hgm; omega
        have hlo := h.lo_le
        have htop := h.top
        have rdy : Hid (∀ W, Below (w.alloc (.cells #[.int .i64 (k : Int), .int .i64 (i : Int), .int .i64 g] 33)).heap.size (w.alloc (.cells #[.int .i64 (k : Int), .int .i64 (i : Int), .int .i64 g] 33)) W →
            W.cell? ⟨p.ib k, 2 * i, none⟩ = some (.int .i64 (K.gen k i : Int)) ∧ W.frozen? ⟨p.ib k, 2 * i, none⟩ = false ∧
            Hid (PA (W.setCell ⟨p.ib k, 2 * i, none⟩ (.int .i64 (((K.gen k i + 1 : Nat) : Int)))) p (setGen K k i (K.gen k i + 1)) ∧ Turn p.lo p.hi w (W.setCell ⟨p.ib k, 2 * i, none⟩ (.int .i64 (((K.gen k i + 1 : Nat) : Int)))) ∧ (W.setCell ⟨p.ib k, 2 * i, none⟩ (.int .i64 (((K.gen k i + 1 : Nat) : Int)))).cell? ⟨w.heap.size, 1, none⟩ = some (.int .i64 (i : Int)))) := by
          refine Lib.hid fun W hb => ?_
          have hW := h'.below hb
          obtain ⟨e1, e2⟩ := hW.gen_at hk hi
          have hTW : Turn p.lo p.hi w W := Turn.of (b1.trans (hb.mono b1.size)) hlo
          refine ⟨e1, e2, Lib.hid ⟨hW.setGen hk hi (by omega), hTW.trans (hW.turn_i hk _), ?_⟩⟩
          rw [World.cell?_of_block (a := ⟨w.heap.size, 1, none⟩) (heap_ne (show w.heap.size ≠ p.ib k by have := h.iin k hk; omega) _)]
          exact (hb.cell (p := ⟨w.heap.size, 1, none⟩) (heap_lt a1)).trans c1
        have WN : Hid (∀ W, PA W p (setGen K k i (K.gen k i + 1)) → Calls Try.prog 40 #[.pointer (some ⟨p.ib k, 2 * i, none⟩)] W fun e w' => e = .returned (.bool (decide (MG ≤ K.gen k i + 1))) ∧ W = w') := Lib.hid fun W hW => by
          have := worn_in hW (k := k) (i := i) hk hi
          rw [show (setGen K k i (K.gen k i + 1)).gen k i = K.gen k i + 1 from up2_same _ _ _ _] at this
          exact this
        have csum : (K.gen k i : Int) + 1 = ((K.gen k i + 1 : Nat) : Int) := by omega
        unfold Ids.freed at hok ⊢
        by_cases hw : K.gen k i + 1 < MG
        · rw [if_pos hw] at hok ⊢
          have hdw : decide (MG ≤ K.gen k i + 1) = false := decide_eq_false (by omega)
          rw [hdw] at WN
          have AP : Hid (∀ W, PA W p (setGen K k i (K.gen k i + 1)) → W.cell? ⟨p.q, 2 * k + 1, none⟩ = some (.slice (some ⟨p.rb k, 0, none⟩) (K.row k).length (p.cb k)) ∧
              ∃ w2, Hid ((Builtin.append_ #[38, 38] 38 #[.slice (some ⟨p.rb k, 0, none⟩) (K.row k).length (p.cb k), .slice (some ⟨W.heap.size, 0, none⟩) 1 1]).run Try.prog (W.alloc (.cells #[.int .i64 (i : Int)] 3)) = .ok (.slice (some ⟨p.rb k, 0, none⟩) ((K.row k).length + 1) (p.cb k)) w2) ∧
              w2.cell? ⟨p.q, 2 * k + 1, none⟩ = some (.slice (some ⟨p.rb k, 0, none⟩) (K.row k).length (p.cb k)) ∧ w2.frozen? ⟨p.q, 2 * k + 1, none⟩ = false ∧
              Hid (PA (w2.setCell ⟨p.q, 2 * k + 1, none⟩ (.slice (some ⟨p.rb k, 0, none⟩) ((K.row k).length + 1) (p.cb k))) p (setRow (setGen K k i (K.gen k i + 1)) k (K.row k ++ [i])) ∧ Turn p.lo p.hi W (w2.setCell ⟨p.q, 2 * k + 1, none⟩ (.slice (some ⟨p.rb k, 0, none⟩) ((K.row k).length + 1) (p.cb k))))) := Lib.hid fun W hW => by
            obtain ⟨w2, e1, e2, e3, e4⟩ := row_append (i := i) hW hk hlt hok
            exact ⟨(hW.rws (k := k) hk).1, w2, Lib.hid e1, e2, e3, e4⟩
          clear h h' h1 hk hi b1 hal hg0 fin a1 hok hal' ht hlt hgm hlo htop hw
          generalize hKK : setRow (setGen K k i (K.gen k i + 1)) k (K.row k ++ [i]) = K' at *
          generalize setGen K k i (K.gen k i + 1) = K1 at *
          generalize hg1 : K.gen k i + 1 = g1 at *
          generalize K.gen k i = g0 at *
          generalize (K.row k).length = n at *
          clear hKK hg1
          generalize 2 * k = o at *
          generalize 2 * i = o' at *
          go_enter Try.func18, Try.ntmps18
          go_wp2_with (first
            | (go_at_call 36; refine A.out.mono ?_; rintro e w' ⟨rfl, rfl⟩)
            | (go_at_call 37; refine S.out.mono ?_; rintro e w' ⟨rfl, rfl⟩)
            | (go_at_call 20; refine L.out.mono ?_; rintro e w2 ⟨rfl, hb⟩; obtain ⟨r1, r2, HR⟩ := rdy.out w2 hb; clear hb c0 c1 c2)
            | (go_at_call 40; refine (WN.out _ HR.out.1).mono ?_; rintro e w' ⟨rfl, rfl⟩; clear r1 r2))
          obtain ⟨hP, hT, hc⟩ := HR.out
          clear HR rdy WN A S L
          generalize (w2.setCell ⟨p.ib k, o', none⟩ (.int .i64 (g1 : Int))) = w3 at *
          have bd : Below w3.heap.size w3 w3.drew := (Below.refl _ _).drew
          obtain ⟨x1, w4, HRun, y1, y2, HF⟩ := AP.out w3.drew (hP.below bd)
          have x1' : w3.cell? ⟨p.q, o + 1, none⟩ = some (.slice (some ⟨p.rb k, 0, none⟩) n (p.cb k)) := x1
          have x1a : (w3.alloc (.cells #[.int .i64 (i : Int)] 3)).cell? ⟨p.q, o + 1, none⟩ = some (.slice (some ⟨p.rb k, 0, none⟩) n (p.cb k)) := ((bel1 w3 _).cell (p := ⟨p.q, o + 1, none⟩) (World.block_lt_of_cell? w3 _ x1')).trans x1'
          have HRun' : Hid ((Builtin.append_ #[38, 38] 38 #[.slice (some ⟨p.rb k, 0, none⟩) n (p.cb k), .slice (some ⟨w3.heap.size, 0, none⟩) 1 1]).run Try.prog (w3.drew.alloc (.cells #[.int .i64 (i : Int)] 3)) = .ok (.slice (some ⟨p.rb k, 0, none⟩) (n + 1) (p.cb k)) w4) := HRun
          have HT := Lib.hid (hT.below hP.lo_le bd)
          clear HRun x1 hP hT AP bd
          go_region_law (refine step_append rfl (.tmp 40) (.tmp 43) 38 38 rfl (.slice (some ⟨p.rb k, 0, none⟩) n (p.cb k)) (.slice (some ⟨w3.heap.size, 0, none⟩) 1 1) (by simp [Act.eval]) (by simp [Act.eval]) (.slice (some ⟨p.rb k, 0, none⟩) (n + 1) (p.cb k)) w4 HRun'.out ?_)
          all_goals
            go_wp2
            go_ret
            exact ⟨rfl, HF.out.1, HT.out.trans HF.out.2⟩
        · rw [if_neg hw]
          have hdw : decide (MG ≤ K.gen k i + 1) = true := decide_eq_true (by omega)
          rw [hdw] at WN
          clear h h' h1 hk hi b1 hal hg0 fin a1 hok hal' ht hlt hgm hlo htop hw
          generalize setGen K k i (K.gen k i + 1) = K1 at *
          generalize hg1 : K.gen k i + 1 = g1 at *
          generalize K.gen k i = g0 at *
          clear hg1
          generalize 2 * k = o at *
          generalize 2 * i = o' at *
          go_enter Try.func18, Try.ntmps18
          go_wp2_with (first
            | (go_at_call 36; refine A.out.mono ?_; rintro e w' ⟨rfl, rfl⟩)
            | (go_at_call 37; refine S.out.mono ?_; rintro e w' ⟨rfl, rfl⟩)
            | (go_at_call 20; refine L.out.mono ?_; rintro e w2 ⟨rfl, hb⟩; obtain ⟨r1, r2, HR⟩ := rdy.out w2 hb; clear hb c0 c1 c2)
            | (go_at_call 40; refine (WN.out _ HR.out.1).mono ?_; rintro e w' ⟨rfl, rfl⟩; clear r1 r2))
          go_ret
          exact ⟨rfl, HR.out.1, HR.out.2.1⟩
  · rw [if_pos (.inl h1)]
    obtain ⟨s, g1, g2⟩ := miss_out h h1
    refine (free_none ⟨s, g1, .inl g2⟩).mono ?_
    rintro e w' ⟨rfl, hb⟩
    exact ⟨rfl, fin hb⟩
end
end Go.Proofs.Ytdanpdlbbgcidaa
