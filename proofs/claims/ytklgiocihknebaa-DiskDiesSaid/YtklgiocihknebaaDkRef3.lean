/- The document's put and take. -/
import Derived.Test.YtklgiocihknebaaDkRef2
import Derived.LoopTactic
import Derived.Maps.AppendAt
import Derived.Deep.AppendSrc
namespace Go.Proofs.Ytklgiocihknebaa
open Go.RowKit Go.Maps Dk
set_option linter.unusedVariables false

theorem file_info : (Try.prog.info? 70).map (fun i => (i.zero, i.size, i.bytes)) = some (some (.agg #[.string ⟨#[]⟩, .string ⟨#[]⟩, .string ⟨#[]⟩]), 3, 48) := by kernel_rfl
theorem files_und : Try.prog.underlying 26 = some (.slice 70) := by kernel_rfl
/-- a row of files that the call made -/
abbrev OwnF (W : World) (B : Nat) (v : Value) (L : List Fl) : Prop := W.ownsRow B 70 3 v L.length (rcells L)
theorem ownf_nil (W : World) (B : Nat) : OwnF W B (.slice none 0 0) [] := World.ownsRow_nil _ _ _ _
theorem ownf_below {W W' : World} {B : Nat} {v : Value} {L : List Fl} (h : OwnF W B v L) (hb : Below W.heap.size W W') : OwnF W' B v L :=
  row_kept h fun b hv => by
    obtain ⟨_, cs, h2⟩ := row_block h hv
    exact hb.block b (heap_lt h2)
theorem ownf_snoc {W : World} {B : Nat} {v : Value} {L : List Fl} {f : Fl} (h : W.ownsRow B 70 3 v (L.length + 1) (rcells L ++ fcells f)) : OwnF W B v (L ++ [f]) := by
  show W.ownsRow B _ 3 v (L ++ [f]).length (rcells (L ++ [f]))
  rw [rcells_append, rcells_one, List.length_append]
  exact h
theorem fcells_one (f : Fl) : ∀ u ∈ fcells f, u.oneCell' = true := by
  intro u hu
  simp only [fcells, List.mem_cons, List.not_mem_nil, or_false] at hu
  rcases hu with rfl | rfl | rfl <;> rfl
theorem rcells_oneCell (L : List Fl) : ∀ u ∈ rcells L, u.oneCell' = true := by
  intro u hu
  obtain ⟨f, _, hf⟩ := List.mem_flatMap.1 hu
  exact fcells_one f u hf
theorem fcells_new (W : World) (f : Fl) (T : TypeId) : ∀ j u, (fcells f)[j]? = some u → (W.alloc (.cells (fcells f).toArray T)).cell? ((⟨W.heap.size, 0, none⟩ : Addr).add j) = some u := by
  intro j u hj
  rw [show (⟨W.heap.size, 0, none⟩ : Addr).add j = ⟨W.heap.size, j, none⟩ by unfold Addr.add; split <;> simp_all, cellAt (heap_alloc_new W _)]
  simpa using hj
/-- the row's cells from a place on -/
theorem row_from {W : World} {B g n c : Nat} {e : TypeId} {xs : List Value} (h : W.ownsRow B e 3 (.slice (some ⟨g, 0, none⟩) n c) n xs) (k : Nat) (hk : k ≤ n) : ∀ j u, (xs.drop (k * 3))[j]? = some u → W.cell? ((⟨g, k * 3, none⟩ : Addr).add j) = some u := by
  intro j u hj
  have hl := h.1
  rw [List.getElem?_drop] at hj
  have hlt := (List.getElem?_eq_some_iff.1 hj).1
  rw [show (⟨g, k * 3, none⟩ : Addr).add j = ⟨g, k * 3 + j, none⟩ by unfold Addr.add; split <;> simp_all, h.cellAt _ (by omega)]
  exact hj
theorem row_to {W : World} {B g n c : Nat} {e : TypeId} {xs : List Value} (h : W.ownsRow B e 3 (.slice (some ⟨g, 0, none⟩) n c) n xs) (k : Nat) (hk : k ≤ n) : ∀ j u, (xs.take (k * 3))[j]? = some u → W.cell? ((⟨g, 0, none⟩ : Addr).add j) = some u := by
  intro j u hj
  have hl := h.1
  have hlt := (List.getElem?_eq_some_iff.1 hj).1
  rw [List.length_take] at hlt
  rw [List.getElem?_take_of_lt (by omega)] at hj
  rw [show (⟨g, 0, none⟩ : Addr).add j = ⟨g, j, none⟩ by unfold Addr.add; split <;> simp_all, h.cellAt _ (by omega)]
  exact hj

theorem add_at (g k j : Nat) : (⟨g, k, none⟩ : Addr).add j = ⟨g, k + j, none⟩ := by unfold Addr.add; split <;> simp_all
/-- more rows of one's own behind a row: nothing is read beyond the given cells -/
theorem append_rows (w : World) {B n : Nat} {v : Value} {xs : List Value} (h : w.ownsRow B 70 3 v n xs) (ad : Addr) (m c : Nat) (news : List Value) (hl : news.length = m * 3) (hnews : ∀ j u, news[j]? = some u → w.cell? (ad.add j) = some u) (h1 : ∀ u ∈ news, u.oneCell' = true)
    (hn : n + m ≤ 1000) (hB : B ≤ w.heap.size) (ty : TypeId) :
    ∃ v' w', (Builtin.append_ #[26, 26] ty #[v, .slice (some ad) m c]).run Try.prog w = .ok v' w' ∧ w'.ownsRow B 70 3 v' (n + m) (xs ++ news) ∧ w.grownBy w' v.ownBlock ∧ ∀ b, v'.ownBlock = some b → v.ownBlock = some b ∨ w.heap.size ≤ b := by
  obtain ⟨i, hi, hz, h2, h3⟩ := info_parts file_info
  obtain ⟨v', w', hr, ho, hg, _, hloc⟩ := run_append_own_at (P := Try.prog) w B 26 ty 70 i _ 3 48 files_und hi hz h2 h3 rfl (by decide) v n xs h ad m c news hl hnews h1 (by unfold maxLen; omega) (by omega) hB
  exact ⟨v', w', hr, ho, hg, fun b hb => by
    rcases hloc with e | e
    · exact .inl (e ▸ hb)
    · rw [e] at hb; injection hb with hb; exact .inr (by omega)⟩
/-- nothing behind a row -/
theorem append_nought (w : World) {B n : Nat} {v : Value} {xs : List Value} (h : w.ownsRow B 70 3 v n xs) (ty : TypeId) :
    (Builtin.append_ #[26, 26] ty #[v, .slice none 0 0]).run Try.prog w = .ok v w := by
  obtain ⟨i, hi, hz, h2, h3⟩ := info_parts file_info
  have S := Src.ofNil (P := Try.prog) (w := w) (size := i.size) files_und 0
  rcases h.2 with ⟨rfl, rfl⟩ | ⟨g, cap, cur, rfl, hbg, hg, hnc, hcm, hcs, htake⟩
  · simp [Builtin.append_, run_underlying files_und, sizeOf, typeInfo, hi, Builtin.lenOf, Builtin.firstCells]
  · have := run_append_room_src (P := Try.prog) w 26 26 ty 70 i files_und hi g 0 n cap (.slice none 0 0) 0 [] S hnc (by intro j hj; simp at hj) (by intro j hj; simp at hj)
    rw [show w.setCells g (0 + n * i.size) [] = w from rfl] at this
    exact this
theorem wpList_append {P : Program} (w : World) {ops : Array Oper} {rest : List Oper} {o : Oper} {a : Act} {Q : Exit → Act → World → Prop} (hg : o.guard = none) (s x : Operand) (t t' : TypeId) (hop : o.op = Op.call { callee := Callee.builtin Builtin.append, args := #[s, x], argTypes := #[t, t'] })
    (v xv : Value) (hs : a.eval s = v) (hx : a.eval x = xv) (v' : Value) (w' : World) (hrun : (Builtin.append_ #[t, t'] o.type #[v, xv]).run P w = .ok v' w') (hK : wpList P ops Q rest (a.put o.dst v') w') :
    wpList P ops Q (o :: rest) a w := by
  refine wpList_plain hg fun K' hK' => ?_
  unfold Oper.wp
  simp [execOp, hop, resolve, invoke, builtin, hs, hx, hrun, Result.andThen]
  exact hK' _ _ hK

/-! ### take -/
theorem RLay.refiled {W W' : World} {B d : Nat} {K : St} {v v' : Value} {q : Int} (h : RLay W B d K v q) {L : List Fl} (hok : Ok { K with L := L }) (hb : Below W.heap.size W W') (ho : OwnF W' B v' L) (hne : ∀ b, v'.ownBlock = some b → b ≠ d) :
    RLay (W'.setCell ⟨d, 0, none⟩ v') B d { K with L := L } v' q ∧ Gone isDsk B W (W'.setCell ⟨d, 0, none⟩ v') ∧ (∃ x, W'.cell? ⟨d, 0, none⟩ = some x) ∧ W'.frozen? ⟨d, 0, none⟩ = false := by
  have hB : B ≤ W.heap.size := Nat.le_trans h.base (Nat.le_of_lt h.lt)
  have box := (hb.block d h.lt).trans h.box
  refine ⟨⟨hok, h.base, heap_setCell_same W' d 0 _ _ v' box, h.room, row_kept ho fun b hv => Below.heap_setCell _ _ _ _ (hne b hv)⟩, ((Gone.refl isDsk B W).below hB hb).set box (isDsk_r _) h.base v', ⟨_, (box4 box).1.1⟩, (box4 box).2.1⟩

set_option maxHeartbeats 8000000 in
set_option maxRecDepth 100000 in
theorem rtake_any (w : World) {B d : Nat} {K : St} {v : Value} {q : Int} (h : RLay w B d K v q) {i : Nat} (hi : i < K.L.length) (hok : Ok { K with L := K.L.take i ++ K.L.drop (i + 1) }) :
    Calls Try.prog 53 #[.pointer (some ⟨d, 0, none⟩), .int .i64 (i : Int)] w fun e w' => e = .returned (.tuple #[]) ∧ (∃ v', RLay w' B d { K with L := K.L.take i ++ K.L.drop (i + 1) } v' q) ∧ Gone isDsk B w w' ∧ Ag (· = d) w w' := by
  obtain ⟨g, c, rfl, hg, hgd, hgl, _, _⟩ := h.at_ hi
  have hd := h.lt
  have hfew := h.ok.few
  obtain ⟨⟨c0, _, _, _⟩, _⟩ := box4 h.box
  have hrow := h.row
  have hcap : K.L.length ≤ c := by
    rcases hrow.2 with ⟨e, _⟩ | ⟨_, _, _, e, _, _, e2, _⟩
    · cases e
    · cases e; exact e2
  -- the first ones
  obtain ⟨v1, w1, r1, o1, g1, l1⟩ := append_rows w (World.ownsRow_nil w w.heap.size _ 3) ⟨g, 0, none⟩ i c (rcells (K.L.take i)) (by rw [rcells_len, List.length_take]; congr 1; omega) (by rw [rcells_take]; exact row_to hrow i (by omega)) (rcells_oneCell _) (by omega) (Nat.le_refl _) 26
  have b1 : Below w.heap.size w w1 := ⟨g1.os, g1.tape, g1.output, g1.size, fun k hk => g1.block k hk (by simp [Value.ownBlock])⟩
  rw [Nat.zero_add, List.nil_append] at o1
  have hrow1 := row_kept hrow (W' := w1) fun b hb => b1.block b (by obtain ⟨_, cs, h2⟩ := row_block hrow hb; exact heap_lt h2)
  obtain ⟨⟨c1, _, _, _⟩, _⟩ := box4 ((b1.block d hd).trans h.box)
  -- the last ones
  obtain ⟨ad, cp, hac, hnews⟩ : ∃ (ad : Addr) (cp : Nat), (c = i + 1 ∧ ad = ⟨g, 0, none⟩ ∧ cp = 0 ∨ c ≠ i + 1 ∧ ad = ⟨g, (i + 1) * 3, none⟩ ∧ cp = c - (i + 1)) ∧ ∀ j u, (rcells (K.L.drop (i + 1)))[j]? = some u → w1.cell? (ad.add j) = some u := by
    by_cases hc : c = i + 1
    · have hnil : rcells (K.L.drop (i + 1)) = [] := by rw [List.drop_eq_nil_of_le (by omega)]; rfl
      exact ⟨_, _, .inl ⟨hc, rfl, rfl⟩, by rw [hnil]; intro j u hj; simp at hj⟩
    · exact ⟨_, _, .inr ⟨hc, rfl, rfl⟩, by rw [rcells_drop _ _ (by omega)]; exact row_from hrow1 (i + 1) (by omega)⟩
  obtain ⟨v2, w2, r2, o2, g2, _⟩ := append_rows w1 o1 ad (K.L.length - (i + 1)) cp (rcells (K.L.drop (i + 1))) (by rw [rcells_len, List.length_drop]) hnews (rcells_oneCell _) (by omega) b1.size 26
  have b2 : Below w.heap.size w w2 := b1.grown g2 b1.size (fun k hk => (o1.lt k hk).1)
  have O : OwnF w2 w.heap.size v2 (K.L.take i ++ K.L.drop (i + 1)) := by
    show w2.ownsRow _ _ 3 v2 (K.L.take i ++ K.L.drop (i + 1)).length (rcells (K.L.take i ++ K.L.drop (i + 1)))
    rw [rcells_append, List.length_append, List.length_take, List.length_drop, Nat.min_eq_left (by omega)]
    exact o2
  have hB : B ≤ w.heap.size := Nat.le_trans h.base (Nat.le_of_lt hd)
  obtain ⟨k1, k2, ⟨x, k3⟩, k4⟩ := h.refiled hok b2 ⟨O.1, O.2.imp id fun ⟨g, cap, cur, a, b, d⟩ => ⟨g, cap, cur, a, Nat.le_trans hB b, d⟩⟩ (fun b hb => by have := (O.lt b hb).1; omega)
  obtain ⟨A2, n2, cp2, hv2⟩ : ∃ A n c, v2 = .slice A n c := by
    rcases o2.2 with ⟨e, _⟩ | ⟨g, cap, cur, e, _⟩
    · exact ⟨_, _, _, e⟩
    · exact ⟨_, _, _, e⟩
  have HL : Hid (∃ v', RLay (w2.setCell ⟨d, 0, none⟩ v2) B d { K with L := K.L.take i ++ K.L.drop (i + 1) } v' q) := Lib.hid ⟨_, k1⟩
  have HG : Hid (Gone isDsk B w (w2.setCell ⟨d, 0, none⟩ v2) ∧ Ag (· = d) w (w2.setCell ⟨d, 0, none⟩ v2)) := Lib.hid ⟨k2, fun b hb hne => (Below.heap_setCell _ _ _ _ hne).trans (b2.block b hb)⟩
  have HR1 := Lib.hid r1
  have HR2 := Lib.hid r2
  have V1 : Hid (∃ A c, v1 = .slice A i c) := Lib.hid (by rcases o1.2 with ⟨e, e'⟩ | ⟨g, cap, cur, e, _⟩; exact ⟨none, 0, by rw [e, e']⟩; exact ⟨_, _, e⟩)
  have hlen : (K.L.length : Int) ≤ 64 := by omega
  have hi' : (i : Int) < (K.L.length : Int) := by omega
  have hi1 : ((i : Int) + 1).toNat = i + 1 := by omega
  have hi2 : (i : Int) + 1 ≤ (K.L.length : Int) := by omega
  have hic : i ≤ c := by omega
  have hic2 : i + 1 ≤ K.L.length := hi
  clear h hok hrow o1 g1 l1 b1 hrow1 r1 r2 o2 g2 b2 O k1 k2 hfew hnews
  subst hv2
  obtain ⟨A1, n1, cp1, hv1⟩ : ∃ A n c, v1 = .slice A n c := by
    obtain ⟨A, c, e⟩ := V1.out
    exact ⟨A, _, c, e⟩
  subst hv1
  clear V1
  rcases hac with ⟨rfl, rfl, rfl⟩ | ⟨hc, rfl, rfl⟩
  · rw [show K.L.length - (i + 1) = 0 by omega] at HR2
    go_enter Try.func53, Try.ntmps53
    go_wp2_with (at_builtin; first
      | (refine wpList_append _ rfl (.tmp 5) (.tmp 11) _ _ rfl (.slice none 0 0) (.slice (some ⟨g, 0, none⟩) i (i + 1)) rfl rfl _ _ HR1.out ?_)
      | (refine wpList_append _ rfl (.tmp 13) (.tmp 20) _ _ rfl (.slice A1 n1 cp1) (.slice (some ⟨g, 0, none⟩) 0 0) rfl rfl _ _ HR2.out ?_))
    go_end0
    exact ⟨rfl, HL.out, HG.out⟩
  · go_enter Try.func53, Try.ntmps53
    go_wp2_with (at_builtin; first
      | (refine wpList_append _ rfl (.tmp 5) (.tmp 11) _ _ rfl (.slice none 0 0) (.slice (some ⟨g, 0, none⟩) i c) rfl rfl _ _ HR1.out ?_)
      | (refine wpList_append _ rfl (.tmp 13) (.tmp 20) _ _ rfl (.slice A1 n1 cp1) (.slice (some ⟨g, (i + 1) * 3, none⟩) (K.L.length - (i + 1)) (c - (i + 1))) rfl rfl _ _ HR2.out ?_))
    go_end0
    exact ⟨rfl, HL.out, HG.out⟩
/-- .. and a block beside it stays -/
theorem rtake_box (w : World) {B d : Nat} {K : St} {v : Value} {q : Int} (h : RLay w B d K v q) {i : Nat} (hi : i < K.L.length) (hok : Ok { K with L := K.L.take i ++ K.L.drop (i + 1) }) {b : Nat} {o : Obj} (hb : w.heap[b]? = some o) (hne : b ≠ d):
    Calls Try.prog 53 #[.pointer (some ⟨d, 0, none⟩), .int .i64 (i : Int)] w fun e w' => e = .returned (.tuple #[]) ∧ (∃ v', RLay w' B d { K with L := K.L.take i ++ K.L.drop (i + 1) } v' q) ∧ Gone isDsk B w w' ∧ w'.heap[b]? = some o :=
  (rtake_any w h hi hok).mono fun e w' ⟨h1, h2, h3, h4⟩ => ⟨h1, h2, h3, (h4 b (heap_lt hb) hne).trans hb⟩
end Go.Proofs.Ytklgiocihknebaa
