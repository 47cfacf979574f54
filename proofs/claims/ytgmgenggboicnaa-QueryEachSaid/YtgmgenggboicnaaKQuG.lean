/- QuEa, QuEb, in one text. -/
import Derived.Test.YtgmgenggboicnaaKQuC
import Derived.Test.YtgmgenggboicnaaKSeq
import Derived.BigQuiet
namespace Go.Proofs.Ytgmgenggboicnaa
open Go.RowKit Go.Shelf Pz Ar Qu
set_option linter.unusedVariables false
set_option linter.unusedSimpArgs false
attribute [local go_sem] Oper.semAt_some

/-- the blocks that a loop's body writes: these, and the rows that lie in them -/
def Mine (R : List Nat) (A : World) (b : Nat) : Prop := b ∈ R ∨ ∃ r ∈ R, ∃ (cs : Array Value) (T : TypeId) (v : Value), A.heap[r]? = some (.cells cs T (0, 0)) ∧ v ∈ cs ∧ (v.ownBlock = some b ∨ v = .map (some b))
/-- what else holds cells stays -/
def KpM (R : List Nat) (A B : World) : Prop := A.heap.size ≤ B.heap.size ∧ (∀ (b : Nat) (o : Obj), A.heap[b]? = some o → o.isCells = true → ¬ Mine R A b → B.heap[b]? = some o) ∧ ∀ b, Mine R B b → Mine R A b ∨ A.heap.size ≤ b
section
variable {R : List Nat} {A B C W V w : World} {l : List Bn} {v : Value} {k : Nat}
theorem Mine.below (hr : ∀ r ∈ R, r < A.heap.size) (hb : Below A.heap.size A B) {b : Nat} (h : Mine R B b) : Mine R A b := by
  rcases h with h | ⟨r, h0, cs, T, v, h1, h2, h3⟩
  · exact .inl h
  · exact .inr ⟨r, h0, cs, T, v, (hb.block r (hr r h0)).symm.trans h1, h2, h3⟩
theorem KpM.trans (h1 : KpM R A B) (h2 : KpM R B C) : KpM R A C :=
  ⟨Nat.le_trans h1.1 h2.1, fun b o ho hc hn => h2.2.1 b o (h1.2.1 b o ho hc hn) hc fun hm => (h1.2.2 b hm).elim hn fun h => by have := Bx.lt ho; omega,
    fun b hb => (h2.2.2 b hb).elim (fun h => h1.2.2 b h) fun h => .inr (Nat.le_trans h1.1 h)⟩
theorem KpM.of_below (hr : ∀ r ∈ R, r < A.heap.size) (hb : Below A.heap.size A B) : KpM R A B :=
  ⟨hb.size, fun b o ho _ _ => (hb.block b (Bx.lt ho)).trans ho, fun b h => .inl (h.below hr hb)⟩
theorem KpM.put {x o : Obj} (hx : A.heap[k]? = some x) (hc : x.isCells = false) (hr : k ∉ R) : KpM R A (A.putObj k o) :=
  ⟨by rw [Rg.put_below]; exact Nat.le_refl _, fun b o' ho hc' _ => (World.putObj_heap_other (fun e => by subst e; rw [hx] at ho; cases ho; rw [hc] at hc'; cases hc')).trans ho,
    fun b h => by
      rcases h with h | ⟨r, h0, cs, T, v, h1, h2, h3⟩
      · exact .inl (.inl h)
      · rw [World.putObj_heap_other (fun e => hr (by subst e; exact h0))] at h1
        exact .inl (.inr ⟨r, h0, cs, T, v, h1, h2, h3⟩)⟩
/-- a row that a loop's body leaves as it is -/
structure RowM (R : List Nat) (k : Nat) (v : Value) (l : List Bn) (A : World) : Prop where
  own : OwnB A k v l
  safe : ∀ g, v.ownBlock = some g → ¬ Mine R A g
  lt : ∀ r ∈ R, r < A.heap.size
theorem RowM.below (h : RowM R k v l A) (hb : Below A.heap.size A B) : RowM R k v l B :=
  ⟨h.own.below hb, fun g hg hm => h.safe g hg (hm.below h.lt hb), fun r hr => Nat.lt_of_lt_of_le (h.lt r hr) hb.size⟩
theorem RowM.kept (h : RowM R k v l A) (hk : KpM R A B) : RowM R k v l B :=
  ⟨h.own.kept fun b hb => by
    obtain ⟨_, cur, hc⟩ := h.own.blk hb
    exact (hk.2.1 b _ hc rfl (h.safe b hb)).trans hc.symm,
   fun g hg hm => by
    obtain ⟨_, cur, hc⟩ := h.own.blk hg
    rcases hk.2.2 g hm with h1 | h1
    · exact h.safe g hg h1
    · have := Bx.lt hc; omega,
   fun r hr => Nat.lt_of_lt_of_le (h.lt r hr) hk.1⟩
end
set_option maxHeartbeats 16000000 in
set_option maxRecDepth 100000 in
theorem each_seq {w : World} {Pv : Value} {full : List Bn} {Pb Qb : Nat} {R : List Nat} {q0 q1 : Int} (S : ∀ V, Below w.heap.size w V → Src Pv full V) (hP : w.heap[Pb]? = some (.cells #[Pv] PST (0, 0)))
    (hQ : w.heap[Qb]? = some (.cells #[.int .i64 q0, .int .i64 q1] QTY (0, 0))) (hR : ∀ b, Mine R w b → b < w.heap.size) (n : Nat) (hn : 1 ≤ n) :
    Rg.Gives Fence.wide n Try.prog 72 #[.pointer (some ⟨Pb, 0, none⟩), .pointer (some ⟨Qb, 0, none⟩)] encB (KpM R) (told q0 q1 yes full) w := by
  intro l J Jx W hW hJb hY h0
  have SW := S W hW
  have FT := Lib.hid (find_told SW (any_hold W.heap.size W) q0 q1)
  have hlen : ((told q0 q1 yes full).length : Int) ≤ 100000 := by have := told_le q0 q1 yes full; have := SW.few; omega
  have hPv : Pv = .pointer none ∨ ∃ p, Pv = .pointer (some ⟨p, 0, none⟩) := SW.p
  obtain ⟨L, hL⟩ : ∃ L, L = told q0 q1 yes full := ⟨_, rfl⟩
  have hr0 : ∀ r ∈ R, r < w.heap.size := fun r hr => hR r (.inl hr)
  have ROW0 : Hid (∀ v V, OwnB V W.heap.size v L → Below W.heap.size W V → RowM R W.heap.size v L V) := Lib.hid fun v V hv hV =>
    ⟨hv, fun g hg hm => by
      have h1 := hR g (hm.below hr0 (hW.trans (hV.mono hW.size)))
      have h2 := (hv.blk hg).1
      have := hW.size
      omega, fun r hr => Nat.lt_of_lt_of_le (hr0 r hr) (Nat.le_trans hW.size hV.size)⟩
  rw [← hL] at FT hlen hY
  have HY : Hid (∀ v j x A, L[j]? = some x → J (L.take j) A → RowM R W.heap.size v L A → ∃ fn tmps assign body, (Instr.yield l #[x.val]).run Try.prog A = .ok (.round l fn tmps assign body) A ∧ RoundIn Fence.wide (n - 1) Try.prog l fn tmps assign body A fun e V => ∃ bv, e = .returned (.bool bv) ∧ Hid ((bv = true → J (L.take (j + 1)) V ∧ RowM R W.heap.size v L V) ∧ (bv = false → ∃ pre, Jx pre V))) := Lib.hid fun v j x A hx hJ hr => by
    have e1 : L.take j ++ [x] = L.take (j + 1) := by rw [List.take_add_one, hx]; rfl
    obtain ⟨fn, tmps, assign, body, hy, hR⟩ := hY _ x A hJ (by rw [e1]; exact List.take_prefix _ _)
    refine ⟨fn, tmps, assign, body, hy, hR.mono ?_⟩
    rintro e V (⟨rfl, hJ', hk⟩ | ⟨rfl, hJx⟩)
    · exact ⟨true, rfl, Lib.hid ⟨fun _ => ⟨by rw [← e1]; exact hJ', hr.kept hk⟩, fun h => (by cases h)⟩⟩
    · exact ⟨false, rfl, Lib.hid ⟨fun h => (by cases h), fun _ => ⟨_, hJx⟩⟩⟩
  have JB := Lib.hid hJb
  have c0 := (Bx.b1 ((hW.block Pb (Bx.lt hP)).trans hP)).1
  obtain ⟨c1, c2⟩ := (Bx.b2 ((hW.block Qb (Bx.lt hQ)).trans hQ)).1
  have J0 : Hid (J (L.take 0) W) := Lib.hid (by rw [List.take_zero]; exact h0)
  have HE : Hid (L = told q0 q1 yes full) := Lib.hid hL
  clear hJb hY h0 hP hQ hR S SW hr0 hL hW
  have EQN := eql_yield l
  refine callsIn_of_wp Try.func72 rfl trivial ?_ rfl
  simp only [Try.ntmps72, List.size_toArray, List.length_cons, List.length_nil, Nat.reduceAdd, Nat.reduceSub, Array.replicate_succ, Array.replicate_zero, List.push_toArray, List.append_toArray, List.nil_append, List.cons_append]
  gi_wp2_with (refine ⟨trivial, ?_⟩; gi_at_call 60; refine (callsIn_wide.2 FT.out).mono ?_; rintro e w2 ⟨A, c, rfl, o2, b2⟩; have R2 := Lib.hid (ROW0.out _ _ o2 b2); have J2 := Lib.hid (JB.out _ _ _ J0.out b2); clear FT ROW0 J0 o2 b2 c0 c1 c2)
  gi_loopw [12] (fun i wr => ∃ j : Nat, j ≤ L.length ∧ i = .int .i64 j ∧ Hid (J (L.take j) wr) ∧ Hid (RowM R W.heap.size (.slice A L.length c) L wr)) (fun i _ => L.length - (intOf i).toNat)
  case atStart => exact ⟨0, Nat.zero_le _, rfl, J2, R2⟩
  case round =>
    obtain ⟨j, hj, rfl, HJ, HR⟩ := hrel
    clear J2 R2
    by_cases hjl : j < L.length
    · have t2 : (j : Int) < (L.length : Int) := by omega
      obtain ⟨x, hx⟩ : ∃ x, L[j]? = some x := ⟨_, List.getElem?_eq_getElem hjl⟩
      obtain ⟨g, o, rfl, _, hc, _⟩ := own_at HR.out.own hx
      obtain ⟨y0, y1, y2, y3, y4, y5, y6, y7, y8, y9, y10⟩ := hc
      have B1 := bel1 wr (bobj x)
      have T1 := at1 wr (bobj x)
      obtain ⟨fn, tmps, assign, body, hy, hRd⟩ := HY.out _ j x (wr.alloc (bobj x)) hx (JB.out _ _ _ HJ.out B1) (HR.out.below B1)
      obtain ⟨xs, xi, xg, xm, xx, xy, xvx, xvy, xh, xp, xl⟩ := x
      simp only [bobj, Bn.val] at *
      obtain ⟨⟨k0, k1, k2, k3, k4, k5, k6, k7, k8, k9, k10⟩, _⟩ := Bx.b11 T1
      clear HJ HR B1 T1 hx
      gi_wp2_with (refine hRd.mono ?_; rintro e w3 ⟨bv, rfl, HX⟩)
      · rename_i hbv
        have e : bv = false := by simpa using hbv
        refine bodyPost_ret (results_none rfl _ _ _) rfl ?_
        exact ⟨⟨_, rfl⟩, .inr (HX.out.2 e)⟩
      · rename_i hbv
        have e : bv = true := by simpa using hbv
        refine ⟨⟨j + 1, by omega, by simp, Lib.hid (HX.out.1 e).1, Lib.hid (HX.out.1 e).2⟩, ?_⟩
        simp [intOf]; omega
    · obtain rfl : j = L.length := by omega
      have t2 : ¬ (L.length : Int) < (L.length : Int) := by omega
      have HJ2 : Hid (J L wr) := Lib.hid (by have := HJ.out; rwa [List.take_length] at this)
      clear HJ HR HY
      gi_wp2
      refine bodyPost_end (results_none rfl _ _ _) rfl ?_
      exact ⟨⟨_, rfl⟩, .inl (by rw [← HE.out]; exact HJ2.out)⟩
set_option maxHeartbeats 4000000 in
set_option maxRecDepth 100000 in
theorem each_call (w : World) {Pv : Value} (hP : Pv = .pointer none ∨ ∃ p, Pv = .pointer (some ⟨p, 0, none⟩)) (q0 q1 : Int) : Calls Try.prog 45 #[Pv, qV q0 q1] w fun e w' => ∃ Pb Qb, e = .returned (.func (.func 72) #[] #[.pointer (some ⟨Pb, 0, none⟩), .pointer (some ⟨Qb, 0, none⟩)]) ∧ w'.heap[Pb]? = some (.cells #[Pv] PST (0, 0)) ∧ w'.heap[Qb]? = some (.cells #[.int .i64 q0, .int .i64 q1] QTY (0, 0)) ∧ Below w.heap.size w w' := by
  have T0 := at2a w (.cells #[Pv] PST) (.cells #[.int .i64 q0, .int .i64 q1] QTY)
  have T1 := at2b w (.cells #[Pv] PST) (.cells #[.int .i64 q0, .int .i64 q1] QTY)
  have BE := Lib.hid (bel2 w (.cells #[Pv] PST) (.cells #[.int .i64 q0, .int .i64 q1] QTY))
  rcases hP with rfl | ⟨p, rfl⟩
  · go_enter Try.func45, Try.ntmps45
    go_wp2
    go_ret
    exact ⟨_, _, rfl, T0, T1, BE.out⟩
  · go_enter Try.func45, Try.ntmps45
    go_wp2
    go_ret
    exact ⟨_, _, rfl, T0, T1, BE.out⟩
end Go.Proofs.Ytgmgenggboicnaa
namespace Go.Proofs.Ytgmgenggboicnaa
open Go.RowKit Go.Shelf Pz Ar Qu
set_option linter.unusedVariables false
set_option linter.unusedSimpArgs false
attribute [local go_sem] Oper.semAt_some

theorem eql_each (k b c : Nat) (V : World) : (binOp .eql 79 (.func (.func k) #[] #[.pointer (some ⟨b, 0, none⟩), .pointer (some ⟨c, 0, none⟩)]) .nilFunc).run Try.prog V = .ok (.bool false) V := by kernel_rfl
/-- an element more: what else holds cells stays -/
theorem AccI.stepM {w W : World} {lb : Nat} {K : List (Nat × Value × TypeId)} {l : List Bn} (h : AccI w lb K l W) (x : Bn) (hl : l.length < 100000) {R : List Nat} (hlR : lb ∈ R) (hRT : ∀ r ∈ R, r ≠ lb → ∃ cs T, W.heap[r]? = some (.cells cs T (0, 0)) ∧ T ≠ BTY) :
    ∃ A c, W.cell? ⟨lb, 0, none⟩ = some (.slice A l.length c) ∧ ∃ A' n' c' V, (Builtin.append_ #[LTY, LTY] LTY #[.slice A l.length c, .slice (some ⟨W.heap.size, 0, none⟩) 1 1]).run Try.prog (W.alloc (bobj x)) = .ok (.slice A' n' c') V ∧
      V.cell? ⟨lb, 0, none⟩ = some (.slice A l.length c) ∧ V.frozen? ⟨lb, 0, none⟩ = false ∧
      Hid (AccI w lb K (l ++ [x]) (V.setCell ⟨lb, 0, none⟩ (.slice A' n' c')) ∧ KpM R W (V.setCell ⟨lb, 0, none⟩ (.slice A' n' c')) ∧ (∀ (k : Nat) (o : Obj), W.heap[k]? = some o → o.isCells = false → (V.setCell ⟨lb, 0, none⟩ (.slice A' n' c')).heap[k]? = W.heap[k]?) ∧ Below w.heap.size w (V.setCell ⟨lb, 0, none⟩ (.slice A' n' c')) ∧ (∀ k : Nat, k < W.heap.size → k ≠ lb → (∀ g, (Value.slice A l.length c).ownBlock = some g → k ≠ g) → (V.setCell ⟨lb, 0, none⟩ (.slice A' n' c')).heap[k]? = W.heap[k]?) ∧ W.heap[lb]? = some (.cells #[.slice A l.length c] LTY (0, 0)) ∧ (V.setCell ⟨lb, 0, none⟩ (.slice A' n' c')).heap[lb]? = some (.cells #[.slice A' n' c'] LTY (0, 0)) ∧ (∀ g, (Value.slice A' n' c').ownBlock = some g → (Value.slice A l.length c).ownBlock = some g ∨ W.heap.size ≤ g)) := by
  obtain ⟨v, e1, e2⟩ := h.bl
  obtain ⟨A, c, rfl⟩ := e2.form
  have hs := h.bel.size
  obtain ⟨v', V, hr, ho, hg, hrow, hf⟩ := app_x (enc := bnE) (T := BTY) (s := 11) (t := LTY) Try.underlying42 bundle_info rfl (by decide) bnE_len bnE_one e2 hs x (by omega) (by decide) LTY
  obtain ⟨A', c', rfl⟩ := ho.form
  have blk : ∀ g, (Value.slice A l.length c).ownBlock = some g → ∃ cur, W.heap[g]? = some (.cells cur BTY (0, 0)) := fun g e => (e2.blk e).2
  have kc : ∀ {k T : Nat} {cs : Array Value}, W.heap[k]? = some (.cells cs T (0, 0)) → BTY ≠ T → V.heap[k]? = some (.cells cs T (0, 0)) := fun {k T cs} hk hT => (hg.block k (Bx.lt hk) (fun e => by
    obtain ⟨cur, hc⟩ := blk k e.symm
    exact Bx.ne_type hc hk hT rfl)).trans hk
  have l1 := kc e1 (by decide)
  have hbV : Below w.heap.size w V := below_row h.bel hg hs hf
  have hne1 : ∀ k, k ≠ lb → (V.setCell ⟨lb, 0, none⟩ (.slice A' (l ++ [x]).length c')).heap[k]? = V.heap[k]? := fun k hk => Bx.ne hk _
  have hbF : Below w.heap.size w (V.setCell ⟨lb, 0, none⟩ (.slice A' (l ++ [x]).length c')) := hbV.setCell (p := ⟨lb, 0, none⟩) h.lo _
  have hl1 : (V.setCell ⟨lb, 0, none⟩ (.slice A' (l ++ [x]).length c')).heap[lb]? = some (.cells #[.slice A' (l ++ [x]).length c'] LTY (0, 0)) := Bx.set l1 _
  refine ⟨A, c, (Bx.b1 e1).1, A', _, c', V, hr, (Bx.b1 l1).1, (Bx.b1 l1).2, Lib.hid ⟨⟨hbF, h.lo, ⟨_, hl1, ?_⟩, ?_⟩, ⟨?_, ?_, ?_⟩, ?_, hbF, fun k hk hne hg2 => by rw [hne1 k hne]; exact hg.block k hk (fun e => hg2 k e.symm rfl), e1, hl1, hrow⟩⟩
  · exact ho.kept fun b hb => hne1 b (fun e => by
      obtain ⟨_, cur, hc⟩ := ho.blk hb
      exact Bx.ne_type hc l1 (by decide) e)
  · intro y hy
    obtain ⟨a, b, d⟩ := h.held y hy
    exact ⟨(hne1 _ d).trans (kc a (fun e => b e.symm)), b, d⟩
  · have : (V.setCell ⟨lb, 0, none⟩ (.slice A' (l ++ [x]).length c')).heap.size = V.heap.size := by simp [World.setCell]
    rw [this]; exact hg.size
  · intro b o ho' hc hn
    have hb1 : b ≠ lb := fun e => hn (.inl (by rw [e]; exact hlR))
    rw [hne1 b hb1]
    exact (hg.block b (Bx.lt ho') (fun e => hn (.inr ⟨lb, hlR, _, _, _, e1, by simp, .inl e.symm⟩))).trans ho'
  · rintro b (h1 | ⟨r, hr', cs, T, u, h1, h2, h3⟩)
    · exact .inl (.inl h1)
    · by_cases hrl : r = lb
      · subst hrl
        rw [hl1] at h1
        injection h1 with h1
        injection h1 with h1
        subst h1
        rw [Array.mem_singleton] at h2
        subst h2
        rcases h3 with h3 | h3
        · rcases hrow b h3 with h4 | h4
          · exact .inl (.inr ⟨r, hlR, _, _, _, e1, by simp, .inl h4⟩)
          · exact .inr h4
        · cases h3
      · obtain ⟨cs', T', h5, h6⟩ := hRT r hr' hrl
        rw [hne1 r hrl, kc h5 (fun e => h6 e.symm)] at h1
        injection h1 with h1
        injection h1 with h7 h8
        subst h7
        exact .inl (.inr ⟨r, hr', _, _, _, h5, h2, h3⟩)
  · intro k o hk hc
    rw [hne1 k (fun e => by subst e; rw [e1] at hk; cases hk; cases hc)]
    exact hg.block k (Bx.lt hk) (fun e => by
      obtain ⟨cur, hcur⟩ := blk k e.symm
      rw [hk] at hcur
      cases hcur
      cases hc)
abbrev actE (w : World) (Pv : Value) (q0 q1 : Int) (most Pb Qb : Nat) (x : Bn) (b : Nat) : Act := { tmps := #[Pv, qV q0 q1, .int .i64 (most : Int), undef, .pointer (some ⟨w.heap.size, 0, none⟩), .pointer (some ⟨w.heap.size + 1, 0, none⟩), .slice none 0 0, .pointer (some ⟨w.heap.size + 2, 0, none⟩), .func (.func 72) #[] #[.pointer (some ⟨Pb, 0, none⟩), .pointer (some ⟨Qb, 0, none⟩)], .pointer (some ⟨b, 0, none⟩), Pv, qV q0 q1, .func (.func 72) #[] #[.pointer (some ⟨Pb, 0, none⟩), .pointer (some ⟨Qb, 0, none⟩)], .func (.func 72) #[] #[.pointer (some ⟨Pb, 0, none⟩), .pointer (some ⟨Qb, 0, none⟩)], .bool false, .func (.func 72) #[] #[.pointer (some ⟨Pb, 0, none⟩), .pointer (some ⟨Qb, 0, none⟩)], x.val, undef, undef, undef, undef, undef, undef, undef, undef, undef], defers := [] }
abbrev kE (w : World) (most : Nat) : List (Nat × Value × TypeId) := [(w.heap.size + 1, .int .i64 (most : Int), 3)]
/-- where the loop is left -/
def EX (w : World) (L : List Bn) (most : Nat) (c : Code) (W : World) : Prop := c = .exit 0 ∧ Below w.heap.size w W ∧ ∃ v, W.heap[w.heap.size + 2]? = some (.cells #[v] LTY (0, 0)) ∧ OwnB W w.heap.size v (L.take most)
set_option maxHeartbeats 16000000 in
set_option maxRecDepth 100000 in
theorem qall_any {w : World} {Pv : Value} {full : List Bn} (HS : ∀ V, Below w.heap.size w V → Src Pv full V) (q0 q1 : Int) (most : Nat) (hm : most ≤ 90000) :
    Calls Try.prog 38 #[Pv, qV q0 q1, .int .i64 (most : Int)] w fun e w' => ∃ A c, e = .returned (.slice A ((told q0 q1 yes full).take most).length c) ∧ OwnB w' w.heap.size (.slice A ((told q0 q1 yes full).take most).length c) ((told q0 q1 yes full).take most) ∧ Below w.heap.size w w' := by
  obtain ⟨L, hL⟩ : ∃ L, L = told q0 q1 yes full := ⟨_, rfl⟩
  rw [← hL]
  have hPv := (HS w (Below.refl _ _)).p
  have AL := Lib.hid fun W => each_call W hPv q0 q1
  have EQF := fun b c V => eql_each 72 b c V
  have s3 := size3 w (.cells #[.int .i64 q0, .int .i64 q1] QTY) (.cells #[.int .i64 (most : Int)] 3) (.cells #[.slice none 0 0] LTY)
  have b3 := bel3 w (.cells #[.int .i64 q0, .int .i64 q1] QTY) (.cells #[.int .i64 (most : Int)] 3) (.cells #[.slice none 0 0] LTY)
  have t0 := at2a w (.cells #[.int .i64 q0, .int .i64 q1] QTY) (.cells #[.int .i64 (most : Int)] 3)
  have t1 := at2b w (.cells #[.int .i64 q0, .int .i64 q1] QTY) (.cells #[.int .i64 (most : Int)] 3)
  have t2 := at1 ((w.alloc (.cells #[.int .i64 q0, .int .i64 q1] QTY)).alloc (.cells #[.int .i64 (most : Int)] 3)) (.cells #[.slice none 0 0] LTY)
  rw [size2] at t2
  have t0' := (Below.heap_alloc _ (.cells #[.slice none 0 0] LTY) _ (Bx.lt t0)).trans t0
  have t1' := (Below.heap_alloc _ (.cells #[.slice none 0 0] LTY) _ (Bx.lt t1)).trans t1
  obtain ⟨⟨y0, y1⟩, _⟩ := Bx.b2 t0'
  clear t0 t1
  refine (callsIn_wide (n := 9)).1 ?_
  refine callsIn_of_wp_marks Try.func38 rfl trivial ?_ rfl
  simp only [Try.ntmps38, List.size_toArray, List.length_cons, List.length_nil, Nat.reduceAdd, Nat.reduceSub, Array.replicate_succ, Array.replicate_zero, List.push_toArray, List.append_toArray, List.nil_append, List.cons_append]
  gi_wp2_with (refine ⟨trivial, ?_⟩; gi_at_call 45; refine (callsIn_wide.2 (AL.out _)).mono ?_; rintro e w3 ⟨Pb, Qb, rfl, hP, hQ, be⟩)
  have tm := (be.block _ (Bx.lt t1')).trans t1'
  have tl := (be.block _ (Bx.lt t2)).trans t2
  have B3 := b3.trans (be.mono b3.size)
  have hs3 : w.heap.size + 3 ≤ w3.heap.size := Nat.le_trans (Nat.le_of_eq s3.symm) be.size
  clear t0' t1' t2 b3 be s3 AL EQF y0 y1 hPv
  have hR : ∀ b, Mine [w.heap.size + 2] w3 b → b < w3.heap.size := by
    rintro b (h1 | ⟨r, hr', cs, T, u, h1, h2, h3⟩)
    · rw [List.mem_singleton] at h1; omega
    · rw [List.mem_singleton] at hr'
      subst hr'
      rw [tl] at h1
      injection h1 with h1
      injection h1 with h1
      subst h1
      rw [Array.mem_singleton] at h2
      subst h2
      rcases h3 with h3 | h3 <;> cases h3
  have HSEQ := each_seq (fun V hV => HS V (B3.trans (hV.mono B3.size))) hP hQ hR 8 (by omega) (q0 := q0) (q1 := q1)
  have hI0 : AccI w (w.heap.size + 2) (kE w most) [] w3 := ⟨B3, by omega, ⟨_, tl, .inl ⟨rfl, rfl⟩⟩, fun x hx => by
    rw [List.mem_singleton] at hx
    subst hx
    exact ⟨tm, (by decide : (3 : TypeId) ≠ BTY), by show w.heap.size + 1 ≠ w.heap.size + 2; omega⟩⟩
  have hW3 : ∀ {k : Nat} {A : World}, Rg.Turn w3.heap.size A k → w.heap.size + 2 < k ∧ ∃ o, A.heap[k]? = some o ∧ o.isCells = false := fun {k A} h => ⟨by have := h.1; omega, by obtain ⟨o, h1, h2, _⟩ := h.2; exact ⟨o, h1, h2⟩⟩
  rw [← hL] at HSEQ
  clear tm tl hR hP hQ HS hL
  refine Rg.range (w := w3) rfl (by omega) (gf := 72) (lb := #[.pointer (some ⟨Pb, 0, none⟩), .pointer (some ⟨Qb, 0, none⟩)]) rfl trivial (enters_of Try.func72 (by kernel_rfl) rfl) (encs := encB) (fun _ => rfl) (Kp := KpM [w.heap.size + 2]) (full := L)
    (fun pre W => AccI w (w.heap.size + 2) (kE w most) pre W ∧ pre.length ≤ most) (fun c _ W => EX w L most c W) (fun x a' V => ∃ b, V.heap[b]? = some (.cells #[.int .i64 x.s, .int .i64 x.i, .int .i64 x.g, .int .i64 x.m, .int .i64 x.x, .int .i64 x.y, .int .i64 x.vx, .int .i64 x.vy, .int .i64 x.h, .int .i64 x.p, .int .i64 x.l] BTY (0, 0)) ∧ a' = actE w Pv q0 q1 most Pb Qb x b)
    (fun h k => h.trans k) (fun xs A B hI hb => KpM.of_below (fun r hr => ?rl) hb) (fun A k o' hT => ?kp)
    (fun xs A B hI hb => ⟨hI.1.below hb, hI.2⟩) (fun xs A k o' hT hI => ?ip) (fun c xs A k o' hT hX => ?ixp) (fun x a' A k o' hT hA => ?ap) HSEQ ?assign ?body ⟨hI0, Nat.zero_le _⟩ ?done ?stop
  case rl =>
    rw [List.mem_singleton] at hr
    subst hr
    obtain ⟨v, e1, _⟩ := hI.1.bl
    exact Bx.lt e1
  case kp =>
    obtain ⟨h1, o, h2, h3⟩ := hW3 hT
    exact KpM.put h2 h3 (by rw [List.mem_singleton]; omega)
  case ip =>
    obtain ⟨h1, o, h2, h3⟩ := hW3 hT
    exact ⟨hI.1.put (by omega) h2 h3, hI.2⟩
  case ixp =>
    obtain ⟨h1, o, h2, h3⟩ := hW3 hT
    obtain ⟨e1, e2, v, e3, e4⟩ := hX
    exact ⟨e1, below_put e2 (by omega), v, cells_put e3 h2 h3, own_put e4 h2 h3⟩
  case ap =>
    obtain ⟨h1, o, h2, h3⟩ := hW3 hT
    obtain ⟨b, e1, e2⟩ := hA
    exact ⟨b, cells_put e1 h2 h3, e2⟩
  case assign =>
    intro l x W K hK
    have HK := Lib.hid (hK (actE w Pv q0 q1 most Pb Qb x W.heap.size) _ (bel1 W (bobj x)) ⟨W.heap.size, at1 W (bobj x), rfl⟩)
    clear hK
    simp only [encB, Bn.val, bobj, actE] at *
    gi_wp2
    exact HK.out
  case body =>
    rintro pre x W a' ⟨hI1, hle⟩ hpre ⟨bx, hbx, rfl⟩ ⟨rl, hl⟩ hd
    simp only [actE, Bn.val]
    have km := (Bx.b1 (hI1.held _ (List.mem_singleton.2 rfl)).1).1
    obtain ⟨k0, k1, k2, k3, k4, k5, k6, k7, k8, k9, k10⟩ := (Bx.b11 hbx).1
    by_cases he : pre.length = most
    · obtain ⟨v, e1, e2⟩ := hI1.bl
      obtain ⟨A, c, rfl⟩ := e2.form
      have kl := (Bx.b1 e1).1
      have hfin : L.take most = pre := by
        obtain ⟨r, hr⟩ := hpre
        rw [← hr, ← he]
        simp
      have FX : Hid (EX w L most (.exit 0) W) := Lib.hid ⟨rfl, hI1.bel, _, e1, by rw [hfin]; exact e2⟩
      clear hI1 hpre e1 e2 hfin HSEQ hI0 hW3 hbx hl hd
      subst he
      gi_wp2
      exact ⟨rfl, rfl, FX.out⟩
    · have hlt : pre.length < most := by omega
      have t1 : ((pre.length : Int) = (most : Int)) = False := eq_false (by omega)
      have t2 : ((pre.length : Int) == (most : Int)) = false := by rw [beq_eq_false_iff_ne]; omega
      obtain ⟨A, c, kl, A', n', c', V, hr, hc4, hf4, FIN⟩ := hI1.stepM x (by omega) (R := [w.heap.size + 2]) (by simp) (fun r hr hne => absurd (List.mem_singleton.1 hr) hne)
      have FX := Lib.hid (And.intro (FIN.out.2.2.1 _ _ hd rfl) (And.intro (FIN.out.2.2.1 _ _ hl rfl) (And.intro FIN.out.2.1 (And.intro FIN.out.1 (show (pre ++ [x]).length ≤ most by rw [List.length_append]; simp; omega)))))
      have HR := Lib.hid hr
      clear hI1 hpre HSEQ hI0 hW3 hbx hl hd FIN hr
      simp only [bobj] at HR
      gi_wp2_with (gi_at_builtin; refine wpListIn_append rfl (.tmp 21) (.tmp 23) _ _ rfl _ _ rfl rfl _ _ HR.out ?_)
      exact FX.out
  case done =>
    rintro W ⟨hI, hle⟩ hd
    obtain ⟨v, e1, e2⟩ := hI.bl
    have hfin : L.take most = L := List.take_of_length_le hle
    rw [← hfin] at e2
    obtain ⟨A, c, rfl⟩ := e2.form
    have kl := (Bx.b1 e1).1
    have FX := Lib.hid (show OwnB (W.putObj w3.heap.size (.deferred none)) w.heap.size (.slice A (L.take most).length c) (L.take most) ∧ Below w.heap.size w (W.putObj w3.heap.size (.deferred none)) from ⟨own_put e2 hd rfl, below_put hI.bel (by omega)⟩)
    have HK := Lib.hid hd
    clear hI e1 e2 hd HSEQ hI0 hW3 hfin
    gi_wp2
    refine ⟨by simp, .inl ⟨_, _, rfl, run_takeDeferred HK.out, ?_⟩⟩
    exact ⟨_, results_tmp rfl _ _ _, A, c, by simp [Nat.min_eq_right hle], FX.out⟩
  case stop =>
    rintro c pre W ⟨rfl, hb, v, hv, ho⟩ hd
    obtain ⟨A, c, rfl⟩ := ho.form
    have kl := (Bx.b1 hv).1
    have FX := Lib.hid (show OwnB (W.putObj w3.heap.size (.deferred none)) w.heap.size (.slice A (L.take most).length c) (L.take most) ∧ Below w.heap.size w (W.putObj w3.heap.size (.deferred none)) from ⟨own_put ho hd rfl, below_put hb (by omega)⟩)
    have HK := Lib.hid hd
    clear hv ho hd HSEQ hI0 hW3 hb
    gi_wp2
    refine ⟨by simp, .inl ⟨_, _, rfl, run_takeDeferred HK.out, ?_⟩⟩
    exact ⟨_, results_tmp rfl _ _ _, A, c, by simp, FX.out⟩
end Go.Proofs.Ytgmgenggboicnaa
