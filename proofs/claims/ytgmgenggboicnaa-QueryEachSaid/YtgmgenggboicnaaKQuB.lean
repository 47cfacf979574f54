/- QuAcc, QuCount, in one text. -/
import Derived.Test.YtgmgenggboicnaaKSeq
import Derived.Test.YtgmgenggboicnaaKQuA
namespace Go.Proofs.Ytgmgenggboicnaa
open Go.RowKit Go.Shelf Pz Ar
set_option linter.unusedVariables false
set_option linter.unusedSimpArgs false

abbrev BTY : TypeId := 33
abbrev LTY : TypeId := 42
/-- the row in the box lb, the boxes K -/
structure AccI (w : World) (lb : Nat) (K : List (Nat × Value × TypeId)) (l : List Bn) (W : World) : Prop where
  bel : Below w.heap.size w W
  lo : w.heap.size ≤ lb
  bl : ∃ v, W.heap[lb]? = some (.cells #[v] LTY (0, 0)) ∧ OwnB W w.heap.size v l
  held : ∀ x ∈ K, W.heap[x.1]? = some (.cells x.2.1.cells x.2.2 (0, 0)) ∧ x.2.2 ≠ BTY ∧ x.1 ≠ lb
section
variable {w W V : World} {lb : Nat} {K : List (Nat × Value × TypeId)} {l : List Bn}
theorem AccI.below (h : AccI w lb K l W) (hb : Below W.heap.size W V) : AccI w lb K l V := by
  obtain ⟨v, e1, e2⟩ := h.bl
  exact ⟨h.bel.trans (hb.mono h.bel.size), h.lo, ⟨v, (hb.block _ (Bx.lt e1)).trans e1, e2.below hb⟩, fun x hx => by
    obtain ⟨a, b, c⟩ := h.held x hx
    exact ⟨(hb.block _ (Bx.lt a)).trans a, b, c⟩⟩
theorem AccI.put (h : AccI w lb K l W) {k : Nat} {x o : Obj} (hk : w.heap.size ≤ k) (hx : W.heap[k]? = some x) (hc : x.isCells = false) : AccI w lb K l (W.putObj k o) := by
  obtain ⟨v, e1, e2⟩ := h.bl
  exact ⟨below_put h.bel hk, h.lo, ⟨v, cells_put e1 hx hc, own_put e2 hx hc⟩, fun y hy => by
    obtain ⟨a, b, c⟩ := h.held y hy
    exact ⟨cells_put a hx hc, b, c⟩⟩
/-- an element more -/
theorem AccI.step (h : AccI w lb K l W) (x : Bn) (hl : l.length < 100000) :
    ∃ A c, W.cell? ⟨lb, 0, none⟩ = some (.slice A l.length c) ∧ ∃ A' n' c' V, (Builtin.append_ #[LTY, LTY] LTY #[.slice A l.length c, .slice (some ⟨W.heap.size, 0, none⟩) 1 1]).run Try.prog (W.alloc (bobj x)) = .ok (.slice A' n' c') V ∧
      V.cell? ⟨lb, 0, none⟩ = some (.slice A l.length c) ∧ V.frozen? ⟨lb, 0, none⟩ = false ∧
      Hid (AccI w lb K (l ++ [x]) (V.setCell ⟨lb, 0, none⟩ (.slice A' n' c')) ∧ (∀ k, k < w.heap.size ∨ (∃ y ∈ K, y.1 = k) → (V.setCell ⟨lb, 0, none⟩ (.slice A' n' c')).heap[k]? = W.heap[k]?) ∧ (∀ (k : Nat) (o : Obj), W.heap[k]? = some o → o.isCells = false → (V.setCell ⟨lb, 0, none⟩ (.slice A' n' c')).heap[k]? = W.heap[k]?) ∧ ∀ k : Nat, k < W.heap.size → k ≠ lb → (∀ g, (Value.slice A l.length c).ownBlock = some g → k ≠ g) → (V.setCell ⟨lb, 0, none⟩ (.slice A' n' c')).heap[k]? = W.heap[k]?) := by
  obtain ⟨v, e1, e2⟩ := h.bl
  obtain ⟨A, c, rfl⟩ := e2.form
  have hs := h.bel.size
  obtain ⟨v', V, hr, ho, hg, hrow, hf⟩ := app_x (enc := bnE) (T := BTY) (s := 11) (t := LTY) Try.underlying42 bundle_info rfl (by decide) bnE_len bnE_one e2 hs x (by omega) (by decide) LTY
  obtain ⟨A', c', rfl⟩ := ho.form
  have blk : ∀ g, (Value.slice A l.length c).ownBlock = some g → ∃ cur, W.heap[g]? = some (.cells cur BTY (0, 0)) := fun g e => (e2.blk e).2
  have kc : ∀ {k T : Nat} {cs : Array Value}, W.heap[k]? = some (.cells cs T (0, 0)) → BTY ≠ T → V.heap[k]? = some (.cells cs T (0, 0)) := fun {k T cs} hk hT => (hg.block k (Bx.lt hk) (fun e => by
    obtain ⟨cur, hc⟩ := blk k e.symm
    exact Bx.ne_type hc hk hT rfl)).trans hk
  have l1 := kc e1 (by decide)
  have hbV : Below w.heap.size w V := below_row h.bel hg hs hf
  have hne1 : ∀ k, k ≠ lb → (V.setCell ⟨lb, 0, none⟩ (.slice A' (l ++ [x]).length c')).heap[k]? = V.heap[k]? := fun k hk => Bx.ne hk _
  refine ⟨A, c, (Bx.b1 e1).1, A', _, c', V, hr, (Bx.b1 l1).1, (Bx.b1 l1).2, Lib.hid ⟨⟨hbV.setCell (p := ⟨lb, 0, none⟩) h.lo _, h.lo, ⟨_, Bx.set l1 _, ?_⟩, ?_⟩, ?_, ?_, ?_⟩⟩
  · exact ho.kept fun b hb => hne1 b (fun e => by
      obtain ⟨_, cur, hc⟩ := ho.blk hb
      exact Bx.ne_type hc l1 (by decide) e)
  · intro y hy
    obtain ⟨a, b, d⟩ := h.held y hy
    exact ⟨(hne1 _ d).trans (kc a (fun e => b e.symm)), b, d⟩
  · intro k hk
    rcases hk with hk | ⟨y, hy, rfl⟩
    · rw [hne1 k (by have := h.lo; omega)]
      exact (hbV.block k hk).trans (h.bel.block k hk).symm
    · obtain ⟨a, b, d⟩ := h.held y hy
      rw [hne1 _ d]
      exact (kc a (fun e => b e.symm)).trans a.symm
  · intro k o hk hc
    rw [hne1 k (fun e => by subst e; rw [e1] at hk; cases hk; cases hc)]
    exact hg.block k (Bx.lt hk) (fun e => by
      obtain ⟨cur, hcur⟩ := blk k e.symm
      rw [hk] at hcur
      cases hcur
      cases hc)
  · intro k hk hne hg2
    rw [hne1 k hne]
    exact hg.block k hk (fun e => hg2 k e.symm rfl)
end
end Go.Proofs.Ytgmgenggboicnaa
namespace Go.Proofs.Ytgmgenggboicnaa
open Go.RowKit Go.Shelf Pz Ar Qu
set_option linter.unusedVariables false
set_option linter.unusedSimpArgs false
attribute [local go_sem] Oper.semAt_some

abbrev ITY : TypeId := 3
abbrev actN (w : World) (Pv : Value) (q0 q1 : Int) (x : Bn) (b : Nat) : Act := { tmps := #[Pv, qV q0 q1, undef, .pointer (some ⟨w.heap.size, 0, none⟩), .int .i64 0, .pointer (some ⟨w.heap.size + 1, 0, none⟩), .pointer (some ⟨b, 0, none⟩), Pv, .func (.func 80) #[] #[.pointer (some ⟨w.heap.size + 2, 0, none⟩)], x.val, undef, undef, undef, undef, undef, undef, undef], defers := [] }
/-- between two rounds -/
structure CntI (w : World) (Pv : Value) (q0 q1 : Int) (n : Nat) (W : World) : Prop where
  bel : Below w.heap.size w W
  bq : W.heap[w.heap.size]? = some (.cells #[.int .i64 q0, .int .i64 q1] QTY (0, 0))
  bn : W.heap[w.heap.size + 1]? = some (.cells #[.int .i64 (n : Int)] ITY (0, 0))
  bp : W.heap[w.heap.size + 2]? = some (.cells #[Pv] PST (0, 0))
section
variable {w W V : World} {Pv : Value} {q0 q1 : Int} {n : Nat}
theorem CntI.below (h : CntI w Pv q0 q1 n W) (hb : Below W.heap.size W V) : CntI w Pv q0 q1 n V :=
  ⟨h.bel.trans (hb.mono h.bel.size), (hb.block _ (Bx.lt h.bq)).trans h.bq, (hb.block _ (Bx.lt h.bn)).trans h.bn, (hb.block _ (Bx.lt h.bp)).trans h.bp⟩
theorem CntI.put (h : CntI w Pv q0 q1 n W) {k : Nat} {x o : Obj} (hk : w.heap.size ≤ k) (hx : W.heap[k]? = some x) (hc : x.isCells = false) : CntI w Pv q0 q1 n (W.putObj k o) :=
  ⟨below_put h.bel hk, cells_put h.bq hx hc, cells_put h.bn hx hc, cells_put h.bp hx hc⟩
theorem CntI.more (h : CntI w Pv q0 q1 n W) : CntI w Pv q0 q1 (n + 1) (W.setCell ⟨w.heap.size + 1, 0, none⟩ (.int .i64 ((n : Int) + 1))) := by
  refine ⟨h.bel.setCell (p := ⟨w.heap.size + 1, 0, none⟩) (Nat.le_succ _) _, (Bx.ne (by omega) _).trans h.bq, ?_, (Bx.ne (by omega) _).trans h.bp⟩
  have := Bx.set h.bn (o := 0) (.int .i64 ((n : Int) + 1))
  rw [this]
  simp
end
theorem fil_snoc (q0 q1 : Int) (l : List Bn) (x : Bn) : (fil q0 q1 (l ++ [x])).length = if asks q0 q1 x.m then (fil q0 q1 l).length + 1 else (fil q0 q1 l).length := by
  simp only [fil, List.filter_append, List.filter_cons, List.filter_nil]
  split <;> simp
set_option maxHeartbeats 16000000 in
set_option maxRecDepth 100000 in
theorem count_of {w : World} {Pv : Value} {full : List Bn} (hY : Yields Pv full w) (hP : Pv = .pointer none ∨ ∃ p, Pv = .pointer (some ⟨p, 0, none⟩)) (hfl : full.length ≤ 100000) (q0 q1 : Int) :
    Calls Try.prog 36 #[Pv, qV q0 q1] w fun e w' => e = .returned (.int .i64 ((fil q0 q1 full).length : Int)) ∧ Below w.heap.size w w' := by
  have AL := Lib.hid fun W => allc_any W Pv hP
  have t0 := at2a w (.cells #[.int .i64 q0, .int .i64 q1] QTY) (.cells #[.int .i64 0] ITY)
  have t1 := at2b w (.cells #[.int .i64 q0, .int .i64 q1] QTY) (.cells #[.int .i64 0] ITY)
  have b2 := bel2 w (.cells #[.int .i64 q0, .int .i64 q1] QTY) (.cells #[.int .i64 0] ITY)
  have s2 := size2 w (.cells #[.int .i64 q0, .int .i64 q1] QTY) (.cells #[.int .i64 0] ITY)
  have MT := Lib.hid fun m W => match_any q0 q1 m W
  refine (callsIn_wide (n := 9)).1 ?_
  refine callsIn_of_wp_marks Try.func36 rfl trivial ?_ rfl
  simp only [Try.ntmps36, List.size_toArray, List.length_cons, List.length_nil, Nat.reduceAdd, Nat.reduceSub, Array.replicate_succ, Array.replicate_zero, List.push_toArray, List.append_toArray, List.nil_append, List.cons_append]
  gi_wp2_with (refine ⟨trivial, ?_⟩; gi_at_call 56; refine (callsIn_wide.2 (AL.out _)).mono ?_; rintro e w2 ⟨rfl, rfl⟩)
  generalize (w.alloc (.cells #[.int .i64 q0, .int .i64 q1] QTY)).alloc (.cells #[.int .i64 0] ITY) = w3 at *
  have b4 := b2.trans ((bel1 w3 (.cells #[Pv] PST)).mono b2.size)
  have t0' := ((bel1 w3 (.cells #[Pv] PST)).block _ (Bx.lt t0)).trans t0
  have t1' := ((bel1 w3 (.cells #[Pv] PST)).block _ (Bx.lt t1)).trans t1
  have t2' := at1 w3 (.cells #[Pv] PST)
  have s4 := size1 w3 (.cells #[Pv] PST)
  rw [s2] at t2' s4
  simp only [Nat.add_assoc, Nat.reduceAdd] at s4 ⊢
  generalize w3.alloc (.cells #[Pv] PST) = w4 at *
  have hI0 : CntI w Pv q0 q1 (fil q0 q1 []).length w4 := ⟨b4, t0', t1', t2'⟩
  have hW4 : ∀ {k : Nat} {A : World}, Rg.Turn w4.heap.size A k → w.heap.size + 2 < k ∧ ∃ o, A.heap[k]? = some o ∧ o.isCells = false := fun {k A} h => ⟨by have := h.1; omega, by obtain ⟨o, h1, h2, _⟩ := h.2; exact ⟨o, h1, h2⟩⟩
  have HSEQ := hY w4 (w.heap.size + 2) b4 t2' 8 (by omega)
  have S4 := Lib.hid s4
  clear t0 t1 t0' t1' t2' hY hP b2 s2 AL b4 s4
  refine Rg.range (w := w4) rfl (by omega) (gf := 80) (lb := #[.pointer (some ⟨w.heap.size + 2, 0, none⟩)]) rfl trivial (enters_of Try.func80 (by kernel_rfl) rfl) (encs := encB) (fun _ => rfl) (Kp := Keep fun k => k < w.heap.size ∨ k = w.heap.size + 2) (full := full)
    (fun pre W => CntI w Pv q0 q1 (fil q0 q1 pre).length W) (fun _ _ _ => False) (fun x a' V => ∃ b, V.heap[b]? = some (.cells #[.int .i64 x.s, .int .i64 x.i, .int .i64 x.g, .int .i64 x.m, .int .i64 x.x, .int .i64 x.y, .int .i64 x.vx, .int .i64 x.vy, .int .i64 x.h, .int .i64 x.p, .int .i64 x.l] 33 (0, 0)) ∧ a' = actN w Pv q0 q1 x b)
    (fun h k b hb => (k b hb).trans (h b hb)) (fun xs A B hI hb k hk => hb.block k ?kb) (fun A k o' hT b hb => World.putObj_heap_other (by have := (hW4 hT).1; omega))
    (fun xs A B hI hb => hI.below hb) (fun xs A k o' hT hI => ?ip) (fun c xs A k o' hT hX => hX.elim) (fun x a' A k o' hT hA => ?ap) HSEQ ?assign ?body hI0 ?done ?stop
  case kb =>
    rcases hk with hk | rfl
    · have := hI.bel.size; omega
    · exact Bx.lt hI.bp
  case ip =>
    obtain ⟨h1, o, h2, h3⟩ := hW4 hT
    exact hI.put (by omega) h2 h3
  case ap =>
    obtain ⟨h1, o, h2, h3⟩ := hW4 hT
    obtain ⟨b, e1, e2⟩ := hA
    exact ⟨b, cells_put e1 h2 h3, e2⟩
  case assign =>
    intro l x W K hK
    have HK := Lib.hid (hK (actN w Pv q0 q1 x W.heap.size) _ (bel1 W (bobj x)) ⟨W.heap.size, at1 W (bobj x), rfl⟩)
    clear hK
    simp only [encB, Bn.val, bobj, actN] at *
    gi_wp2
    exact HK.out
  case body =>
    rintro pre x W a' hI1 hpre ⟨bx, hbx, rfl⟩ ⟨rl, hl⟩ hd
    have hlen : (fil q0 q1 pre).length < 100000 := by
      have h1 : (fil q0 q1 pre).length ≤ pre.length := List.length_filter_le _ _
      have h2 := hpre.length_le
      simp only [List.length_append, List.length_singleton] at h2
      omega
    have SN := fil_snoc q0 q1 pre x
    have HI1 := Lib.hid hI1
    have HD := Lib.hid hd
    have HLp := Lib.hid hl
    have SAME : Hid (asks q0 q1 x.m = false → ∀ V, Below W.heap.size W V → V.heap[w4.heap.size]? = W.heap[w4.heap.size]? ∧ V.heap[w4.heap.size + 1]? = W.heap[w4.heap.size + 1]? ∧ Keep (fun k => k < w.heap.size ∨ k = w.heap.size + 2) W V ∧ CntI w Pv q0 q1 (fil q0 q1 (pre ++ [x])).length V) := Lib.hid fun he V hV => by
      refine ⟨hV.block _ (Bx.lt HD.out), hV.block _ (Bx.lt HLp.out), fun k hk => hV.block k ?_, ?_⟩
      · rcases hk with hk | rfl
        · have := HI1.out.bel.size; omega
        · exact Bx.lt HI1.out.bp
      · rw [SN, he]
        exact HI1.out.below hV
    have MORE : Hid (asks q0 q1 x.m = true → ∀ U, Below W.heap.size W U → U.cell? ⟨w.heap.size + 1, 0, none⟩ = some (.int .i64 ((fil q0 q1 pre).length : Int)) ∧ U.frozen? ⟨w.heap.size + 1, 0, none⟩ = false ∧
        Hid ((U.setCell ⟨w.heap.size + 1, 0, none⟩ (.int .i64 (((fil q0 q1 pre).length : Int) + 1))).heap[w4.heap.size]? = W.heap[w4.heap.size]? ∧ (U.setCell ⟨w.heap.size + 1, 0, none⟩ (.int .i64 (((fil q0 q1 pre).length : Int) + 1))).heap[w4.heap.size + 1]? = W.heap[w4.heap.size + 1]? ∧ Keep (fun k => k < w.heap.size ∨ k = w.heap.size + 2) W (U.setCell ⟨w.heap.size + 1, 0, none⟩ (.int .i64 (((fil q0 q1 pre).length : Int) + 1))) ∧ CntI w Pv q0 q1 (fil q0 q1 (pre ++ [x])).length (U.setCell ⟨w.heap.size + 1, 0, none⟩ (.int .i64 (((fil q0 q1 pre).length : Int) + 1))))) := Lib.hid fun he U hU => by
      have hu := HI1.out.below hU
      have h4 := S4.out
      refine ⟨(Bx.b1 hu.bn).1, (Bx.b1 hu.bn).2, Lib.hid ⟨?_, ?_, fun k hk => ?_, ?_⟩⟩
      · exact (Bx.ne (by omega) _).trans (hU.block _ (Bx.lt HD.out))
      · exact (Bx.ne (by omega) _).trans (hU.block _ (Bx.lt HLp.out))
      · have hkl : k < W.heap.size := by
          rcases hk with hk | rfl
          · have := HI1.out.bel.size; omega
          · exact Bx.lt HI1.out.bp
        exact (Bx.ne (by omega) _).trans (hU.block k hkl)
      · rw [SN, he]
        exact hu.more
    obtain ⟨c0, c1⟩ := (Bx.b2 hI1.bq).1
    obtain ⟨k0, k1, k2, k3, k4, k5, k6, k7, k8, k9, k10⟩ := (Bx.b11 hbx).1
    have hlen2 : ((fil q0 q1 pre).length : Int) < 100000 := by omega
    clear hI1 hpre HSEQ hI0 hW4 hbx hl hd HI1 HD HLp SN hlen
    have MX := Lib.hid (MT.out x.m)
    obtain ⟨ta, hta⟩ : ∃ ta, asks q0 q1 x.m = ta := ⟨_, rfl⟩
    rw [hta] at MX SAME MORE
    clear hta MT
    generalize (fil q0 q1 pre).length = n at *
    obtain ⟨xs, xi, xg, xm, xx, xY, xvx, xvy, xh, xp, xl⟩ := x
    simp only [actN, Bn.val, bobj] at *
    cases ta with
    | false =>
      have SM := Lib.hid (SAME.out rfl)
      clear SAME MORE
      gi_wp2_with (refine ⟨trivial, ?_⟩; gi_at_call 25; refine (CallsIn.inRound (w4.heap.size + 1) (callsIn_wide.2 (MX.out _))).mono ?_; rintro e w5 ⟨rfl, b5⟩)
      exact SM.out _ b5
    | true =>
      have MR := Lib.hid (MORE.out rfl)
      clear SAME MORE
      gi_wp2_with (refine ⟨trivial, ?_⟩; gi_at_call 25; refine (CallsIn.inRound (w4.heap.size + 1) (callsIn_wide.2 (MX.out _))).mono ?_; rintro e w5 ⟨rfl, b5⟩; obtain ⟨kn, fn, FIN⟩ := MR.out _ b5)
      exact FIN.out
  case done =>
    intro W hI hd
    have kn := (Bx.b1 hI.bn).1
    have FX := Lib.hid (show Below w.heap.size w (W.putObj w4.heap.size (.deferred none)) from below_put hI.bel (by have := S4.out; omega))
    have HK := Lib.hid hd
    clear hI hd HSEQ hI0 hW4 MT
    gi_wp2
    refine ⟨by simp, .inl ⟨_, _, rfl, run_takeDeferred HK.out, ?_⟩⟩
    exact ⟨_, results_tmp rfl _ _ _, by simp, FX.out⟩
  case stop =>
    rintro c pre W hX hd
    exact hX.elim
end Go.Proofs.Ytgmgenggboicnaa
