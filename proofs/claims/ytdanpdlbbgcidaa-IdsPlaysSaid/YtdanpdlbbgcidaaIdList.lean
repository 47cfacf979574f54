/- Lapse and List. -/
import Derived.Test.YtdanpdlbbgcidaaIdFree
import Derived.Test.YtdanpdlbbgcidaaIdRow
namespace Go.Proofs.Ytdanpdlbbgcidaa
open Go.RowKit Ids
set_option linter.unusedVariables false

abbrev I3 := Int × Int × Int
def idE (x : I3) : List Value := [.int .i64 x.1, .int .i64 x.2.1, .int .i64 x.2.2]
abbrev OwnI (W : World) (B : Nat) (v : Value) (l : List I3) : Prop := Rw idE 33 3 W B v l
theorem idE_len (x : I3) : (idE x).length = 3 := rfl
theorem idE_one (x : I3) : ∀ u ∈ idE x, u.oneCell' = true := by
  intro u hu
  simp only [idE, List.mem_cons, List.not_mem_nil, or_false] at hu
  rcases hu with rfl | rfl | rfl <;> rfl
theorem id_info : (Try.prog.info? 33).map (fun i => (i.zero, i.size, i.bytes)) = some (some (.agg #[.int .i64 0, .int .i64 0, .int .i64 0]), 3, 24) := by kernel_rfl
theorem idE_new (W : World) (x : I3) (T : TypeId) : ∀ (c : Nat) (u : Value), (idE x)[c]? = some u → (W.alloc (.cells #[.int .i64 x.1, .int .i64 x.2.1, .int .i64 x.2.2] T)).cell? ((⟨W.heap.size, 0, none⟩ : Addr).add (0 * 3 + c)) = some u := by
  intro c u hu
  have hc : c < 3 := (List.getElem?_eq_some_iff.1 hu).1
  rw [Addr.add_mid, cellAt (heap_alloc_new W _)]
  have : c = 0 ∨ c = 1 ∨ c = 2 := by omega
  rcases this with rfl | rfl | rfl <;> simpa [idE] using hu
/-- one name more, behind a new box of it -/
theorem push_id (W : World) {B : Nat} {v : Value} {l : List I3} (h : OwnI W B v l) (hB : B ≤ W.heap.size) (hl : l.length ≤ 10000) (x : I3) (ty : TypeId) :
    ∃ v' w', (Builtin.append_ #[40, 40] ty #[v, .slice (some ⟨W.heap.size, 0, none⟩) 1 1]).run Try.prog (W.alloc (.cells #[.int .i64 x.1, .int .i64 x.2.1, .int .i64 x.2.2] 33)) = .ok v' w' ∧
      OwnI w' B v' (l ++ [x]) ∧ W.grownBy w' v.ownBlock ∧ (∀ b, v'.ownBlock = some b → v.ownBlock = some b ∨ W.heap.size ≤ b) ∧ Below B W w' := by
  have h' : OwnI (W.alloc (.cells #[.int .i64 x.1, .int .i64 x.2.1, .int .i64 x.2.2] 33)) B v l := h.below (bel1 W _)
  obtain ⟨v', w', hr, ho, hg, hb⟩ := h'.app (P := Try.prog) (t := 40) (ty := ty) Try.underlying40 id_info rfl (by decide) idE_len idE_one (by rw [size1]; omega) [x] ⟨W.heap.size, 0, none⟩ 1 (fun j y hj => by
    match j, hj with
    | 0, hj =>
      simp only [List.getElem?_cons_zero, Option.some.injEq] at hj
      subst hj
      exact idE_new W x _) (by simp; omega) (by decide) (.inl (by simp))
  have hgW : W.grownBy w' v.ownBlock := ⟨hg.os, hg.tape, hg.output, by have := hg.size; rw [size1] at this; omega, fun k hk hne => (hg.block k (by rw [size1]; omega) hne).trans (Below.heap_alloc W _ k hk)⟩
  refine ⟨v', w', hr, ho, hgW, fun b hbb => (hb b hbb).imp id (fun e => by rw [size1] at e; omega), (Below.refl B W).grown hgW hB (fun k hk => (h.blk hk).1)⟩
theorem wpList_append {P : Program} (w : World) {ops : Array Oper} {rest : List Oper} {o : Oper} {a : Act} {Q : Exit → Act → World → Prop} (hg : o.guard = none) (s x : Operand) (t t' : TypeId) (hop : o.op = Op.call { callee := Callee.builtin Builtin.append, args := #[s, x], argTypes := #[t, t'] })
    (v xv : Value) (hs : a.eval s = v) (hx : a.eval x = xv) (v' : Value) (w' : World) (hrun : (Builtin.append_ #[t, t'] o.type #[v, xv]).run P w = .ok v' w') (hK : wpList P ops Q rest (a.put o.dst v') w') :
    wpList P ops Q (o :: rest) a w := by
  refine wpList_plain hg fun K' hK' => ?_
  unfold Oper.wp
  simp [execOp, hop, resolve, invoke, builtin, hs, hx, hrun, Result.andThen]
  exact hK' _ _ hK

section
variable {w W : World} {p : Pl} {K : St}
set_option maxHeartbeats 4000000 in
theorem lapse_nil (w : World) : Calls Try.prog 19 #[.pointer none] w fun e w' => e = .returned (.int .i64 0) ∧ w = w' := by
  go_enter Try.func19, Try.ntmps19
  go_wp2
  go_ret
  exact ⟨rfl, rfl⟩
set_option maxHeartbeats 4000000 in
theorem list_nil (w : World) : Calls Try.prog 21 #[.pointer none] w fun e w' => e = .returned (.slice none 0 0) ∧ w = w' := by
  go_enter Try.func21, Try.ntmps21
  go_wp2
  go_ret
  exact ⟨rfl, rfl⟩
theorem lapseTo_row (K : St) (j : Nat) : (lapseTo K j).row j = K.row j := by show (if j < j then _ else _ : List Nat) = _; rw [if_neg (Nat.lt_irrefl _)]
theorem lapseTo_gen (K : St) (j i : Nat) : (lapseTo K j).gen j i = K.gen j i := by show (if j < j then _ else _ : Nat) = _; rw [if_neg (Nat.lt_irrefl _)]
set_option maxHeartbeats 4000000 in
set_option maxRecDepth 100000 in
theorem lapse_any (h : PA w p K) :
    Calls Try.prog 19 #[.pointer (some ⟨p.d, 0, none⟩)] w fun e w' => e = .returned (.int .i64 ((lapse K).2 : Nat)) ∧ PA w' p (lapse K).1 ∧ Turn p.lo p.hi w w' := by
  have ok := h.ok
  obtain ⟨REL, hREL⟩ : ∃ REL : Nat → World → Prop, REL = fun j W => PA W p (lapseTo K j) ∧ Turn p.lo p.hi w W := ⟨_, rfl⟩
  have R0 : Hid (REL 0 w) := by
    rw [hREL]
    exact Lib.hid ⟨by rw [lapseTo_zero]; exact h, Turn.refl _ _ _⟩
  have b0 := h.box1
  obtain ⟨N, hN⟩ : ∃ N : Nat → Nat, N = fun j => cnt K (j * K.m) := ⟨_, rfl⟩
  have n16 := ok.n2
  have NL : Hid (∀ j, j ≤ K.n → N j ≤ 256) := Lib.hid fun j hj => by
    rw [hN]
    have h1 := cnt_le K (j * K.m)
    have h2 := Nat.mul_le_mul (Nat.le_trans hj n16) ok.m2
    show cnt K (j * K.m) ≤ 256
    omega
  have RR : Hid (∀ (j : Nat) (W : World), j < K.n → REL j W → Hid (Calls Try.prog 36 #[.pointer (some ⟨p.d, 0, none⟩), .int .i64 (j : Int)] W fun e w' => e = .returned (.pointer (some ⟨p.q, 2 * j, none⟩)) ∧ W = w') ∧
      ∃ c, N (j + 1) = N j + c ∧ c ≤ 16 ∧ Hid (Calls Try.prog 41 #[.pointer (some ⟨p.q, 2 * j, none⟩)] W fun e w' => e = .returned (.int .i64 (c : Int)) ∧ REL (j + 1) w')) := by
    rw [hREL, hN]
    refine Lib.hid ?_
    rintro j W hj ⟨h1, h2⟩
    have L := lapse1_any h1 (k := j) hj
    rw [lapseTo_succ, lapseTo_row, show (fun i => decide ((lapseTo K j).gen j i < (lapseTo K j).bnd j i)) = fun i => decide (K.gen j i < K.bnd j i) from funext fun i => by rw [lapseTo_gen]; rfl] at L
    refine ⟨Lib.hid (pat_in h1 hj), _, cnt_shard ok hj, ?_, Lib.hid (L.mono ?_)⟩
    · have e1 := List.length_filter_le (fun i => decide (K.gen j i < K.bnd j i)) (K.row j)
      have e2 := ok.len hj
      have e3 := ok.m2
      omega
    · rintro e w' ⟨rfl, h3, h4⟩
      exact ⟨rfl, h3, h2.trans h4⟩
  have RE : Hid (∀ W, REL K.n W → PA W p (lapse K).1 ∧ Turn p.lo p.hi w W) := by
    rw [hREL]; exact Lib.hid fun W hW => hW
  have hN0 : Hid (N 0 = 0) := Lib.hid (by rw [hN]; show cnt K (0 * K.m) = 0; rw [Nat.zero_mul]; rfl)
  have hNn : (lapse K).2 = N K.n := by rw [hN]; rfl
  rw [hNn]
  clear h hREL hN hNn ok
  generalize lapse K = K' at *
  generalize K.n = n at *
  go_enter Try.func19, Try.ntmps19
  go_wp2
  go_loopw [12, 3] (fun i c wr => ∃ j : Nat, j ≤ n ∧ i = .int .i64 j ∧ c = .int .i64 (N j : Nat) ∧ Hid (REL j wr)) (fun i _ _ => n - (intOf i).toNat)
  case atStart => exact ⟨0, Nat.zero_le _, rfl, by rw [hN0.out]; rfl, R0⟩
  case round =>
    obtain ⟨j, hj, rfl, rfl, HR⟩ := hrel
    clear R0 b0
    by_cases hjn : j < n
    · obtain ⟨A, c, cn, hc, L⟩ := RR.out j wr hjn HR.out
      have nl := NL.out j hj
      have t1 : (j : Int) < (n : Int) := by omega
      have cn' := Lib.hid cn
      clear RR NL RE HR hN0 cn
      generalize hcc : N j = c0 at *
      clear hcc
      go_wp2_with (first
        | (go_at_call 36; refine A.out.mono ?_; rintro e w' ⟨rfl, rfl⟩)
        | (go_at_call 41; refine L.out.mono ?_; rintro e w' ⟨rfl, hR⟩; have HR := Lib.hid hR; clear hR))
      go_roundw
      case rel => exact ⟨j + 1, by omega, by go_num, by rw [cn'.out]; go_num, HR⟩
      case measure => simp [intOf]; omega
    · obtain rfl : j = n := by omega
      have t1 : ¬ (j : Int) < (j : Int) := by omega
      have HE := Lib.hid (RE.out wr HR.out)
      clear RR NL RE HR hN0
      go_wp2
      go_ret
      exact ⟨rfl, HE.out⟩
def toI (x : Nat × Nat × Nat) : I3 := ((x.1 : Int), (x.2.1 : Int), (x.2.2 : Int))
theorem lst_len' {K : St} (ok : Ok K) {k i : Nat} (hk : k ≤ K.n) (hi : k * K.m + i ≤ K.n * K.m) : ((lst K (k * K.m + i)).map toI).length ≤ 256 := by
  rw [List.length_map]
  have h1 := lst_len K (k * K.m + i)
  have h2 := Nat.mul_le_mul ok.n2 ok.m2
  omega
set_option maxHeartbeats 8000000 in
set_option maxRecDepth 100000 in
theorem list_any (h : PA w p K) :
    Calls Try.prog 21 #[.pointer (some ⟨p.d, 0, none⟩)] w fun e w' => (∃ v, e = .returned v ∧ OwnI w' w.heap.size v ((list K).map toI)) ∧ Below w.heap.size w w' := by
  have ok := h.ok
  have b0 := h.box1
  have n16 := ok.n2
  have m16 := ok.m2
  obtain ⟨L, hL⟩ : ∃ L : Nat → Nat → List I3, L = fun k i => (lst K (k * K.m + i)).map toI := ⟨_, rfl⟩
  have L0 : Hid (L 0 0 = []) := Lib.hid (by rw [hL]; show (lst K (0 * K.m + 0)).map toI = []; rw [Nat.zero_mul]; rfl)
  have LM : Hid (∀ k, L k K.m = L (k + 1) 0) := Lib.hid fun k => by rw [hL]; show (lst K (k * K.m + K.m)).map toI = (lst K ((k + 1) * K.m + 0)).map toI; rw [Nat.succ_mul, Nat.add_zero]
  have LE : Hid ((list K).map toI = L K.n 0) := Lib.hid (by rw [hL]; show _ = (lst K (K.n * K.m + 0)).map toI; rw [Nat.add_zero]; rfl)
  have LN : Hid (∀ k i, k < K.n → i ≤ K.m → (L k i).length ≤ 256) := Lib.hid fun k i hk hi => by
    rw [hL]
    refine lst_len' ok (by omega) ?_
    have := Nat.mul_le_mul_right K.m (show k + 1 ≤ K.n by omega)
    rw [Nat.succ_mul] at this
    omega
  have LS : Hid (∀ k i, i < K.m → L k (i + 1) = if taken K k i = true then L k i ++ [((k : Int), (i : Int), (K.gen k i : Int))] else L k i) := Lib.hid fun k i hi => by
    rw [hL]
    show (lst K (k * K.m + i + 1)).map toI = _
    rw [lst_succ K hi]
    split
    · rw [List.map_append]; rfl
    · rfl
  have SH : Hid (∀ (k : Nat) (W : World), k < K.n → Below w.heap.size w W → W.cell? ⟨p.q, 2 * k, none⟩ = some (.slice (some ⟨p.ib k, 0, none⟩) K.m K.m) ∧
      Hid (Calls Try.prog 36 #[.pointer (some ⟨p.d, 0, none⟩), .int .i64 (k : Int)] W fun e w' => e = .returned (.pointer (some ⟨p.q, 2 * k, none⟩)) ∧ W = w')) := Lib.hid fun k W hk hb => ⟨(h.below hb).ixs hk, Lib.hid (pat_in (h.below hb) hk)⟩
  have RR : Hid (∀ (k i : Nat) (W : World) (v : Value), k < K.n → i < K.m → Below w.heap.size w W → OwnI W w.heap.size v (L k i) →
      W.cell? ⟨p.ib k, i * 2, none⟩ = some (.int .i64 (K.gen k i : Int)) ∧ W.cell? ⟨p.ib k, i * 2 + 1, none⟩ = some (.int .i64 (K.bnd k i : Int)) ∧
      ∃ W1, W1 = W.alloc (.cells #[.int .i64 (K.gen k i : Int), .int .i64 (K.bnd k i : Int)] 79) ∧ W1.cell? ⟨W.heap.size, 0, none⟩ = some (.int .i64 (K.gen k i : Int)) ∧ W1.frozen? ⟨W.heap.size, 0, none⟩ = false ∧
      Hid (Calls Try.prog 42 #[.pointer (some ⟨p.q, 2 * k, none⟩), .int .i64 (i : Int)] W1 fun e w' => e = .returned (.bool (taken K k i)) ∧ W1 = w') ∧
      Hid (taken K k i = false → OwnI W1 w.heap.size v (L k (i + 1)) ∧ Below w.heap.size w W1) ∧
      (taken K k i = true → ∃ v' w', Hid ((Builtin.append_ #[40, 40] 40 #[v, .slice (some ⟨W.heap.size + 1, 0, none⟩) 1 1]).run Try.prog (W1.alloc (.cells #[.int .i64 (k : Int), .int .i64 (i : Int), .int .i64 (K.gen k i : Int)] 33)) = .ok v' w') ∧ Hid (OwnI w' w.heap.size v' (L k (i + 1)) ∧ Below w.heap.size w w'))) := by
    refine Lib.hid ?_
    intro k i W v hk hi hb ho
    have hW := h.below hb
    have b1 := bel1 W (.cells #[.int .i64 (K.gen k i : Int), .int .i64 (K.bnd k i : Int)] 79)
    have hb1 : Below w.heap.size w _ := hb.trans (b1.mono hb.size)
    refine ⟨by rw [Nat.mul_comm]; exact (hW.gen_at hk hi).1, by rw [Nat.mul_comm]; exact (hW.bnd_at hk hi).1, _, rfl, (box2 (at1 W _)).1.1, (box2 (at1 W _)).2.1, Lib.hid (taken_in (hW.below b1) hk hi), Lib.hid fun ht => ⟨?_, hb1⟩, fun ht => ?_⟩
    · rw [LS.out k i hi, if_neg (by rw [ht]; decide)]
      exact ho.below b1
    · obtain ⟨v', w', e1, e2, _, _, e3⟩ := push_id _ (ho.below b1) (by have := hb1.size; exact this) (by have := LN.out k i hk (by omega); omega) ((k : Int), (i : Int), (K.gen k i : Int)) 40
      rw [size1] at e1
      refine ⟨v', w', Lib.hid e1, Lib.hid ⟨?_, hb1.trans e3⟩⟩
      rw [LS.out k i hi, if_pos ht]
      exact e2
  rw [LE.out]
  clear h ok LS LE
  generalize K.n = n at *
  generalize hm : K.m = m at *
  clear hm hL
  go_enter Try.func21, Try.ntmps21
  go_wp2
  go_loopw [15, 3] (fun i v wr => ∃ k : Nat, k ≤ n ∧ i = .int .i64 k ∧ Hid (OwnI wr w.heap.size v (L k 0)) ∧ Hid (Below w.heap.size w wr)) (fun i _ _ => n - (intOf i).toNat)
  case atStart => exact ⟨0, Nat.zero_le _, rfl, by rw [L0.out]; exact Lib.hid (rw_nil _ _), Lib.hid (Below.refl _ _)⟩
  case round =>
    obtain ⟨k, hk, rfl, HO, HB⟩ := hrel
    clear b0
    by_cases hkn : k < n
    · obtain ⟨s0, A⟩ := SH.out k wr hkn HB.out
      have t1 : (k : Int) < (n : Int) := by omega
      clear SH
      go_wp2_with (go_at_call 36; refine A.out.mono ?_; rintro e w' ⟨rfl, rfl⟩)
      go_loopw [26, 3] (fun i v wr2 => ∃ j : Nat, j ≤ m ∧ i = .int .i64 j ∧ Hid (OwnI wr2 w.heap.size v (L k j)) ∧ Hid (Below w.heap.size w wr2)) (fun i _ _ => m - (intOf i).toNat)
      case atStart => exact ⟨0, Nat.zero_le _, rfl, HO, HB⟩
      case round =>
        obtain ⟨j, hj, rfl, HO2, HB2⟩ := hrel
        clear HO HB A s0
        by_cases hjm : j < m
        · obtain ⟨g0, g1, W1, hW1, c0, f0, T, HM, HP⟩ := RR.out k j wr _ hkn hjm HB2.out HO2.out
          obtain ⟨A3, c3, rfl⟩ := HO2.out.form
          have t2 : (j : Int) < (m : Int) := by omega
          subst hW1
          clear RR LN LM L0 HO2 HB2
          generalize L k j = lk at *
          generalize K.gen k j = gg at *
          generalize K.bnd k j = bb at *
          cases ht : taken K k j with
          | false =>
            have HM := Lib.hid (HM.out ht)
            rw [ht] at T
            clear HP ht
            go_wp2_with (go_at_call 42; refine T.out.mono ?_; rintro e w' ⟨rfl, rfl⟩)
            go_roundw
            case rel => exact ⟨j + 1, by omega, by go_num, Lib.hid HM.out.1, Lib.hid HM.out.2⟩
            case measure => simp [intOf]; omega
          | true =>
            have HP := Lib.hid (HP ht)
            rw [ht] at T
            clear HM ht
            go_wp2_with (first
              | (go_at_call 42; refine T.out.mono ?_; rintro e w' ⟨rfl, rfl⟩)
              | (at_builtin; obtain ⟨v', w', r, HE⟩ := HP.out; refine wpList_append _ rfl (.tmp 34) (.tmp 40) _ _ rfl _ (.slice (some ⟨_, 0, none⟩) 1 1) rfl rfl _ _ r.out ?_; clear r))
            go_roundw
            case rel => exact ⟨j + 1, by omega, by go_num, Lib.hid HE.out.1, Lib.hid HE.out.2⟩
            case measure => simp [intOf]; omega
        · obtain rfl : j = m := by omega
          have t2 : ¬ (j : Int) < (j : Int) := by omega
          rw [LM.out] at HO2
          clear RR LN LM L0
          go_wp2
          go_roundw
          case rel => exact ⟨k + 1, by omega, by go_num, HO2, HB2⟩
          case measure => simp [intOf]; omega
    · obtain rfl : k = n := by omega
      have t1 : ¬ (k : Int) < (k : Int) := by omega
      clear RR SH LN LM L0
      go_wp2
      go_ret
      exact ⟨⟨_, rfl, HO.out⟩, HB.out⟩
end
end Go.Proofs.Ytdanpdlbbgcidaa
