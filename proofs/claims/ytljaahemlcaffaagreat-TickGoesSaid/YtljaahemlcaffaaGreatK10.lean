/- The code: one more among those that stand there: slices.Insert of one entity. The code: one more among those that stand there, ahead of others: in place, and in a new row. -/
import Derived.Test.YtljaahemlcaffaaGreatK06
import Derived.Test.YtljaahemlcaffaaGreatK09
import Derived.Shelf.Spec.SlicesInsert
import Derived.Lib.AppendZerosOnto
namespace Go.Proofs.YtljaahemlcaffaaGreat
open Go.RowKit Pz Sp
set_option linter.unusedVariables false
set_option linter.unusedSimpArgs false

/-- 'copy' of whole elements: all is read ahead of what is written -/
theorem run_copy_k {P : Program} (w : World) (dT sT ty elem : TypeId) (k b o dLen dCap : Nat) (a : Addr) (sLen sCap m : Nat) (cs : List Value)
    (hu : P.underlying dT = some (.slice elem)) (hs : (P.info? elem).map (·.size) = some k) (hm : m = Nat.min sLen dLen) (hn : cs.length = m * k)
    (hsrc : ∀ j v, cs[j]? = some v → w.cell? (a.add j) = some v) (hc : ∀ j, j < cs.length → (w.cell? ⟨b, o + j, none⟩).isSome = true) (hf : ∀ j, j < cs.length → w.frozen? ⟨b, o + j, none⟩ = false) (h1 : ∀ v ∈ cs, v.oneCell' = true) :
    (Builtin.copy_ #[dT, sT] ty #[.slice (some ⟨b, o, none⟩) dLen dCap, .slice (some a) sLen sCap]).run P w = .ok (goInt m) (w.setCells b o cs) := by
  have hl := run_loadCells_list (P := P) w a cs hsrc
  have hst := run_storeCells_cells (P := P) b o cs 0 w (by simpa using hc) (by simpa using hf) h1
  cases hq : P.info? elem with
  | none => simp [hq] at hs
  | some i =>
    have hi : i.size = k := by simpa [hq] using hs
    rw [hn] at hl
    simp [Builtin.copy_, run_underlying hu, Builtin.lenOf, Builtin.firstCells, sizeOf, typeInfo, hq, hi, ← hm, hl, hst]
/-- a row by its cells -/
theorem rw_of_cells {α : Type} {enc : α → List Value} {T s : Nat} {W : World} {B g o c : Nat} {cur : Array Value} {l : List α} (hB : B ≤ g) (hg : W.heap[g]? = some (.cells cur T (0, 0))) (h1 : l.length ≤ c) (h2 : c ≤ 9223372036854775807) (h3 : o + c * s ≤ cur.size)
    (h4 : ∀ (j : Nat) (x : α), l[j]? = some x → ∀ (e : Nat) (u : Value), (enc x)[e]? = some u → W.cell? ⟨g, o + (j * s + e), none⟩ = some u) : Rw enc T s W B (.slice (some ⟨g, o, none⟩) l.length c) l :=
  .inr ⟨g, o, c, cur, rfl, hB, hg, h1, h2, h3, fun j x hj e u hu => by
    have := h4 j x hj e u hu
    simpa [World.cell?, hg] using this⟩
theorem bn_at {l : List Bn} {j : Nat} {x : Bn} (hj : l[j]? = some x) {e : Nat} (he : e < 11) : (l.flatMap bnE)[j * 11 + e]? = (bnE x)[e]? := flat_at bnE_len l j x hj e he
theorem bn_one (l : List Bn) : ∀ v ∈ l.flatMap bnE, v.oneCell' = true := fun v hv => by
  obtain ⟨x, _, hx⟩ := List.mem_flatMap.1 hv
  exact bnE_one x v hx
/-- cells stored in a row's block: what is read afterwards -/
theorem set_cells {W : World} {g T : Nat} {cur : Array Value} (hg : W.heap[g]? = some (.cells cur T (0, 0))) (vs : List Value) (o : Nat) (hfit : o + vs.length ≤ cur.size) :
    ∃ cur' : Array Value, (W.setCells g o vs).heap[g]? = some (.cells cur' T (0, 0)) ∧ cur'.size = cur.size ∧ (∀ (j : Nat) (v : Value), vs[j]? = some v → (W.setCells g o vs).cell? ⟨g, o + j, none⟩ = some v) ∧ (∀ k, k < o ∨ o + vs.length ≤ k → (W.setCells g o vs).cell? ⟨g, k, none⟩ = W.cell? ⟨g, k, none⟩) ∧ Only (fun k => k = g) W (W.setCells g o vs) := by
  obtain ⟨cur', q1, q2, _, _⟩ := setCells_same g (T := T) vs o W cur hg
  obtain ⟨s1, s2, s3, s4⟩ := setCells_size g vs o W
  have hs : ∀ j, j < vs.length → (W.cell? ⟨g, o + j, none⟩).isSome = true := fun j hj => by
    have : o + j < cur.size := by omega
    simp [World.cell?, hg, this]
  refine ⟨cur', q1, q2, fun j v hj => ?_, fun k hk => World.cell?_setCells_out g vs o W ⟨g, k, none⟩ fun _ _ => hk, ⟨s2, s3, s4, by rw [s1]; exact Nat.le_refl _, fun k _ hk => setCells_other g _ _ _ k hk⟩⟩
  obtain ⟨h1, h2⟩ := List.getElem?_eq_some_iff.1 hj
  rw [World.cell?_setCells_in g vs o W hs j h1, h2]
/-- in place: what is behind is moved on, and the new one stands ahead of it -/
theorem ins_shift {W : World} {B g o n c i : Nat} {l : List Bn} (h : OwnB W B (.slice (some ⟨g, o, none⟩) n c) l) (hn : l.length = n) (hi : i < n) (hc : n + 1 ≤ c) (b : Bn) (V1 V2 : World) (hV1 : V1 = W.setCells g (o + (i + 1) * 11) ((l.drop i).flatMap bnE)) (hV2 : V2 = V1.setCells g (o + i * 11) (bnE b)) :
    OwnB V2 B (.slice (some ⟨g, o, none⟩) (n + 1) c) (l.take i ++ b :: l.drop i) ∧ Only (fun k => k = g) W V2 := by
  subst hn
  rcases h with ⟨e, _⟩ | ⟨g', o', cap, cur, e, q1, q2, q3, q4, q5, q6⟩
  · cases e
  · cases e
    have hdl : ((l.drop i).flatMap bnE).length = (l.length - i) * 11 := by rw [flat_len bnE_len, List.length_drop]
    have hc11 : (l.length + 1) * 11 ≤ c * 11 := Nat.mul_le_mul_right _ hc
    obtain ⟨cur1, a1, a2, a3, a4, a5⟩ := set_cells q2 ((l.drop i).flatMap bnE) (o + (i + 1) * 11) (by rw [hdl]; omega)
    rw [← hV1] at a1 a3 a4 a5
    obtain ⟨cur2, b1, b2, b3, b4, b5⟩ := set_cells a1 (bnE b) (o + i * 11) (by rw [bnE_len, a2]; omega)
    rw [← hV2] at b1 b3 b4 b5
    have hlen : (l.take i ++ b :: l.drop i).length = l.length + 1 := by rw [List.length_append, List.length_cons, List.length_take, List.length_drop]; omega
    refine ⟨?_, ?_⟩
    · rw [← hlen]
      refine rw_of_cells q1 b1 (by omega) q4 (by rw [b2, a2]; exact q5) fun j x hj e u hu => ?_
      have he : e < 11 := (List.getElem?_eq_some_iff.1 hu).1
      rcases Nat.lt_trichotomy j i with hji | hji | hji
      · rw [List.getElem?_append_left (by rw [List.length_take]; omega), List.getElem?_take, if_pos hji] at hj
        rw [b4 _ (.inl (by omega)), a4 _ (.inl (by omega))]
        exact (Bx.cell q2 (q6 j x hj e u hu)).1
      · subst hji
        rw [List.getElem?_append_right (by rw [List.length_take]; omega), List.length_take, Nat.min_eq_left (by omega), Nat.sub_self, List.getElem?_cons_zero] at hj
        have := Option.some.inj hj
        subst this
        rw [← Nat.add_assoc]
        exact b3 e u hu
      · rw [List.getElem?_append_right (by rw [List.length_take]; omega), List.length_take, Nat.min_eq_left (by omega)] at hj
        obtain ⟨d, rfl⟩ : ∃ d, j = i + 1 + d := ⟨j - i - 1, by omega⟩
        rw [show i + 1 + d - i = d + 1 by omega, List.getElem?_cons_succ] at hj
        rw [b4 _ (.inr (by rw [bnE_len]; omega))]
        have h9 := a3 (d * 11 + e) u (by rw [bn_at hj he, hu])
        rw [show o + ((i + 1 + d) * 11 + e) = o + (i + 1) * 11 + (d * 11 + e) by omega]
        exact h9
    · exact a5.trans (b5.more fun k hk => .inl hk)
/-- in a new row: what is ahead, the new one, what is behind -/
theorem ins_new {W : World} {N c i n : Nat} {l : List Bn} {ROW : Array Value} (hn : l.length = n) (hi : i < n) (hg : W.heap[N]? = some (.cells ROW 42 (0, 0))) (hc : n + 1 ≤ c) (hc63 : c ≤ 9223372036854775807) (hsz : c * 11 ≤ ROW.size) (hro : ∀ (j : Nat) (v : Value), ((l.take i).flatMap bnE)[j]? = some v → ROW[j]? = some v) (b : Bn) (V1 V2 : World) (hV1 : V1 = W.setCells N (i * 11) (bnE b)) (hV2 : V2 = V1.setCells N ((i + 1) * 11) ((l.drop i).flatMap bnE)) :
    OwnB V2 N (.slice (some ⟨N, 0, none⟩) (n + 1) c) (l.take i ++ b :: l.drop i) ∧ Only (fun k => k = N) W V2 := by
  subst hn
  have hdl : ((l.drop i).flatMap bnE).length = (l.length - i) * 11 := by rw [flat_len bnE_len, List.length_drop]
  have hc11 : (l.length + 1) * 11 ≤ c * 11 := Nat.mul_le_mul_right _ hc
  obtain ⟨cur1, a1, a2, a3, a4, a5⟩ := set_cells hg (bnE b) (i * 11) (by rw [bnE_len]; omega)
  rw [← hV1] at a1 a3 a4 a5
  obtain ⟨cur2, b1, b2, b3, b4, b5⟩ := set_cells a1 ((l.drop i).flatMap bnE) ((i + 1) * 11) (by rw [hdl, a2]; omega)
  rw [← hV2] at b1 b3 b4 b5
  have hlen : (l.take i ++ b :: l.drop i).length = l.length + 1 := by rw [List.length_append, List.length_cons, List.length_take, List.length_drop]; omega
  refine ⟨?_, ?_⟩
  · rw [← hlen]
    refine rw_of_cells (Nat.le_refl _) b1 (by omega) hc63 (by rw [b2, a2, Nat.zero_add]; exact hsz) fun j x hj e u hu => ?_
    have he : e < 11 := (List.getElem?_eq_some_iff.1 hu).1
    rw [Nat.zero_add]
    rcases Nat.lt_trichotomy j i with hji | hji | hji
    · rw [List.getElem?_append_left (by rw [List.length_take]; omega)] at hj
      rw [b4 _ (.inl (by omega)), a4 _ (.inl (by omega))]
      exact (Bx.cell hg (hro (j * 11 + e) u (by rw [bn_at hj he, hu]))).1
    · subst hji
      rw [List.getElem?_append_right (by rw [List.length_take]; omega), List.length_take, Nat.min_eq_left (by omega), Nat.sub_self, List.getElem?_cons_zero] at hj
      have := Option.some.inj hj
      subst this
      rw [b4 _ (.inl (by omega))]
      exact a3 e u hu
    · rw [List.getElem?_append_right (by rw [List.length_take]; omega), List.length_take, Nat.min_eq_left (by omega)] at hj
      obtain ⟨d, rfl⟩ : ∃ d, j = i + 1 + d := ⟨j - i - 1, by omega⟩
      rw [show i + 1 + d - i = d + 1 by omega, List.getElem?_cons_succ] at hj
      have h9 := b3 (d * 11 + e) u (by rw [bn_at hj he, hu])
      rw [show (i + 1 + d) * 11 + e = (i + 1) * 11 + (d * 11 + e) by omega]
      exact h9
  · exact a5.trans (b5.more fun k hk => .inl hk)
theorem bn_cells {W : World} {vb : Nat} {b : Bn} (hv : W.heap[vb]? = some (.cells (bnE b).toArray 42 (0, 0))) : ∀ (j : Nat) (v : Value), (bnE b)[j]? = some v → W.cell? ⟨vb, j, none⟩ = some v := fun j v hj => (Bx.cell hv (by simpa using hj)).1
set_option maxHeartbeats 8000000 in
set_option maxRecDepth 100000 in
/-- at the end -/
theorem cins_end {w W : World} {L : List Piece} {A : Option Addr} {c n vb : Nat} {l : List Bn} (H : Sep w (rowB (.slice A n c) l :: L) W) (hn : l.length = n) (hl : n + 1 ≤ 900000) (b : Bn) (hv : W.heap[vb]? = some (.cells (bnE b).toArray 42 (0, 0))) :
    Calls Tryz.prog 94 #[.slice A n c, .int .i64 n, .slice (some ⟨vb, 0, none⟩) 1 1] W fun e V => ∃ A' c', e = .returned (.slice A' (n + 1) c') ∧ Sep w (rowB (.slice A' (n + 1) c') (l ++ [b]) :: L) V := by
  obtain ⟨G, ⟨h1, h2⟩, h3, next⟩ := H.one
  obtain ⟨v', V, hr, ho, hg, hb⟩ := h1.app (P := Tryz.prog) (t := 24) (ty := 24) Tryz.underlying24 bundle_info rfl (by decide) bnE_len bnE_one (Nat.zero_le _) [b] ⟨vb, 0, none⟩ 1 (fun j x hj e u hu => by
    have h0 : j = 0 := by have := (List.getElem?_eq_some_iff.1 hj).1; simp at this; exact this
    subst h0
    have := Option.some.inj hj
    subst this
    rw [Addr.add_mid, Nat.zero_mul, Nat.zero_add, Nat.zero_add]
    exact bn_cells hv e u hu) (by rw [hn]; simp; omega) (by decide) (.inl (by simp))
  obtain ⟨A', c', rfl⟩ := ho.form
  have el : (l ++ [b]).length = n + 1 := by rw [List.length_append, hn]; rfl
  rw [el] at hr ho hb
  have FIN := Lib.hid (next V (rowB (.slice A' (n + 1) c') (l ++ [b])) (fun k => (Value.slice A' (n + 1) c').ownBlock = some k) ⟨hg.os, hg.tape, hg.output, hg.size, fun k hk hn' => hg.block k hk fun e => hn' ((h2 k).2 e.symm)⟩ ⟨ho.base (Nat.zero_le _), fun k => Iff.rfl⟩ fun k hk => (hb k hk).imp (fun e => (h2 k).2 e) id)
  have HR : Hid ((Builtin.append_ #[24, 24] 24 #[.slice A n c, .slice (some ⟨vb, 0, none⟩) 1 1]).run Tryz.prog W = .ok (.slice A' (n + 1) c') V) := Lib.hid hr
  have hform : (A = none ∧ n = 0 ∧ c = 0) ∨ ∃ g o, A = some ⟨g, o, none⟩ ∧ n ≤ c ∧ c ≤ 9223372036854775807 := by
    rcases h1 with ⟨e, e2⟩ | ⟨g, o, cap, cur, e, _, _, q3, q4, _⟩
    · cases e; exact .inl ⟨rfl, rfl, rfl⟩
    · cases e; exact .inr ⟨g, o, rfl, by omega, q4⟩
  clear h1 h2 h3 next hr ho hg hb H hv el
  replace hn := Lib.hid hn
  rcases hform with ⟨rfl, rfl, rfl⟩ | ⟨g, o, rfl, hnc, hc63⟩
  · go_enter Tryz.func94, Tryz.ntmps94
    go_wp2_with (at_builtin; refine wpList_append _ rfl (.tmp 23) (.tmp 24) _ _ rfl _ _ rfl rfl _ _ HR.out ?_)
    go_ret
    exact ⟨_, _, rfl, FIN.out⟩
  · by_cases hcn : c = n
    · subst hcn
      go_enter Tryz.func94, Tryz.ntmps94
      go_wp2_with (at_builtin; refine wpList_append _ rfl (.tmp 23) (.tmp 24) _ _ rfl _ _ rfl rfl _ _ HR.out ?_)
      go_ret
      exact ⟨_, _, rfl, FIN.out⟩
    · go_enter Tryz.func94, Tryz.ntmps94
      go_wp2_with (at_builtin; refine wpList_append _ rfl (.tmp 23) (.tmp 24) _ _ rfl _ _ rfl rfl _ _ HR.out ?_)
      go_ret
      exact ⟨_, _, rfl, FIN.out⟩
end Go.Proofs.YtljaahemlcaffaaGreat
namespace Go.Proofs.YtljaahemlcaffaaGreat
open Go.RowKit Pz Sp
set_option linter.unusedVariables false
set_option linter.unusedSimpArgs false

theorem bundle_size : (Tryz.prog.info? 42).map (·.size) = some 11 := by kernel_rfl
set_option maxHeartbeats 8000000 in
set_option maxRecDepth 100000 in
theorem cins_shift {w W : World} {L : List Piece} {g o c n i vb m : Nat} {l : List Bn} (H : Sep w (rowB (.slice (some ⟨g, o, none⟩) n c) l :: L) W) (hn : l.length = n) (hl : n + 1 ≤ 900000) (hi : i < n) (hm : m = 1) (hroom : n + m ≤ c) (b : Bn) (hv : W.heap[vb]? = some (.cells (bnE b).toArray 42 (0, 0))) (hvb : vb ≠ g) :
    Calls Tryz.prog 94 #[.slice (some ⟨g, o, none⟩) n c, .int .i64 i, .slice (some ⟨vb, 0, none⟩) m m] W fun e V => e = .returned (.slice (some ⟨g, o, none⟩) (n + m) c) ∧ Sep w (rowB (.slice (some ⟨g, o, none⟩) (n + 1) c) (l.take i ++ b :: l.drop i) :: L) V := by
  obtain ⟨G, ⟨h1, h2⟩, h3, next⟩ := H.one
  obtain ⟨cur, q2, q3, q4, q5, q6⟩ : ∃ cur, W.heap[g]? = some (.cells cur 42 (0, 0)) ∧ n ≤ c ∧ c ≤ 9223372036854775807 ∧ o + c * 11 ≤ cur.size ∧ ∀ (j : Nat) (x : Bn), l[j]? = some x → ∀ (e : Nat) (u : Value), (bnE x)[e]? = some u → cur[o + (j * 11 + e)]? = some u := by
    rcases h1 with ⟨e, _⟩ | ⟨_, _, _, cur, e, _, q2, q3, q4, q5, q6⟩
    · cases e
    · cases e; exact ⟨cur, q2, by omega, q4, q5, q6⟩
  have FIN : Hid (∀ V, V = (W.drew.setCells g (o + (i + m) * 11) ((l.drop i).flatMap bnE)).setCells g (o + i * 11) (bnE b) → Sep w (rowB (.slice (some ⟨g, o, none⟩) (n + 1) c) (l.take i ++ b :: l.drop i) :: L) V) := Lib.hid fun V hV => by
    subst hm
    have h4 : OwnB W.drew 0 (.slice (some ⟨g, o, none⟩) n c) l := h1.kept fun _ _ => rfl
    obtain ⟨k1, k2⟩ := ins_shift h4 hn hi hroom b _ V rfl hV
    exact next V (rowB _ _) (fun k => (Value.slice (some ⟨g, o, none⟩) (n + 1) c).ownBlock = some k) ⟨k2.os, k2.tape, k2.output, k2.size, fun k hk hn' => k2.block k hk fun e => hn' ((h2 k).2 (by rw [e]; rfl))⟩ ⟨k1, fun k => Iff.rfl⟩ fun k hk => .inl ((h2 k).2 hk)
  have hc11 : (n + 1) * 11 ≤ c * 11 := Nat.mul_le_mul_right _ (by omega)
  have hz1 : ¬ ((m : Int) = 0) := by omega
  have hz2 : ¬ ((i : Int) = (n : Int)) := by omega
  have hw1 : IntKind.i64.wrap ((i : Int) + (m : Int)) = (i : Int) + (m : Int) := by rw [IntKind.wrap_i64]; omega
  have hb1 : (0 : Int) ≤ (i : Int) + (m : Int) := by omega
  have hin : i ≤ n := by omega
  have htn : ((i : Int) + (m : Int)).toNat = i + m := by omega
  have hb2 : ¬ (c = i + m) := by omega
  have hb3 : (i : Int) ≤ (n : Int) + (m : Int) := by omega
  have hb4 : ¬ (c = i) := by omega
  have lg := Bx.lt q2
  have hov : ∀ lb cb, (callFunc 111 #[.slice (some ⟨vb, 0, none⟩) m m, .slice (some ⟨g, o + (i + m) * 11, none⟩) lb cb]).run Tryz.prog W = .ok (.value (.bool false)) W := fun lb cb => by
    rw [run_callFunc_extern Tryz.func111 (by kernel_rfl) (by kernel_rfl) (by kernel_rfl) (e := Extern.SlicesOverlaps.overlaps #[24, 24] #[4]) (by kernel_rfl),
      Lib.run_overlaps_apart W 24 4 42 Tryz.underlying24 11 (fun _ => by kernel_rfl) ⟨vb, 0, none⟩ ⟨g, o + (i + m) * 11, none⟩ m m lb cb hvb 42 42 11 cur.size (by simp [World.shape?, hv]) (by simp [World.shape?, q2]) (by omega) (by simp [World.frozen?, hv]) (by simp [World.frozen?, hv])]
    rfl
  have hdl : ((l.drop i).flatMap bnE).length = (n - i) * 11 := by rw [flat_len bnE_len, List.length_drop, hn]
  have hsome : ∀ j, j < (n + 1) * 11 → (W.cell? ⟨g, o + j, none⟩).isSome = true := fun j hj => by
    have : o + j < cur.size := by omega
    simp [World.cell?, q2, this]
  have hcs : ∀ (j : Nat) (v : Value), ((l.drop i).flatMap bnE)[j]? = some v → W.cell? ⟨g, o + i * 11 + j, none⟩ = some v := fun j v hj => by
    obtain ⟨k, x, e, e1, e2, rfl⟩ := flat_inv bnE_len _ j v hj
    rw [List.getElem?_drop] at e1
    rw [show o + i * 11 + (k * 11 + e) = o + ((i + k) * 11 + e) by omega]
    exact (Bx.cell q2 (q6 (i + k) x e1 e v e2)).1
  have hfz : ∀ k, W.frozen? ⟨g, k, none⟩ = false := fun k => by simp [World.frozen?, q2]
  have hcp1 : ∀ ty dc sc, (Builtin.copy_ #[24, 24] ty #[.slice (some ⟨g, o + (i + m) * 11, none⟩) (n + m - (i + m)) dc, .slice (some ⟨g, o + i * 11, none⟩) (n + m - i) sc]).run Tryz.prog W.drew = .ok (goInt ((n - i : Nat) : Int)) (W.drew.setCells g (o + (i + m) * 11) ((l.drop i).flatMap bnE)) := fun ty dc sc =>
    run_copy_k W.drew _ _ ty 42 11 g (o + (i + m) * 11) (n + m - (i + m)) dc ⟨g, o + i * 11, none⟩ (n + m - i) sc (n - i) _ Tryz.underlying24 bundle_size (by simp only [Nat.min_def]; split <;> omega) hdl
      (fun j v hj => by rw [Addr.add_lit]; exact hcs j v hj)
      (fun j hj => by rw [hdl] at hj; rw [Nat.add_assoc]; exact hsome _ (by subst hm; omega)) (fun j hj => hfz _) (bn_one _)
  obtain ⟨W1, hW1⟩ : ∃ W1, W1 = W.drew.setCells g (o + (i + m) * 11) ((l.drop i).flatMap bnE) := ⟨_, rfl⟩
  have hsp1 : ∀ k, k < (n + 1) * 11 → (W1.cell? ⟨g, o + k, none⟩).isSome = true := fun k hk => by
    rw [hW1]
    exact isSome_setCells g _ _ _ (fun j hj => by rw [hdl] at hj; rw [Nat.add_assoc]; exact hsome _ (by subst hm; omega)) _ (hsome k hk)
  have hcp2 : ∀ (V : World), (∀ x, V.cell? x = W1.cell? x) → (∀ x, V.frozen? x = W1.frozen? x) → ∀ ty dc, (Builtin.copy_ #[24, 24] ty #[.slice (some ⟨g, o + i * 11, none⟩) (n + m - i) dc, .slice (some ⟨vb, 0, none⟩) m m]).run Tryz.prog V = .ok (goInt m) (V.setCells g (o + i * 11) (bnE b)) := fun V hVc hVf ty dc =>
    run_copy_k V _ _ ty 42 11 g (o + i * 11) (n + m - i) dc ⟨vb, 0, none⟩ m m m (bnE b) Tryz.underlying24 bundle_size (by simp only [Nat.min_def]; split <;> omega) (by rw [hm]; rfl)
      (fun j v hj => by
        rw [Addr.add_lit, hVc, hW1, World.cell?_setCells_out g _ _ _ _ (fun h _ => absurd h hvb), Nat.zero_add]
        exact bn_cells hv j v hj)
      (fun j hj => by rw [hVc, Nat.add_assoc]; exact hsp1 _ (by rw [bnE_len] at hj; omega)) (fun j hj => by rw [hVf, hW1, World.frozen?_setCells]; exact hfz _) (bnE_one b)
  rw [← hW1] at hcp1 FIN
  generalize (l.drop i).flatMap bnE = cs at *
  clear hcs hsome hsp1 hfz h1 h2 h3 next q6 q5 H hv hdl q2 hc11
  replace hm := Lib.hid hm
  replace hn := Lib.hid hn
  replace hW1 := Lib.hid hW1
  go_enter Tryz.func94, Tryz.ntmps94
  go_wp2_with (simp only [hov])
  go_region_law (refine step_copy_runI rfl _ _ 24 24 rfl _ _ (by simp [Act.eval, Act.put]) (by simp [Act.eval, Act.put]) (hcp1 _ _ _) ?_)
  go_wp2_with (at_builtin; refine wpList_copy_runI _ rfl _ _ 24 24 rfl _ _ rfl rfl (hcp2 _ (fun _ => rfl) (fun _ => rfl) _ _) ?_)
  go_ret
  exact ⟨rfl, FIN.out _ rfl⟩
end Go.Proofs.YtljaahemlcaffaaGreat
